/- GeoOk of the model: whether a layout is valid. -/
import Derived.Test.YtmcelfiljnlmoaaGeo
namespace Go.Proofs.Ytmcelfiljnlmoaa
open Go.RowKit

set_option maxRecDepth 100000 in
set_option maxHeartbeats 400000 in
theorem specIn_any (n a b : Int) (w : World) : Calls Try.prog 64 #[.int .i64 n, .int .i64 a, .int .i64 b] w fun e w' => e = .returned (.bool (decide (a ≤ n ∧ n ≤ b))) ∧ w' = w := by
  by_cases h1 : a ≤ n <;> by_cases h2 : n ≤ b
  all_goals
    go_enter Try.func64, Try.ntmps64
    go_wp2
    all_goals go_ret
    all_goals exact ⟨by simp [h1, h2], rfl⟩
theorem specIn_yes {n a b : Int} (w : World) (h : a ≤ n ∧ n ≤ b) : Calls Try.prog 64 #[.int .i64 n, .int .i64 a, .int .i64 b] w fun e w' => e = .returned (.bool true) ∧ w' = w :=
  (specIn_any n a b w).mono fun _ _ ⟨he, hw⟩ => ⟨by rw [he, decide_eq_true h], hw⟩
theorem specIn_no {n a b : Int} (w : World) (h : ¬ (a ≤ n ∧ n ≤ b)) : Calls Try.prog 64 #[.int .i64 n, .int .i64 a, .int .i64 b] w fun e w' => e = .returned (.bool false) ∧ w' = w :=
  (specIn_any n a b w).mono fun _ _ ⟨he, hw⟩ => ⟨by rw [he, decide_eq_false h], hw⟩

set_option maxRecDepth 100000 in
set_option maxHeartbeats 1000000 in
theorem specGeo_yes (T P I Q : Int) (w : World) (h : GeoR T P I Q) : Calls Try.prog 45 #[.agg #[.int .i64 T, .int .i64 P, .int .i64 I, .int .i64 Q]] w (SaysB true w) := by
  obtain ⟨a1, a2, b1, b2, c1, c2, d1, d2⟩ := h
  have H1 : (1 : Int) ≤ T ∧ T ≤ 3 := ⟨a1, a2⟩
  have H2 : (5 : Int) ≤ P ∧ P ≤ 12 := ⟨b1, b2⟩
  have H3 : (2 : Int) ≤ I ∧ I ≤ 6 := ⟨c1, c2⟩
  have H4 : (1 : Int) ≤ Q ∧ Q ≤ P - 4 := ⟨d1, d2⟩
  go_enter Try.func45, Try.ntmps45
  go_wp2_with (first | ((with_reducible refine (specIn_yes _ H1).mono ?_); rintro e w1 ⟨rfl, rfl⟩) | ((with_reducible refine (specIn_yes _ H2).mono ?_); rintro e w1 ⟨rfl, rfl⟩) | ((with_reducible refine (specIn_yes _ H3).mono ?_); rintro e w1 ⟨rfl, rfl⟩) | ((with_reducible refine (specIn_yes _ H4).mono ?_); rintro e w1 ⟨rfl, rfl⟩))
  go_ret
  exact ⟨rfl, below_al w _⟩
set_option maxRecDepth 100000 in
set_option maxHeartbeats 1000000 in
theorem specGeo_no (T P I Q : Int) (w : World) (h : ¬ GeoR T P I Q) : Calls Try.prog 45 #[.agg #[.int .i64 T, .int .i64 P, .int .i64 I, .int .i64 Q]] w (SaysB false w) := by
  rcases geo_cases h with H1 | ⟨H1, H2⟩ | ⟨H1, H2, H3⟩ | ⟨H1, H2, H3, H4⟩
  · go_enter Try.func45, Try.ntmps45
    go_wp2_with ((with_reducible refine (specIn_no _ H1).mono ?_); rintro e w1 ⟨rfl, rfl⟩)
    go_ret
    exact ⟨rfl, below_al w _⟩
  · go_enter Try.func45, Try.ntmps45
    go_wp2_with (first | ((with_reducible refine (specIn_yes _ H1).mono ?_); rintro e w1 ⟨rfl, rfl⟩) | ((with_reducible refine (specIn_no _ H2).mono ?_); rintro e w1 ⟨rfl, rfl⟩))
    go_ret
    exact ⟨rfl, below_al w _⟩
  · go_enter Try.func45, Try.ntmps45
    go_wp2_with (first | ((with_reducible refine (specIn_yes _ H1).mono ?_); rintro e w1 ⟨rfl, rfl⟩) | ((with_reducible refine (specIn_yes _ H2).mono ?_); rintro e w1 ⟨rfl, rfl⟩) | ((with_reducible refine (specIn_no _ H3).mono ?_); rintro e w1 ⟨rfl, rfl⟩))
    go_ret
    exact ⟨rfl, below_al w _⟩
  · obtain ⟨b1, b2⟩ := H2
    have H2 : (5 : Int) ≤ P ∧ P ≤ 12 := ⟨b1, b2⟩
    go_enter Try.func45, Try.ntmps45
    go_wp2_with (first | ((with_reducible refine (specIn_yes _ H1).mono ?_); rintro e w1 ⟨rfl, rfl⟩) | ((with_reducible refine (specIn_yes _ H2).mono ?_); rintro e w1 ⟨rfl, rfl⟩) | ((with_reducible refine (specIn_yes _ H3).mono ?_); rintro e w1 ⟨rfl, rfl⟩) | ((with_reducible refine (specIn_no _ H4).mono ?_); rintro e w1 ⟨rfl, rfl⟩))
    go_ret
    exact ⟨rfl, below_al w _⟩
end Go.Proofs.Ytmcelfiljnlmoaa
