/- GeoOk of the program: whether a layout is valid. -/
import Derived.Test.YtmcelfiljnlmoaaGeo
import Derived.Test.YtmcelfiljnlmoaaRangeImpl
namespace Go.Proofs.Ytmcelfiljnlmoaa
open Go.RowKit

set_option maxRecDepth 100000 in
set_option maxHeartbeats 1000000 in
theorem implGeo_yes (T P I Q : Int) (w : World) (h : GeoR T P I Q) : Calls Try.prog 46 #[.agg #[.int .i64 T, .int .i64 P, .int .i64 I, .int .i64 Q]] w (SaysB true w) := by
  obtain ⟨a1, a2, b1, b2, c1, c2, d1, d2⟩ := h
  have H1 : (1 : Int) ≤ T ∧ T ≤ 3 := ⟨a1, a2⟩
  have H2 : (5 : Int) ≤ P ∧ P ≤ 12 := ⟨b1, b2⟩
  have H3 : (2 : Int) ≤ I ∧ I ≤ 6 := ⟨c1, c2⟩
  have H4 : (1 : Int) ≤ Q ∧ Q ≤ P - 4 := ⟨d1, d2⟩
  go_enter Try.func46, Try.ntmps46
  go_wp2_with (first | ((with_reducible refine (implIn_yes _ H1).mono ?_); rintro e w1 ⟨rfl, rfl⟩) | ((with_reducible refine (implIn_yes _ H2).mono ?_); rintro e w1 ⟨rfl, rfl⟩) | ((with_reducible refine (implIn_yes _ H3).mono ?_); rintro e w1 ⟨rfl, rfl⟩) | ((with_reducible refine (implIn_yes _ H4).mono ?_); rintro e w1 ⟨rfl, rfl⟩))
  go_ret
  exact ⟨rfl, below_al w _⟩
set_option maxRecDepth 100000 in
set_option maxHeartbeats 1000000 in
theorem implGeo_no (T P I Q : Int) (w : World) (h : ¬ GeoR T P I Q) : Calls Try.prog 46 #[.agg #[.int .i64 T, .int .i64 P, .int .i64 I, .int .i64 Q]] w (SaysB false w) := by
  rcases geo_cases h with H1 | ⟨H1, H2⟩ | ⟨H1, H2, H3⟩ | ⟨H1, H2, H3, H4⟩
  · go_enter Try.func46, Try.ntmps46
    go_wp2_with ((with_reducible refine (implIn_no _ H1).mono ?_); rintro e w1 ⟨rfl, rfl⟩)
    go_ret
    exact ⟨rfl, below_al w _⟩
  · go_enter Try.func46, Try.ntmps46
    go_wp2_with (first | ((with_reducible refine (implIn_yes _ H1).mono ?_); rintro e w1 ⟨rfl, rfl⟩) | ((with_reducible refine (implIn_no _ H2).mono ?_); rintro e w1 ⟨rfl, rfl⟩))
    go_ret
    exact ⟨rfl, below_al w _⟩
  · go_enter Try.func46, Try.ntmps46
    go_wp2_with (first | ((with_reducible refine (implIn_yes _ H1).mono ?_); rintro e w1 ⟨rfl, rfl⟩) | ((with_reducible refine (implIn_yes _ H2).mono ?_); rintro e w1 ⟨rfl, rfl⟩) | ((with_reducible refine (implIn_no _ H3).mono ?_); rintro e w1 ⟨rfl, rfl⟩))
    go_ret
    exact ⟨rfl, below_al w _⟩
  · obtain ⟨b1, b2⟩ := H2
    have H2 : (5 : Int) ≤ P ∧ P ≤ 12 := ⟨b1, b2⟩
    go_enter Try.func46, Try.ntmps46
    go_wp2_with (first | ((with_reducible refine (implIn_yes _ H1).mono ?_); rintro e w1 ⟨rfl, rfl⟩) | ((with_reducible refine (implIn_yes _ H2).mono ?_); rintro e w1 ⟨rfl, rfl⟩) | ((with_reducible refine (implIn_yes _ H3).mono ?_); rintro e w1 ⟨rfl, rfl⟩) | ((with_reducible refine (implIn_no _ H4).mono ?_); rintro e w1 ⟨rfl, rfl⟩))
    go_ret
    exact ⟨rfl, below_al w _⟩
end Go.Proofs.Ytmcelfiljnlmoaa
