/- Whether an index is one of a list. -/
import Derived.Test.YtmcelfiljnlmoaaGeo
namespace Go.Proofs.Ytmcelfiljnlmoaa
open Go.RowKit

set_option maxRecDepth 100000 in
set_option maxHeartbeats 400000 in
theorem implIdx_any (n b : Int) (w : World) : Calls Try.prog 80 #[.int .i64 n, .int .i64 b] w fun e w' => e = .returned (.bool (decide (0 ≤ n ∧ n < b))) ∧ w' = w := by
  by_cases h1 : 0 ≤ n <;> by_cases h2 : n < b
  all_goals
    go_enter Try.func80, Try.ntmps80
    go_wp2
    all_goals go_ret
    all_goals exact ⟨by simp [h1, h2], rfl⟩
theorem implIdx_yes {n b : Int} (w : World) (h : 0 ≤ n ∧ n < b) : Calls Try.prog 80 #[.int .i64 n, .int .i64 b] w fun e w' => e = .returned (.bool true) ∧ w' = w :=
  (implIdx_any n b w).mono fun _ _ ⟨he, hw⟩ => ⟨by rw [he, decide_eq_true h], hw⟩
theorem implIdx_no {n b : Int} (w : World) (h : ¬ (0 ≤ n ∧ n < b)) : Calls Try.prog 80 #[.int .i64 n, .int .i64 b] w fun e w' => e = .returned (.bool false) ∧ w' = w :=
  (implIdx_any n b w).mono fun _ _ ⟨he, hw⟩ => ⟨by rw [he, decide_eq_false h], hw⟩
end Go.Proofs.Ytmcelfiljnlmoaa
