/- FnExactSameBytes: the law's walk, over what the program returns. -/
import Derived.Test.YtoibghcemmgomaaSameSpec
import Derived.Below
namespace Go.Proofs.Ytoibghcemmgomaa
open Go.RowKit

theorem below_drewN {B : Nat} (w : World) (m : Nat) : Below B w (w.drewN m) := ⟨rfl, rfl, rfl, Nat.le_refl _, fun _ _ => rfl⟩
theorem specSame_below (a b : ByteArray) (w : World) (ha : a.size ≤ 100000000) :
    Calls Try.prog 4 #[.string a, .string b] w fun e w' => e = .returned (.bool (decide (a = b))) ∧ Below w.heap.size w w' :=
  (specSame_any a b w ha).mono fun e w' ⟨he, m, hw⟩ => ⟨he, by rw [hw]; exact below_drewN w m⟩

set_option maxHeartbeats 400000 in
theorem same_law_of (a : ByteArray) (b : ByteArray) (w : World)
    (h2 : a.size ≤ 1048576 → b.size ≤ 1048576 → ∀ w, Calls Try.prog 5 #[.string a, .string b] w fun e w' => e = .returned (.bool (decide (a = b))) ∧ Below w.heap.size w w') :
    Calls Try.prog 3 #[.string a, .string b] w fun e w' => e = .returned (.bool true) ∧ Below w.heap.size w w' := by
  by_cases ha : a.size ≤ 1048576
  · skip
    by_cases hb : b.size ≤ 1048576
    · skip
      have k1 := Lib.hid fun w => specSame_below a b w (by omega)
      have k2 := Lib.hid (h2 ha hb)
      clear h2
      generalize decide (a = b) = r at k1 k2
      go_enter Try.func3, Try.ntmps3
      go_wp2_with (first
        | (go_at_call 4; refine (k1.out _).mono ?_; rintro e w1 ⟨rfl, hb1⟩)
        | (go_at_call 5; refine (k2.out _).mono ?_; rintro e w2 ⟨rfl, hb2⟩))
      go_ret
      exact ⟨rfl, hb1.trans (hb2.mono hb1.size)⟩
    · have hn : 1048576 < b.size := by omega
      go_enter Try.func3, Try.ntmps3
      go_wp2
      go_ret
      exact ⟨rfl, Below.refl _ _⟩
  · have hn : 1048576 < a.size := by omega
    go_enter Try.func3, Try.ntmps3
    go_wp2
    go_ret
    exact ⟨rfl, Below.refl _ _⟩

end Go.Proofs.Ytoibghcemmgomaa
