/- FnExactPadText: the law's walk. -/
import Derived.Test.YteohmifmfgbmaaaPadImpl
namespace Go.Proofs.Yteohmifmfgbmaaa.Pad
open Go.RowKit

set_option maxHeartbeats 400000 in
theorem pad_law (s : ByteArray) (w : World) :
    Calls Try.prog 3 #[.string s] w fun e w' => e = .returned (.bool true) ∧ Below w.heap.size w w' := by
  by_cases h : s.size ≤ 1048576
  · have k1 := Lib.hid fun w => spec_any s w h
    have k2 := Lib.hid fun w => impl_any s w h
    go_enter Try.func3, Try.ntmps3
    go_wp2_with (first
      | (go_at_call 4; refine (k1.out _).mono ?_; rintro e w1 ⟨rfl, hb1⟩)
      | (go_at_call 5; refine (k2.out _).mono ?_; rintro e w2 ⟨rfl, hb2⟩))
    go_ret
    exact ⟨rfl, hb1.trans (hb2.mono hb1.size)⟩
  · have hn : 1048576 < s.size := by omega
    go_enter Try.func3, Try.ntmps3
    go_wp2
    go_ret
    exact ⟨rfl, Below.refl _ _⟩
end Go.Proofs.Yteohmifmfgbmaaa.Pad
