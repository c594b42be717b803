/- FnExactBoxText, FnExactShiftRows: the laws' walks. -/
import Derived.Test.YtepnnmckbcomjaaAesBox
import Derived.Test.YtepnnmckbcomjaaBoxesSpec
import Derived.Test.YtepnnmckbcomjaaShiftSpec
import Derived.Test.YtepnnmckbcomjaaBoxTextImpl
import Derived.Test.YtepnnmckbcomjaaShiftImpl
namespace Go.Proofs.Ytepnnmckbcomjaa
open Go.RowKit Go.Proofs.Ytepnnmckbcomjaa.Hexa Go.Proofs.Ytepnnmckbcomjaa.Byt Go.Proofs.Ytepnnmckbcomjaa.Aes

set_option maxHeartbeats 400000 in
theorem specBoxText_any (s : ByteArray) (w : World) (hs : s.size ≤ 8000000) :
    Calls Try.prog 11 #[.string s] w fun e w' => e = .returned (.string ⟨(boxL s.data.toList).toArray⟩) ∧ Below w.heap.size w w' := by
  have k1 := Lib.hid fun w => specBoxes_any w
  have k2 := Lib.hid fun w => specBoxed_any s w hs
  go_enter Try.func11, Try.ntmps11
  go_wp2_with fail
  refine (k1.out _).mono ?_
  rintro e w1 ⟨rfl, hb1⟩
  go_wp2_with fail
  refine (k2.out _).mono ?_
  rintro e w2 ⟨rfl, hb2⟩
  go_wp2
  go_ret
  exact ⟨rfl, hb1.trans (hb2.mono hb1.size)⟩

set_option maxHeartbeats 400000 in
theorem boxText_law (s : ByteArray) (w : World) :
    Calls Try.prog 4 #[.string s] w fun e w' => e = .returned (.bool true) ∧ Below w.heap.size w w' := by
  by_cases ha : s.size ≤ 1048576
  · have k1 := Lib.hid fun w => specBoxText_any s w (by omega)
    have k2 := Lib.hid fun w => implBoxText_any s w (by omega)
    go_enter Try.func4, Try.ntmps4
    go_wp2_with (first
      | (go_at_call 11; refine (k1.out _).mono ?_; rintro e w1 ⟨rfl, hb1⟩)
      | (go_at_call 12; refine (k2.out _).mono ?_; rintro e w2 ⟨rfl, hb2⟩))
    go_ret
    exact ⟨rfl, hb1.trans (hb2.mono hb1.size)⟩
  · have hn : 1048576 < s.size := by omega
    go_enter Try.func4, Try.ntmps4
    go_wp2
    go_ret
    exact ⟨rfl, Below.refl _ _⟩

set_option maxHeartbeats 400000 in
theorem shiftRows_law (s : ByteArray) (w : World) :
    Calls Try.prog 5 #[.string s] w fun e w' => e = .returned (.bool true) ∧ Below w.heap.size w w' := by
  by_cases ha : s.size ≤ 1048576
  · have hk : ∃ t, (∀ w, Calls Try.prog 13 #[.string s] w fun e w' => e = .returned (.string t) ∧ Below w.heap.size w w') ∧
        ∀ w, Calls Try.prog 14 #[.string s] w fun e w' => e = .returned (.string t) ∧ Below w.heap.size w w' := by
      by_cases h : s.size = 16
      · exact ⟨_, fun w => specShift_yes s w h, fun w => implShift_yes s w h⟩
      · exact ⟨_, fun w => specShift_no s w h, fun w => implShift_no s w h⟩
    obtain ⟨t, h1, h2⟩ := hk
    have k1 := Lib.hid h1
    have k2 := Lib.hid h2
    clear h1 h2
    go_enter Try.func5, Try.ntmps5
    go_wp2_with (first
      | (go_at_call 13; refine (k1.out _).mono ?_; rintro e w1 ⟨rfl, hb1⟩)
      | (go_at_call 14; refine (k2.out _).mono ?_; rintro e w2 ⟨rfl, hb2⟩))
    go_ret
    exact ⟨rfl, hb1.trans (hb2.mono hb1.size)⟩
  · have hn : 1048576 < s.size := by omega
    go_enter Try.func5, Try.ntmps5
    go_wp2
    go_ret
    exact ⟨rfl, Below.refl _ _⟩
end Go.Proofs.Ytepnnmckbcomjaa
