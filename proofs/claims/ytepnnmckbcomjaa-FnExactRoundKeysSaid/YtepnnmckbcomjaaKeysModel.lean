/- The model's RoundKeys. -/
import Derived.Test.YtepnnmckbcomjaaBoxesSpec
import Derived.Test.YtepnnmckbcomjaaKeysSpec
namespace Go.Proofs.Ytepnnmckbcomjaa
open Go.RowKit Go.Proofs.Ytepnnmckbcomjaa.Parts Go.Proofs.Ytepnnmckbcomjaa.Hexa

theorem givesK_after {P : List ByteArray} {w w1 : World} {e : Ending} {w' : World} (hb : Below w.heap.size w w1) (h : GivesK P w1 e w') : GivesK P w e w' := by
  obtain ⟨v, he, ho, hl⟩ := h
  exact ⟨v, he, own_mono ho hb.size, hb.trans (hl.mono hb.size)⟩
set_option maxHeartbeats 400000 in
theorem specRound_yes (s : ByteArray) (w : World) (hs : s.size = 16) :
    Calls Try.prog 6 #[.string s] w (GivesK (keysTo s 11) w) := by
  have k1 := Lib.hid fun w => specBoxes_any w
  have k2 := Lib.hid fun w => specKeys_any s w hs
  go_enter Try.func6, Try.ntmps6
  go_wp2_with fail
  refine (k1.out _).mono ?_
  rintro e w1 ⟨rfl, hb1⟩
  go_wp2_with fail
  refine (k2.out _).mono ?_
  rintro e w2 hg
  obtain ⟨v, rfl, ho, hl⟩ := givesK_after hb1 hg
  go_wp2
  go_ret
  exact ⟨_, rfl, ho, hl⟩
set_option maxHeartbeats 400000 in
theorem specRound_no (s : ByteArray) (w : World) (hs : ¬ s.size = 16) :
    Calls Try.prog 6 #[.string s] w (GivesK [] w) := by
  go_enter Try.func6, Try.ntmps6
  go_wp2
  go_ret
  exact ⟨_, rfl, World.ownsRow_lit w #[] 0 (Nat.le_refl _) (by decide) rfl, (Below.refl _ _).alloc (Nat.le_refl _) _⟩
end Go.Proofs.Ytepnnmckbcomjaa
