/- FnExactSerialWord: the law's walk. -/
import Derived.Test.YtmcelfiljnlmoaaSerSpec
import Derived.Test.YtmcelfiljnlmoaaSerImpl
namespace Go.Proofs.Ytmcelfiljnlmoaa
open Go.RowKit Go.Proofs.Ytmcelfiljnlmoaa.Parts Go.Proofs.Ytmcelfiljnlmoaa.Hexa Go.Proofs.Ytmcelfiljnlmoaa.Byt

set_option maxRecDepth 100000 in
set_option maxHeartbeats 400000 in
theorem serialWord_law (n : Int) (w : World) :
    Calls Try.prog 8 #[.int .i64 n] w fun e w' => e = .returned (.bool true) ∧ Below w.heap.size w w' := by
  obtain ⟨D, hD⟩ : ∃ D, serB n = D := ⟨_, rfl⟩
  have HD := Lib.hid hD
  clear hD
  go_enter Try.func8, Try.ntmps8
  go_wp2_with fail
  refine (specSer_any n _).mono ?_
  rw [HD.out]
  rintro e w1 ⟨rfl, hb1⟩
  go_wp2_with fail
  refine (implSer_any n _).mono ?_
  rw [HD.out]
  rintro e w2 ⟨rfl, hb2⟩
  go_wp2
  go_ret
  exact ⟨rfl, hb1.trans (hb2.mono hb1.size)⟩
end Go.Proofs.Ytmcelfiljnlmoaa
