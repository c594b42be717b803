/- The program's DigestHex. -/
import Derived.Test.YtbojcphcjggccaaDoorMarkDef
import Derived.Test.YtbojcphcjggccaaDoorHexImpl
namespace Go.Proofs.YtbojcphcjggccaaDoor
open Go.RowKit Go.Proofs.YtbojcphcjggccaaDoor.Sha Go.Proofs.YtbojcphcjggccaaDoor.Hexa

def hexB2 (s : ByteArray) : ByteArray := ⟨(hexL (digB s).data.toList).toArray⟩

set_option maxRecDepth 100000 in
set_option maxHeartbeats 400000 in
theorem implDigestHex_any (s : ByteArray) (w : World) (h : s.size ≤ 1048576) (hT : Tabs w) :
    Calls Tryd.prog 13 #[.string s] w fun e w' => e = .returned (.string (hexB2 s)) ∧ Below w.heap.size w w' := by
  have k1 := Lib.hid (implDigest_any s w (by omega) hT.1 hT.2)
  have k2 := Lib.hid fun w => implHex_yes (digB s) w (by rw [digB_size]; omega)
  clear h hT
  go_enter Tryd.func13, Tryd.ntmps13
  go_wp2_with (first
    | (go_at_call 11; refine k1.out.mono ?_; rintro e w1 ⟨rfl, hb1⟩)
    | (go_at_call 17; refine (k2.out _).mono ?_; rintro e w2 ⟨rfl, hb2⟩))
  go_ret
  exact ⟨rfl, hb1.trans (hb2.mono hb1.size)⟩

end Go.Proofs.YtbojcphcjggccaaDoor
