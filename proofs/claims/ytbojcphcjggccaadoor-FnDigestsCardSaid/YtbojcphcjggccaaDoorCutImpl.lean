/- The program's CutDigest. -/
import Derived.Test.YtbojcphcjggccaaDoorMarkDef
namespace Go.Proofs.YtbojcphcjggccaaDoor
open Go.RowKit Go.Proofs.YtbojcphcjggccaaDoor.Sha Go.Proofs.YtbojcphcjggccaaDoor.Hexa

/-- The first k bytes of the digest; none where k is not from 1 to 32. -/
def cutB (s : ByteArray) (k : Int) : ByteArray := if 1 ≤ k ∧ k ≤ 32 then (digB s).extract 0 k.toNat else ⟨#[]⟩

set_option maxRecDepth 100000 in
set_option maxHeartbeats 400000 in
theorem implCut_any (s : ByteArray) (k : Int) (w : World) (h : s.size ≤ 1048576) (hT : Tabs w) :
    Calls Tryd.prog 12 #[.string s, .int .i64 k] w fun e w' => e = .returned (.string (cutB s k)) ∧ Below w.heap.size w w' := by
  have k1 := Lib.hid (implDigest_any s w (by omega) hT.1 hT.2)
  have hds := digB_size s
  clear h hT
  by_cases hk : 1 ≤ k ∧ k ≤ 32
  · have hc : cutB s k = (digB s).extract 0 k.toNat := if_pos hk
    have hi := hk.1
    have hj := hk.2
    rw [hc]
    clear hk hc
    go_enter Tryd.func12, Tryd.ntmps12
    go_wp2_with (first
      | (go_at_call 11; refine k1.out.mono ?_; rintro e w1 ⟨rfl, hb1⟩))
    go_ret
    exact ⟨rfl, hb1⟩
  · have hc : cutB s k = ⟨#[]⟩ := if_neg hk
    rw [hc]
    by_cases h1 : k < 1
    · go_enter Tryd.func12, Tryd.ntmps12
      go_wp2
      go_ret
      exact ⟨rfl, Below.refl _ _⟩
    · have h2 : 32 < k := by omega
      go_enter Tryd.func12, Tryd.ntmps12
      go_wp2
      go_ret
      exact ⟨rfl, Below.refl _ _⟩

end Go.Proofs.YtbojcphcjggccaaDoor
