/- The type View: compared. -/
import Derived.Test.YtkfkjcadmdcbnaaTViewE
import Derived.Test.YtkfkjcadmdcbnaaTItemQS
namespace Go.Proofs.Ytkfkjcadmdcbnaa
open Go.RowKit Go.Proofs.Ytkfkjcadmdcbnaa.Parts Go.Proofs.Ytkfkjcadmdcbnaa.Hexa

set_option maxRecDepth 100000 in
set_option maxHeartbeats 1000000 in
theorem eqView_st (x : ViewR) (a0 : Option Addr) (c0 : Nat) (b0 : Option Addr) (s0 : Nat) (w : World) (h0 : (celRow cItem x.items).Rd w (.slice a0 x.items.length c0)) (k0 : (celRow cItem x.items).Rd w (.slice b0 x.items.length s0)) (hz : x.items.length ≤ 100000000) :
    Calls Try.prog 23 #[.agg #[.slice a0 x.items.length c0], .agg #[.slice b0 x.items.length s0]] w fun e w' => e = .returned (.bool true) ∧ Below w.heap.size w w' := by
  have hb1 := below_bk w (.cells #[.slice a0 x.items.length c0] 26)
  have hb2 := below_bk (w.alloc (.cells #[.slice a0 x.items.length c0] 26)) (.cells #[.slice b0 x.items.length s0] 26)
  have T0 := Lib.hid ((Bk.alloc w #[.slice a0 x.items.length c0] 26).later hb2)
  have U0 : Hid (Bk ((w.alloc (.cells #[.slice a0 x.items.length c0] 26)).alloc (.cells #[.slice b0 x.items.length s0] 26)) (w.heap.size + 1) #[.slice b0 x.items.length s0] 26) := Lib.hid (by
    have h := Bk.alloc (w.alloc (.cells #[.slice a0 x.items.length c0] 26)) #[.slice b0 x.items.length s0] 26
    simpa using h)
  have B0 : Hid (Below w.heap.size w ((w.alloc (.cells #[.slice a0 x.items.length c0] 26)).alloc (.cells #[.slice b0 x.items.length s0] 26))) := Lib.hid (hb1.trans (hb2.mono hb1.size))
  have HS0 := Lib.hid h0
  have HU0 := Lib.hid k0
  clear hb1 hb2 h0 k0
  go_enter Try.func23, Try.ntmps23
  go_wp2_with fail
  refine (eqItemS_any _ _ x.items _ (Cel.Rd.later B0.out _ _ HS0.out) (Cel.Rd.later B0.out _ _ HU0.out) (by omega)).mono ?_
  rintro e w1 ⟨rfl, hb⟩
  have T1 := Lib.hid (T0.out.later hb)
  have U1 := Lib.hid (U0.out.later hb)
  have B1 : Hid (Below w.heap.size w w1) := Lib.hid (B0.out.trans (hb.mono B0.out.size))
  clear hb
  go_wp2
  go_ret
  exact ⟨rfl, B1.out⟩

end Go.Proofs.Ytkfkjcadmdcbnaa
