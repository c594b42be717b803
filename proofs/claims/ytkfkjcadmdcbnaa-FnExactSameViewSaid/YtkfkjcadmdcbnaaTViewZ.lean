/- The type View: measured. -/
import Derived.Test.YtkfkjcadmdcbnaaTViewE
import Derived.Test.YtkfkjcadmdcbnaaTItemZS
namespace Go.Proofs.Ytkfkjcadmdcbnaa
open Go.RowKit Go.Proofs.Ytkfkjcadmdcbnaa.Parts Go.Proofs.Ytkfkjcadmdcbnaa.Hexa

set_option maxRecDepth 100000 in
set_option maxHeartbeats 1000000 in
theorem szView_st (x : ViewR) (a0 : Option Addr) (c0 : Nat) (l : Int) (w : World) (l0 : 0 ≤ l) (l1 : l ≤ 1048576) (h0 : (celRow cItem x.items).Rd w (.slice a0 x.items.length c0)) (ht : TyL (cView.cels x)) :
    Calls Try.prog 20 #[.agg #[.slice a0 x.items.length c0], .int .i64 l] w (SzPost (szL (cView.cels x)) l w) := by
  have hz := cView_sz x
  obtain ⟨t0, _⟩ := ht
  have HS0 := Lib.hid h0
  have HT0 := Lib.hid t0
  clear h0 t0
  have B0 := Lib.hid (below_bk w (.cells #[.slice a0 x.items.length c0] 39))
  have T0 := Lib.hid (Bk.alloc w #[.slice a0 x.items.length c0] 39)
  obtain ⟨m0, hm0⟩ : ∃ m : Int, l = m := ⟨_, rfl⟩
  subst hm0
  have hm0 : l = l := rfl
  have g0 := l0
  have g1 := l1
  have HM0 : Hid (l = l) := Lib.hid hm0
  have HZ := Lib.hid hz
  clear hz
  go_enter Try.func20, Try.ntmps20
  go_wp2_with fail
  refine (szItemS_any _ x.items l _ g0 g1 (Cel.Rd.later B0.out _ _ HS0.out) HT0.out).mono ?_
  rintro e w1 ⟨m1, rfl, hr, hb⟩
  have B1 : Hid (Below w.heap.size w w1) := Lib.hid (B0.out.trans (hb.mono B0.out.size))
  have T1 := Lib.hid (T0.out.later hb)
  clear hb
  rcases hr with hr | ⟨p0, p1⟩
  · go_wp2
    go_ret
    exact ⟨-1, rfl, .inl (by omega), B1.out⟩
  have HM1 := Lib.hid p1
  have g10 := p0
  have g11 : m1 ≤ 1048576 := by omega
  have q1 : ¬ (m1 < 0) := by omega
  clear p0 p1
  go_wp2
  go_ret
  exact ⟨m1, rfl, .inr ⟨g10, by have := HZ.out; have := HM0.out; have := HM1.out; omega⟩, B1.out⟩

end Go.Proofs.Ytkfkjcadmdcbnaa
