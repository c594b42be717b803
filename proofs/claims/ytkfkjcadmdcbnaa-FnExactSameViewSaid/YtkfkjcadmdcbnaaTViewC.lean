/- The type View: copied. -/
import Derived.Test.YtkfkjcadmdcbnaaTViewE
import Derived.Test.YtkfkjcadmdcbnaaTItemCS
namespace Go.Proofs.Ytkfkjcadmdcbnaa
open Go.RowKit Go.Proofs.Ytkfkjcadmdcbnaa.Parts Go.Proofs.Ytkfkjcadmdcbnaa.Hexa

set_option maxRecDepth 100000 in
set_option maxHeartbeats 1000000 in
theorem toView_st (x : ViewR) (a0 : Option Addr) (c0 : Nat) (w : World) (h0 : (celRow cItem x.items).Rd w (.slice a0 x.items.length c0)) (hz : szL (cView.cels x) ≤ 1048576) :
    Calls Try.prog 22 #[.agg #[.slice a0 x.items.length c0]] w (ToPostS (cView.cels x) w) := by
  rw [cView_sz] at hz
  have HS0 := Lib.hid h0
  clear h0
  have B0 := Lib.hid (below_bk w (.cells #[.slice a0 x.items.length c0] 39))
  have W1 : Hid (Bk (w.alloc (.cells #[.slice a0 x.items.length c0] 39)) w.heap.size #[.slice a0 x.items.length c0] 39) := Lib.hid (Bk.alloc w _ _)
  go_enter Try.func22, Try.ntmps22
  go_wp2_with fail
  have hb1 := below_bk (w.alloc (.cells #[.slice a0 x.items.length c0] 39)) (.cells #[.slice none 0 0] 26)
  have hb2 := below_bk ((w.alloc (.cells #[.slice a0 x.items.length c0] 39)).alloc (.cells #[.slice none 0 0] 26)) (.cells #[.slice none 0 0] 26)
  have T0 := Lib.hid ((W1.out.later hb1).later hb2)
  have Z0 : Hid (Bk (((w.alloc (.cells #[.slice a0 x.items.length c0] 39)).alloc (.cells #[.slice none 0 0] 26)).alloc (.cells #[.slice none 0 0] 26)) (w.heap.size + 1) #[.slice none 0 0] 26) := Lib.hid (by
    have h := (Bk.alloc (w.alloc (.cells #[.slice a0 x.items.length c0] 39)) #[.slice none 0 0] 26).later hb2
    simpa using h)
  have O0 : Hid (Bk (((w.alloc (.cells #[.slice a0 x.items.length c0] 39)).alloc (.cells #[.slice none 0 0] 26)).alloc (.cells #[.slice none 0 0] 26)) (w.heap.size + 1 + 1) #[.slice none 0 0] 26) := Lib.hid (by
    have h := Bk.alloc ((w.alloc (.cells #[.slice a0 x.items.length c0] 39)).alloc (.cells #[.slice none 0 0] 26)) #[.slice none 0 0] 26
    simpa using h)
  have B3 : Hid (Below w.heap.size w (((w.alloc (.cells #[.slice a0 x.items.length c0] 39)).alloc (.cells #[.slice none 0 0] 26)).alloc (.cells #[.slice none 0 0] 26))) := Lib.hid ((B0.out.alloc B0.out.size _).alloc (by simp; omega) _)
  have N0 : Hid ((((w.alloc (.cells #[.slice a0 x.items.length c0] 39)).alloc (.cells #[.slice none 0 0] 26)).alloc (.cells #[.slice none 0 0] 26)).heap.size = w.heap.size + 3) := Lib.hid (by simp)
  obtain ⟨V0, hV0⟩ : ∃ y, y = (((w.alloc (.cells #[.slice a0 x.items.length c0] 39)).alloc (.cells #[.slice none 0 0] 26)).alloc (.cells #[.slice none 0 0] 26)) := ⟨_, rfl⟩
  rw [← hV0] at T0 Z0 O0 B3 N0 ⊢
  clear hV0 hb1 hb2 B0 W1
  have SZ0 : Hid (w.heap.size + 3 ≤ V0.heap.size) := Lib.hid (by have := N0.out; omega)
  clear N0
  refine (toItemS_any _ x.items _ (Cel.Rd.later B3.out _ _ HS0.out) (by omega)).mono ?_
  rintro e w1 ⟨u0, rfl, ho, hb⟩
  obtain ⟨p0, m0, s0, rfl, hm⟩ := row_form ho.rd
  subst hm
  have T1a := Lib.hid (T0.out.later hb)
  have Z1a := Lib.hid (Z0.out.later hb)
  have O1a := Lib.hid (O0.out.later hb)
  have B1a : Hid (Below w.heap.size w w1) := Lib.hid (B3.out.trans (hb.mono B3.out.size))
  have SZ1a : Hid (V0.heap.size ≤ w1.heap.size) := Lib.hid hb.size
  have J0_1 := Lib.hid ho
  clear hb ho T0 Z0 O0 B3
  have x0 := O1a.out.cell (j := 0) rfl
  have f0 := O1a.out.fr (o := 0)
  have O2 := Lib.hid (O1a.out.set 0 (.slice p0 x.items.length s0))
  have T2 := Lib.hid (T1a.out.other (c := w.heap.size + 1 + 1) (o := 0) (by omega) (.slice p0 x.items.length s0))
  have Z2 := Lib.hid (Z1a.out.other (c := w.heap.size + 1 + 1) (o := 0) (by omega) (.slice p0 x.items.length s0))
  have B2 : Hid (Below w.heap.size w (w1.setCell ⟨w.heap.size + 1 + 1, 0, none⟩ (.slice p0 x.items.length s0))) := Lib.hid (B1a.out.setCell (by show w.heap.size ≤ w.heap.size + 1 + 1; omega) _)
  have J0_2 := Lib.hid (J0_1.out.kept (w' := w1.setCell ⟨w.heap.size + 1 + 1, 0, none⟩ (.slice p0 x.items.length s0)) (fun g h1 h2 => Below.heap_setCell _ _ _ _ (by show g ≠ w.heap.size + 1 + 1; have := SZ0.out; have := SZ1a.out; omega)))
  clear J0_1
  clear B1a T1a Z1a O1a
  have y0 := O2.out.cell (j := 0) rfl
  have z0 := Z2.out.cell (j := 0) rfl
  have g0 := Z2.out.fr (o := 0)
  have qf := (Z2.out.set 0 (.slice p0 x.items.length s0))
  have q0 := qf.cell (j := 0) rfl
  clear qf
  have BE := Lib.hid (B2.out.setCell (p := ⟨w.heap.size + 1, 0, none⟩) (by show w.heap.size ≤ w.heap.size + 1; omega) (.slice p0 x.items.length s0))
  have JE0 := Lib.hid (J0_2.out.kept (w' := ((w1.setCell ⟨w.heap.size + 1 + 1, 0, none⟩ (.slice p0 x.items.length s0))).setCells (w.heap.size + 1) 0 [.slice p0 x.items.length s0]) (fun g h1 h2 => heap_setCells_ne (by have := SZ0.out; have := SZ1a.out; omega) _ _ _))
  have SE : Hid (w1.heap.size ≤ (((w1.setCell ⟨w.heap.size + 1 + 1, 0, none⟩ (.slice p0 x.items.length s0))).setCells (w.heap.size + 1) 0 [.slice p0 x.items.length s0]).heap.size) := Lib.hid (by rw [size_setCells]; simp [World.setCell])
  go_wp2
  refine bodyPost_ret (v := .agg #[.slice p0 x.items.length s0]) ?_ rfl ⟨_, rfl, ((Objs.cons (lo := V0.heap.size) JE0.out (Objs.nil _ w1.heap.size (((w1.setCell ⟨w.heap.size + 1 + 1, 0, none⟩ (.slice p0 x.items.length s0))).setCells (w.heap.size + 1) 0 [.slice p0 x.items.length s0]).heap.size) (by have := SZ0.out; have := SZ1a.out; omega) (by have := SZ0.out; have := SZ1a.out; omega) (by have := SZ0.out; have := SZ1a.out; have := SE.out; omega))).mono (by have := SZ0.out; have := SZ1a.out; omega) (Nat.le_refl _), BE.out⟩
  simp [results, Try.results22, go_sem, q0]

end Go.Proofs.Ytkfkjcadmdcbnaa
