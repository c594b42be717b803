/- Merged texts: TCellCS, TMemC, TCellQ, TCellQS, TMemQ, TIntQS, TRecQ, TRecQS, TEntryQ, TEntryQS, TInoQ, TInoQS, TPartQ, TIntHS, TRecHS, TEntryHS, TInoHS, TPartH, ToGeo, CutImport, ReadPartLaw, RowCells. -/
import Derived.Test.YtkfkjcadmdcbnaaGreatDoorPZJ
import Derived.Test.YtkfkjcadmdcbnaaGreatDoorRows
import Derived.Deep.RegionHeld3
import Derived.Deep.DeepCutAuto
import Derived.Deep.Strs
import Derived.ProofKit
namespace Go.Proofs.YtkfkjcadmdcbnaaGreatDoor
open Go.RowKit Go.Proofs.YtkfkjcadmdcbnaaGreatDoor.Parts Go.Proofs.YtkfkjcadmdcbnaaGreatDoor.Hexa

set_option maxRecDepth 100000 in
set_option maxHeartbeats 1000000 in
theorem toCellS_any (v : Value) (L : List C3) (w : World) (hs : (celRow cCell L).Rd w v) (hz : (celRow cCell L).sz ≤ 1048576) :
    Calls Tryz.prog 73 #[v] w (ToPost (celRow cCell L) w) := by
  obtain ⟨i0, hi, hz0, hz1, hz2⟩ := info_parts infoCellD
  obtain ⟨a, n, c, rfl, hn⟩ := row_form hs
  have HS := Lib.hid hs
  have hz' : n + szL (celsE cCell L) ≤ 1048576 := by rw [← hn]; exact hz
  have hn1 : n ≤ 1048576 := by omega
  have HZ : Hid (szL (celsE cCell L) ≤ 1048576) := Lib.hid (by omega)
  have HN := Lib.hid hn
  clear hs hz hz' hn
  go_enter Tryz.func73, Tryz.ntmps73
  go_wp2_with (at_make; refine wpList_make_full _ rfl _ _ 55 rfl w.heap.size 135 i0 _ 3 Tryz.underlying55 hi hz0 hz1 .i64 .i64 _ _ n rfl rfl rfl rfl (by rw [hz2]; omega) (by unfold maxLen; omega) (Nat.le_refl _) ?_; intro w0 hown0 hgrow0)
  have hg0 : Below w.heap.size w w0 := (Below.refl _ _).grown hgrow0 (Nat.le_refl _) (fun k h => by cases h)
  have HO0 : Hid (Part2 cCell L w0 w.heap.size n 0) := Lib.hid (Part2.start hown0)
  clear hown0 hgrow0
  go_loopw [4] (fun iv wr => ∃ (k : Nat), k ≤ n ∧ iv = .int .i64 k ∧ Hid (Part2 cCell L wr w.heap.size n k) ∧ Below w.heap.size w wr)
    (fun iv _ => n - (intOf iv).toNat)
  case atStart => exact ⟨0, Nat.zero_le _, rfl, HO0, hg0⟩
  case round =>
    clear HO0 hg0
    obtain ⟨k, hk, rfl, HW, hbel⟩ := hrel
    by_cases hlt : k < n
    · have HX : Hid (szL (cCell.cels (L.getD k default)) ≤ 1048576) := Lib.hid (Nat.le_trans (szL_at cCell L k (by rw [HN.out]; exact hlt)) HZ.out)
      obtain ⟨g, off, rfl, hg, d0, d1, d2⟩ := cCell_at (Cel.Rd.later hbel _ _ HS.out) k hlt
      have HV : Hid (∀ (w1 : World) (hi : Nat) (vs : List Value), Below wr.heap.size wr w1 → Objs w1 wr.heap.size hi (cCell.cels (L.getD k default)) vs → Part2 cCell L (w1.setCells w.heap.size (k * 3) vs) w.heap.size n (k + 1)) :=
        Lib.hid (fun w1 hi vs hb ho => HW.out.next HN.out hlt hb ho)
      obtain ⟨x, hx⟩ : ∃ x, L.getD k default = x := ⟨_, rfl⟩
      rw [hx] at d0 d1 d2  HX HV
      clear hx
      go_wp2_with fail
      refine (toCell_st x _ HX.out).mono ?_
      rintro e w1 ⟨vs, rfl, ho, hb1⟩
      have hbx : Below w.heap.size w w1 := hbel.trans (hb1.mono hbel.size)
      have O1 := Lib.hid (HV.out w1 _ vs hb1 ho)
      obtain rfl := cCell_form ho.rd
      obtain ⟨xs, G, hrow, _, _, _⟩ := (HW.out.later hb1).ex
      have HW1 := Lib.hid hrow
      clear hrow
      obtain ⟨v0, e0⟩ := ownE_cell HW1.out (j := k * 3) (by show k * 3 < n * 3; omega)
      obtain ⟨v1, e1⟩ := ownE_cell HW1.out (j := k * 3 + 1) (by show k * 3 + 1 < n * 3; omega)
      obtain ⟨v2, e2⟩ := ownE_cell HW1.out (j := k * 3 + 2) (by show k * 3 + 2 < n * 3; omega)
      have z0 := HW1.out.frozenAt (k * 3)
      have z1 := HW1.out.frozenAt (k * 3 + 1)
      have z2 := HW1.out.frozenAt (k * 3 + 2)
      have hb2 := Lib.hid (below_sets (Nat.le_refl w.heap.size) [.int .i64 x.l, .string x.t, .bool x.f] (k * 3) hbx)
      clear d0 d1 d2  hb1 hbx ho HW
      go_wp2
      go_roundw
      case rel => exact ⟨k + 1, by omega, by go_num, O1, hb2.out⟩
      case measure => (simp [intOf]; try omega)
    · obtain rfl : k = n := by omega
      have HO := Lib.hid (HW.out.done HN.out)
      go_wp2
      go_ret
      exact ⟨_, rfl, HO.out, hbel⟩

end Go.Proofs.YtkfkjcadmdcbnaaGreatDoor
namespace Go.Proofs.YtkfkjcadmdcbnaaGreatDoor
open Go.RowKit Go.Proofs.YtkfkjcadmdcbnaaGreatDoor.Parts Go.Proofs.YtkfkjcadmdcbnaaGreatDoor.Hexa

set_option maxRecDepth 100000 in
set_option maxHeartbeats 1000000 in
theorem toMem_st (x : MemR) (a1 : Option Addr) (c1 : Nat) (w : World) (h1 : (celRow cCell x.cells).Rd w (.slice a1 x.cells.length c1)) (hz : szL (cMem.cels x) ≤ 1048576) :
    Calls Tryz.prog 23 #[.agg #[.string x.text, .slice a1 x.cells.length c1]] w (ToPostS (cMem.cels x) w) := by
  rw [cMem_sz] at hz
  have HS1 := Lib.hid h1
  clear h1
  have B0 := Lib.hid (below_bk w (.cells #[.string x.text, .slice a1 x.cells.length c1] 46))
  have W1 : Hid (Bk (w.alloc (.cells #[.string x.text, .slice a1 x.cells.length c1] 46)) w.heap.size #[.string x.text, .slice a1 x.cells.length c1] 46) := Lib.hid (Bk.alloc w _ _)
  go_enter Tryz.func23, Tryz.ntmps23
  go_wp2_with fail
  have hb1 := below_bk (w.alloc (.cells #[.string x.text, .slice a1 x.cells.length c1] 46)) (.cells #[.string ⟨#[]⟩, .slice none 0 0] 57)
  have hb2 := below_bk ((w.alloc (.cells #[.string x.text, .slice a1 x.cells.length c1] 46)).alloc (.cells #[.string ⟨#[]⟩, .slice none 0 0] 57)) (.cells #[.string x.text, .slice none 0 0] 57)
  have T0 := Lib.hid ((W1.out.later hb1).later hb2)
  have Z0 : Hid (Bk (((w.alloc (.cells #[.string x.text, .slice a1 x.cells.length c1] 46)).alloc (.cells #[.string ⟨#[]⟩, .slice none 0 0] 57)).alloc (.cells #[.string x.text, .slice none 0 0] 57)) (w.heap.size + 1) #[.string ⟨#[]⟩, .slice none 0 0] 57) := Lib.hid (by
    have h := (Bk.alloc (w.alloc (.cells #[.string x.text, .slice a1 x.cells.length c1] 46)) #[.string ⟨#[]⟩, .slice none 0 0] 57).later hb2
    simpa using h)
  have O0 : Hid (Bk (((w.alloc (.cells #[.string x.text, .slice a1 x.cells.length c1] 46)).alloc (.cells #[.string ⟨#[]⟩, .slice none 0 0] 57)).alloc (.cells #[.string x.text, .slice none 0 0] 57)) (w.heap.size + 1 + 1) #[.string x.text, .slice none 0 0] 57) := Lib.hid (by
    have h := Bk.alloc ((w.alloc (.cells #[.string x.text, .slice a1 x.cells.length c1] 46)).alloc (.cells #[.string ⟨#[]⟩, .slice none 0 0] 57)) #[.string x.text, .slice none 0 0] 57
    simpa using h)
  have B3 : Hid (Below w.heap.size w (((w.alloc (.cells #[.string x.text, .slice a1 x.cells.length c1] 46)).alloc (.cells #[.string ⟨#[]⟩, .slice none 0 0] 57)).alloc (.cells #[.string x.text, .slice none 0 0] 57))) := Lib.hid ((B0.out.alloc B0.out.size _).alloc (by simp; omega) _)
  have N0 : Hid ((((w.alloc (.cells #[.string x.text, .slice a1 x.cells.length c1] 46)).alloc (.cells #[.string ⟨#[]⟩, .slice none 0 0] 57)).alloc (.cells #[.string x.text, .slice none 0 0] 57)).heap.size = w.heap.size + 3) := Lib.hid (by simp)
  obtain ⟨V0, hV0⟩ : ∃ y, y = (((w.alloc (.cells #[.string x.text, .slice a1 x.cells.length c1] 46)).alloc (.cells #[.string ⟨#[]⟩, .slice none 0 0] 57)).alloc (.cells #[.string x.text, .slice none 0 0] 57)) := ⟨_, rfl⟩
  rw [← hV0] at T0 Z0 O0 B3 N0 ⊢
  clear hV0 hb1 hb2 B0 W1
  have SZ0 : Hid (w.heap.size + 3 ≤ V0.heap.size) := Lib.hid (by have := N0.out; omega)
  clear N0
  refine (toCellS_any _ x.cells _ (Cel.Rd.later B3.out _ _ HS1.out) (by omega)).mono ?_
  rintro e w1 ⟨u1, rfl, ho, hb⟩
  obtain ⟨p1, m1, s1, rfl, hm⟩ := row_form ho.rd
  subst hm
  have T1a := Lib.hid (T0.out.later hb)
  have Z1a := Lib.hid (Z0.out.later hb)
  have O1a := Lib.hid (O0.out.later hb)
  have B1a : Hid (Below w.heap.size w w1) := Lib.hid (B3.out.trans (hb.mono B3.out.size))
  have SZ1a : Hid (V0.heap.size ≤ w1.heap.size) := Lib.hid hb.size
  have J1_1 := Lib.hid ho
  clear hb ho T0 Z0 O0 B3
  have x1 := O1a.out.cell (j := 1) rfl
  have f1 := O1a.out.fr (o := 1)
  have O2 := Lib.hid (O1a.out.set 1 (.slice p1 x.cells.length s1))
  have T2 := Lib.hid (T1a.out.other (c := w.heap.size + 1 + 1) (o := 1) (by omega) (.slice p1 x.cells.length s1))
  have Z2 := Lib.hid (Z1a.out.other (c := w.heap.size + 1 + 1) (o := 1) (by omega) (.slice p1 x.cells.length s1))
  have B2 : Hid (Below w.heap.size w (w1.setCell ⟨w.heap.size + 1 + 1, 1, none⟩ (.slice p1 x.cells.length s1))) := Lib.hid (B1a.out.setCell (by show w.heap.size ≤ w.heap.size + 1 + 1; omega) _)
  have J1_2 := Lib.hid (J1_1.out.kept (w' := w1.setCell ⟨w.heap.size + 1 + 1, 1, none⟩ (.slice p1 x.cells.length s1)) (fun g h1 h2 => Below.heap_setCell _ _ _ _ (by show g ≠ w.heap.size + 1 + 1; have := SZ0.out; have := SZ1a.out; omega)))
  clear J1_1
  clear B1a T1a Z1a O1a
  have y0 := O2.out.cell (j := 0) rfl
  have y1 := O2.out.cell (j := 1) rfl
  have z0 := Z2.out.cell (j := 0) rfl
  have g0 := Z2.out.fr (o := 0)
  have z1 := Z2.out.cell (j := 1) rfl
  have g1 := Z2.out.fr (o := 1)
  have qf := ((Z2.out.set 0 (.string x.text)).set 1 (.slice p1 x.cells.length s1))
  have q0 := qf.cell (j := 0) rfl
  have q1 := qf.cell (j := 1) rfl
  clear qf
  have BE := Lib.hid ((B2.out.setCell (p := ⟨w.heap.size + 1, 0, none⟩) (by show w.heap.size ≤ w.heap.size + 1; omega) (.string x.text)).setCell (p := ⟨w.heap.size + 1, 1, none⟩) (by show w.heap.size ≤ w.heap.size + 1; omega) (.slice p1 x.cells.length s1))
  have JE1 := Lib.hid (J1_2.out.kept (w' := ((w1.setCell ⟨w.heap.size + 1 + 1, 1, none⟩ (.slice p1 x.cells.length s1))).setCells (w.heap.size + 1) 0 [.string x.text, .slice p1 x.cells.length s1]) (fun g h1 h2 => heap_setCells_ne (by have := SZ0.out; have := SZ1a.out; omega) _ _ _))
  have SE : Hid (w1.heap.size ≤ (((w1.setCell ⟨w.heap.size + 1 + 1, 1, none⟩ (.slice p1 x.cells.length s1))).setCells (w.heap.size + 1) 0 [.string x.text, .slice p1 x.cells.length s1]).heap.size) := Lib.hid (by rw [size_setCells]; simp [World.setCell])
  go_wp2
  refine bodyPost_ret (v := .agg #[.string x.text, .slice p1 x.cells.length s1]) ?_ rfl ⟨_, rfl, (((Objs.cons (lo := V0.heap.size) JE1.out (Objs.nil _ w1.heap.size (((w1.setCell ⟨w.heap.size + 1 + 1, 1, none⟩ (.slice p1 x.cells.length s1))).setCells (w.heap.size + 1) 0 [.string x.text, .slice p1 x.cells.length s1]).heap.size) (by have := SZ0.out; have := SZ1a.out; omega) (by have := SZ0.out; have := SZ1a.out; omega) (by have := SZ0.out; have := SZ1a.out; have := SE.out; omega)).val _)).mono (by have := SZ0.out; have := SZ1a.out; omega) (Nat.le_refl _), BE.out⟩
  simp [results, Tryz.results23, go_sem, q0, q1]

end Go.Proofs.YtkfkjcadmdcbnaaGreatDoor
namespace Go.Proofs.YtkfkjcadmdcbnaaGreatDoor
open Go.RowKit Go.Proofs.YtkfkjcadmdcbnaaGreatDoor.Parts Go.Proofs.YtkfkjcadmdcbnaaGreatDoor.Hexa

set_option maxRecDepth 100000 in
set_option maxHeartbeats 1000000 in
theorem eqCell_st (x : C3) (w : World) (_ : szL (cCell.cels x) ≤ 100000000) :
    Calls Tryz.prog 147 #[.agg #[.int .i64 x.l, .string x.t, .bool x.f], .agg #[.int .i64 x.l, .string x.t, .bool x.f]] w fun e w' => e = .returned (.bool true) ∧ Below w.heap.size w w' := by
  go_enter Tryz.func147, Tryz.ntmps147
  go_wp2
  go_ret
  exact ⟨rfl, ((Below.refl _ _).alloc (Nat.le_refl _) _).alloc (by simp) _⟩

end Go.Proofs.YtkfkjcadmdcbnaaGreatDoor
namespace Go.Proofs.YtkfkjcadmdcbnaaGreatDoor
open Go.RowKit Go.Proofs.YtkfkjcadmdcbnaaGreatDoor.Parts Go.Proofs.YtkfkjcadmdcbnaaGreatDoor.Hexa

set_option maxRecDepth 100000 in
set_option maxHeartbeats 1000000 in
theorem eqCellS_any (v v2 : Value) (L : List C3) (w : World) (s1 : (celRow cCell L).Rd w v) (s2 : (celRow cCell L).Rd w v2) (hz : (celRow cCell L).sz ≤ 100000000) :
    Calls Tryz.prog 86 #[v, v2] w fun e w' => e = .returned (.bool true) ∧ Below w.heap.size w w' := by
  obtain ⟨a, n, c, rfl, hn⟩ := row_form s1
  obtain ⟨a', n', c', rfl, hn'⟩ := row_form s2
  obtain rfl : n' = n := by rw [← hn, ← hn']
  have R1 := Lib.hid s1
  have R2 := Lib.hid s2
  have hz' : n' + szL (celsE cCell L) ≤ 100000000 := by rw [← hn]; exact hz
  have hn1 : n' ≤ 100000000 := by omega
  have HZ : Hid (szL (celsE cCell L) ≤ 100000000) := Lib.hid (by omega)
  have HN := Lib.hid hn
  clear s1 s2 hz hz' hn hn'
  go_enter Tryz.func86, Tryz.ntmps86
  go_wp2
  go_loopw [5] (fun iv wr => ∃ k : Nat, k ≤ n' ∧ iv = .int .i64 k ∧ Below w.heap.size w wr) (fun iv _ => n' - (intOf iv).toNat)
  case atStart => exact ⟨0, Nat.zero_le _, rfl, Below.refl _ _⟩
  case round =>
    obtain ⟨k, hk, rfl, hbel⟩ := hrel
    by_cases hlt : k < n'
    · have HX : Hid (szL (cCell.cels (L.getD k default)) ≤ 100000000) := Lib.hid (Nat.le_trans (szL_at cCell L k (by rw [HN.out]; exact hlt)) HZ.out)
      obtain ⟨g, off, rfl, hg, d0, d1, d2⟩ := cCell_at (Cel.Rd.later hbel _ _ R1.out) k hlt
      obtain ⟨g2, off2, rfl, hg2, m0, m1, m2⟩ := cCell_at (Cel.Rd.later hbel _ _ R2.out) k hlt
      obtain ⟨x, hx⟩ : ∃ x, L.getD k default = x := ⟨_, rfl⟩
      rw [hx] at d0 d1 d2 m0 m1 m2   HX
      clear hx

      go_wp2
      go_region_with (go_at_call 147; refine (eqCell_st x _ HX.out).mono ?_; rintro e w1 ⟨rfl, hb1⟩)
      all_goals
        have hb2 : Below w.heap.size w w1 := hbel.drew.trans (hb1.mono hbel.size)
        clear d0 d1 d2 m0 m1 m2   hb1
        go_wp2
        go_roundw
        case rel => exact ⟨k + 1, by omega, by go_num, hb2⟩
        case measure => (simp [intOf]; try omega)
    · obtain rfl : k = n' := by omega
      go_wp2
      go_ret
      exact ⟨rfl, hbel⟩

end Go.Proofs.YtkfkjcadmdcbnaaGreatDoor
namespace Go.Proofs.YtkfkjcadmdcbnaaGreatDoor
open Go.RowKit Go.Proofs.YtkfkjcadmdcbnaaGreatDoor.Parts Go.Proofs.YtkfkjcadmdcbnaaGreatDoor.Hexa

set_option maxRecDepth 100000 in
set_option maxHeartbeats 1000000 in
theorem eqMem_st (x : MemR) (a1 : Option Addr) (c1 : Nat) (b1 : Option Addr) (s1 : Nat) (w : World) (h1 : (celRow cCell x.cells).Rd w (.slice a1 x.cells.length c1)) (k1 : (celRow cCell x.cells).Rd w (.slice b1 x.cells.length s1)) (hz : szL (cMem.cels x) ≤ 100000000) :
    Calls Tryz.prog 27 #[.agg #[.string x.text, .slice a1 x.cells.length c1], .agg #[.string x.text, .slice b1 x.cells.length s1]] w fun e w' => e = .returned (.bool true) ∧ Below w.heap.size w w' := by
  rw [cMem_sz] at hz
  have hb1 := below_bk w (.cells #[.string x.text, .slice a1 x.cells.length c1] 57)
  have hb2 := below_bk (w.alloc (.cells #[.string x.text, .slice a1 x.cells.length c1] 57)) (.cells #[.string x.text, .slice b1 x.cells.length s1] 57)
  have T0 := Lib.hid ((Bk.alloc w #[.string x.text, .slice a1 x.cells.length c1] 57).later hb2)
  have U0 : Hid (Bk ((w.alloc (.cells #[.string x.text, .slice a1 x.cells.length c1] 57)).alloc (.cells #[.string x.text, .slice b1 x.cells.length s1] 57)) (w.heap.size + 1) #[.string x.text, .slice b1 x.cells.length s1] 57) := Lib.hid (by
    have h := Bk.alloc (w.alloc (.cells #[.string x.text, .slice a1 x.cells.length c1] 57)) #[.string x.text, .slice b1 x.cells.length s1] 57
    simpa using h)
  have B0 : Hid (Below w.heap.size w ((w.alloc (.cells #[.string x.text, .slice a1 x.cells.length c1] 57)).alloc (.cells #[.string x.text, .slice b1 x.cells.length s1] 57))) := Lib.hid (hb1.trans (hb2.mono hb1.size))
  have HS1 := Lib.hid h1
  have HU1 := Lib.hid k1
  clear hb1 hb2 h1 k1
  go_enter Tryz.func27, Tryz.ntmps27
  go_wp2_with fail
  refine (eqCellS_any _ _ x.cells _ (Cel.Rd.later B0.out _ _ HS1.out) (Cel.Rd.later B0.out _ _ HU1.out) (by omega)).mono ?_
  rintro e w1 ⟨rfl, hb⟩
  have T1 := Lib.hid (T0.out.later hb)
  have U1 := Lib.hid (U0.out.later hb)
  have B1 : Hid (Below w.heap.size w w1) := Lib.hid (B0.out.trans (hb.mono B0.out.size))
  clear hb
  go_wp2
  go_ret
  exact ⟨rfl, B1.out⟩

end Go.Proofs.YtkfkjcadmdcbnaaGreatDoor
namespace Go.Proofs.YtkfkjcadmdcbnaaGreatDoor
open Go.RowKit Go.Proofs.YtkfkjcadmdcbnaaGreatDoor.Parts Go.Proofs.YtkfkjcadmdcbnaaGreatDoor.Hexa

set_option maxRecDepth 100000 in
set_option maxHeartbeats 1000000 in
theorem eqIntS_any (v v2 : Value) (L : List Int) (w : World) (s1 : (celRow cInt L).Rd w v) (s2 : (celRow cInt L).Rd w v2) (hz : (celRow cInt L).sz ≤ 100000000) :
    Calls Tryz.prog 84 #[v, v2] w fun e w' => e = .returned (.bool true) ∧ Below w.heap.size w w' := by
  obtain ⟨a, n, c, rfl, hn⟩ := row_form s1
  obtain ⟨a', n', c', rfl, hn'⟩ := row_form s2
  obtain rfl : n' = n := by rw [← hn, ← hn']
  rw [szInts_eq, hn] at hz
  have R1 := Lib.hid s1
  have R2 := Lib.hid s2
  clear s1 s2 hn hn'
  go_enter Tryz.func84, Tryz.ntmps84
  go_wp2
  go_loopw [5] (fun iv wr => ∃ k m : Nat, k ≤ n' ∧ iv = .int .i64 k ∧ wr = w.drewN m) (fun iv _ => n' - (intOf iv).toNat)
  case atStart => exact ⟨0, 0, Nat.zero_le _, rfl, rfl⟩
  case round =>
    obtain ⟨k, m, hk, rfl, rfl⟩ := hrel
    by_cases hlt : k < n'
    · obtain ⟨g1, o1, rfl, h1, d1⟩ := cInt_at R1.out k hlt
      obtain ⟨g2, o2, rfl, h2, d2⟩ := cInt_at R2.out k hlt
      obtain ⟨x, hx⟩ : ∃ x, L.getD k default = x := ⟨_, rfl⟩
      rw [hx] at d1 d2
      clear hx h1 h2
      go_wp2
      go_quiet (fail)
      go_wp2
      go_roundw
      case rel => exact ⟨k + 1, _, by omega, by go_num, rfl⟩
      case measure => (simp [intOf]; try omega)
    · obtain rfl : k = n' := by omega
      go_wp2
      go_ret
      exact ⟨rfl, below_drewsN (Below.refl _ _) _⟩
end Go.Proofs.YtkfkjcadmdcbnaaGreatDoor
namespace Go.Proofs.YtkfkjcadmdcbnaaGreatDoor
open Go.RowKit Go.Proofs.YtkfkjcadmdcbnaaGreatDoor.Parts Go.Proofs.YtkfkjcadmdcbnaaGreatDoor.Hexa

set_option maxRecDepth 100000 in
set_option maxHeartbeats 1000000 in
theorem eqRec_st (x : RecR) (w : World) (_ : szL (cRec.cels x) ≤ 100000000) :
    Calls Tryz.prog 236 #[.agg #[.int .i64 x.f0, .int .i64 x.f1, .string x.f2], .agg #[.int .i64 x.f0, .int .i64 x.f1, .string x.f2]] w fun e w' => e = .returned (.bool true) ∧ Below w.heap.size w w' := by
  go_enter Tryz.func236, Tryz.ntmps236
  go_wp2
  go_ret
  exact ⟨rfl, ((Below.refl _ _).alloc (Nat.le_refl _) _).alloc (by simp) _⟩

end Go.Proofs.YtkfkjcadmdcbnaaGreatDoor
namespace Go.Proofs.YtkfkjcadmdcbnaaGreatDoor
open Go.RowKit Go.Proofs.YtkfkjcadmdcbnaaGreatDoor.Parts Go.Proofs.YtkfkjcadmdcbnaaGreatDoor.Hexa

set_option maxRecDepth 100000 in
set_option maxHeartbeats 1000000 in
theorem eqRecS_any (v v2 : Value) (L : List RecR) (w : World) (s1 : (celRow cRec L).Rd w v) (s2 : (celRow cRec L).Rd w v2) (hz : (celRow cRec L).sz ≤ 100000000) :
    Calls Tryz.prog 191 #[v, v2] w fun e w' => e = .returned (.bool true) ∧ Below w.heap.size w w' := by
  obtain ⟨a, n, c, rfl, hn⟩ := row_form s1
  obtain ⟨a', n', c', rfl, hn'⟩ := row_form s2
  obtain rfl : n' = n := by rw [← hn, ← hn']
  have R1 := Lib.hid s1
  have R2 := Lib.hid s2
  have hz' : n' + szL (celsE cRec L) ≤ 100000000 := by rw [← hn]; exact hz
  have hn1 : n' ≤ 100000000 := by omega
  have HZ : Hid (szL (celsE cRec L) ≤ 100000000) := Lib.hid (by omega)
  have HN := Lib.hid hn
  clear s1 s2 hz hz' hn hn'
  go_enter Tryz.func191, Tryz.ntmps191
  go_wp2
  go_loopw [5] (fun iv wr => ∃ k : Nat, k ≤ n' ∧ iv = .int .i64 k ∧ Below w.heap.size w wr) (fun iv _ => n' - (intOf iv).toNat)
  case atStart => exact ⟨0, Nat.zero_le _, rfl, Below.refl _ _⟩
  case round =>
    obtain ⟨k, hk, rfl, hbel⟩ := hrel
    by_cases hlt : k < n'
    · have HX : Hid (szL (cRec.cels (L.getD k default)) ≤ 100000000) := Lib.hid (Nat.le_trans (szL_at cRec L k (by rw [HN.out]; exact hlt)) HZ.out)
      obtain ⟨g, off, rfl, hg, d0, d1, d2⟩ := cRec_at (Cel.Rd.later hbel _ _ R1.out) k hlt
      obtain ⟨g2, off2, rfl, hg2, m0, m1, m2⟩ := cRec_at (Cel.Rd.later hbel _ _ R2.out) k hlt
      obtain ⟨x, hx⟩ : ∃ x, L.getD k default = x := ⟨_, rfl⟩
      rw [hx] at d0 d1 d2 m0 m1 m2   HX
      clear hx

      go_wp2
      go_region_with (go_at_call 236; refine (eqRec_st x _ HX.out).mono ?_; rintro e w1 ⟨rfl, hb1⟩)
      all_goals
        have hb2 : Below w.heap.size w w1 := hbel.drew.trans (hb1.mono hbel.size)
        clear d0 d1 d2 m0 m1 m2   hb1
        go_wp2
        go_roundw
        case rel => exact ⟨k + 1, by omega, by go_num, hb2⟩
        case measure => (simp [intOf]; try omega)
    · obtain rfl : k = n' := by omega
      go_wp2
      go_ret
      exact ⟨rfl, hbel⟩

end Go.Proofs.YtkfkjcadmdcbnaaGreatDoor
namespace Go.Proofs.YtkfkjcadmdcbnaaGreatDoor
open Go.RowKit Go.Proofs.YtkfkjcadmdcbnaaGreatDoor.Parts Go.Proofs.YtkfkjcadmdcbnaaGreatDoor.Hexa

set_option maxRecDepth 100000 in
set_option maxHeartbeats 1000000 in
theorem eqEntry_st (x : EntryR) (w : World) (_ : szL (cEntry.cels x) ≤ 100000000) :
    Calls Tryz.prog 237 #[.agg #[.int .i64 x.f0, .string x.f1], .agg #[.int .i64 x.f0, .string x.f1]] w fun e w' => e = .returned (.bool true) ∧ Below w.heap.size w w' := by
  go_enter Tryz.func237, Tryz.ntmps237
  go_wp2
  go_ret
  exact ⟨rfl, ((Below.refl _ _).alloc (Nat.le_refl _) _).alloc (by simp) _⟩

end Go.Proofs.YtkfkjcadmdcbnaaGreatDoor
namespace Go.Proofs.YtkfkjcadmdcbnaaGreatDoor
open Go.RowKit Go.Proofs.YtkfkjcadmdcbnaaGreatDoor.Parts Go.Proofs.YtkfkjcadmdcbnaaGreatDoor.Hexa

set_option maxRecDepth 100000 in
set_option maxHeartbeats 1000000 in
theorem eqEntryS_any (v v2 : Value) (L : List EntryR) (w : World) (s1 : (celRow cEntry L).Rd w v) (s2 : (celRow cEntry L).Rd w v2) (hz : (celRow cEntry L).sz ≤ 100000000) :
    Calls Tryz.prog 192 #[v, v2] w fun e w' => e = .returned (.bool true) ∧ Below w.heap.size w w' := by
  obtain ⟨a, n, c, rfl, hn⟩ := row_form s1
  obtain ⟨a', n', c', rfl, hn'⟩ := row_form s2
  obtain rfl : n' = n := by rw [← hn, ← hn']
  have R1 := Lib.hid s1
  have R2 := Lib.hid s2
  have hz' : n' + szL (celsE cEntry L) ≤ 100000000 := by rw [← hn]; exact hz
  have hn1 : n' ≤ 100000000 := by omega
  have HZ : Hid (szL (celsE cEntry L) ≤ 100000000) := Lib.hid (by omega)
  have HN := Lib.hid hn
  clear s1 s2 hz hz' hn hn'
  go_enter Tryz.func192, Tryz.ntmps192
  go_wp2
  go_loopw [5] (fun iv wr => ∃ k : Nat, k ≤ n' ∧ iv = .int .i64 k ∧ Below w.heap.size w wr) (fun iv _ => n' - (intOf iv).toNat)
  case atStart => exact ⟨0, Nat.zero_le _, rfl, Below.refl _ _⟩
  case round =>
    obtain ⟨k, hk, rfl, hbel⟩ := hrel
    by_cases hlt : k < n'
    · have HX : Hid (szL (cEntry.cels (L.getD k default)) ≤ 100000000) := Lib.hid (Nat.le_trans (szL_at cEntry L k (by rw [HN.out]; exact hlt)) HZ.out)
      obtain ⟨g, off, rfl, hg, d0, d1⟩ := cEntry_at (Cel.Rd.later hbel _ _ R1.out) k hlt
      obtain ⟨g2, off2, rfl, hg2, m0, m1⟩ := cEntry_at (Cel.Rd.later hbel _ _ R2.out) k hlt
      obtain ⟨x, hx⟩ : ∃ x, L.getD k default = x := ⟨_, rfl⟩
      rw [hx] at d0 d1 m0 m1   HX
      clear hx

      go_wp2
      go_region_with (go_at_call 237; refine (eqEntry_st x _ HX.out).mono ?_; rintro e w1 ⟨rfl, hb1⟩)
      all_goals
        have hb2 : Below w.heap.size w w1 := hbel.drew.trans (hb1.mono hbel.size)
        clear d0 d1 m0 m1   hb1
        go_wp2
        go_roundw
        case rel => exact ⟨k + 1, by omega, by go_num, hb2⟩
        case measure => (simp [intOf]; try omega)
    · obtain rfl : k = n' := by omega
      go_wp2
      go_ret
      exact ⟨rfl, hbel⟩

end Go.Proofs.YtkfkjcadmdcbnaaGreatDoor
namespace Go.Proofs.YtkfkjcadmdcbnaaGreatDoor
open Go.RowKit Go.Proofs.YtkfkjcadmdcbnaaGreatDoor.Parts Go.Proofs.YtkfkjcadmdcbnaaGreatDoor.Hexa

set_option maxRecDepth 100000 in
set_option maxHeartbeats 1000000 in
theorem eqIno_st (x : InoR) (a4 : Option Addr) (c4 : Nat) (a5 : Option Addr) (c5 : Nat) (b4 : Option Addr) (s4 : Nat) (b5 : Option Addr) (s5 : Nat) (w : World) (h4 : (celRow cRec x.R).Rd w (.slice a4 x.R.length c4)) (h5 : (celRow cEntry x.E).Rd w (.slice a5 x.E.length c5)) (k4 : (celRow cRec x.R).Rd w (.slice b4 x.R.length s4)) (k5 : (celRow cEntry x.E).Rd w (.slice b5 x.E.length s5)) (hz : szL (cIno.cels x) ≤ 100000000) :
    Calls Tryz.prog 146 #[.agg #[.int .i64 x.kd, .int .i64 x.sz, .int .i64 x.gn, .string x.key, .slice a4 x.R.length c4, .slice a5 x.E.length c5], .agg #[.int .i64 x.kd, .int .i64 x.sz, .int .i64 x.gn, .string x.key, .slice b4 x.R.length s4, .slice b5 x.E.length s5]] w fun e w' => e = .returned (.bool true) ∧ Below w.heap.size w w' := by
  rw [cIno_sz] at hz
  have hb1 := below_bk w (.cells #[.int .i64 x.kd, .int .i64 x.sz, .int .i64 x.gn, .string x.key, .slice a4 x.R.length c4, .slice a5 x.E.length c5] 102)
  have hb2 := below_bk (w.alloc (.cells #[.int .i64 x.kd, .int .i64 x.sz, .int .i64 x.gn, .string x.key, .slice a4 x.R.length c4, .slice a5 x.E.length c5] 102)) (.cells #[.int .i64 x.kd, .int .i64 x.sz, .int .i64 x.gn, .string x.key, .slice b4 x.R.length s4, .slice b5 x.E.length s5] 102)
  have T0 := Lib.hid ((Bk.alloc w #[.int .i64 x.kd, .int .i64 x.sz, .int .i64 x.gn, .string x.key, .slice a4 x.R.length c4, .slice a5 x.E.length c5] 102).later hb2)
  have U0 : Hid (Bk ((w.alloc (.cells #[.int .i64 x.kd, .int .i64 x.sz, .int .i64 x.gn, .string x.key, .slice a4 x.R.length c4, .slice a5 x.E.length c5] 102)).alloc (.cells #[.int .i64 x.kd, .int .i64 x.sz, .int .i64 x.gn, .string x.key, .slice b4 x.R.length s4, .slice b5 x.E.length s5] 102)) (w.heap.size + 1) #[.int .i64 x.kd, .int .i64 x.sz, .int .i64 x.gn, .string x.key, .slice b4 x.R.length s4, .slice b5 x.E.length s5] 102) := Lib.hid (by
    have h := Bk.alloc (w.alloc (.cells #[.int .i64 x.kd, .int .i64 x.sz, .int .i64 x.gn, .string x.key, .slice a4 x.R.length c4, .slice a5 x.E.length c5] 102)) #[.int .i64 x.kd, .int .i64 x.sz, .int .i64 x.gn, .string x.key, .slice b4 x.R.length s4, .slice b5 x.E.length s5] 102
    simpa using h)
  have B0 : Hid (Below w.heap.size w ((w.alloc (.cells #[.int .i64 x.kd, .int .i64 x.sz, .int .i64 x.gn, .string x.key, .slice a4 x.R.length c4, .slice a5 x.E.length c5] 102)).alloc (.cells #[.int .i64 x.kd, .int .i64 x.sz, .int .i64 x.gn, .string x.key, .slice b4 x.R.length s4, .slice b5 x.E.length s5] 102))) := Lib.hid (hb1.trans (hb2.mono hb1.size))
  have HS4 := Lib.hid h4
  have HU4 := Lib.hid k4
  have HS5 := Lib.hid h5
  have HU5 := Lib.hid k5
  clear hb1 hb2 h4 k4 h5 k5
  go_enter Tryz.func146, Tryz.ntmps146
  go_wp2_with fail
  refine (eqRecS_any _ _ x.R _ (Cel.Rd.later B0.out _ _ HS4.out) (Cel.Rd.later B0.out _ _ HU4.out) (by omega)).mono ?_
  rintro e w1 ⟨rfl, hb⟩
  have T1 := Lib.hid (T0.out.later hb)
  have U1 := Lib.hid (U0.out.later hb)
  have B1 : Hid (Below w.heap.size w w1) := Lib.hid (B0.out.trans (hb.mono B0.out.size))
  have x1_5 := T1.out.cell (j := 5) rfl
  have y1_5 := U1.out.cell (j := 5) rfl
  clear hb
  go_wp2_with fail
  refine (eqEntryS_any _ _ x.E _ (Cel.Rd.later B1.out _ _ HS5.out) (Cel.Rd.later B1.out _ _ HU5.out) (by omega)).mono ?_
  rintro e w2 ⟨rfl, hb⟩
  have T2 := Lib.hid (T1.out.later hb)
  have U2 := Lib.hid (U1.out.later hb)
  have B2 : Hid (Below w.heap.size w w2) := Lib.hid (B1.out.trans (hb.mono B1.out.size))
  clear hb
  go_wp2
  go_ret
  exact ⟨rfl, B2.out⟩

end Go.Proofs.YtkfkjcadmdcbnaaGreatDoor
namespace Go.Proofs.YtkfkjcadmdcbnaaGreatDoor
open Go.RowKit Go.Proofs.YtkfkjcadmdcbnaaGreatDoor.Parts Go.Proofs.YtkfkjcadmdcbnaaGreatDoor.Hexa

set_option maxRecDepth 100000 in
set_option maxHeartbeats 1000000 in
theorem eqInoS_any (v v2 : Value) (L : List InoR) (w : World) (s1 : (celRow cIno L).Rd w v) (s2 : (celRow cIno L).Rd w v2) (hz : (celRow cIno L).sz ≤ 100000000) :
    Calls Tryz.prog 85 #[v, v2] w fun e w' => e = .returned (.bool true) ∧ Below w.heap.size w w' := by
  obtain ⟨a, n, c, rfl, hn⟩ := row_form s1
  obtain ⟨a', n', c', rfl, hn'⟩ := row_form s2
  obtain rfl : n' = n := by rw [← hn, ← hn']
  have R1 := Lib.hid s1
  have R2 := Lib.hid s2
  have hz' : n' + szL (celsE cIno L) ≤ 100000000 := by rw [← hn]; exact hz
  have hn1 : n' ≤ 100000000 := by omega
  have HZ : Hid (szL (celsE cIno L) ≤ 100000000) := Lib.hid (by omega)
  have HN := Lib.hid hn
  clear s1 s2 hz hz' hn hn'
  go_enter Tryz.func85, Tryz.ntmps85
  go_wp2
  go_loopw [5] (fun iv wr => ∃ k : Nat, k ≤ n' ∧ iv = .int .i64 k ∧ Below w.heap.size w wr) (fun iv _ => n' - (intOf iv).toNat)
  case atStart => exact ⟨0, Nat.zero_le _, rfl, Below.refl _ _⟩
  case round =>
    obtain ⟨k, hk, rfl, hbel⟩ := hrel
    by_cases hlt : k < n'
    · have HX : Hid (szL (cIno.cels (L.getD k default)) ≤ 100000000) := Lib.hid (Nat.le_trans (szL_at cIno L k (by rw [HN.out]; exact hlt)) HZ.out)
      obtain ⟨g, off, a4, c4, a5, c5, rfl, hg, d0, d1, d2, d3, d4, d5, r4, r5⟩ := cIno_at (Cel.Rd.later hbel _ _ R1.out) k hlt
      obtain ⟨g2, off2, a4q, c4q, a5q, c5q, rfl, hg2, m0, m1, m2, m3, m4, m5, u4, u5⟩ := cIno_at (Cel.Rd.later hbel _ _ R2.out) k hlt
      obtain ⟨x, hx⟩ : ∃ x, L.getD k default = x := ⟨_, rfl⟩
      rw [hx] at d0 d1 d2 d3 d4 d5 m0 m1 m2 m3 m4 m5 r4 r5 u4 u5 HX
      clear hx
      have r4 := Cel.Rd.drew r4
      have u4 := Cel.Rd.drew u4
      have r5 := Cel.Rd.drew r5
      have u5 := Cel.Rd.drew u5
      go_wp2
      go_region_with (go_at_call 146; refine (eqIno_st x a4 c4 a5 c5 a4q c4q a5q c5q _ r4 r5 u4 u5 HX.out).mono ?_; rintro e w1 ⟨rfl, hb1⟩)
      all_goals
        have hb2 : Below w.heap.size w w1 := hbel.drew.trans (hb1.mono hbel.size)
        clear d0 d1 d2 d3 d4 d5 m0 m1 m2 m3 m4 m5 r4 r5 u4 u5 hb1
        go_wp2
        go_roundw
        case rel => exact ⟨k + 1, by omega, by go_num, hb2⟩
        case measure => (simp [intOf]; try omega)
    · obtain rfl : k = n' := by omega
      go_wp2
      go_ret
      exact ⟨rfl, hbel⟩

end Go.Proofs.YtkfkjcadmdcbnaaGreatDoor
namespace Go.Proofs.YtkfkjcadmdcbnaaGreatDoor
open Go.RowKit Go.Proofs.YtkfkjcadmdcbnaaGreatDoor.Parts Go.Proofs.YtkfkjcadmdcbnaaGreatDoor.Hexa

set_option maxRecDepth 100000 in
set_option maxHeartbeats 1000000 in
theorem eqPart_st (x : PartR) (a1 : Option Addr) (c1 : Nat) (a2 : Option Addr) (c2 : Nat) (b1 : Option Addr) (s1 : Nat) (b2 : Option Addr) (s2 : Nat) (w : World) (h1 : (celRow cInt x.st).Rd w (.slice a1 x.st.length c1)) (h2 : (celRow cIno x.ino).Rd w (.slice a2 x.ino.length c2)) (k1 : (celRow cInt x.st).Rd w (.slice b1 x.st.length s1)) (k2 : (celRow cIno x.ino).Rd w (.slice b2 x.ino.length s2)) (hz : szL (cPart.cels x) ≤ 100000000) :
    Calls Tryz.prog 26 #[.agg #[.int .i64 x.ser, .slice a1 x.st.length c1, .slice a2 x.ino.length c2], .agg #[.int .i64 x.ser, .slice b1 x.st.length s1, .slice b2 x.ino.length s2]] w fun e w' => e = .returned (.bool true) ∧ Below w.heap.size w w' := by
  rw [cPart_sz] at hz
  have hb1 := below_bk w (.cells #[.int .i64 x.ser, .slice a1 x.st.length c1, .slice a2 x.ino.length c2] 52)
  have hb2 := below_bk (w.alloc (.cells #[.int .i64 x.ser, .slice a1 x.st.length c1, .slice a2 x.ino.length c2] 52)) (.cells #[.int .i64 x.ser, .slice b1 x.st.length s1, .slice b2 x.ino.length s2] 52)
  have T0 := Lib.hid ((Bk.alloc w #[.int .i64 x.ser, .slice a1 x.st.length c1, .slice a2 x.ino.length c2] 52).later hb2)
  have U0 : Hid (Bk ((w.alloc (.cells #[.int .i64 x.ser, .slice a1 x.st.length c1, .slice a2 x.ino.length c2] 52)).alloc (.cells #[.int .i64 x.ser, .slice b1 x.st.length s1, .slice b2 x.ino.length s2] 52)) (w.heap.size + 1) #[.int .i64 x.ser, .slice b1 x.st.length s1, .slice b2 x.ino.length s2] 52) := Lib.hid (by
    have h := Bk.alloc (w.alloc (.cells #[.int .i64 x.ser, .slice a1 x.st.length c1, .slice a2 x.ino.length c2] 52)) #[.int .i64 x.ser, .slice b1 x.st.length s1, .slice b2 x.ino.length s2] 52
    simpa using h)
  have B0 : Hid (Below w.heap.size w ((w.alloc (.cells #[.int .i64 x.ser, .slice a1 x.st.length c1, .slice a2 x.ino.length c2] 52)).alloc (.cells #[.int .i64 x.ser, .slice b1 x.st.length s1, .slice b2 x.ino.length s2] 52))) := Lib.hid (hb1.trans (hb2.mono hb1.size))
  have HS1 := Lib.hid h1
  have HU1 := Lib.hid k1
  have HS2 := Lib.hid h2
  have HU2 := Lib.hid k2
  clear hb1 hb2 h1 k1 h2 k2
  go_enter Tryz.func26, Tryz.ntmps26
  go_wp2_with fail
  refine (eqIntS_any _ _ x.st _ (Cel.Rd.later B0.out _ _ HS1.out) (Cel.Rd.later B0.out _ _ HU1.out) (by omega)).mono ?_
  rintro e w1 ⟨rfl, hb⟩
  have T1 := Lib.hid (T0.out.later hb)
  have U1 := Lib.hid (U0.out.later hb)
  have B1 : Hid (Below w.heap.size w w1) := Lib.hid (B0.out.trans (hb.mono B0.out.size))
  have x1_2 := T1.out.cell (j := 2) rfl
  have y1_2 := U1.out.cell (j := 2) rfl
  clear hb
  go_wp2_with fail
  refine (eqInoS_any _ _ x.ino _ (Cel.Rd.later B1.out _ _ HS2.out) (Cel.Rd.later B1.out _ _ HU2.out) (by omega)).mono ?_
  rintro e w2 ⟨rfl, hb⟩
  have T2 := Lib.hid (T1.out.later hb)
  have U2 := Lib.hid (U1.out.later hb)
  have B2 : Hid (Below w.heap.size w w2) := Lib.hid (B1.out.trans (hb.mono B1.out.size))
  clear hb
  go_wp2
  go_ret
  exact ⟨rfl, B2.out⟩

end Go.Proofs.YtkfkjcadmdcbnaaGreatDoor
namespace Go.Proofs.YtkfkjcadmdcbnaaGreatDoor
open Go.RowKit Go.Proofs.YtkfkjcadmdcbnaaGreatDoor.Parts Go.Proofs.YtkfkjcadmdcbnaaGreatDoor.Hexa

theorem cInt_m {w : World} {L : List Int} {a : Option Addr} {n c k : Nat} (h : ((celRow cInt L).mk k).Rd w (.slice a n c)) (j q : Nat) (hj : j < n) (hq : q = k + cntL (celsE cInt (L.take j))) :
    ∃ (g off : Nat), a = some ⟨g, off, none⟩ ∧ g < w.heap.size ∧ w.cell? ⟨g, off + j, none⟩ = some (.int .i64 ((q : Int))) := by
  obtain ⟨g, off, vs, ha, hg, hr, hc⟩ := rowM_at h (by decide) j hj
  rw [← hq] at hr
  obtain ⟨v0, r0, e0, h0, hend⟩ := hr
  have hend' : r0 = [] := hend
  rw [hend'] at e0
  subst e0
  exact ⟨g, off, ha, hg, (by have h9 := hc 0 _ rfl; rw [show v0 = _ from h0, show off + j * cInt.k + 0 = off + j from by show off + j * 1 + 0 = _; omega] at h9; exact h9)⟩
set_option maxRecDepth 100000 in
set_option maxHeartbeats 1000000 in
theorem heldIntS_any (v : Value) (L : List Int) (k : Nat) (kz : Int) (w : World) (hkz : kz = (k : Int)) (h0 : 0 < k) (hk : k + (celRow cInt L).cnt ≤ 100000000) (hz : (celRow cInt L).sz ≤ 100000000) (hs : ((celRow cInt L).mk k).Rd w v) :
    Calls Tryz.prog 90 #[v, .int .i64 kz] w fun e w' => e = .returned (.int .i64 ((k + (celRow cInt L).cnt : Nat) : Int)) ∧ Below w.heap.size w w' := by
  subst hkz
  obtain ⟨a, n, c, rfl, hn⟩ := rowK_form hs
  have HN := Lib.hid hn
  have HC : Hid ((celRow cInt L).cnt = cntL (celsE cInt L)) := Lib.hid rfl
  have hk' : k + cntL (celsE cInt L) ≤ 100000000 := hk
  have hz' : n + szL (celsE cInt L) ≤ 100000000 := by rw [← hn]; exact hz
  have hn9 : n ≤ 100000000 := by omega
  have HZ : Hid (szL (celsE cInt L) ≤ 100000000) := Lib.hid (by omega)
  have HS := Lib.hid hs
  clear hn hs hk hz hz'
  go_enter Tryz.func90, Tryz.ntmps90
  go_wp2
  go_loopw [1, 5] (fun kv iv wr => ∃ (j q : Nat), j ≤ n ∧ 0 < q ∧ q ≤ 100000000 ∧ Hid (q = k + cntL (celsE cInt (L.take j))) ∧ iv = .int .i64 j ∧ kv = .int .i64 q ∧ Below w.heap.size w wr) (fun _ iv _ => n - (intOf iv).toNat)
  case atStart => exact ⟨0, k, Nat.zero_le _, h0, by omega, Lib.hid (by simp only [List.take_zero, celsE, cntL]; rfl), rfl, rfl, Below.refl _ _⟩
  case round =>
    obtain ⟨j, q, hj, hq0, hq9, HQ, rfl, rfl, hbel⟩ := hrel
    by_cases hlt : j < n
    · have hjL : j < L.length := by rw [HN.out]; exact hlt
      have HX := Lib.hid (cntL_next cInt hjL)
      have hm := cntL_take cInt L (j + 1)
      have HY := Lib.hid (Nat.le_trans (szL_at cInt L j hjL) HZ.out)
      obtain ⟨g, off, rfl, hg, d0⟩ := cInt_m (Cel.Rd.later hbel _ _ HS.out) j q hlt HQ.out
      obtain ⟨x, hx⟩ : ∃ x, L.getD j default = x := ⟨_, rfl⟩
      rw [hx] at HX HY 
      have hm2 : q + cntL (cInt.cels x) ≤ 100000000 := by have := HQ.out; have := HX.out; omega
      have HM2 := Lib.hid hm2
      have hm3 : q + 1 ≤ 100000000 := by have : cntL (cInt.cels x) = (1 + 0) := rfl; omega
      clear hx hjL hm hm2
      go_wp2
      have HR : Hid ((q + 1) = k + cntL (celsE cInt (L.take (j + 1)))) := Lib.hid (by have := HQ.out; have := HX.out; have : cntL (cInt.cels x) = (1 + 0) := rfl; omega)
      have hr9 : (q + 1) ≤ 100000000 := by have := HM2.out; have : cntL (cInt.cels x) = (1 + 0) := rfl; omega
      go_roundw
      case rel => exact ⟨j + 1, (q + 1), by omega, by omega, hr9, HR, by go_num, by go_num, hbel⟩
      case measure => (simp [intOf]; try omega)
    · obtain rfl : j = n := by omega
      go_wp2
      go_ret
      exact ⟨ret_i64m (by have := HQ.out; rw [List.take_of_length_le (by rw [HN.out]; omega)] at this; rw [HC.out]; omega), hbel⟩

end Go.Proofs.YtkfkjcadmdcbnaaGreatDoor
namespace Go.Proofs.YtkfkjcadmdcbnaaGreatDoor
open Go.RowKit Go.Proofs.YtkfkjcadmdcbnaaGreatDoor.Parts Go.Proofs.YtkfkjcadmdcbnaaGreatDoor.Hexa

theorem cRec_m {w : World} {L : List RecR} {a : Option Addr} {n c k : Nat} (h : ((celRow cRec L).mk k).Rd w (.slice a n c)) (j q : Nat) (hj : j < n) (hq : q = k + cntL (celsE cRec (L.take j))) :
    ∃ (g off : Nat), a = some ⟨g, off, none⟩ ∧ g < w.heap.size ∧ w.cell? ⟨g, off + j * 3, none⟩ = some (.int .i64 ((q : Int))) ∧ w.cell? ⟨g, off + j * 3 + 1, none⟩ = some (.int .i64 ((q : Int) + 1)) ∧ w.cell? ⟨g, off + j * 3 + 2, none⟩ = some (.string (markT ((q + 1) + 1))) := by
  obtain ⟨g, off, vs, ha, hg, hr, hc⟩ := rowM_at h (by decide) j hj
  rw [← hq] at hr
  obtain ⟨v0, r0, e0, h0, v1, r1, e1, h1, v2, r2, e2, h2, hend⟩ := hr
  have hend' : r2 = [] := hend
  rw [hend'] at e2
  rw [e2] at e1
  rw [e1] at e0
  subst e0
  exact ⟨g, off, ha, hg, (by have h9 := hc 0 _ rfl; rw [show v0 = _ from h0] at h9; exact h9), (by have h9 := hc 1 _ rfl; rw [show v1 = _ from h1] at h9; exact h9), (by have h9 := hc 2 _ rfl; rw [show v2 = _ from h2] at h9; exact h9)⟩
set_option maxRecDepth 100000 in
set_option maxHeartbeats 1000000 in
theorem heldRecS_any (v : Value) (L : List RecR) (k : Nat) (kz : Int) (w : World) (hkz : kz = (k : Int)) (h0 : 0 < k) (hk : k + (celRow cRec L).cnt ≤ 100000000) (hz : (celRow cRec L).sz ≤ 100000000) (hs : ((celRow cRec L).mk k).Rd w v) :
    Calls Tryz.prog 151 #[v, .int .i64 kz] w fun e w' => e = .returned (.int .i64 ((k + (celRow cRec L).cnt : Nat) : Int)) ∧ Below w.heap.size w w' := by
  subst hkz
  obtain ⟨a, n, c, rfl, hn⟩ := rowK_form hs
  have HN := Lib.hid hn
  have HC : Hid ((celRow cRec L).cnt = cntL (celsE cRec L)) := Lib.hid rfl
  have hk' : k + cntL (celsE cRec L) ≤ 100000000 := hk
  have hz' : n + szL (celsE cRec L) ≤ 100000000 := by rw [← hn]; exact hz
  have hn9 : n ≤ 100000000 := by omega
  have HZ : Hid (szL (celsE cRec L) ≤ 100000000) := Lib.hid (by omega)
  have HS := Lib.hid hs
  clear hn hs hk hz hz'
  go_enter Tryz.func151, Tryz.ntmps151
  go_wp2
  go_loopw [1, 5] (fun kv iv wr => ∃ (j q : Nat), j ≤ n ∧ 0 < q ∧ q ≤ 100000000 ∧ Hid (q = k + cntL (celsE cRec (L.take j))) ∧ iv = .int .i64 j ∧ kv = .int .i64 q ∧ Below w.heap.size w wr) (fun _ iv _ => n - (intOf iv).toNat)
  case atStart => exact ⟨0, k, Nat.zero_le _, h0, by omega, Lib.hid (by simp only [List.take_zero, celsE, cntL]; rfl), rfl, rfl, Below.refl _ _⟩
  case round =>
    obtain ⟨j, q, hj, hq0, hq9, HQ, rfl, rfl, hbel⟩ := hrel
    by_cases hlt : j < n
    · have hjL : j < L.length := by rw [HN.out]; exact hlt
      have HX := Lib.hid (cntL_next cRec hjL)
      have hm := cntL_take cRec L (j + 1)
      have HY := Lib.hid (Nat.le_trans (szL_at cRec L j hjL) HZ.out)
      obtain ⟨g, off, rfl, hg, d0, d1, d2⟩ := cRec_m (Cel.Rd.later hbel _ _ HS.out) j q hlt HQ.out
      obtain ⟨x, hx⟩ : ∃ x, L.getD j default = x := ⟨_, rfl⟩
      rw [hx] at HX HY 
      have hm2 : q + cntL (cRec.cels x) ≤ 100000000 := by have := HQ.out; have := HX.out; omega
      have HM2 := Lib.hid hm2
      have hm3 : q + 3 ≤ 100000000 := by have : cntL (cRec.cels x) = (1 + (1 + (1 + 0))) := rfl; omega
      clear hx hjL hm hm2
      go_wp2
      have hc1s : Hid (((q : Int) + 1 + 1) = (((q + 2) : Nat) : Int)) := Lib.hid (by omega)
      go_region_with (go_at_call 148; refine (markText_n ((q : Int) + 1 + 1) (q + 2) _ hc1s.out (by omega) (by omega)).mono ?_; rintro e w1x ⟨rfl, hb⟩; have n1_2 := (hb.cell (p := ⟨g, off + j * 3 + 2, none⟩) hg).trans d2)
      all_goals
        have B1 : Below w.heap.size w w1x := hbel.drew.trans (hb.mono hbel.size)
        have hg1 : g < w1x.heap.size := Nat.lt_of_lt_of_le hg hb.size
        clear d0 d1 d2 hb
        go_wp2
        have HR : Hid ((q + 3) = k + cntL (celsE cRec (L.take (j + 1)))) := Lib.hid (by have := HQ.out; have := HX.out; have : cntL (cRec.cels x) = (1 + (1 + (1 + 0))) := rfl; omega)
        have hr9 : (q + 3) ≤ 100000000 := by have := HM2.out; have : cntL (cRec.cels x) = (1 + (1 + (1 + 0))) := rfl; omega
        go_roundw
        case rel => exact ⟨j + 1, (q + 3), by omega, by omega, hr9, HR, by go_num, by go_num, B1⟩
        case measure => (simp [intOf]; try omega)
    · obtain rfl : j = n := by omega
      go_wp2
      go_ret
      exact ⟨ret_i64m (by have := HQ.out; rw [List.take_of_length_le (by rw [HN.out]; omega)] at this; rw [HC.out]; omega), hbel⟩

end Go.Proofs.YtkfkjcadmdcbnaaGreatDoor
namespace Go.Proofs.YtkfkjcadmdcbnaaGreatDoor
open Go.RowKit Go.Proofs.YtkfkjcadmdcbnaaGreatDoor.Parts Go.Proofs.YtkfkjcadmdcbnaaGreatDoor.Hexa

theorem cEntry_m {w : World} {L : List EntryR} {a : Option Addr} {n c k : Nat} (h : ((celRow cEntry L).mk k).Rd w (.slice a n c)) (j q : Nat) (hj : j < n) (hq : q = k + cntL (celsE cEntry (L.take j))) :
    ∃ (g off : Nat), a = some ⟨g, off, none⟩ ∧ g < w.heap.size ∧ w.cell? ⟨g, off + j * 2, none⟩ = some (.int .i64 ((q : Int))) ∧ w.cell? ⟨g, off + j * 2 + 1, none⟩ = some (.string (markT (q + 1))) := by
  obtain ⟨g, off, vs, ha, hg, hr, hc⟩ := rowM_at h (by decide) j hj
  rw [← hq] at hr
  obtain ⟨v0, r0, e0, h0, v1, r1, e1, h1, hend⟩ := hr
  have hend' : r1 = [] := hend
  rw [hend'] at e1
  rw [e1] at e0
  subst e0
  exact ⟨g, off, ha, hg, (by have h9 := hc 0 _ rfl; rw [show v0 = _ from h0] at h9; exact h9), (by have h9 := hc 1 _ rfl; rw [show v1 = _ from h1] at h9; exact h9)⟩
set_option maxRecDepth 100000 in
set_option maxHeartbeats 1000000 in
theorem heldEntryS_any (v : Value) (L : List EntryR) (k : Nat) (kz : Int) (w : World) (hkz : kz = (k : Int)) (h0 : 0 < k) (hk : k + (celRow cEntry L).cnt ≤ 100000000) (hz : (celRow cEntry L).sz ≤ 100000000) (hs : ((celRow cEntry L).mk k).Rd w v) :
    Calls Tryz.prog 152 #[v, .int .i64 kz] w fun e w' => e = .returned (.int .i64 ((k + (celRow cEntry L).cnt : Nat) : Int)) ∧ Below w.heap.size w w' := by
  subst hkz
  obtain ⟨a, n, c, rfl, hn⟩ := rowK_form hs
  have HN := Lib.hid hn
  have HC : Hid ((celRow cEntry L).cnt = cntL (celsE cEntry L)) := Lib.hid rfl
  have hk' : k + cntL (celsE cEntry L) ≤ 100000000 := hk
  have hz' : n + szL (celsE cEntry L) ≤ 100000000 := by rw [← hn]; exact hz
  have hn9 : n ≤ 100000000 := by omega
  have HZ : Hid (szL (celsE cEntry L) ≤ 100000000) := Lib.hid (by omega)
  have HS := Lib.hid hs
  clear hn hs hk hz hz'
  go_enter Tryz.func152, Tryz.ntmps152
  go_wp2
  go_loopw [1, 5] (fun kv iv wr => ∃ (j q : Nat), j ≤ n ∧ 0 < q ∧ q ≤ 100000000 ∧ Hid (q = k + cntL (celsE cEntry (L.take j))) ∧ iv = .int .i64 j ∧ kv = .int .i64 q ∧ Below w.heap.size w wr) (fun _ iv _ => n - (intOf iv).toNat)
  case atStart => exact ⟨0, k, Nat.zero_le _, h0, by omega, Lib.hid (by simp only [List.take_zero, celsE, cntL]; rfl), rfl, rfl, Below.refl _ _⟩
  case round =>
    obtain ⟨j, q, hj, hq0, hq9, HQ, rfl, rfl, hbel⟩ := hrel
    by_cases hlt : j < n
    · have hjL : j < L.length := by rw [HN.out]; exact hlt
      have HX := Lib.hid (cntL_next cEntry hjL)
      have hm := cntL_take cEntry L (j + 1)
      have HY := Lib.hid (Nat.le_trans (szL_at cEntry L j hjL) HZ.out)
      obtain ⟨g, off, rfl, hg, d0, d1⟩ := cEntry_m (Cel.Rd.later hbel _ _ HS.out) j q hlt HQ.out
      obtain ⟨x, hx⟩ : ∃ x, L.getD j default = x := ⟨_, rfl⟩
      rw [hx] at HX HY 
      have hm2 : q + cntL (cEntry.cels x) ≤ 100000000 := by have := HQ.out; have := HX.out; omega
      have HM2 := Lib.hid hm2
      have hm3 : q + 2 ≤ 100000000 := by have : cntL (cEntry.cels x) = (1 + (1 + 0)) := rfl; omega
      clear hx hjL hm hm2
      go_wp2
      have hc1s : Hid (((q : Int) + 1) = (((q + 1) : Nat) : Int)) := Lib.hid (by omega)
      go_region_with (go_at_call 148; refine (markText_n ((q : Int) + 1) (q + 1) _ hc1s.out (by omega) (by omega)).mono ?_; rintro e w1x ⟨rfl, hb⟩; have n1_1 := (hb.cell (p := ⟨g, off + j * 2 + 1, none⟩) hg).trans d1)
      all_goals
        have B1 : Below w.heap.size w w1x := hbel.drew.trans (hb.mono hbel.size)
        have hg1 : g < w1x.heap.size := Nat.lt_of_lt_of_le hg hb.size
        clear d0 d1 hb
        go_wp2
        have HR : Hid ((q + 2) = k + cntL (celsE cEntry (L.take (j + 1)))) := Lib.hid (by have := HQ.out; have := HX.out; have : cntL (cEntry.cels x) = (1 + (1 + 0)) := rfl; omega)
        have hr9 : (q + 2) ≤ 100000000 := by have := HM2.out; have : cntL (cEntry.cels x) = (1 + (1 + 0)) := rfl; omega
        go_roundw
        case rel => exact ⟨j + 1, (q + 2), by omega, by omega, hr9, HR, by go_num, by go_num, B1⟩
        case measure => (simp [intOf]; try omega)
    · obtain rfl : j = n := by omega
      go_wp2
      go_ret
      exact ⟨ret_i64m (by have := HQ.out; rw [List.take_of_length_le (by rw [HN.out]; omega)] at this; rw [HC.out]; omega), hbel⟩

end Go.Proofs.YtkfkjcadmdcbnaaGreatDoor
namespace Go.Proofs.YtkfkjcadmdcbnaaGreatDoor
open Go.RowKit Go.Proofs.YtkfkjcadmdcbnaaGreatDoor.Parts Go.Proofs.YtkfkjcadmdcbnaaGreatDoor.Hexa

theorem cIno_m {w : World} {L : List InoR} {a : Option Addr} {n c k : Nat} (h : ((celRow cIno L).mk k).Rd w (.slice a n c)) (j q : Nat) (hj : j < n) (hq : q = k + cntL (celsE cIno (L.take j))) :
    ∃ (g off : Nat) (a4 : Option Addr) (c4 : Nat) (a5 : Option Addr) (c5 : Nat), a = some ⟨g, off, none⟩ ∧ g < w.heap.size ∧ w.cell? ⟨g, off + j * 6, none⟩ = some (.int .i64 ((q : Int))) ∧ w.cell? ⟨g, off + j * 6 + 1, none⟩ = some (.int .i64 ((q : Int) + 1)) ∧ w.cell? ⟨g, off + j * 6 + 2, none⟩ = some (.int .i64 ((q : Int) + 1 + 1)) ∧ w.cell? ⟨g, off + j * 6 + 3, none⟩ = some (.string (markT (((q + 1) + 1) + 1))) ∧ w.cell? ⟨g, off + j * 6 + 4, none⟩ = some (.slice a4 (L.getD j default).R.length c4) ∧ w.cell? ⟨g, off + j * 6 + 5, none⟩ = some (.slice a5 (L.getD j default).E.length c5) ∧ ((celRow cRec (L.getD j default).R).mk ((((q + 1) + 1) + 1) + 1)).Rd w (.slice a4 (L.getD j default).R.length c4) ∧ ((celRow cEntry (L.getD j default).E).mk (((((q + 1) + 1) + 1) + 1) + (celRow cRec (L.getD j default).R).cnt)).Rd w (.slice a5 (L.getD j default).E.length c5) := by
  obtain ⟨g, off, vs, ha, hg, hr, hc⟩ := rowM_at h (by decide) j hj
  rw [← hq] at hr
  obtain ⟨v0, r0, e0, h0, v1, r1, e1, h1, v2, r2, e2, h2, v3, r3, e3, h3, v4, r4, e4, h4, v5, r5, e5, h5, hend⟩ := hr
  obtain ⟨a4, n4, c4, f4, g4⟩ := rowK_form h4
  subst f4 g4
  obtain ⟨a5, n5, c5, f5, g5⟩ := rowK_form h5
  subst f5 g5
  have hend' : r5 = [] := hend
  rw [hend'] at e5
  rw [e5] at e4
  rw [e4] at e3
  rw [e3] at e2
  rw [e2] at e1
  rw [e1] at e0
  subst e0
  exact ⟨g, off, a4, c4, a5, c5, ha, hg, (by have h9 := hc 0 _ rfl; rw [show v0 = _ from h0] at h9; exact h9), (by have h9 := hc 1 _ rfl; rw [show v1 = _ from h1] at h9; exact h9), (by have h9 := hc 2 _ rfl; rw [show v2 = _ from h2] at h9; exact h9), (by have h9 := hc 3 _ rfl; rw [show v3 = _ from h3] at h9; exact h9), hc 4 _ rfl, hc 5 _ rfl, h4, h5⟩
set_option maxRecDepth 100000 in
set_option maxHeartbeats 1000000 in
theorem heldInoS_any (v : Value) (L : List InoR) (k : Nat) (kz : Int) (w : World) (hkz : kz = (k : Int)) (h0 : 0 < k) (hk : k + (celRow cIno L).cnt ≤ 100000000) (hz : (celRow cIno L).sz ≤ 100000000) (hs : ((celRow cIno L).mk k).Rd w v) :
    Calls Tryz.prog 91 #[v, .int .i64 kz] w fun e w' => e = .returned (.int .i64 ((k + (celRow cIno L).cnt : Nat) : Int)) ∧ Below w.heap.size w w' := by
  subst hkz
  obtain ⟨a, n, c, rfl, hn⟩ := rowK_form hs
  have HN := Lib.hid hn
  have HC : Hid ((celRow cIno L).cnt = cntL (celsE cIno L)) := Lib.hid rfl
  have hk' : k + cntL (celsE cIno L) ≤ 100000000 := hk
  have hz' : n + szL (celsE cIno L) ≤ 100000000 := by rw [← hn]; exact hz
  have hn9 : n ≤ 100000000 := by omega
  have HZ : Hid (szL (celsE cIno L) ≤ 100000000) := Lib.hid (by omega)
  have HS := Lib.hid hs
  clear hn hs hk hz hz'
  go_enter Tryz.func91, Tryz.ntmps91
  go_wp2
  go_loopw [1, 5] (fun kv iv wr => ∃ (j q : Nat), j ≤ n ∧ 0 < q ∧ q ≤ 100000000 ∧ Hid (q = k + cntL (celsE cIno (L.take j))) ∧ iv = .int .i64 j ∧ kv = .int .i64 q ∧ Below w.heap.size w wr) (fun _ iv _ => n - (intOf iv).toNat)
  case atStart => exact ⟨0, k, Nat.zero_le _, h0, by omega, Lib.hid (by simp only [List.take_zero, celsE, cntL]; rfl), rfl, rfl, Below.refl _ _⟩
  case round =>
    obtain ⟨j, q, hj, hq0, hq9, HQ, rfl, rfl, hbel⟩ := hrel
    by_cases hlt : j < n
    · have hjL : j < L.length := by rw [HN.out]; exact hlt
      have HX := Lib.hid (cntL_next cIno hjL)
      have hm := cntL_take cIno L (j + 1)
      have HY := Lib.hid (Nat.le_trans (szL_at cIno L j hjL) HZ.out)
      obtain ⟨g, off, a4, c4, a5, c5, rfl, hg, d0, d1, d2, d3, d4, d5, r4, r5⟩ := cIno_m (Cel.Rd.later hbel _ _ HS.out) j q hlt HQ.out
      obtain ⟨x, hx⟩ : ∃ x, L.getD j default = x := ⟨_, rfl⟩
      rw [hx] at HX HY d4 r4 d5 r5
      have hm2 : q + cntL (cIno.cels x) ≤ 100000000 := by have := HQ.out; have := HX.out; omega
      have HM2 := Lib.hid hm2
      have hm3 : q + 4 ≤ 100000000 := by have : cntL (cIno.cels x) = (1 + (1 + (1 + (1 + ((celRow cRec x.R).cnt + ((celRow cEntry x.E).cnt + 0)))))) := rfl; omega
      clear hx hjL hm hm2
      go_wp2
      have hc1s : Hid (((q : Int) + 1 + 1 + 1) = (((q + 3) : Nat) : Int)) := Lib.hid (by omega)
      go_region_with (go_at_call 148; refine (markText_n ((q : Int) + 1 + 1 + 1) (q + 3) _ hc1s.out (by omega) (by omega)).mono ?_; rintro e w1x ⟨rfl, hb⟩; have n1_3 := (hb.cell (p := ⟨g, off + j * 6 + 3, none⟩) hg).trans d3; have n1_4 := (hb.cell (p := ⟨g, off + j * 6 + 4, none⟩) hg).trans d4; have n1_5 := (hb.cell (p := ⟨g, off + j * 6 + 5, none⟩) hg).trans d5)
      all_goals
        have B1 : Below w.heap.size w w1x := hbel.drew.trans (hb.mono hbel.size)
        have hg1 : g < w1x.heap.size := Nat.lt_of_lt_of_le hg hb.size
        have rr1_4 := Cel.Rd.later hb _ _ (Cel.Rd.drew r4)
        have rr1_5 := Cel.Rd.later hb _ _ (Cel.Rd.drew r5)
        clear d0 d1 d2 d3 d4 d5 hb
        go_wp2_with fail
        refine (heldRecS_any _ x.R (q + 4) _ _ (by omega) (by omega) (by have := HM2.out; have : cntL (cIno.cels x) = (1 + (1 + (1 + (1 + ((celRow cRec x.R).cnt + ((celRow cEntry x.E).cnt + 0)))))) := rfl; omega) (by have := HY.out; rw [cIno_sz] at this; omega) (by have h9 := rr1_4; rw [show ((((q + 1) + 1) + 1) + 1) = (q + 4) by omega] at h9; exact h9)).mono ?_
        rintro e w2x ⟨he, hb⟩
        obtain ⟨q4, hq4⟩ : ∃ y, (q + 4) + (celRow cRec x.R).cnt = y := ⟨_, rfl⟩
        rw [hq4] at he
        subst he
        have HQ4 := Lib.hid hq4
        have hl4 : q4 + 0 ≤ 100000000 := by have := HM2.out; have : cntL (cIno.cels x) = (1 + (1 + (1 + (1 + ((celRow cRec x.R).cnt + ((celRow cEntry x.E).cnt + 0)))))) := rfl; omega
        have hb4 : 0 < q4 := by omega
        have hc4 : ¬ ((q4 : Int) < 0) := by omega
        have B2 : Below w.heap.size w w2x := B1.trans (hb.mono B1.size)
        have n2_5 := (hb.cell (p := ⟨g, off + j * 6 + 5, none⟩) (by have := B1.size; omega)).trans n1_5
        have hg2 : g < w2x.heap.size := Nat.lt_of_lt_of_le hg1 hb.size
        have rr2_5 := Cel.Rd.later hb _ _ rr1_5
        clear n1_3 n1_4 n1_5 hb hq4
        go_wp2_with fail
        refine (heldEntryS_any _ x.E q4 _ _ (by omega) (by omega) (by have := HM2.out; have := HQ4.out; have : cntL (cIno.cels x) = (1 + (1 + (1 + (1 + ((celRow cRec x.R).cnt + ((celRow cEntry x.E).cnt + 0)))))) := rfl; omega) (by have := HY.out; rw [cIno_sz] at this; omega) (by have := HQ4.out; have h9 := rr2_5; rw [show (((((q + 1) + 1) + 1) + 1) + (celRow cRec x.R).cnt) = q4 by omega] at h9; exact h9)).mono ?_
        rintro e w3x ⟨he, hb⟩
        obtain ⟨q5, hq5⟩ : ∃ y, q4 + (celRow cEntry x.E).cnt = y := ⟨_, rfl⟩
        rw [hq5] at he
        subst he
        have HQ5 := Lib.hid hq5
        have hl5 : q5 + 0 ≤ 100000000 := by have := HM2.out; have := HQ4.out; have : cntL (cIno.cels x) = (1 + (1 + (1 + (1 + ((celRow cRec x.R).cnt + ((celRow cEntry x.E).cnt + 0)))))) := rfl; omega
        have hb5 : 0 < q5 := by omega
        have hc5 : ¬ ((q5 : Int) < 0) := by omega
        have B3 : Below w.heap.size w w3x := B2.trans (hb.mono B2.size)
        have hg3 : g < w3x.heap.size := Nat.lt_of_lt_of_le hg2 hb.size
        clear n2_5 hb hq5
        go_wp2
        have HR : Hid (q5 = k + cntL (celsE cIno (L.take (j + 1)))) := Lib.hid (by have := HQ.out; have := HX.out; have := HQ4.out; have := HQ5.out; have : cntL (cIno.cels x) = (1 + (1 + (1 + (1 + ((celRow cRec x.R).cnt + ((celRow cEntry x.E).cnt + 0)))))) := rfl; omega)
        have hr9 : q5 ≤ 100000000 := by have := HM2.out; have := HQ4.out; have := HQ5.out; have : cntL (cIno.cels x) = (1 + (1 + (1 + (1 + ((celRow cRec x.R).cnt + ((celRow cEntry x.E).cnt + 0)))))) := rfl; omega
        go_roundw
        case rel => exact ⟨j + 1, q5, by omega, by omega, hr9, HR, by go_num, by go_num, B3⟩
        case measure => (simp [intOf]; try omega)
    · obtain rfl : j = n := by omega
      go_wp2
      go_ret
      exact ⟨ret_i64m (by have := HQ.out; rw [List.take_of_length_le (by rw [HN.out]; omega)] at this; rw [HC.out]; omega), hbel⟩

end Go.Proofs.YtkfkjcadmdcbnaaGreatDoor
namespace Go.Proofs.YtkfkjcadmdcbnaaGreatDoor
open Go.RowKit Go.Proofs.YtkfkjcadmdcbnaaGreatDoor.Parts Go.Proofs.YtkfkjcadmdcbnaaGreatDoor.Hexa

set_option maxRecDepth 100000 in
set_option maxHeartbeats 1000000 in
theorem heldPart_st (x : PartR) (a1 : Option Addr) (c1 : Nat) (a2 : Option Addr) (c2 : Nat) (k : Nat) (kz : Int) (w : World) (hkz : kz = (k : Int)) (h0 : 0 < k) (hk : k + ((celRow cInt x.st).cnt + ((celRow cIno x.ino).cnt + 0)) ≤ 100000000) (hz : szL (cPart.cels x) ≤ 100000000) (hr : RdL w (mkTop (cPart.cels x) k) [.int .i64 x.ser, .slice a1 x.st.length c1, .slice a2 x.ino.length c2]) :
    Calls Tryz.prog 30 #[.agg #[.int .i64 x.ser, .slice a1 x.st.length c1, .slice a2 x.ino.length c2], .int .i64 kz] w fun e w' => e = .returned (.int .i64 ((k + ((celRow cInt x.st).cnt + ((celRow cIno x.ino).cnt + 0)) : Nat) : Int)) ∧ Below w.heap.size w w' := by
  subst hkz
  replace hr := (rd_cons hr).2
  obtain ⟨h1, hr⟩ := rd_cons hr
  obtain ⟨h2, hr⟩ := rd_cons hr
  have HS1 : Hid (((celRow cInt x.st).mk k).Rd w (.slice a1 x.st.length c1)) := Lib.hid h1
  have HS2 : Hid (((celRow cIno x.ino).mk (k + (celRow cInt x.st).cnt)).Rd w (.slice a2 x.ino.length c2)) := Lib.hid h2
  have HZ := Lib.hid hz
  have HK := Lib.hid hk
  clear hr hz hk h1 h2
  have B0 := Lib.hid (below_bk w (.cells #[.int .i64 x.ser, .slice a1 x.st.length c1, .slice a2 x.ino.length c2] 52))
  have T0 := Lib.hid (Bk.alloc w #[.int .i64 x.ser, .slice a1 x.st.length c1, .slice a2 x.ino.length c2] 52)
  go_enter Tryz.func30, Tryz.ntmps30
  go_wp2_with fail
  refine (heldIntS_any _ x.st k _ _ (by omega) (by omega) (by have := HK.out; omega) (by have := HZ.out; rw [cPart_sz] at this; omega) (Cel.Rd.later B0.out _ _ HS1.out)).mono ?_
  rintro e w1 ⟨he, hb⟩
  obtain ⟨k1, hq1⟩ : ∃ y, k + (celRow cInt x.st).cnt = y := ⟨_, rfl⟩
  rw [hq1] at he
  subst he
  have HQ1 := Lib.hid hq1
  have hb1 : 0 < k1 := by omega
  have hl1 : k1 ≤ 100000000 := by have := HK.out; omega
  have hm1 : ¬ ((k1 : Int) < 0) := by omega
  have T1 := Lib.hid (T0.out.later hb)
  have B1 : Hid (Below w.heap.size w w1) := Lib.hid (B0.out.trans (hb.mono B0.out.size))
  have d1 := T1.out.cell (j := 2) rfl
  clear hb hq1
  go_wp2_with fail
  refine (heldInoS_any _ x.ino k1 _ _ (by omega) (by omega) (by have := HK.out; have := HQ1.out; omega) (by have := HZ.out; rw [cPart_sz] at this; omega) (by have h9 := HS2.out; rw [show (k + (celRow cInt x.st).cnt) = k1 by have := HQ1.out; omega] at h9; exact Cel.Rd.later B1.out _ _ h9)).mono ?_
  rintro e w2 ⟨he, hb⟩
  obtain ⟨k2, hq2⟩ : ∃ y, k1 + (celRow cIno x.ino).cnt = y := ⟨_, rfl⟩
  rw [hq2] at he
  subst he
  have HQ2 := Lib.hid hq2
  have hb2 : 0 < k2 := by omega
  have hl2 : k2 ≤ 100000000 := by have := HK.out; have := HQ1.out; omega
  have hm2 : ¬ ((k2 : Int) < 0) := by omega
  have T2 := Lib.hid (T1.out.later hb)
  have B2 : Hid (Below w.heap.size w w2) := Lib.hid (B1.out.trans (hb.mono B1.out.size))
  clear hb hq2
  go_wp2
  go_ret
  exact ⟨ret_i64m (by have := HQ1.out; have := HQ2.out; omega), B2.out⟩
end Go.Proofs.YtkfkjcadmdcbnaaGreatDoor
namespace Go.Proofs.YtkfkjcadmdcbnaaGreatDoor
open Go.RowKit

set_option maxRecDepth 100000 in
set_option maxHeartbeats 1000000 in
theorem toGeo_any (T P I Q : Int) (w : World) : Calls Tryz.prog 24 #[.agg #[.int .i64 T, .int .i64 P, .int .i64 I, .int .i64 Q]] w fun e w' => e = .returned (.agg #[.int .i64 T, .int .i64 P, .int .i64 I, .int .i64 Q]) ∧ Below w.heap.size w w' := by
  go_enter Tryz.func24, Tryz.ntmps24
  go_wp2
  refine bodyPost_ret (v := .agg #[.int .i64 T, .int .i64 P, .int .i64 I, .int .i64 Q]) ?_ rfl ⟨rfl, ?_⟩
  · simp [results, Tryz.results24, go_sem]
  · exact (((Below.refl _ _).alloc (Nat.le_refl _) _).alloc (by simp) _).alloc (by simp; omega) _
end Go.Proofs.YtkfkjcadmdcbnaaGreatDoor

namespace Go.Proofs.YtkfkjcadmdcbnaaGreatDoor
open Go.RowKit Go.Proofs.YtkfkjcadmdcbnaaGreatDoor.Parts Go.Proofs.YtkfkjcadmdcbnaaGreatDoor.Hexa

set_option maxRecDepth 100000 in
set_option maxHeartbeats 4000000 in
theorem readPart_law (m : MemR) (a1_m : Option Addr) (c1_m : Nat) (Tg Pg Ig Qg : Int) (t : Int) (w : World) (ht_m : TyL (cMem.cels m)) (h1_m : (celRow cCell m.cells).Rd w (.slice a1_m m.cells.length c1_m)) :
    Calls Tryz.prog 4 #[.agg #[.string m.text, .slice a1_m m.cells.length c1_m], .agg #[.int .i64 Tg, .int .i64 Pg, .int .i64 Ig, .int .i64 Qg], .int .i64 t] w fun e w' => e = .returned (.bool true) ∧ Below w.heap.size w w' := by
  have HT_m := Lib.hid ht_m
  clear ht_m
  have HS1_m := Lib.hid h1_m
  clear h1_m
  obtain ⟨r, hr⟩ : ∃ d, rpR m.text m.cells Tg Pg Ig Qg t = d := ⟨_, rfl⟩
  obtain ⟨rb, hrb⟩ : ∃ d, rpB m.text m.cells Tg Pg Ig Qg t = d := ⟨_, rfl⟩
  have HR := Lib.hid hr
  have HRB := Lib.hid hrb
  have HRZ : Hid (szL (cPart.cels r) ≤ 100000000) := Lib.hid (by rw [← hr]; exact Nat.le_trans (rp_sz m.text m.cells Tg Pg Ig Qg t) (by decide))
  have HRC : Hid (1 + cntTop (cPart.cels r) ≤ 100000000) := Lib.hid (by rw [← hr]; exact rp_marks m.text m.cells Tg Pg Ig Qg t)
  clear hr hrb
  have Xm_0 := Lib.hid ((Bk.alloc w #[.string m.text, .slice a1_m m.cells.length c1_m] 46).later (below_bk (w.alloc (.cells #[.string m.text, .slice a1_m m.cells.length c1_m] 46)) (.cells #[.int .i64 Tg, .int .i64 Pg, .int .i64 Ig, .int .i64 Qg] 47)))
  have Xg_0 : Hid (Bk ((w.alloc (.cells #[.string m.text, .slice a1_m m.cells.length c1_m] 46)).alloc (.cells #[.int .i64 Tg, .int .i64 Pg, .int .i64 Ig, .int .i64 Qg] 47)) (w.heap.size + 1) #[.int .i64 Tg, .int .i64 Pg, .int .i64 Ig, .int .i64 Qg] 47) := Lib.hid (by have h := (Bk.alloc (w.alloc (.cells #[.string m.text, .slice a1_m m.cells.length c1_m] 46)) #[.int .i64 Tg, .int .i64 Pg, .int .i64 Ig, .int .i64 Qg] 47); simpa using h)
  have BW_0 := Lib.hid ((below_bk w (.cells #[.string m.text, .slice a1_m m.cells.length c1_m] 46)).alloc (by simp) (.cells #[.int .i64 Tg, .int .i64 Pg, .int .i64 Ig, .int .i64 Qg] 47))
  go_enter Tryz.func4, Tryz.ntmps4
  have dm0 := Xm_0.out.cell (j := 0) rfl
  have dm1 := Xm_0.out.cell (j := 1) rfl
  have dg0 := Xg_0.out.cell (j := 0) rfl
  have dg1 := Xg_0.out.cell (j := 1) rfl
  have dg2 := Xg_0.out.cell (j := 2) rfl
  have dg3 := Xg_0.out.cell (j := 3) rfl
  go_wp2_with fail
  obtain ⟨V0, hV⟩ : ∃ y, y = ((w.alloc (.cells #[.string m.text, .slice a1_m m.cells.length c1_m] 46)).alloc (.cells #[.int .i64 Tg, .int .i64 Pg, .int .i64 Ig, .int .i64 Qg] 47)) := ⟨_, rfl⟩
  clear dm0 dm1 dg0 dg1 dg2 dg3
  rw [← hV] at Xm_0 Xg_0 BW_0 ⊢
  have SZ_V0 : Hid (w.heap.size + 2 ≤ V0.heap.size) := Lib.hid (by rw [hV]; simp)
  clear hV
  refine (szMem_st m a1_m c1_m 1048576 _ (by decide) (by decide) (Cel.Rd.later BW_0.out _ _ HS1_m.out) HT_m.out).mono ?_
  rintro e w1 ⟨l_m, rfl, hr, hb⟩
  have Xm_1 := Lib.hid (Xm_0.out.later hb)
  have Xg_1 := Lib.hid (Xg_0.out.later hb)
  have BW_1 : Hid (Below w.heap.size w w1) := Lib.hid (BW_0.out.trans (hb.mono BW_0.out.size))
  have SZ_w1 : Hid (V0.heap.size ≤ w1.heap.size) := Lib.hid hb.size
  clear hb Xm_0 Xg_0 BW_0
  rcases hr with hr | ⟨hl0, hl1⟩
  · go_wp2
    go_ret
    exact ⟨rfl, BW_1.out⟩
  have HZ_m : Hid (szL (cMem.cels m) ≤ 1048576) := Lib.hid (by omega)
  have HZB_m : Hid (szL (cMem.cels m) ≤ 100000000) := Lib.hid (by omega)
  have hq_m : ¬ (l_m < 0) := by omega
  have hp_m : l_m ≤ 1048576 := by omega
  clear hl1
  have HML : Hid (m.cells.length ≤ 1048600) := Lib.hid (mem_len HZ_m.out)
  have HMK : Hid (m.text.size ≤ 1048600) := Lib.hid (mem_text HZ_m.out)
  have HMC : Hid (1 + cntTop (cMem.cels m) ≤ 100000000) := Lib.hid (mem_marks HML.out)
  have dm0 := Xm_1.out.cell (j := 0) rfl
  have dm1 := Xm_1.out.cell (j := 1) rfl
  have dg0 := Xg_1.out.cell (j := 0) rfl
  have dg1 := Xg_1.out.cell (j := 1) rfl
  have dg2 := Xg_1.out.cell (j := 2) rfl
  have dg3 := Xg_1.out.cell (j := 3) rfl
  go_upto_region 5 with fail
  clear dm0 dm1 dg0 dg1 dg2 dg3
  go_cut [8, 9] (fun pv bv wx => PartCut w1 r rb pv bv wx)
  case first =>
    have KP : Hid (∀ w', Below w1.heap.size w1 w' → w'.cell? ⟨w.heap.size, 0, none⟩ = some (.string m.text) ∧ w'.cell? ⟨w.heap.size, 1, none⟩ = some (.slice a1_m m.cells.length c1_m) ∧ w'.cell? ⟨w.heap.size + 1, 0, none⟩ = some (.int .i64 Tg) ∧ w'.cell? ⟨w.heap.size + 1, 1, none⟩ = some (.int .i64 Pg) ∧ w'.cell? ⟨w.heap.size + 1, 2, none⟩ = some (.int .i64 Ig) ∧ w'.cell? ⟨w.heap.size + 1, 3, none⟩ = some (.int .i64 Qg)) := Lib.hid (fun w' hb => ⟨(Xm_1.out.later hb).cell rfl, (Xm_1.out.later hb).cell rfl, (Xg_1.out.later hb).cell rfl, (Xg_1.out.later hb).cell rfl, (Xg_1.out.later hb).cell rfl, (Xg_1.out.later hb).cell rfl⟩)
    have BD : Hid (Below w1.heap.size w1 w1.drew) := Lib.hid (Below.refl _ _).drew
    go_region_held3 (fun w' => w'.cell? ⟨w.heap.size, 0, none⟩ = some (.string m.text) ∧ w'.cell? ⟨w.heap.size, 1, none⟩ = some (.slice a1_m m.cells.length c1_m) ∧ w'.cell? ⟨w.heap.size + 1, 0, none⟩ = some (.int .i64 Tg) ∧ w'.cell? ⟨w.heap.size + 1, 1, none⟩ = some (.int .i64 Pg) ∧ w'.cell? ⟨w.heap.size + 1, 2, none⟩ = some (.int .i64 Ig) ∧ w'.cell? ⟨w.heap.size + 1, 3, none⟩ = some (.int .i64 Qg))
      (first
        | with_reducible exact KP.out _ BD.out
        | with_reducible exact KP.out _ (below_alB BD.out _)
        | with_reducible exact KP.out _ (be3 BD.out NG.out)
        | with_reducible exact KP.out _ (below_bk _ _).drew)
      (first
        | (go_at_call 23; (with_reducible refine (toMem_st m a1_m c1_m _ (by first | with_reducible exact Cel.Rd.later (BW_1.out.trans (BD.out.mono BW_1.out.size)) _ _ HS1_m.out | exact Cel.Rd.later (BW_1.out.trans ((below_alB BD.out _).mono BW_1.out.size)) _ _ HS1_m.out | exact Cel.Rd.later (BW_1.out.trans ((below_bk w1 _).drew.mono BW_1.out.size)) _ _ HS1_m.out) HZ_m.out).mono ?_); rintro e wM ⟨vs, rfl, ho, hb⟩; obtain ⟨a1_k9, c1_k9, rfl, _⟩ := cMem_form ho.rd; have RM := Lib.hid (cMem_un ho.rd); (first | (have BD : Hid (Below w1.heap.size w1 wM) := Lib.hid (by with_reducible exact BD.out.trans (hb.mono BD.out.size)); have NB := Lib.hid (NB.out.later hb)) | (have BD : Hid (Below w1.heap.size w1 wM) := Lib.hid (by with_reducible exact BD.out.trans (hb.mono BD.out.size))) | (have NB := Lib.hid (nb_bk hb); have NG := Lib.hid BD.out.size; have BD : Hid (Below w1.heap.size w1 wM) := Lib.hid (nb_be BD.out hb)) | (have NB : Hid (Bk wM w1.heap.size #[.int .i64 0, .slice none 0 0, .slice none 0 0] 52) := Lib.hid ((Bk.alloc w1 #[.int .i64 0, .slice none 0 0, .slice none 0 0] 52).drew.later hb); have NG : Hid (w1.heap.size ≤ w1.heap.size) := Lib.hid (Nat.le_refl _); have BD : Hid (Below w1.heap.size w1 wM) := Lib.hid ((below_bk w1 _).drew.trans (hb.mono (below_bk w1 _).drew.size)))); have BM : Hid (Below wM.heap.size wM wM) := Lib.hid (Below.refl _ _); clear ho hb)
        | (go_at_call 24; (with_reducible refine (toGeo_any Tg Pg Ig Qg _).mono ?_); rintro e wG ⟨rfl, hb⟩; (first | (have BM := Lib.hid (show Below _ _ wG by with_reducible exact BM.out.trans (hb.mono BM.out.size))) | (have BM := Lib.hid (show Below _ _ wG from nb_be BM.out hb)) | skip); (first | (have BD : Hid (Below w1.heap.size w1 wG) := Lib.hid (by with_reducible exact BD.out.trans (hb.mono BD.out.size)); have NB := Lib.hid (NB.out.later hb)) | (have BD : Hid (Below w1.heap.size w1 wG) := Lib.hid (by with_reducible exact BD.out.trans (hb.mono BD.out.size))) | (have NB := Lib.hid (nb_bk hb); have NG := Lib.hid BD.out.size; have BD : Hid (Below w1.heap.size w1 wG) := Lib.hid (nb_be BD.out hb)) | (have NB : Hid (Bk wG w1.heap.size #[.int .i64 0, .slice none 0 0, .slice none 0 0] 52) := Lib.hid ((Bk.alloc w1 #[.int .i64 0, .slice none 0 0, .slice none 0 0] 52).drew.later hb); have NG : Hid (w1.heap.size ≤ w1.heap.size) := Lib.hid (Nat.le_refl _); have BD : Hid (Below w1.heap.size w1 wG) := Lib.hid ((below_bk w1 _).drew.trans (hb.mono (below_bk w1 _).drew.size)))); clear hb)
        | (go_at_call 22; (with_reducible refine (specRp_any m.text a1_k9 m.cells.length c1_k9 m.cells Tg Pg Ig Qg t _ (srcC_of_rd (c := c1_k9) (by first | with_reducible exact Cel.Rd.later BM.out _ _ RM.out | exact Cel.Rd.later (below_alB BM.out _) _ _ RM.out)) HML.out HMK.out).mono ?_); rw [HR.out, HRB.out]; rintro e wd ⟨vs, rfl, ho, hb⟩; obtain ⟨a1_q, c1_q, a2_q, c2_q, rfl, _, _⟩ := cPart_form ho.rd; have HO := Lib.hid ho; have LH := Lib.hid hb.size; (first | (have NL := Lib.hid NB.out.lt; have LO := Lib.hid BD.out.size; have BD : Hid (Below w1.heap.size w1 wd) := Lib.hid (by with_reducible exact BD.out.trans (hb.mono BD.out.size)); have NB := Lib.hid (NB.out.later hb); have c0 := NB.out.cell (j := 0) rfl; have f0 := NB.out.fr (o := 0); have S1 := Lib.hid (NB.out.set 0 (.int .i64 r.ser)); have c1 := S1.out.cell (j := 1) rfl; have f1 := S1.out.fr (o := 1); have S2 := Lib.hid (S1.out.set 1 (.slice a1_q r.st.length c1_q)); have c2 := S2.out.cell (j := 2) rfl; have f2 := S2.out.fr (o := 2)) | (have LO := Lib.hid BD.out.size; have BD : Hid (Below w1.heap.size w1 wd) := Lib.hid (by with_reducible exact BD.out.trans (hb.mono BD.out.size))) | (have NL := Lib.hid (nb_lt hb); have LO := Lib.hid (nb_le BD.out hb); have NB := Lib.hid (nb_bk hb); have NG := Lib.hid BD.out.size; have BD : Hid (Below w1.heap.size w1 wd) := Lib.hid (nb_be BD.out hb); have c0 := NB.out.cell (j := 0) rfl; have f0 := NB.out.fr (o := 0); have S1 := Lib.hid (NB.out.set 0 (.int .i64 r.ser)); have c1 := S1.out.cell (j := 1) rfl; have f1 := S1.out.fr (o := 1); have S2 := Lib.hid (S1.out.set 1 (.slice a1_q r.st.length c1_q)); have c2 := S2.out.cell (j := 2) rfl; have f2 := S2.out.fr (o := 2))); clear ho hb))
    all_goals
      go_wp2
      go_meet
      first | with_reducible exact partCut_new BD.out HO.out LO.out LH.out | exact partCut_old NB.out NG.out NL.out HO.out LO.out LH.out BD.out
  case rest =>
  obtain ⟨rfl, wl_w0, wh_w0, gN_w0, a1_w0, c1_w0, a2_w0, c2_w0, rfl, hN, ho, hdj, hl1, hl2, hl3, hg1, hg2, hb⟩ := hcut
  obtain ⟨w2, hnew⟩ : ∃ y, y = wc := ⟨_, rfl⟩
  rw [← hnew] at hN ho hl3 hg2 hb ⊢
  clear hnew
  have Xw0_z := Lib.hid hN
  have Ow0_z := Lib.hid ho
  have SZ_w0a : Hid (gN_w0 < wl_w0.heap.size ∨ wh_w0.heap.size ≤ gN_w0) := Lib.hid hdj
  have SZ_w0b : Hid (w1.heap.size ≤ wl_w0.heap.size) := Lib.hid hl1
  have SZ_w0c : Hid (wl_w0.heap.size ≤ wh_w0.heap.size) := Lib.hid hl2
  have SZ_w0d : Hid (wh_w0.heap.size ≤ w2.heap.size) := Lib.hid hl3
  have SZ_w0e : Hid (w1.heap.size ≤ gN_w0) := Lib.hid hg1
  have SZ_w0f : Hid (gN_w0 < w2.heap.size) := Lib.hid hg2
  clear hN ho hdj hl1 hl2 hl3 hg1 hg2
  have Xm_2 := Lib.hid (Xm_1.out.later hb)
  have Xg_2 := Lib.hid (Xg_1.out.later hb)
  have BW_2 : Hid (Below w.heap.size w w2) := Lib.hid (BW_1.out.trans (hb.mono BW_1.out.size))
  have SZ_w2 : Hid (w1.heap.size ≤ w2.heap.size) := Lib.hid hb.size
  clear hb Xm_1 Xg_1 BW_1
  have dm0 := Xm_2.out.cell (j := 0) rfl
  have dm1 := Xm_2.out.cell (j := 1) rfl
  have dg0 := Xg_2.out.cell (j := 0) rfl
  have dg1 := Xg_2.out.cell (j := 1) rfl
  have dg2 := Xg_2.out.cell (j := 2) rfl
  have dg3 := Xg_2.out.cell (j := 3) rfl
  have dw00 := Xw0_z.out.cell (j := 0) rfl
  have dw01 := Xw0_z.out.cell (j := 1) rfl
  have dw02 := Xw0_z.out.cell (j := 2) rfl
  go_wp2_with fail
  clear dm0 dm1 dg0 dg1 dg2 dg3 dw00 dw01 dw02
  refine (toMem_st m a1_m c1_m _ (Cel.Rd.later BW_2.out _ _ HS1_m.out) HZ_m.out).mono ?_
  rintro e w3 ⟨vs, rfl, ho, hb⟩
  have Xm_3 := Lib.hid (Xm_2.out.later hb)
  have Xg_3 := Lib.hid (Xg_2.out.later hb)
  have Xw0_3 := Lib.hid (Xw0_z.out.later hb)
  have Ow0_3 := Lib.hid (Ow0_z.out.later hb)
  have BW_3 : Hid (Below w.heap.size w w3) := Lib.hid (BW_2.out.trans (hb.mono BW_2.out.size))
  have SZ_w3 : Hid (w2.heap.size ≤ w3.heap.size) := Lib.hid hb.size
  clear hb Xm_2 Xg_2 Xw0_z Ow0_z BW_2
  obtain ⟨a1_x, c1_x, rfl, _⟩ := cMem_form ho.rd
  have Ox_3x := Lib.hid ho
  clear ho
  have hba := below_bk w3 (.cells #[.string m.text, .slice a1_x m.cells.length c1_x] 57)
  have Xm_4 := Lib.hid (Xm_3.out.later hba)
  have Xg_4 := Lib.hid (Xg_3.out.later hba)
  have Xw0_4 := Lib.hid (Xw0_3.out.later hba)
  have Ow0_4 := Lib.hid (Ow0_3.out.later hba)
  have Ox_4 := Lib.hid (Ox_3x.out.later hba)
  have BW_4 : Hid (Below w.heap.size w (w3.alloc (.cells #[.string m.text, .slice a1_x m.cells.length c1_x] 57))) := Lib.hid (BW_3.out.trans (hba.mono BW_3.out.size))
  have Xx_4 := Lib.hid (Bk.alloc w3 #[.string m.text, .slice a1_x m.cells.length c1_x] 57)
  clear hba Xm_3 Xg_3 Xw0_3 Ow0_3 Ox_3x BW_3
  have dm0 := Xm_4.out.cell (j := 0) rfl
  have dm1 := Xm_4.out.cell (j := 1) rfl
  have dg0 := Xg_4.out.cell (j := 0) rfl
  have dg1 := Xg_4.out.cell (j := 1) rfl
  have dg2 := Xg_4.out.cell (j := 2) rfl
  have dg3 := Xg_4.out.cell (j := 3) rfl
  have dw00 := Xw0_4.out.cell (j := 0) rfl
  have dw01 := Xw0_4.out.cell (j := 1) rfl
  have dw02 := Xw0_4.out.cell (j := 2) rfl
  have dx0 := Xx_4.out.cell (j := 0) rfl
  have dx1 := Xx_4.out.cell (j := 1) rfl
  go_upto_region 7 with fail
  clear dm0 dm1 dg0 dg1 dg2 dg3 dw00 dw01 dw02 dx0 dx1
  obtain ⟨V3, hV⟩ : ∃ y, y = (w3.alloc (.cells #[.string m.text, .slice a1_x m.cells.length c1_x] 57)) := ⟨_, rfl⟩
  rw [← hV] at Xm_4 Xg_4 Xw0_4 Xx_4 Ow0_4 Ox_4 BW_4 ⊢
  have SZ_V3 : Hid (w3.heap.size + 1 ≤ V3.heap.size) := Lib.hid (by rw [hV]; simp)
  clear hV
  go_cut [11, 12] (fun pv bv wx => PartCut V3 r rb pv bv wx)
  case first =>
    have KP : Hid (∀ w', Below V3.heap.size V3 w' → w'.cell? ⟨w.heap.size, 0, none⟩ = some (.string m.text) ∧ w'.cell? ⟨w.heap.size, 1, none⟩ = some (.slice a1_m m.cells.length c1_m) ∧ w'.cell? ⟨w.heap.size + 1, 0, none⟩ = some (.int .i64 Tg) ∧ w'.cell? ⟨w.heap.size + 1, 1, none⟩ = some (.int .i64 Pg) ∧ w'.cell? ⟨w.heap.size + 1, 2, none⟩ = some (.int .i64 Ig) ∧ w'.cell? ⟨w.heap.size + 1, 3, none⟩ = some (.int .i64 Qg) ∧ w'.cell? ⟨gN_w0, 0, none⟩ = some (.int .i64 r.ser) ∧ w'.cell? ⟨gN_w0, 1, none⟩ = some (.slice a1_w0 r.st.length c1_w0) ∧ w'.cell? ⟨gN_w0, 2, none⟩ = some (.slice a2_w0 r.ino.length c2_w0) ∧ w'.cell? ⟨w3.heap.size, 0, none⟩ = some (.string m.text) ∧ w'.cell? ⟨w3.heap.size, 1, none⟩ = some (.slice a1_x m.cells.length c1_x)) := Lib.hid (fun w' hb => ⟨(Xm_4.out.later hb).cell rfl, (Xm_4.out.later hb).cell rfl, (Xg_4.out.later hb).cell rfl, (Xg_4.out.later hb).cell rfl, (Xg_4.out.later hb).cell rfl, (Xg_4.out.later hb).cell rfl, (Xw0_4.out.later hb).cell rfl, (Xw0_4.out.later hb).cell rfl, (Xw0_4.out.later hb).cell rfl, (Xx_4.out.later hb).cell rfl, (Xx_4.out.later hb).cell rfl⟩)
    have BD : Hid (Below V3.heap.size V3 V3.drew) := Lib.hid (Below.refl _ _).drew
    have RM := Lib.hid (cMem_un Ox_4.out.rd)
    have BM := BD
    go_region_held3 (fun w' => w'.cell? ⟨w.heap.size, 0, none⟩ = some (.string m.text) ∧ w'.cell? ⟨w.heap.size, 1, none⟩ = some (.slice a1_m m.cells.length c1_m) ∧ w'.cell? ⟨w.heap.size + 1, 0, none⟩ = some (.int .i64 Tg) ∧ w'.cell? ⟨w.heap.size + 1, 1, none⟩ = some (.int .i64 Pg) ∧ w'.cell? ⟨w.heap.size + 1, 2, none⟩ = some (.int .i64 Ig) ∧ w'.cell? ⟨w.heap.size + 1, 3, none⟩ = some (.int .i64 Qg) ∧ w'.cell? ⟨gN_w0, 0, none⟩ = some (.int .i64 r.ser) ∧ w'.cell? ⟨gN_w0, 1, none⟩ = some (.slice a1_w0 r.st.length c1_w0) ∧ w'.cell? ⟨gN_w0, 2, none⟩ = some (.slice a2_w0 r.ino.length c2_w0) ∧ w'.cell? ⟨w3.heap.size, 0, none⟩ = some (.string m.text) ∧ w'.cell? ⟨w3.heap.size, 1, none⟩ = some (.slice a1_x m.cells.length c1_x))
      (first
        | with_reducible exact KP.out _ BD.out
        | with_reducible exact KP.out _ (below_alB BD.out _)
        | with_reducible exact KP.out _ (be3 BD.out NG.out)
        | with_reducible exact KP.out _ (below_bk _ _).drew)
      (first
        | (go_at_call 24; (with_reducible refine (toGeo_any Tg Pg Ig Qg _).mono ?_); rintro e wG ⟨rfl, hb⟩; (first | (have BM := Lib.hid (show Below _ _ wG by with_reducible exact BM.out.trans (hb.mono BM.out.size))) | (have BM := Lib.hid (show Below _ _ wG from nb_be BM.out hb)) | skip); (first | (have BD : Hid (Below V3.heap.size V3 wG) := Lib.hid (by with_reducible exact BD.out.trans (hb.mono BD.out.size)); have NB := Lib.hid (NB.out.later hb)) | (have BD : Hid (Below V3.heap.size V3 wG) := Lib.hid (by with_reducible exact BD.out.trans (hb.mono BD.out.size))) | (have NB := Lib.hid (nb_bk hb); have NG := Lib.hid BD.out.size; have BD : Hid (Below V3.heap.size V3 wG) := Lib.hid (nb_be BD.out hb)) | (have NB : Hid (Bk wG V3.heap.size #[.int .i64 0, .slice none 0 0, .slice none 0 0] 52) := Lib.hid ((Bk.alloc V3 #[.int .i64 0, .slice none 0 0, .slice none 0 0] 52).drew.later hb); have NG : Hid (V3.heap.size ≤ V3.heap.size) := Lib.hid (Nat.le_refl _); have BD : Hid (Below V3.heap.size V3 wG) := Lib.hid ((below_bk V3 _).drew.trans (hb.mono (below_bk V3 _).drew.size)))); clear hb)
        | (go_at_call 25; (with_reducible refine (implRp_any m.text a1_x m.cells.length c1_x m.cells Tg Pg Ig Qg t _ (srcC_of_rd (c := c1_x) (by first | with_reducible exact Cel.Rd.later BM.out _ _ RM.out | exact Cel.Rd.later (below_alB BM.out _) _ _ RM.out)) HML.out HMK.out).mono ?_); rw [HR.out, HRB.out]; rintro e wd ⟨vs, rfl, ho, hb⟩; obtain ⟨a1_q, c1_q, a2_q, c2_q, rfl, _, _⟩ := cPart_form ho.rd; have HO := Lib.hid ho; have LH := Lib.hid hb.size; (first | (have NL := Lib.hid NB.out.lt; have LO := Lib.hid BD.out.size; have BD : Hid (Below V3.heap.size V3 wd) := Lib.hid (by with_reducible exact BD.out.trans (hb.mono BD.out.size)); have NB := Lib.hid (NB.out.later hb); have c0 := NB.out.cell (j := 0) rfl; have f0 := NB.out.fr (o := 0); have S1 := Lib.hid (NB.out.set 0 (.int .i64 r.ser)); have c1 := S1.out.cell (j := 1) rfl; have f1 := S1.out.fr (o := 1); have S2 := Lib.hid (S1.out.set 1 (.slice a1_q r.st.length c1_q)); have c2 := S2.out.cell (j := 2) rfl; have f2 := S2.out.fr (o := 2)) | (have LO := Lib.hid BD.out.size; have BD : Hid (Below V3.heap.size V3 wd) := Lib.hid (by with_reducible exact BD.out.trans (hb.mono BD.out.size))) | (have NL := Lib.hid (nb_lt hb); have LO := Lib.hid (nb_le BD.out hb); have NB := Lib.hid (nb_bk hb); have NG := Lib.hid BD.out.size; have BD : Hid (Below V3.heap.size V3 wd) := Lib.hid (nb_be BD.out hb); have c0 := NB.out.cell (j := 0) rfl; have f0 := NB.out.fr (o := 0); have S1 := Lib.hid (NB.out.set 0 (.int .i64 r.ser)); have c1 := S1.out.cell (j := 1) rfl; have f1 := S1.out.fr (o := 1); have S2 := Lib.hid (S1.out.set 1 (.slice a1_q r.st.length c1_q)); have c2 := S2.out.cell (j := 2) rfl; have f2 := S2.out.fr (o := 2))); clear ho hb))
    all_goals
      go_wp2
      go_meet
      first | with_reducible exact partCut_new BD.out HO.out LO.out LH.out | exact partCut_old NB.out NG.out NL.out HO.out LO.out LH.out BD.out
  case rest =>
  obtain ⟨rfl, wl_g0, wh_g0, gN_g0, a1_g0, c1_g0, a2_g0, c2_g0, rfl, hN, ho, hdj, hl1, hl2, hl3, hg1, hg2, hb⟩ := hcut
  obtain ⟨w4, hnew⟩ : ∃ y, y = wc := ⟨_, rfl⟩
  rw [← hnew] at hN ho hl3 hg2 hb ⊢
  clear hnew
  have Xg0_z := Lib.hid hN
  have Og0_z := Lib.hid ho
  have SZ_g0a : Hid (gN_g0 < wl_g0.heap.size ∨ wh_g0.heap.size ≤ gN_g0) := Lib.hid hdj
  have SZ_g0b : Hid (V3.heap.size ≤ wl_g0.heap.size) := Lib.hid hl1
  have SZ_g0c : Hid (wl_g0.heap.size ≤ wh_g0.heap.size) := Lib.hid hl2
  have SZ_g0d : Hid (wh_g0.heap.size ≤ w4.heap.size) := Lib.hid hl3
  have SZ_g0e : Hid (V3.heap.size ≤ gN_g0) := Lib.hid hg1
  have SZ_g0f : Hid (gN_g0 < w4.heap.size) := Lib.hid hg2
  clear hN ho hdj hl1 hl2 hl3 hg1 hg2
  have Xm_5 := Lib.hid (Xm_4.out.later hb)
  have Xg_5 := Lib.hid (Xg_4.out.later hb)
  have Xw0_5 := Lib.hid (Xw0_4.out.later hb)
  have Xx_5 := Lib.hid (Xx_4.out.later hb)
  have Ow0_5 := Lib.hid (Ow0_4.out.later hb)
  have Ox_5 := Lib.hid (Ox_4.out.later hb)
  have BW_5 : Hid (Below w.heap.size w w4) := Lib.hid (BW_4.out.trans (hb.mono BW_4.out.size))
  have SZ_w4 : Hid (V3.heap.size ≤ w4.heap.size) := Lib.hid hb.size
  clear hb Xm_4 Xg_4 Xw0_4 Xx_4 Ow0_4 Ox_4 BW_4
  have dm0 := Xm_5.out.cell (j := 0) rfl
  have dm1 := Xm_5.out.cell (j := 1) rfl
  have dg0 := Xg_5.out.cell (j := 0) rfl
  have dg1 := Xg_5.out.cell (j := 1) rfl
  have dg2 := Xg_5.out.cell (j := 2) rfl
  have dg3 := Xg_5.out.cell (j := 3) rfl
  have dw00 := Xw0_5.out.cell (j := 0) rfl
  have dw01 := Xw0_5.out.cell (j := 1) rfl
  have dw02 := Xw0_5.out.cell (j := 2) rfl
  have dx0 := Xx_5.out.cell (j := 0) rfl
  have dx1 := Xx_5.out.cell (j := 1) rfl
  have dg00 := Xg0_z.out.cell (j := 0) rfl
  have dg01 := Xg0_z.out.cell (j := 1) rfl
  have dg02 := Xg0_z.out.cell (j := 2) rfl
  go_wp2_with fail
  clear dm0 dm1 dg0 dg1 dg2 dg3 dw00 dw01 dw02 dx0 dx1 dg00 dg01 dg02
  refine (eqPart_st r a1_g0 c1_g0 a2_g0 c2_g0 a1_w0 c1_w0 a2_w0 c2_w0 _ (cPart_un Og0_z.out.rd).1 (cPart_un Og0_z.out.rd).2 (cPart_un Ow0_5.out.rd).1 (cPart_un Ow0_5.out.rd).2 HRZ.out).mono ?_
  rintro e w5 ⟨rfl, hb⟩
  have Xm_6 := Lib.hid (Xm_5.out.later hb)
  have Xg_6 := Lib.hid (Xg_5.out.later hb)
  have Xw0_6 := Lib.hid (Xw0_5.out.later hb)
  have Xx_6 := Lib.hid (Xx_5.out.later hb)
  have Xg0_6 := Lib.hid (Xg0_z.out.later hb)
  have Ow0_6 := Lib.hid (Ow0_5.out.later hb)
  have Ox_6 := Lib.hid (Ox_5.out.later hb)
  have Og0_6 := Lib.hid (Og0_z.out.later hb)
  have BW_6 : Hid (Below w.heap.size w w5) := Lib.hid (BW_5.out.trans (hb.mono BW_5.out.size))
  have SZ_w5 : Hid (w4.heap.size ≤ w5.heap.size) := Lib.hid hb.size
  clear hb Xm_5 Xg_5 Xw0_5 Xx_5 Xg0_z Ow0_5 Ox_5 Og0_z BW_5
  go_wp2
  have XD := Lib.hid Xx_6.out.drew
  have AD := Lib.hid Xm_6.out.drew
  have BD := Lib.hid BW_6.out.drew
  have OD : Hid (Objs w5.drew w2.heap.size w3.heap.size _ _) := Lib.hid (Ox_6.out.later (Below.refl _ _).drew)
  have YDg := Lib.hid Xg_6.out.drew
  have YDw0 := Lib.hid Xw0_6.out.drew
  have YDg0 := Lib.hid Xg0_6.out.drew
  have PDw0 := Lib.hid (Ow0_6.out.later (Below.refl _ _).drew)
  have PDg0 := Lib.hid (Og0_6.out.later (Below.refl _ _).drew)
  go_region_held3 (fun w' => w'.cell? ⟨w3.heap.size, 0, none⟩ = some (.string m.text) ∧ w'.cell? ⟨w3.heap.size, 1, none⟩ = some (.slice a1_x m.cells.length c1_x) ∧ w'.cell? ⟨w.heap.size, 0, none⟩ = some (.string m.text) ∧ w'.cell? ⟨w.heap.size, 1, none⟩ = some (.slice a1_m m.cells.length c1_m))
    (first
      | exact ⟨XD.out.cell rfl, XD.out.cell rfl, AD.out.cell rfl, AD.out.cell rfl⟩
      | exact ⟨XE.out.cell rfl, XE.out.cell rfl, AE.out.cell rfl, AE.out.cell rfl⟩
      | exact ⟨XF.out.cell rfl, XF.out.cell rfl, AF.out.cell rfl, AF.out.cell rfl⟩
      | go_keep)
    (first
      | (go_at_call 23; (with_reducible refine (toMem_st m a1_m c1_m _ (Cel.Rd.later BD.out _ _ HS1_m.out) HZ_m.out).mono ?_); rintro e wa7 ⟨vs, rfl, ho, hb⟩; obtain ⟨a1_z9, c1_z9, rfl, q1⟩ := cMem_form ho.rd; have XE := Lib.hid (XD.out.later hb); have AE := Lib.hid (AD.out.later hb); have OE := Lib.hid (OD.out.later hb); have BE : Hid (Below w.heap.size w wa7) := Lib.hid (BD.out.trans (hb.mono BD.out.size)); have SZ_wa7 : Hid (w5.heap.size ≤ wa7.heap.size) := Lib.hid hb.size; have YEg := Lib.hid (YDg.out.later hb); have YEw0 := Lib.hid (YDw0.out.later hb); have YEg0 := Lib.hid (YDg0.out.later hb); have PEw0 := Lib.hid (PDw0.out.later hb); have PEg0 := Lib.hid (PDg0.out.later hb); clear hb ho)
      | (go_at_call 27; (with_reducible refine (eqMem_st m a1_x c1_x a1_z9 c1_z9 _ (cMem_un OE.out.rd) q1 HZB_m.out).mono ?_); rintro e wb7 ⟨rfl, hb⟩; have XF := Lib.hid (XE.out.later hb); have AF := Lib.hid (AE.out.later hb); have OF := Lib.hid (OE.out.later hb); have BF : Hid (Below w.heap.size w wb7) := Lib.hid (BE.out.trans (hb.mono BE.out.size)); have SZ_wb7 : Hid (wa7.heap.size ≤ wb7.heap.size) := Lib.hid hb.size; have YFg := Lib.hid (YEg.out.later hb); have YFw0 := Lib.hid (YEw0.out.later hb); have YFg0 := Lib.hid (YEg0.out.later hb); have PFw0 := Lib.hid (PEw0.out.later hb); have PFg0 := Lib.hid (PEg0.out.later hb); clear hb))
  have Xx_7 := XF
  have Xm_7 := AF
  have BW_7 := BF
  have Ox_7 := OF
  have Xg_7 := YFg
  have Xw0_7 := YFw0
  have Xg0_7 := YFg0
  have Ow0_7 := PFw0
  have Og0_7 := PFg0
  clear Xm_6 Xg_6 Xw0_6 Xx_6 Xg0_6 Ow0_6 Ox_6 Og0_6 BW_6 XD XE XF AD AE AF BD BE BF OD OE OF YDg YEg YFg YDw0 YEw0 YFw0 YDg0 YEg0 YFg0 PDw0 PEw0 PFw0 PDg0 PEg0 PFg0
  have dm0 := Xm_7.out.cell (j := 0) rfl
  have dm1 := Xm_7.out.cell (j := 1) rfl
  have dg0 := Xg_7.out.cell (j := 0) rfl
  have dg1 := Xg_7.out.cell (j := 1) rfl
  have dg2 := Xg_7.out.cell (j := 2) rfl
  have dg3 := Xg_7.out.cell (j := 3) rfl
  have dw00 := Xw0_7.out.cell (j := 0) rfl
  have dw01 := Xw0_7.out.cell (j := 1) rfl
  have dw02 := Xw0_7.out.cell (j := 2) rfl
  have dx0 := Xx_7.out.cell (j := 0) rfl
  have dx1 := Xx_7.out.cell (j := 1) rfl
  have dg00 := Xg0_7.out.cell (j := 0) rfl
  have dg01 := Xg0_7.out.cell (j := 1) rfl
  have dg02 := Xg0_7.out.cell (j := 2) rfl
  go_wp2_with fail
  clear dm0 dm1 dg0 dg1 dg2 dg3 dw00 dw01 dw02 dx0 dx1 dg00 dg01 dg02
  refine (markMem_st m a1_x c1_x w2.heap.size w3.heap.size 1 _ _ (by omega) (by omega) HMC.out HZB_m.out Ox_7.out).mono ?_
  rintro e w6 ⟨he, hu, ho⟩
  obtain ⟨k, hk⟩ : ∃ y, 1 + cntTop (cMem.cels m) = y := ⟨_, rfl⟩
  rw [hk] at he
  subst he
  have Xm_8 := Lib.hid (hu.bk Xm_7.out (by have := SZ_V0.out; have := SZ_w1.out; have := SZ_w0a.out; have := SZ_w0b.out; have := SZ_w0c.out; have := SZ_w0d.out; have := SZ_w0e.out; have := SZ_w0f.out; have := SZ_w2.out; have := SZ_w3.out; have := SZ_V3.out; have := SZ_g0a.out; have := SZ_g0b.out; have := SZ_g0c.out; have := SZ_g0d.out; have := SZ_g0e.out; have := SZ_g0f.out; have := SZ_w4.out; have := SZ_w5.out; have := SZ_wa7.out; have := SZ_wb7.out; omega))
  have Xg_8 := Lib.hid (hu.bk Xg_7.out (by have := SZ_V0.out; have := SZ_w1.out; have := SZ_w0a.out; have := SZ_w0b.out; have := SZ_w0c.out; have := SZ_w0d.out; have := SZ_w0e.out; have := SZ_w0f.out; have := SZ_w2.out; have := SZ_w3.out; have := SZ_V3.out; have := SZ_g0a.out; have := SZ_g0b.out; have := SZ_g0c.out; have := SZ_g0d.out; have := SZ_g0e.out; have := SZ_g0f.out; have := SZ_w4.out; have := SZ_w5.out; have := SZ_wa7.out; have := SZ_wb7.out; omega))
  have Xw0_8 := Lib.hid (hu.bk Xw0_7.out (by have := SZ_V0.out; have := SZ_w1.out; have := SZ_w0a.out; have := SZ_w0b.out; have := SZ_w0c.out; have := SZ_w0d.out; have := SZ_w0e.out; have := SZ_w0f.out; have := SZ_w2.out; have := SZ_w3.out; have := SZ_V3.out; have := SZ_g0a.out; have := SZ_g0b.out; have := SZ_g0c.out; have := SZ_g0d.out; have := SZ_g0e.out; have := SZ_g0f.out; have := SZ_w4.out; have := SZ_w5.out; have := SZ_wa7.out; have := SZ_wb7.out; omega))
  have Xx_8 := Lib.hid (hu.bk Xx_7.out (by have := SZ_V0.out; have := SZ_w1.out; have := SZ_w0a.out; have := SZ_w0b.out; have := SZ_w0c.out; have := SZ_w0d.out; have := SZ_w0e.out; have := SZ_w0f.out; have := SZ_w2.out; have := SZ_w3.out; have := SZ_V3.out; have := SZ_g0a.out; have := SZ_g0b.out; have := SZ_g0c.out; have := SZ_g0d.out; have := SZ_g0e.out; have := SZ_g0f.out; have := SZ_w4.out; have := SZ_w5.out; have := SZ_wa7.out; have := SZ_wb7.out; omega))
  have Xg0_8 := Lib.hid (hu.bk Xg0_7.out (by have := SZ_V0.out; have := SZ_w1.out; have := SZ_w0a.out; have := SZ_w0b.out; have := SZ_w0c.out; have := SZ_w0d.out; have := SZ_w0e.out; have := SZ_w0f.out; have := SZ_w2.out; have := SZ_w3.out; have := SZ_V3.out; have := SZ_g0a.out; have := SZ_g0b.out; have := SZ_g0c.out; have := SZ_g0d.out; have := SZ_g0e.out; have := SZ_g0f.out; have := SZ_w4.out; have := SZ_w5.out; have := SZ_wa7.out; have := SZ_wb7.out; omega))
  have Ow0_8 := Lib.hid (Ow0_7.out.out hu (by have := SZ_V0.out; have := SZ_w1.out; have := SZ_w0a.out; have := SZ_w0b.out; have := SZ_w0c.out; have := SZ_w0d.out; have := SZ_w0e.out; have := SZ_w0f.out; have := SZ_w2.out; have := SZ_w3.out; have := SZ_V3.out; have := SZ_g0a.out; have := SZ_g0b.out; have := SZ_g0c.out; have := SZ_g0d.out; have := SZ_g0e.out; have := SZ_g0f.out; have := SZ_w4.out; have := SZ_w5.out; have := SZ_wa7.out; have := SZ_wb7.out; omega))
  have Ox_8 := Lib.hid ho
  have Og0_8 := Lib.hid (Og0_7.out.out hu (by have := SZ_V0.out; have := SZ_w1.out; have := SZ_w0a.out; have := SZ_w0b.out; have := SZ_w0c.out; have := SZ_w0d.out; have := SZ_w0e.out; have := SZ_w0f.out; have := SZ_w2.out; have := SZ_w3.out; have := SZ_V3.out; have := SZ_g0a.out; have := SZ_g0b.out; have := SZ_g0c.out; have := SZ_g0d.out; have := SZ_g0e.out; have := SZ_g0f.out; have := SZ_w4.out; have := SZ_w5.out; have := SZ_wa7.out; have := SZ_wb7.out; omega))
  have BW_8 : Hid (Below w.heap.size w w6) := Lib.hid (BW_7.out.trans (hu.below (by have := SZ_V0.out; have := SZ_w1.out; have := SZ_w0a.out; have := SZ_w0b.out; have := SZ_w0c.out; have := SZ_w0d.out; have := SZ_w0e.out; have := SZ_w0f.out; have := SZ_w2.out; have := SZ_w3.out; have := SZ_V3.out; have := SZ_g0a.out; have := SZ_g0b.out; have := SZ_g0c.out; have := SZ_g0d.out; have := SZ_g0e.out; have := SZ_g0f.out; have := SZ_w4.out; have := SZ_w5.out; have := SZ_wa7.out; have := SZ_wb7.out; omega) (by have := SZ_V0.out; have := SZ_w1.out; have := SZ_w0a.out; have := SZ_w0b.out; have := SZ_w0c.out; have := SZ_w0d.out; have := SZ_w0e.out; have := SZ_w0f.out; have := SZ_w2.out; have := SZ_w3.out; have := SZ_V3.out; have := SZ_g0a.out; have := SZ_g0b.out; have := SZ_g0c.out; have := SZ_g0d.out; have := SZ_g0e.out; have := SZ_g0f.out; have := SZ_w4.out; have := SZ_w5.out; have := SZ_wa7.out; have := SZ_wb7.out; omega)))
  have SZ_w6 : Hid (wb7.heap.size ≤ w6.heap.size) := Lib.hid hu.size
  have HC_k := Lib.hid hk
  have hp_k : k ≤ 100000000 := by have h9 := HMC.out; omega
  have hq_k : 0 < k := by omega
  have hr_k : ¬ ((k : Int) < 0) := by omega
  clear hu ho hk Xm_7 Xg_7 Xw0_7 Xx_7 Xg0_7 Ow0_7 Ox_7 Og0_7 BW_7
  have dm0 := Xm_8.out.cell (j := 0) rfl
  have dm1 := Xm_8.out.cell (j := 1) rfl
  have dg0 := Xg_8.out.cell (j := 0) rfl
  have dg1 := Xg_8.out.cell (j := 1) rfl
  have dg2 := Xg_8.out.cell (j := 2) rfl
  have dg3 := Xg_8.out.cell (j := 3) rfl
  have dw00 := Xw0_8.out.cell (j := 0) rfl
  have dw01 := Xw0_8.out.cell (j := 1) rfl
  have dw02 := Xw0_8.out.cell (j := 2) rfl
  have dx0 := Xx_8.out.cell (j := 0) rfl
  have dx1 := Xx_8.out.cell (j := 1) rfl
  have dg00 := Xg0_8.out.cell (j := 0) rfl
  have dg01 := Xg0_8.out.cell (j := 1) rfl
  have dg02 := Xg0_8.out.cell (j := 2) rfl
  go_wp2_with fail
  clear dm0 dm1 dg0 dg1 dg2 dg3 dw00 dw01 dw02 dx0 dx1 dg00 dg01 dg02
  refine (eqPart_st r a1_g0 c1_g0 a2_g0 c2_g0 a1_w0 c1_w0 a2_w0 c2_w0 _ (cPart_un Og0_8.out.rd).1 (cPart_un Og0_8.out.rd).2 (cPart_un Ow0_8.out.rd).1 (cPart_un Ow0_8.out.rd).2 HRZ.out).mono ?_
  rintro e w7 ⟨rfl, hb⟩
  have Xm_9 := Lib.hid (Xm_8.out.later hb)
  have Xg_9 := Lib.hid (Xg_8.out.later hb)
  have Xw0_9 := Lib.hid (Xw0_8.out.later hb)
  have Xx_9 := Lib.hid (Xx_8.out.later hb)
  have Xg0_9 := Lib.hid (Xg0_8.out.later hb)
  have Ow0_9 := Lib.hid (Ow0_8.out.later hb)
  have Ox_9 := Lib.hid (Ox_8.out.later hb)
  have Og0_9 := Lib.hid (Og0_8.out.later hb)
  have BW_9 : Hid (Below w.heap.size w w7) := Lib.hid (BW_8.out.trans (hb.mono BW_8.out.size))
  have SZ_w7 : Hid (w6.heap.size ≤ w7.heap.size) := Lib.hid hb.size
  clear hb Xm_8 Xg_8 Xw0_8 Xx_8 Xg0_8 Ow0_8 Ox_8 Og0_8 BW_8
  have dm0 := Xm_9.out.cell (j := 0) rfl
  have dm1 := Xm_9.out.cell (j := 1) rfl
  have dg0 := Xg_9.out.cell (j := 0) rfl
  have dg1 := Xg_9.out.cell (j := 1) rfl
  have dg2 := Xg_9.out.cell (j := 2) rfl
  have dg3 := Xg_9.out.cell (j := 3) rfl
  have dw00 := Xw0_9.out.cell (j := 0) rfl
  have dw01 := Xw0_9.out.cell (j := 1) rfl
  have dw02 := Xw0_9.out.cell (j := 2) rfl
  have dx0 := Xx_9.out.cell (j := 0) rfl
  have dx1 := Xx_9.out.cell (j := 1) rfl
  have dg00 := Xg0_9.out.cell (j := 0) rfl
  have dg01 := Xg0_9.out.cell (j := 1) rfl
  have dg02 := Xg0_9.out.cell (j := 2) rfl
  go_wp2_with fail
  clear dm0 dm1 dg0 dg1 dg2 dg3 dw00 dw01 dw02 dx0 dx1 dg00 dg01 dg02
  refine (markPart_st r a1_g0 c1_g0 a2_g0 c2_g0 wl_g0.heap.size wh_g0.heap.size 1 _ _ (by omega) (by omega) HRC.out HRZ.out Og0_9.out).mono ?_
  rintro e w8 ⟨he, hu, ho⟩
  obtain ⟨q, hq⟩ : ∃ y, 1 + cntTop (cPart.cels r) = y := ⟨_, rfl⟩
  rw [hq] at he
  subst he
  have Xm_10 := Lib.hid (hu.bk Xm_9.out (by have := SZ_V0.out; have := SZ_w1.out; have := SZ_w0a.out; have := SZ_w0b.out; have := SZ_w0c.out; have := SZ_w0d.out; have := SZ_w0e.out; have := SZ_w0f.out; have := SZ_w2.out; have := SZ_w3.out; have := SZ_V3.out; have := SZ_g0a.out; have := SZ_g0b.out; have := SZ_g0c.out; have := SZ_g0d.out; have := SZ_g0e.out; have := SZ_g0f.out; have := SZ_w4.out; have := SZ_w5.out; have := SZ_wa7.out; have := SZ_wb7.out; have := SZ_w6.out; have := SZ_w7.out; omega))
  have Xg_10 := Lib.hid (hu.bk Xg_9.out (by have := SZ_V0.out; have := SZ_w1.out; have := SZ_w0a.out; have := SZ_w0b.out; have := SZ_w0c.out; have := SZ_w0d.out; have := SZ_w0e.out; have := SZ_w0f.out; have := SZ_w2.out; have := SZ_w3.out; have := SZ_V3.out; have := SZ_g0a.out; have := SZ_g0b.out; have := SZ_g0c.out; have := SZ_g0d.out; have := SZ_g0e.out; have := SZ_g0f.out; have := SZ_w4.out; have := SZ_w5.out; have := SZ_wa7.out; have := SZ_wb7.out; have := SZ_w6.out; have := SZ_w7.out; omega))
  have Xw0_10 := Lib.hid (hu.bk Xw0_9.out (by have := SZ_V0.out; have := SZ_w1.out; have := SZ_w0a.out; have := SZ_w0b.out; have := SZ_w0c.out; have := SZ_w0d.out; have := SZ_w0e.out; have := SZ_w0f.out; have := SZ_w2.out; have := SZ_w3.out; have := SZ_V3.out; have := SZ_g0a.out; have := SZ_g0b.out; have := SZ_g0c.out; have := SZ_g0d.out; have := SZ_g0e.out; have := SZ_g0f.out; have := SZ_w4.out; have := SZ_w5.out; have := SZ_wa7.out; have := SZ_wb7.out; have := SZ_w6.out; have := SZ_w7.out; omega))
  have Xx_10 := Lib.hid (hu.bk Xx_9.out (by have := SZ_V0.out; have := SZ_w1.out; have := SZ_w0a.out; have := SZ_w0b.out; have := SZ_w0c.out; have := SZ_w0d.out; have := SZ_w0e.out; have := SZ_w0f.out; have := SZ_w2.out; have := SZ_w3.out; have := SZ_V3.out; have := SZ_g0a.out; have := SZ_g0b.out; have := SZ_g0c.out; have := SZ_g0d.out; have := SZ_g0e.out; have := SZ_g0f.out; have := SZ_w4.out; have := SZ_w5.out; have := SZ_wa7.out; have := SZ_wb7.out; have := SZ_w6.out; have := SZ_w7.out; omega))
  have Xg0_10 := Lib.hid (hu.bk Xg0_9.out (by have := SZ_V0.out; have := SZ_w1.out; have := SZ_w0a.out; have := SZ_w0b.out; have := SZ_w0c.out; have := SZ_w0d.out; have := SZ_w0e.out; have := SZ_w0f.out; have := SZ_w2.out; have := SZ_w3.out; have := SZ_V3.out; have := SZ_g0a.out; have := SZ_g0b.out; have := SZ_g0c.out; have := SZ_g0d.out; have := SZ_g0e.out; have := SZ_g0f.out; have := SZ_w4.out; have := SZ_w5.out; have := SZ_wa7.out; have := SZ_wb7.out; have := SZ_w6.out; have := SZ_w7.out; omega))
  have Ow0_10 := Lib.hid (Ow0_9.out.out hu (by have := SZ_V0.out; have := SZ_w1.out; have := SZ_w0a.out; have := SZ_w0b.out; have := SZ_w0c.out; have := SZ_w0d.out; have := SZ_w0e.out; have := SZ_w0f.out; have := SZ_w2.out; have := SZ_w3.out; have := SZ_V3.out; have := SZ_g0a.out; have := SZ_g0b.out; have := SZ_g0c.out; have := SZ_g0d.out; have := SZ_g0e.out; have := SZ_g0f.out; have := SZ_w4.out; have := SZ_w5.out; have := SZ_wa7.out; have := SZ_wb7.out; have := SZ_w6.out; have := SZ_w7.out; omega))
  have Ox_10 := Lib.hid (Ox_9.out.out hu (by have := SZ_V0.out; have := SZ_w1.out; have := SZ_w0a.out; have := SZ_w0b.out; have := SZ_w0c.out; have := SZ_w0d.out; have := SZ_w0e.out; have := SZ_w0f.out; have := SZ_w2.out; have := SZ_w3.out; have := SZ_V3.out; have := SZ_g0a.out; have := SZ_g0b.out; have := SZ_g0c.out; have := SZ_g0d.out; have := SZ_g0e.out; have := SZ_g0f.out; have := SZ_w4.out; have := SZ_w5.out; have := SZ_wa7.out; have := SZ_wb7.out; have := SZ_w6.out; have := SZ_w7.out; omega))
  have Og0_10 := Lib.hid ho
  have BW_10 : Hid (Below w.heap.size w w8) := Lib.hid (BW_9.out.trans (hu.below (by have := SZ_V0.out; have := SZ_w1.out; have := SZ_w0a.out; have := SZ_w0b.out; have := SZ_w0c.out; have := SZ_w0d.out; have := SZ_w0e.out; have := SZ_w0f.out; have := SZ_w2.out; have := SZ_w3.out; have := SZ_V3.out; have := SZ_g0a.out; have := SZ_g0b.out; have := SZ_g0c.out; have := SZ_g0d.out; have := SZ_g0e.out; have := SZ_g0f.out; have := SZ_w4.out; have := SZ_w5.out; have := SZ_wa7.out; have := SZ_wb7.out; have := SZ_w6.out; have := SZ_w7.out; omega) (by have := SZ_V0.out; have := SZ_w1.out; have := SZ_w0a.out; have := SZ_w0b.out; have := SZ_w0c.out; have := SZ_w0d.out; have := SZ_w0e.out; have := SZ_w0f.out; have := SZ_w2.out; have := SZ_w3.out; have := SZ_V3.out; have := SZ_g0a.out; have := SZ_g0b.out; have := SZ_g0c.out; have := SZ_g0d.out; have := SZ_g0e.out; have := SZ_g0f.out; have := SZ_w4.out; have := SZ_w5.out; have := SZ_wa7.out; have := SZ_wb7.out; have := SZ_w6.out; have := SZ_w7.out; omega)))
  have SZ_w8 : Hid (w7.heap.size ≤ w8.heap.size) := Lib.hid hu.size
  have HC_q := Lib.hid hq
  have hp_q : q ≤ 100000000 := by have h9 := HRC.out; omega
  have hq_q : 0 < q := by omega
  have hr_q : ¬ ((q : Int) < 0) := by omega
  clear hu ho hq Xm_9 Xg_9 Xw0_9 Xx_9 Xg0_9 Ow0_9 Ox_9 Og0_9 BW_9
  have dm0 := Xm_10.out.cell (j := 0) rfl
  have dm1 := Xm_10.out.cell (j := 1) rfl
  have dg0 := Xg_10.out.cell (j := 0) rfl
  have dg1 := Xg_10.out.cell (j := 1) rfl
  have dg2 := Xg_10.out.cell (j := 2) rfl
  have dg3 := Xg_10.out.cell (j := 3) rfl
  have dw00 := Xw0_10.out.cell (j := 0) rfl
  have dw01 := Xw0_10.out.cell (j := 1) rfl
  have dw02 := Xw0_10.out.cell (j := 2) rfl
  have dx0 := Xx_10.out.cell (j := 0) rfl
  have dx1 := Xx_10.out.cell (j := 1) rfl
  have dg00 := Xg0_10.out.cell (j := 0) rfl
  have dg01 := Xg0_10.out.cell (j := 1) rfl
  have dg02 := Xg0_10.out.cell (j := 2) rfl
  go_wp2_with fail
  clear dm0 dm1 dg0 dg1 dg2 dg3 dw00 dw01 dw02 dx0 dx1 dg00 dg01 dg02
  refine (heldPart_st r a1_g0 c1_g0 a2_g0 c2_g0 1 _ _ (by rfl) (by decide) (by rw [← cPart_top]; exact HRC.out) HRZ.out Og0_10.out.rd).mono ?_
  rintro e w9 ⟨he, hb⟩
  rw [← cPart_top, HC_q.out] at he
  subst he
  have Xm_11 := Lib.hid (Xm_10.out.later hb)
  have Xg_11 := Lib.hid (Xg_10.out.later hb)
  have Xw0_11 := Lib.hid (Xw0_10.out.later hb)
  have Xx_11 := Lib.hid (Xx_10.out.later hb)
  have Xg0_11 := Lib.hid (Xg0_10.out.later hb)
  have Ow0_11 := Lib.hid (Ow0_10.out.later hb)
  have Ox_11 := Lib.hid (Ox_10.out.later hb)
  have Og0_11 := Lib.hid (Og0_10.out.later hb)
  have BW_11 : Hid (Below w.heap.size w w9) := Lib.hid (BW_10.out.trans (hb.mono BW_10.out.size))
  have SZ_w9 : Hid (w8.heap.size ≤ w9.heap.size) := Lib.hid hb.size
  clear hb Xm_10 Xg_10 Xw0_10 Xx_10 Xg0_10 Ow0_10 Ox_10 Og0_10 BW_10
  have dm0 := Xm_11.out.cell (j := 0) rfl
  have dm1 := Xm_11.out.cell (j := 1) rfl
  have dg0 := Xg_11.out.cell (j := 0) rfl
  have dg1 := Xg_11.out.cell (j := 1) rfl
  have dg2 := Xg_11.out.cell (j := 2) rfl
  have dg3 := Xg_11.out.cell (j := 3) rfl
  have dw00 := Xw0_11.out.cell (j := 0) rfl
  have dw01 := Xw0_11.out.cell (j := 1) rfl
  have dw02 := Xw0_11.out.cell (j := 2) rfl
  have dx0 := Xx_11.out.cell (j := 0) rfl
  have dx1 := Xx_11.out.cell (j := 1) rfl
  have dg00 := Xg0_11.out.cell (j := 0) rfl
  have dg01 := Xg0_11.out.cell (j := 1) rfl
  have dg02 := Xg0_11.out.cell (j := 2) rfl
  go_upto_region 24 with fail
  clear dm0 dm1 dg0 dg1 dg2 dg3 dw00 dw01 dw02 dx0 dx1 dg00 dg01 dg02
  go_cut [16, 17] (fun pv bv wx => PartCut w9 r rb pv bv wx)
  case first =>
    have KP : Hid (∀ w', Below w9.heap.size w9 w' → w'.cell? ⟨w.heap.size, 0, none⟩ = some (.string m.text) ∧ w'.cell? ⟨w.heap.size, 1, none⟩ = some (.slice a1_m m.cells.length c1_m) ∧ w'.cell? ⟨w.heap.size + 1, 0, none⟩ = some (.int .i64 Tg) ∧ w'.cell? ⟨w.heap.size + 1, 1, none⟩ = some (.int .i64 Pg) ∧ w'.cell? ⟨w.heap.size + 1, 2, none⟩ = some (.int .i64 Ig) ∧ w'.cell? ⟨w.heap.size + 1, 3, none⟩ = some (.int .i64 Qg) ∧ w'.cell? ⟨gN_w0, 0, none⟩ = some (.int .i64 r.ser) ∧ w'.cell? ⟨gN_w0, 1, none⟩ = some (.slice a1_w0 r.st.length c1_w0) ∧ w'.cell? ⟨gN_w0, 2, none⟩ = some (.slice a2_w0 r.ino.length c2_w0) ∧ w'.cell? ⟨w3.heap.size, 0, none⟩ = some (.string m.text) ∧ w'.cell? ⟨w3.heap.size, 1, none⟩ = some (.slice a1_x m.cells.length c1_x) ∧ w'.cell? ⟨gN_g0, 0, none⟩ = some (.int .i64 r.ser) ∧ w'.cell? ⟨gN_g0, 1, none⟩ = some (.slice a1_g0 r.st.length c1_g0) ∧ w'.cell? ⟨gN_g0, 2, none⟩ = some (.slice a2_g0 r.ino.length c2_g0)) := Lib.hid (fun w' hb => ⟨(Xm_11.out.later hb).cell rfl, (Xm_11.out.later hb).cell rfl, (Xg_11.out.later hb).cell rfl, (Xg_11.out.later hb).cell rfl, (Xg_11.out.later hb).cell rfl, (Xg_11.out.later hb).cell rfl, (Xw0_11.out.later hb).cell rfl, (Xw0_11.out.later hb).cell rfl, (Xw0_11.out.later hb).cell rfl, (Xx_11.out.later hb).cell rfl, (Xx_11.out.later hb).cell rfl, (Xg0_11.out.later hb).cell rfl, (Xg0_11.out.later hb).cell rfl, (Xg0_11.out.later hb).cell rfl⟩)
    have BD : Hid (Below w9.heap.size w9 w9.drew) := Lib.hid (Below.refl _ _).drew
    go_region_held3 (fun w' => w'.cell? ⟨w.heap.size, 0, none⟩ = some (.string m.text) ∧ w'.cell? ⟨w.heap.size, 1, none⟩ = some (.slice a1_m m.cells.length c1_m) ∧ w'.cell? ⟨w.heap.size + 1, 0, none⟩ = some (.int .i64 Tg) ∧ w'.cell? ⟨w.heap.size + 1, 1, none⟩ = some (.int .i64 Pg) ∧ w'.cell? ⟨w.heap.size + 1, 2, none⟩ = some (.int .i64 Ig) ∧ w'.cell? ⟨w.heap.size + 1, 3, none⟩ = some (.int .i64 Qg) ∧ w'.cell? ⟨gN_w0, 0, none⟩ = some (.int .i64 r.ser) ∧ w'.cell? ⟨gN_w0, 1, none⟩ = some (.slice a1_w0 r.st.length c1_w0) ∧ w'.cell? ⟨gN_w0, 2, none⟩ = some (.slice a2_w0 r.ino.length c2_w0) ∧ w'.cell? ⟨w3.heap.size, 0, none⟩ = some (.string m.text) ∧ w'.cell? ⟨w3.heap.size, 1, none⟩ = some (.slice a1_x m.cells.length c1_x) ∧ w'.cell? ⟨gN_g0, 0, none⟩ = some (.int .i64 r.ser) ∧ w'.cell? ⟨gN_g0, 1, none⟩ = some (.slice a1_g0 r.st.length c1_g0) ∧ w'.cell? ⟨gN_g0, 2, none⟩ = some (.slice a2_g0 r.ino.length c2_g0))
      (first
        | with_reducible exact KP.out _ BD.out
        | with_reducible exact KP.out _ (below_alB BD.out _)
        | with_reducible exact KP.out _ (be3 BD.out NG.out)
        | with_reducible exact KP.out _ (below_bk _ _).drew)
      (first
        | (go_at_call 23; (with_reducible refine (toMem_st m a1_m c1_m _ (by first | with_reducible exact Cel.Rd.later (BW_11.out.trans (BD.out.mono BW_11.out.size)) _ _ HS1_m.out | exact Cel.Rd.later (BW_11.out.trans ((below_alB BD.out _).mono BW_11.out.size)) _ _ HS1_m.out | exact Cel.Rd.later (BW_11.out.trans ((below_bk w9 _).drew.mono BW_11.out.size)) _ _ HS1_m.out) HZ_m.out).mono ?_); rintro e wM ⟨vs, rfl, ho, hb⟩; obtain ⟨a1_k9, c1_k9, rfl, _⟩ := cMem_form ho.rd; have RM := Lib.hid (cMem_un ho.rd); (first | (have BD : Hid (Below w9.heap.size w9 wM) := Lib.hid (by with_reducible exact BD.out.trans (hb.mono BD.out.size)); have NB := Lib.hid (NB.out.later hb)) | (have BD : Hid (Below w9.heap.size w9 wM) := Lib.hid (by with_reducible exact BD.out.trans (hb.mono BD.out.size))) | (have NB := Lib.hid (nb_bk hb); have NG := Lib.hid BD.out.size; have BD : Hid (Below w9.heap.size w9 wM) := Lib.hid (nb_be BD.out hb)) | (have NB : Hid (Bk wM w9.heap.size #[.int .i64 0, .slice none 0 0, .slice none 0 0] 52) := Lib.hid ((Bk.alloc w9 #[.int .i64 0, .slice none 0 0, .slice none 0 0] 52).drew.later hb); have NG : Hid (w9.heap.size ≤ w9.heap.size) := Lib.hid (Nat.le_refl _); have BD : Hid (Below w9.heap.size w9 wM) := Lib.hid ((below_bk w9 _).drew.trans (hb.mono (below_bk w9 _).drew.size)))); have BM : Hid (Below wM.heap.size wM wM) := Lib.hid (Below.refl _ _); clear ho hb)
        | (go_at_call 24; (with_reducible refine (toGeo_any Tg Pg Ig Qg _).mono ?_); rintro e wG ⟨rfl, hb⟩; (first | (have BM := Lib.hid (show Below _ _ wG by with_reducible exact BM.out.trans (hb.mono BM.out.size))) | (have BM := Lib.hid (show Below _ _ wG from nb_be BM.out hb)) | skip); (first | (have BD : Hid (Below w9.heap.size w9 wG) := Lib.hid (by with_reducible exact BD.out.trans (hb.mono BD.out.size)); have NB := Lib.hid (NB.out.later hb)) | (have BD : Hid (Below w9.heap.size w9 wG) := Lib.hid (by with_reducible exact BD.out.trans (hb.mono BD.out.size))) | (have NB := Lib.hid (nb_bk hb); have NG := Lib.hid BD.out.size; have BD : Hid (Below w9.heap.size w9 wG) := Lib.hid (nb_be BD.out hb)) | (have NB : Hid (Bk wG w9.heap.size #[.int .i64 0, .slice none 0 0, .slice none 0 0] 52) := Lib.hid ((Bk.alloc w9 #[.int .i64 0, .slice none 0 0, .slice none 0 0] 52).drew.later hb); have NG : Hid (w9.heap.size ≤ w9.heap.size) := Lib.hid (Nat.le_refl _); have BD : Hid (Below w9.heap.size w9 wG) := Lib.hid ((below_bk w9 _).drew.trans (hb.mono (below_bk w9 _).drew.size)))); clear hb)
        | (go_at_call 25; (with_reducible refine (implRp_any m.text a1_k9 m.cells.length c1_k9 m.cells Tg Pg Ig Qg t _ (srcC_of_rd (c := c1_k9) (by first | with_reducible exact Cel.Rd.later BM.out _ _ RM.out | exact Cel.Rd.later (below_alB BM.out _) _ _ RM.out)) HML.out HMK.out).mono ?_); rw [HR.out, HRB.out]; rintro e wd ⟨vs, rfl, ho, hb⟩; obtain ⟨a1_q, c1_q, a2_q, c2_q, rfl, _, _⟩ := cPart_form ho.rd; have HO := Lib.hid ho; have LH := Lib.hid hb.size; (first | (have NL := Lib.hid NB.out.lt; have LO := Lib.hid BD.out.size; have BD : Hid (Below w9.heap.size w9 wd) := Lib.hid (by with_reducible exact BD.out.trans (hb.mono BD.out.size)); have NB := Lib.hid (NB.out.later hb); have c0 := NB.out.cell (j := 0) rfl; have f0 := NB.out.fr (o := 0); have S1 := Lib.hid (NB.out.set 0 (.int .i64 r.ser)); have c1 := S1.out.cell (j := 1) rfl; have f1 := S1.out.fr (o := 1); have S2 := Lib.hid (S1.out.set 1 (.slice a1_q r.st.length c1_q)); have c2 := S2.out.cell (j := 2) rfl; have f2 := S2.out.fr (o := 2)) | (have LO := Lib.hid BD.out.size; have BD : Hid (Below w9.heap.size w9 wd) := Lib.hid (by with_reducible exact BD.out.trans (hb.mono BD.out.size))) | (have NL := Lib.hid (nb_lt hb); have LO := Lib.hid (nb_le BD.out hb); have NB := Lib.hid (nb_bk hb); have NG := Lib.hid BD.out.size; have BD : Hid (Below w9.heap.size w9 wd) := Lib.hid (nb_be BD.out hb); have c0 := NB.out.cell (j := 0) rfl; have f0 := NB.out.fr (o := 0); have S1 := Lib.hid (NB.out.set 0 (.int .i64 r.ser)); have c1 := S1.out.cell (j := 1) rfl; have f1 := S1.out.fr (o := 1); have S2 := Lib.hid (S1.out.set 1 (.slice a1_q r.st.length c1_q)); have c2 := S2.out.cell (j := 2) rfl; have f2 := S2.out.fr (o := 2))); clear ho hb))
    all_goals
      go_wp2
      go_meet
      first | with_reducible exact partCut_new BD.out HO.out LO.out LH.out | exact partCut_old NB.out NG.out NL.out HO.out LO.out LH.out BD.out
  case rest =>
  obtain ⟨rfl, wl_h0, wh_h0, gN_h0, a1_h0, c1_h0, a2_h0, c2_h0, rfl, hN, ho, hdj, hl1, hl2, hl3, hg1, hg2, hb⟩ := hcut
  obtain ⟨w10, hnew⟩ : ∃ y, y = wc := ⟨_, rfl⟩
  rw [← hnew] at hN ho hl3 hg2 hb ⊢
  clear hnew
  have Xh0_z := Lib.hid hN
  have Oh0_z := Lib.hid ho
  have SZ_h0a : Hid (gN_h0 < wl_h0.heap.size ∨ wh_h0.heap.size ≤ gN_h0) := Lib.hid hdj
  have SZ_h0b : Hid (w9.heap.size ≤ wl_h0.heap.size) := Lib.hid hl1
  have SZ_h0c : Hid (wl_h0.heap.size ≤ wh_h0.heap.size) := Lib.hid hl2
  have SZ_h0d : Hid (wh_h0.heap.size ≤ w10.heap.size) := Lib.hid hl3
  have SZ_h0e : Hid (w9.heap.size ≤ gN_h0) := Lib.hid hg1
  have SZ_h0f : Hid (gN_h0 < w10.heap.size) := Lib.hid hg2
  clear hN ho hdj hl1 hl2 hl3 hg1 hg2
  have Xm_12 := Lib.hid (Xm_11.out.later hb)
  have Xg_12 := Lib.hid (Xg_11.out.later hb)
  have Xw0_12 := Lib.hid (Xw0_11.out.later hb)
  have Xx_12 := Lib.hid (Xx_11.out.later hb)
  have Xg0_12 := Lib.hid (Xg0_11.out.later hb)
  have Ow0_12 := Lib.hid (Ow0_11.out.later hb)
  have Ox_12 := Lib.hid (Ox_11.out.later hb)
  have Og0_12 := Lib.hid (Og0_11.out.later hb)
  have BW_12 : Hid (Below w.heap.size w w10) := Lib.hid (BW_11.out.trans (hb.mono BW_11.out.size))
  have SZ_w10 : Hid (w9.heap.size ≤ w10.heap.size) := Lib.hid hb.size
  clear hb Xm_11 Xg_11 Xw0_11 Xx_11 Xg0_11 Ow0_11 Ox_11 Og0_11 BW_11
  have dm0 := Xm_12.out.cell (j := 0) rfl
  have dm1 := Xm_12.out.cell (j := 1) rfl
  have dg0 := Xg_12.out.cell (j := 0) rfl
  have dg1 := Xg_12.out.cell (j := 1) rfl
  have dg2 := Xg_12.out.cell (j := 2) rfl
  have dg3 := Xg_12.out.cell (j := 3) rfl
  have dw00 := Xw0_12.out.cell (j := 0) rfl
  have dw01 := Xw0_12.out.cell (j := 1) rfl
  have dw02 := Xw0_12.out.cell (j := 2) rfl
  have dx0 := Xx_12.out.cell (j := 0) rfl
  have dx1 := Xx_12.out.cell (j := 1) rfl
  have dg00 := Xg0_12.out.cell (j := 0) rfl
  have dg01 := Xg0_12.out.cell (j := 1) rfl
  have dg02 := Xg0_12.out.cell (j := 2) rfl
  have dh00 := Xh0_z.out.cell (j := 0) rfl
  have dh01 := Xh0_z.out.cell (j := 1) rfl
  have dh02 := Xh0_z.out.cell (j := 2) rfl
  go_wp2_with fail
  clear dm0 dm1 dg0 dg1 dg2 dg3 dw00 dw01 dw02 dx0 dx1 dg00 dg01 dg02 dh00 dh01 dh02
  refine (eqPart_st r a1_h0 c1_h0 a2_h0 c2_h0 a1_w0 c1_w0 a2_w0 c2_w0 _ (cPart_un Oh0_z.out.rd).1 (cPart_un Oh0_z.out.rd).2 (cPart_un Ow0_12.out.rd).1 (cPart_un Ow0_12.out.rd).2 HRZ.out).mono ?_
  rintro e w11 ⟨rfl, hb⟩
  have Xm_13 := Lib.hid (Xm_12.out.later hb)
  have Xg_13 := Lib.hid (Xg_12.out.later hb)
  have Xw0_13 := Lib.hid (Xw0_12.out.later hb)
  have Xx_13 := Lib.hid (Xx_12.out.later hb)
  have Xg0_13 := Lib.hid (Xg0_12.out.later hb)
  have Xh0_13 := Lib.hid (Xh0_z.out.later hb)
  have Ow0_13 := Lib.hid (Ow0_12.out.later hb)
  have Ox_13 := Lib.hid (Ox_12.out.later hb)
  have Og0_13 := Lib.hid (Og0_12.out.later hb)
  have Oh0_13 := Lib.hid (Oh0_z.out.later hb)
  have BW_13 : Hid (Below w.heap.size w w11) := Lib.hid (BW_12.out.trans (hb.mono BW_12.out.size))
  have SZ_w11 : Hid (w10.heap.size ≤ w11.heap.size) := Lib.hid hb.size
  clear hb Xm_12 Xg_12 Xw0_12 Xx_12 Xg0_12 Xh0_z Ow0_12 Ox_12 Og0_12 Oh0_z BW_12
  have dm0 := Xm_13.out.cell (j := 0) rfl
  have dm1 := Xm_13.out.cell (j := 1) rfl
  have dg0 := Xg_13.out.cell (j := 0) rfl
  have dg1 := Xg_13.out.cell (j := 1) rfl
  have dg2 := Xg_13.out.cell (j := 2) rfl
  have dg3 := Xg_13.out.cell (j := 3) rfl
  have dw00 := Xw0_13.out.cell (j := 0) rfl
  have dw01 := Xw0_13.out.cell (j := 1) rfl
  have dw02 := Xw0_13.out.cell (j := 2) rfl
  have dx0 := Xx_13.out.cell (j := 0) rfl
  have dx1 := Xx_13.out.cell (j := 1) rfl
  have dg00 := Xg0_13.out.cell (j := 0) rfl
  have dg01 := Xg0_13.out.cell (j := 1) rfl
  have dg02 := Xg0_13.out.cell (j := 2) rfl
  have dh00 := Xh0_13.out.cell (j := 0) rfl
  have dh01 := Xh0_13.out.cell (j := 1) rfl
  have dh02 := Xh0_13.out.cell (j := 2) rfl
  go_wp2_with fail
  clear dm0 dm1 dg0 dg1 dg2 dg3 dw00 dw01 dw02 dx0 dx1 dg00 dg01 dg02 dh00 dh01 dh02
  refine (heldPart_st r a1_g0 c1_g0 a2_g0 c2_g0 1 _ _ (by rfl) (by decide) (by rw [← cPart_top]; exact HRC.out) HRZ.out Og0_13.out.rd).mono ?_
  rintro e w12 ⟨he, hb⟩
  rw [← cPart_top, HC_q.out] at he
  subst he
  have Xm_14 := Lib.hid (Xm_13.out.later hb)
  have Xg_14 := Lib.hid (Xg_13.out.later hb)
  have Xw0_14 := Lib.hid (Xw0_13.out.later hb)
  have Xx_14 := Lib.hid (Xx_13.out.later hb)
  have Xg0_14 := Lib.hid (Xg0_13.out.later hb)
  have Xh0_14 := Lib.hid (Xh0_13.out.later hb)
  have Ow0_14 := Lib.hid (Ow0_13.out.later hb)
  have Ox_14 := Lib.hid (Ox_13.out.later hb)
  have Og0_14 := Lib.hid (Og0_13.out.later hb)
  have Oh0_14 := Lib.hid (Oh0_13.out.later hb)
  have BW_14 : Hid (Below w.heap.size w w12) := Lib.hid (BW_13.out.trans (hb.mono BW_13.out.size))
  have SZ_w12 : Hid (w11.heap.size ≤ w12.heap.size) := Lib.hid hb.size
  clear hb Xm_13 Xg_13 Xw0_13 Xx_13 Xg0_13 Xh0_13 Ow0_13 Ox_13 Og0_13 Oh0_13 BW_13
  go_wp2
  go_ret
  exact ⟨rfl, BW_14.out⟩
end Go.Proofs.YtkfkjcadmdcbnaaGreatDoor
namespace Go.Proofs.YtkfkjcadmdcbnaaGreatDoor
open Go.Deep Go.ChangeShapes Go.WideShapes Go.RowKit

theorem add_at1 (a : Addr) (k : Nat) (h : a.spot = none) : a.add k = ⟨a.block, a.off + k, none⟩ := by
  obtain ⟨b, o, s⟩ := a
  simp only at h
  subst h
  unfold Addr.add
  split <;> simp_all
/-- A row of elements that came in, for whatever element. -/
theorem row_of_cells {α : Type} [Inhabited α] (E : Enc α) {W : World} {ad : Addr} {len : Nat} (h0 : 0 < E.k) (each : ∀ i, i < len → ∃ s : α, W.cells? 0 (ad.add (i * E.k)) E.k = some (E.cells s)) :
    ∃ L : List α, SrcE E W (some ad) len L ∧ (∀ i, i < len → W.cells? 0 (ad.add (i * E.k)) E.k = some (E.cells (L.getD i default))) := by
  obtain ⟨S, hS⟩ := choose_lt each
  have hget : ∀ i, i < len → ((List.range len).map S).getD i default = S i := fun i hi => by simp [List.getD, hi]
  refine ⟨(List.range len).map S, ⟨by simp, fun j hj => ?_⟩, fun i hi => by rw [hget i hi]; exact hS i hi⟩
  rw [hget j hj]
  have hj3 := (World.cells?_some (hS j hj)).2.2
  have e0 := hj3 0 h0
  have hlen := E.len (S j)
  rw [show (E.cells (S j))[0]? = some ((E.cells (S j))[0]'(by omega)) from List.getElem?_eq_getElem _] at e0
  have h00 := (World.cells?_some (hS 0 (by omega))).2.2 0 h0
  have hlen0 := E.len (S 0)
  rw [show (E.cells (S 0))[0]? = some ((E.cells (S 0))[0]'(by omega)) from List.getElem?_eq_getElem _] at h00
  have hspot : ad.spot = none := by
    have := World.cell?_spot h00
    simpa [Addr.add] using this
  simp only [add_add] at e0 hj3
  rw [add_at1 ad _ hspot] at e0
  have hb : ad.block < W.heap.size := by
    rcases Nat.lt_or_ge ad.block W.heap.size with hlt | hge
    · exact hlt
    · simp [World.cell?, Array.getElem?_eq_none hge] at e0
  refine ⟨ad.block, ad.off, by obtain ⟨b, o, s⟩ := ad; simp only at hspot; rw [hspot], hb, fun o v hv => ?_⟩
  have ho : o < E.k := by
    rcases Nat.lt_or_ge o E.k with h | h
    · exact h
    · rw [List.getElem?_eq_none (by omega)] at hv; cases hv
  have e1 := hj3 o ho
  rw [add_at1 ad _ hspot, hv] at e1
  rw [Nat.add_assoc]
  exact e1
end Go.Proofs.YtkfkjcadmdcbnaaGreatDoor
