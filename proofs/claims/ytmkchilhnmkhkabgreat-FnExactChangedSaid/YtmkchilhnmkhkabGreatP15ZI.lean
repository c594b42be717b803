/- Merged texts: TPartC, TIntQS, TRecQ, TRecQS, TEntryQ, TEntryQS, TInoQ, TInoQS, TPartQ, TWriteQ, TWriteQS, TWriteMS, TWriteHS, PartWritesLaw, ChMath, ChSt, NeqWr. -/
import Derived.Test.YtmkchilhnmkhkabGreatP15ZH
namespace Go.Proofs.YtmkchilhnmkhkabGreat
open Go.RowKit Go.Proofs.YtmkchilhnmkhkabGreat.Parts Go.Proofs.YtmkchilhnmkhkabGreat.Hexa

set_option maxRecDepth 100000 in
set_option maxHeartbeats 1000000 in
theorem toPart_st (x : PartR) (a1 : Option Addr) (c1 : Nat) (a2 : Option Addr) (c2 : Nat) (w : World) (h1 : (celRow cInt x.st).Rd w (.slice a1 x.st.length c1)) (h2 : (celRow cIno x.ino).Rd w (.slice a2 x.ino.length c2)) (hz : szL (cPart.cels x) ≤ 1048576) :
    Calls Tryz.prog 8 #[.agg #[.int .i64 x.ser, .slice a1 x.st.length c1, .slice a2 x.ino.length c2]] w (ToPostS (cPart.cels x) w) := by
  rw [cPart_sz] at hz
  have HS1 := Lib.hid h1
  have HS2 := Lib.hid h2
  clear h1 h2
  have B0 := Lib.hid (below_bk w (.cells #[.int .i64 x.ser, .slice a1 x.st.length c1, .slice a2 x.ino.length c2] 27))
  have W1 : Hid (Bk (w.alloc (.cells #[.int .i64 x.ser, .slice a1 x.st.length c1, .slice a2 x.ino.length c2] 27)) w.heap.size #[.int .i64 x.ser, .slice a1 x.st.length c1, .slice a2 x.ino.length c2] 27) := Lib.hid (Bk.alloc w _ _)
  go_enter Tryz.func8, Tryz.ntmps8
  go_wp2_with fail
  have hb1 := below_bk (w.alloc (.cells #[.int .i64 x.ser, .slice a1 x.st.length c1, .slice a2 x.ino.length c2] 27)) (.cells #[.int .i64 0, .slice none 0 0, .slice none 0 0] 35)
  have hb2 := below_bk ((w.alloc (.cells #[.int .i64 x.ser, .slice a1 x.st.length c1, .slice a2 x.ino.length c2] 27)).alloc (.cells #[.int .i64 0, .slice none 0 0, .slice none 0 0] 35)) (.cells #[.int .i64 x.ser, .slice none 0 0, .slice none 0 0] 35)
  have T0 := Lib.hid ((W1.out.later hb1).later hb2)
  have Z0 : Hid (Bk (((w.alloc (.cells #[.int .i64 x.ser, .slice a1 x.st.length c1, .slice a2 x.ino.length c2] 27)).alloc (.cells #[.int .i64 0, .slice none 0 0, .slice none 0 0] 35)).alloc (.cells #[.int .i64 x.ser, .slice none 0 0, .slice none 0 0] 35)) (w.heap.size + 1) #[.int .i64 0, .slice none 0 0, .slice none 0 0] 35) := Lib.hid (by
    have h := (Bk.alloc (w.alloc (.cells #[.int .i64 x.ser, .slice a1 x.st.length c1, .slice a2 x.ino.length c2] 27)) #[.int .i64 0, .slice none 0 0, .slice none 0 0] 35).later hb2
    simpa using h)
  have O0 : Hid (Bk (((w.alloc (.cells #[.int .i64 x.ser, .slice a1 x.st.length c1, .slice a2 x.ino.length c2] 27)).alloc (.cells #[.int .i64 0, .slice none 0 0, .slice none 0 0] 35)).alloc (.cells #[.int .i64 x.ser, .slice none 0 0, .slice none 0 0] 35)) (w.heap.size + 1 + 1) #[.int .i64 x.ser, .slice none 0 0, .slice none 0 0] 35) := Lib.hid (by
    have h := Bk.alloc ((w.alloc (.cells #[.int .i64 x.ser, .slice a1 x.st.length c1, .slice a2 x.ino.length c2] 27)).alloc (.cells #[.int .i64 0, .slice none 0 0, .slice none 0 0] 35)) #[.int .i64 x.ser, .slice none 0 0, .slice none 0 0] 35
    simpa using h)
  have B3 : Hid (Below w.heap.size w (((w.alloc (.cells #[.int .i64 x.ser, .slice a1 x.st.length c1, .slice a2 x.ino.length c2] 27)).alloc (.cells #[.int .i64 0, .slice none 0 0, .slice none 0 0] 35)).alloc (.cells #[.int .i64 x.ser, .slice none 0 0, .slice none 0 0] 35))) := Lib.hid ((B0.out.alloc B0.out.size _).alloc (by simp; omega) _)
  have N0 : Hid ((((w.alloc (.cells #[.int .i64 x.ser, .slice a1 x.st.length c1, .slice a2 x.ino.length c2] 27)).alloc (.cells #[.int .i64 0, .slice none 0 0, .slice none 0 0] 35)).alloc (.cells #[.int .i64 x.ser, .slice none 0 0, .slice none 0 0] 35)).heap.size = w.heap.size + 3) := Lib.hid (by simp)
  obtain ⟨V0, hV0⟩ : ∃ y, y = (((w.alloc (.cells #[.int .i64 x.ser, .slice a1 x.st.length c1, .slice a2 x.ino.length c2] 27)).alloc (.cells #[.int .i64 0, .slice none 0 0, .slice none 0 0] 35)).alloc (.cells #[.int .i64 x.ser, .slice none 0 0, .slice none 0 0] 35)) := ⟨_, rfl⟩
  rw [← hV0] at T0 Z0 O0 B3 N0 ⊢
  clear hV0 hb1 hb2 B0 W1
  have SZ0 : Hid (w.heap.size + 3 ≤ V0.heap.size) := Lib.hid (by have := N0.out; omega)
  clear N0
  refine (toIntS_any _ x.st _ (Cel.Rd.later B3.out _ _ HS1.out) (by omega)).mono ?_
  rintro e w1 ⟨u1, rfl, ho, hb⟩
  obtain ⟨p1, m1, s1, rfl, hm⟩ := row_form ho.rd
  subst hm
  have T1a := Lib.hid (T0.out.later hb)
  have Z1a := Lib.hid (Z0.out.later hb)
  have O1a := Lib.hid (O0.out.later hb)
  have B1a : Hid (Below w.heap.size w w1) := Lib.hid (B3.out.trans (hb.mono B3.out.size))
  have SZ1a : Hid (V0.heap.size ≤ w1.heap.size) := Lib.hid hb.size
  have J1_1 := Lib.hid ho
  clear hb ho T0 Z0 O0 B3
  have x1 := O1a.out.cell (j := 1) rfl
  have f1 := O1a.out.fr (o := 1)
  have O2 := Lib.hid (O1a.out.set 1 (.slice p1 x.st.length s1))
  have T2 := Lib.hid (T1a.out.other (c := w.heap.size + 1 + 1) (o := 1) (by omega) (.slice p1 x.st.length s1))
  have Z2 := Lib.hid (Z1a.out.other (c := w.heap.size + 1 + 1) (o := 1) (by omega) (.slice p1 x.st.length s1))
  have B2 : Hid (Below w.heap.size w (w1.setCell ⟨w.heap.size + 1 + 1, 1, none⟩ (.slice p1 x.st.length s1))) := Lib.hid (B1a.out.setCell (by show w.heap.size ≤ w.heap.size + 1 + 1; omega) _)
  have J1_2 := Lib.hid (J1_1.out.kept (w' := w1.setCell ⟨w.heap.size + 1 + 1, 1, none⟩ (.slice p1 x.st.length s1)) (fun g h1 h2 => Below.heap_setCell _ _ _ _ (by show g ≠ w.heap.size + 1 + 1; have := SZ0.out; have := SZ1a.out; omega)))
  clear J1_1
  have t2_2 := T2.out.cell (j := 2) rfl
  clear B1a T1a Z1a O1a
  go_wp2_with fail
  obtain ⟨V2, hV⟩ : ∃ y, y = (w1.setCell ⟨w.heap.size + 1 + 1, 1, none⟩ (.slice p1 x.st.length s1)) := ⟨_, rfl⟩
  rw [← hV] at O2 T2 Z2 B2 J1_2 ⊢
  have SZ2 : Hid (w1.heap.size ≤ V2.heap.size) := Lib.hid (by rw [hV]; simp [World.setCell])
  clear hV x1 f1 t2_2
  refine (toInoS_any _ x.ino _ (Cel.Rd.later B2.out _ _ HS2.out) (by omega)).mono ?_
  rintro e w3 ⟨u2, rfl, ho, hb⟩
  obtain ⟨p2, m2, s2, rfl, hm⟩ := row_form ho.rd
  subst hm
  have T3a := Lib.hid (T2.out.later hb)
  have Z3a := Lib.hid (Z2.out.later hb)
  have O3a := Lib.hid (O2.out.later hb)
  have B3a : Hid (Below w.heap.size w w3) := Lib.hid (B2.out.trans (hb.mono B2.out.size))
  have SZ3a : Hid (V2.heap.size ≤ w3.heap.size) := Lib.hid hb.size
  have J2_3 := Lib.hid ho
  have J1_3 := Lib.hid (J1_2.out.later hb)
  clear J1_2
  clear hb ho T2 Z2 O2 B2
  have x2 := O3a.out.cell (j := 2) rfl
  have f2 := O3a.out.fr (o := 2)
  have O4 := Lib.hid (O3a.out.set 2 (.slice p2 x.ino.length s2))
  have T4 := Lib.hid (T3a.out.other (c := w.heap.size + 1 + 1) (o := 2) (by omega) (.slice p2 x.ino.length s2))
  have Z4 := Lib.hid (Z3a.out.other (c := w.heap.size + 1 + 1) (o := 2) (by omega) (.slice p2 x.ino.length s2))
  have B4 : Hid (Below w.heap.size w (w3.setCell ⟨w.heap.size + 1 + 1, 2, none⟩ (.slice p2 x.ino.length s2))) := Lib.hid (B3a.out.setCell (by show w.heap.size ≤ w.heap.size + 1 + 1; omega) _)
  have J1_4 := Lib.hid (J1_3.out.kept (w' := w3.setCell ⟨w.heap.size + 1 + 1, 2, none⟩ (.slice p2 x.ino.length s2)) (fun g h1 h2 => Below.heap_setCell _ _ _ _ (by show g ≠ w.heap.size + 1 + 1; have := SZ0.out; have := SZ1a.out; have := SZ2.out; have := SZ3a.out; omega)))
  clear J1_3
  have J2_4 := Lib.hid (J2_3.out.kept (w' := w3.setCell ⟨w.heap.size + 1 + 1, 2, none⟩ (.slice p2 x.ino.length s2)) (fun g h1 h2 => Below.heap_setCell _ _ _ _ (by show g ≠ w.heap.size + 1 + 1; have := SZ0.out; have := SZ1a.out; have := SZ2.out; have := SZ3a.out; omega)))
  clear J2_3
  clear B3a T3a Z3a O3a
  have y0 := O4.out.cell (j := 0) rfl
  have y1 := O4.out.cell (j := 1) rfl
  have y2 := O4.out.cell (j := 2) rfl
  have z0 := Z4.out.cell (j := 0) rfl
  have g0 := Z4.out.fr (o := 0)
  have z1 := Z4.out.cell (j := 1) rfl
  have g1 := Z4.out.fr (o := 1)
  have z2 := Z4.out.cell (j := 2) rfl
  have g2 := Z4.out.fr (o := 2)
  have qf := (((Z4.out.set 0 (.int .i64 x.ser)).set 1 (.slice p1 x.st.length s1)).set 2 (.slice p2 x.ino.length s2))
  have q0 := qf.cell (j := 0) rfl
  have q1 := qf.cell (j := 1) rfl
  have q2 := qf.cell (j := 2) rfl
  clear qf
  have BE := Lib.hid (((B4.out.setCell (p := ⟨w.heap.size + 1, 0, none⟩) (by show w.heap.size ≤ w.heap.size + 1; omega) (.int .i64 x.ser)).setCell (p := ⟨w.heap.size + 1, 1, none⟩) (by show w.heap.size ≤ w.heap.size + 1; omega) (.slice p1 x.st.length s1)).setCell (p := ⟨w.heap.size + 1, 2, none⟩) (by show w.heap.size ≤ w.heap.size + 1; omega) (.slice p2 x.ino.length s2))
  have JE1 := Lib.hid (J1_4.out.kept (w' := ((w3.setCell ⟨w.heap.size + 1 + 1, 2, none⟩ (.slice p2 x.ino.length s2))).setCells (w.heap.size + 1) 0 [.int .i64 x.ser, .slice p1 x.st.length s1, .slice p2 x.ino.length s2]) (fun g h1 h2 => heap_setCells_ne (by have := SZ0.out; have := SZ1a.out; have := SZ2.out; have := SZ3a.out; omega) _ _ _))
  have JE2 := Lib.hid (J2_4.out.kept (w' := ((w3.setCell ⟨w.heap.size + 1 + 1, 2, none⟩ (.slice p2 x.ino.length s2))).setCells (w.heap.size + 1) 0 [.int .i64 x.ser, .slice p1 x.st.length s1, .slice p2 x.ino.length s2]) (fun g h1 h2 => heap_setCells_ne (by have := SZ0.out; have := SZ1a.out; have := SZ2.out; have := SZ3a.out; omega) _ _ _))
  have SE : Hid (w3.heap.size ≤ (((w3.setCell ⟨w.heap.size + 1 + 1, 2, none⟩ (.slice p2 x.ino.length s2))).setCells (w.heap.size + 1) 0 [.int .i64 x.ser, .slice p1 x.st.length s1, .slice p2 x.ino.length s2]).heap.size) := Lib.hid (by rw [size_setCells]; simp [World.setCell])
  go_wp2
  refine bodyPost_ret (v := .agg #[.int .i64 x.ser, .slice p1 x.st.length s1, .slice p2 x.ino.length s2]) ?_ rfl ⟨_, rfl, (((Objs.cons (lo := V0.heap.size) JE1.out (Objs.cons (lo := V2.heap.size) JE2.out (Objs.nil _ w3.heap.size (((w3.setCell ⟨w.heap.size + 1 + 1, 2, none⟩ (.slice p2 x.ino.length s2))).setCells (w.heap.size + 1) 0 [.int .i64 x.ser, .slice p1 x.st.length s1, .slice p2 x.ino.length s2]).heap.size) (by have := SZ0.out; have := SZ1a.out; have := SZ2.out; have := SZ3a.out; omega) (by have := SZ0.out; have := SZ1a.out; have := SZ2.out; have := SZ3a.out; omega) (by have := SZ0.out; have := SZ1a.out; have := SZ2.out; have := SZ3a.out; have := SE.out; omega)) (by have := SZ0.out; have := SZ1a.out; have := SZ2.out; have := SZ3a.out; omega) (by have := SZ0.out; have := SZ1a.out; have := SZ2.out; have := SZ3a.out; omega) (by have := SZ0.out; have := SZ1a.out; have := SZ2.out; have := SZ3a.out; have := SE.out; omega)).val _)).mono (by have := SZ0.out; have := SZ1a.out; have := SZ2.out; have := SZ3a.out; omega) (Nat.le_refl _), BE.out⟩
  simp [results, Tryz.results8, go_sem, q0, q1, q2]

end Go.Proofs.YtmkchilhnmkhkabGreat
namespace Go.Proofs.YtmkchilhnmkhkabGreat
open Go.RowKit Go.Proofs.YtmkchilhnmkhkabGreat.Parts Go.Proofs.YtmkchilhnmkhkabGreat.Hexa

set_option maxRecDepth 100000 in
set_option maxHeartbeats 1000000 in
theorem eqIntS_any (v v2 : Value) (L : List Int) (w : World) (s1 : (celRow cInt L).Rd w v) (s2 : (celRow cInt L).Rd w v2) (hz : (celRow cInt L).sz ≤ 100000000) :
    Calls Tryz.prog 32 #[v, v2] w fun e w' => e = .returned (.bool true) ∧ Below w.heap.size w w' := by
  obtain ⟨a, n, c, rfl, hn⟩ := row_form s1
  obtain ⟨a', n', c', rfl, hn'⟩ := row_form s2
  obtain rfl : n' = n := by rw [← hn, ← hn']
  rw [szInts_eq, hn] at hz
  have R1 := Lib.hid s1
  have R2 := Lib.hid s2
  clear s1 s2 hn hn'
  go_enter Tryz.func32, Tryz.ntmps32
  go_wp2
  go_loopw [5] (fun iv wr => ∃ k m : Nat, k ≤ n' ∧ iv = .int .i64 k ∧ wr = w.drewN m) (fun iv _ => n' - (intOf iv).toNat)
  case atStart => exact ⟨0, 0, Nat.zero_le _, rfl, rfl⟩
  case round =>
    obtain ⟨k, m, hk, rfl, rfl⟩ := hrel
    by_cases hlt : k < n'
    · obtain ⟨g1, o1, rfl, h1, d1⟩ := cInt_at R1.out k hlt
      obtain ⟨g2, o2, rfl, h2, d2⟩ := cInt_at R2.out k hlt
      obtain ⟨x, hx⟩ : ∃ x, L.getD k default = x := ⟨_, rfl⟩
      rw [hx] at d1 d2
      clear hx h1 h2
      go_wp2
      go_quiet (fail)
      go_wp2
      go_roundw
      case rel => exact ⟨k + 1, _, by omega, by go_num, rfl⟩
      case measure => (simp [intOf]; try omega)
    · obtain rfl : k = n' := by omega
      go_wp2
      go_ret
      exact ⟨rfl, below_drewsN (Below.refl _ _) _⟩
end Go.Proofs.YtmkchilhnmkhkabGreat
namespace Go.Proofs.YtmkchilhnmkhkabGreat
open Go.RowKit Go.Proofs.YtmkchilhnmkhkabGreat.Parts Go.Proofs.YtmkchilhnmkhkabGreat.Hexa

set_option maxRecDepth 100000 in
set_option maxHeartbeats 1000000 in
theorem eqRec_st (x : RecR) (w : World) (_ : szL (cRec.cels x) ≤ 100000000) :
    Calls Tryz.prog 106 #[.agg #[.int .i64 x.f0, .int .i64 x.f1, .string x.f2], .agg #[.int .i64 x.f0, .int .i64 x.f1, .string x.f2]] w fun e w' => e = .returned (.bool true) ∧ Below w.heap.size w w' := by
  go_enter Tryz.func106, Tryz.ntmps106
  go_wp2
  go_ret
  exact ⟨rfl, ((Below.refl _ _).alloc (Nat.le_refl _) _).alloc (by simp) _⟩

end Go.Proofs.YtmkchilhnmkhkabGreat
namespace Go.Proofs.YtmkchilhnmkhkabGreat
open Go.RowKit Go.Proofs.YtmkchilhnmkhkabGreat.Parts Go.Proofs.YtmkchilhnmkhkabGreat.Hexa

set_option maxRecDepth 100000 in
set_option maxHeartbeats 1000000 in
theorem eqRecS_any (v v2 : Value) (L : List RecR) (w : World) (s1 : (celRow cRec L).Rd w v) (s2 : (celRow cRec L).Rd w v2) (hz : (celRow cRec L).sz ≤ 100000000) :
    Calls Tryz.prog 93 #[v, v2] w fun e w' => e = .returned (.bool true) ∧ Below w.heap.size w w' := by
  obtain ⟨a, n, c, rfl, hn⟩ := row_form s1
  obtain ⟨a', n', c', rfl, hn'⟩ := row_form s2
  obtain rfl : n' = n := by rw [← hn, ← hn']
  have R1 := Lib.hid s1
  have R2 := Lib.hid s2
  have hz' : n' + szL (celsE cRec L) ≤ 100000000 := by rw [← hn]; exact hz
  have hn1 : n' ≤ 100000000 := by omega
  have HZ : Hid (szL (celsE cRec L) ≤ 100000000) := Lib.hid (by omega)
  have HN := Lib.hid hn
  clear s1 s2 hz hz' hn hn'
  go_enter Tryz.func93, Tryz.ntmps93
  go_wp2
  go_loopw [5] (fun iv wr => ∃ k : Nat, k ≤ n' ∧ iv = .int .i64 k ∧ Below w.heap.size w wr) (fun iv _ => n' - (intOf iv).toNat)
  case atStart => exact ⟨0, Nat.zero_le _, rfl, Below.refl _ _⟩
  case round =>
    obtain ⟨k, hk, rfl, hbel⟩ := hrel
    by_cases hlt : k < n'
    · have HX : Hid (szL (cRec.cels (L.getD k default)) ≤ 100000000) := Lib.hid (Nat.le_trans (szL_at cRec L k (by rw [HN.out]; exact hlt)) HZ.out)
      obtain ⟨g, off, rfl, hg, d0, d1, d2⟩ := cRec_at (Cel.Rd.later hbel _ _ R1.out) k hlt
      obtain ⟨g2, off2, rfl, hg2, m0, m1, m2⟩ := cRec_at (Cel.Rd.later hbel _ _ R2.out) k hlt
      obtain ⟨x, hx⟩ : ∃ x, L.getD k default = x := ⟨_, rfl⟩
      rw [hx] at d0 d1 d2 m0 m1 m2   HX
      clear hx

      go_wp2
      go_region_with (go_at_call 106; refine (eqRec_st x _ HX.out).mono ?_; rintro e w1 ⟨rfl, hb1⟩)
      all_goals
        have hb2 : Below w.heap.size w w1 := hbel.drew.trans (hb1.mono hbel.size)
        clear d0 d1 d2 m0 m1 m2   hb1
        go_wp2
        go_roundw
        case rel => exact ⟨k + 1, by omega, by go_num, hb2⟩
        case measure => (simp [intOf]; try omega)
    · obtain rfl : k = n' := by omega
      go_wp2
      go_ret
      exact ⟨rfl, hbel⟩

end Go.Proofs.YtmkchilhnmkhkabGreat
namespace Go.Proofs.YtmkchilhnmkhkabGreat
open Go.RowKit Go.Proofs.YtmkchilhnmkhkabGreat.Parts Go.Proofs.YtmkchilhnmkhkabGreat.Hexa

set_option maxRecDepth 100000 in
set_option maxHeartbeats 1000000 in
theorem eqEntry_st (x : EntryR) (w : World) (_ : szL (cEntry.cels x) ≤ 100000000) :
    Calls Tryz.prog 107 #[.agg #[.int .i64 x.f0, .string x.f1], .agg #[.int .i64 x.f0, .string x.f1]] w fun e w' => e = .returned (.bool true) ∧ Below w.heap.size w w' := by
  go_enter Tryz.func107, Tryz.ntmps107
  go_wp2
  go_ret
  exact ⟨rfl, ((Below.refl _ _).alloc (Nat.le_refl _) _).alloc (by simp) _⟩

end Go.Proofs.YtmkchilhnmkhkabGreat
namespace Go.Proofs.YtmkchilhnmkhkabGreat
open Go.RowKit Go.Proofs.YtmkchilhnmkhkabGreat.Parts Go.Proofs.YtmkchilhnmkhkabGreat.Hexa

set_option maxRecDepth 100000 in
set_option maxHeartbeats 1000000 in
theorem eqEntryS_any (v v2 : Value) (L : List EntryR) (w : World) (s1 : (celRow cEntry L).Rd w v) (s2 : (celRow cEntry L).Rd w v2) (hz : (celRow cEntry L).sz ≤ 100000000) :
    Calls Tryz.prog 94 #[v, v2] w fun e w' => e = .returned (.bool true) ∧ Below w.heap.size w w' := by
  obtain ⟨a, n, c, rfl, hn⟩ := row_form s1
  obtain ⟨a', n', c', rfl, hn'⟩ := row_form s2
  obtain rfl : n' = n := by rw [← hn, ← hn']
  have R1 := Lib.hid s1
  have R2 := Lib.hid s2
  have hz' : n' + szL (celsE cEntry L) ≤ 100000000 := by rw [← hn]; exact hz
  have hn1 : n' ≤ 100000000 := by omega
  have HZ : Hid (szL (celsE cEntry L) ≤ 100000000) := Lib.hid (by omega)
  have HN := Lib.hid hn
  clear s1 s2 hz hz' hn hn'
  go_enter Tryz.func94, Tryz.ntmps94
  go_wp2
  go_loopw [5] (fun iv wr => ∃ k : Nat, k ≤ n' ∧ iv = .int .i64 k ∧ Below w.heap.size w wr) (fun iv _ => n' - (intOf iv).toNat)
  case atStart => exact ⟨0, Nat.zero_le _, rfl, Below.refl _ _⟩
  case round =>
    obtain ⟨k, hk, rfl, hbel⟩ := hrel
    by_cases hlt : k < n'
    · have HX : Hid (szL (cEntry.cels (L.getD k default)) ≤ 100000000) := Lib.hid (Nat.le_trans (szL_at cEntry L k (by rw [HN.out]; exact hlt)) HZ.out)
      obtain ⟨g, off, rfl, hg, d0, d1⟩ := cEntry_at (Cel.Rd.later hbel _ _ R1.out) k hlt
      obtain ⟨g2, off2, rfl, hg2, m0, m1⟩ := cEntry_at (Cel.Rd.later hbel _ _ R2.out) k hlt
      obtain ⟨x, hx⟩ : ∃ x, L.getD k default = x := ⟨_, rfl⟩
      rw [hx] at d0 d1 m0 m1   HX
      clear hx

      go_wp2
      go_region_with (go_at_call 107; refine (eqEntry_st x _ HX.out).mono ?_; rintro e w1 ⟨rfl, hb1⟩)
      all_goals
        have hb2 : Below w.heap.size w w1 := hbel.drew.trans (hb1.mono hbel.size)
        clear d0 d1 m0 m1   hb1
        go_wp2
        go_roundw
        case rel => exact ⟨k + 1, by omega, by go_num, hb2⟩
        case measure => (simp [intOf]; try omega)
    · obtain rfl : k = n' := by omega
      go_wp2
      go_ret
      exact ⟨rfl, hbel⟩

end Go.Proofs.YtmkchilhnmkhkabGreat
namespace Go.Proofs.YtmkchilhnmkhkabGreat
open Go.RowKit Go.Proofs.YtmkchilhnmkhkabGreat.Parts Go.Proofs.YtmkchilhnmkhkabGreat.Hexa

set_option maxRecDepth 100000 in
set_option maxHeartbeats 1000000 in
theorem eqIno_st (x : InoR) (a4 : Option Addr) (c4 : Nat) (a5 : Option Addr) (c5 : Nat) (b4 : Option Addr) (s4 : Nat) (b5 : Option Addr) (s5 : Nat) (w : World) (h4 : (celRow cRec x.R).Rd w (.slice a4 x.R.length c4)) (h5 : (celRow cEntry x.E).Rd w (.slice a5 x.E.length c5)) (k4 : (celRow cRec x.R).Rd w (.slice b4 x.R.length s4)) (k5 : (celRow cEntry x.E).Rd w (.slice b5 x.E.length s5)) (hz : szL (cIno.cels x) ≤ 100000000) :
    Calls Tryz.prog 70 #[.agg #[.int .i64 x.kd, .int .i64 x.sz, .int .i64 x.gn, .string x.key, .slice a4 x.R.length c4, .slice a5 x.E.length c5], .agg #[.int .i64 x.kd, .int .i64 x.sz, .int .i64 x.gn, .string x.key, .slice b4 x.R.length s4, .slice b5 x.E.length s5]] w fun e w' => e = .returned (.bool true) ∧ Below w.heap.size w w' := by
  rw [cIno_sz] at hz
  have hb1 := below_bk w (.cells #[.int .i64 x.kd, .int .i64 x.sz, .int .i64 x.gn, .string x.key, .slice a4 x.R.length c4, .slice a5 x.E.length c5] 57)
  have hb2 := below_bk (w.alloc (.cells #[.int .i64 x.kd, .int .i64 x.sz, .int .i64 x.gn, .string x.key, .slice a4 x.R.length c4, .slice a5 x.E.length c5] 57)) (.cells #[.int .i64 x.kd, .int .i64 x.sz, .int .i64 x.gn, .string x.key, .slice b4 x.R.length s4, .slice b5 x.E.length s5] 57)
  have T0 := Lib.hid ((Bk.alloc w #[.int .i64 x.kd, .int .i64 x.sz, .int .i64 x.gn, .string x.key, .slice a4 x.R.length c4, .slice a5 x.E.length c5] 57).later hb2)
  have U0 : Hid (Bk ((w.alloc (.cells #[.int .i64 x.kd, .int .i64 x.sz, .int .i64 x.gn, .string x.key, .slice a4 x.R.length c4, .slice a5 x.E.length c5] 57)).alloc (.cells #[.int .i64 x.kd, .int .i64 x.sz, .int .i64 x.gn, .string x.key, .slice b4 x.R.length s4, .slice b5 x.E.length s5] 57)) (w.heap.size + 1) #[.int .i64 x.kd, .int .i64 x.sz, .int .i64 x.gn, .string x.key, .slice b4 x.R.length s4, .slice b5 x.E.length s5] 57) := Lib.hid (by
    have h := Bk.alloc (w.alloc (.cells #[.int .i64 x.kd, .int .i64 x.sz, .int .i64 x.gn, .string x.key, .slice a4 x.R.length c4, .slice a5 x.E.length c5] 57)) #[.int .i64 x.kd, .int .i64 x.sz, .int .i64 x.gn, .string x.key, .slice b4 x.R.length s4, .slice b5 x.E.length s5] 57
    simpa using h)
  have B0 : Hid (Below w.heap.size w ((w.alloc (.cells #[.int .i64 x.kd, .int .i64 x.sz, .int .i64 x.gn, .string x.key, .slice a4 x.R.length c4, .slice a5 x.E.length c5] 57)).alloc (.cells #[.int .i64 x.kd, .int .i64 x.sz, .int .i64 x.gn, .string x.key, .slice b4 x.R.length s4, .slice b5 x.E.length s5] 57))) := Lib.hid (hb1.trans (hb2.mono hb1.size))
  have HS4 := Lib.hid h4
  have HU4 := Lib.hid k4
  have HS5 := Lib.hid h5
  have HU5 := Lib.hid k5
  clear hb1 hb2 h4 k4 h5 k5
  go_enter Tryz.func70, Tryz.ntmps70
  go_wp2_with fail
  refine (eqRecS_any _ _ x.R _ (Cel.Rd.later B0.out _ _ HS4.out) (Cel.Rd.later B0.out _ _ HU4.out) (by omega)).mono ?_
  rintro e w1 ⟨rfl, hb⟩
  have T1 := Lib.hid (T0.out.later hb)
  have U1 := Lib.hid (U0.out.later hb)
  have B1 : Hid (Below w.heap.size w w1) := Lib.hid (B0.out.trans (hb.mono B0.out.size))
  have x1_5 := T1.out.cell (j := 5) rfl
  have y1_5 := U1.out.cell (j := 5) rfl
  clear hb
  go_wp2_with fail
  refine (eqEntryS_any _ _ x.E _ (Cel.Rd.later B1.out _ _ HS5.out) (Cel.Rd.later B1.out _ _ HU5.out) (by omega)).mono ?_
  rintro e w2 ⟨rfl, hb⟩
  have T2 := Lib.hid (T1.out.later hb)
  have U2 := Lib.hid (U1.out.later hb)
  have B2 : Hid (Below w.heap.size w w2) := Lib.hid (B1.out.trans (hb.mono B1.out.size))
  clear hb
  go_wp2
  go_ret
  exact ⟨rfl, B2.out⟩

end Go.Proofs.YtmkchilhnmkhkabGreat
namespace Go.Proofs.YtmkchilhnmkhkabGreat
open Go.RowKit Go.Proofs.YtmkchilhnmkhkabGreat.Parts Go.Proofs.YtmkchilhnmkhkabGreat.Hexa

set_option maxRecDepth 100000 in
set_option maxHeartbeats 1000000 in
theorem eqInoS_any (v v2 : Value) (L : List InoR) (w : World) (s1 : (celRow cIno L).Rd w v) (s2 : (celRow cIno L).Rd w v2) (hz : (celRow cIno L).sz ≤ 100000000) :
    Calls Tryz.prog 33 #[v, v2] w fun e w' => e = .returned (.bool true) ∧ Below w.heap.size w w' := by
  obtain ⟨a, n, c, rfl, hn⟩ := row_form s1
  obtain ⟨a', n', c', rfl, hn'⟩ := row_form s2
  obtain rfl : n' = n := by rw [← hn, ← hn']
  have R1 := Lib.hid s1
  have R2 := Lib.hid s2
  have hz' : n' + szL (celsE cIno L) ≤ 100000000 := by rw [← hn]; exact hz
  have hn1 : n' ≤ 100000000 := by omega
  have HZ : Hid (szL (celsE cIno L) ≤ 100000000) := Lib.hid (by omega)
  have HN := Lib.hid hn
  clear s1 s2 hz hz' hn hn'
  go_enter Tryz.func33, Tryz.ntmps33
  go_wp2
  go_loopw [5] (fun iv wr => ∃ k : Nat, k ≤ n' ∧ iv = .int .i64 k ∧ Below w.heap.size w wr) (fun iv _ => n' - (intOf iv).toNat)
  case atStart => exact ⟨0, Nat.zero_le _, rfl, Below.refl _ _⟩
  case round =>
    obtain ⟨k, hk, rfl, hbel⟩ := hrel
    by_cases hlt : k < n'
    · have HX : Hid (szL (cIno.cels (L.getD k default)) ≤ 100000000) := Lib.hid (Nat.le_trans (szL_at cIno L k (by rw [HN.out]; exact hlt)) HZ.out)
      obtain ⟨g, off, a4, c4, a5, c5, rfl, hg, d0, d1, d2, d3, d4, d5, r4, r5⟩ := cIno_at (Cel.Rd.later hbel _ _ R1.out) k hlt
      obtain ⟨g2, off2, a4q, c4q, a5q, c5q, rfl, hg2, m0, m1, m2, m3, m4, m5, u4, u5⟩ := cIno_at (Cel.Rd.later hbel _ _ R2.out) k hlt
      obtain ⟨x, hx⟩ : ∃ x, L.getD k default = x := ⟨_, rfl⟩
      rw [hx] at d0 d1 d2 d3 d4 d5 m0 m1 m2 m3 m4 m5 r4 r5 u4 u5 HX
      clear hx
      have r4 := Cel.Rd.drew r4
      have u4 := Cel.Rd.drew u4
      have r5 := Cel.Rd.drew r5
      have u5 := Cel.Rd.drew u5
      go_wp2
      go_region_with (go_at_call 70; refine (eqIno_st x a4 c4 a5 c5 a4q c4q a5q c5q _ r4 r5 u4 u5 HX.out).mono ?_; rintro e w1 ⟨rfl, hb1⟩)
      all_goals
        have hb2 : Below w.heap.size w w1 := hbel.drew.trans (hb1.mono hbel.size)
        clear d0 d1 d2 d3 d4 d5 m0 m1 m2 m3 m4 m5 r4 r5 u4 u5 hb1
        go_wp2
        go_roundw
        case rel => exact ⟨k + 1, by omega, by go_num, hb2⟩
        case measure => (simp [intOf]; try omega)
    · obtain rfl : k = n' := by omega
      go_wp2
      go_ret
      exact ⟨rfl, hbel⟩

end Go.Proofs.YtmkchilhnmkhkabGreat
namespace Go.Proofs.YtmkchilhnmkhkabGreat
open Go.RowKit Go.Proofs.YtmkchilhnmkhkabGreat.Parts Go.Proofs.YtmkchilhnmkhkabGreat.Hexa

set_option maxRecDepth 100000 in
set_option maxHeartbeats 1000000 in
theorem eqPart_st (x : PartR) (a1 : Option Addr) (c1 : Nat) (a2 : Option Addr) (c2 : Nat) (b1 : Option Addr) (s1 : Nat) (b2 : Option Addr) (s2 : Nat) (w : World) (h1 : (celRow cInt x.st).Rd w (.slice a1 x.st.length c1)) (h2 : (celRow cIno x.ino).Rd w (.slice a2 x.ino.length c2)) (k1 : (celRow cInt x.st).Rd w (.slice b1 x.st.length s1)) (k2 : (celRow cIno x.ino).Rd w (.slice b2 x.ino.length s2)) (hz : szL (cPart.cels x) ≤ 100000000) :
    Calls Tryz.prog 11 #[.agg #[.int .i64 x.ser, .slice a1 x.st.length c1, .slice a2 x.ino.length c2], .agg #[.int .i64 x.ser, .slice b1 x.st.length s1, .slice b2 x.ino.length s2]] w fun e w' => e = .returned (.bool true) ∧ Below w.heap.size w w' := by
  rw [cPart_sz] at hz
  have hb1 := below_bk w (.cells #[.int .i64 x.ser, .slice a1 x.st.length c1, .slice a2 x.ino.length c2] 35)
  have hb2 := below_bk (w.alloc (.cells #[.int .i64 x.ser, .slice a1 x.st.length c1, .slice a2 x.ino.length c2] 35)) (.cells #[.int .i64 x.ser, .slice b1 x.st.length s1, .slice b2 x.ino.length s2] 35)
  have T0 := Lib.hid ((Bk.alloc w #[.int .i64 x.ser, .slice a1 x.st.length c1, .slice a2 x.ino.length c2] 35).later hb2)
  have U0 : Hid (Bk ((w.alloc (.cells #[.int .i64 x.ser, .slice a1 x.st.length c1, .slice a2 x.ino.length c2] 35)).alloc (.cells #[.int .i64 x.ser, .slice b1 x.st.length s1, .slice b2 x.ino.length s2] 35)) (w.heap.size + 1) #[.int .i64 x.ser, .slice b1 x.st.length s1, .slice b2 x.ino.length s2] 35) := Lib.hid (by
    have h := Bk.alloc (w.alloc (.cells #[.int .i64 x.ser, .slice a1 x.st.length c1, .slice a2 x.ino.length c2] 35)) #[.int .i64 x.ser, .slice b1 x.st.length s1, .slice b2 x.ino.length s2] 35
    simpa using h)
  have B0 : Hid (Below w.heap.size w ((w.alloc (.cells #[.int .i64 x.ser, .slice a1 x.st.length c1, .slice a2 x.ino.length c2] 35)).alloc (.cells #[.int .i64 x.ser, .slice b1 x.st.length s1, .slice b2 x.ino.length s2] 35))) := Lib.hid (hb1.trans (hb2.mono hb1.size))
  have HS1 := Lib.hid h1
  have HU1 := Lib.hid k1
  have HS2 := Lib.hid h2
  have HU2 := Lib.hid k2
  clear hb1 hb2 h1 k1 h2 k2
  go_enter Tryz.func11, Tryz.ntmps11
  go_wp2_with fail
  refine (eqIntS_any _ _ x.st _ (Cel.Rd.later B0.out _ _ HS1.out) (Cel.Rd.later B0.out _ _ HU1.out) (by omega)).mono ?_
  rintro e w1 ⟨rfl, hb⟩
  have T1 := Lib.hid (T0.out.later hb)
  have U1 := Lib.hid (U0.out.later hb)
  have B1 : Hid (Below w.heap.size w w1) := Lib.hid (B0.out.trans (hb.mono B0.out.size))
  have x1_2 := T1.out.cell (j := 2) rfl
  have y1_2 := U1.out.cell (j := 2) rfl
  clear hb
  go_wp2_with fail
  refine (eqInoS_any _ _ x.ino _ (Cel.Rd.later B1.out _ _ HS2.out) (Cel.Rd.later B1.out _ _ HU2.out) (by omega)).mono ?_
  rintro e w2 ⟨rfl, hb⟩
  have T2 := Lib.hid (T1.out.later hb)
  have U2 := Lib.hid (U1.out.later hb)
  have B2 : Hid (Below w.heap.size w w2) := Lib.hid (B1.out.trans (hb.mono B1.out.size))
  clear hb
  go_wp2
  go_ret
  exact ⟨rfl, B2.out⟩

end Go.Proofs.YtmkchilhnmkhkabGreat
namespace Go.Proofs.YtmkchilhnmkhkabGreat
open Go.RowKit Go.Proofs.YtmkchilhnmkhkabGreat.Parts Go.Proofs.YtmkchilhnmkhkabGreat.Hexa

set_option maxRecDepth 100000 in
set_option maxHeartbeats 1000000 in
theorem eqWrite_st (x : WriteR) (w : World) (_ : szL (cWrite.cels x) ≤ 100000000) :
    Calls Tryz.prog 31 #[.agg #[.int .i64 x.at_, .string x.word], .agg #[.int .i64 x.at_, .string x.word]] w fun e w' => e = .returned (.bool true) ∧ Below w.heap.size w w' := by
  go_enter Tryz.func31, Tryz.ntmps31
  go_wp2
  go_ret
  exact ⟨rfl, ((Below.refl _ _).alloc (Nat.le_refl _) _).alloc (by simp) _⟩

end Go.Proofs.YtmkchilhnmkhkabGreat
namespace Go.Proofs.YtmkchilhnmkhkabGreat
open Go.RowKit Go.Proofs.YtmkchilhnmkhkabGreat.Parts Go.Proofs.YtmkchilhnmkhkabGreat.Hexa

set_option maxRecDepth 100000 in
set_option maxHeartbeats 1000000 in
theorem eqWriteS_any (v v2 : Value) (L : List WriteR) (w : World) (s1 : (celRow cWrite L).Rd w v) (s2 : (celRow cWrite L).Rd w v2) (hz : (celRow cWrite L).sz ≤ 100000000) :
    Calls Tryz.prog 10 #[v, v2] w fun e w' => e = .returned (.bool true) ∧ Below w.heap.size w w' := by
  obtain ⟨a, n, c, rfl, hn⟩ := row_form s1
  obtain ⟨a', n', c', rfl, hn'⟩ := row_form s2
  obtain rfl : n' = n := by rw [← hn, ← hn']
  have R1 := Lib.hid s1
  have R2 := Lib.hid s2
  have hz' : n' + szL (celsE cWrite L) ≤ 100000000 := by rw [← hn]; exact hz
  have hn1 : n' ≤ 100000000 := by omega
  have HZ : Hid (szL (celsE cWrite L) ≤ 100000000) := Lib.hid (by omega)
  have HN := Lib.hid hn
  clear s1 s2 hz hz' hn hn'
  go_enter Tryz.func10, Tryz.ntmps10
  go_wp2
  go_loopw [5] (fun iv wr => ∃ k : Nat, k ≤ n' ∧ iv = .int .i64 k ∧ Below w.heap.size w wr) (fun iv _ => n' - (intOf iv).toNat)
  case atStart => exact ⟨0, Nat.zero_le _, rfl, Below.refl _ _⟩
  case round =>
    obtain ⟨k, hk, rfl, hbel⟩ := hrel
    by_cases hlt : k < n'
    · have HX : Hid (szL (cWrite.cels (L.getD k default)) ≤ 100000000) := Lib.hid (Nat.le_trans (szL_at cWrite L k (by rw [HN.out]; exact hlt)) HZ.out)
      obtain ⟨g, off, rfl, hg, d0, d1⟩ := cWrite_at (Cel.Rd.later hbel _ _ R1.out) k hlt
      obtain ⟨g2, off2, rfl, hg2, m0, m1⟩ := cWrite_at (Cel.Rd.later hbel _ _ R2.out) k hlt
      obtain ⟨x, hx⟩ : ∃ x, L.getD k default = x := ⟨_, rfl⟩
      rw [hx] at d0 d1 m0 m1   HX
      clear hx

      go_wp2
      go_region_with (go_at_call 31; refine (eqWrite_st x _ HX.out).mono ?_; rintro e w1 ⟨rfl, hb1⟩)
      all_goals
        have hb2 : Below w.heap.size w w1 := hbel.drew.trans (hb1.mono hbel.size)
        clear d0 d1 m0 m1   hb1
        go_wp2
        go_roundw
        case rel => exact ⟨k + 1, by omega, by go_num, hb2⟩
        case measure => (simp [intOf]; try omega)
    · obtain rfl : k = n' := by omega
      go_wp2
      go_ret
      exact ⟨rfl, hbel⟩

end Go.Proofs.YtmkchilhnmkhkabGreat
namespace Go.Proofs.YtmkchilhnmkhkabGreat
open Go.RowKit Go.Proofs.YtmkchilhnmkhkabGreat.Parts Go.Proofs.YtmkchilhnmkhkabGreat.Hexa

set_option maxRecDepth 100000 in
set_option maxHeartbeats 1000000 in
theorem markWriteS_any (v : Value) (L : List WriteR) (F : List Nat) (k : Nat) (kz : Int) (w : World) (hkz : kz = (k : Int)) (h0 : 0 < k) (hk : k + (celRow cWrite L).cnt ≤ 100000000) (hz : (celRow cWrite L).sz ≤ 100000000) (hF : F.Nodup) (ho : (celRow cWrite L).Own w F v) :
    Calls Tryz.prog 13 #[v, .int .i64 kz] w (MarkPost (celRow cWrite L) F v k w) := by
  subst hkz
  obtain ⟨a, n, c, rfl, hn⟩ := row_form (Cel.Own.rd _ _ _ ho)
  have HN := Lib.hid hn
  have hz' : n + szL (celsE cWrite L) ≤ 100000000 := by rw [← hn]; exact hz
  have hn9 : n ≤ 100000000 := by omega
  have HZ : Hid (szL (celsE cWrite L) ≤ 100000000) := Lib.hid (by omega)
  have HF := Lib.hid hF
  have HC : Hid ((celRow cWrite L).cnt = cntL (celsE cWrite L)) := Lib.hid rfl
  have hk' : k + cntL (celsE cWrite L) ≤ 100000000 := hk
  have HL : Hid ((celsE cWrite L).length = n * 2) := Lib.hid (by rw [celsE_length, hn]; rfl)
  have HO : Hid ((Cel.sl cWrite.e 2 n (stM (celsE cWrite L) k 0)).Own w F (.slice a n c)) := Lib.hid (by rw [stM_zero]; have h9 := ho; unfold celRow at h9; rw [hn] at h9; exact h9)
  clear hn hF ho hk hz hz'
  go_enter Tryz.func13, Tryz.ntmps13
  go_wp2
  go_loopw [1, 5] (fun kv iv wr => ∃ (j q : Nat), j ≤ n ∧ 0 < q ∧ q ≤ 100000000 ∧ Hid (q = k + cntL (celsE cWrite (L.take j))) ∧ iv = .int .i64 j ∧ kv = .int .i64 q ∧ Hid ((Cel.sl cWrite.e 2 n (stM (celsE cWrite L) k (j * 2))).Own wr F (.slice a n c)) ∧ Hid (OutF F w wr)) (fun _ iv _ => n - (intOf iv).toNat)
  case atStart => exact ⟨0, k, Nat.zero_le _, h0, by omega, Lib.hid (by simp only [List.take_zero, celsE, cntL]; rfl), rfl, rfl, by rw [Nat.zero_mul]; exact HO, Lib.hid (OutF.refl _ _)⟩
  case round =>
    clear HO
    obtain ⟨j, q, hj, hq0, hq9, HQ, rfl, rfl, HW, HU⟩ := hrel
    by_cases hlt : j < n
    · have hjL : j < L.length := by rw [HN.out]; exact hlt
      have HX := Lib.hid (cntL_next cWrite hjL)
      have hm := cntL_take cWrite L (j + 1)
      have HY := Lib.hid (Nat.le_trans (szL_at cWrite L j hjL) HZ.out)
      have HG : Hid (∀ o, o < 2 → (celsE cWrite L).getD (j * 2 + o) default = (cWrite.cels (L.getD j default)).getD o default) := Lib.hid (fun o ho => celsE_getD cWrite L j o hjL ho)
      have HA : Hid (∀ o, o ≤ 2 → atM (celsE cWrite L) k (j * 2 + o) = q + cntL ((cWrite.cels (L.getD j default)).take o)) := Lib.hid (fun o ho => by rw [HQ.out]; exact atM_in cWrite hjL ho)
      obtain ⟨x, hx⟩ : ∃ x, L.getD j default = x := ⟨_, rfl⟩
      rw [hx] at HX HG HA HY
      have hm2 : q + cntL (cWrite.cels x) ≤ 100000000 := by have := HQ.out; have := HX.out; omega
      have HM2 := Lib.hid hm2
      have hm3 : q + 2 ≤ 100000000 := by have : cntL (cWrite.cels x) = (1 + (1 + 0)) := rfl; omega
      clear hx hjL hm hm2
      obtain ⟨g0, hg0, _, ⟨v0, e0⟩, z0, ho0, hu0⟩ := mark_val HW.out HF.out (i := j * 2) (by omega) HL.out (HG.out 0 (by decide))
      subst hg0
      have e9 : atM (celsE cWrite L) k (j * 2) = q + cntL ((cWrite.cels x).take 0) := HA.out 0 (by decide)
      have e8 : markV (.int .i64 x.at_) (atM (celsE cWrite L) k (j * 2)) = (.int .i64 ((q : Int))) := by rw [e9]; show Value.int .i64 ((q + 0 : Nat) : Int) = _; rw [show ((q + 0 : Nat) : Int) = (q : Int) from by omega]
      rw [e8] at ho0 hu0
      clear e8 e9
      have W0 := Lib.hid ho0
      have U0 := Lib.hid (HU.out.trans hu0)
      clear ho0 hu0 HW HU
      go_wp2_with fail
      clear e0 z0
      obtain ⟨wa1, hwa⟩ : ∃ y, y = (wr.setCell ⟨g0, j * 2, none⟩ (.int .i64 ((q : Int)))) := ⟨_, rfl⟩
      rw [← hwa] at W0 U0 ⊢
      clear hwa
      refine (markText_n _ (q + 1) _ (by omega) (by omega) (by omega)).mono ?_
      rintro e y1 ⟨rfl, hb⟩
      have W1t := Lib.hid (Cel.Own.kept _ _ _ (fun g hg => hb.block g (Cel.Own.lt _ _ _ W0.out g hg)) W0.out)
      have U1t := Lib.hid (U0.out.trans (OutF.of_below hb))
      clear hb W0 U0
      obtain ⟨g1, hg1, _, ⟨v1, e1⟩, z1, ho1, hu1⟩ := mark_val W1t.out HF.out (i := j * 2 + 1) (by omega) HL.out (HG.out 1 (by decide))
      obtain rfl : g0 = g1 := by simpa using hg1
      have e9 : atM (celsE cWrite L) k (j * 2 + 1) = q + cntL ((cWrite.cels x).take 1) := HA.out 1 (by decide)
      have e8 : markV (.string x.word) (atM (celsE cWrite L) k (j * 2 + 1)) = (.string (markT (q + 1))) := by rw [e9]; show Value.string (markT (q + (1 + 0))) = _; rw [show q + (1 + 0) = (q + 1) from by omega]
      rw [e8] at ho1 hu1
      clear e8 e9
      have W1 := Lib.hid ho1
      have U1 := Lib.hid (U1t.out.trans hu1)
      clear ho1 hu1 W1t U1t
      go_wp2
      clear e1 z1
      have HR : Hid ((q + 2) = k + cntL (celsE cWrite (L.take (j + 1)))) := Lib.hid (by have := HQ.out; have := HX.out; have : cntL (cWrite.cels x) = (1 + (1 + 0)) := rfl; omega)
      have hr9 : (q + 2) ≤ 100000000 := by have := HM2.out; have : cntL (cWrite.cels x) = (1 + (1 + 0)) := rfl; omega
      go_roundw
      case rel => exact ⟨j + 1, (q + 2), by omega, by omega, hr9, HR, by go_num, by go_num, by rw [Nat.add_mul, Nat.one_mul]; exact W1, U1⟩
      case measure => (simp [intOf]; try omega)
    · obtain rfl : j = n := by omega
      have ho := HW.out
      rw [stM_all _ _ (by rw [HL.out]; omega)] at ho
      have HO := Lib.hid ho
      clear ho
      go_wp2
      go_ret
      refine ⟨ret_i64m (by have := HQ.out; rw [List.take_of_length_le (by rw [HN.out]; omega)] at this; rw [HC.out]; omega), HU.out, ?_⟩
      have h9 := HO.out
      rw [← HN.out] at h9 ⊢
      exact h9

theorem markWriteS_obj (v : Value) (L : List WriteR) (lo hi k : Nat) (kz : Int) (w : World) (hkz : kz = (k : Int)) (h0 : 0 < k) (hk : k + (celRow cWrite L).cnt ≤ 100000000) (hz : (celRow cWrite L).sz ≤ 100000000) (ho : Obj1 w lo hi (celRow cWrite L) v) :
    Calls Tryz.prog 13 #[v, .int .i64 kz] w fun e w' => e = .returned (.int .i64 ((k + (celRow cWrite L).cnt : Nat) : Int)) ∧ OutR lo hi w w' ∧ Obj1 w' lo hi ((celRow cWrite L).mk k) v := by
  obtain ⟨F, hn, hb, ho⟩ := ho
  refine (markWriteS_any v L F k kz w hkz h0 hk hz hn ho).mono ?_
  rintro e w' ⟨he, hu, hw⟩
  exact ⟨he, OutR.of hu hb, F, hn, hb, hw⟩
end Go.Proofs.YtmkchilhnmkhkabGreat
namespace Go.Proofs.YtmkchilhnmkhkabGreat
open Go.RowKit Go.Proofs.YtmkchilhnmkhkabGreat.Parts Go.Proofs.YtmkchilhnmkhkabGreat.Hexa

theorem cWrite_m {w : World} {L : List WriteR} {a : Option Addr} {n c k : Nat} (h : ((celRow cWrite L).mk k).Rd w (.slice a n c)) (j q : Nat) (hj : j < n) (hq : q = k + cntL (celsE cWrite (L.take j))) :
    ∃ (g off : Nat), a = some ⟨g, off, none⟩ ∧ g < w.heap.size ∧ w.cell? ⟨g, off + j * 2, none⟩ = some (.int .i64 ((q : Int))) ∧ w.cell? ⟨g, off + j * 2 + 1, none⟩ = some (.string (markT (q + 1))) := by
  obtain ⟨g, off, vs, ha, hg, hr, hc⟩ := rowM_at h (by decide) j hj
  rw [← hq] at hr
  obtain ⟨v0, r0, e0, h0, v1, r1, e1, h1, hend⟩ := hr
  have hend' : r1 = [] := hend
  rw [hend'] at e1
  rw [e1] at e0
  subst e0
  exact ⟨g, off, ha, hg, (by have h9 := hc 0 _ rfl; rw [show v0 = _ from h0] at h9; exact h9), (by have h9 := hc 1 _ rfl; rw [show v1 = _ from h1] at h9; exact h9)⟩
set_option maxRecDepth 100000 in
set_option maxHeartbeats 1000000 in
theorem heldWriteS_any (v : Value) (L : List WriteR) (k : Nat) (kz : Int) (w : World) (hkz : kz = (k : Int)) (h0 : 0 < k) (hk : k + (celRow cWrite L).cnt ≤ 100000000) (hz : (celRow cWrite L).sz ≤ 100000000) (hs : ((celRow cWrite L).mk k).Rd w v) :
    Calls Tryz.prog 14 #[v, .int .i64 kz] w fun e w' => e = .returned (.int .i64 ((k + (celRow cWrite L).cnt : Nat) : Int)) ∧ Below w.heap.size w w' := by
  subst hkz
  obtain ⟨a, n, c, rfl, hn⟩ := rowK_form hs
  have HN := Lib.hid hn
  have HC : Hid ((celRow cWrite L).cnt = cntL (celsE cWrite L)) := Lib.hid rfl
  have hk' : k + cntL (celsE cWrite L) ≤ 100000000 := hk
  have hz' : n + szL (celsE cWrite L) ≤ 100000000 := by rw [← hn]; exact hz
  have hn9 : n ≤ 100000000 := by omega
  have HZ : Hid (szL (celsE cWrite L) ≤ 100000000) := Lib.hid (by omega)
  have HS := Lib.hid hs
  clear hn hs hk hz hz'
  go_enter Tryz.func14, Tryz.ntmps14
  go_wp2
  go_loopw [1, 5] (fun kv iv wr => ∃ (j q : Nat), j ≤ n ∧ 0 < q ∧ q ≤ 100000000 ∧ Hid (q = k + cntL (celsE cWrite (L.take j))) ∧ iv = .int .i64 j ∧ kv = .int .i64 q ∧ Below w.heap.size w wr) (fun _ iv _ => n - (intOf iv).toNat)
  case atStart => exact ⟨0, k, Nat.zero_le _, h0, by omega, Lib.hid (by simp only [List.take_zero, celsE, cntL]; rfl), rfl, rfl, Below.refl _ _⟩
  case round =>
    obtain ⟨j, q, hj, hq0, hq9, HQ, rfl, rfl, hbel⟩ := hrel
    by_cases hlt : j < n
    · have hjL : j < L.length := by rw [HN.out]; exact hlt
      have HX := Lib.hid (cntL_next cWrite hjL)
      have hm := cntL_take cWrite L (j + 1)
      have HY := Lib.hid (Nat.le_trans (szL_at cWrite L j hjL) HZ.out)
      obtain ⟨g, off, rfl, hg, d0, d1⟩ := cWrite_m (Cel.Rd.later hbel _ _ HS.out) j q hlt HQ.out
      obtain ⟨x, hx⟩ : ∃ x, L.getD j default = x := ⟨_, rfl⟩
      rw [hx] at HX HY 
      have hm2 : q + cntL (cWrite.cels x) ≤ 100000000 := by have := HQ.out; have := HX.out; omega
      have HM2 := Lib.hid hm2
      have hm3 : q + 2 ≤ 100000000 := by have : cntL (cWrite.cels x) = (1 + (1 + 0)) := rfl; omega
      clear hx hjL hm hm2
      go_wp2
      have hc1s : Hid (((q : Int) + 1) = (((q + 1) : Nat) : Int)) := Lib.hid (by omega)
      go_region_with (go_at_call 36; refine (markText_n ((q : Int) + 1) (q + 1) _ hc1s.out (by omega) (by omega)).mono ?_; rintro e w1x ⟨rfl, hb⟩; have n1_1 := (hb.cell (p := ⟨g, off + j * 2 + 1, none⟩) hg).trans d1)
      all_goals
        have B1 : Below w.heap.size w w1x := hbel.drew.trans (hb.mono hbel.size)
        have hg1 : g < w1x.heap.size := Nat.lt_of_lt_of_le hg hb.size
        clear d0 d1 hb
        go_wp2
        have HR : Hid ((q + 2) = k + cntL (celsE cWrite (L.take (j + 1)))) := Lib.hid (by have := HQ.out; have := HX.out; have : cntL (cWrite.cels x) = (1 + (1 + 0)) := rfl; omega)
        have hr9 : (q + 2) ≤ 100000000 := by have := HM2.out; have : cntL (cWrite.cels x) = (1 + (1 + 0)) := rfl; omega
        go_roundw
        case rel => exact ⟨j + 1, (q + 2), by omega, by omega, hr9, HR, by go_num, by go_num, B1⟩
        case measure => (simp [intOf]; try omega)
    · obtain rfl : j = n := by omega
      go_wp2
      go_ret
      exact ⟨ret_i64m (by have := HQ.out; rw [List.take_of_length_le (by rw [HN.out]; omega)] at this; rw [HC.out]; omega), hbel⟩

end Go.Proofs.YtmkchilhnmkhkabGreat
namespace Go.Proofs.YtmkchilhnmkhkabGreat
open Go.RowKit Go.Proofs.YtmkchilhnmkhkabGreat.Parts Go.Proofs.YtmkchilhnmkhkabGreat.Hexa Go.Proofs.YtmkchilhnmkhkabGreat.Byt

set_option maxRecDepth 100000 in
set_option maxHeartbeats 4000000 in
theorem partWrites_law (Tg Pg Ig Qg : Int) (t : Int) (p : PartR) (a1_p : Option Addr) (c1_p : Nat) (a2_p : Option Addr) (c2_p : Nat) (w : World) (ht_p : TyL (cPart.cels p)) (h1_p : (celRow cInt p.st).Rd w (.slice a1_p p.st.length c1_p)) (h2_p : (celRow cIno p.ino).Rd w (.slice a2_p p.ino.length c2_p)) :
    Calls Tryz.prog 3 #[.agg #[.int .i64 Tg, .int .i64 Pg, .int .i64 Ig, .int .i64 Qg], .int .i64 t, .agg #[.int .i64 p.ser, .slice a1_p p.st.length c1_p, .slice a2_p p.ino.length c2_p]] w fun e w' => e = .returned (.bool true) ∧ Below w.heap.size w w' := by
  have HT_p := Lib.hid ht_p
  clear ht_p
  have HS1_p := Lib.hid h1_p
  clear h1_p
  have HS2_p := Lib.hid h2_p
  clear h2_p
  obtain ⟨r, hr⟩ : ∃ r, pwR Tg Pg Ig Qg t p = r := ⟨_, rfl⟩
  have HR := Lib.hid hr
  have HRZ : Hid ((celRow cWrite r).sz ≤ 100000000) := Lib.hid (by rw [← hr]; exact Nat.le_trans (pwR_sz _ _ _ _ _ _) (by decide))
  have HRC : Hid (1 + (celRow cWrite r).cnt ≤ 100000000) := Lib.hid (by rw [← hr]; have := pwR_cnt Tg Pg Ig Qg t p; omega)
  clear hr
  have HTI : Hid (TyL (celsE cIno p.ino)) := Lib.hid HT_p.out.2.2.1.2
  have Xg_0 := Lib.hid ((Bk.alloc w #[.int .i64 Tg, .int .i64 Pg, .int .i64 Ig, .int .i64 Qg] 23).later (below_bk (w.alloc (.cells #[.int .i64 Tg, .int .i64 Pg, .int .i64 Ig, .int .i64 Qg] 23)) (.cells #[.int .i64 p.ser, .slice a1_p p.st.length c1_p, .slice a2_p p.ino.length c2_p] 27)))
  have Xp_0 : Hid (Bk ((w.alloc (.cells #[.int .i64 Tg, .int .i64 Pg, .int .i64 Ig, .int .i64 Qg] 23)).alloc (.cells #[.int .i64 p.ser, .slice a1_p p.st.length c1_p, .slice a2_p p.ino.length c2_p] 27)) (w.heap.size + 1) #[.int .i64 p.ser, .slice a1_p p.st.length c1_p, .slice a2_p p.ino.length c2_p] 27) := Lib.hid (by have h := (Bk.alloc (w.alloc (.cells #[.int .i64 Tg, .int .i64 Pg, .int .i64 Ig, .int .i64 Qg] 23)) #[.int .i64 p.ser, .slice a1_p p.st.length c1_p, .slice a2_p p.ino.length c2_p] 27); simpa using h)
  have BW_0 := Lib.hid ((below_bk w (.cells #[.int .i64 Tg, .int .i64 Pg, .int .i64 Ig, .int .i64 Qg] 23)).alloc (by simp) (.cells #[.int .i64 p.ser, .slice a1_p p.st.length c1_p, .slice a2_p p.ino.length c2_p] 27))
  go_enter Tryz.func3, Tryz.ntmps3
  have dg0 := Xg_0.out.cell (j := 0) rfl
  have dg1 := Xg_0.out.cell (j := 1) rfl
  have dg2 := Xg_0.out.cell (j := 2) rfl
  have dg3 := Xg_0.out.cell (j := 3) rfl
  have dp0 := Xp_0.out.cell (j := 0) rfl
  have dp1 := Xp_0.out.cell (j := 1) rfl
  have dp2 := Xp_0.out.cell (j := 2) rfl
  go_wp2_with fail
  obtain ⟨V0, hV⟩ : ∃ y, y = ((w.alloc (.cells #[.int .i64 Tg, .int .i64 Pg, .int .i64 Ig, .int .i64 Qg] 23)).alloc (.cells #[.int .i64 p.ser, .slice a1_p p.st.length c1_p, .slice a2_p p.ino.length c2_p] 27)) := ⟨_, rfl⟩
  clear dg0 dg1 dg2 dg3 dp0 dp1 dp2
  rw [← hV] at Xg_0 Xp_0 BW_0 ⊢
  have SZ_V0 : Hid (w.heap.size + 2 ≤ V0.heap.size) := Lib.hid (by rw [hV]; simp)
  clear hV
  refine (szPart_st p a1_p c1_p a2_p c2_p 1048576 _ (by decide) (by decide) (Cel.Rd.later BW_0.out _ _ HS1_p.out) (Cel.Rd.later BW_0.out _ _ HS2_p.out) HT_p.out).mono ?_
  rintro e w1 ⟨l_p, rfl, hr, hb⟩
  have Xg_1 := Lib.hid (Xg_0.out.later hb)
  have Xp_1 := Lib.hid (Xp_0.out.later hb)
  have BW_1 : Hid (Below w.heap.size w w1) := Lib.hid (BW_0.out.trans (hb.mono BW_0.out.size))
  have SZ_w1 : Hid (V0.heap.size ≤ w1.heap.size) := Lib.hid hb.size
  clear hb Xg_0 Xp_0 BW_0
  rcases hr with hr | ⟨hl0, hl1⟩
  · go_wp2
    go_ret
    exact ⟨rfl, BW_1.out⟩
  have HZ_p : Hid (szL (cPart.cels p) ≤ 1048576) := Lib.hid (by omega)
  have HZB_p : Hid (szL (cPart.cels p) ≤ 100000000) := Lib.hid (by omega)
  have hq_p : ¬ (l_p < 0) := by omega
  have hp_p : l_p ≤ 1048576 := by omega
  clear hl1
  have HPC := Lib.hid (part_marks p HZ_p.out)
  have dg0 := Xg_1.out.cell (j := 0) rfl
  have dg1 := Xg_1.out.cell (j := 1) rfl
  have dg2 := Xg_1.out.cell (j := 2) rfl
  have dg3 := Xg_1.out.cell (j := 3) rfl
  have dp0 := Xp_1.out.cell (j := 0) rfl
  have dp1 := Xp_1.out.cell (j := 1) rfl
  have dp2 := Xp_1.out.cell (j := 2) rfl
  go_upto_region 5 with fail
  clear dg0 dg1 dg2 dg3 dp0 dp1 dp2
  go_cut [8] (fun sv wx => Obj1 wx w1.heap.size wx.heap.size (celRow cWrite r) sv ∧ Below w1.heap.size w1 wx)
  case first =>
    have Zg := Lib.hid Xg_1.out.drew
    have Zp := Lib.hid Xp_1.out.drew
    have BD : Hid (Below w1.heap.size w1 w1.drew) := Lib.hid (Below.refl _ _).drew
    go_region_held3 (fun w' => w'.cell? ⟨w.heap.size, 0, none⟩ = some (.int .i64 Tg) ∧ w'.cell? ⟨w.heap.size, 1, none⟩ = some (.int .i64 Pg) ∧ w'.cell? ⟨w.heap.size, 2, none⟩ = some (.int .i64 Ig) ∧ w'.cell? ⟨w.heap.size, 3, none⟩ = some (.int .i64 Qg) ∧ w'.cell? ⟨w.heap.size + 1, 0, none⟩ = some (.int .i64 p.ser) ∧ w'.cell? ⟨w.heap.size + 1, 1, none⟩ = some (.slice a1_p p.st.length c1_p) ∧ w'.cell? ⟨w.heap.size + 1, 2, none⟩ = some (.slice a2_p p.ino.length c2_p))
      (first
        | exact ⟨Zg.out.cell rfl, Zg.out.cell rfl, Zg.out.cell rfl, Zg.out.cell rfl, Zp.out.cell rfl, Zp.out.cell rfl, Zp.out.cell rfl⟩
        | exact ⟨(Zg.out.later (D01_1.out)).cell rfl, (Zg.out.later (D01_1.out)).cell rfl, (Zg.out.later (D01_1.out)).cell rfl, (Zg.out.later (D01_1.out)).cell rfl, (Zp.out.later (D01_1.out)).cell rfl, (Zp.out.later (D01_1.out)).cell rfl, (Zp.out.later (D01_1.out)).cell rfl⟩
        | exact ⟨(Zg.out.later (D01_2.out)).cell rfl, (Zg.out.later (D01_2.out)).cell rfl, (Zg.out.later (D01_2.out)).cell rfl, (Zg.out.later (D01_2.out)).cell rfl, (Zp.out.later (D01_2.out)).cell rfl, (Zp.out.later (D01_2.out)).cell rfl, (Zp.out.later (D01_2.out)).cell rfl⟩
        | exact ⟨(Zg.out.later (D01_3.out)).cell rfl, (Zg.out.later (D01_3.out)).cell rfl, (Zg.out.later (D01_3.out)).cell rfl, (Zg.out.later (D01_3.out)).cell rfl, (Zp.out.later (D01_3.out)).cell rfl, (Zp.out.later (D01_3.out)).cell rfl, (Zp.out.later (D01_3.out)).cell rfl⟩
        | exact ⟨(Zg.out.later (D10_1.out)).cell rfl, (Zg.out.later (D10_1.out)).cell rfl, (Zg.out.later (D10_1.out)).cell rfl, (Zg.out.later (D10_1.out)).cell rfl, (Zp.out.later (D10_1.out)).cell rfl, (Zp.out.later (D10_1.out)).cell rfl, (Zp.out.later (D10_1.out)).cell rfl⟩
        | exact ⟨(Zg.out.later (D10_2.out)).cell rfl, (Zg.out.later (D10_2.out)).cell rfl, (Zg.out.later (D10_2.out)).cell rfl, (Zg.out.later (D10_2.out)).cell rfl, (Zp.out.later (D10_2.out)).cell rfl, (Zp.out.later (D10_2.out)).cell rfl, (Zp.out.later (D10_2.out)).cell rfl⟩
        | exact ⟨(Zg.out.later (D10_3.out)).cell rfl, (Zg.out.later (D10_3.out)).cell rfl, (Zg.out.later (D10_3.out)).cell rfl, (Zg.out.later (D10_3.out)).cell rfl, (Zp.out.later (D10_3.out)).cell rfl, (Zp.out.later (D10_3.out)).cell rfl, (Zp.out.later (D10_3.out)).cell rfl⟩
        | go_keep)
      (first
        | (go_at_call 6; (with_reducible refine (specPW_obj Tg Pg Ig Qg t p a1_01p c1_01p a2_01p c2_01p _ (cPart_un (O01p_2.out.rd)).1 (cPart_un (O01p_2.out.rd)).2 HZ_p.out HTI.out HR.out).mono ?_); rintro e wz01_3 ⟨vz, rfl, ho, hb⟩; have HO01 := Lib.hid (ho.mono (Nat.le_trans BD.out.size D01_2.out.size) (Nat.le_refl _)); have D01_3 : Hid (Below w1.drew.heap.size w1.drew wz01_3) := Lib.hid (D01_2.out.trans (hb.mono D01_2.out.size)); have B01_3 : Hid (Below w1.heap.size w1 wz01_3) := Lib.hid (BD.out.trans (D01_3.out.mono BD.out.size)); clear hb ho)
        | (go_at_call 6; (with_reducible refine (specPW_obj Tg Pg Ig Qg t p a1_10p c1_10p a2_10p c2_10p _ (cPart_un (O10p_2.out.rd)).1 (cPart_un (O10p_2.out.rd)).2 HZ_p.out HTI.out HR.out).mono ?_); rintro e wz10_3 ⟨vz, rfl, ho, hb⟩; have HO10 := Lib.hid (ho.mono (Nat.le_trans BD.out.size D10_2.out.size) (Nat.le_refl _)); have D10_3 : Hid (Below w1.drew.heap.size w1.drew wz10_3) := Lib.hid (D10_2.out.trans (hb.mono D10_2.out.size)); have B10_3 : Hid (Below w1.heap.size w1 wz10_3) := Lib.hid (BD.out.trans (D10_3.out.mono BD.out.size)); clear hb ho)
        | (go_at_call 8; (with_reducible refine (toPart_st p a1_p c1_p a2_p c2_p _ (Cel.Rd.later (BW_1.out.trans (B01_1.out.mono BW_1.out.size)) _ _ HS1_p.out) (Cel.Rd.later (BW_1.out.trans (B01_1.out.mono BW_1.out.size)) _ _ HS2_p.out) HZ_p.out).mono ?_); rintro e wz01_2 ⟨vs, rfl, ho, hb⟩; obtain ⟨a1_01p, c1_01p, a2_01p, c2_01p, rfl, _, _⟩ := cPart_form ho.rd; have O01p_2 := Lib.hid ho; have D01_2 : Hid (Below w1.drew.heap.size w1.drew wz01_2) := Lib.hid (D01_1.out.trans (hb.mono D01_1.out.size)); have B01_2 : Hid (Below w1.heap.size w1 wz01_2) := Lib.hid (BD.out.trans (D01_2.out.mono BD.out.size)); clear hb ho)
        | (go_at_call 7; (with_reducible refine (toGeo_any Tg Pg Ig Qg _).mono ?_); rintro e wz10_2 ⟨rfl, hb⟩; have D10_2 : Hid (Below w1.drew.heap.size w1.drew wz10_2) := Lib.hid (D10_1.out.trans (hb.mono D10_1.out.size)); have B10_2 : Hid (Below w1.heap.size w1 wz10_2) := Lib.hid (BD.out.trans (D10_2.out.mono BD.out.size)); have O10p_2 := Lib.hid (O10p_1.out.later hb); clear hb)
        | (go_at_call 7; (with_reducible refine (toGeo_any Tg Pg Ig Qg _).mono ?_); rintro e wz01_1 ⟨rfl, hb⟩; have D01_1 : Hid (Below w1.drew.heap.size w1.drew wz01_1) := Lib.hid (hb); have B01_1 : Hid (Below w1.heap.size w1 wz01_1) := Lib.hid (BD.out.trans (D01_1.out.mono BD.out.size)); clear hb)
        | (go_at_call 8; (with_reducible refine (toPart_st p a1_p c1_p a2_p c2_p _ (Cel.Rd.later (BW_1.out.trans (BD.out.mono BW_1.out.size)) _ _ HS1_p.out) (Cel.Rd.later (BW_1.out.trans (BD.out.mono BW_1.out.size)) _ _ HS2_p.out) HZ_p.out).mono ?_); rintro e wz10_1 ⟨vs, rfl, ho, hb⟩; obtain ⟨a1_10p, c1_10p, a2_10p, c2_10p, rfl, _, _⟩ := cPart_form ho.rd; have O10p_1 := Lib.hid ho; have D10_1 : Hid (Below w1.drew.heap.size w1.drew wz10_1) := Lib.hid (hb); have B10_1 : Hid (Below w1.heap.size w1 wz10_1) := Lib.hid (BD.out.trans (D10_1.out.mono BD.out.size)); clear hb ho))
    all_goals
      go_wp2
      go_meet
      first | exact ⟨HO01.out, B01_3.out⟩ | exact ⟨HO10.out, B10_3.out⟩
  case rest =>
  obtain ⟨ho, hb⟩ := hcut
  obtain ⟨w2, hnew⟩ : ∃ y, y = wc := ⟨_, rfl⟩
  rw [← hnew] at ho hb ⊢
  clear hnew
  obtain ⟨v_w, hnew⟩ : ∃ y, y = u8 := ⟨_, rfl⟩
  rw [← hnew] at ho ⊢
  clear hnew
  have Xg_2 := Lib.hid (Xg_1.out.later hb)
  have Xp_2 := Lib.hid (Xp_1.out.later hb)
  have BW_2 : Hid (Below w.heap.size w w2) := Lib.hid (BW_1.out.trans (hb.mono BW_1.out.size))
  have SZ_w2 : Hid (w1.heap.size ≤ w2.heap.size) := Lib.hid hb.size
  clear hb Xg_1 Xp_1 BW_1
  have Ow_2x := Lib.hid ho
  clear ho
  have dg0 := Xg_2.out.cell (j := 0) rfl
  have dg1 := Xg_2.out.cell (j := 1) rfl
  have dg2 := Xg_2.out.cell (j := 2) rfl
  have dg3 := Xg_2.out.cell (j := 3) rfl
  have dp0 := Xp_2.out.cell (j := 0) rfl
  have dp1 := Xp_2.out.cell (j := 1) rfl
  have dp2 := Xp_2.out.cell (j := 2) rfl
  go_wp2_with fail
  clear dg0 dg1 dg2 dg3 dp0 dp1 dp2
  refine (toPart_st p a1_p c1_p a2_p c2_p _ (Cel.Rd.later BW_2.out _ _ HS1_p.out) (Cel.Rd.later BW_2.out _ _ HS2_p.out) HZ_p.out).mono ?_
  rintro e w3 ⟨vs, rfl, ho, hb⟩
  have Xg_3 := Lib.hid (Xg_2.out.later hb)
  have Xp_3 := Lib.hid (Xp_2.out.later hb)
  have Ow_3 := Lib.hid (Ow_2x.out.later hb)
  have BW_3 : Hid (Below w.heap.size w w3) := Lib.hid (BW_2.out.trans (hb.mono BW_2.out.size))
  have SZ_w3 : Hid (w2.heap.size ≤ w3.heap.size) := Lib.hid hb.size
  clear hb Xg_2 Xp_2 Ow_2x BW_2
  obtain ⟨a1_x, c1_x, a2_x, c2_x, rfl, _, _⟩ := cPart_form ho.rd
  have Ox_3x := Lib.hid ho
  clear ho
  have hba := below_bk w3 (.cells #[.int .i64 p.ser, .slice a1_x p.st.length c1_x, .slice a2_x p.ino.length c2_x] 35)
  have Xg_4 := Lib.hid (Xg_3.out.later hba)
  have Xp_4 := Lib.hid (Xp_3.out.later hba)
  have Ow_4 := Lib.hid (Ow_3.out.later hba)
  have Ox_4 := Lib.hid (Ox_3x.out.later hba)
  have BW_4 : Hid (Below w.heap.size w (w3.alloc (.cells #[.int .i64 p.ser, .slice a1_x p.st.length c1_x, .slice a2_x p.ino.length c2_x] 35))) := Lib.hid (BW_3.out.trans (hba.mono BW_3.out.size))
  have Xx_4 := Lib.hid (Bk.alloc w3 #[.int .i64 p.ser, .slice a1_x p.st.length c1_x, .slice a2_x p.ino.length c2_x] 35)
  clear hba Xg_3 Xp_3 Ow_3 Ox_3x BW_3
  have dg0 := Xg_4.out.cell (j := 0) rfl
  have dg1 := Xg_4.out.cell (j := 1) rfl
  have dg2 := Xg_4.out.cell (j := 2) rfl
  have dg3 := Xg_4.out.cell (j := 3) rfl
  have dp0 := Xp_4.out.cell (j := 0) rfl
  have dp1 := Xp_4.out.cell (j := 1) rfl
  have dp2 := Xp_4.out.cell (j := 2) rfl
  have dx0 := Xx_4.out.cell (j := 0) rfl
  have dx1 := Xx_4.out.cell (j := 1) rfl
  have dx2 := Xx_4.out.cell (j := 2) rfl
  go_upto_region 7 with fail
  clear dg0 dg1 dg2 dg3 dp0 dp1 dp2 dx0 dx1 dx2
  obtain ⟨V3, hV⟩ : ∃ y, y = (w3.alloc (.cells #[.int .i64 p.ser, .slice a1_x p.st.length c1_x, .slice a2_x p.ino.length c2_x] 35)) := ⟨_, rfl⟩
  rw [← hV] at Xg_4 Xp_4 Xx_4 Ow_4 Ox_4 BW_4 ⊢
  have SZ_V3 : Hid (w3.heap.size + 1 ≤ V3.heap.size) := Lib.hid (by rw [hV]; simp)
  clear hV
  go_cut [10] (fun sv wx => Obj1 wx V3.heap.size wx.heap.size (celRow cWrite r) sv ∧ Below V3.heap.size V3 wx)
  case first =>
    have Zg := Lib.hid Xg_4.out.drew
    have Zp := Lib.hid Xp_4.out.drew
    have Zx := Lib.hid Xx_4.out.drew
    have BD : Hid (Below V3.heap.size V3 V3.drew) := Lib.hid (Below.refl _ _).drew
    go_region_held3 (fun w' => w'.cell? ⟨w.heap.size, 0, none⟩ = some (.int .i64 Tg) ∧ w'.cell? ⟨w.heap.size, 1, none⟩ = some (.int .i64 Pg) ∧ w'.cell? ⟨w.heap.size, 2, none⟩ = some (.int .i64 Ig) ∧ w'.cell? ⟨w.heap.size, 3, none⟩ = some (.int .i64 Qg) ∧ w'.cell? ⟨w.heap.size + 1, 0, none⟩ = some (.int .i64 p.ser) ∧ w'.cell? ⟨w.heap.size + 1, 1, none⟩ = some (.slice a1_p p.st.length c1_p) ∧ w'.cell? ⟨w.heap.size + 1, 2, none⟩ = some (.slice a2_p p.ino.length c2_p) ∧ w'.cell? ⟨w3.heap.size, 0, none⟩ = some (.int .i64 p.ser) ∧ w'.cell? ⟨w3.heap.size, 1, none⟩ = some (.slice a1_x p.st.length c1_x) ∧ w'.cell? ⟨w3.heap.size, 2, none⟩ = some (.slice a2_x p.ino.length c2_x))
      (first
        | exact ⟨Zg.out.cell rfl, Zg.out.cell rfl, Zg.out.cell rfl, Zg.out.cell rfl, Zp.out.cell rfl, Zp.out.cell rfl, Zp.out.cell rfl, Zx.out.cell rfl, Zx.out.cell rfl, Zx.out.cell rfl⟩
        | exact ⟨(Zg.out.later (D0_1.out)).cell rfl, (Zg.out.later (D0_1.out)).cell rfl, (Zg.out.later (D0_1.out)).cell rfl, (Zg.out.later (D0_1.out)).cell rfl, (Zp.out.later (D0_1.out)).cell rfl, (Zp.out.later (D0_1.out)).cell rfl, (Zp.out.later (D0_1.out)).cell rfl, (Zx.out.later (D0_1.out)).cell rfl, (Zx.out.later (D0_1.out)).cell rfl, (Zx.out.later (D0_1.out)).cell rfl⟩
        | exact ⟨(Zg.out.later (D0_2.out)).cell rfl, (Zg.out.later (D0_2.out)).cell rfl, (Zg.out.later (D0_2.out)).cell rfl, (Zg.out.later (D0_2.out)).cell rfl, (Zp.out.later (D0_2.out)).cell rfl, (Zp.out.later (D0_2.out)).cell rfl, (Zp.out.later (D0_2.out)).cell rfl, (Zx.out.later (D0_2.out)).cell rfl, (Zx.out.later (D0_2.out)).cell rfl, (Zx.out.later (D0_2.out)).cell rfl⟩
        | go_keep)
      (first
        | (go_at_call 9; (with_reducible refine (implPW_obj Tg Pg Ig Qg t p a1_x c1_x a2_x c2_x _ (Cel.Rd.later B0_1.out _ _ (cPart_un Ox_4.out.rd).1) (Cel.Rd.later B0_1.out _ _ (cPart_un Ox_4.out.rd).2) HZ_p.out HTI.out HR.out).mono ?_); rintro e wz0_2 ⟨vz, rfl, ho, hb⟩; have HO0 := Lib.hid (ho.mono (Nat.le_trans BD.out.size D0_1.out.size) (Nat.le_refl _)); have D0_2 : Hid (Below V3.drew.heap.size V3.drew wz0_2) := Lib.hid (D0_1.out.trans (hb.mono D0_1.out.size)); have B0_2 : Hid (Below V3.heap.size V3 wz0_2) := Lib.hid (BD.out.trans (D0_2.out.mono BD.out.size)); clear hb ho)
        | (go_at_call 7; (with_reducible refine (toGeo_any Tg Pg Ig Qg _).mono ?_); rintro e wz0_1 ⟨rfl, hb⟩; have D0_1 : Hid (Below V3.drew.heap.size V3.drew wz0_1) := Lib.hid (hb); have B0_1 : Hid (Below V3.heap.size V3 wz0_1) := Lib.hid (BD.out.trans (D0_1.out.mono BD.out.size)); clear hb))
    all_goals
      go_wp2
      go_meet
      first | exact ⟨HO0.out, B0_2.out⟩
  case rest =>
  obtain ⟨ho, hb⟩ := hcut
  obtain ⟨w4, hnew⟩ : ∃ y, y = wc := ⟨_, rfl⟩
  rw [← hnew] at ho hb ⊢
  clear hnew
  obtain ⟨v_g0, hnew⟩ : ∃ y, y = u10 := ⟨_, rfl⟩
  rw [← hnew] at ho ⊢
  clear hnew
  have Xg_5 := Lib.hid (Xg_4.out.later hb)
  have Xp_5 := Lib.hid (Xp_4.out.later hb)
  have Xx_5 := Lib.hid (Xx_4.out.later hb)
  have Ow_5 := Lib.hid (Ow_4.out.later hb)
  have Ox_5 := Lib.hid (Ox_4.out.later hb)
  have BW_5 : Hid (Below w.heap.size w w4) := Lib.hid (BW_4.out.trans (hb.mono BW_4.out.size))
  have SZ_w4 : Hid (V3.heap.size ≤ w4.heap.size) := Lib.hid hb.size
  clear hb Xg_4 Xp_4 Xx_4 Ow_4 Ox_4 BW_4
  have Og0_5x := Lib.hid ho
  clear ho
  have dg0 := Xg_5.out.cell (j := 0) rfl
  have dg1 := Xg_5.out.cell (j := 1) rfl
  have dg2 := Xg_5.out.cell (j := 2) rfl
  have dg3 := Xg_5.out.cell (j := 3) rfl
  have dp0 := Xp_5.out.cell (j := 0) rfl
  have dp1 := Xp_5.out.cell (j := 1) rfl
  have dp2 := Xp_5.out.cell (j := 2) rfl
  have dx0 := Xx_5.out.cell (j := 0) rfl
  have dx1 := Xx_5.out.cell (j := 1) rfl
  have dx2 := Xx_5.out.cell (j := 2) rfl
  go_wp2_with fail
  clear dg0 dg1 dg2 dg3 dp0 dp1 dp2 dx0 dx1 dx2
  refine (eqWriteS_any _ _ r _ Og0_5x.out.rd Ow_5.out.rd HRZ.out).mono ?_
  rintro e w5 ⟨rfl, hb⟩
  have Xg_6 := Lib.hid (Xg_5.out.later hb)
  have Xp_6 := Lib.hid (Xp_5.out.later hb)
  have Xx_6 := Lib.hid (Xx_5.out.later hb)
  have Ow_6 := Lib.hid (Ow_5.out.later hb)
  have Ox_6 := Lib.hid (Ox_5.out.later hb)
  have Og0_6 := Lib.hid (Og0_5x.out.later hb)
  have BW_6 : Hid (Below w.heap.size w w5) := Lib.hid (BW_5.out.trans (hb.mono BW_5.out.size))
  have SZ_w5 : Hid (w4.heap.size ≤ w5.heap.size) := Lib.hid hb.size
  clear hb Xg_5 Xp_5 Xx_5 Ow_5 Ox_5 Og0_5x BW_5
  go_wp2
  have XD := Lib.hid Xx_6.out.drew
  have AD := Lib.hid Xp_6.out.drew
  have BD := Lib.hid BW_6.out.drew
  have OD : Hid (Objs w5.drew w2.heap.size w3.heap.size _ _) := Lib.hid (Ox_6.out.later (Below.refl _ _).drew)
  have YDg := Lib.hid Xg_6.out.drew
  have PDw := Lib.hid (Ow_6.out.later (Below.refl _ _).drew)
  have PDg0 := Lib.hid (Og0_6.out.later (Below.refl _ _).drew)
  go_region_held3 (fun w' => w'.cell? ⟨w3.heap.size, 0, none⟩ = some (.int .i64 p.ser) ∧ w'.cell? ⟨w3.heap.size, 1, none⟩ = some (.slice a1_x p.st.length c1_x) ∧ w'.cell? ⟨w3.heap.size, 2, none⟩ = some (.slice a2_x p.ino.length c2_x) ∧ w'.cell? ⟨w.heap.size + 1, 0, none⟩ = some (.int .i64 p.ser) ∧ w'.cell? ⟨w.heap.size + 1, 1, none⟩ = some (.slice a1_p p.st.length c1_p) ∧ w'.cell? ⟨w.heap.size + 1, 2, none⟩ = some (.slice a2_p p.ino.length c2_p))
    (first
      | exact ⟨XD.out.cell rfl, XD.out.cell rfl, XD.out.cell rfl, AD.out.cell rfl, AD.out.cell rfl, AD.out.cell rfl⟩
      | exact ⟨XE.out.cell rfl, XE.out.cell rfl, XE.out.cell rfl, AE.out.cell rfl, AE.out.cell rfl, AE.out.cell rfl⟩
      | exact ⟨XF.out.cell rfl, XF.out.cell rfl, XF.out.cell rfl, AF.out.cell rfl, AF.out.cell rfl, AF.out.cell rfl⟩
      | go_keep)
    (first
      | (go_at_call 8; (with_reducible refine (toPart_st p a1_p c1_p a2_p c2_p _ (Cel.Rd.later BD.out _ _ HS1_p.out) (Cel.Rd.later BD.out _ _ HS2_p.out) HZ_p.out).mono ?_); rintro e wa7 ⟨vs, rfl, ho, hb⟩; obtain ⟨a1_z9, c1_z9, a2_z9, c2_z9, rfl, q1, q2⟩ := cPart_form ho.rd; have XE := Lib.hid (XD.out.later hb); have AE := Lib.hid (AD.out.later hb); have OE := Lib.hid (OD.out.later hb); have BE : Hid (Below w.heap.size w wa7) := Lib.hid (BD.out.trans (hb.mono BD.out.size)); have SZ_wa7 : Hid (w5.heap.size ≤ wa7.heap.size) := Lib.hid hb.size; have YEg := Lib.hid (YDg.out.later hb); have PEw := Lib.hid (PDw.out.later hb); have PEg0 := Lib.hid (PDg0.out.later hb); clear hb ho)
      | (go_at_call 11; (with_reducible refine (eqPart_st p a1_x c1_x a2_x c2_x a1_z9 c1_z9 a2_z9 c2_z9 _ (cPart_un OE.out.rd).1 (cPart_un OE.out.rd).2 q1 q2 HZB_p.out).mono ?_); rintro e wb7 ⟨rfl, hb⟩; have XF := Lib.hid (XE.out.later hb); have AF := Lib.hid (AE.out.later hb); have OF := Lib.hid (OE.out.later hb); have BF : Hid (Below w.heap.size w wb7) := Lib.hid (BE.out.trans (hb.mono BE.out.size)); have SZ_wb7 : Hid (wa7.heap.size ≤ wb7.heap.size) := Lib.hid hb.size; have YFg := Lib.hid (YEg.out.later hb); have PFw := Lib.hid (PEw.out.later hb); have PFg0 := Lib.hid (PEg0.out.later hb); clear hb))
  have Xx_7 := XF
  have Xp_7 := AF
  have BW_7 := BF
  have Ox_7 := OF
  have Xg_7 := YFg
  have Ow_7 := PFw
  have Og0_7 := PFg0
  clear Xg_6 Xp_6 Xx_6 Ow_6 Ox_6 Og0_6 BW_6 XD XE XF AD AE AF BD BE BF OD OE OF YDg YEg YFg PDw PEw PFw PDg0 PEg0 PFg0
  have dg0 := Xg_7.out.cell (j := 0) rfl
  have dg1 := Xg_7.out.cell (j := 1) rfl
  have dg2 := Xg_7.out.cell (j := 2) rfl
  have dg3 := Xg_7.out.cell (j := 3) rfl
  have dp0 := Xp_7.out.cell (j := 0) rfl
  have dp1 := Xp_7.out.cell (j := 1) rfl
  have dp2 := Xp_7.out.cell (j := 2) rfl
  have dx0 := Xx_7.out.cell (j := 0) rfl
  have dx1 := Xx_7.out.cell (j := 1) rfl
  have dx2 := Xx_7.out.cell (j := 2) rfl
  go_wp2_with fail
  clear dg0 dg1 dg2 dg3 dp0 dp1 dp2 dx0 dx1 dx2
  refine (markPart_st p a1_x c1_x a2_x c2_x w2.heap.size w3.heap.size 1 _ _ (by omega) (by omega) HPC.out HZB_p.out Ox_7.out).mono ?_
  rintro e w6 ⟨he, hu, ho⟩
  obtain ⟨k, hk⟩ : ∃ y, 1 + cntTop (cPart.cels p) = y := ⟨_, rfl⟩
  rw [hk] at he
  subst he
  have Xg_8 := Lib.hid (hu.bk Xg_7.out (by have := SZ_V0.out; have := SZ_w1.out; have := SZ_w2.out; have := SZ_w3.out; have := SZ_V3.out; have := SZ_w4.out; have := SZ_w5.out; have := SZ_wa7.out; have := SZ_wb7.out; omega))
  have Xp_8 := Lib.hid (hu.bk Xp_7.out (by have := SZ_V0.out; have := SZ_w1.out; have := SZ_w2.out; have := SZ_w3.out; have := SZ_V3.out; have := SZ_w4.out; have := SZ_w5.out; have := SZ_wa7.out; have := SZ_wb7.out; omega))
  have Xx_8 := Lib.hid (hu.bk Xx_7.out (by have := SZ_V0.out; have := SZ_w1.out; have := SZ_w2.out; have := SZ_w3.out; have := SZ_V3.out; have := SZ_w4.out; have := SZ_w5.out; have := SZ_wa7.out; have := SZ_wb7.out; omega))
  have Ow_8 := Lib.hid (Ow_7.out.out hu (by have := SZ_V0.out; have := SZ_w1.out; have := SZ_w2.out; have := SZ_w3.out; have := SZ_V3.out; have := SZ_w4.out; have := SZ_w5.out; have := SZ_wa7.out; have := SZ_wb7.out; omega))
  have Ox_8 := Lib.hid ho
  have Og0_8 := Lib.hid (Og0_7.out.out hu (by have := SZ_V0.out; have := SZ_w1.out; have := SZ_w2.out; have := SZ_w3.out; have := SZ_V3.out; have := SZ_w4.out; have := SZ_w5.out; have := SZ_wa7.out; have := SZ_wb7.out; omega))
  have BW_8 : Hid (Below w.heap.size w w6) := Lib.hid (BW_7.out.trans (hu.below (by have := SZ_V0.out; have := SZ_w1.out; have := SZ_w2.out; have := SZ_w3.out; have := SZ_V3.out; have := SZ_w4.out; have := SZ_w5.out; have := SZ_wa7.out; have := SZ_wb7.out; omega) (by have := SZ_V0.out; have := SZ_w1.out; have := SZ_w2.out; have := SZ_w3.out; have := SZ_V3.out; have := SZ_w4.out; have := SZ_w5.out; have := SZ_wa7.out; have := SZ_wb7.out; omega)))
  have SZ_w6 : Hid (wb7.heap.size ≤ w6.heap.size) := Lib.hid hu.size
  have HC_k := Lib.hid hk
  have hp_k : k ≤ 100000000 := by have h9 := HPC.out; omega
  have hq_k : 0 < k := by omega
  have hr_k : ¬ ((k : Int) < 0) := by omega
  clear hu ho hk Xg_7 Xp_7 Xx_7 Ow_7 Ox_7 Og0_7 BW_7
  have dg0 := Xg_8.out.cell (j := 0) rfl
  have dg1 := Xg_8.out.cell (j := 1) rfl
  have dg2 := Xg_8.out.cell (j := 2) rfl
  have dg3 := Xg_8.out.cell (j := 3) rfl
  have dp0 := Xp_8.out.cell (j := 0) rfl
  have dp1 := Xp_8.out.cell (j := 1) rfl
  have dp2 := Xp_8.out.cell (j := 2) rfl
  have dx0 := Xx_8.out.cell (j := 0) rfl
  have dx1 := Xx_8.out.cell (j := 1) rfl
  have dx2 := Xx_8.out.cell (j := 2) rfl
  go_wp2_with fail
  clear dg0 dg1 dg2 dg3 dp0 dp1 dp2 dx0 dx1 dx2
  refine (eqWriteS_any _ _ r _ Og0_8.out.rd Ow_8.out.rd HRZ.out).mono ?_
  rintro e w7 ⟨rfl, hb⟩
  have Xg_9 := Lib.hid (Xg_8.out.later hb)
  have Xp_9 := Lib.hid (Xp_8.out.later hb)
  have Xx_9 := Lib.hid (Xx_8.out.later hb)
  have Ow_9 := Lib.hid (Ow_8.out.later hb)
  have Ox_9 := Lib.hid (Ox_8.out.later hb)
  have Og0_9 := Lib.hid (Og0_8.out.later hb)
  have BW_9 : Hid (Below w.heap.size w w7) := Lib.hid (BW_8.out.trans (hb.mono BW_8.out.size))
  have SZ_w7 : Hid (w6.heap.size ≤ w7.heap.size) := Lib.hid hb.size
  clear hb Xg_8 Xp_8 Xx_8 Ow_8 Ox_8 Og0_8 BW_8
  have dg0 := Xg_9.out.cell (j := 0) rfl
  have dg1 := Xg_9.out.cell (j := 1) rfl
  have dg2 := Xg_9.out.cell (j := 2) rfl
  have dg3 := Xg_9.out.cell (j := 3) rfl
  have dp0 := Xp_9.out.cell (j := 0) rfl
  have dp1 := Xp_9.out.cell (j := 1) rfl
  have dp2 := Xp_9.out.cell (j := 2) rfl
  have dx0 := Xx_9.out.cell (j := 0) rfl
  have dx1 := Xx_9.out.cell (j := 1) rfl
  have dx2 := Xx_9.out.cell (j := 2) rfl
  go_wp2_with fail
  clear dg0 dg1 dg2 dg3 dp0 dp1 dp2 dx0 dx1 dx2
  refine (markWriteS_obj _ r V3.heap.size w4.heap.size 1 _ _ (by omega) (by omega) HRC.out HRZ.out Og0_9.out).mono ?_
  rintro e w8 ⟨he, hu, ho⟩
  obtain ⟨m, hm⟩ : ∃ y, 1 + (celRow cWrite r).cnt = y := ⟨_, rfl⟩
  rw [hm] at he
  subst he
  have Xg_10 := Lib.hid (hu.bk Xg_9.out (by have := SZ_V0.out; have := SZ_w1.out; have := SZ_w2.out; have := SZ_w3.out; have := SZ_V3.out; have := SZ_w4.out; have := SZ_w5.out; have := SZ_wa7.out; have := SZ_wb7.out; have := SZ_w6.out; have := SZ_w7.out; omega))
  have Xp_10 := Lib.hid (hu.bk Xp_9.out (by have := SZ_V0.out; have := SZ_w1.out; have := SZ_w2.out; have := SZ_w3.out; have := SZ_V3.out; have := SZ_w4.out; have := SZ_w5.out; have := SZ_wa7.out; have := SZ_wb7.out; have := SZ_w6.out; have := SZ_w7.out; omega))
  have Xx_10 := Lib.hid (hu.bk Xx_9.out (by have := SZ_V0.out; have := SZ_w1.out; have := SZ_w2.out; have := SZ_w3.out; have := SZ_V3.out; have := SZ_w4.out; have := SZ_w5.out; have := SZ_wa7.out; have := SZ_wb7.out; have := SZ_w6.out; have := SZ_w7.out; omega))
  have Ow_10 := Lib.hid (Ow_9.out.out hu (by have := SZ_V0.out; have := SZ_w1.out; have := SZ_w2.out; have := SZ_w3.out; have := SZ_V3.out; have := SZ_w4.out; have := SZ_w5.out; have := SZ_wa7.out; have := SZ_wb7.out; have := SZ_w6.out; have := SZ_w7.out; omega))
  have Ox_10 := Lib.hid (Ox_9.out.out hu (by have := SZ_V0.out; have := SZ_w1.out; have := SZ_w2.out; have := SZ_w3.out; have := SZ_V3.out; have := SZ_w4.out; have := SZ_w5.out; have := SZ_wa7.out; have := SZ_wb7.out; have := SZ_w6.out; have := SZ_w7.out; omega))
  have Og0_10 := Lib.hid ho
  have BW_10 : Hid (Below w.heap.size w w8) := Lib.hid (BW_9.out.trans (hu.below (by have := SZ_V0.out; have := SZ_w1.out; have := SZ_w2.out; have := SZ_w3.out; have := SZ_V3.out; have := SZ_w4.out; have := SZ_w5.out; have := SZ_wa7.out; have := SZ_wb7.out; have := SZ_w6.out; have := SZ_w7.out; omega) (by have := SZ_V0.out; have := SZ_w1.out; have := SZ_w2.out; have := SZ_w3.out; have := SZ_V3.out; have := SZ_w4.out; have := SZ_w5.out; have := SZ_wa7.out; have := SZ_wb7.out; have := SZ_w6.out; have := SZ_w7.out; omega)))
  have SZ_w8 : Hid (w7.heap.size ≤ w8.heap.size) := Lib.hid hu.size
  have HC_m := Lib.hid hm
  have hp_m : m ≤ 100000000 := by have h9 := HRC.out; omega
  have hq_m : 0 < m := by omega
  have hr_m : ¬ ((m : Int) < 0) := by omega
  clear hu ho hm Xg_9 Xp_9 Xx_9 Ow_9 Ox_9 Og0_9 BW_9
  have dg0 := Xg_10.out.cell (j := 0) rfl
  have dg1 := Xg_10.out.cell (j := 1) rfl
  have dg2 := Xg_10.out.cell (j := 2) rfl
  have dg3 := Xg_10.out.cell (j := 3) rfl
  have dp0 := Xp_10.out.cell (j := 0) rfl
  have dp1 := Xp_10.out.cell (j := 1) rfl
  have dp2 := Xp_10.out.cell (j := 2) rfl
  have dx0 := Xx_10.out.cell (j := 0) rfl
  have dx1 := Xx_10.out.cell (j := 1) rfl
  have dx2 := Xx_10.out.cell (j := 2) rfl
  go_wp2_with fail
  clear dg0 dg1 dg2 dg3 dp0 dp1 dp2 dx0 dx1 dx2
  refine (heldWriteS_any _ r 1 _ _ (by rfl) (by decide) HRC.out HRZ.out Og0_10.out.rd).mono ?_
  rintro e w9 ⟨he, hb⟩
  rw [HC_m.out] at he
  subst he
  have Xg_11 := Lib.hid (Xg_10.out.later hb)
  have Xp_11 := Lib.hid (Xp_10.out.later hb)
  have Xx_11 := Lib.hid (Xx_10.out.later hb)
  have Ow_11 := Lib.hid (Ow_10.out.later hb)
  have Ox_11 := Lib.hid (Ox_10.out.later hb)
  have Og0_11 := Lib.hid (Og0_10.out.later hb)
  have BW_11 : Hid (Below w.heap.size w w9) := Lib.hid (BW_10.out.trans (hb.mono BW_10.out.size))
  have SZ_w9 : Hid (w8.heap.size ≤ w9.heap.size) := Lib.hid hb.size
  clear hb Xg_10 Xp_10 Xx_10 Ow_10 Ox_10 Og0_10 BW_10
  have dg0 := Xg_11.out.cell (j := 0) rfl
  have dg1 := Xg_11.out.cell (j := 1) rfl
  have dg2 := Xg_11.out.cell (j := 2) rfl
  have dg3 := Xg_11.out.cell (j := 3) rfl
  have dp0 := Xp_11.out.cell (j := 0) rfl
  have dp1 := Xp_11.out.cell (j := 1) rfl
  have dp2 := Xp_11.out.cell (j := 2) rfl
  have dx0 := Xx_11.out.cell (j := 0) rfl
  have dx1 := Xx_11.out.cell (j := 1) rfl
  have dx2 := Xx_11.out.cell (j := 2) rfl
  go_upto_region 24 with fail
  clear dg0 dg1 dg2 dg3 dp0 dp1 dp2 dx0 dx1 dx2
  go_cut [14] (fun sv wx => Obj1 wx w9.heap.size wx.heap.size (celRow cWrite r) sv ∧ Below w9.heap.size w9 wx)
  case first =>
    have Zg := Lib.hid Xg_11.out.drew
    have Zp := Lib.hid Xp_11.out.drew
    have Zx := Lib.hid Xx_11.out.drew
    have BD : Hid (Below w9.heap.size w9 w9.drew) := Lib.hid (Below.refl _ _).drew
    go_region_held3 (fun w' => w'.cell? ⟨w.heap.size, 0, none⟩ = some (.int .i64 Tg) ∧ w'.cell? ⟨w.heap.size, 1, none⟩ = some (.int .i64 Pg) ∧ w'.cell? ⟨w.heap.size, 2, none⟩ = some (.int .i64 Ig) ∧ w'.cell? ⟨w.heap.size, 3, none⟩ = some (.int .i64 Qg) ∧ w'.cell? ⟨w.heap.size + 1, 0, none⟩ = some (.int .i64 p.ser) ∧ w'.cell? ⟨w.heap.size + 1, 1, none⟩ = some (.slice a1_p p.st.length c1_p) ∧ w'.cell? ⟨w.heap.size + 1, 2, none⟩ = some (.slice a2_p p.ino.length c2_p) ∧ w'.cell? ⟨w3.heap.size, 0, none⟩ = some (.int .i64 p.ser) ∧ w'.cell? ⟨w3.heap.size, 1, none⟩ = some (.slice a1_x p.st.length c1_x) ∧ w'.cell? ⟨w3.heap.size, 2, none⟩ = some (.slice a2_x p.ino.length c2_x))
      (first
        | exact ⟨Zg.out.cell rfl, Zg.out.cell rfl, Zg.out.cell rfl, Zg.out.cell rfl, Zp.out.cell rfl, Zp.out.cell rfl, Zp.out.cell rfl, Zx.out.cell rfl, Zx.out.cell rfl, Zx.out.cell rfl⟩
        | exact ⟨(Zg.out.later (D01_1.out)).cell rfl, (Zg.out.later (D01_1.out)).cell rfl, (Zg.out.later (D01_1.out)).cell rfl, (Zg.out.later (D01_1.out)).cell rfl, (Zp.out.later (D01_1.out)).cell rfl, (Zp.out.later (D01_1.out)).cell rfl, (Zp.out.later (D01_1.out)).cell rfl, (Zx.out.later (D01_1.out)).cell rfl, (Zx.out.later (D01_1.out)).cell rfl, (Zx.out.later (D01_1.out)).cell rfl⟩
        | exact ⟨(Zg.out.later (D01_2.out)).cell rfl, (Zg.out.later (D01_2.out)).cell rfl, (Zg.out.later (D01_2.out)).cell rfl, (Zg.out.later (D01_2.out)).cell rfl, (Zp.out.later (D01_2.out)).cell rfl, (Zp.out.later (D01_2.out)).cell rfl, (Zp.out.later (D01_2.out)).cell rfl, (Zx.out.later (D01_2.out)).cell rfl, (Zx.out.later (D01_2.out)).cell rfl, (Zx.out.later (D01_2.out)).cell rfl⟩
        | exact ⟨(Zg.out.later (D01_3.out)).cell rfl, (Zg.out.later (D01_3.out)).cell rfl, (Zg.out.later (D01_3.out)).cell rfl, (Zg.out.later (D01_3.out)).cell rfl, (Zp.out.later (D01_3.out)).cell rfl, (Zp.out.later (D01_3.out)).cell rfl, (Zp.out.later (D01_3.out)).cell rfl, (Zx.out.later (D01_3.out)).cell rfl, (Zx.out.later (D01_3.out)).cell rfl, (Zx.out.later (D01_3.out)).cell rfl⟩
        | exact ⟨(Zg.out.later (D10_1.out)).cell rfl, (Zg.out.later (D10_1.out)).cell rfl, (Zg.out.later (D10_1.out)).cell rfl, (Zg.out.later (D10_1.out)).cell rfl, (Zp.out.later (D10_1.out)).cell rfl, (Zp.out.later (D10_1.out)).cell rfl, (Zp.out.later (D10_1.out)).cell rfl, (Zx.out.later (D10_1.out)).cell rfl, (Zx.out.later (D10_1.out)).cell rfl, (Zx.out.later (D10_1.out)).cell rfl⟩
        | exact ⟨(Zg.out.later (D10_2.out)).cell rfl, (Zg.out.later (D10_2.out)).cell rfl, (Zg.out.later (D10_2.out)).cell rfl, (Zg.out.later (D10_2.out)).cell rfl, (Zp.out.later (D10_2.out)).cell rfl, (Zp.out.later (D10_2.out)).cell rfl, (Zp.out.later (D10_2.out)).cell rfl, (Zx.out.later (D10_2.out)).cell rfl, (Zx.out.later (D10_2.out)).cell rfl, (Zx.out.later (D10_2.out)).cell rfl⟩
        | exact ⟨(Zg.out.later (D10_3.out)).cell rfl, (Zg.out.later (D10_3.out)).cell rfl, (Zg.out.later (D10_3.out)).cell rfl, (Zg.out.later (D10_3.out)).cell rfl, (Zp.out.later (D10_3.out)).cell rfl, (Zp.out.later (D10_3.out)).cell rfl, (Zp.out.later (D10_3.out)).cell rfl, (Zx.out.later (D10_3.out)).cell rfl, (Zx.out.later (D10_3.out)).cell rfl, (Zx.out.later (D10_3.out)).cell rfl⟩
        | go_keep)
      (first
        | (go_at_call 9; (with_reducible refine (implPW_obj Tg Pg Ig Qg t p a1_01p c1_01p a2_01p c2_01p _ (cPart_un (O01p_2.out.rd)).1 (cPart_un (O01p_2.out.rd)).2 HZ_p.out HTI.out HR.out).mono ?_); rintro e wz01_3 ⟨vz, rfl, ho, hb⟩; have HO01 := Lib.hid (ho.mono (Nat.le_trans BD.out.size D01_2.out.size) (Nat.le_refl _)); have D01_3 : Hid (Below w9.drew.heap.size w9.drew wz01_3) := Lib.hid (D01_2.out.trans (hb.mono D01_2.out.size)); have B01_3 : Hid (Below w9.heap.size w9 wz01_3) := Lib.hid (BD.out.trans (D01_3.out.mono BD.out.size)); clear hb ho)
        | (go_at_call 9; (with_reducible refine (implPW_obj Tg Pg Ig Qg t p a1_10p c1_10p a2_10p c2_10p _ (cPart_un (O10p_2.out.rd)).1 (cPart_un (O10p_2.out.rd)).2 HZ_p.out HTI.out HR.out).mono ?_); rintro e wz10_3 ⟨vz, rfl, ho, hb⟩; have HO10 := Lib.hid (ho.mono (Nat.le_trans BD.out.size D10_2.out.size) (Nat.le_refl _)); have D10_3 : Hid (Below w9.drew.heap.size w9.drew wz10_3) := Lib.hid (D10_2.out.trans (hb.mono D10_2.out.size)); have B10_3 : Hid (Below w9.heap.size w9 wz10_3) := Lib.hid (BD.out.trans (D10_3.out.mono BD.out.size)); clear hb ho)
        | (go_at_call 8; (with_reducible refine (toPart_st p a1_p c1_p a2_p c2_p _ (Cel.Rd.later (BW_11.out.trans (B01_1.out.mono BW_11.out.size)) _ _ HS1_p.out) (Cel.Rd.later (BW_11.out.trans (B01_1.out.mono BW_11.out.size)) _ _ HS2_p.out) HZ_p.out).mono ?_); rintro e wz01_2 ⟨vs, rfl, ho, hb⟩; obtain ⟨a1_01p, c1_01p, a2_01p, c2_01p, rfl, _, _⟩ := cPart_form ho.rd; have O01p_2 := Lib.hid ho; have D01_2 : Hid (Below w9.drew.heap.size w9.drew wz01_2) := Lib.hid (D01_1.out.trans (hb.mono D01_1.out.size)); have B01_2 : Hid (Below w9.heap.size w9 wz01_2) := Lib.hid (BD.out.trans (D01_2.out.mono BD.out.size)); clear hb ho)
        | (go_at_call 7; (with_reducible refine (toGeo_any Tg Pg Ig Qg _).mono ?_); rintro e wz10_2 ⟨rfl, hb⟩; have D10_2 : Hid (Below w9.drew.heap.size w9.drew wz10_2) := Lib.hid (D10_1.out.trans (hb.mono D10_1.out.size)); have B10_2 : Hid (Below w9.heap.size w9 wz10_2) := Lib.hid (BD.out.trans (D10_2.out.mono BD.out.size)); have O10p_2 := Lib.hid (O10p_1.out.later hb); clear hb)
        | (go_at_call 7; (with_reducible refine (toGeo_any Tg Pg Ig Qg _).mono ?_); rintro e wz01_1 ⟨rfl, hb⟩; have D01_1 : Hid (Below w9.drew.heap.size w9.drew wz01_1) := Lib.hid (hb); have B01_1 : Hid (Below w9.heap.size w9 wz01_1) := Lib.hid (BD.out.trans (D01_1.out.mono BD.out.size)); clear hb)
        | (go_at_call 8; (with_reducible refine (toPart_st p a1_p c1_p a2_p c2_p _ (Cel.Rd.later (BW_11.out.trans (BD.out.mono BW_11.out.size)) _ _ HS1_p.out) (Cel.Rd.later (BW_11.out.trans (BD.out.mono BW_11.out.size)) _ _ HS2_p.out) HZ_p.out).mono ?_); rintro e wz10_1 ⟨vs, rfl, ho, hb⟩; obtain ⟨a1_10p, c1_10p, a2_10p, c2_10p, rfl, _, _⟩ := cPart_form ho.rd; have O10p_1 := Lib.hid ho; have D10_1 : Hid (Below w9.drew.heap.size w9.drew wz10_1) := Lib.hid (hb); have B10_1 : Hid (Below w9.heap.size w9 wz10_1) := Lib.hid (BD.out.trans (D10_1.out.mono BD.out.size)); clear hb ho))
    all_goals
      go_wp2
      go_meet
      first | exact ⟨HO01.out, B01_3.out⟩ | exact ⟨HO10.out, B10_3.out⟩
  case rest =>
  obtain ⟨ho, hb⟩ := hcut
  obtain ⟨w10, hnew⟩ : ∃ y, y = wc := ⟨_, rfl⟩
  rw [← hnew] at ho hb ⊢
  clear hnew
  obtain ⟨v_h0, hnew⟩ : ∃ y, y = u14 := ⟨_, rfl⟩
  rw [← hnew] at ho ⊢
  clear hnew
  have Xg_12 := Lib.hid (Xg_11.out.later hb)
  have Xp_12 := Lib.hid (Xp_11.out.later hb)
  have Xx_12 := Lib.hid (Xx_11.out.later hb)
  have Ow_12 := Lib.hid (Ow_11.out.later hb)
  have Ox_12 := Lib.hid (Ox_11.out.later hb)
  have Og0_12 := Lib.hid (Og0_11.out.later hb)
  have BW_12 : Hid (Below w.heap.size w w10) := Lib.hid (BW_11.out.trans (hb.mono BW_11.out.size))
  have SZ_w10 : Hid (w9.heap.size ≤ w10.heap.size) := Lib.hid hb.size
  clear hb Xg_11 Xp_11 Xx_11 Ow_11 Ox_11 Og0_11 BW_11
  have Oh0_12x := Lib.hid ho
  clear ho
  have dg0 := Xg_12.out.cell (j := 0) rfl
  have dg1 := Xg_12.out.cell (j := 1) rfl
  have dg2 := Xg_12.out.cell (j := 2) rfl
  have dg3 := Xg_12.out.cell (j := 3) rfl
  have dp0 := Xp_12.out.cell (j := 0) rfl
  have dp1 := Xp_12.out.cell (j := 1) rfl
  have dp2 := Xp_12.out.cell (j := 2) rfl
  have dx0 := Xx_12.out.cell (j := 0) rfl
  have dx1 := Xx_12.out.cell (j := 1) rfl
  have dx2 := Xx_12.out.cell (j := 2) rfl
  go_wp2_with fail
  clear dg0 dg1 dg2 dg3 dp0 dp1 dp2 dx0 dx1 dx2
  refine (eqWriteS_any _ _ r _ Oh0_12x.out.rd Ow_12.out.rd HRZ.out).mono ?_
  rintro e w11 ⟨rfl, hb⟩
  have Xg_13 := Lib.hid (Xg_12.out.later hb)
  have Xp_13 := Lib.hid (Xp_12.out.later hb)
  have Xx_13 := Lib.hid (Xx_12.out.later hb)
  have Ow_13 := Lib.hid (Ow_12.out.later hb)
  have Ox_13 := Lib.hid (Ox_12.out.later hb)
  have Og0_13 := Lib.hid (Og0_12.out.later hb)
  have Oh0_13 := Lib.hid (Oh0_12x.out.later hb)
  have BW_13 : Hid (Below w.heap.size w w11) := Lib.hid (BW_12.out.trans (hb.mono BW_12.out.size))
  have SZ_w11 : Hid (w10.heap.size ≤ w11.heap.size) := Lib.hid hb.size
  clear hb Xg_12 Xp_12 Xx_12 Ow_12 Ox_12 Og0_12 Oh0_12x BW_12
  have dg0 := Xg_13.out.cell (j := 0) rfl
  have dg1 := Xg_13.out.cell (j := 1) rfl
  have dg2 := Xg_13.out.cell (j := 2) rfl
  have dg3 := Xg_13.out.cell (j := 3) rfl
  have dp0 := Xp_13.out.cell (j := 0) rfl
  have dp1 := Xp_13.out.cell (j := 1) rfl
  have dp2 := Xp_13.out.cell (j := 2) rfl
  have dx0 := Xx_13.out.cell (j := 0) rfl
  have dx1 := Xx_13.out.cell (j := 1) rfl
  have dx2 := Xx_13.out.cell (j := 2) rfl
  go_wp2_with fail
  clear dg0 dg1 dg2 dg3 dp0 dp1 dp2 dx0 dx1 dx2
  refine (heldWriteS_any _ r 1 _ _ (by rfl) (by decide) HRC.out HRZ.out Og0_13.out.rd).mono ?_
  rintro e w12 ⟨he, hb⟩
  rw [HC_m.out] at he
  subst he
  have Xg_14 := Lib.hid (Xg_13.out.later hb)
  have Xp_14 := Lib.hid (Xp_13.out.later hb)
  have Xx_14 := Lib.hid (Xx_13.out.later hb)
  have Ow_14 := Lib.hid (Ow_13.out.later hb)
  have Ox_14 := Lib.hid (Ox_13.out.later hb)
  have Og0_14 := Lib.hid (Og0_13.out.later hb)
  have Oh0_14 := Lib.hid (Oh0_13.out.later hb)
  have BW_14 : Hid (Below w.heap.size w w12) := Lib.hid (BW_13.out.trans (hb.mono BW_13.out.size))
  have SZ_w12 : Hid (w11.heap.size ≤ w12.heap.size) := Lib.hid hb.size
  clear hb Xg_13 Xp_13 Xx_13 Ow_13 Ox_13 Og0_13 Oh0_13 BW_13
  go_wp2
  go_ret
  exact ⟨rfl, BW_14.out⟩
end Go.Proofs.YtmkchilhnmkhkabGreat
namespace Go.Proofs.YtmkchilhnmkhkabGreat
open Go.RowKit Go.Proofs.YtmkchilhnmkhkabGreat.Parts Go.Proofs.YtmkchilhnmkhkabGreat.Hexa Go.Proofs.YtmkchilhnmkhkabGreat.Byt

noncomputable def chN (X Y : List WriteR) (n : Nat) : List WriteR := (List.range n).flatMap fun (i : Nat) => if decB (X.getD i default = Y.getD i default) = true then [] else [Y.getD i default]
theorem chN_succ (X Y : List WriteR) (n : Nat) : chN X Y (n + 1) = chN X Y n ++ (if decB (X.getD n default = Y.getD n default) = true then [] else [Y.getD n default]) := by unfold chN; rw [List.range_succ, List.flatMap_append, List.flatMap_singleton]
theorem chN_same {X Y : List WriteR} {n : Nat} (h : X.getD n default = Y.getD n default) : chN X Y (n + 1) = chN X Y n := by rw [chN_succ, if_pos (decB_yes h), List.append_nil]
theorem chN_diff {X Y : List WriteR} {n : Nat} (h : ¬ X.getD n default = Y.getD n default) : chN X Y (n + 1) = chN X Y n ++ [Y.getD n default] := by rw [chN_succ, if_neg (by rw [decB_no h]; decide)]
theorem chN_len (X Y : List WriteR) : ∀ n, (chN X Y n).length ≤ n
  | 0 => Nat.zero_le _
  | n + 1 => by
    have h := chN_len X Y n
    rw [chN_succ, List.length_append]
    split
    · simp; omega
    · simp; omega
theorem chN_mem {X Y : List WriteR} {n : Nat} (hn : n ≤ Y.length) {x : WriteR} (h : x ∈ chN X Y n) : x ∈ Y := by
  unfold chN at h
  obtain ⟨i, hi, h9⟩ := List.mem_flatMap.1 h
  have hi' := List.mem_range.1 hi
  split at h9
  · cases h9
  · rw [List.mem_singleton.1 h9, List.getD_eq_getElem?_getD, List.getElem?_eq_getElem (show i < Y.length by omega)]
    exact List.getElem_mem _
theorem stW_len {zs : List Int} {P : Int} (h : StOk zs P) : (stWords zs).length = 2 := by
  have h9 : StOk zs zs.length := ⟨h.1, rfl, by rw [h.2.1]; exact h.2.2.1, by rw [h.2.1]; exact h.2.2.2⟩
  rw [stWords_yes h9]; rfl
theorem inoW_len {n : InoR} (h : InoOk n) : (inoWordsB n).length = 8 := by
  unfold inoWordsB
  rw [if_pos (inoB_yes h), List.length_append, List.length_replicate]
  have := wordsI_le h
  omega
theorem iwr_eight {T P I Q t : Int} {L : List InoR} (h : InosR L) : ∀ n, n ≤ L.length → (iwr T P I Q t L n).length = 8 * n
  | 0, _ => rfl
  | n + 1, hn => by
    rw [iwr_succ, List.length_append, iwr_eight h n (by omega)]
    have h3 : (wrs (inodV T P I Q t n) (inoWordsB (L.getD n default))).length = (inoWordsB (L.getD n default)).length := wrsN_len _ _ _
    rw [h3, inoW_len (h n (by omega))]
    omega
theorem pwL_eight {T P I Q t : Int} {p : PartR} (h : PartOkR T P I Q p) : (pwL T P I Q t p).length = 2 + 8 * I.toNat := by
  obtain ⟨⟨_, _, _, _, i1, h6, _, _⟩, _, hst, hl, hin, _⟩ := h
  unfold pwL
  rw [List.length_append, iwr_eight hin _ (Nat.le_refl _)]
  have h3 : (wrs (placeV T P I Q t 36) (stWords p.st)).length = (stWords p.st).length := wrsN_len _ _ _
  rw [h3, stW_len hst]
  omega
noncomputable def chR (T P I Q t : Int) (a b : PartR) : List WriteR := chN (pwR T P I Q t a) (pwR T P I Q t b) (min (pwR T P I Q t a).length (pwR T P I Q t b).length)
theorem chR_sz (T P I Q t : Int) (a b : PartR) : (celRow cWrite (chR T P I Q t a b)).sz ≤ 1000 := by
  rw [sz_row']
  have h1 := szWr (chR T P I Q t a b) fun x hx => pwR_word (chN_mem (Nat.min_le_right _ _) hx)
  have h2 := pwR_len T P I Q t b
  have h3 : (chR T P I Q t a b).length ≤ _ := chN_len _ _ _
  omega
theorem chR_cnt (T P I Q t : Int) (a b : PartR) : (celRow cWrite (chR T P I Q t a b)).cnt ≤ 1000 := by
  show cntL (celsE cWrite (chR T P I Q t a b)) ≤ 1000
  rw [cntWr]
  have h2 := pwR_len T P I Q t b
  have h3 : (chR T P I Q t a b).length ≤ _ := chN_len _ _ _
  omega
/-- A row that grows. -/
structure RLoop (B : Nat) (v0 : Value) (W1 wr : World) (uv : Value) (L : List WriteR) : Prop where
  row : wr.ownsRow B 62 2 uv L.length (cellsE encW L)
  apart : Apart v0 W1 wr
  own : ∀ g, uv.ownBlock = some g → v0.ownBlock = some g ∨ W1.heap.size ≤ g
  below : Below B W1 wr
theorem RLoop.start {B : Nat} {v0 : Value} {W1 : World} {L : List WriteR} (h : W1.ownsRow B 62 2 v0 L.length (cellsE encW L)) : RLoop B v0 W1 W1 v0 L :=
  ⟨h, Apart.of_below (Below.refl _ _), fun _ hg => .inl hg, Below.refl _ _⟩
theorem RLoop.later {B : Nat} {v0 : Value} {W1 wr wm : World} {uv : Value} {L : List WriteR} (h : RLoop B v0 W1 wr uv L) (hB : B ≤ W1.heap.size) (hb : Below wr.heap.size wr wm) : RLoop B v0 W1 wm uv L :=
  ⟨own_below h.row hb, ⟨Nat.le_trans h.apart.size hb.size, fun q hq hne => (hb.block q (Nat.lt_of_lt_of_le hq h.apart.size)).trans (h.apart.block q hq hne)⟩, h.own, h.below.trans (hb.mono (Nat.le_trans hB h.below.size))⟩
theorem RLoop.step {B : Nat} {v0 : Value} {W1 wr w2 : World} {uv v' : Value} {L : List WriteR} {o : Obj} {x : WriteR} (h : RLoop B v0 W1 wr uv L) (hB : B ≤ W1.heap.size)
    (h1 : w2.ownsRow B 62 2 v' (L.length + 1) (cellsE encW (L ++ [x]))) (h2 : (wr.alloc o).grownBy w2 uv.ownBlock) (h3 : v'.ownBlock = uv.ownBlock ∨ v'.ownBlock = some (wr.alloc o).heap.size) :
    RLoop B v0 W1 w2 v' (L ++ [x]) := by
  have hba := below_bk wr o
  have h0 := h.apart.size
  have h9 := hba.size
  refine ⟨by rw [List.length_append]; exact h1, ⟨Nat.le_trans h0 (Nat.le_trans h9 h2.size), fun q hq hne => ?_⟩, fun q hq => ?_, (h.below.trans (hba.mono (Nat.le_trans hB h0))).grown h2 (by omega) (fun q hq => (h.row.lt q hq).1)⟩
  · rw [h2.block q (by omega) (fun e => by
      rcases h.own q e.symm with h | h
      · exact hne h
      · omega), hba.block q (by omega)]
    exact h.apart.block q hq hne
  · rcases h3 with h3 | h3
    · exact h.own q (h3.symm.trans hq)
    · rw [h3] at hq
      have e : (wr.alloc o).heap.size = q := Option.some.inj hq
      exact .inr (by omega)
end Go.Proofs.YtmkchilhnmkhkabGreat
namespace Go.Proofs.YtmkchilhnmkhkabGreat
open Go.RowKit Go.Proofs.YtmkchilhnmkhkabGreat.Parts Go.Proofs.YtmkchilhnmkhkabGreat.Hexa Go.Proofs.YtmkchilhnmkhkabGreat.Byt

structure ChSt (w W : World) (T P I Q : Int) (cp cq : Array Value) : Prop where
  geo : Four W w.heap.size T P I Q 31
  part : Bk W (w.heap.size + 1) cp 35
  qart : Bk W (w.heap.size + 2) cq 35
  below : Below w.heap.size w W
theorem ChSt.later {w W W' : World} {T P I Q : Int} {cp cq : Array Value} (h : ChSt w W T P I Q cp cq) (hb : Below W.heap.size W W') : ChSt w W' T P I Q cp cq :=
  ⟨h.geo.later hb, h.part.later hb, h.qart.later hb, h.below.trans (hb.mono h.below.size)⟩
theorem ChSt.low {w W : World} {T P I Q : Int} {cp cq : Array Value} (h : ChSt w W T P I Q cp cq) : w.heap.size + 3 ≤ W.heap.size := h.qart.lt
theorem min_lt {k n m : Nat} (h : k < min n m) : k < n ∧ k < m := by omega
end Go.Proofs.YtmkchilhnmkhkabGreat
namespace Go.Proofs.YtmkchilhnmkhkabGreat
open Go.RowKit

theorem bytes_ne {a b : ByteArray} (h : ¬ a = b) : (a == b) = false := by
  cases a with | mk a => cases b with | mk b =>
  show (a == b) = false
  have : ¬ a = b := fun e => h (by rw [e])
  simpa using this
set_option maxRecDepth 100000 in
set_option maxHeartbeats 2000000 in
theorem equal_wr (d : Nat) (xa : Int) {xw yw : ByteArray} (h : ¬ xw = yw) (w : World) : (Op.equalIn (d + 2) 62 (.agg #[.int .i64 xa, .string xw]) (.agg #[.int .i64 xa, .string yw])).run Tryz.prog w = .ok false w := by
  have h1 := bytes_ne h
  simp [Op.equalIn, go_sem, h1]
theorem neq_wr2 (xa : Int) {xw yw : ByteArray} (h : ¬ xw = yw) (w : World) : (binOp .neq 62 (.agg #[.int .i64 xa, .string xw]) (.agg #[.int .i64 xa, .string yw])).run Tryz.prog w = .ok (.bool true) w := by
  simp only [binOp]
  simp [Op.equal, Op.maxDepth, equal_wr 9998 xa h w]
end Go.Proofs.YtmkchilhnmkhkabGreat
