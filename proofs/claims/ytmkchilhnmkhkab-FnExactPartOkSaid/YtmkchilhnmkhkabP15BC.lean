/- Merged texts: TInoC, TInoCS, TPartC, Drews, TIntQS, TRecQ, TRecQS, TEntryQ, TEntryQS, TInoQ, TInoQS, TPartQ, MarkAt, LnkMath, Says, Geo, LnkSpec, DepSpec, NameIn, DepImpl, DepthOfLaw, SerMath, RangeSpec. -/
import Derived.Test.YtmkchilhnmkhkabP15BB
import Derived.Test.YtmkchilhnmkhkabRows
import Derived.Below
import Derived.RowKit3
import Derived.WalkKit
import Derived.WalkSpells
import Derived.WalkLawsBesides
import Derived.IntWalk
import Derived.Lib.Hide
import Derived.OwnWalk
import Derived.OneCell
import Derived.Deep.QuietTactic
import Derived.Deep.RegionWith
import Derived.BigQuiet
namespace Go.Proofs.Ytmkchilhnmkhkab
open Go.RowKit Go.Proofs.Ytmkchilhnmkhkab.Parts Go.Proofs.Ytmkchilhnmkhkab.Hexa

set_option maxRecDepth 100000 in
set_option maxHeartbeats 1000000 in
theorem toIno_st (x : InoR) (a4 : Option Addr) (c4 : Nat) (a5 : Option Addr) (c5 : Nat) (w : World) (h4 : (celRow cRec x.R).Rd w (.slice a4 x.R.length c4)) (h5 : (celRow cEntry x.E).Rd w (.slice a5 x.E.length c5)) (hz : szL (cIno.cels x) ≤ 1048576) :
    Calls Try.prog 36 #[.agg #[.int .i64 x.kd, .int .i64 x.sz, .int .i64 x.gn, .string x.key, .slice a4 x.R.length c4, .slice a5 x.E.length c5]] w (ToPostS (cIno.cels x) w) := by
  rw [cIno_sz] at hz
  have HS4 := Lib.hid h4
  have HS5 := Lib.hid h5
  clear h4 h5
  have B0 := Lib.hid (below_bk w (.cells #[.int .i64 x.kd, .int .i64 x.sz, .int .i64 x.gn, .string x.key, .slice a4 x.R.length c4, .slice a5 x.E.length c5] 64))
  have W1 : Hid (Bk (w.alloc (.cells #[.int .i64 x.kd, .int .i64 x.sz, .int .i64 x.gn, .string x.key, .slice a4 x.R.length c4, .slice a5 x.E.length c5] 64)) w.heap.size #[.int .i64 x.kd, .int .i64 x.sz, .int .i64 x.gn, .string x.key, .slice a4 x.R.length c4, .slice a5 x.E.length c5] 64) := Lib.hid (Bk.alloc w _ _)
  go_enter Try.func36, Try.ntmps36
  go_wp2_with fail
  have hb1 := below_bk (w.alloc (.cells #[.int .i64 x.kd, .int .i64 x.sz, .int .i64 x.gn, .string x.key, .slice a4 x.R.length c4, .slice a5 x.E.length c5] 64)) (.cells #[.int .i64 0, .int .i64 0, .int .i64 0, .string ⟨#[]⟩, .slice none 0 0, .slice none 0 0] 54)
  have hb2 := below_bk ((w.alloc (.cells #[.int .i64 x.kd, .int .i64 x.sz, .int .i64 x.gn, .string x.key, .slice a4 x.R.length c4, .slice a5 x.E.length c5] 64)).alloc (.cells #[.int .i64 0, .int .i64 0, .int .i64 0, .string ⟨#[]⟩, .slice none 0 0, .slice none 0 0] 54)) (.cells #[.int .i64 x.kd, .int .i64 x.sz, .int .i64 x.gn, .string x.key, .slice none 0 0, .slice none 0 0] 54)
  have T0 := Lib.hid ((W1.out.later hb1).later hb2)
  have Z0 : Hid (Bk (((w.alloc (.cells #[.int .i64 x.kd, .int .i64 x.sz, .int .i64 x.gn, .string x.key, .slice a4 x.R.length c4, .slice a5 x.E.length c5] 64)).alloc (.cells #[.int .i64 0, .int .i64 0, .int .i64 0, .string ⟨#[]⟩, .slice none 0 0, .slice none 0 0] 54)).alloc (.cells #[.int .i64 x.kd, .int .i64 x.sz, .int .i64 x.gn, .string x.key, .slice none 0 0, .slice none 0 0] 54)) (w.heap.size + 1) #[.int .i64 0, .int .i64 0, .int .i64 0, .string ⟨#[]⟩, .slice none 0 0, .slice none 0 0] 54) := Lib.hid (by
    have h := (Bk.alloc (w.alloc (.cells #[.int .i64 x.kd, .int .i64 x.sz, .int .i64 x.gn, .string x.key, .slice a4 x.R.length c4, .slice a5 x.E.length c5] 64)) #[.int .i64 0, .int .i64 0, .int .i64 0, .string ⟨#[]⟩, .slice none 0 0, .slice none 0 0] 54).later hb2
    simpa using h)
  have O0 : Hid (Bk (((w.alloc (.cells #[.int .i64 x.kd, .int .i64 x.sz, .int .i64 x.gn, .string x.key, .slice a4 x.R.length c4, .slice a5 x.E.length c5] 64)).alloc (.cells #[.int .i64 0, .int .i64 0, .int .i64 0, .string ⟨#[]⟩, .slice none 0 0, .slice none 0 0] 54)).alloc (.cells #[.int .i64 x.kd, .int .i64 x.sz, .int .i64 x.gn, .string x.key, .slice none 0 0, .slice none 0 0] 54)) (w.heap.size + 1 + 1) #[.int .i64 x.kd, .int .i64 x.sz, .int .i64 x.gn, .string x.key, .slice none 0 0, .slice none 0 0] 54) := Lib.hid (by
    have h := Bk.alloc ((w.alloc (.cells #[.int .i64 x.kd, .int .i64 x.sz, .int .i64 x.gn, .string x.key, .slice a4 x.R.length c4, .slice a5 x.E.length c5] 64)).alloc (.cells #[.int .i64 0, .int .i64 0, .int .i64 0, .string ⟨#[]⟩, .slice none 0 0, .slice none 0 0] 54)) #[.int .i64 x.kd, .int .i64 x.sz, .int .i64 x.gn, .string x.key, .slice none 0 0, .slice none 0 0] 54
    simpa using h)
  have B3 : Hid (Below w.heap.size w (((w.alloc (.cells #[.int .i64 x.kd, .int .i64 x.sz, .int .i64 x.gn, .string x.key, .slice a4 x.R.length c4, .slice a5 x.E.length c5] 64)).alloc (.cells #[.int .i64 0, .int .i64 0, .int .i64 0, .string ⟨#[]⟩, .slice none 0 0, .slice none 0 0] 54)).alloc (.cells #[.int .i64 x.kd, .int .i64 x.sz, .int .i64 x.gn, .string x.key, .slice none 0 0, .slice none 0 0] 54))) := Lib.hid ((B0.out.alloc B0.out.size _).alloc (by simp; omega) _)
  have N0 : Hid ((((w.alloc (.cells #[.int .i64 x.kd, .int .i64 x.sz, .int .i64 x.gn, .string x.key, .slice a4 x.R.length c4, .slice a5 x.E.length c5] 64)).alloc (.cells #[.int .i64 0, .int .i64 0, .int .i64 0, .string ⟨#[]⟩, .slice none 0 0, .slice none 0 0] 54)).alloc (.cells #[.int .i64 x.kd, .int .i64 x.sz, .int .i64 x.gn, .string x.key, .slice none 0 0, .slice none 0 0] 54)).heap.size = w.heap.size + 3) := Lib.hid (by simp)
  obtain ⟨V0, hV0⟩ : ∃ y, y = (((w.alloc (.cells #[.int .i64 x.kd, .int .i64 x.sz, .int .i64 x.gn, .string x.key, .slice a4 x.R.length c4, .slice a5 x.E.length c5] 64)).alloc (.cells #[.int .i64 0, .int .i64 0, .int .i64 0, .string ⟨#[]⟩, .slice none 0 0, .slice none 0 0] 54)).alloc (.cells #[.int .i64 x.kd, .int .i64 x.sz, .int .i64 x.gn, .string x.key, .slice none 0 0, .slice none 0 0] 54)) := ⟨_, rfl⟩
  rw [← hV0] at T0 Z0 O0 B3 N0 ⊢
  clear hV0 hb1 hb2 B0 W1
  have SZ0 : Hid (w.heap.size + 3 ≤ V0.heap.size) := Lib.hid (by have := N0.out; omega)
  clear N0
  refine (toRecS_any _ x.R _ (Cel.Rd.later B3.out _ _ HS4.out) (by omega)).mono ?_
  rintro e w1 ⟨u4, rfl, ho, hb⟩
  obtain ⟨p4, m4, s4, rfl, hm⟩ := row_form ho.rd
  subst hm
  have T1a := Lib.hid (T0.out.later hb)
  have Z1a := Lib.hid (Z0.out.later hb)
  have O1a := Lib.hid (O0.out.later hb)
  have B1a : Hid (Below w.heap.size w w1) := Lib.hid (B3.out.trans (hb.mono B3.out.size))
  have SZ1a : Hid (V0.heap.size ≤ w1.heap.size) := Lib.hid hb.size
  have J4_1 := Lib.hid ho
  clear hb ho T0 Z0 O0 B3
  have x4 := O1a.out.cell (j := 4) rfl
  have f4 := O1a.out.fr (o := 4)
  have O2 := Lib.hid (O1a.out.set 4 (.slice p4 x.R.length s4))
  have T2 := Lib.hid (T1a.out.other (c := w.heap.size + 1 + 1) (o := 4) (by omega) (.slice p4 x.R.length s4))
  have Z2 := Lib.hid (Z1a.out.other (c := w.heap.size + 1 + 1) (o := 4) (by omega) (.slice p4 x.R.length s4))
  have B2 : Hid (Below w.heap.size w (w1.setCell ⟨w.heap.size + 1 + 1, 4, none⟩ (.slice p4 x.R.length s4))) := Lib.hid (B1a.out.setCell (by show w.heap.size ≤ w.heap.size + 1 + 1; omega) _)
  have J4_2 := Lib.hid (J4_1.out.kept (w' := w1.setCell ⟨w.heap.size + 1 + 1, 4, none⟩ (.slice p4 x.R.length s4)) (fun g h1 h2 => Below.heap_setCell _ _ _ _ (by show g ≠ w.heap.size + 1 + 1; have := SZ0.out; have := SZ1a.out; omega)))
  clear J4_1
  have t2_5 := T2.out.cell (j := 5) rfl
  clear B1a T1a Z1a O1a
  go_wp2_with fail
  obtain ⟨V2, hV⟩ : ∃ y, y = (w1.setCell ⟨w.heap.size + 1 + 1, 4, none⟩ (.slice p4 x.R.length s4)) := ⟨_, rfl⟩
  rw [← hV] at O2 T2 Z2 B2 J4_2 ⊢
  have SZ2 : Hid (w1.heap.size ≤ V2.heap.size) := Lib.hid (by rw [hV]; simp [World.setCell])
  clear hV x4 f4 t2_5
  refine (toEntryS_any _ x.E _ (Cel.Rd.later B2.out _ _ HS5.out) (by omega)).mono ?_
  rintro e w3 ⟨u5, rfl, ho, hb⟩
  obtain ⟨p5, m5, s5, rfl, hm⟩ := row_form ho.rd
  subst hm
  have T3a := Lib.hid (T2.out.later hb)
  have Z3a := Lib.hid (Z2.out.later hb)
  have O3a := Lib.hid (O2.out.later hb)
  have B3a : Hid (Below w.heap.size w w3) := Lib.hid (B2.out.trans (hb.mono B2.out.size))
  have SZ3a : Hid (V2.heap.size ≤ w3.heap.size) := Lib.hid hb.size
  have J5_3 := Lib.hid ho
  have J4_3 := Lib.hid (J4_2.out.later hb)
  clear J4_2
  clear hb ho T2 Z2 O2 B2
  have x5 := O3a.out.cell (j := 5) rfl
  have f5 := O3a.out.fr (o := 5)
  have O4 := Lib.hid (O3a.out.set 5 (.slice p5 x.E.length s5))
  have T4 := Lib.hid (T3a.out.other (c := w.heap.size + 1 + 1) (o := 5) (by omega) (.slice p5 x.E.length s5))
  have Z4 := Lib.hid (Z3a.out.other (c := w.heap.size + 1 + 1) (o := 5) (by omega) (.slice p5 x.E.length s5))
  have B4 : Hid (Below w.heap.size w (w3.setCell ⟨w.heap.size + 1 + 1, 5, none⟩ (.slice p5 x.E.length s5))) := Lib.hid (B3a.out.setCell (by show w.heap.size ≤ w.heap.size + 1 + 1; omega) _)
  have J4_4 := Lib.hid (J4_3.out.kept (w' := w3.setCell ⟨w.heap.size + 1 + 1, 5, none⟩ (.slice p5 x.E.length s5)) (fun g h1 h2 => Below.heap_setCell _ _ _ _ (by show g ≠ w.heap.size + 1 + 1; have := SZ0.out; have := SZ1a.out; have := SZ2.out; have := SZ3a.out; omega)))
  clear J4_3
  have J5_4 := Lib.hid (J5_3.out.kept (w' := w3.setCell ⟨w.heap.size + 1 + 1, 5, none⟩ (.slice p5 x.E.length s5)) (fun g h1 h2 => Below.heap_setCell _ _ _ _ (by show g ≠ w.heap.size + 1 + 1; have := SZ0.out; have := SZ1a.out; have := SZ2.out; have := SZ3a.out; omega)))
  clear J5_3
  clear B3a T3a Z3a O3a
  have y0 := O4.out.cell (j := 0) rfl
  have y1 := O4.out.cell (j := 1) rfl
  have y2 := O4.out.cell (j := 2) rfl
  have y3 := O4.out.cell (j := 3) rfl
  have y4 := O4.out.cell (j := 4) rfl
  have y5 := O4.out.cell (j := 5) rfl
  have z0 := Z4.out.cell (j := 0) rfl
  have g0 := Z4.out.fr (o := 0)
  have z1 := Z4.out.cell (j := 1) rfl
  have g1 := Z4.out.fr (o := 1)
  have z2 := Z4.out.cell (j := 2) rfl
  have g2 := Z4.out.fr (o := 2)
  have z3 := Z4.out.cell (j := 3) rfl
  have g3 := Z4.out.fr (o := 3)
  have z4 := Z4.out.cell (j := 4) rfl
  have g4 := Z4.out.fr (o := 4)
  have z5 := Z4.out.cell (j := 5) rfl
  have g5 := Z4.out.fr (o := 5)
  have qf := ((((((Z4.out.set 0 (.int .i64 x.kd)).set 1 (.int .i64 x.sz)).set 2 (.int .i64 x.gn)).set 3 (.string x.key)).set 4 (.slice p4 x.R.length s4)).set 5 (.slice p5 x.E.length s5))
  have q0 := qf.cell (j := 0) rfl
  have q1 := qf.cell (j := 1) rfl
  have q2 := qf.cell (j := 2) rfl
  have q3 := qf.cell (j := 3) rfl
  have q4 := qf.cell (j := 4) rfl
  have q5 := qf.cell (j := 5) rfl
  clear qf
  have BE := Lib.hid ((((((B4.out.setCell (p := ⟨w.heap.size + 1, 0, none⟩) (by show w.heap.size ≤ w.heap.size + 1; omega) (.int .i64 x.kd)).setCell (p := ⟨w.heap.size + 1, 1, none⟩) (by show w.heap.size ≤ w.heap.size + 1; omega) (.int .i64 x.sz)).setCell (p := ⟨w.heap.size + 1, 2, none⟩) (by show w.heap.size ≤ w.heap.size + 1; omega) (.int .i64 x.gn)).setCell (p := ⟨w.heap.size + 1, 3, none⟩) (by show w.heap.size ≤ w.heap.size + 1; omega) (.string x.key)).setCell (p := ⟨w.heap.size + 1, 4, none⟩) (by show w.heap.size ≤ w.heap.size + 1; omega) (.slice p4 x.R.length s4)).setCell (p := ⟨w.heap.size + 1, 5, none⟩) (by show w.heap.size ≤ w.heap.size + 1; omega) (.slice p5 x.E.length s5))
  have JE4 := Lib.hid (J4_4.out.kept (w' := ((w3.setCell ⟨w.heap.size + 1 + 1, 5, none⟩ (.slice p5 x.E.length s5))).setCells (w.heap.size + 1) 0 [.int .i64 x.kd, .int .i64 x.sz, .int .i64 x.gn, .string x.key, .slice p4 x.R.length s4, .slice p5 x.E.length s5]) (fun g h1 h2 => heap_setCells_ne (by have := SZ0.out; have := SZ1a.out; have := SZ2.out; have := SZ3a.out; omega) _ _ _))
  have JE5 := Lib.hid (J5_4.out.kept (w' := ((w3.setCell ⟨w.heap.size + 1 + 1, 5, none⟩ (.slice p5 x.E.length s5))).setCells (w.heap.size + 1) 0 [.int .i64 x.kd, .int .i64 x.sz, .int .i64 x.gn, .string x.key, .slice p4 x.R.length s4, .slice p5 x.E.length s5]) (fun g h1 h2 => heap_setCells_ne (by have := SZ0.out; have := SZ1a.out; have := SZ2.out; have := SZ3a.out; omega) _ _ _))
  have SE : Hid (w3.heap.size ≤ (((w3.setCell ⟨w.heap.size + 1 + 1, 5, none⟩ (.slice p5 x.E.length s5))).setCells (w.heap.size + 1) 0 [.int .i64 x.kd, .int .i64 x.sz, .int .i64 x.gn, .string x.key, .slice p4 x.R.length s4, .slice p5 x.E.length s5]).heap.size) := Lib.hid (by rw [size_setCells]; simp [World.setCell])
  go_wp2
  refine bodyPost_ret (v := .agg #[.int .i64 x.kd, .int .i64 x.sz, .int .i64 x.gn, .string x.key, .slice p4 x.R.length s4, .slice p5 x.E.length s5]) ?_ rfl ⟨_, rfl, ((((((Objs.cons (lo := V0.heap.size) JE4.out (Objs.cons (lo := V2.heap.size) JE5.out (Objs.nil _ w3.heap.size (((w3.setCell ⟨w.heap.size + 1 + 1, 5, none⟩ (.slice p5 x.E.length s5))).setCells (w.heap.size + 1) 0 [.int .i64 x.kd, .int .i64 x.sz, .int .i64 x.gn, .string x.key, .slice p4 x.R.length s4, .slice p5 x.E.length s5]).heap.size) (by have := SZ0.out; have := SZ1a.out; have := SZ2.out; have := SZ3a.out; omega) (by have := SZ0.out; have := SZ1a.out; have := SZ2.out; have := SZ3a.out; omega) (by have := SZ0.out; have := SZ1a.out; have := SZ2.out; have := SZ3a.out; have := SE.out; omega)) (by have := SZ0.out; have := SZ1a.out; have := SZ2.out; have := SZ3a.out; omega) (by have := SZ0.out; have := SZ1a.out; have := SZ2.out; have := SZ3a.out; omega) (by have := SZ0.out; have := SZ1a.out; have := SZ2.out; have := SZ3a.out; have := SE.out; omega)).val _).val _).val _).val _)).mono (by have := SZ0.out; have := SZ1a.out; have := SZ2.out; have := SZ3a.out; omega) (Nat.le_refl _), BE.out⟩
  simp [results, Try.results36, go_sem, q0, q1, q2, q3, q4, q5]

end Go.Proofs.Ytmkchilhnmkhkab
namespace Go.Proofs.Ytmkchilhnmkhkab
open Go.RowKit Go.Proofs.Ytmkchilhnmkhkab.Parts Go.Proofs.Ytmkchilhnmkhkab.Hexa

set_option maxRecDepth 100000 in
set_option maxHeartbeats 1000000 in
theorem toInoS_any (v : Value) (L : List InoR) (w : World) (hs : (celRow cIno L).Rd w v) (hz : (celRow cIno L).sz ≤ 1048576) :
    Calls Try.prog 17 #[v] w (ToPost (celRow cIno L) w) := by
  obtain ⟨i0, hi, hz0, hz1, hz2⟩ := info_parts infoInoD
  obtain ⟨a, n, c, rfl, hn⟩ := row_form hs
  have HS := Lib.hid hs
  have hz' : n + szL (celsE cIno L) ≤ 1048576 := by rw [← hn]; exact hz
  have hn1 : n ≤ 1048576 := by omega
  have HZ : Hid (szL (celsE cIno L) ≤ 1048576) := Lib.hid (by omega)
  have HN := Lib.hid hn
  clear hs hz hz' hn
  go_enter Try.func17, Try.ntmps17
  go_wp2_with (at_make; refine wpList_make_full _ rfl _ _ 28 rfl w.heap.size 54 i0 _ 6 Try.underlying28 hi hz0 hz1 .i64 .i64 _ _ n rfl rfl rfl rfl (by rw [hz2]; omega) (by unfold maxLen; omega) (Nat.le_refl _) ?_; intro w0 hown0 hgrow0)
  have hg0 : Below w.heap.size w w0 := (Below.refl _ _).grown hgrow0 (Nat.le_refl _) (fun k h => by cases h)
  have HO0 : Hid (Part2 cIno L w0 w.heap.size n 0) := Lib.hid (Part2.start hown0)
  clear hown0 hgrow0
  go_loopw [4] (fun iv wr => ∃ (k : Nat), k ≤ n ∧ iv = .int .i64 k ∧ Hid (Part2 cIno L wr w.heap.size n k) ∧ Below w.heap.size w wr)
    (fun iv _ => n - (intOf iv).toNat)
  case atStart => exact ⟨0, Nat.zero_le _, rfl, HO0, hg0⟩
  case round =>
    clear HO0 hg0
    obtain ⟨k, hk, rfl, HW, hbel⟩ := hrel
    by_cases hlt : k < n
    · have HX : Hid (szL (cIno.cels (L.getD k default)) ≤ 1048576) := Lib.hid (Nat.le_trans (szL_at cIno L k (by rw [HN.out]; exact hlt)) HZ.out)
      obtain ⟨g, off, a4, c4, a5, c5, rfl, hg, d0, d1, d2, d3, d4, d5, r4, r5⟩ := cIno_at (Cel.Rd.later hbel _ _ HS.out) k hlt
      have HV : Hid (∀ (w1 : World) (hi : Nat) (vs : List Value), Below wr.heap.size wr w1 → Objs w1 wr.heap.size hi (cIno.cels (L.getD k default)) vs → Part2 cIno L (w1.setCells w.heap.size (k * 6) vs) w.heap.size n (k + 1)) :=
        Lib.hid (fun w1 hi vs hb ho => HW.out.next HN.out hlt hb ho)
      obtain ⟨x, hx⟩ : ∃ x, L.getD k default = x := ⟨_, rfl⟩
      rw [hx] at d0 d1 d2 d3 d4 d5 r4 r5 HX HV
      clear hx
      go_wp2_with fail
      refine (toIno_st x a4 c4 a5 c5 _ r4 r5 HX.out).mono ?_
      rintro e w1 ⟨vs, rfl, ho, hb1⟩
      have hbx : Below w.heap.size w w1 := hbel.trans (hb1.mono hbel.size)
      have O1 := Lib.hid (HV.out w1 _ vs hb1 ho)
      obtain ⟨b4, s4, b5, s5, rfl, _, _⟩ := cIno_form ho.rd
      obtain ⟨xs, G, hrow, _, _, _⟩ := (HW.out.later hb1).ex
      have HW1 := Lib.hid hrow
      clear hrow
      obtain ⟨v0, e0⟩ := ownE_cell HW1.out (j := k * 6) (by show k * 6 < n * 6; omega)
      obtain ⟨v1, e1⟩ := ownE_cell HW1.out (j := k * 6 + 1) (by show k * 6 + 1 < n * 6; omega)
      obtain ⟨v2, e2⟩ := ownE_cell HW1.out (j := k * 6 + 2) (by show k * 6 + 2 < n * 6; omega)
      obtain ⟨v3, e3⟩ := ownE_cell HW1.out (j := k * 6 + 3) (by show k * 6 + 3 < n * 6; omega)
      obtain ⟨v4, e4⟩ := ownE_cell HW1.out (j := k * 6 + 4) (by show k * 6 + 4 < n * 6; omega)
      obtain ⟨v5, e5⟩ := ownE_cell HW1.out (j := k * 6 + 5) (by show k * 6 + 5 < n * 6; omega)
      have z0 := HW1.out.frozenAt (k * 6)
      have z1 := HW1.out.frozenAt (k * 6 + 1)
      have z2 := HW1.out.frozenAt (k * 6 + 2)
      have z3 := HW1.out.frozenAt (k * 6 + 3)
      have z4 := HW1.out.frozenAt (k * 6 + 4)
      have z5 := HW1.out.frozenAt (k * 6 + 5)
      have hb2 := Lib.hid (below_sets (Nat.le_refl w.heap.size) [.int .i64 x.kd, .int .i64 x.sz, .int .i64 x.gn, .string x.key, .slice b4 x.R.length s4, .slice b5 x.E.length s5] (k * 6) hbx)
      clear d0 d1 d2 d3 d4 d5 r4 r5 hb1 hbx ho HW
      go_wp2
      go_roundw
      case rel => exact ⟨k + 1, by omega, by go_num, O1, hb2.out⟩
      case measure => (simp [intOf]; try omega)
    · obtain rfl : k = n := by omega
      have HO := Lib.hid (HW.out.done HN.out)
      go_wp2
      go_ret
      exact ⟨_, rfl, HO.out, hbel⟩

end Go.Proofs.Ytmkchilhnmkhkab
namespace Go.Proofs.Ytmkchilhnmkhkab
open Go.RowKit Go.Proofs.Ytmkchilhnmkhkab.Parts Go.Proofs.Ytmkchilhnmkhkab.Hexa

set_option maxRecDepth 100000 in
set_option maxHeartbeats 1000000 in
theorem toPart_st (x : PartR) (a1 : Option Addr) (c1 : Nat) (a2 : Option Addr) (c2 : Nat) (w : World) (h1 : (celRow cInt x.st).Rd w (.slice a1 x.st.length c1)) (h2 : (celRow cIno x.ino).Rd w (.slice a2 x.ino.length c2)) (hz : szL (cPart.cels x) ≤ 1048576) :
    Calls Try.prog 7 #[.agg #[.int .i64 x.ser, .slice a1 x.st.length c1, .slice a2 x.ino.length c2]] w (ToPostS (cPart.cels x) w) := by
  rw [cPart_sz] at hz
  have HS1 := Lib.hid h1
  have HS2 := Lib.hid h2
  clear h1 h2
  have B0 := Lib.hid (below_bk w (.cells #[.int .i64 x.ser, .slice a1 x.st.length c1, .slice a2 x.ino.length c2] 25))
  have W1 : Hid (Bk (w.alloc (.cells #[.int .i64 x.ser, .slice a1 x.st.length c1, .slice a2 x.ino.length c2] 25)) w.heap.size #[.int .i64 x.ser, .slice a1 x.st.length c1, .slice a2 x.ino.length c2] 25) := Lib.hid (Bk.alloc w _ _)
  go_enter Try.func7, Try.ntmps7
  go_wp2_with fail
  have hb1 := below_bk (w.alloc (.cells #[.int .i64 x.ser, .slice a1 x.st.length c1, .slice a2 x.ino.length c2] 25)) (.cells #[.int .i64 0, .slice none 0 0, .slice none 0 0] 30)
  have hb2 := below_bk ((w.alloc (.cells #[.int .i64 x.ser, .slice a1 x.st.length c1, .slice a2 x.ino.length c2] 25)).alloc (.cells #[.int .i64 0, .slice none 0 0, .slice none 0 0] 30)) (.cells #[.int .i64 x.ser, .slice none 0 0, .slice none 0 0] 30)
  have T0 := Lib.hid ((W1.out.later hb1).later hb2)
  have Z0 : Hid (Bk (((w.alloc (.cells #[.int .i64 x.ser, .slice a1 x.st.length c1, .slice a2 x.ino.length c2] 25)).alloc (.cells #[.int .i64 0, .slice none 0 0, .slice none 0 0] 30)).alloc (.cells #[.int .i64 x.ser, .slice none 0 0, .slice none 0 0] 30)) (w.heap.size + 1) #[.int .i64 0, .slice none 0 0, .slice none 0 0] 30) := Lib.hid (by
    have h := (Bk.alloc (w.alloc (.cells #[.int .i64 x.ser, .slice a1 x.st.length c1, .slice a2 x.ino.length c2] 25)) #[.int .i64 0, .slice none 0 0, .slice none 0 0] 30).later hb2
    simpa using h)
  have O0 : Hid (Bk (((w.alloc (.cells #[.int .i64 x.ser, .slice a1 x.st.length c1, .slice a2 x.ino.length c2] 25)).alloc (.cells #[.int .i64 0, .slice none 0 0, .slice none 0 0] 30)).alloc (.cells #[.int .i64 x.ser, .slice none 0 0, .slice none 0 0] 30)) (w.heap.size + 1 + 1) #[.int .i64 x.ser, .slice none 0 0, .slice none 0 0] 30) := Lib.hid (by
    have h := Bk.alloc ((w.alloc (.cells #[.int .i64 x.ser, .slice a1 x.st.length c1, .slice a2 x.ino.length c2] 25)).alloc (.cells #[.int .i64 0, .slice none 0 0, .slice none 0 0] 30)) #[.int .i64 x.ser, .slice none 0 0, .slice none 0 0] 30
    simpa using h)
  have B3 : Hid (Below w.heap.size w (((w.alloc (.cells #[.int .i64 x.ser, .slice a1 x.st.length c1, .slice a2 x.ino.length c2] 25)).alloc (.cells #[.int .i64 0, .slice none 0 0, .slice none 0 0] 30)).alloc (.cells #[.int .i64 x.ser, .slice none 0 0, .slice none 0 0] 30))) := Lib.hid ((B0.out.alloc B0.out.size _).alloc (by simp; omega) _)
  have N0 : Hid ((((w.alloc (.cells #[.int .i64 x.ser, .slice a1 x.st.length c1, .slice a2 x.ino.length c2] 25)).alloc (.cells #[.int .i64 0, .slice none 0 0, .slice none 0 0] 30)).alloc (.cells #[.int .i64 x.ser, .slice none 0 0, .slice none 0 0] 30)).heap.size = w.heap.size + 3) := Lib.hid (by simp)
  obtain ⟨V0, hV0⟩ : ∃ y, y = (((w.alloc (.cells #[.int .i64 x.ser, .slice a1 x.st.length c1, .slice a2 x.ino.length c2] 25)).alloc (.cells #[.int .i64 0, .slice none 0 0, .slice none 0 0] 30)).alloc (.cells #[.int .i64 x.ser, .slice none 0 0, .slice none 0 0] 30)) := ⟨_, rfl⟩
  rw [← hV0] at T0 Z0 O0 B3 N0 ⊢
  clear hV0 hb1 hb2 B0 W1
  have SZ0 : Hid (w.heap.size + 3 ≤ V0.heap.size) := Lib.hid (by have := N0.out; omega)
  clear N0
  refine (toIntS_any _ x.st _ (Cel.Rd.later B3.out _ _ HS1.out) (by omega)).mono ?_
  rintro e w1 ⟨u1, rfl, ho, hb⟩
  obtain ⟨p1, m1, s1, rfl, hm⟩ := row_form ho.rd
  subst hm
  have T1a := Lib.hid (T0.out.later hb)
  have Z1a := Lib.hid (Z0.out.later hb)
  have O1a := Lib.hid (O0.out.later hb)
  have B1a : Hid (Below w.heap.size w w1) := Lib.hid (B3.out.trans (hb.mono B3.out.size))
  have SZ1a : Hid (V0.heap.size ≤ w1.heap.size) := Lib.hid hb.size
  have J1_1 := Lib.hid ho
  clear hb ho T0 Z0 O0 B3
  have x1 := O1a.out.cell (j := 1) rfl
  have f1 := O1a.out.fr (o := 1)
  have O2 := Lib.hid (O1a.out.set 1 (.slice p1 x.st.length s1))
  have T2 := Lib.hid (T1a.out.other (c := w.heap.size + 1 + 1) (o := 1) (by omega) (.slice p1 x.st.length s1))
  have Z2 := Lib.hid (Z1a.out.other (c := w.heap.size + 1 + 1) (o := 1) (by omega) (.slice p1 x.st.length s1))
  have B2 : Hid (Below w.heap.size w (w1.setCell ⟨w.heap.size + 1 + 1, 1, none⟩ (.slice p1 x.st.length s1))) := Lib.hid (B1a.out.setCell (by show w.heap.size ≤ w.heap.size + 1 + 1; omega) _)
  have J1_2 := Lib.hid (J1_1.out.kept (w' := w1.setCell ⟨w.heap.size + 1 + 1, 1, none⟩ (.slice p1 x.st.length s1)) (fun g h1 h2 => Below.heap_setCell _ _ _ _ (by show g ≠ w.heap.size + 1 + 1; have := SZ0.out; have := SZ1a.out; omega)))
  clear J1_1
  have t2_2 := T2.out.cell (j := 2) rfl
  clear B1a T1a Z1a O1a
  go_wp2_with fail
  obtain ⟨V2, hV⟩ : ∃ y, y = (w1.setCell ⟨w.heap.size + 1 + 1, 1, none⟩ (.slice p1 x.st.length s1)) := ⟨_, rfl⟩
  rw [← hV] at O2 T2 Z2 B2 J1_2 ⊢
  have SZ2 : Hid (w1.heap.size ≤ V2.heap.size) := Lib.hid (by rw [hV]; simp [World.setCell])
  clear hV x1 f1 t2_2
  refine (toInoS_any _ x.ino _ (Cel.Rd.later B2.out _ _ HS2.out) (by omega)).mono ?_
  rintro e w3 ⟨u2, rfl, ho, hb⟩
  obtain ⟨p2, m2, s2, rfl, hm⟩ := row_form ho.rd
  subst hm
  have T3a := Lib.hid (T2.out.later hb)
  have Z3a := Lib.hid (Z2.out.later hb)
  have O3a := Lib.hid (O2.out.later hb)
  have B3a : Hid (Below w.heap.size w w3) := Lib.hid (B2.out.trans (hb.mono B2.out.size))
  have SZ3a : Hid (V2.heap.size ≤ w3.heap.size) := Lib.hid hb.size
  have J2_3 := Lib.hid ho
  have J1_3 := Lib.hid (J1_2.out.later hb)
  clear J1_2
  clear hb ho T2 Z2 O2 B2
  have x2 := O3a.out.cell (j := 2) rfl
  have f2 := O3a.out.fr (o := 2)
  have O4 := Lib.hid (O3a.out.set 2 (.slice p2 x.ino.length s2))
  have T4 := Lib.hid (T3a.out.other (c := w.heap.size + 1 + 1) (o := 2) (by omega) (.slice p2 x.ino.length s2))
  have Z4 := Lib.hid (Z3a.out.other (c := w.heap.size + 1 + 1) (o := 2) (by omega) (.slice p2 x.ino.length s2))
  have B4 : Hid (Below w.heap.size w (w3.setCell ⟨w.heap.size + 1 + 1, 2, none⟩ (.slice p2 x.ino.length s2))) := Lib.hid (B3a.out.setCell (by show w.heap.size ≤ w.heap.size + 1 + 1; omega) _)
  have J1_4 := Lib.hid (J1_3.out.kept (w' := w3.setCell ⟨w.heap.size + 1 + 1, 2, none⟩ (.slice p2 x.ino.length s2)) (fun g h1 h2 => Below.heap_setCell _ _ _ _ (by show g ≠ w.heap.size + 1 + 1; have := SZ0.out; have := SZ1a.out; have := SZ2.out; have := SZ3a.out; omega)))
  clear J1_3
  have J2_4 := Lib.hid (J2_3.out.kept (w' := w3.setCell ⟨w.heap.size + 1 + 1, 2, none⟩ (.slice p2 x.ino.length s2)) (fun g h1 h2 => Below.heap_setCell _ _ _ _ (by show g ≠ w.heap.size + 1 + 1; have := SZ0.out; have := SZ1a.out; have := SZ2.out; have := SZ3a.out; omega)))
  clear J2_3
  clear B3a T3a Z3a O3a
  have y0 := O4.out.cell (j := 0) rfl
  have y1 := O4.out.cell (j := 1) rfl
  have y2 := O4.out.cell (j := 2) rfl
  have z0 := Z4.out.cell (j := 0) rfl
  have g0 := Z4.out.fr (o := 0)
  have z1 := Z4.out.cell (j := 1) rfl
  have g1 := Z4.out.fr (o := 1)
  have z2 := Z4.out.cell (j := 2) rfl
  have g2 := Z4.out.fr (o := 2)
  have qf := (((Z4.out.set 0 (.int .i64 x.ser)).set 1 (.slice p1 x.st.length s1)).set 2 (.slice p2 x.ino.length s2))
  have q0 := qf.cell (j := 0) rfl
  have q1 := qf.cell (j := 1) rfl
  have q2 := qf.cell (j := 2) rfl
  clear qf
  have BE := Lib.hid (((B4.out.setCell (p := ⟨w.heap.size + 1, 0, none⟩) (by show w.heap.size ≤ w.heap.size + 1; omega) (.int .i64 x.ser)).setCell (p := ⟨w.heap.size + 1, 1, none⟩) (by show w.heap.size ≤ w.heap.size + 1; omega) (.slice p1 x.st.length s1)).setCell (p := ⟨w.heap.size + 1, 2, none⟩) (by show w.heap.size ≤ w.heap.size + 1; omega) (.slice p2 x.ino.length s2))
  have JE1 := Lib.hid (J1_4.out.kept (w' := ((w3.setCell ⟨w.heap.size + 1 + 1, 2, none⟩ (.slice p2 x.ino.length s2))).setCells (w.heap.size + 1) 0 [.int .i64 x.ser, .slice p1 x.st.length s1, .slice p2 x.ino.length s2]) (fun g h1 h2 => heap_setCells_ne (by have := SZ0.out; have := SZ1a.out; have := SZ2.out; have := SZ3a.out; omega) _ _ _))
  have JE2 := Lib.hid (J2_4.out.kept (w' := ((w3.setCell ⟨w.heap.size + 1 + 1, 2, none⟩ (.slice p2 x.ino.length s2))).setCells (w.heap.size + 1) 0 [.int .i64 x.ser, .slice p1 x.st.length s1, .slice p2 x.ino.length s2]) (fun g h1 h2 => heap_setCells_ne (by have := SZ0.out; have := SZ1a.out; have := SZ2.out; have := SZ3a.out; omega) _ _ _))
  have SE : Hid (w3.heap.size ≤ (((w3.setCell ⟨w.heap.size + 1 + 1, 2, none⟩ (.slice p2 x.ino.length s2))).setCells (w.heap.size + 1) 0 [.int .i64 x.ser, .slice p1 x.st.length s1, .slice p2 x.ino.length s2]).heap.size) := Lib.hid (by rw [size_setCells]; simp [World.setCell])
  go_wp2
  refine bodyPost_ret (v := .agg #[.int .i64 x.ser, .slice p1 x.st.length s1, .slice p2 x.ino.length s2]) ?_ rfl ⟨_, rfl, (((Objs.cons (lo := V0.heap.size) JE1.out (Objs.cons (lo := V2.heap.size) JE2.out (Objs.nil _ w3.heap.size (((w3.setCell ⟨w.heap.size + 1 + 1, 2, none⟩ (.slice p2 x.ino.length s2))).setCells (w.heap.size + 1) 0 [.int .i64 x.ser, .slice p1 x.st.length s1, .slice p2 x.ino.length s2]).heap.size) (by have := SZ0.out; have := SZ1a.out; have := SZ2.out; have := SZ3a.out; omega) (by have := SZ0.out; have := SZ1a.out; have := SZ2.out; have := SZ3a.out; omega) (by have := SZ0.out; have := SZ1a.out; have := SZ2.out; have := SZ3a.out; have := SE.out; omega)) (by have := SZ0.out; have := SZ1a.out; have := SZ2.out; have := SZ3a.out; omega) (by have := SZ0.out; have := SZ1a.out; have := SZ2.out; have := SZ3a.out; omega) (by have := SZ0.out; have := SZ1a.out; have := SZ2.out; have := SZ3a.out; have := SE.out; omega)).val _)).mono (by have := SZ0.out; have := SZ1a.out; have := SZ2.out; have := SZ3a.out; omega) (Nat.le_refl _), BE.out⟩
  simp [results, Try.results7, go_sem, q0, q1, q2]

end Go.Proofs.Ytmkchilhnmkhkab
namespace Go.Proofs.Ytmkchilhnmkhkab
open Go.RowKit

theorem below_drewsN {B : Nat} {a w : World} (h : Below B a w) (m : Nat) : Below B a (w.drewN m) := ⟨h.os, h.tape, h.output, h.size, h.block⟩
end Go.Proofs.Ytmkchilhnmkhkab
namespace Go.Proofs.Ytmkchilhnmkhkab
open Go.RowKit Go.Proofs.Ytmkchilhnmkhkab.Parts Go.Proofs.Ytmkchilhnmkhkab.Hexa

set_option maxRecDepth 100000 in
set_option maxHeartbeats 1000000 in
theorem eqIntS_any (v v2 : Value) (L : List Int) (w : World) (s1 : (celRow cInt L).Rd w v) (s2 : (celRow cInt L).Rd w v2) (hz : (celRow cInt L).sz ≤ 100000000) :
    Calls Try.prog 19 #[v, v2] w fun e w' => e = .returned (.bool true) ∧ Below w.heap.size w w' := by
  obtain ⟨a, n, c, rfl, hn⟩ := row_form s1
  obtain ⟨a', n', c', rfl, hn'⟩ := row_form s2
  obtain rfl : n' = n := by rw [← hn, ← hn']
  rw [szInts_eq, hn] at hz
  have R1 := Lib.hid s1
  have R2 := Lib.hid s2
  clear s1 s2 hn hn'
  go_enter Try.func19, Try.ntmps19
  go_wp2
  go_loopw [5] (fun iv wr => ∃ k m : Nat, k ≤ n' ∧ iv = .int .i64 k ∧ wr = w.drewN m) (fun iv _ => n' - (intOf iv).toNat)
  case atStart => exact ⟨0, 0, Nat.zero_le _, rfl, rfl⟩
  case round =>
    obtain ⟨k, m, hk, rfl, rfl⟩ := hrel
    by_cases hlt : k < n'
    · obtain ⟨g1, o1, rfl, h1, d1⟩ := cInt_at R1.out k hlt
      obtain ⟨g2, o2, rfl, h2, d2⟩ := cInt_at R2.out k hlt
      obtain ⟨x, hx⟩ : ∃ x, L.getD k default = x := ⟨_, rfl⟩
      rw [hx] at d1 d2
      clear hx h1 h2
      go_wp2
      go_quiet (fail)
      go_wp2
      go_roundw
      case rel => exact ⟨k + 1, _, by omega, by go_num, rfl⟩
      case measure => (simp [intOf]; try omega)
    · obtain rfl : k = n' := by omega
      go_wp2
      go_ret
      exact ⟨rfl, below_drewsN (Below.refl _ _) _⟩
end Go.Proofs.Ytmkchilhnmkhkab
namespace Go.Proofs.Ytmkchilhnmkhkab
open Go.RowKit Go.Proofs.Ytmkchilhnmkhkab.Parts Go.Proofs.Ytmkchilhnmkhkab.Hexa

set_option maxRecDepth 100000 in
set_option maxHeartbeats 1000000 in
theorem eqRec_st (x : RecR) (w : World) (_ : szL (cRec.cels x) ≤ 100000000) :
    Calls Try.prog 64 #[.agg #[.int .i64 x.f0, .int .i64 x.f1, .string x.f2], .agg #[.int .i64 x.f0, .int .i64 x.f1, .string x.f2]] w fun e w' => e = .returned (.bool true) ∧ Below w.heap.size w w' := by
  go_enter Try.func64, Try.ntmps64
  go_wp2
  go_ret
  exact ⟨rfl, ((Below.refl _ _).alloc (Nat.le_refl _) _).alloc (by simp) _⟩

end Go.Proofs.Ytmkchilhnmkhkab
namespace Go.Proofs.Ytmkchilhnmkhkab
open Go.RowKit Go.Proofs.Ytmkchilhnmkhkab.Parts Go.Proofs.Ytmkchilhnmkhkab.Hexa

set_option maxRecDepth 100000 in
set_option maxHeartbeats 1000000 in
theorem eqRecS_any (v v2 : Value) (L : List RecR) (w : World) (s1 : (celRow cRec L).Rd w v) (s2 : (celRow cRec L).Rd w v2) (hz : (celRow cRec L).sz ≤ 100000000) :
    Calls Try.prog 51 #[v, v2] w fun e w' => e = .returned (.bool true) ∧ Below w.heap.size w w' := by
  obtain ⟨a, n, c, rfl, hn⟩ := row_form s1
  obtain ⟨a', n', c', rfl, hn'⟩ := row_form s2
  obtain rfl : n' = n := by rw [← hn, ← hn']
  have R1 := Lib.hid s1
  have R2 := Lib.hid s2
  have hz' : n' + szL (celsE cRec L) ≤ 100000000 := by rw [← hn]; exact hz
  have hn1 : n' ≤ 100000000 := by omega
  have HZ : Hid (szL (celsE cRec L) ≤ 100000000) := Lib.hid (by omega)
  have HN := Lib.hid hn
  clear s1 s2 hz hz' hn hn'
  go_enter Try.func51, Try.ntmps51
  go_wp2
  go_loopw [5] (fun iv wr => ∃ k : Nat, k ≤ n' ∧ iv = .int .i64 k ∧ Below w.heap.size w wr) (fun iv _ => n' - (intOf iv).toNat)
  case atStart => exact ⟨0, Nat.zero_le _, rfl, Below.refl _ _⟩
  case round =>
    obtain ⟨k, hk, rfl, hbel⟩ := hrel
    by_cases hlt : k < n'
    · have HX : Hid (szL (cRec.cels (L.getD k default)) ≤ 100000000) := Lib.hid (Nat.le_trans (szL_at cRec L k (by rw [HN.out]; exact hlt)) HZ.out)
      obtain ⟨g, off, rfl, hg, d0, d1, d2⟩ := cRec_at (Cel.Rd.later hbel _ _ R1.out) k hlt
      obtain ⟨g2, off2, rfl, hg2, m0, m1, m2⟩ := cRec_at (Cel.Rd.later hbel _ _ R2.out) k hlt
      obtain ⟨x, hx⟩ : ∃ x, L.getD k default = x := ⟨_, rfl⟩
      rw [hx] at d0 d1 d2 m0 m1 m2   HX
      clear hx

      go_wp2
      go_region_with (go_at_call 64; refine (eqRec_st x _ HX.out).mono ?_; rintro e w1 ⟨rfl, hb1⟩)
      all_goals
        have hb2 : Below w.heap.size w w1 := hbel.drew.trans (hb1.mono hbel.size)
        clear d0 d1 d2 m0 m1 m2   hb1
        go_wp2
        go_roundw
        case rel => exact ⟨k + 1, by omega, by go_num, hb2⟩
        case measure => (simp [intOf]; try omega)
    · obtain rfl : k = n' := by omega
      go_wp2
      go_ret
      exact ⟨rfl, hbel⟩

end Go.Proofs.Ytmkchilhnmkhkab
namespace Go.Proofs.Ytmkchilhnmkhkab
open Go.RowKit Go.Proofs.Ytmkchilhnmkhkab.Parts Go.Proofs.Ytmkchilhnmkhkab.Hexa

set_option maxRecDepth 100000 in
set_option maxHeartbeats 1000000 in
theorem eqEntry_st (x : EntryR) (w : World) (_ : szL (cEntry.cels x) ≤ 100000000) :
    Calls Try.prog 65 #[.agg #[.int .i64 x.f0, .string x.f1], .agg #[.int .i64 x.f0, .string x.f1]] w fun e w' => e = .returned (.bool true) ∧ Below w.heap.size w w' := by
  go_enter Try.func65, Try.ntmps65
  go_wp2
  go_ret
  exact ⟨rfl, ((Below.refl _ _).alloc (Nat.le_refl _) _).alloc (by simp) _⟩

end Go.Proofs.Ytmkchilhnmkhkab
namespace Go.Proofs.Ytmkchilhnmkhkab
open Go.RowKit Go.Proofs.Ytmkchilhnmkhkab.Parts Go.Proofs.Ytmkchilhnmkhkab.Hexa

set_option maxRecDepth 100000 in
set_option maxHeartbeats 1000000 in
theorem eqEntryS_any (v v2 : Value) (L : List EntryR) (w : World) (s1 : (celRow cEntry L).Rd w v) (s2 : (celRow cEntry L).Rd w v2) (hz : (celRow cEntry L).sz ≤ 100000000) :
    Calls Try.prog 52 #[v, v2] w fun e w' => e = .returned (.bool true) ∧ Below w.heap.size w w' := by
  obtain ⟨a, n, c, rfl, hn⟩ := row_form s1
  obtain ⟨a', n', c', rfl, hn'⟩ := row_form s2
  obtain rfl : n' = n := by rw [← hn, ← hn']
  have R1 := Lib.hid s1
  have R2 := Lib.hid s2
  have hz' : n' + szL (celsE cEntry L) ≤ 100000000 := by rw [← hn]; exact hz
  have hn1 : n' ≤ 100000000 := by omega
  have HZ : Hid (szL (celsE cEntry L) ≤ 100000000) := Lib.hid (by omega)
  have HN := Lib.hid hn
  clear s1 s2 hz hz' hn hn'
  go_enter Try.func52, Try.ntmps52
  go_wp2
  go_loopw [5] (fun iv wr => ∃ k : Nat, k ≤ n' ∧ iv = .int .i64 k ∧ Below w.heap.size w wr) (fun iv _ => n' - (intOf iv).toNat)
  case atStart => exact ⟨0, Nat.zero_le _, rfl, Below.refl _ _⟩
  case round =>
    obtain ⟨k, hk, rfl, hbel⟩ := hrel
    by_cases hlt : k < n'
    · have HX : Hid (szL (cEntry.cels (L.getD k default)) ≤ 100000000) := Lib.hid (Nat.le_trans (szL_at cEntry L k (by rw [HN.out]; exact hlt)) HZ.out)
      obtain ⟨g, off, rfl, hg, d0, d1⟩ := cEntry_at (Cel.Rd.later hbel _ _ R1.out) k hlt
      obtain ⟨g2, off2, rfl, hg2, m0, m1⟩ := cEntry_at (Cel.Rd.later hbel _ _ R2.out) k hlt
      obtain ⟨x, hx⟩ : ∃ x, L.getD k default = x := ⟨_, rfl⟩
      rw [hx] at d0 d1 m0 m1   HX
      clear hx

      go_wp2
      go_region_with (go_at_call 65; refine (eqEntry_st x _ HX.out).mono ?_; rintro e w1 ⟨rfl, hb1⟩)
      all_goals
        have hb2 : Below w.heap.size w w1 := hbel.drew.trans (hb1.mono hbel.size)
        clear d0 d1 m0 m1   hb1
        go_wp2
        go_roundw
        case rel => exact ⟨k + 1, by omega, by go_num, hb2⟩
        case measure => (simp [intOf]; try omega)
    · obtain rfl : k = n' := by omega
      go_wp2
      go_ret
      exact ⟨rfl, hbel⟩

end Go.Proofs.Ytmkchilhnmkhkab
namespace Go.Proofs.Ytmkchilhnmkhkab
open Go.RowKit Go.Proofs.Ytmkchilhnmkhkab.Parts Go.Proofs.Ytmkchilhnmkhkab.Hexa

set_option maxRecDepth 100000 in
set_option maxHeartbeats 1000000 in
theorem eqIno_st (x : InoR) (a4 : Option Addr) (c4 : Nat) (a5 : Option Addr) (c5 : Nat) (b4 : Option Addr) (s4 : Nat) (b5 : Option Addr) (s5 : Nat) (w : World) (h4 : (celRow cRec x.R).Rd w (.slice a4 x.R.length c4)) (h5 : (celRow cEntry x.E).Rd w (.slice a5 x.E.length c5)) (k4 : (celRow cRec x.R).Rd w (.slice b4 x.R.length s4)) (k5 : (celRow cEntry x.E).Rd w (.slice b5 x.E.length s5)) (hz : szL (cIno.cels x) ≤ 100000000) :
    Calls Try.prog 37 #[.agg #[.int .i64 x.kd, .int .i64 x.sz, .int .i64 x.gn, .string x.key, .slice a4 x.R.length c4, .slice a5 x.E.length c5], .agg #[.int .i64 x.kd, .int .i64 x.sz, .int .i64 x.gn, .string x.key, .slice b4 x.R.length s4, .slice b5 x.E.length s5]] w fun e w' => e = .returned (.bool true) ∧ Below w.heap.size w w' := by
  rw [cIno_sz] at hz
  have hb1 := below_bk w (.cells #[.int .i64 x.kd, .int .i64 x.sz, .int .i64 x.gn, .string x.key, .slice a4 x.R.length c4, .slice a5 x.E.length c5] 54)
  have hb2 := below_bk (w.alloc (.cells #[.int .i64 x.kd, .int .i64 x.sz, .int .i64 x.gn, .string x.key, .slice a4 x.R.length c4, .slice a5 x.E.length c5] 54)) (.cells #[.int .i64 x.kd, .int .i64 x.sz, .int .i64 x.gn, .string x.key, .slice b4 x.R.length s4, .slice b5 x.E.length s5] 54)
  have T0 := Lib.hid ((Bk.alloc w #[.int .i64 x.kd, .int .i64 x.sz, .int .i64 x.gn, .string x.key, .slice a4 x.R.length c4, .slice a5 x.E.length c5] 54).later hb2)
  have U0 : Hid (Bk ((w.alloc (.cells #[.int .i64 x.kd, .int .i64 x.sz, .int .i64 x.gn, .string x.key, .slice a4 x.R.length c4, .slice a5 x.E.length c5] 54)).alloc (.cells #[.int .i64 x.kd, .int .i64 x.sz, .int .i64 x.gn, .string x.key, .slice b4 x.R.length s4, .slice b5 x.E.length s5] 54)) (w.heap.size + 1) #[.int .i64 x.kd, .int .i64 x.sz, .int .i64 x.gn, .string x.key, .slice b4 x.R.length s4, .slice b5 x.E.length s5] 54) := Lib.hid (by
    have h := Bk.alloc (w.alloc (.cells #[.int .i64 x.kd, .int .i64 x.sz, .int .i64 x.gn, .string x.key, .slice a4 x.R.length c4, .slice a5 x.E.length c5] 54)) #[.int .i64 x.kd, .int .i64 x.sz, .int .i64 x.gn, .string x.key, .slice b4 x.R.length s4, .slice b5 x.E.length s5] 54
    simpa using h)
  have B0 : Hid (Below w.heap.size w ((w.alloc (.cells #[.int .i64 x.kd, .int .i64 x.sz, .int .i64 x.gn, .string x.key, .slice a4 x.R.length c4, .slice a5 x.E.length c5] 54)).alloc (.cells #[.int .i64 x.kd, .int .i64 x.sz, .int .i64 x.gn, .string x.key, .slice b4 x.R.length s4, .slice b5 x.E.length s5] 54))) := Lib.hid (hb1.trans (hb2.mono hb1.size))
  have HS4 := Lib.hid h4
  have HU4 := Lib.hid k4
  have HS5 := Lib.hid h5
  have HU5 := Lib.hid k5
  clear hb1 hb2 h4 k4 h5 k5
  go_enter Try.func37, Try.ntmps37
  go_wp2_with fail
  refine (eqRecS_any _ _ x.R _ (Cel.Rd.later B0.out _ _ HS4.out) (Cel.Rd.later B0.out _ _ HU4.out) (by omega)).mono ?_
  rintro e w1 ⟨rfl, hb⟩
  have T1 := Lib.hid (T0.out.later hb)
  have U1 := Lib.hid (U0.out.later hb)
  have B1 : Hid (Below w.heap.size w w1) := Lib.hid (B0.out.trans (hb.mono B0.out.size))
  have x1_5 := T1.out.cell (j := 5) rfl
  have y1_5 := U1.out.cell (j := 5) rfl
  clear hb
  go_wp2_with fail
  refine (eqEntryS_any _ _ x.E _ (Cel.Rd.later B1.out _ _ HS5.out) (Cel.Rd.later B1.out _ _ HU5.out) (by omega)).mono ?_
  rintro e w2 ⟨rfl, hb⟩
  have T2 := Lib.hid (T1.out.later hb)
  have U2 := Lib.hid (U1.out.later hb)
  have B2 : Hid (Below w.heap.size w w2) := Lib.hid (B1.out.trans (hb.mono B1.out.size))
  clear hb
  go_wp2
  go_ret
  exact ⟨rfl, B2.out⟩

end Go.Proofs.Ytmkchilhnmkhkab
namespace Go.Proofs.Ytmkchilhnmkhkab
open Go.RowKit Go.Proofs.Ytmkchilhnmkhkab.Parts Go.Proofs.Ytmkchilhnmkhkab.Hexa

set_option maxRecDepth 100000 in
set_option maxHeartbeats 1000000 in
theorem eqInoS_any (v v2 : Value) (L : List InoR) (w : World) (s1 : (celRow cIno L).Rd w v) (s2 : (celRow cIno L).Rd w v2) (hz : (celRow cIno L).sz ≤ 100000000) :
    Calls Try.prog 20 #[v, v2] w fun e w' => e = .returned (.bool true) ∧ Below w.heap.size w w' := by
  obtain ⟨a, n, c, rfl, hn⟩ := row_form s1
  obtain ⟨a', n', c', rfl, hn'⟩ := row_form s2
  obtain rfl : n' = n := by rw [← hn, ← hn']
  have R1 := Lib.hid s1
  have R2 := Lib.hid s2
  have hz' : n' + szL (celsE cIno L) ≤ 100000000 := by rw [← hn]; exact hz
  have hn1 : n' ≤ 100000000 := by omega
  have HZ : Hid (szL (celsE cIno L) ≤ 100000000) := Lib.hid (by omega)
  have HN := Lib.hid hn
  clear s1 s2 hz hz' hn hn'
  go_enter Try.func20, Try.ntmps20
  go_wp2
  go_loopw [5] (fun iv wr => ∃ k : Nat, k ≤ n' ∧ iv = .int .i64 k ∧ Below w.heap.size w wr) (fun iv _ => n' - (intOf iv).toNat)
  case atStart => exact ⟨0, Nat.zero_le _, rfl, Below.refl _ _⟩
  case round =>
    obtain ⟨k, hk, rfl, hbel⟩ := hrel
    by_cases hlt : k < n'
    · have HX : Hid (szL (cIno.cels (L.getD k default)) ≤ 100000000) := Lib.hid (Nat.le_trans (szL_at cIno L k (by rw [HN.out]; exact hlt)) HZ.out)
      obtain ⟨g, off, a4, c4, a5, c5, rfl, hg, d0, d1, d2, d3, d4, d5, r4, r5⟩ := cIno_at (Cel.Rd.later hbel _ _ R1.out) k hlt
      obtain ⟨g2, off2, a4q, c4q, a5q, c5q, rfl, hg2, m0, m1, m2, m3, m4, m5, u4, u5⟩ := cIno_at (Cel.Rd.later hbel _ _ R2.out) k hlt
      obtain ⟨x, hx⟩ : ∃ x, L.getD k default = x := ⟨_, rfl⟩
      rw [hx] at d0 d1 d2 d3 d4 d5 m0 m1 m2 m3 m4 m5 r4 r5 u4 u5 HX
      clear hx
      have r4 := Cel.Rd.drew r4
      have u4 := Cel.Rd.drew u4
      have r5 := Cel.Rd.drew r5
      have u5 := Cel.Rd.drew u5
      go_wp2
      go_region_with (go_at_call 37; refine (eqIno_st x a4 c4 a5 c5 a4q c4q a5q c5q _ r4 r5 u4 u5 HX.out).mono ?_; rintro e w1 ⟨rfl, hb1⟩)
      all_goals
        have hb2 : Below w.heap.size w w1 := hbel.drew.trans (hb1.mono hbel.size)
        clear d0 d1 d2 d3 d4 d5 m0 m1 m2 m3 m4 m5 r4 r5 u4 u5 hb1
        go_wp2
        go_roundw
        case rel => exact ⟨k + 1, by omega, by go_num, hb2⟩
        case measure => (simp [intOf]; try omega)
    · obtain rfl : k = n' := by omega
      go_wp2
      go_ret
      exact ⟨rfl, hbel⟩

end Go.Proofs.Ytmkchilhnmkhkab
namespace Go.Proofs.Ytmkchilhnmkhkab
open Go.RowKit Go.Proofs.Ytmkchilhnmkhkab.Parts Go.Proofs.Ytmkchilhnmkhkab.Hexa

set_option maxRecDepth 100000 in
set_option maxHeartbeats 1000000 in
theorem eqPart_st (x : PartR) (a1 : Option Addr) (c1 : Nat) (a2 : Option Addr) (c2 : Nat) (b1 : Option Addr) (s1 : Nat) (b2 : Option Addr) (s2 : Nat) (w : World) (h1 : (celRow cInt x.st).Rd w (.slice a1 x.st.length c1)) (h2 : (celRow cIno x.ino).Rd w (.slice a2 x.ino.length c2)) (k1 : (celRow cInt x.st).Rd w (.slice b1 x.st.length s1)) (k2 : (celRow cIno x.ino).Rd w (.slice b2 x.ino.length s2)) (hz : szL (cPart.cels x) ≤ 100000000) :
    Calls Try.prog 9 #[.agg #[.int .i64 x.ser, .slice a1 x.st.length c1, .slice a2 x.ino.length c2], .agg #[.int .i64 x.ser, .slice b1 x.st.length s1, .slice b2 x.ino.length s2]] w fun e w' => e = .returned (.bool true) ∧ Below w.heap.size w w' := by
  rw [cPart_sz] at hz
  have hb1 := below_bk w (.cells #[.int .i64 x.ser, .slice a1 x.st.length c1, .slice a2 x.ino.length c2] 30)
  have hb2 := below_bk (w.alloc (.cells #[.int .i64 x.ser, .slice a1 x.st.length c1, .slice a2 x.ino.length c2] 30)) (.cells #[.int .i64 x.ser, .slice b1 x.st.length s1, .slice b2 x.ino.length s2] 30)
  have T0 := Lib.hid ((Bk.alloc w #[.int .i64 x.ser, .slice a1 x.st.length c1, .slice a2 x.ino.length c2] 30).later hb2)
  have U0 : Hid (Bk ((w.alloc (.cells #[.int .i64 x.ser, .slice a1 x.st.length c1, .slice a2 x.ino.length c2] 30)).alloc (.cells #[.int .i64 x.ser, .slice b1 x.st.length s1, .slice b2 x.ino.length s2] 30)) (w.heap.size + 1) #[.int .i64 x.ser, .slice b1 x.st.length s1, .slice b2 x.ino.length s2] 30) := Lib.hid (by
    have h := Bk.alloc (w.alloc (.cells #[.int .i64 x.ser, .slice a1 x.st.length c1, .slice a2 x.ino.length c2] 30)) #[.int .i64 x.ser, .slice b1 x.st.length s1, .slice b2 x.ino.length s2] 30
    simpa using h)
  have B0 : Hid (Below w.heap.size w ((w.alloc (.cells #[.int .i64 x.ser, .slice a1 x.st.length c1, .slice a2 x.ino.length c2] 30)).alloc (.cells #[.int .i64 x.ser, .slice b1 x.st.length s1, .slice b2 x.ino.length s2] 30))) := Lib.hid (hb1.trans (hb2.mono hb1.size))
  have HS1 := Lib.hid h1
  have HU1 := Lib.hid k1
  have HS2 := Lib.hid h2
  have HU2 := Lib.hid k2
  clear hb1 hb2 h1 k1 h2 k2
  go_enter Try.func9, Try.ntmps9
  go_wp2_with fail
  refine (eqIntS_any _ _ x.st _ (Cel.Rd.later B0.out _ _ HS1.out) (Cel.Rd.later B0.out _ _ HU1.out) (by omega)).mono ?_
  rintro e w1 ⟨rfl, hb⟩
  have T1 := Lib.hid (T0.out.later hb)
  have U1 := Lib.hid (U0.out.later hb)
  have B1 : Hid (Below w.heap.size w w1) := Lib.hid (B0.out.trans (hb.mono B0.out.size))
  have x1_2 := T1.out.cell (j := 2) rfl
  have y1_2 := U1.out.cell (j := 2) rfl
  clear hb
  go_wp2_with fail
  refine (eqInoS_any _ _ x.ino _ (Cel.Rd.later B1.out _ _ HS2.out) (Cel.Rd.later B1.out _ _ HU2.out) (by omega)).mono ?_
  rintro e w2 ⟨rfl, hb⟩
  have T2 := Lib.hid (T1.out.later hb)
  have U2 := Lib.hid (U1.out.later hb)
  have B2 : Hid (Below w.heap.size w w2) := Lib.hid (B1.out.trans (hb.mono B1.out.size))
  clear hb
  go_wp2
  go_ret
  exact ⟨rfl, B2.out⟩

end Go.Proofs.Ytmkchilhnmkhkab
namespace Go.Proofs.Ytmkchilhnmkhkab
open Go.RowKit Go.Proofs.Ytmkchilhnmkhkab.Parts Go.Proofs.Ytmkchilhnmkhkab.Hexa

theorem ret_i64m {a b : Int} (h : a = b) : Ending.returned (.int .i64 a) = .returned (.int .i64 b) := by rw [h]
end Go.Proofs.Ytmkchilhnmkhkab
namespace Go.Proofs.Ytmkchilhnmkhkab

def dirE (n : InoR) : List EntryR := if n.kd = 2 then n.E else []
def entsOf (L : List InoR) : List EntryR := L.flatMap dirE
def cntI (M : List EntryR) (i : Int) : Nat := M.countP (fun e => e.f0 == i)
def hasI (M : List EntryR) (i : Int) : Bool := M.any (fun e => e.f0 == i)
def filR (n : InoR) : List RecR := if n.kd = 1 then n.R else []
def recsOf (L : List InoR) : List RecR := L.flatMap filR
def cntP (M : List RecR) (pg : Int) : Nat := M.countP (fun r => r.f0 == pg + 1)

theorem take_next {α : Type} [Inhabited α] {M : List α} {j : Nat} (hj : j < M.length) : M.take (j + 1) = M.take j ++ [M.getD j default] := by
  rw [List.take_succ_eq_append_getElem hj]
  simp [List.getD, hj]
theorem entsOf_next {L : List InoR} {k : Nat} (hk : k < L.length) : entsOf (L.take (k + 1)) = entsOf (L.take k) ++ dirE (L.getD k default) := by
  unfold entsOf
  rw [take_next hk, List.flatMap_append, List.flatMap_singleton]
theorem recsOf_next {L : List InoR} {k : Nat} (hk : k < L.length) : recsOf (L.take (k + 1)) = recsOf (L.take k) ++ filR (L.getD k default) := by
  unfold recsOf
  rw [take_next hk, List.flatMap_append, List.flatMap_singleton]
theorem cntI_append (A B : List EntryR) (i : Int) : cntI (A ++ B) i = cntI A i + cntI B i := List.countP_append
theorem cntP_append (A B : List RecR) (i : Int) : cntP (A ++ B) i = cntP A i + cntP B i := List.countP_append
theorem cntI_nil (i : Int) : cntI [] i = 0 := rfl
theorem cntP_nil (i : Int) : cntP [] i = 0 := rfl
theorem cntI_yes {M : List EntryR} {j : Nat} {i : Int} (hj : j < M.length) (h : (M.getD j default).f0 = i) : cntI (M.take (j + 1)) i = cntI (M.take j) i + 1 := by
  rw [take_next hj, cntI_append]
  generalize M.getD j default = e at h ⊢
  simp [cntI, h]
theorem cntI_no {M : List EntryR} {j : Nat} {i : Int} (hj : j < M.length) (h : ¬ (M.getD j default).f0 = i) : cntI (M.take (j + 1)) i = cntI (M.take j) i := by
  rw [take_next hj, cntI_append]
  generalize M.getD j default = e at h ⊢
  simp [cntI, h]
theorem cntP_yes {M : List RecR} {j : Nat} {i : Int} (hj : j < M.length) (h : (M.getD j default).f0 = i + 1) : cntP (M.take (j + 1)) i = cntP (M.take j) i + 1 := by
  rw [take_next hj, cntP_append]
  generalize M.getD j default = e at h ⊢
  simp [cntP, h]
theorem cntP_no {M : List RecR} {j : Nat} {i : Int} (hj : j < M.length) (h : ¬ (M.getD j default).f0 = i + 1) : cntP (M.take (j + 1)) i = cntP (M.take j) i := by
  rw [take_next hj, cntP_append]
  generalize M.getD j default = e at h ⊢
  simp [cntP, h]
theorem cntI_le (M : List EntryR) (i : Int) : cntI M i ≤ M.length := List.countP_le_length
theorem cntP_le (M : List RecR) (i : Int) : cntP M i ≤ M.length := List.countP_le_length
theorem hasI_next {M : List EntryR} {j : Nat} {i : Int} (hj : j < M.length) : hasI (M.take (j + 1)) i = (hasI (M.take j) i || ((M.getD j default).f0 == i)) := by
  rw [take_next hj]
  simp [hasI]
theorem hasI_take {M : List EntryR} {j : Nat} {i : Int} (h : hasI (M.take j) i = true) : hasI M i = true := by
  rw [← List.take_append_drop j M]
  unfold hasI at h ⊢
  rw [List.any_append, h]
  rfl
theorem sz_row {α : Type} (E : EncC α) (L : List α) : (celRow E L).sz = L.length + szL (celsE E L) := rfl
theorem len_sz {α : Type} (E : EncC α) (L : List α) : L.length ≤ (celRow E L).sz := by rw [sz_row]; omega
theorem ents_len : ∀ L : List InoR, (entsOf L).length ≤ szL (celsE cIno L)
  | [] => Nat.zero_le _
  | n :: r => by
    have h1 := ents_len r
    have h2 := len_sz cEntry n.E
    have h3 := cIno_sz n
    unfold entsOf at h1 ⊢
    rw [List.flatMap_cons, List.length_append, celsE, szL_append, h3]
    have h4 : (dirE n).length ≤ n.E.length := by unfold dirE; split <;> simp
    omega
theorem recs_len : ∀ L : List InoR, (recsOf L).length ≤ szL (celsE cIno L)
  | [] => Nat.zero_le _
  | n :: r => by
    have h1 := recs_len r
    have h2 := len_sz cRec n.R
    have h3 := cIno_sz n
    unfold recsOf at h1 ⊢
    rw [List.flatMap_cons, List.length_append, celsE, szL_append, h3]
    have h4 : (filR n).length ≤ n.R.length := by unfold filR; split <;> simp
    omega
theorem ents_take (L : List InoR) (k : Nat) : (entsOf (L.take k)).length ≤ szL (celsE cIno L) := Nat.le_trans (ents_len _) (szL_take cIno L k)
theorem recs_take (L : List InoR) (k : Nat) : (recsOf (L.take k)).length ≤ szL (celsE cIno L) := Nat.le_trans (recs_len _) (szL_take cIno L k)

/-- The first directory with an entry of inode i, from number k on. -/
def aboveGo : List InoR → Int → Nat → Int
  | [], _, _ => -1
  | n :: r, i, k => if hasI (dirE n) i = true then (k : Int) else aboveGo r i (k + 1)
def aboveZ (L : List InoR) (i : Int) : Int := aboveGo L i 0
theorem aboveGo_none : ∀ (L : List InoR) (i : Int) (k : Nat), (∀ j, j < L.length → hasI (dirE (L.getD j default)) i = false) → aboveGo L i k = -1
  | [], _, _, _ => rfl
  | n :: r, i, k, h => by
    have h0 := h 0 (by simp)
    simp only [List.getD_cons_zero] at h0
    rw [aboveGo, h0, if_neg (by simp), aboveGo_none r i (k + 1) (fun j hj => by have := h (j + 1) (by simpa using hj); simpa using this)]
theorem aboveGo_some : ∀ (L : List InoR) (i : Int) (k q : Nat), q < L.length → (∀ j, j < q → hasI (dirE (L.getD j default)) i = false) → hasI (dirE (L.getD q default)) i = true → aboveGo L i k = ((k + q : Nat) : Int)
  | n :: r, i, k, 0, _, _, h1 => by
    simp only [List.getD_cons_zero] at h1
    rw [aboveGo, if_pos h1, Nat.add_zero]
  | n :: r, i, k, q + 1, hq, h, h1 => by
    have h0 := h 0 (by omega)
    simp only [List.getD_cons_zero] at h0
    rw [aboveGo, h0, if_neg (by simp), aboveGo_some r i (k + 1) q (by simpa using hq) (fun j hj => by have := h (j + 1) (by omega); simpa using this) (by simpa using h1)]
    congr 1
    omega
theorem above_none {L : List InoR} {i : Int} (h : ∀ j, j < L.length → hasI (dirE (L.getD j default)) i = false) : aboveZ L i = -1 := aboveGo_none L i 0 h
theorem above_some {L : List InoR} {i : Int} {q : Nat} (hq : q < L.length) (h : ∀ j, j < q → hasI (dirE (L.getD j default)) i = false) (h1 : hasI (dirE (L.getD q default)) i = true) : aboveZ L i = (q : Int) := by
  have := aboveGo_some L i 0 q hq h h1
  rw [Nat.zero_add] at this
  exact this
theorem above_cases (L : List InoR) (i : Int) : aboveZ L i = -1 ∨ ∃ q, q < L.length ∧ aboveZ L i = (q : Int) := by
  have key : ∀ (L : List InoR) (k : Nat), aboveGo L i k = -1 ∨ ∃ q, q < L.length ∧ aboveGo L i k = ((k + q : Nat) : Int) := by
    intro L
    induction L with
    | nil => intro k; exact .inl rfl
    | cons n r ih =>
      intro k
      by_cases h : hasI (dirE n) i = true
      · exact .inr ⟨0, by simp, by rw [aboveGo, if_pos h, Nat.add_zero]⟩
      · rcases ih (k + 1) with h1 | ⟨q, h1, h2⟩
        · exact .inl (by rw [aboveGo, if_neg h, h1])
        · exact .inr ⟨q + 1, by simpa using h1, by rw [aboveGo, if_neg h, h2]; congr 1; omega⟩
  rcases key L 0 with h | ⟨q, h1, h2⟩
  · exact .inl h
  · exact .inr ⟨q, h1, by rw [Nat.zero_add] at h2; exact h2⟩
/-- The way up, at most f steps from here, n of them gone. -/
def depthGo (L : List InoR) : Nat → Nat → Int → Int
  | 0, _, _ => -1
  | f + 1, n, i => if i = 0 then (n : Int) else if aboveZ L i < 0 then -1 else depthGo L f (n + 1) (aboveZ L i)
def depthZ (L : List InoR) (i : Int) : Int := depthGo L (L.length + 1) 0 i
theorem dirE_no {n : InoR} (h : ¬ n.kd = 2) : dirE n = [] := if_neg h
theorem dirE_yes {n : InoR} (h : n.kd = 2) : dirE n = n.E := if_pos h
theorem filR_no {n : InoR} (h : ¬ n.kd = 1) : filR n = [] := if_neg h
theorem filR_yes {n : InoR} (h : n.kd = 1) : filR n = n.R := if_pos h
end Go.Proofs.Ytmkchilhnmkhkab
namespace Go.Proofs.Ytmkchilhnmkhkab
open Go.RowKit
def SaysB (b : Bool) (w : World) (e : Ending) (w' : World) : Prop := e = .returned (.bool b) ∧ Below w.heap.size w w'
end Go.Proofs.Ytmkchilhnmkhkab
namespace Go.Proofs.Ytmkchilhnmkhkab
open Go.RowKit

/-- A block of four cells. -/
def Four (w : World) (b : Nat) (T P I Q : Int) (t : TypeId) : Prop := w.heap[b]? = some (.cells #[.int .i64 T, .int .i64 P, .int .i64 I, .int .i64 Q] t (0, 0))
theorem Four.lt {w : World} {b : Nat} {T P I Q : Int} {t : TypeId} (h : Four w b T P I Q t) : b < w.heap.size := (Array.getElem?_eq_some_iff.1 h).1
theorem Four.later {w w' : World} {b : Nat} {T P I Q : Int} {t : TypeId} (h : Four w b T P I Q t) (hb : Below w.heap.size w w') : Four w' b T P I Q t := (hb.block b h.lt).trans h
theorem Four.alloc (w : World) (T P I Q : Int) (t : TypeId) : Four (w.alloc (.cells #[.int .i64 T, .int .i64 P, .int .i64 I, .int .i64 Q] t)) w.heap.size T P I Q t := heap_alloc_new w _
theorem Four.c0 {w : World} {b : Nat} {T P I Q : Int} {t : TypeId} (h : Four w b T P I Q t) : w.cell? ⟨b, 0, none⟩ = some (.int .i64 T) := by unfold Four at h; simp [World.cell?, h]
theorem Four.c1 {w : World} {b : Nat} {T P I Q : Int} {t : TypeId} (h : Four w b T P I Q t) : w.cell? ⟨b, 1, none⟩ = some (.int .i64 P) := by unfold Four at h; simp [World.cell?, h]
theorem Four.c2 {w : World} {b : Nat} {T P I Q : Int} {t : TypeId} (h : Four w b T P I Q t) : w.cell? ⟨b, 2, none⟩ = some (.int .i64 I) := by unfold Four at h; simp [World.cell?, h]
theorem Four.c3 {w : World} {b : Nat} {T P I Q : Int} {t : TypeId} (h : Four w b T P I Q t) : w.cell? ⟨b, 3, none⟩ = some (.int .i64 Q) := by unfold Four at h; simp [World.cell?, h]
theorem Four.fr {w : World} {b o : Nat} {T P I Q : Int} {t : TypeId} (h : Four w b T P I Q t) : w.frozen? ⟨b, o, none⟩ = false := by unfold Four at h; simp [World.frozen?, h]
theorem Four.drew {w : World} {b : Nat} {T P I Q : Int} {t : TypeId} (h : Four w b T P I Q t) : Four w.drew b T P I Q t := h
theorem Four.setOther' {w : World} {b c o : Nat} {T P I Q : Int} {t : TypeId} {v : Value} (h : Four w b T P I Q t) (hne : b ≠ c) : Four (w.setCell ⟨c, o, none⟩ v) b T P I Q t := (Below.heap_setCell _ _ _ _ hne).trans h
theorem below_al (w : World) (o : Obj) : Below w.heap.size w (w.alloc o) := (Below.refl _ _).alloc (Nat.le_refl _) _

/-- Whether a layout is valid. -/
def GeoR (T P I Q : Int) : Prop := 1 ≤ T ∧ T ≤ 3 ∧ 5 ≤ P ∧ P ≤ 12 ∧ 2 ≤ I ∧ I ≤ 6 ∧ 1 ≤ Q ∧ Q ≤ P - 4
instance (T P I Q : Int) : Decidable (GeoR T P I Q) := by unfold GeoR; infer_instance
def SaysI (n : Int) (w : World) (e : Ending) (w' : World) : Prop := e = .returned (.int .i64 n) ∧ Below w.heap.size w w'
theorem geo_cases {T P I Q : Int} (h : ¬ GeoR T P I Q) : (¬ (1 ≤ T ∧ T ≤ 3)) ∨ ((1 ≤ T ∧ T ≤ 3) ∧ ¬ (5 ≤ P ∧ P ≤ 12)) ∨ ((1 ≤ T ∧ T ≤ 3) ∧ (5 ≤ P ∧ P ≤ 12) ∧ ¬ (2 ≤ I ∧ I ≤ 6)) ∨ ((1 ≤ T ∧ T ≤ 3) ∧ (5 ≤ P ∧ P ≤ 12) ∧ (2 ≤ I ∧ I ≤ 6) ∧ ¬ (1 ≤ Q ∧ Q ≤ P - 4)) := by
  unfold GeoR at h; omega
theorem within_cases (n a b : Int) : (a ≤ n ∧ n ≤ b) ∨ n < a ∨ (a ≤ n ∧ b < n) := by omega

/-- The words of a part. -/
def wordsOf (P I : Int) : Int := 38 + 8 * I + 4 * P
end Go.Proofs.Ytmkchilhnmkhkab
namespace Go.Proofs.Ytmkchilhnmkhkab
open Go.RowKit Go.Proofs.Ytmkchilhnmkhkab.Parts Go.Proofs.Ytmkchilhnmkhkab.Hexa

set_option maxRecDepth 100000 in
set_option maxHeartbeats 2000000 in
theorem specLinks_any (p : PartR) (a1 : Option Addr) (c1 : Nat) (a2 : Option Addr) (c2 : Nat) (i : Int) (w : World) (h2 : (celRow cIno p.ino).Rd w (.slice a2 p.ino.length c2)) (hz : szL (cPart.cels p) ≤ 100000000) :
    Calls Try.prog 24 #[.agg #[.int .i64 p.ser, .slice a1 p.st.length c1, .slice a2 p.ino.length c2], .int .i64 i] w (SaysI (cntI (entsOf p.ino) i : Nat) w) := by
  have B0 := Lib.hid (below_bk w (.cells #[.int .i64 p.ser, .slice a1 p.st.length c1, .slice a2 p.ino.length c2] 30))
  have T0 := Lib.hid (Bk.alloc w #[.int .i64 p.ser, .slice a1 p.st.length c1, .slice a2 p.ino.length c2] 30)
  have HS := Lib.hid (Cel.Rd.later B0.out _ _ h2)
  rw [cPart_sz] at hz
  have hz1 : p.ino.length + szL (celsE cIno p.ino) ≤ 100000000 := by have := sz_row cIno p.ino; omega
  have HE : Hid (∀ k, (entsOf (p.ino.take k)).length ≤ 100000000) := Lib.hid (fun k => by have := ents_take p.ino k; omega)
  have hn : p.ino.length ≤ 100000000 := by omega
  have HY : Hid (∀ k, k < p.ino.length → (p.ino.getD k default).E.length ≤ 100000000) := Lib.hid (fun k hk => by
    have h3 := szL_at cIno p.ino k hk
    rw [cIno_sz] at h3
    have := len_sz cEntry (p.ino.getD k default).E
    omega)
  clear h2 hz hz1
  obtain ⟨W0, hW0⟩ : ∃ x, x = w.alloc (.cells #[.int .i64 p.ser, .slice a1 p.st.length c1, .slice a2 p.ino.length c2] 30) := ⟨_, rfl⟩
  rw [← hW0] at B0 T0 HS
  have HW0 := Lib.hid hW0
  clear hW0
  have c2' := T0.out.cell (j := 2) rfl
  go_enter Try.func24, Try.ntmps24
  go_wp2
  rw [← HW0.out]
  go_loopw [5, 6] (fun nv kv wr => ∃ (k m : Nat), k ≤ p.ino.length ∧ kv = .int .i64 k ∧ nv = .int .i64 (m : Int) ∧ m ≤ 100000000 ∧ Hid (m = cntI (entsOf (p.ino.take k)) i) ∧ W0 = wr) (fun _ kv _ => p.ino.length - (intOf kv).toNat)
  case atStart => exact ⟨0, 0, Nat.zero_le _, rfl, rfl, by omega, Lib.hid rfl, rfl⟩
  case round =>
    obtain ⟨k, m, hk, rfl, rfl, hm, HM, rfl⟩ := hrel
    by_cases hlt : k < p.ino.length
    · have HE1 := Lib.hid (HE.out (k + 1))
      have HN := Lib.hid (entsOf_next hlt)
      have hy := HY.out k hlt
      obtain ⟨g, off, a4, c4, a5, c5, rfl, hg, d0, d1, d2, d3, d4, d5, r4, r5⟩ := cIno_at HS.out k hlt
      obtain ⟨x, hx⟩ : ∃ x, p.ino.getD k default = x := ⟨_, rfl⟩
      rw [hx] at d0 d5 r5 HN hy
      clear hx d1 d2 d3 d4 r4
      have R5 := Lib.hid r5
      clear r5
      go_wp2
      go_loopw [5, 7] (fun nv jv wr => ∃ (j m' : Nat), j ≤ x.E.length ∧ jv = .int .i64 j ∧ nv = .int .i64 (m' : Int) ∧ m' ≤ 100000000 ∧ Hid (m' = m + cntI (x.E.take j) i) ∧ (x.kd = 2 ∨ j = 0) ∧ W0 = wr) (fun _ jv _ => x.E.length - (intOf jv).toNat)
      case atStart => exact ⟨0, m, Nat.zero_le _, rfl, rfl, hm, Lib.hid rfl, .inr rfl, rfl⟩
      case round =>
        obtain ⟨j, m', hj, rfl, rfl, hm', HM', hor, rfl⟩ := hrel
        by_cases hjt : j < x.E.length
        · by_cases hkd : x.kd = 2
          · rw [hkd] at d0
            obtain ⟨ge, oe, rfl, hge, q0, q1⟩ := cEntry_at R5.out j hjt
            obtain ⟨ev, hev⟩ : ∃ e, (x.E.getD j default).f0 = e := ⟨_, rfl⟩
            rw [hev] at q0
            clear q1
            by_cases hq : ev = i
            · have HC := Lib.hid (cntI_yes hjt (hev.trans hq))
              clear hev
              have hm9 : m' + 1 ≤ 100000000 := by
                have h1 := HM'.out
                have h2 := HC.out
                have h3 := HE1.out
                rw [HN.out, dirE_yes hkd, List.length_append] at h3
                have h4 := HM.out
                have h5 := cntI_le (entsOf (p.ino.take k)) i
                have h6 := cntI_le (x.E.take (j + 1)) i
                have h7 : (x.E.take (j + 1)).length ≤ x.E.length := by rw [List.length_take]; omega
                omega
              go_wp2
              go_roundw
              case rel => exact ⟨j + 1, m' + 1, by omega, by go_num, by go_num, hm9, Lib.hid (by have := HM'.out; have := HC.out; omega), by simp [hkd], by first | rfl | trivial⟩
              case measure => (simp [intOf]; try omega)
            · have HC := Lib.hid (cntI_no hjt (fun e => hq (hev.symm.trans e)))
              clear hev
              go_wp2
              go_roundw
              case rel => exact ⟨j + 1, m', by omega, by go_num, rfl, hm', Lib.hid (by have := HM'.out; have := HC.out; omega), by simp [hkd], by first | rfl | trivial⟩
              case measure => (simp [intOf]; try omega)
          · obtain rfl : j = 0 := by
              rcases hor with h | h
              · exact absurd h hkd
              · exact h
            have HM2 : Hid (m' = cntI (entsOf (p.ino.take (k + 1))) i) := Lib.hid (by
              rw [HN.out, dirE_no hkd, List.append_nil, HM'.out, ← HM.out]; rfl)
            go_wp2
            go_roundw
            case rel => exact ⟨k + 1, m', by omega, by go_num, rfl, hm', HM2, by first | rfl | trivial⟩
            case measure => (simp [intOf]; try omega)
        · obtain rfl : j = x.E.length := by omega
          have HM2 : Hid (m' = cntI (entsOf (p.ino.take (k + 1))) i) := Lib.hid (by
            rw [HN.out, cntI_append, ← HM.out, HM'.out, List.take_length]
            rcases hor with h | h
            · rw [dirE_yes h]
            · have h9 : x.E = [] := List.length_eq_zero_iff.1 h
              by_cases hkd : x.kd = 2
              · rw [dirE_yes hkd]
              · rw [dirE_no hkd, h9])
          go_wp2
          go_roundw
          case rel => exact ⟨k + 1, m', by omega, by go_num, rfl, hm', HM2, by first | rfl | trivial⟩
          case measure => (simp [intOf]; try omega)
    · obtain rfl : k = p.ino.length := by omega
      have h9 := HM.out
      rw [List.take_length] at h9
      subst h9
      go_wp2
      go_ret
      exact ⟨rfl, B0.out⟩
end Go.Proofs.Ytmkchilhnmkhkab
namespace Go.Proofs.Ytmkchilhnmkhkab
open Go.RowKit Go.Proofs.Ytmkchilhnmkhkab.Parts Go.Proofs.Ytmkchilhnmkhkab.Hexa

set_option maxRecDepth 100000 in
set_option maxHeartbeats 2000000 in
theorem specAbove_any (p : PartR) (a1 : Option Addr) (c1 : Nat) (a2 : Option Addr) (c2 : Nat) (i : Int) (w : World) (h2 : (celRow cIno p.ino).Rd w (.slice a2 p.ino.length c2)) (hz : szL (cPart.cels p) ≤ 100000000) :
    Calls Try.prog 15 #[.agg #[.int .i64 p.ser, .slice a1 p.st.length c1, .slice a2 p.ino.length c2], .int .i64 i] w (SaysI (aboveZ p.ino i) w) := by
  have B0 := Lib.hid (below_bk w (.cells #[.int .i64 p.ser, .slice a1 p.st.length c1, .slice a2 p.ino.length c2] 30))
  have T0 := Lib.hid (Bk.alloc w #[.int .i64 p.ser, .slice a1 p.st.length c1, .slice a2 p.ino.length c2] 30)
  have HS := Lib.hid (Cel.Rd.later B0.out _ _ h2)
  rw [cPart_sz] at hz
  have hz1 : p.ino.length + szL (celsE cIno p.ino) ≤ 100000000 := by have := sz_row cIno p.ino; omega
  have HE : Hid (∀ k, (entsOf (p.ino.take k)).length ≤ 100000000) := Lib.hid (fun k => by have := ents_take p.ino k; omega)
  have hn : p.ino.length ≤ 100000000 := by omega
  have HY : Hid (∀ k, k < p.ino.length → (p.ino.getD k default).E.length ≤ 100000000) := Lib.hid (fun k hk => by
    have h3 := szL_at cIno p.ino k hk
    rw [cIno_sz] at h3
    have := len_sz cEntry (p.ino.getD k default).E
    omega)
  clear h2 hz hz1
  obtain ⟨W0, hW0⟩ : ∃ x, x = w.alloc (.cells #[.int .i64 p.ser, .slice a1 p.st.length c1, .slice a2 p.ino.length c2] 30) := ⟨_, rfl⟩
  rw [← hW0] at B0 T0 HS
  have HW0 := Lib.hid hW0
  clear hW0
  have c2' := T0.out.cell (j := 2) rfl
  go_enter Try.func15, Try.ntmps15
  go_wp2
  rw [← HW0.out]
  go_loopw [5] (fun kv wr => ∃ (k : Nat), k ≤ p.ino.length ∧ kv = .int .i64 k ∧ Hid (∀ j, j < k → hasI (dirE (p.ino.getD j default)) i = false) ∧ W0 = wr) (fun kv _ => p.ino.length - (intOf kv).toNat)
  case atStart => exact ⟨0, Nat.zero_le _, rfl, Lib.hid (fun j hj => by omega), rfl⟩
  case round =>
    obtain ⟨k, hk, rfl, HM, rfl⟩ := hrel
    by_cases hlt : k < p.ino.length
    · have hy := HY.out k hlt
      have HA : Hid (hasI (dirE (p.ino.getD k default)) i = true → aboveZ p.ino i = (k : Int)) := Lib.hid (fun h => above_some hlt HM.out h)
      have HB : Hid (hasI (dirE (p.ino.getD k default)) i = false → ∀ j, j < k + 1 → hasI (dirE (p.ino.getD j default)) i = false) := Lib.hid (fun h j hj => by
        by_cases e : j = k
        · rw [e]; exact h
        · exact HM.out j (by omega))
      obtain ⟨g, off, a4, c4, a5, c5, rfl, hg, d0, d1, d2, d3, d4, d5, r4, r5⟩ := cIno_at HS.out k hlt
      obtain ⟨x, hx⟩ : ∃ x, p.ino.getD k default = x := ⟨_, rfl⟩
      rw [hx] at d0 d5 r5 hy HA HB
      clear hx d1 d2 d3 d4 r4
      have R5 := Lib.hid r5
      clear r5
      go_wp2
      go_loopw [6] (fun jv wr => ∃ (j : Nat), j ≤ x.E.length ∧ jv = .int .i64 j ∧ Hid (hasI (x.E.take j) i = false) ∧ (x.kd = 2 ∨ j = 0) ∧ W0 = wr) (fun jv _ => x.E.length - (intOf jv).toNat)
      case atStart => exact ⟨0, Nat.zero_le _, rfl, Lib.hid rfl, .inr rfl, rfl⟩
      case round =>
        obtain ⟨j, hj, rfl, HM', hor, rfl⟩ := hrel
        by_cases hjt : j < x.E.length
        · by_cases hkd : x.kd = 2
          · rw [hkd] at d0
            obtain ⟨ge, oe, rfl, hge, q0, q1⟩ := cEntry_at R5.out j hjt
            have HN := Lib.hid (hasI_next (i := i) hjt)
            obtain ⟨ev, hev⟩ : ∃ e, (x.E.getD j default).f0 = e := ⟨_, rfl⟩
            rw [hev] at q0 HN
            clear q1 hev
            by_cases hq : ev = i
            · have HC : Hid (aboveZ p.ino i = (k : Int)) := Lib.hid (HA.out (by rw [dirE_yes hkd]; exact hasI_take (j := j + 1) (by rw [HN.out, hq]; simp)))
              go_wp2
              go_ret
              exact ⟨ret_i64m HC.out.symm, B0.out⟩
            · have HC : Hid (hasI (x.E.take (j + 1)) i = false) := Lib.hid (by rw [HN.out, HM'.out]; simpa using hq)
              go_wp2
              go_roundw
              case rel => exact ⟨j + 1, by omega, by go_num, HC, by simp [hkd], by first | rfl | trivial⟩
              case measure => (simp [intOf]; try omega)
          · have HC := Lib.hid (HB.out (by rw [dirE_no hkd]; rfl))
            go_wp2
            go_roundw
            case rel => exact ⟨k + 1, by omega, by go_num, HC, by first | rfl | trivial⟩
            case measure => (simp [intOf]; try omega)
        · obtain rfl : j = x.E.length := by omega
          have HC := Lib.hid (HB.out (by
            have h9 := HM'.out
            rw [List.take_length] at h9
            by_cases hkd : x.kd = 2
            · rw [dirE_yes hkd]; exact h9
            · rw [dirE_no hkd]; rfl))
          go_wp2
          go_roundw
          case rel => exact ⟨k + 1, by omega, by go_num, HC, by first | rfl | trivial⟩
          case measure => (simp [intOf]; try omega)
    · obtain rfl : k = p.ino.length := by omega
      have HC := Lib.hid (above_none HM.out)
      go_wp2
      go_ret
      exact ⟨ret_i64m HC.out.symm, B0.out⟩

set_option maxRecDepth 100000 in
set_option maxHeartbeats 2000000 in
theorem specDepth_any (p : PartR) (a1 : Option Addr) (c1 : Nat) (a2 : Option Addr) (c2 : Nat) (i : Int) (w : World) (h2 : (celRow cIno p.ino).Rd w (.slice a2 p.ino.length c2)) (hz : szL (cPart.cels p) ≤ 100000000) :
    Calls Try.prog 6 #[.agg #[.int .i64 p.ser, .slice a1 p.st.length c1, .slice a2 p.ino.length c2], .int .i64 i] w (SaysI (depthZ p.ino i) w) := by
  have B0 := Lib.hid (below_bk w (.cells #[.int .i64 p.ser, .slice a1 p.st.length c1, .slice a2 p.ino.length c2] 30))
  have T0 := Lib.hid (Bk.alloc w #[.int .i64 p.ser, .slice a1 p.st.length c1, .slice a2 p.ino.length c2] 30)
  have HS := Lib.hid h2
  have HZ := Lib.hid hz
  rw [cPart_sz] at hz
  have hn : p.ino.length ≤ 100000000 := by have := sz_row cIno p.ino; omega
  clear h2 hz
  obtain ⟨d, hd⟩ : ∃ d, depthZ p.ino i = d := ⟨_, rfl⟩
  rw [hd]
  have HD : Hid (depthGo p.ino (p.ino.length + 1) 0 i = d) := Lib.hid hd
  clear hd
  go_enter Try.func6, Try.ntmps6
  go_wp2
  go_loopw [1, 5] (fun iv nv wr => ∃ (n : Nat) (z : Int), n ≤ p.ino.length + 1 ∧ nv = .int .i64 n ∧ iv = .int .i64 z ∧ Hid (depthGo p.ino (p.ino.length + 1 - n) n z = d) ∧ Below w.heap.size w wr ∧ Hid (Bk wr w.heap.size #[.int .i64 p.ser, .slice a1 p.st.length c1, .slice a2 p.ino.length c2] 30)) (fun _ nv _ => p.ino.length + 1 - (intOf nv).toNat)
  case atStart => exact ⟨0, i, Nat.zero_le _, rfl, rfl, HD, B0.out, T0⟩
  case round =>
    clear HD T0
    obtain ⟨n, z, hnn, rfl, rfl, HG, hbel, HT⟩ := hrel
    have t0 := HT.out.cell (j := 0) rfl
    have t1 := HT.out.cell (j := 1) rfl
    have t2 := HT.out.cell (j := 2) rfl
    by_cases hlt : n ≤ p.ino.length
    · have HG2 : Hid ((if z = 0 then (n : Int) else if aboveZ p.ino z < 0 then -1 else depthGo p.ino (p.ino.length + 1 - (n + 1)) (n + 1) (aboveZ p.ino z)) = d) := Lib.hid (by
        have h9 := HG.out
        rw [show p.ino.length + 1 - n = (p.ino.length + 1 - (n + 1)) + 1 by omega, depthGo] at h9
        exact h9)
      clear HG
      by_cases hz0 : z = 0
      · have HE : Hid ((n : Int) = d) := Lib.hid (by have h9 := HG2.out; rw [if_pos hz0] at h9; exact h9)
        subst hz0
        go_wp2
        go_ret
        exact ⟨ret_i64m HE.out, hbel⟩
      · go_wp2_with fail
        refine (specAbove_any p a1 c1 a2 c2 z _ (Cel.Rd.later hbel _ _ HS.out) HZ.out).mono ?_
        rintro e w1 ⟨rfl, hb⟩
        have HT1 := Lib.hid (HT.out.later hb)
        have hb2 : Below w.heap.size w w1 := hbel.trans (hb.mono hbel.size)
        obtain ⟨q, hq⟩ : ∃ q, aboveZ p.ino z = q := ⟨_, rfl⟩
        have HG3 := HG2.out
        rw [if_neg hz0, hq] at HG3
        rw [hq]
        have HG4 := Lib.hid HG3
        clear HG3 hb hq HG2 t0 t1 t2
        by_cases hq0 : q < 0
        · have HE : Hid (-1 = d) := Lib.hid (by have h9 := HG4.out; rw [if_pos hq0] at h9; exact h9)
          go_wp2
          go_ret
          exact ⟨ret_i64m HE.out, hb2⟩
        · have HE : Hid (depthGo p.ino (p.ino.length + 1 - (n + 1)) (n + 1) q = d) := Lib.hid (by have h9 := HG4.out; rw [if_neg hq0] at h9; exact h9)
          go_wp2
          go_roundw
          case rel => exact ⟨n + 1, q, by omega, by go_num, rfl, HE, hb2, HT1⟩
          case measure => (simp [intOf]; try omega)
    · obtain rfl : n = p.ino.length + 1 := by omega
      have HE : Hid (-1 = d) := Lib.hid (by have h9 := HG.out; rw [Nat.sub_self] at h9; exact h9)
      go_wp2
      go_ret
      exact ⟨ret_i64m HE.out, hbel⟩
end Go.Proofs.Ytmkchilhnmkhkab
namespace Go.Proofs.Ytmkchilhnmkhkab

/-- The name in the first entry of inode i. -/
def nameIn (M : List EntryR) (i : Int) : ByteArray := ((M.find? (fun e => e.f0 == i)).getD default).f1
theorem nameIn_at : ∀ {M : List EntryR} {i : Int} {j : Nat}, j < M.length → hasI (M.take j) i = false → (M.getD j default).f0 = i → nameIn M i = (M.getD j default).f1
  | e :: r, i, 0, _, _, h1 => by
    simp only [List.getD_cons_zero] at h1 ⊢
    unfold nameIn
    rw [List.find?_cons, show (e.f0 == i) = true by simpa using h1]
    rfl
  | e :: r, i, j + 1, hj, h, h1 => by
    unfold hasI at h
    rw [List.take_succ_cons, List.any_cons, Bool.or_eq_false_iff] at h
    have ih := nameIn_at (M := r) (i := i) (j := j) (by simpa using hj) h.2 (by simpa using h1)
    have h2 : nameIn (e :: r) i = nameIn r i := by
      unfold nameIn
      rw [List.find?_cons, h.1]
    rw [h2, ih]
    simp
end Go.Proofs.Ytmkchilhnmkhkab
namespace Go.Proofs.Ytmkchilhnmkhkab
open Go.RowKit Go.Proofs.Ytmkchilhnmkhkab.Parts Go.Proofs.Ytmkchilhnmkhkab.Hexa

/-- What linkTo tells. -/
def SaysLink (L : List InoR) (i : Int) (w : World) (e : Ending) (w' : World) : Prop :=
  ((aboveZ L i = -1 ∧ e = .returned (.tuple #[.int .i64 0, .string ⟨#[]⟩, .bool false])) ∨ ∃ q : Nat, q < L.length ∧ aboveZ L i = (q : Int) ∧ e = .returned (.tuple #[.int .i64 q, .string (nameIn (L.getD q default).E i), .bool true])) ∧ Below w.heap.size w w'
set_option maxRecDepth 100000 in
set_option maxHeartbeats 2000000 in
theorem implLink_any (p : PartR) (a1 : Option Addr) (c1 : Nat) (a2 : Option Addr) (c2 : Nat) (i : Int) (w : World) (h2 : (celRow cIno p.ino).Rd w (.slice a2 p.ino.length c2)) (hz : szL (cPart.cels p) ≤ 100000000) :
    Calls Try.prog 18 #[.agg #[.int .i64 p.ser, .slice a1 p.st.length c1, .slice a2 p.ino.length c2], .int .i64 i] w (SaysLink p.ino i w) := by
  have B0 := Lib.hid (below_bk w (.cells #[.int .i64 p.ser, .slice a1 p.st.length c1, .slice a2 p.ino.length c2] 30))
  have T0 := Lib.hid (Bk.alloc w #[.int .i64 p.ser, .slice a1 p.st.length c1, .slice a2 p.ino.length c2] 30)
  have HS := Lib.hid h2
  rw [cPart_sz] at hz
  have hn : p.ino.length ≤ 100000000 := by have := sz_row cIno p.ino; omega
  have HY : Hid (∀ k, k < p.ino.length → (p.ino.getD k default).E.length ≤ 100000000) := Lib.hid (fun k hk => by
    have h3 := szL_at cIno p.ino k hk
    rw [cIno_sz] at h3
    have := len_sz cEntry (p.ino.getD k default).E
    have := sz_row cIno p.ino
    omega)
  clear h2 hz
  have t2 := T0.out.cell (j := 2) rfl
  go_enter Try.func18, Try.ntmps18
  go_wp2
  clear t2
  go_loopw [14] (fun kv wr => ∃ (k : Nat), k ≤ p.ino.length ∧ kv = .int .i64 k ∧ Hid (∀ j, j < k → hasI (dirE (p.ino.getD j default)) i = false) ∧ Hid (Below w.heap.size w wr)) (fun kv _ => p.ino.length - (intOf kv).toNat)
  case atStart => exact ⟨0, Nat.zero_le _, rfl, Lib.hid (fun j hj => by omega), B0⟩
  case round =>
    clear B0 T0
    obtain ⟨k, hk, rfl, HM, HB0⟩ := hrel
    by_cases hlt : k < p.ino.length
    · have hy := HY.out k hlt
      have HA : Hid (hasI (dirE (p.ino.getD k default)) i = true → aboveZ p.ino i = (k : Int)) := Lib.hid (fun h => above_some hlt HM.out h)
      have HB : Hid (hasI (dirE (p.ino.getD k default)) i = false → ∀ j, j < k + 1 → hasI (dirE (p.ino.getD j default)) i = false) := Lib.hid (fun h j hj => by
        by_cases e : j = k
        · rw [e]; exact h
        · exact HM.out j (by omega))
      obtain ⟨g, off, a4, c4, a5, c5, rfl, hg, d0, d1, d2, d3, d4, d5, r4, r5⟩ := cIno_at (Cel.Rd.later HB0.out _ _ HS.out) k hlt
      obtain ⟨x, hx⟩ : ∃ x, p.ino.getD k default = x := ⟨_, rfl⟩
      rw [hx] at d0 d1 d2 d3 d4 d5 r5 hy HA HB
      have HX := Lib.hid hx
      obtain ⟨kd, hkd0⟩ : ∃ y, x.kd = y := ⟨_, rfl⟩
      rw [hkd0] at d0
      have HK0 := Lib.hid hkd0
      clear hkd0 hx r4
      have hbx := below_bk wr (.cells #[.int .i64 kd, .int .i64 x.sz, .int .i64 x.gn, .string x.key, .slice a4 x.R.length c4, .slice a5 x.E.length c5] 54)
      have T2 := Lib.hid (Bk.alloc wr #[.int .i64 kd, .int .i64 x.sz, .int .i64 x.gn, .string x.key, .slice a4 x.R.length c4, .slice a5 x.E.length c5] 54)
      have R5 := Lib.hid (Cel.Rd.later hbx _ _ r5)
      have B2 : Hid (Below w.heap.size w (wr.alloc (.cells #[.int .i64 kd, .int .i64 x.sz, .int .i64 x.gn, .string x.key, .slice a4 x.R.length c4, .slice a5 x.E.length c5] 54))) := Lib.hid (HB0.out.trans (hbx.mono HB0.out.size))
      clear hbx r5
      have t0 := T2.out.cell (j := 0) rfl
      have t5 := T2.out.cell (j := 5) rfl
      by_cases hkd : kd = 2
      · subst hkd
        have HD : Hid (dirE x = x.E) := Lib.hid (dirE_yes HK0.out)
        go_wp2
        clear t0 t5 d0 d1 d2 d3 d4 d5
        obtain ⟨W2, hW2⟩ : ∃ y, y = wr.alloc (.cells #[.int .i64 2, .int .i64 x.sz, .int .i64 x.gn, .string x.key, .slice a4 x.R.length c4, .slice a5 x.E.length c5] 54) := ⟨_, rfl⟩
        rw [← hW2] at B2 R5 ⊢
        clear hW2 T2
        go_loopw [25] (fun jv wq => ∃ (j : Nat), j ≤ x.E.length ∧ jv = .int .i64 j ∧ Hid (hasI (x.E.take j) i = false) ∧ Hid (Below w.heap.size w wq) ∧ Hid (Below W2.heap.size W2 wq)) (fun jv _ => x.E.length - (intOf jv).toNat)
        case atStart => exact ⟨0, Nat.zero_le _, rfl, Lib.hid rfl, B2, Lib.hid (Below.refl _ _)⟩
        case round =>
          clear HM HB0 B2
          obtain ⟨j, hj, rfl, HM', HB1, HB2⟩ := hrel
          by_cases hjt : j < x.E.length
          · obtain ⟨ge, oe, rfl, hge, q0, q1⟩ := cEntry_at (Cel.Rd.later HB2.out _ _ R5.out) j hjt
            have HN := Lib.hid (hasI_next (i := i) hjt)
            obtain ⟨ev, hev⟩ : ∃ e, x.E.getD j default = e := ⟨_, rfl⟩
            rw [hev] at q0 q1 HN
            have HEV := Lib.hid hev
            clear hev
            have HB3 : Hid (Below w.heap.size w (wr.alloc (.cells #[.int .i64 ev.f0, .string ev.f1] 57))) := Lib.hid (HB1.out.alloc HB1.out.size _)
            have HB4 : Hid (Below W2.heap.size W2 (wr.alloc (.cells #[.int .i64 ev.f0, .string ev.f1] 57))) := Lib.hid (HB2.out.alloc HB2.out.size _)
            by_cases hq : ev.f0 = i
            · have HC : Hid (aboveZ p.ino i = (k : Int)) := Lib.hid (HA.out (by rw [HD.out]; exact hasI_take (j := j + 1) (by rw [HN.out, hq]; simp)))
              have HNm : Hid (nameIn (p.ino.getD k default).E i = ev.f1) := Lib.hid (by rw [HX.out, nameIn_at hjt HM'.out (by rw [HEV.out]; exact hq), HEV.out])
              subst hq
              go_wp2
              go_region
              all_goals
                go_wp2
                refine bodyPost_ret (v := .tuple #[.int .i64 k, .string ev.f1, .bool true]) ?_ rfl ⟨.inr ⟨k, hlt, HC.out, by rw [HNm.out]⟩, by first | exact HB3.out | exact HB3.out.drew⟩
                simp [results, Try.results18, go_sem]
            · have HC : Hid (hasI (x.E.take (j + 1)) i = false) := Lib.hid (by rw [HN.out, HM'.out]; simpa using hq)
              go_wp2
              go_roundw
              case rel => exact ⟨j + 1, by omega, by go_num, HC, HB3, HB4⟩
              case measure => (simp [intOf]; try omega)
          · obtain rfl : j = x.E.length := by omega
            have HC := Lib.hid (HB.out (by have h9 := HM'.out; rw [List.take_length] at h9; rw [HD.out]; exact h9))
            go_wp2
            go_roundw
            case rel => exact ⟨k + 1, by omega, by go_num, HC, HB1⟩
            case measure => (simp [intOf]; try omega)
      · have HC := Lib.hid (HB.out (by rw [dirE_no (by rw [HK0.out]; exact hkd)]; rfl))
        go_wp2
        go_roundw
        case rel => exact ⟨k + 1, by omega, by go_num, HC, B2⟩
        case measure => (simp [intOf]; try omega)
    · obtain rfl : k = p.ino.length := by omega
      have HC := Lib.hid (above_none HM.out)
      go_wp2
      refine bodyPost_ret (v := .tuple #[.int .i64 0, .string ⟨#[]⟩, .bool false]) ?_ rfl ⟨.inl ⟨HC.out, rfl⟩, HB0.out⟩
      simp [results, Try.results18, go_sem]

set_option maxRecDepth 100000 in
set_option maxHeartbeats 2000000 in
theorem implDepth_any (p : PartR) (a1 : Option Addr) (c1 : Nat) (a2 : Option Addr) (c2 : Nat) (i : Int) (w : World) (h2 : (celRow cIno p.ino).Rd w (.slice a2 p.ino.length c2)) (hz : szL (cPart.cels p) ≤ 100000000) :
    Calls Try.prog 8 #[.agg #[.int .i64 p.ser, .slice a1 p.st.length c1, .slice a2 p.ino.length c2], .int .i64 i] w (SaysI (depthZ p.ino i) w) := by
  have B0 := Lib.hid (below_bk w (.cells #[.int .i64 p.ser, .slice a1 p.st.length c1, .slice a2 p.ino.length c2] 30))
  have T0 := Lib.hid (Bk.alloc w #[.int .i64 p.ser, .slice a1 p.st.length c1, .slice a2 p.ino.length c2] 30)
  have HS := Lib.hid h2
  have HZ := Lib.hid hz
  rw [cPart_sz] at hz
  have hn : p.ino.length ≤ 100000000 := by have := sz_row cIno p.ino; omega
  clear h2 hz
  obtain ⟨d, hd⟩ : ∃ d, depthZ p.ino i = d := ⟨_, rfl⟩
  rw [hd]
  have HD : Hid (depthGo p.ino (p.ino.length + 1) 0 i = d) := Lib.hid hd
  clear hd
  have t2 := T0.out.cell (j := 2) rfl
  go_enter Try.func8, Try.ntmps8
  go_wp2
  clear t2
  go_loopw [1, 13] (fun iv nv wr => ∃ (n : Nat) (z : Int), n ≤ p.ino.length + 1 ∧ nv = .int .i64 n ∧ iv = .int .i64 z ∧ Hid (depthGo p.ino (p.ino.length + 1 - n) n z = d) ∧ Below w.heap.size w wr ∧ Hid (Bk wr w.heap.size #[.int .i64 p.ser, .slice a1 p.st.length c1, .slice a2 p.ino.length c2] 30)) (fun _ nv _ => p.ino.length + 1 - (intOf nv).toNat)
  case atStart => exact ⟨0, i, Nat.zero_le _, rfl, rfl, HD, B0.out, T0⟩
  case round =>
    clear HD T0
    obtain ⟨n, z, hnn, rfl, rfl, HG, hbel, HT⟩ := hrel
    have t0 := HT.out.cell (j := 0) rfl
    have t1 := HT.out.cell (j := 1) rfl
    have t2 := HT.out.cell (j := 2) rfl
    by_cases hlt : n < p.ino.length + 1
    · have hd0 : decide ((n : Int) < (p.ino.length : Int) + 1) = true := decide_eq_true (by omega)
      have HG2 : Hid ((if z = 0 then (n : Int) else if aboveZ p.ino z < 0 then -1 else depthGo p.ino (p.ino.length + 1 - (n + 1)) (n + 1) (aboveZ p.ino z)) = d) := Lib.hid (by
        have h9 := HG.out
        rw [show p.ino.length + 1 - n = (p.ino.length + 1 - (n + 1)) + 1 by omega, depthGo] at h9
        exact h9)
      clear HG
      by_cases hz0 : z = 0
      · have HE : Hid ((n : Int) = d) := Lib.hid (by have h9 := HG2.out; rw [if_pos hz0] at h9; exact h9)
        subst hz0
        go_wp2
        go_ret
        exact ⟨ret_i64m HE.out, hbel⟩
      · go_wp2_with fail
        refine (implLink_any p a1 c1 a2 c2 z _ (Cel.Rd.later hbel _ _ HS.out) HZ.out).mono ?_
        rintro e w1 ⟨⟨hq, rfl⟩ | ⟨q, hql, hq, rfl⟩, hb⟩
        · have hb2 : Below w.heap.size w w1 := hbel.trans (hb.mono hbel.size)
          have HE : Hid (-1 = d) := Lib.hid (by have h9 := HG2.out; rw [if_neg hz0, hq, if_pos (by omega)] at h9; exact h9)
          clear hb hq t0 t1 t2
          go_wp2
          go_ret
          exact ⟨ret_i64m HE.out, hb2⟩
        · have hb2 : Below w.heap.size w w1 := hbel.trans (hb.mono hbel.size)
          have HT1 := Lib.hid (HT.out.later hb)
          have HE : Hid (depthGo p.ino (p.ino.length + 1 - (n + 1)) (n + 1) (q : Int) = d) := Lib.hid (by have h9 := HG2.out; rw [if_neg hz0, hq, if_neg (by omega)] at h9; exact h9)
          clear hb hq t0 t1 t2
          go_wp2
          go_roundw
          case rel => exact ⟨n + 1, (q : Int), by omega, by go_num, rfl, HE, hb2, HT1⟩
          case measure => (simp [intOf]; try omega)
    · obtain rfl : n = p.ino.length + 1 := by omega
      have HE : Hid (-1 = d) := Lib.hid (by have h9 := HG.out; rw [Nat.sub_self] at h9; exact h9)
      go_wp2
      go_ret
      exact ⟨ret_i64m HE.out, hbel⟩
end Go.Proofs.Ytmkchilhnmkhkab
namespace Go.Proofs.Ytmkchilhnmkhkab
open Go.RowKit Go.Proofs.Ytmkchilhnmkhkab.Parts Go.Proofs.Ytmkchilhnmkhkab.Hexa Go.Proofs.Ytmkchilhnmkhkab.Byt

set_option maxRecDepth 100000 in
set_option maxHeartbeats 4000000 in
theorem depthOf_law (p : PartR) (a1_p : Option Addr) (c1_p : Nat) (a2_p : Option Addr) (c2_p : Nat) (i : Int) (w : World) (ht_p : TyL (cPart.cels p)) (h1_p : (celRow cInt p.st).Rd w (.slice a1_p p.st.length c1_p)) (h2_p : (celRow cIno p.ino).Rd w (.slice a2_p p.ino.length c2_p)) :
    Calls Try.prog 3 #[.agg #[.int .i64 p.ser, .slice a1_p p.st.length c1_p, .slice a2_p p.ino.length c2_p], .int .i64 i] w fun e w' => e = .returned (.bool true) ∧ Below w.heap.size w w' := by
  have HT_p := Lib.hid ht_p
  clear ht_p
  have HS1_p := Lib.hid h1_p
  clear h1_p
  have HS2_p := Lib.hid h2_p
  clear h2_p
  obtain ⟨rv, hrv⟩ : ∃ d : Int, depthZ p.ino i = d := ⟨_, rfl⟩
  have HRV := Lib.hid hrv
  clear hrv
  have Xp_0 := Lib.hid (Bk.alloc w #[.int .i64 p.ser, .slice a1_p p.st.length c1_p, .slice a2_p p.ino.length c2_p] 25)
  have BW_0 := Lib.hid (below_bk w (.cells #[.int .i64 p.ser, .slice a1_p p.st.length c1_p, .slice a2_p p.ino.length c2_p] 25))
  go_enter Try.func3, Try.ntmps3
  have dp0 := Xp_0.out.cell (j := 0) rfl
  have dp1 := Xp_0.out.cell (j := 1) rfl
  have dp2 := Xp_0.out.cell (j := 2) rfl
  go_wp2_with fail
  obtain ⟨V0, hV⟩ : ∃ y, y = (w.alloc (.cells #[.int .i64 p.ser, .slice a1_p p.st.length c1_p, .slice a2_p p.ino.length c2_p] 25)) := ⟨_, rfl⟩
  clear dp0 dp1 dp2
  rw [← hV] at Xp_0 BW_0 ⊢
  have SZ_V0 : Hid (w.heap.size + 1 ≤ V0.heap.size) := Lib.hid (by rw [hV]; simp)
  clear hV
  refine (szPart_st p a1_p c1_p a2_p c2_p 1048576 _ (by decide) (by decide) (Cel.Rd.later BW_0.out _ _ HS1_p.out) (Cel.Rd.later BW_0.out _ _ HS2_p.out) HT_p.out).mono ?_
  rintro e w1 ⟨l_p, rfl, hr, hb⟩
  have Xp_1 := Lib.hid (Xp_0.out.later hb)
  have BW_1 : Hid (Below w.heap.size w w1) := Lib.hid (BW_0.out.trans (hb.mono BW_0.out.size))
  have SZ_w1 : Hid (V0.heap.size ≤ w1.heap.size) := Lib.hid hb.size
  clear hb Xp_0 BW_0
  rcases hr with hr | ⟨hl0, hl1⟩
  · go_wp2
    go_ret
    exact ⟨rfl, BW_1.out⟩
  have HZ_p : Hid (szL (cPart.cels p) ≤ 1048576) := Lib.hid (by omega)
  have HZB_p : Hid (szL (cPart.cels p) ≤ 100000000) := Lib.hid (by omega)
  have hq_p : ¬ (l_p < 0) := by omega
  have hp_p : l_p ≤ 1048576 := by omega
  clear hl1
  have dp0 := Xp_1.out.cell (j := 0) rfl
  have dp1 := Xp_1.out.cell (j := 1) rfl
  have dp2 := Xp_1.out.cell (j := 2) rfl
  go_wp2_with fail
  clear dp0 dp1 dp2
  refine (toPart_st p a1_p c1_p a2_p c2_p _ (Cel.Rd.later BW_1.out _ _ HS1_p.out) (Cel.Rd.later BW_1.out _ _ HS2_p.out) HZ_p.out).mono ?_
  rintro e w2 ⟨vs, rfl, ho, hb⟩
  have Xp_2 := Lib.hid (Xp_1.out.later hb)
  have BW_2 : Hid (Below w.heap.size w w2) := Lib.hid (BW_1.out.trans (hb.mono BW_1.out.size))
  have SZ_w2 : Hid (w1.heap.size ≤ w2.heap.size) := Lib.hid hb.size
  clear hb Xp_1 BW_1
  obtain ⟨a1_y, c1_y, a2_y, c2_y, rfl, _, _⟩ := cPart_form ho.rd
  have Oy_2x := Lib.hid ho
  clear ho
  have dp0 := Xp_2.out.cell (j := 0) rfl
  have dp1 := Xp_2.out.cell (j := 1) rfl
  have dp2 := Xp_2.out.cell (j := 2) rfl
  go_wp2_with fail
  clear dp0 dp1 dp2
  refine (specDepth_any p a1_y c1_y a2_y c2_y i _ (cPart_un Oy_2x.out.rd).2 HZB_p.out).mono ?_
  rw [HRV.out]
  rintro e w3 ⟨rfl, hb⟩
  have Xp_3 := Lib.hid (Xp_2.out.later hb)
  have Oy_3 := Lib.hid (Oy_2x.out.later hb)
  have BW_3 : Hid (Below w.heap.size w w3) := Lib.hid (BW_2.out.trans (hb.mono BW_2.out.size))
  have SZ_w3 : Hid (w2.heap.size ≤ w3.heap.size) := Lib.hid hb.size
  clear hb Xp_2 Oy_2x BW_2
  clear Oy_3
  have dp0 := Xp_3.out.cell (j := 0) rfl
  have dp1 := Xp_3.out.cell (j := 1) rfl
  have dp2 := Xp_3.out.cell (j := 2) rfl
  go_wp2_with fail
  clear dp0 dp1 dp2
  refine (toPart_st p a1_p c1_p a2_p c2_p _ (Cel.Rd.later BW_3.out _ _ HS1_p.out) (Cel.Rd.later BW_3.out _ _ HS2_p.out) HZ_p.out).mono ?_
  rintro e w4 ⟨vs, rfl, ho, hb⟩
  have Xp_4 := Lib.hid (Xp_3.out.later hb)
  have BW_4 : Hid (Below w.heap.size w w4) := Lib.hid (BW_3.out.trans (hb.mono BW_3.out.size))
  have SZ_w4 : Hid (w3.heap.size ≤ w4.heap.size) := Lib.hid hb.size
  clear hb Xp_3 BW_3
  obtain ⟨a1_x, c1_x, a2_x, c2_x, rfl, _, _⟩ := cPart_form ho.rd
  have Ox_4x := Lib.hid ho
  clear ho
  have hba := below_bk w4 (.cells #[.int .i64 p.ser, .slice a1_x p.st.length c1_x, .slice a2_x p.ino.length c2_x] 30)
  have Xp_5 := Lib.hid (Xp_4.out.later hba)
  have Ox_5 := Lib.hid (Ox_4x.out.later hba)
  have BW_5 : Hid (Below w.heap.size w (w4.alloc (.cells #[.int .i64 p.ser, .slice a1_x p.st.length c1_x, .slice a2_x p.ino.length c2_x] 30))) := Lib.hid (BW_4.out.trans (hba.mono BW_4.out.size))
  have Xx_5 := Lib.hid (Bk.alloc w4 #[.int .i64 p.ser, .slice a1_x p.st.length c1_x, .slice a2_x p.ino.length c2_x] 30)
  clear hba Xp_4 Ox_4x BW_4
  have dp0 := Xp_5.out.cell (j := 0) rfl
  have dp1 := Xp_5.out.cell (j := 1) rfl
  have dp2 := Xp_5.out.cell (j := 2) rfl
  have dx0 := Xx_5.out.cell (j := 0) rfl
  have dx1 := Xx_5.out.cell (j := 1) rfl
  have dx2 := Xx_5.out.cell (j := 2) rfl
  go_wp2_with fail
  obtain ⟨V4, hV⟩ : ∃ y, y = (w4.alloc (.cells #[.int .i64 p.ser, .slice a1_x p.st.length c1_x, .slice a2_x p.ino.length c2_x] 30)) := ⟨_, rfl⟩
  clear dp0 dp1 dp2 dx0 dx1 dx2
  rw [← hV] at Xp_5 Xx_5 Ox_5 BW_5 ⊢
  have SZ_V4 : Hid (w4.heap.size + 1 ≤ V4.heap.size) := Lib.hid (by rw [hV]; simp)
  clear hV
  refine (implDepth_any p a1_x c1_x a2_x c2_x i _ (cPart_un Ox_5.out.rd).2 HZB_p.out).mono ?_
  rw [HRV.out]
  rintro e w5 ⟨rfl, hb⟩
  have Xp_6 := Lib.hid (Xp_5.out.later hb)
  have Xx_6 := Lib.hid (Xx_5.out.later hb)
  have Ox_6 := Lib.hid (Ox_5.out.later hb)
  have BW_6 : Hid (Below w.heap.size w w5) := Lib.hid (BW_5.out.trans (hb.mono BW_5.out.size))
  have SZ_w5 : Hid (V4.heap.size ≤ w5.heap.size) := Lib.hid hb.size
  clear hb Xp_5 Xx_5 Ox_5 BW_5
  go_wp2
  have XD := Lib.hid Xx_6.out.drew
  have AD := Lib.hid Xp_6.out.drew
  have BD := Lib.hid BW_6.out.drew
  have OD : Hid (Objs w5.drew w3.heap.size w4.heap.size _ _) := Lib.hid (Ox_6.out.later (Below.refl _ _).drew)
  go_region_held3 (fun w' => w'.cell? ⟨w4.heap.size, 0, none⟩ = some (.int .i64 p.ser) ∧ w'.cell? ⟨w4.heap.size, 1, none⟩ = some (.slice a1_x p.st.length c1_x) ∧ w'.cell? ⟨w4.heap.size, 2, none⟩ = some (.slice a2_x p.ino.length c2_x) ∧ w'.cell? ⟨w.heap.size, 0, none⟩ = some (.int .i64 p.ser) ∧ w'.cell? ⟨w.heap.size, 1, none⟩ = some (.slice a1_p p.st.length c1_p) ∧ w'.cell? ⟨w.heap.size, 2, none⟩ = some (.slice a2_p p.ino.length c2_p))
    (first
      | exact ⟨XD.out.cell rfl, XD.out.cell rfl, XD.out.cell rfl, AD.out.cell rfl, AD.out.cell rfl, AD.out.cell rfl⟩
      | exact ⟨XE.out.cell rfl, XE.out.cell rfl, XE.out.cell rfl, AE.out.cell rfl, AE.out.cell rfl, AE.out.cell rfl⟩
      | exact ⟨XF.out.cell rfl, XF.out.cell rfl, XF.out.cell rfl, AF.out.cell rfl, AF.out.cell rfl, AF.out.cell rfl⟩
      | go_keep)
    (first
      | (go_at_call 7; (with_reducible refine (toPart_st p a1_p c1_p a2_p c2_p _ (Cel.Rd.later BD.out _ _ HS1_p.out) (Cel.Rd.later BD.out _ _ HS2_p.out) HZ_p.out).mono ?_); rintro e wa7 ⟨vs, rfl, ho, hb⟩; obtain ⟨a1_z9, c1_z9, a2_z9, c2_z9, rfl, q1, q2⟩ := cPart_form ho.rd; have XE := Lib.hid (XD.out.later hb); have AE := Lib.hid (AD.out.later hb); have OE := Lib.hid (OD.out.later hb); have BE : Hid (Below w.heap.size w wa7) := Lib.hid (BD.out.trans (hb.mono BD.out.size)); have SZ_wa7 : Hid (w5.heap.size ≤ wa7.heap.size) := Lib.hid hb.size; clear hb ho)
      | (go_at_call 9; (with_reducible refine (eqPart_st p a1_x c1_x a2_x c2_x a1_z9 c1_z9 a2_z9 c2_z9 _ (cPart_un OE.out.rd).1 (cPart_un OE.out.rd).2 q1 q2 HZB_p.out).mono ?_); rintro e wb7 ⟨rfl, hb⟩; have XF := Lib.hid (XE.out.later hb); have AF := Lib.hid (AE.out.later hb); have OF := Lib.hid (OE.out.later hb); have BF : Hid (Below w.heap.size w wb7) := Lib.hid (BE.out.trans (hb.mono BE.out.size)); have SZ_wb7 : Hid (wa7.heap.size ≤ wb7.heap.size) := Lib.hid hb.size; clear hb))
  have Xx_7 := XF
  have Xp_7 := AF
  have BW_7 := BF
  have Ox_7 := OF
  clear Xp_6 Xx_6 Ox_6 BW_6 XD XE XF AD AE AF BD BE BF OD OE OF
  go_wp2
  go_ret
  exact ⟨rfl, BW_7.out⟩
end Go.Proofs.Ytmkchilhnmkhkab
namespace Go.Proofs.Ytmkchilhnmkhkab
open Go.Proofs.Ytmkchilhnmkhkab.Byt

def SerR (n : Int) : Prop := 0 ≤ n ∧ n ≤ 16777215
noncomputable def serB (n : Int) : ByteArray := @ite _ (SerR n) (Classical.propDecidable _) (wordB (numTextB n 3)) ⟨#[]⟩
theorem serB_yes {n : Int} (h : SerR n) : serB n = wordB (numTextB n 3) := by unfold serB; rw [if_pos h]
theorem serB_no {n : Int} (h : ¬ SerR n) : serB n = ⟨#[]⟩ := by unfold serB; rw [if_neg h]
end Go.Proofs.Ytmkchilhnmkhkab
namespace Go.Proofs.Ytmkchilhnmkhkab
open Go.RowKit Go.Proofs.Ytmkchilhnmkhkab.Hexa Go.Proofs.Ytmkchilhnmkhkab.Byt Go.Proofs.Ytmkchilhnmkhkab.BitsM

set_option maxRecDepth 100000 in
set_option maxHeartbeats 400000 in
theorem range_any (n a b : Int) (w : World) : Calls Try.prog 22 #[.int .i64 n, .int .i64 a, .int .i64 b] w fun e w' => e = .returned (.bool (decide (a ≤ n ∧ n ≤ b))) ∧ w' = w := by
  by_cases h1 : a ≤ n <;> by_cases h2 : n ≤ b
  all_goals
    go_enter Try.func22, Try.ntmps22
    go_wp2
    all_goals go_ret
    all_goals exact ⟨by simp [h1, h2], rfl⟩
theorem range_yes {n a b : Int} (w : World) (h : a ≤ n ∧ n ≤ b) : Calls Try.prog 22 #[.int .i64 n, .int .i64 a, .int .i64 b] w fun e w' => e = .returned (.bool true) ∧ w' = w :=
  (range_any n a b w).mono fun _ _ ⟨he, hw⟩ => ⟨by rw [he, decide_eq_true h], hw⟩
theorem range_no {n a b : Int} (w : World) (h : ¬ (a ≤ n ∧ n ≤ b)) : Calls Try.prog 22 #[.int .i64 n, .int .i64 a, .int .i64 b] w fun e w' => e = .returned (.bool false) ∧ w' = w :=
  (range_any n a b w).mono fun _ _ ⟨he, hw⟩ => ⟨by rw [he, decide_eq_false h], hw⟩
end Go.Proofs.Ytmkchilhnmkhkab
