/- Merged texts: NewSpec, RangeImpl, GeoI, NewImpl, NewBoth, ToGeo, Drews, TIntQS, TRecQ, TRecQS, TEntryQ, TEntryQS, TInoQ, TInoQS, TPartQ, MarkAt, TIntMS, TRecMS, TEntryMS. -/
import Derived.Test.YtmcelfiljnlmoaaP14B
import Derived.Deep.RegionHeld3
import Derived.Deep.DeepCutAuto
import Derived.Test.YtmcelfiljnlmoaaRows
import Derived.WalkKit
import Derived.WalkSpells
import Derived.RowKit3
import Derived.Lib.Hide
namespace Go.Proofs.Ytmcelfiljnlmoaa
open Go.RowKit Go.Proofs.Ytmcelfiljnlmoaa.Parts Go.Proofs.Ytmcelfiljnlmoaa.Hexa

set_option maxRecDepth 100000 in
set_option maxHeartbeats 2000000 in
theorem specNew_no (T P I Q : Int) (w : World) (h : ¬ GeoR T P I Q) :
    Calls Try.prog 15 #[.agg #[.int .i64 T, .int .i64 P, .int .i64 I, .int .i64 Q]] w (ToPostS (cPart.cels zeroP) w) := by
  have G0 := Lib.hid (Four.alloc w T P I Q 29)
  have H := Lib.hid h
  have hb1 := below_bk (w.alloc (.cells #[.int .i64 T, .int .i64 P, .int .i64 I, .int .i64 Q] 29)) (.cells #[.int .i64 0, .slice none 0 0, .slice none 0 0] 27)
  have G1 := Lib.hid (G0.out.later hb1)
  have R1 : Hid (Bk ((w.alloc (.cells #[.int .i64 T, .int .i64 P, .int .i64 I, .int .i64 Q] 29)).alloc (.cells #[.int .i64 0, .slice none 0 0, .slice none 0 0] 27)) (w.heap.size + 1) #[.int .i64 0, .slice none 0 0, .slice none 0 0] 27) := Lib.hid (by
    have h := Bk.alloc (w.alloc (.cells #[.int .i64 T, .int .i64 P, .int .i64 I, .int .i64 Q] 29)) #[.int .i64 0, .slice none 0 0, .slice none 0 0] 27
    simpa using h)
  have B1 := Lib.hid ((below_bk w (.cells #[.int .i64 T, .int .i64 P, .int .i64 I, .int .i64 Q] 29)).trans (hb1.mono (below_bk w _).size))
  have c0 := G1.out.c0
  have c1 := G1.out.c1
  have c2 := G1.out.c2
  have c3 := G1.out.c3
  clear h hb1 G0
  go_enter Try.func15, Try.ntmps15
  go_wp2_with fail
  refine (specGeo_no T P I Q _ H.out).mono ?_
  rintro e w1 ⟨rfl, hb⟩
  have R2 := Lib.hid (R1.out.later hb)
  have B2 := Lib.hid (B1.out.trans (hb.mono B1.out.size))
  clear hb c0 c1 c2 c3
  have z0 := R2.out.cell (j := 0) rfl
  have z1 := R2.out.cell (j := 1) rfl
  have z2 := R2.out.cell (j := 2) rfl
  have f0 := R2.out.fr (o := 0)
  have f1 := R2.out.fr (o := 1)
  have f2 := R2.out.fr (o := 2)
  have qf := ((R2.out.set 0 (.int .i64 0)).set 1 (.slice none 0 0)).set 2 (.slice none 0 0)
  have q0 := qf.cell (j := 0) rfl
  have q1 := qf.cell (j := 1) rfl
  have q2 := qf.cell (j := 2) rfl
  have BE := ((B2.out.setCell (p := ⟨w.heap.size + 1, 0, none⟩) (by show w.heap.size ≤ w.heap.size + 1; omega) (.int .i64 0)).setCell (p := ⟨w.heap.size + 1, 1, none⟩) (by show w.heap.size ≤ w.heap.size + 1; omega) (.slice none 0 0)).setCell (p := ⟨w.heap.size + 1, 2, none⟩) (by show w.heap.size ≤ w.heap.size + 1; omega) (.slice none 0 0)
  have HBE := Lib.hid BE
  clear qf BE
  go_wp2
  refine bodyPost_ret (v := .agg #[.int .i64 0, .slice none 0 0, .slice none 0 0]) ?_ rfl ⟨_, rfl, ((Objs.cons (mid := w.heap.size) (mid' := w.heap.size) (c := celRow cInt []) ⟨[], List.nodup_nil, fun _ h => (by cases h), own_none _ _ _ _ (Nat.zero_le _)⟩ (Objs.one (c := celRow cIno []) ⟨[], List.nodup_nil, fun _ h => (by cases h), own_none _ _ _ _ (Nat.zero_le _)⟩) (Nat.le_refl _) (Nat.le_refl _) HBE.out.size).val _), HBE.out⟩
  simp [results, Try.results15, go_sem, q0, q1, q2]

set_option maxRecDepth 100000 in
set_option maxHeartbeats 4000000 in
theorem specNew_yes (T P I Q : Int) (w : World) (h : GeoR T P I Q) :
    Calls Try.prog 15 #[.agg #[.int .i64 T, .int .i64 P, .int .i64 I, .int .i64 Q]] w (ToPostS (cPart.cels (newP P.toNat I.toNat)) w) := by
  obtain ⟨i0, hi, hz0, hz1, hz2⟩ := info_parts infoInt
  obtain ⟨j0, hj, hy0, hy1, hy2⟩ := info_parts infoInoD
  have H := Lib.hid h
  obtain ⟨_, _, p1, p2, n1, n2, _, _⟩ := h
  have HP : Hid (5 ≤ P.toNat ∧ P.toNat ≤ 12) := Lib.hid (by omega)
  have HI : Hid (2 ≤ I.toNat ∧ I.toNat ≤ 6) := Lib.hid (by omega)
  have hmS : ∀ W : World, (Instr.makeSlice 24 (.int .i64 P) (.int .i64 P)).run Try.prog W = .ok (.slice (some ⟨W.heap.size, 0, none⟩) P.toNat P.toNat) (W.alloc (.cells (madeCells #[.int .i64 0] P.toNat) 3)) := fun W => by
    have h9 := run_make (P := Try.prog) W 24 3 i0 _ Try.underlying24 hi hz0 .i64 .i64 P P (by omega) (by omega) (by rw [hz2]; omega) (by omega)
    rw [hz1, Nat.mul_one] at h9
    exact h9
  have hmI : ∀ W : World, (Instr.makeSlice 25 (.int .i64 I) (.int .i64 I)).run Try.prog W = .ok (.slice (some ⟨W.heap.size, 0, none⟩) I.toNat I.toNat) (W.alloc (.cells (madeCells #[.int .i64 0, .int .i64 0, .int .i64 0, .string ⟨#[]⟩, .slice none 0 0, .slice none 0 0] (I.toNat * 6)) 59)) := fun W => by
    have h9 := run_make (P := Try.prog) W 25 59 j0 _ Try.underlying25 hj hy0 .i64 .i64 I I (by omega) (by omega) (by rw [hy2]; omega) (by omega)
    rw [hy1] at h9
    exact h9
  have G0 := Lib.hid (Four.alloc w T P I Q 29)
  have hb1 := below_bk (w.alloc (.cells #[.int .i64 T, .int .i64 P, .int .i64 I, .int .i64 Q] 29)) (.cells #[.int .i64 0, .slice none 0 0, .slice none 0 0] 27)
  have G1 := Lib.hid (G0.out.later hb1)
  have R1 : Hid (Bk ((w.alloc (.cells #[.int .i64 T, .int .i64 P, .int .i64 I, .int .i64 Q] 29)).alloc (.cells #[.int .i64 0, .slice none 0 0, .slice none 0 0] 27)) (w.heap.size + 1) #[.int .i64 0, .slice none 0 0, .slice none 0 0] 27) := Lib.hid (by
    have h := Bk.alloc (w.alloc (.cells #[.int .i64 T, .int .i64 P, .int .i64 I, .int .i64 Q] 29)) #[.int .i64 0, .slice none 0 0, .slice none 0 0] 27
    simpa using h)
  have B1 := Lib.hid ((below_bk w (.cells #[.int .i64 T, .int .i64 P, .int .i64 I, .int .i64 Q] 29)).trans (hb1.mono (below_bk w _).size))
  have c0 := G1.out.c0
  have c1 := G1.out.c1
  have c2 := G1.out.c2
  have c3 := G1.out.c3
  clear hb1 G0
  have HmS := Lib.hid hmS
  have HmI := Lib.hid hmI
  clear hmS hmI
  go_enter Try.func15, Try.ntmps15
  go_wp2_with fail
  refine (specGeo_yes T P I Q _ H.out).mono ?_
  rintro e w1 ⟨rfl, hb⟩
  have R2 := Lib.hid (R1.out.later hb).drew
  have G2 := Lib.hid (G1.out.later hb).drew
  have B2 := Lib.hid (B1.out.trans (hb.mono B1.out.size))
  clear hb c0 c1 c2 c3 R1 G1 B1
  have hmS := HmS.out
  have hmI := HmI.out
  have c0 := G2.out.c0
  have c1 := G2.out.c1
  have c2 := G2.out.c2
  have c3 := G2.out.c3
  go_upto_region 3 with fail
  have HW1 : Hid (w.heap.size + 2 ≤ w1.heap.size) := Lib.hid (by have h9 := (Bk.lt R2.out); have h8 : w.heap.size + 1 < w1.heap.size := h9; omega)
  go_cut [3] (fun bv wx => ∃ b gS gI : Nat, bv = .pointer (some ⟨b, 0, none⟩) ∧ NewSt w1 wx b gS gI P.toNat I.toNat)
  case first =>
    go_region_held3 (fun w' => w'.cell? ⟨w.heap.size, 1, none⟩ = some (.int .i64 P) ∧ w'.cell? ⟨w.heap.size, 2, none⟩ = some (.int .i64 I))
      (first
        | exact ⟨c1, c2⟩
        | exact ⟨(G2.out.later (below_bk _ _)).c1, (G2.out.later (below_bk _ _)).c2⟩
        | exact ⟨((G2.out.later (below_bk _ _)).later (below_bk _ _)).c1, ((G2.out.later (below_bk _ _)).later (below_bk _ _)).c2⟩
        | exact ⟨(((G2.out.later (below_bk _ _)).later (below_bk _ _)).later (below_bk _ _)).c1, (((G2.out.later (below_bk _ _)).later (below_bk _ _)).later (below_bk _ _)).c2⟩
        | go_keep)
      (fail)
    · go_wp2
      go_meet
      have HS9 := (((ownE_mono (B' := w1.heap.size) (newS w1 P.toNat HP.out) (by simp; try omega)).alloc (.cells (madeCells #[.int .i64 0, .int .i64 0, .int .i64 0, .string ⟨#[]⟩, .slice none 0 0, .slice none 0 0] (I.toNat * 6)) 59)).alloc (.cells #[.int .i64 0, .slice (some ⟨w1.heap.size, 0, none⟩) P.toNat P.toNat, .slice (some ⟨w1.heap.size + 1, 0, none⟩) I.toNat I.toNat] 27))
      have HI9 := ((ownE_mono (B' := w1.heap.size) (newI (w1.alloc (.cells (madeCells #[.int .i64 0] P.toNat) 3)) I.toNat HI.out) (by simp; try omega)).alloc (.cells #[.int .i64 0, .slice (some ⟨w1.heap.size, 0, none⟩) P.toNat P.toNat, .slice (some ⟨w1.heap.size + 1, 0, none⟩) I.toNat I.toNat] 27))
      have HB9 := (Bk.alloc ((w1.alloc (.cells (madeCells #[.int .i64 0] P.toNat) 3)).alloc (.cells (madeCells #[.int .i64 0, .int .i64 0, .int .i64 0, .string ⟨#[]⟩, .slice none 0 0, .slice none 0 0] (I.toNat * 6)) 59)) #[.int .i64 0, .slice (some ⟨w1.heap.size, 0, none⟩) P.toNat P.toNat, .slice (some ⟨w1.heap.size + 1, 0, none⟩) I.toNat I.toNat] 27)
      simp only [World.size_alloc] at HS9 HI9 HB9
      exact ⟨_, _, _, rfl, HB9.drew, HS9.drew, HI9.drew, by omega, ((((Below.refl w1.heap.size w1).alloc (Nat.le_refl _) _).alloc (by simp) _).alloc (by simp; omega) _).drew⟩
    · go_wp2
      go_meet
      have HS9 := (((ownE_mono (B' := w1.heap.size) (newS w1 P.toNat HP.out) (by simp; try omega)).alloc (.cells #[.int .i64 0, .slice (some ⟨w1.heap.size, 0, none⟩) P.toNat P.toNat, .slice (some ⟨w1.heap.size + 1 + 1, 0, none⟩) I.toNat I.toNat] 27)).alloc (.cells (madeCells #[.int .i64 0, .int .i64 0, .int .i64 0, .string ⟨#[]⟩, .slice none 0 0, .slice none 0 0] (I.toNat * 6)) 59))
      have HI9 := (ownE_mono (B' := w1.heap.size) (newI ((w1.alloc (.cells (madeCells #[.int .i64 0] P.toNat) 3)).alloc (.cells #[.int .i64 0, .slice (some ⟨w1.heap.size, 0, none⟩) P.toNat P.toNat, .slice (some ⟨w1.heap.size + 1 + 1, 0, none⟩) I.toNat I.toNat] 27)) I.toNat HI.out) (by simp; try omega))
      have HB9 := ((Bk.alloc (w1.alloc (.cells (madeCells #[.int .i64 0] P.toNat) 3)) #[.int .i64 0, .slice (some ⟨w1.heap.size, 0, none⟩) P.toNat P.toNat, .slice (some ⟨w1.heap.size + 1 + 1, 0, none⟩) I.toNat I.toNat] 27).later (below_bk _ (.cells (madeCells #[.int .i64 0, .int .i64 0, .int .i64 0, .string ⟨#[]⟩, .slice none 0 0, .slice none 0 0] (I.toNat * 6)) 59)))
      simp only [World.size_alloc] at HS9 HI9 HB9
      exact ⟨_, _, _, rfl, HB9.drew, HS9.drew, HI9.drew, by omega, ((((Below.refl w1.heap.size w1).alloc (Nat.le_refl _) _).alloc (by simp) _).alloc (by simp; omega) _).drew⟩
    · go_wp2
      go_meet
      have HS9 := ((ownE_mono (B' := w1.heap.size) (newS (w1.alloc (.cells (madeCells #[.int .i64 0, .int .i64 0, .int .i64 0, .string ⟨#[]⟩, .slice none 0 0, .slice none 0 0] (I.toNat * 6)) 59)) P.toNat HP.out) (by simp; try omega)).alloc (.cells #[.int .i64 0, .slice (some ⟨w1.heap.size + 1, 0, none⟩) P.toNat P.toNat, .slice (some ⟨w1.heap.size, 0, none⟩) I.toNat I.toNat] 27))
      have HI9 := (((ownE_mono (B' := w1.heap.size) (newI w1 I.toNat HI.out) (by simp; try omega)).alloc (.cells (madeCells #[.int .i64 0] P.toNat) 3)).alloc (.cells #[.int .i64 0, .slice (some ⟨w1.heap.size + 1, 0, none⟩) P.toNat P.toNat, .slice (some ⟨w1.heap.size, 0, none⟩) I.toNat I.toNat] 27))
      have HB9 := (Bk.alloc ((w1.alloc (.cells (madeCells #[.int .i64 0, .int .i64 0, .int .i64 0, .string ⟨#[]⟩, .slice none 0 0, .slice none 0 0] (I.toNat * 6)) 59)).alloc (.cells (madeCells #[.int .i64 0] P.toNat) 3)) #[.int .i64 0, .slice (some ⟨w1.heap.size + 1, 0, none⟩) P.toNat P.toNat, .slice (some ⟨w1.heap.size, 0, none⟩) I.toNat I.toNat] 27)
      simp only [World.size_alloc] at HS9 HI9 HB9
      exact ⟨_, _, _, rfl, HB9.drew, HS9.drew, HI9.drew, by omega, ((((Below.refl w1.heap.size w1).alloc (Nat.le_refl _) _).alloc (by simp) _).alloc (by simp; omega) _).drew⟩
    · go_wp2
      go_meet
      have HS9 := (ownE_mono (B' := w1.heap.size) (newS ((w1.alloc (.cells (madeCells #[.int .i64 0, .int .i64 0, .int .i64 0, .string ⟨#[]⟩, .slice none 0 0, .slice none 0 0] (I.toNat * 6)) 59)).alloc (.cells #[.int .i64 0, .slice (some ⟨w1.heap.size + 1 + 1, 0, none⟩) P.toNat P.toNat, .slice (some ⟨w1.heap.size, 0, none⟩) I.toNat I.toNat] 27)) P.toNat HP.out) (by simp; try omega))
      have HI9 := (((ownE_mono (B' := w1.heap.size) (newI w1 I.toNat HI.out) (by simp; try omega)).alloc (.cells #[.int .i64 0, .slice (some ⟨w1.heap.size + 1 + 1, 0, none⟩) P.toNat P.toNat, .slice (some ⟨w1.heap.size, 0, none⟩) I.toNat I.toNat] 27)).alloc (.cells (madeCells #[.int .i64 0] P.toNat) 3))
      have HB9 := ((Bk.alloc (w1.alloc (.cells (madeCells #[.int .i64 0, .int .i64 0, .int .i64 0, .string ⟨#[]⟩, .slice none 0 0, .slice none 0 0] (I.toNat * 6)) 59)) #[.int .i64 0, .slice (some ⟨w1.heap.size + 1 + 1, 0, none⟩) P.toNat P.toNat, .slice (some ⟨w1.heap.size, 0, none⟩) I.toNat I.toNat] 27).later (below_bk _ (.cells (madeCells #[.int .i64 0] P.toNat) 3)))
      simp only [World.size_alloc] at HS9 HI9 HB9
      exact ⟨_, _, _, rfl, HB9.drew, HS9.drew, HI9.drew, by omega, ((((Below.refl w1.heap.size w1).alloc (Nat.le_refl _) _).alloc (by simp) _).alloc (by simp; omega) _).drew⟩
    · go_wp2
      go_meet
      have HS9 := ((ownE_mono (B' := w1.heap.size) (newS (w1.alloc (.cells #[.int .i64 0, .slice (some ⟨w1.heap.size + 1, 0, none⟩) P.toNat P.toNat, .slice (some ⟨w1.heap.size + 1 + 1, 0, none⟩) I.toNat I.toNat] 27)) P.toNat HP.out) (by simp; try omega)).alloc (.cells (madeCells #[.int .i64 0, .int .i64 0, .int .i64 0, .string ⟨#[]⟩, .slice none 0 0, .slice none 0 0] (I.toNat * 6)) 59))
      have HI9 := (ownE_mono (B' := w1.heap.size) (newI ((w1.alloc (.cells #[.int .i64 0, .slice (some ⟨w1.heap.size + 1, 0, none⟩) P.toNat P.toNat, .slice (some ⟨w1.heap.size + 1 + 1, 0, none⟩) I.toNat I.toNat] 27)).alloc (.cells (madeCells #[.int .i64 0] P.toNat) 3)) I.toNat HI.out) (by simp; try omega))
      have HB9 := (((Bk.alloc w1 #[.int .i64 0, .slice (some ⟨w1.heap.size + 1, 0, none⟩) P.toNat P.toNat, .slice (some ⟨w1.heap.size + 1 + 1, 0, none⟩) I.toNat I.toNat] 27).later (below_bk _ (.cells (madeCells #[.int .i64 0] P.toNat) 3))).later (below_bk _ (.cells (madeCells #[.int .i64 0, .int .i64 0, .int .i64 0, .string ⟨#[]⟩, .slice none 0 0, .slice none 0 0] (I.toNat * 6)) 59)))
      simp only [World.size_alloc] at HS9 HI9 HB9
      exact ⟨_, _, _, rfl, HB9.drew, HS9.drew, HI9.drew, by omega, ((((Below.refl w1.heap.size w1).alloc (Nat.le_refl _) _).alloc (by simp) _).alloc (by simp; omega) _).drew⟩
    · go_wp2
      go_meet
      have HS9 := (ownE_mono (B' := w1.heap.size) (newS ((w1.alloc (.cells #[.int .i64 0, .slice (some ⟨w1.heap.size + 1 + 1, 0, none⟩) P.toNat P.toNat, .slice (some ⟨w1.heap.size + 1, 0, none⟩) I.toNat I.toNat] 27)).alloc (.cells (madeCells #[.int .i64 0, .int .i64 0, .int .i64 0, .string ⟨#[]⟩, .slice none 0 0, .slice none 0 0] (I.toNat * 6)) 59)) P.toNat HP.out) (by simp; try omega))
      have HI9 := ((ownE_mono (B' := w1.heap.size) (newI (w1.alloc (.cells #[.int .i64 0, .slice (some ⟨w1.heap.size + 1 + 1, 0, none⟩) P.toNat P.toNat, .slice (some ⟨w1.heap.size + 1, 0, none⟩) I.toNat I.toNat] 27)) I.toNat HI.out) (by simp; try omega)).alloc (.cells (madeCells #[.int .i64 0] P.toNat) 3))
      have HB9 := (((Bk.alloc w1 #[.int .i64 0, .slice (some ⟨w1.heap.size + 1 + 1, 0, none⟩) P.toNat P.toNat, .slice (some ⟨w1.heap.size + 1, 0, none⟩) I.toNat I.toNat] 27).later (below_bk _ (.cells (madeCells #[.int .i64 0, .int .i64 0, .int .i64 0, .string ⟨#[]⟩, .slice none 0 0, .slice none 0 0] (I.toNat * 6)) 59))).later (below_bk _ (.cells (madeCells #[.int .i64 0] P.toNat) 3)))
      simp only [World.size_alloc] at HS9 HI9 HB9
      exact ⟨_, _, _, rfl, HB9.drew, HS9.drew, HI9.drew, by omega, ((((Below.refl w1.heap.size w1).alloc (Nat.le_refl _) _).alloc (by simp) _).alloc (by simp; omega) _).drew⟩
  case rest =>
    obtain ⟨b, gS, gI, rfl, hst⟩ := hcut
    have HN := Lib.hid hst.ne
    have B3 : Hid (Below w.heap.size w wc) := Lib.hid (B2.out.trans (hst.below.mono (by have := HW1.out; omega)))
    have R3 : Hid (Bk wc (w.heap.size + 1) #[.int .i64 0, .slice none 0 0, .slice none 0 0] 27) := Lib.hid (Bk.later (w := w1) R2.out hst.below)
    have X3 := Lib.hid hst.box
    have S3 := Lib.hid hst.s
    have I3 := Lib.hid hst.i
    have SZ : Hid (w1.heap.size ≤ wc.heap.size) := Lib.hid hst.below.size
    clear hst R2 G2 B2 c0 c1 c2 c3 hmS hmI HmS HmI
    obtain ⟨hne1, hne2, hne3, hne4, hne5, hne6⟩ := HN.out
    have hw1 := HW1.out
    obtain ⟨v0, e0⟩ := ownE_cell I3.out (j := 0) (by have := HI.out; omega)
    have z0 := I3.out.frozenAt 0
    obtain ⟨v1, e1⟩ := ownE_cell I3.out (j := 1) (by have := HI.out; omega)
    have z1 := I3.out.frozenAt 1
    obtain ⟨v2, e2⟩ := ownE_cell I3.out (j := 2) (by have := HI.out; omega)
    have z2 := I3.out.frozenAt 2
    obtain ⟨v3, e3⟩ := ownE_cell I3.out (j := 3) (by have := HI.out; omega)
    have z3 := I3.out.frozenAt 3
    obtain ⟨v4, e4⟩ := ownE_cell I3.out (j := 4) (by have := HI.out; omega)
    have z4 := I3.out.frozenAt 4
    obtain ⟨v5, e5⟩ := ownE_cell I3.out (j := 5) (by have := HI.out; omega)
    have z5 := I3.out.frozenAt 5
    have I4 := Lib.hid (own_sets dirV 0 I3.out)
    have K4 := Lib.hid ((((((((ButE.refl gI wc).then_set 0 (.int .i64 2)).then_set 1 (.int .i64 0)).then_set 2 (.int .i64 1)).then_set 3 (.string ⟨#[]⟩)).then_set 4 (.slice none 0 0)).then_set 5 (.slice none 0 0)))
    have S4 : Hid (((((((wc.setCell ⟨gI, 0, none⟩ (.int .i64 2)).setCell ⟨gI, 1, none⟩ (.int .i64 0)).setCell ⟨gI, 2, none⟩ (.int .i64 1)).setCell ⟨gI, 3, none⟩ (.string ⟨#[]⟩)).setCell ⟨gI, 4, none⟩ (.slice none 0 0)).setCell ⟨gI, 5, none⟩ (.slice none 0 0)).ownsRow w1.heap.size 3 1 (.slice (some ⟨gS, 0, none⟩) P.toNat P.toNat) P.toNat (icells (List.replicate P.toNat 0))) := Lib.hid (ownE_but S3.out K4.out (fun g hg => by have e : gS = g := Option.some.inj hg; omega))
    have X4 : Hid (Bk ((((((wc.setCell ⟨gI, 0, none⟩ (.int .i64 2)).setCell ⟨gI, 1, none⟩ (.int .i64 0)).setCell ⟨gI, 2, none⟩ (.int .i64 1)).setCell ⟨gI, 3, none⟩ (.string ⟨#[]⟩)).setCell ⟨gI, 4, none⟩ (.slice none 0 0)).setCell ⟨gI, 5, none⟩ (.slice none 0 0)) b #[.int .i64 0, .slice (some ⟨gS, 0, none⟩) P.toNat P.toNat, .slice (some ⟨gI, 0, none⟩) I.toNat I.toNat] 27) := Lib.hid ((K4.out.block b (by omega) X3.out.lt).trans X3.out)
    have R4 : Hid (Bk ((((((wc.setCell ⟨gI, 0, none⟩ (.int .i64 2)).setCell ⟨gI, 1, none⟩ (.int .i64 0)).setCell ⟨gI, 2, none⟩ (.int .i64 1)).setCell ⟨gI, 3, none⟩ (.string ⟨#[]⟩)).setCell ⟨gI, 4, none⟩ (.slice none 0 0)).setCell ⟨gI, 5, none⟩ (.slice none 0 0)) (w.heap.size + 1) #[.int .i64 0, .slice none 0 0, .slice none 0 0] 27) := Lib.hid ((K4.out.block (w.heap.size + 1) (by omega) R3.out.lt).trans R3.out)
    have B4 := Lib.hid ((((((B3.out.setCell (p := ⟨gI, 0, none⟩) (by show w.heap.size ≤ gI; omega) (.int .i64 2)).setCell (p := ⟨gI, 1, none⟩) (by show w.heap.size ≤ gI; omega) (.int .i64 0)).setCell (p := ⟨gI, 2, none⟩) (by show w.heap.size ≤ gI; omega) (.int .i64 1)).setCell (p := ⟨gI, 3, none⟩) (by show w.heap.size ≤ gI; omega) (.string ⟨#[]⟩)).setCell (p := ⟨gI, 4, none⟩) (by show w.heap.size ≤ gI; omega) (.slice none 0 0)).setCell (p := ⟨gI, 5, none⟩) (by show w.heap.size ≤ gI; omega) (.slice none 0 0))
    have x2 := X3.out.cell (j := 2) rfl
    have y0 := X4.out.cell (j := 0) rfl
    have y1 := X4.out.cell (j := 1) rfl
    have y2 := X4.out.cell (j := 2) rfl
    have SZ4 : Hid (((((((wc.setCell ⟨gI, 0, none⟩ (.int .i64 2)).setCell ⟨gI, 1, none⟩ (.int .i64 0)).setCell ⟨gI, 2, none⟩ (.int .i64 1)).setCell ⟨gI, 3, none⟩ (.string ⟨#[]⟩)).setCell ⟨gI, 4, none⟩ (.slice none 0 0)).setCell ⟨gI, 5, none⟩ (.slice none 0 0)).heap.size = wc.heap.size) := Lib.hid (by simp [World.setCell])
    have r0 := R4.out.cell (j := 0) rfl
    have f0 := R4.out.fr (o := 0)
    have r1 := R4.out.cell (j := 1) rfl
    have f1 := R4.out.fr (o := 1)
    have r2 := R4.out.cell (j := 2) rfl
    have f2 := R4.out.fr (o := 2)
    have qf := (((R4.out.set 0 (.int .i64 0)).set 1 (.slice (some ⟨gS, 0, none⟩) P.toNat P.toNat)).set 2 (.slice (some ⟨gI, 0, none⟩) I.toNat I.toNat))
    have q0 := qf.cell (j := 0) rfl
    have q1 := qf.cell (j := 1) rfl
    have q2 := qf.cell (j := 2) rfl
    have K5 := Lib.hid (((((ButE.refl (w.heap.size + 1) ((((((wc.setCell ⟨gI, 0, none⟩ (.int .i64 2)).setCell ⟨gI, 1, none⟩ (.int .i64 0)).setCell ⟨gI, 2, none⟩ (.int .i64 1)).setCell ⟨gI, 3, none⟩ (.string ⟨#[]⟩)).setCell ⟨gI, 4, none⟩ (.slice none 0 0)).setCell ⟨gI, 5, none⟩ (.slice none 0 0))).then_set 0 (.int .i64 0)).then_set 1 (.slice (some ⟨gS, 0, none⟩) P.toNat P.toNat)).then_set 2 (.slice (some ⟨gI, 0, none⟩) I.toNat I.toNat)))
    have S5 := Lib.hid (ownE_but S4.out K5.out (fun g hg => by have e : gS = g := Option.some.inj hg; omega))
    have I5 := Lib.hid (ownE_but I4.out K5.out (fun g hg => by have e : gI = g := Option.some.inj hg; omega))
    have B5 := Lib.hid (((B4.out.setCell (p := ⟨w.heap.size + 1, 0, none⟩) (by show w.heap.size ≤ w.heap.size + 1; omega) (.int .i64 0)).setCell (p := ⟨w.heap.size + 1, 1, none⟩) (by show w.heap.size ≤ w.heap.size + 1; omega) (.slice (some ⟨gS, 0, none⟩) P.toNat P.toNat)).setCell (p := ⟨w.heap.size + 1, 2, none⟩) (by show w.heap.size ≤ w.heap.size + 1; omega) (.slice (some ⟨gI, 0, none⟩) I.toNat I.toNat))
    have JS : Hid (Obj1 (((((((((wc.setCell ⟨gI, 0, none⟩ (.int .i64 2)).setCell ⟨gI, 1, none⟩ (.int .i64 0)).setCell ⟨gI, 2, none⟩ (.int .i64 1)).setCell ⟨gI, 3, none⟩ (.string ⟨#[]⟩)).setCell ⟨gI, 4, none⟩ (.slice none 0 0)).setCell ⟨gI, 5, none⟩ (.slice none 0 0)).setCell ⟨w.heap.size + 1, 0, none⟩ (.int .i64 0)).setCell ⟨w.heap.size + 1, 1, none⟩ (.slice (some ⟨gS, 0, none⟩) P.toNat P.toNat)).setCell ⟨w.heap.size + 1, 2, none⟩ (.slice (some ⟨gI, 0, none⟩) I.toNat I.toNat)) gS (gS + 1) (celRow cInt (List.replicate P.toNat 0)) (.slice (some ⟨gS, 0, none⟩) P.toNat P.toNat)) := Lib.hid (by
      have h := obj_of_row (lo := gS) (hi := gS + 1) S5.out (by rw [celsE_length, List.length_replicate]; rfl) (own_ints (List.replicate P.toNat 0)) List.nodup_nil (fun _ hg => by cases hg) (fun g hg => by have e : gS = g := Option.some.inj hg; exact ⟨by simp, by omega, by omega⟩)
      unfold celRow
      rw [List.length_replicate]
      exact h)
    have JI : Hid (Obj1 (((((((((wc.setCell ⟨gI, 0, none⟩ (.int .i64 2)).setCell ⟨gI, 1, none⟩ (.int .i64 0)).setCell ⟨gI, 2, none⟩ (.int .i64 1)).setCell ⟨gI, 3, none⟩ (.string ⟨#[]⟩)).setCell ⟨gI, 4, none⟩ (.slice none 0 0)).setCell ⟨gI, 5, none⟩ (.slice none 0 0)).setCell ⟨w.heap.size + 1, 0, none⟩ (.int .i64 0)).setCell ⟨w.heap.size + 1, 1, none⟩ (.slice (some ⟨gS, 0, none⟩) P.toNat P.toNat)).setCell ⟨w.heap.size + 1, 2, none⟩ (.slice (some ⟨gI, 0, none⟩) I.toNat I.toNat)) gI (gI + 1) (celRow cIno (newP P.toNat I.toNat).ino) (.slice (some ⟨gI, 0, none⟩) I.toNat I.toNat)) := Lib.hid (by
      have hI := HI.out
      have hl : (dirI :: List.replicate (I.toNat - 1) freeI).length = I.toNat := by rw [List.length_cons, List.length_replicate]; omega
      have h5 := I5.out
      rw [setsL_new _ (by omega)] at h5
      have h := obj_of_row (lo := gI) (hi := gI + 1) h5 (cs := celsE cIno (dirI :: List.replicate (I.toNat - 1) freeI)) (by rw [celsE_length, hl]; rfl) (own_newI (I.toNat - 1)) List.nodup_nil (fun _ hg => by cases hg) (fun g hg => by have e : gI = g := Option.some.inj hg; exact ⟨by simp, by omega, by omega⟩)
      unfold celRow
      show Obj1 _ _ _ (.sl _ _ (dirI :: List.replicate (I.toNat - 1) freeI).length _) _
      rw [hl]
      exact h)
    have LS : Hid (gS < (((((((((wc.setCell ⟨gI, 0, none⟩ (.int .i64 2)).setCell ⟨gI, 1, none⟩ (.int .i64 0)).setCell ⟨gI, 2, none⟩ (.int .i64 1)).setCell ⟨gI, 3, none⟩ (.string ⟨#[]⟩)).setCell ⟨gI, 4, none⟩ (.slice none 0 0)).setCell ⟨gI, 5, none⟩ (.slice none 0 0)).setCell ⟨w.heap.size + 1, 0, none⟩ (.int .i64 0)).setCell ⟨w.heap.size + 1, 1, none⟩ (.slice (some ⟨gS, 0, none⟩) P.toNat P.toNat)).setCell ⟨w.heap.size + 1, 2, none⟩ (.slice (some ⟨gI, 0, none⟩) I.toNat I.toNat)).heap.size ∧ gI < (((((((((wc.setCell ⟨gI, 0, none⟩ (.int .i64 2)).setCell ⟨gI, 1, none⟩ (.int .i64 0)).setCell ⟨gI, 2, none⟩ (.int .i64 1)).setCell ⟨gI, 3, none⟩ (.string ⟨#[]⟩)).setCell ⟨gI, 4, none⟩ (.slice none 0 0)).setCell ⟨gI, 5, none⟩ (.slice none 0 0)).setCell ⟨w.heap.size + 1, 0, none⟩ (.int .i64 0)).setCell ⟨w.heap.size + 1, 1, none⟩ (.slice (some ⟨gS, 0, none⟩) P.toNat P.toNat)).setCell ⟨w.heap.size + 1, 2, none⟩ (.slice (some ⟨gI, 0, none⟩) I.toNat I.toNat)).heap.size) := Lib.hid ⟨ownE_lt S5.out, ownE_lt I5.out⟩
    clear qf
    go_wp2
    refine bodyPost_ret (v := .agg #[.int .i64 0, .slice (some ⟨gS, 0, none⟩) P.toNat P.toNat, .slice (some ⟨gI, 0, none⟩) I.toNat I.toNat]) ?_ rfl ⟨_, rfl, ?_, B5.out⟩
    · simp [results, Try.results15, go_sem, q0, q1, q2]
    · refine Objs.val ?_ _
      exact obj_two JS.out JI.out (by omega) ⟨by omega, by have := LS.out; omega⟩ ⟨by omega, by have := LS.out; omega⟩
end Go.Proofs.Ytmcelfiljnlmoaa
namespace Go.Proofs.Ytmcelfiljnlmoaa
open Go.RowKit

set_option maxRecDepth 100000 in
set_option maxHeartbeats 400000 in
theorem implIn_any (n a b : Int) (w : World) : Calls Try.prog 68 #[.int .i64 n, .int .i64 a, .int .i64 b] w fun e w' => e = .returned (.bool (decide (a ≤ n ∧ n ≤ b))) ∧ w' = w := by
  by_cases h1 : a ≤ n <;> by_cases h2 : n ≤ b
  all_goals
    go_enter Try.func68, Try.ntmps68
    go_wp2
    all_goals go_ret
    all_goals exact ⟨by simp [h1, h2], rfl⟩
theorem implIn_yes {n a b : Int} (w : World) (h : a ≤ n ∧ n ≤ b) : Calls Try.prog 68 #[.int .i64 n, .int .i64 a, .int .i64 b] w fun e w' => e = .returned (.bool true) ∧ w' = w :=
  (implIn_any n a b w).mono fun _ _ ⟨he, hw⟩ => ⟨by rw [he, decide_eq_true h], hw⟩
theorem implIn_no {n a b : Int} (w : World) (h : ¬ (a ≤ n ∧ n ≤ b)) : Calls Try.prog 68 #[.int .i64 n, .int .i64 a, .int .i64 b] w fun e w' => e = .returned (.bool false) ∧ w' = w :=
  (implIn_any n a b w).mono fun _ _ ⟨he, hw⟩ => ⟨by rw [he, decide_eq_false h], hw⟩

end Go.Proofs.Ytmcelfiljnlmoaa
namespace Go.Proofs.Ytmcelfiljnlmoaa
open Go.RowKit

set_option maxRecDepth 100000 in
set_option maxHeartbeats 1000000 in
theorem implGeo_yes (T P I Q : Int) (w : World) (h : GeoR T P I Q) : Calls Try.prog 46 #[.agg #[.int .i64 T, .int .i64 P, .int .i64 I, .int .i64 Q]] w (SaysB true w) := by
  obtain ⟨a1, a2, b1, b2, c1, c2, d1, d2⟩ := h
  have H1 : (1 : Int) ≤ T ∧ T ≤ 3 := ⟨a1, a2⟩
  have H2 : (5 : Int) ≤ P ∧ P ≤ 12 := ⟨b1, b2⟩
  have H3 : (2 : Int) ≤ I ∧ I ≤ 6 := ⟨c1, c2⟩
  have H4 : (1 : Int) ≤ Q ∧ Q ≤ P - 4 := ⟨d1, d2⟩
  go_enter Try.func46, Try.ntmps46
  go_wp2_with (first | ((with_reducible refine (implIn_yes _ H1).mono ?_); rintro e w1 ⟨rfl, rfl⟩) | ((with_reducible refine (implIn_yes _ H2).mono ?_); rintro e w1 ⟨rfl, rfl⟩) | ((with_reducible refine (implIn_yes _ H3).mono ?_); rintro e w1 ⟨rfl, rfl⟩) | ((with_reducible refine (implIn_yes _ H4).mono ?_); rintro e w1 ⟨rfl, rfl⟩))
  go_ret
  exact ⟨rfl, below_al w _⟩
set_option maxRecDepth 100000 in
set_option maxHeartbeats 1000000 in
theorem implGeo_no (T P I Q : Int) (w : World) (h : ¬ GeoR T P I Q) : Calls Try.prog 46 #[.agg #[.int .i64 T, .int .i64 P, .int .i64 I, .int .i64 Q]] w (SaysB false w) := by
  rcases geo_cases h with H1 | ⟨H1, H2⟩ | ⟨H1, H2, H3⟩ | ⟨H1, H2, H3, H4⟩
  · go_enter Try.func46, Try.ntmps46
    go_wp2_with ((with_reducible refine (implIn_no _ H1).mono ?_); rintro e w1 ⟨rfl, rfl⟩)
    go_ret
    exact ⟨rfl, below_al w _⟩
  · go_enter Try.func46, Try.ntmps46
    go_wp2_with (first | ((with_reducible refine (implIn_yes _ H1).mono ?_); rintro e w1 ⟨rfl, rfl⟩) | ((with_reducible refine (implIn_no _ H2).mono ?_); rintro e w1 ⟨rfl, rfl⟩))
    go_ret
    exact ⟨rfl, below_al w _⟩
  · go_enter Try.func46, Try.ntmps46
    go_wp2_with (first | ((with_reducible refine (implIn_yes _ H1).mono ?_); rintro e w1 ⟨rfl, rfl⟩) | ((with_reducible refine (implIn_yes _ H2).mono ?_); rintro e w1 ⟨rfl, rfl⟩) | ((with_reducible refine (implIn_no _ H3).mono ?_); rintro e w1 ⟨rfl, rfl⟩))
    go_ret
    exact ⟨rfl, below_al w _⟩
  · obtain ⟨b1, b2⟩ := H2
    have H2 : (5 : Int) ≤ P ∧ P ≤ 12 := ⟨b1, b2⟩
    go_enter Try.func46, Try.ntmps46
    go_wp2_with (first | ((with_reducible refine (implIn_yes _ H1).mono ?_); rintro e w1 ⟨rfl, rfl⟩) | ((with_reducible refine (implIn_yes _ H2).mono ?_); rintro e w1 ⟨rfl, rfl⟩) | ((with_reducible refine (implIn_yes _ H3).mono ?_); rintro e w1 ⟨rfl, rfl⟩) | ((with_reducible refine (implIn_no _ H4).mono ?_); rintro e w1 ⟨rfl, rfl⟩))
    go_ret
    exact ⟨rfl, below_al w _⟩
end Go.Proofs.Ytmcelfiljnlmoaa
namespace Go.Proofs.Ytmcelfiljnlmoaa
open Go.RowKit Go.Proofs.Ytmcelfiljnlmoaa.Parts Go.Proofs.Ytmcelfiljnlmoaa.Hexa

set_option maxRecDepth 100000 in
set_option maxHeartbeats 2000000 in
theorem implNew_no (T P I Q : Int) (w : World) (h : ¬ GeoR T P I Q) :
    Calls Try.prog 17 #[.agg #[.int .i64 T, .int .i64 P, .int .i64 I, .int .i64 Q]] w (ToPostS (cPart.cels zeroP) w) := by
  have G0 := Lib.hid (Four.alloc w T P I Q 29)
  have H := Lib.hid h
  have hb1 := below_bk (w.alloc (.cells #[.int .i64 T, .int .i64 P, .int .i64 I, .int .i64 Q] 29)) (.cells #[.int .i64 0, .slice none 0 0, .slice none 0 0] 27)
  have G1 := Lib.hid (G0.out.later hb1)
  have R1 : Hid (Bk ((w.alloc (.cells #[.int .i64 T, .int .i64 P, .int .i64 I, .int .i64 Q] 29)).alloc (.cells #[.int .i64 0, .slice none 0 0, .slice none 0 0] 27)) (w.heap.size + 1) #[.int .i64 0, .slice none 0 0, .slice none 0 0] 27) := Lib.hid (by
    have h := Bk.alloc (w.alloc (.cells #[.int .i64 T, .int .i64 P, .int .i64 I, .int .i64 Q] 29)) #[.int .i64 0, .slice none 0 0, .slice none 0 0] 27
    simpa using h)
  have B1 := Lib.hid ((below_bk w (.cells #[.int .i64 T, .int .i64 P, .int .i64 I, .int .i64 Q] 29)).trans (hb1.mono (below_bk w _).size))
  have c0 := G1.out.c0
  have c1 := G1.out.c1
  have c2 := G1.out.c2
  have c3 := G1.out.c3
  clear h hb1 G0
  go_enter Try.func17, Try.ntmps17
  go_wp2_with fail
  refine (implGeo_no T P I Q _ H.out).mono ?_
  rintro e w1 ⟨rfl, hb⟩
  have R2 := Lib.hid (R1.out.later hb)
  have B2 := Lib.hid (B1.out.trans (hb.mono B1.out.size))
  clear hb c0 c1 c2 c3
  have z0 := R2.out.cell (j := 0) rfl
  have z1 := R2.out.cell (j := 1) rfl
  have z2 := R2.out.cell (j := 2) rfl
  have f0 := R2.out.fr (o := 0)
  have f1 := R2.out.fr (o := 1)
  have f2 := R2.out.fr (o := 2)
  have qf := ((R2.out.set 0 (.int .i64 0)).set 1 (.slice none 0 0)).set 2 (.slice none 0 0)
  have q0 := qf.cell (j := 0) rfl
  have q1 := qf.cell (j := 1) rfl
  have q2 := qf.cell (j := 2) rfl
  have BE := ((B2.out.setCell (p := ⟨w.heap.size + 1, 0, none⟩) (by show w.heap.size ≤ w.heap.size + 1; omega) (.int .i64 0)).setCell (p := ⟨w.heap.size + 1, 1, none⟩) (by show w.heap.size ≤ w.heap.size + 1; omega) (.slice none 0 0)).setCell (p := ⟨w.heap.size + 1, 2, none⟩) (by show w.heap.size ≤ w.heap.size + 1; omega) (.slice none 0 0)
  have HBE := Lib.hid BE
  clear qf BE
  go_wp2
  refine bodyPost_ret (v := .agg #[.int .i64 0, .slice none 0 0, .slice none 0 0]) ?_ rfl ⟨_, rfl, ((Objs.cons (mid := w.heap.size) (mid' := w.heap.size) (c := celRow cInt []) ⟨[], List.nodup_nil, fun _ h => (by cases h), own_none _ _ _ _ (Nat.zero_le _)⟩ (Objs.one (c := celRow cIno []) ⟨[], List.nodup_nil, fun _ h => (by cases h), own_none _ _ _ _ (Nat.zero_le _)⟩) (Nat.le_refl _) (Nat.le_refl _) HBE.out.size).val _), HBE.out⟩
  simp [results, Try.results17, go_sem, q0, q1, q2]

set_option maxRecDepth 100000 in
set_option maxHeartbeats 4000000 in
theorem implNew_yes (T P I Q : Int) (w : World) (h : GeoR T P I Q) :
    Calls Try.prog 17 #[.agg #[.int .i64 T, .int .i64 P, .int .i64 I, .int .i64 Q]] w (ToPostS (cPart.cels (newP P.toNat I.toNat)) w) := by
  obtain ⟨i0, hi, hz0, hz1, hz2⟩ := info_parts infoInt
  obtain ⟨j0, hj, hy0, hy1, hy2⟩ := info_parts infoInoD
  have H := Lib.hid h
  obtain ⟨_, _, p1, p2, n1, n2, _, _⟩ := h
  have HP : Hid (5 ≤ P.toNat ∧ P.toNat ≤ 12) := Lib.hid (by omega)
  have HI : Hid (2 ≤ I.toNat ∧ I.toNat ≤ 6) := Lib.hid (by omega)
  have hmS : ∀ W : World, (Instr.makeSlice 24 (.int .i64 P) (.int .i64 P)).run Try.prog W = .ok (.slice (some ⟨W.heap.size, 0, none⟩) P.toNat P.toNat) (W.alloc (.cells (madeCells #[.int .i64 0] P.toNat) 3)) := fun W => by
    have h9 := run_make (P := Try.prog) W 24 3 i0 _ Try.underlying24 hi hz0 .i64 .i64 P P (by omega) (by omega) (by rw [hz2]; omega) (by omega)
    rw [hz1, Nat.mul_one] at h9
    exact h9
  have hmI : ∀ W : World, (Instr.makeSlice 25 (.int .i64 I) (.int .i64 I)).run Try.prog W = .ok (.slice (some ⟨W.heap.size, 0, none⟩) I.toNat I.toNat) (W.alloc (.cells (madeCells #[.int .i64 0, .int .i64 0, .int .i64 0, .string ⟨#[]⟩, .slice none 0 0, .slice none 0 0] (I.toNat * 6)) 59)) := fun W => by
    have h9 := run_make (P := Try.prog) W 25 59 j0 _ Try.underlying25 hj hy0 .i64 .i64 I I (by omega) (by omega) (by rw [hy2]; omega) (by omega)
    rw [hy1] at h9
    exact h9
  have G0 := Lib.hid (Four.alloc w T P I Q 29)
  have hb1 := below_bk (w.alloc (.cells #[.int .i64 T, .int .i64 P, .int .i64 I, .int .i64 Q] 29)) (.cells #[.int .i64 0, .slice none 0 0, .slice none 0 0] 27)
  have G1 := Lib.hid (G0.out.later hb1)
  have R1 : Hid (Bk ((w.alloc (.cells #[.int .i64 T, .int .i64 P, .int .i64 I, .int .i64 Q] 29)).alloc (.cells #[.int .i64 0, .slice none 0 0, .slice none 0 0] 27)) (w.heap.size + 1) #[.int .i64 0, .slice none 0 0, .slice none 0 0] 27) := Lib.hid (by
    have h := Bk.alloc (w.alloc (.cells #[.int .i64 T, .int .i64 P, .int .i64 I, .int .i64 Q] 29)) #[.int .i64 0, .slice none 0 0, .slice none 0 0] 27
    simpa using h)
  have B1 := Lib.hid ((below_bk w (.cells #[.int .i64 T, .int .i64 P, .int .i64 I, .int .i64 Q] 29)).trans (hb1.mono (below_bk w _).size))
  have c0 := G1.out.c0
  have c1 := G1.out.c1
  have c2 := G1.out.c2
  have c3 := G1.out.c3
  clear hb1 G0
  have HmS := Lib.hid hmS
  have HmI := Lib.hid hmI
  clear hmS hmI
  go_enter Try.func17, Try.ntmps17
  go_wp2_with fail
  refine (implGeo_yes T P I Q _ H.out).mono ?_
  rintro e w1 ⟨rfl, hb⟩
  have R2 := Lib.hid (R1.out.later hb).drew
  have G2 := Lib.hid (G1.out.later hb).drew
  have B2 := Lib.hid (B1.out.trans (hb.mono B1.out.size))
  clear hb c0 c1 c2 c3 R1 G1 B1
  have hmS := HmS.out
  have hmI := HmI.out
  have c0 := G2.out.c0
  have c1 := G2.out.c1
  have c2 := G2.out.c2
  have c3 := G2.out.c3
  go_upto_region 3 with fail
  have HW1 : Hid (w.heap.size + 2 ≤ w1.heap.size) := Lib.hid (by have h9 := (Bk.lt R2.out); have h8 : w.heap.size + 1 < w1.heap.size := h9; omega)
  go_cut [3] (fun bv wx => ∃ b gS gI : Nat, bv = .pointer (some ⟨b, 0, none⟩) ∧ NewSt w1 wx b gS gI P.toNat I.toNat)
  case first =>
    go_region_held3 (fun w' => w'.cell? ⟨w.heap.size, 1, none⟩ = some (.int .i64 P) ∧ w'.cell? ⟨w.heap.size, 2, none⟩ = some (.int .i64 I))
      (first
        | exact ⟨c1, c2⟩
        | exact ⟨(G2.out.later (below_bk _ _)).c1, (G2.out.later (below_bk _ _)).c2⟩
        | exact ⟨((G2.out.later (below_bk _ _)).later (below_bk _ _)).c1, ((G2.out.later (below_bk _ _)).later (below_bk _ _)).c2⟩
        | exact ⟨(((G2.out.later (below_bk _ _)).later (below_bk _ _)).later (below_bk _ _)).c1, (((G2.out.later (below_bk _ _)).later (below_bk _ _)).later (below_bk _ _)).c2⟩
        | go_keep)
      (fail)
    · go_wp2
      go_meet
      have HS9 := (((ownE_mono (B' := w1.heap.size) (newS w1 P.toNat HP.out) (by simp; try omega)).alloc (.cells (madeCells #[.int .i64 0, .int .i64 0, .int .i64 0, .string ⟨#[]⟩, .slice none 0 0, .slice none 0 0] (I.toNat * 6)) 59)).alloc (.cells #[.int .i64 0, .slice (some ⟨w1.heap.size, 0, none⟩) P.toNat P.toNat, .slice (some ⟨w1.heap.size + 1, 0, none⟩) I.toNat I.toNat] 27))
      have HI9 := ((ownE_mono (B' := w1.heap.size) (newI (w1.alloc (.cells (madeCells #[.int .i64 0] P.toNat) 3)) I.toNat HI.out) (by simp; try omega)).alloc (.cells #[.int .i64 0, .slice (some ⟨w1.heap.size, 0, none⟩) P.toNat P.toNat, .slice (some ⟨w1.heap.size + 1, 0, none⟩) I.toNat I.toNat] 27))
      have HB9 := (Bk.alloc ((w1.alloc (.cells (madeCells #[.int .i64 0] P.toNat) 3)).alloc (.cells (madeCells #[.int .i64 0, .int .i64 0, .int .i64 0, .string ⟨#[]⟩, .slice none 0 0, .slice none 0 0] (I.toNat * 6)) 59)) #[.int .i64 0, .slice (some ⟨w1.heap.size, 0, none⟩) P.toNat P.toNat, .slice (some ⟨w1.heap.size + 1, 0, none⟩) I.toNat I.toNat] 27)
      simp only [World.size_alloc] at HS9 HI9 HB9
      exact ⟨_, _, _, rfl, HB9.drew, HS9.drew, HI9.drew, by omega, ((((Below.refl w1.heap.size w1).alloc (Nat.le_refl _) _).alloc (by simp) _).alloc (by simp; omega) _).drew⟩
    · go_wp2
      go_meet
      have HS9 := (((ownE_mono (B' := w1.heap.size) (newS w1 P.toNat HP.out) (by simp; try omega)).alloc (.cells #[.int .i64 0, .slice (some ⟨w1.heap.size, 0, none⟩) P.toNat P.toNat, .slice (some ⟨w1.heap.size + 1 + 1, 0, none⟩) I.toNat I.toNat] 27)).alloc (.cells (madeCells #[.int .i64 0, .int .i64 0, .int .i64 0, .string ⟨#[]⟩, .slice none 0 0, .slice none 0 0] (I.toNat * 6)) 59))
      have HI9 := (ownE_mono (B' := w1.heap.size) (newI ((w1.alloc (.cells (madeCells #[.int .i64 0] P.toNat) 3)).alloc (.cells #[.int .i64 0, .slice (some ⟨w1.heap.size, 0, none⟩) P.toNat P.toNat, .slice (some ⟨w1.heap.size + 1 + 1, 0, none⟩) I.toNat I.toNat] 27)) I.toNat HI.out) (by simp; try omega))
      have HB9 := ((Bk.alloc (w1.alloc (.cells (madeCells #[.int .i64 0] P.toNat) 3)) #[.int .i64 0, .slice (some ⟨w1.heap.size, 0, none⟩) P.toNat P.toNat, .slice (some ⟨w1.heap.size + 1 + 1, 0, none⟩) I.toNat I.toNat] 27).later (below_bk _ (.cells (madeCells #[.int .i64 0, .int .i64 0, .int .i64 0, .string ⟨#[]⟩, .slice none 0 0, .slice none 0 0] (I.toNat * 6)) 59)))
      simp only [World.size_alloc] at HS9 HI9 HB9
      exact ⟨_, _, _, rfl, HB9.drew, HS9.drew, HI9.drew, by omega, ((((Below.refl w1.heap.size w1).alloc (Nat.le_refl _) _).alloc (by simp) _).alloc (by simp; omega) _).drew⟩
    · go_wp2
      go_meet
      have HS9 := ((ownE_mono (B' := w1.heap.size) (newS (w1.alloc (.cells (madeCells #[.int .i64 0, .int .i64 0, .int .i64 0, .string ⟨#[]⟩, .slice none 0 0, .slice none 0 0] (I.toNat * 6)) 59)) P.toNat HP.out) (by simp; try omega)).alloc (.cells #[.int .i64 0, .slice (some ⟨w1.heap.size + 1, 0, none⟩) P.toNat P.toNat, .slice (some ⟨w1.heap.size, 0, none⟩) I.toNat I.toNat] 27))
      have HI9 := (((ownE_mono (B' := w1.heap.size) (newI w1 I.toNat HI.out) (by simp; try omega)).alloc (.cells (madeCells #[.int .i64 0] P.toNat) 3)).alloc (.cells #[.int .i64 0, .slice (some ⟨w1.heap.size + 1, 0, none⟩) P.toNat P.toNat, .slice (some ⟨w1.heap.size, 0, none⟩) I.toNat I.toNat] 27))
      have HB9 := (Bk.alloc ((w1.alloc (.cells (madeCells #[.int .i64 0, .int .i64 0, .int .i64 0, .string ⟨#[]⟩, .slice none 0 0, .slice none 0 0] (I.toNat * 6)) 59)).alloc (.cells (madeCells #[.int .i64 0] P.toNat) 3)) #[.int .i64 0, .slice (some ⟨w1.heap.size + 1, 0, none⟩) P.toNat P.toNat, .slice (some ⟨w1.heap.size, 0, none⟩) I.toNat I.toNat] 27)
      simp only [World.size_alloc] at HS9 HI9 HB9
      exact ⟨_, _, _, rfl, HB9.drew, HS9.drew, HI9.drew, by omega, ((((Below.refl w1.heap.size w1).alloc (Nat.le_refl _) _).alloc (by simp) _).alloc (by simp; omega) _).drew⟩
    · go_wp2
      go_meet
      have HS9 := (ownE_mono (B' := w1.heap.size) (newS ((w1.alloc (.cells (madeCells #[.int .i64 0, .int .i64 0, .int .i64 0, .string ⟨#[]⟩, .slice none 0 0, .slice none 0 0] (I.toNat * 6)) 59)).alloc (.cells #[.int .i64 0, .slice (some ⟨w1.heap.size + 1 + 1, 0, none⟩) P.toNat P.toNat, .slice (some ⟨w1.heap.size, 0, none⟩) I.toNat I.toNat] 27)) P.toNat HP.out) (by simp; try omega))
      have HI9 := (((ownE_mono (B' := w1.heap.size) (newI w1 I.toNat HI.out) (by simp; try omega)).alloc (.cells #[.int .i64 0, .slice (some ⟨w1.heap.size + 1 + 1, 0, none⟩) P.toNat P.toNat, .slice (some ⟨w1.heap.size, 0, none⟩) I.toNat I.toNat] 27)).alloc (.cells (madeCells #[.int .i64 0] P.toNat) 3))
      have HB9 := ((Bk.alloc (w1.alloc (.cells (madeCells #[.int .i64 0, .int .i64 0, .int .i64 0, .string ⟨#[]⟩, .slice none 0 0, .slice none 0 0] (I.toNat * 6)) 59)) #[.int .i64 0, .slice (some ⟨w1.heap.size + 1 + 1, 0, none⟩) P.toNat P.toNat, .slice (some ⟨w1.heap.size, 0, none⟩) I.toNat I.toNat] 27).later (below_bk _ (.cells (madeCells #[.int .i64 0] P.toNat) 3)))
      simp only [World.size_alloc] at HS9 HI9 HB9
      exact ⟨_, _, _, rfl, HB9.drew, HS9.drew, HI9.drew, by omega, ((((Below.refl w1.heap.size w1).alloc (Nat.le_refl _) _).alloc (by simp) _).alloc (by simp; omega) _).drew⟩
    · go_wp2
      go_meet
      have HS9 := ((ownE_mono (B' := w1.heap.size) (newS (w1.alloc (.cells #[.int .i64 0, .slice (some ⟨w1.heap.size + 1, 0, none⟩) P.toNat P.toNat, .slice (some ⟨w1.heap.size + 1 + 1, 0, none⟩) I.toNat I.toNat] 27)) P.toNat HP.out) (by simp; try omega)).alloc (.cells (madeCells #[.int .i64 0, .int .i64 0, .int .i64 0, .string ⟨#[]⟩, .slice none 0 0, .slice none 0 0] (I.toNat * 6)) 59))
      have HI9 := (ownE_mono (B' := w1.heap.size) (newI ((w1.alloc (.cells #[.int .i64 0, .slice (some ⟨w1.heap.size + 1, 0, none⟩) P.toNat P.toNat, .slice (some ⟨w1.heap.size + 1 + 1, 0, none⟩) I.toNat I.toNat] 27)).alloc (.cells (madeCells #[.int .i64 0] P.toNat) 3)) I.toNat HI.out) (by simp; try omega))
      have HB9 := (((Bk.alloc w1 #[.int .i64 0, .slice (some ⟨w1.heap.size + 1, 0, none⟩) P.toNat P.toNat, .slice (some ⟨w1.heap.size + 1 + 1, 0, none⟩) I.toNat I.toNat] 27).later (below_bk _ (.cells (madeCells #[.int .i64 0] P.toNat) 3))).later (below_bk _ (.cells (madeCells #[.int .i64 0, .int .i64 0, .int .i64 0, .string ⟨#[]⟩, .slice none 0 0, .slice none 0 0] (I.toNat * 6)) 59)))
      simp only [World.size_alloc] at HS9 HI9 HB9
      exact ⟨_, _, _, rfl, HB9.drew, HS9.drew, HI9.drew, by omega, ((((Below.refl w1.heap.size w1).alloc (Nat.le_refl _) _).alloc (by simp) _).alloc (by simp; omega) _).drew⟩
    · go_wp2
      go_meet
      have HS9 := (ownE_mono (B' := w1.heap.size) (newS ((w1.alloc (.cells #[.int .i64 0, .slice (some ⟨w1.heap.size + 1 + 1, 0, none⟩) P.toNat P.toNat, .slice (some ⟨w1.heap.size + 1, 0, none⟩) I.toNat I.toNat] 27)).alloc (.cells (madeCells #[.int .i64 0, .int .i64 0, .int .i64 0, .string ⟨#[]⟩, .slice none 0 0, .slice none 0 0] (I.toNat * 6)) 59)) P.toNat HP.out) (by simp; try omega))
      have HI9 := ((ownE_mono (B' := w1.heap.size) (newI (w1.alloc (.cells #[.int .i64 0, .slice (some ⟨w1.heap.size + 1 + 1, 0, none⟩) P.toNat P.toNat, .slice (some ⟨w1.heap.size + 1, 0, none⟩) I.toNat I.toNat] 27)) I.toNat HI.out) (by simp; try omega)).alloc (.cells (madeCells #[.int .i64 0] P.toNat) 3))
      have HB9 := (((Bk.alloc w1 #[.int .i64 0, .slice (some ⟨w1.heap.size + 1 + 1, 0, none⟩) P.toNat P.toNat, .slice (some ⟨w1.heap.size + 1, 0, none⟩) I.toNat I.toNat] 27).later (below_bk _ (.cells (madeCells #[.int .i64 0, .int .i64 0, .int .i64 0, .string ⟨#[]⟩, .slice none 0 0, .slice none 0 0] (I.toNat * 6)) 59))).later (below_bk _ (.cells (madeCells #[.int .i64 0] P.toNat) 3)))
      simp only [World.size_alloc] at HS9 HI9 HB9
      exact ⟨_, _, _, rfl, HB9.drew, HS9.drew, HI9.drew, by omega, ((((Below.refl w1.heap.size w1).alloc (Nat.le_refl _) _).alloc (by simp) _).alloc (by simp; omega) _).drew⟩
  case rest =>
    obtain ⟨b, gS, gI, rfl, hst⟩ := hcut
    have HN := Lib.hid hst.ne
    have B3 : Hid (Below w.heap.size w wc) := Lib.hid (B2.out.trans (hst.below.mono (by have := HW1.out; omega)))
    have R3 : Hid (Bk wc (w.heap.size + 1) #[.int .i64 0, .slice none 0 0, .slice none 0 0] 27) := Lib.hid (Bk.later (w := w1) R2.out hst.below)
    have X3 := Lib.hid hst.box
    have S3 := Lib.hid hst.s
    have I3 := Lib.hid hst.i
    have SZ : Hid (w1.heap.size ≤ wc.heap.size) := Lib.hid hst.below.size
    clear hst R2 G2 B2 c0 c1 c2 c3 hmS hmI HmS HmI
    obtain ⟨hne1, hne2, hne3, hne4, hne5, hne6⟩ := HN.out
    have hw1 := HW1.out
    obtain ⟨v0, e0⟩ := ownE_cell I3.out (j := 0) (by have := HI.out; omega)
    have z0 := I3.out.frozenAt 0
    obtain ⟨v1, e1⟩ := ownE_cell I3.out (j := 1) (by have := HI.out; omega)
    have z1 := I3.out.frozenAt 1
    obtain ⟨v2, e2⟩ := ownE_cell I3.out (j := 2) (by have := HI.out; omega)
    have z2 := I3.out.frozenAt 2
    obtain ⟨v3, e3⟩ := ownE_cell I3.out (j := 3) (by have := HI.out; omega)
    have z3 := I3.out.frozenAt 3
    obtain ⟨v4, e4⟩ := ownE_cell I3.out (j := 4) (by have := HI.out; omega)
    have z4 := I3.out.frozenAt 4
    obtain ⟨v5, e5⟩ := ownE_cell I3.out (j := 5) (by have := HI.out; omega)
    have z5 := I3.out.frozenAt 5
    have I4 := Lib.hid (own_sets dirV 0 I3.out)
    have K4 := Lib.hid ((((((((ButE.refl gI wc).then_set 0 (.int .i64 2)).then_set 1 (.int .i64 0)).then_set 2 (.int .i64 1)).then_set 3 (.string ⟨#[]⟩)).then_set 4 (.slice none 0 0)).then_set 5 (.slice none 0 0)))
    have S4 : Hid (((((((wc.setCell ⟨gI, 0, none⟩ (.int .i64 2)).setCell ⟨gI, 1, none⟩ (.int .i64 0)).setCell ⟨gI, 2, none⟩ (.int .i64 1)).setCell ⟨gI, 3, none⟩ (.string ⟨#[]⟩)).setCell ⟨gI, 4, none⟩ (.slice none 0 0)).setCell ⟨gI, 5, none⟩ (.slice none 0 0)).ownsRow w1.heap.size 3 1 (.slice (some ⟨gS, 0, none⟩) P.toNat P.toNat) P.toNat (icells (List.replicate P.toNat 0))) := Lib.hid (ownE_but S3.out K4.out (fun g hg => by have e : gS = g := Option.some.inj hg; omega))
    have X4 : Hid (Bk ((((((wc.setCell ⟨gI, 0, none⟩ (.int .i64 2)).setCell ⟨gI, 1, none⟩ (.int .i64 0)).setCell ⟨gI, 2, none⟩ (.int .i64 1)).setCell ⟨gI, 3, none⟩ (.string ⟨#[]⟩)).setCell ⟨gI, 4, none⟩ (.slice none 0 0)).setCell ⟨gI, 5, none⟩ (.slice none 0 0)) b #[.int .i64 0, .slice (some ⟨gS, 0, none⟩) P.toNat P.toNat, .slice (some ⟨gI, 0, none⟩) I.toNat I.toNat] 27) := Lib.hid ((K4.out.block b (by omega) X3.out.lt).trans X3.out)
    have R4 : Hid (Bk ((((((wc.setCell ⟨gI, 0, none⟩ (.int .i64 2)).setCell ⟨gI, 1, none⟩ (.int .i64 0)).setCell ⟨gI, 2, none⟩ (.int .i64 1)).setCell ⟨gI, 3, none⟩ (.string ⟨#[]⟩)).setCell ⟨gI, 4, none⟩ (.slice none 0 0)).setCell ⟨gI, 5, none⟩ (.slice none 0 0)) (w.heap.size + 1) #[.int .i64 0, .slice none 0 0, .slice none 0 0] 27) := Lib.hid ((K4.out.block (w.heap.size + 1) (by omega) R3.out.lt).trans R3.out)
    have B4 := Lib.hid ((((((B3.out.setCell (p := ⟨gI, 0, none⟩) (by show w.heap.size ≤ gI; omega) (.int .i64 2)).setCell (p := ⟨gI, 1, none⟩) (by show w.heap.size ≤ gI; omega) (.int .i64 0)).setCell (p := ⟨gI, 2, none⟩) (by show w.heap.size ≤ gI; omega) (.int .i64 1)).setCell (p := ⟨gI, 3, none⟩) (by show w.heap.size ≤ gI; omega) (.string ⟨#[]⟩)).setCell (p := ⟨gI, 4, none⟩) (by show w.heap.size ≤ gI; omega) (.slice none 0 0)).setCell (p := ⟨gI, 5, none⟩) (by show w.heap.size ≤ gI; omega) (.slice none 0 0))
    have x2 := X3.out.cell (j := 2) rfl
    have y0 := X4.out.cell (j := 0) rfl
    have y1 := X4.out.cell (j := 1) rfl
    have y2 := X4.out.cell (j := 2) rfl
    have SZ4 : Hid (((((((wc.setCell ⟨gI, 0, none⟩ (.int .i64 2)).setCell ⟨gI, 1, none⟩ (.int .i64 0)).setCell ⟨gI, 2, none⟩ (.int .i64 1)).setCell ⟨gI, 3, none⟩ (.string ⟨#[]⟩)).setCell ⟨gI, 4, none⟩ (.slice none 0 0)).setCell ⟨gI, 5, none⟩ (.slice none 0 0)).heap.size = wc.heap.size) := Lib.hid (by simp [World.setCell])
    have r0 := R4.out.cell (j := 0) rfl
    have f0 := R4.out.fr (o := 0)
    have r1 := R4.out.cell (j := 1) rfl
    have f1 := R4.out.fr (o := 1)
    have r2 := R4.out.cell (j := 2) rfl
    have f2 := R4.out.fr (o := 2)
    have qf := (((R4.out.set 0 (.int .i64 0)).set 1 (.slice (some ⟨gS, 0, none⟩) P.toNat P.toNat)).set 2 (.slice (some ⟨gI, 0, none⟩) I.toNat I.toNat))
    have q0 := qf.cell (j := 0) rfl
    have q1 := qf.cell (j := 1) rfl
    have q2 := qf.cell (j := 2) rfl
    have K5 := Lib.hid (((((ButE.refl (w.heap.size + 1) ((((((wc.setCell ⟨gI, 0, none⟩ (.int .i64 2)).setCell ⟨gI, 1, none⟩ (.int .i64 0)).setCell ⟨gI, 2, none⟩ (.int .i64 1)).setCell ⟨gI, 3, none⟩ (.string ⟨#[]⟩)).setCell ⟨gI, 4, none⟩ (.slice none 0 0)).setCell ⟨gI, 5, none⟩ (.slice none 0 0))).then_set 0 (.int .i64 0)).then_set 1 (.slice (some ⟨gS, 0, none⟩) P.toNat P.toNat)).then_set 2 (.slice (some ⟨gI, 0, none⟩) I.toNat I.toNat)))
    have S5 := Lib.hid (ownE_but S4.out K5.out (fun g hg => by have e : gS = g := Option.some.inj hg; omega))
    have I5 := Lib.hid (ownE_but I4.out K5.out (fun g hg => by have e : gI = g := Option.some.inj hg; omega))
    have B5 := Lib.hid (((B4.out.setCell (p := ⟨w.heap.size + 1, 0, none⟩) (by show w.heap.size ≤ w.heap.size + 1; omega) (.int .i64 0)).setCell (p := ⟨w.heap.size + 1, 1, none⟩) (by show w.heap.size ≤ w.heap.size + 1; omega) (.slice (some ⟨gS, 0, none⟩) P.toNat P.toNat)).setCell (p := ⟨w.heap.size + 1, 2, none⟩) (by show w.heap.size ≤ w.heap.size + 1; omega) (.slice (some ⟨gI, 0, none⟩) I.toNat I.toNat))
    have JS : Hid (Obj1 (((((((((wc.setCell ⟨gI, 0, none⟩ (.int .i64 2)).setCell ⟨gI, 1, none⟩ (.int .i64 0)).setCell ⟨gI, 2, none⟩ (.int .i64 1)).setCell ⟨gI, 3, none⟩ (.string ⟨#[]⟩)).setCell ⟨gI, 4, none⟩ (.slice none 0 0)).setCell ⟨gI, 5, none⟩ (.slice none 0 0)).setCell ⟨w.heap.size + 1, 0, none⟩ (.int .i64 0)).setCell ⟨w.heap.size + 1, 1, none⟩ (.slice (some ⟨gS, 0, none⟩) P.toNat P.toNat)).setCell ⟨w.heap.size + 1, 2, none⟩ (.slice (some ⟨gI, 0, none⟩) I.toNat I.toNat)) gS (gS + 1) (celRow cInt (List.replicate P.toNat 0)) (.slice (some ⟨gS, 0, none⟩) P.toNat P.toNat)) := Lib.hid (by
      have h := obj_of_row (lo := gS) (hi := gS + 1) S5.out (by rw [celsE_length, List.length_replicate]; rfl) (own_ints (List.replicate P.toNat 0)) List.nodup_nil (fun _ hg => by cases hg) (fun g hg => by have e : gS = g := Option.some.inj hg; exact ⟨by simp, by omega, by omega⟩)
      unfold celRow
      rw [List.length_replicate]
      exact h)
    have JI : Hid (Obj1 (((((((((wc.setCell ⟨gI, 0, none⟩ (.int .i64 2)).setCell ⟨gI, 1, none⟩ (.int .i64 0)).setCell ⟨gI, 2, none⟩ (.int .i64 1)).setCell ⟨gI, 3, none⟩ (.string ⟨#[]⟩)).setCell ⟨gI, 4, none⟩ (.slice none 0 0)).setCell ⟨gI, 5, none⟩ (.slice none 0 0)).setCell ⟨w.heap.size + 1, 0, none⟩ (.int .i64 0)).setCell ⟨w.heap.size + 1, 1, none⟩ (.slice (some ⟨gS, 0, none⟩) P.toNat P.toNat)).setCell ⟨w.heap.size + 1, 2, none⟩ (.slice (some ⟨gI, 0, none⟩) I.toNat I.toNat)) gI (gI + 1) (celRow cIno (newP P.toNat I.toNat).ino) (.slice (some ⟨gI, 0, none⟩) I.toNat I.toNat)) := Lib.hid (by
      have hI := HI.out
      have hl : (dirI :: List.replicate (I.toNat - 1) freeI).length = I.toNat := by rw [List.length_cons, List.length_replicate]; omega
      have h5 := I5.out
      rw [setsL_new _ (by omega)] at h5
      have h := obj_of_row (lo := gI) (hi := gI + 1) h5 (cs := celsE cIno (dirI :: List.replicate (I.toNat - 1) freeI)) (by rw [celsE_length, hl]; rfl) (own_newI (I.toNat - 1)) List.nodup_nil (fun _ hg => by cases hg) (fun g hg => by have e : gI = g := Option.some.inj hg; exact ⟨by simp, by omega, by omega⟩)
      unfold celRow
      show Obj1 _ _ _ (.sl _ _ (dirI :: List.replicate (I.toNat - 1) freeI).length _) _
      rw [hl]
      exact h)
    have LS : Hid (gS < (((((((((wc.setCell ⟨gI, 0, none⟩ (.int .i64 2)).setCell ⟨gI, 1, none⟩ (.int .i64 0)).setCell ⟨gI, 2, none⟩ (.int .i64 1)).setCell ⟨gI, 3, none⟩ (.string ⟨#[]⟩)).setCell ⟨gI, 4, none⟩ (.slice none 0 0)).setCell ⟨gI, 5, none⟩ (.slice none 0 0)).setCell ⟨w.heap.size + 1, 0, none⟩ (.int .i64 0)).setCell ⟨w.heap.size + 1, 1, none⟩ (.slice (some ⟨gS, 0, none⟩) P.toNat P.toNat)).setCell ⟨w.heap.size + 1, 2, none⟩ (.slice (some ⟨gI, 0, none⟩) I.toNat I.toNat)).heap.size ∧ gI < (((((((((wc.setCell ⟨gI, 0, none⟩ (.int .i64 2)).setCell ⟨gI, 1, none⟩ (.int .i64 0)).setCell ⟨gI, 2, none⟩ (.int .i64 1)).setCell ⟨gI, 3, none⟩ (.string ⟨#[]⟩)).setCell ⟨gI, 4, none⟩ (.slice none 0 0)).setCell ⟨gI, 5, none⟩ (.slice none 0 0)).setCell ⟨w.heap.size + 1, 0, none⟩ (.int .i64 0)).setCell ⟨w.heap.size + 1, 1, none⟩ (.slice (some ⟨gS, 0, none⟩) P.toNat P.toNat)).setCell ⟨w.heap.size + 1, 2, none⟩ (.slice (some ⟨gI, 0, none⟩) I.toNat I.toNat)).heap.size) := Lib.hid ⟨ownE_lt S5.out, ownE_lt I5.out⟩
    clear qf
    go_wp2
    refine bodyPost_ret (v := .agg #[.int .i64 0, .slice (some ⟨gS, 0, none⟩) P.toNat P.toNat, .slice (some ⟨gI, 0, none⟩) I.toNat I.toNat]) ?_ rfl ⟨_, rfl, ?_, B5.out⟩
    · simp [results, Try.results17, go_sem, q0, q1, q2]
    · refine Objs.val ?_ _
      exact obj_two JS.out JI.out (by omega) ⟨by omega, by have := LS.out; omega⟩ ⟨by omega, by have := LS.out; omega⟩
end Go.Proofs.Ytmcelfiljnlmoaa
namespace Go.Proofs.Ytmcelfiljnlmoaa
open Go.RowKit Go.Proofs.Ytmcelfiljnlmoaa.Parts

theorem specNew_any (T P I Q : Int) (w : World) : Calls Try.prog 15 #[.agg #[.int .i64 T, .int .i64 P, .int .i64 I, .int .i64 Q]] w (ToPostS (cPart.cels (partNew T P I Q)) w) := by
  by_cases h : GeoR T P I Q
  · rw [partNew_yes h]; exact specNew_yes T P I Q w h
  · rw [partNew_no h]; exact specNew_no T P I Q w h
theorem implNew_any (T P I Q : Int) (w : World) : Calls Try.prog 17 #[.agg #[.int .i64 T, .int .i64 P, .int .i64 I, .int .i64 Q]] w (ToPostS (cPart.cels (partNew T P I Q)) w) := by
  by_cases h : GeoR T P I Q
  · rw [partNew_yes h]; exact implNew_yes T P I Q w h
  · rw [partNew_no h]; exact implNew_no T P I Q w h
theorem frees_sz : ∀ n, szL (celsE cIno (List.replicate n freeI)) = 0
  | 0 => rfl
  | n + 1 => by rw [List.replicate_succ, celsE, szL_append, frees_sz n]; rfl
theorem frees_cnt : ∀ n, cntL (celsE cIno (List.replicate n freeI)) = 4 * n
  | 0 => rfl
  | n + 1 => by rw [List.replicate_succ, celsE, cntL_append, frees_cnt n]; show 4 + 4 * n = _; omega
theorem ints_cnt : ∀ L : List Int, cntL (celsE cInt L) = L.length
  | [] => rfl
  | x :: r => by rw [celsE, cntL_append, ints_cnt r]; show 1 + r.length = r.length + 1; omega
theorem partNew_sz (T P I Q : Int) : szL (cPart.cels (partNew T P I Q)) ≤ 100 := by
  by_cases h : GeoR T P I Q
  · rw [partNew_yes h, cPart_sz, szInts_eq, sz_row']
    have h2 : szL (celsE cIno (newP P.toNat I.toNat).ino) = 0 := by
      show szL (celsE cIno (dirI :: List.replicate (I.toNat - 1) freeI)) = 0
      rw [celsE, szL_append, frees_sz]; rfl
    rw [h2]
    have h3 : (newP P.toNat I.toNat).st.length = P.toNat := List.length_replicate
    have h4 : (newP P.toNat I.toNat).ino.length = I.toNat - 1 + 1 := by show (dirI :: List.replicate (I.toNat - 1) freeI).length = _; rw [List.length_cons, List.length_replicate]
    rw [h3, h4]
    obtain ⟨_, _, _, _, _, _, _, _⟩ := h
    omega
  · rw [partNew_no h]; show 0 ≤ 100; omega
theorem partNew_cnt (T P I Q : Int) : cntTop (cPart.cels (partNew T P I Q)) ≤ 100 := by
  by_cases h : GeoR T P I Q
  · rw [partNew_yes h]
    have h1 : cntTop (cPart.cels (newP P.toNat I.toNat)) = cntL (celsE cInt (List.replicate P.toNat 0)) + (cntL (celsE cIno (dirI :: List.replicate (I.toNat - 1) freeI)) + 0) := rfl
    rw [h1, ints_cnt, List.length_replicate, celsE, cntL_append, frees_cnt]
    have h2 : cntL (cIno.cels dirI) = 4 := rfl
    rw [h2]
    obtain ⟨_, _, _, _, _, _, _, _⟩ := h
    omega
  · rw [partNew_no h]; show 0 ≤ 100; omega
end Go.Proofs.Ytmcelfiljnlmoaa
namespace Go.Proofs.Ytmcelfiljnlmoaa
open Go.RowKit

set_option maxRecDepth 100000 in
set_option maxHeartbeats 1000000 in
theorem toGeo_any (T P I Q : Int) (w : World) : Calls Try.prog 16 #[.agg #[.int .i64 T, .int .i64 P, .int .i64 I, .int .i64 Q]] w fun e w' => e = .returned (.agg #[.int .i64 T, .int .i64 P, .int .i64 I, .int .i64 Q]) ∧ Below w.heap.size w w' := by
  go_enter Try.func16, Try.ntmps16
  go_wp2
  refine bodyPost_ret (v := .agg #[.int .i64 T, .int .i64 P, .int .i64 I, .int .i64 Q]) ?_ rfl ⟨rfl, ?_⟩
  · simp [results, Try.results16, go_sem]
  · exact (((Below.refl _ _).alloc (Nat.le_refl _) _).alloc (by simp) _).alloc (by simp; omega) _
end Go.Proofs.Ytmcelfiljnlmoaa
namespace Go.Proofs.Ytmcelfiljnlmoaa
open Go.RowKit

theorem below_drewsN {B : Nat} {a w : World} (h : Below B a w) (m : Nat) : Below B a (w.drewN m) := ⟨h.os, h.tape, h.output, h.size, h.block⟩
end Go.Proofs.Ytmcelfiljnlmoaa
namespace Go.Proofs.Ytmcelfiljnlmoaa
open Go.RowKit Go.Proofs.Ytmcelfiljnlmoaa.Parts Go.Proofs.Ytmcelfiljnlmoaa.Hexa

set_option maxRecDepth 100000 in
set_option maxHeartbeats 1000000 in
theorem eqIntS_any (v v2 : Value) (L : List Int) (w : World) (s1 : (celRow cInt L).Rd w v) (s2 : (celRow cInt L).Rd w v2) (hz : (celRow cInt L).sz ≤ 100000000) :
    Calls Try.prog 50 #[v, v2] w fun e w' => e = .returned (.bool true) ∧ Below w.heap.size w w' := by
  obtain ⟨a, n, c, rfl, hn⟩ := row_form s1
  obtain ⟨a', n', c', rfl, hn'⟩ := row_form s2
  obtain rfl : n' = n := by rw [← hn, ← hn']
  rw [szInts_eq, hn] at hz
  have R1 := Lib.hid s1
  have R2 := Lib.hid s2
  clear s1 s2 hn hn'
  go_enter Try.func50, Try.ntmps50
  go_wp2
  go_loopw [5] (fun iv wr => ∃ k m : Nat, k ≤ n' ∧ iv = .int .i64 k ∧ wr = w.drewN m) (fun iv _ => n' - (intOf iv).toNat)
  case atStart => exact ⟨0, 0, Nat.zero_le _, rfl, rfl⟩
  case round =>
    obtain ⟨k, m, hk, rfl, rfl⟩ := hrel
    by_cases hlt : k < n'
    · obtain ⟨g1, o1, rfl, h1, d1⟩ := cInt_at R1.out k hlt
      obtain ⟨g2, o2, rfl, h2, d2⟩ := cInt_at R2.out k hlt
      obtain ⟨x, hx⟩ : ∃ x, L.getD k default = x := ⟨_, rfl⟩
      rw [hx] at d1 d2
      clear hx h1 h2
      go_wp2
      go_quiet (fail)
      go_wp2
      go_roundw
      case rel => exact ⟨k + 1, _, by omega, by go_num, rfl⟩
      case measure => (simp [intOf]; try omega)
    · obtain rfl : k = n' := by omega
      go_wp2
      go_ret
      exact ⟨rfl, below_drewsN (Below.refl _ _) _⟩
end Go.Proofs.Ytmcelfiljnlmoaa
namespace Go.Proofs.Ytmcelfiljnlmoaa
open Go.RowKit Go.Proofs.Ytmcelfiljnlmoaa.Parts Go.Proofs.Ytmcelfiljnlmoaa.Hexa

set_option maxRecDepth 100000 in
set_option maxHeartbeats 1000000 in
theorem eqRec_st (x : RecR) (w : World) (_ : szL (cRec.cels x) ≤ 100000000) :
    Calls Try.prog 119 #[.agg #[.int .i64 x.f0, .int .i64 x.f1, .string x.f2], .agg #[.int .i64 x.f0, .int .i64 x.f1, .string x.f2]] w fun e w' => e = .returned (.bool true) ∧ Below w.heap.size w w' := by
  go_enter Try.func119, Try.ntmps119
  go_wp2
  go_ret
  exact ⟨rfl, ((Below.refl _ _).alloc (Nat.le_refl _) _).alloc (by simp) _⟩

end Go.Proofs.Ytmcelfiljnlmoaa
namespace Go.Proofs.Ytmcelfiljnlmoaa
open Go.RowKit Go.Proofs.Ytmcelfiljnlmoaa.Parts Go.Proofs.Ytmcelfiljnlmoaa.Hexa

set_option maxRecDepth 100000 in
set_option maxHeartbeats 1000000 in
theorem eqRecS_any (v v2 : Value) (L : List RecR) (w : World) (s1 : (celRow cRec L).Rd w v) (s2 : (celRow cRec L).Rd w v2) (hz : (celRow cRec L).sz ≤ 100000000) :
    Calls Try.prog 106 #[v, v2] w fun e w' => e = .returned (.bool true) ∧ Below w.heap.size w w' := by
  obtain ⟨a, n, c, rfl, hn⟩ := row_form s1
  obtain ⟨a', n', c', rfl, hn'⟩ := row_form s2
  obtain rfl : n' = n := by rw [← hn, ← hn']
  have R1 := Lib.hid s1
  have R2 := Lib.hid s2
  have hz' : n' + szL (celsE cRec L) ≤ 100000000 := by rw [← hn]; exact hz
  have hn1 : n' ≤ 100000000 := by omega
  have HZ : Hid (szL (celsE cRec L) ≤ 100000000) := Lib.hid (by omega)
  have HN := Lib.hid hn
  clear s1 s2 hz hz' hn hn'
  go_enter Try.func106, Try.ntmps106
  go_wp2
  go_loopw [5] (fun iv wr => ∃ k : Nat, k ≤ n' ∧ iv = .int .i64 k ∧ Below w.heap.size w wr) (fun iv _ => n' - (intOf iv).toNat)
  case atStart => exact ⟨0, Nat.zero_le _, rfl, Below.refl _ _⟩
  case round =>
    obtain ⟨k, hk, rfl, hbel⟩ := hrel
    by_cases hlt : k < n'
    · have HX : Hid (szL (cRec.cels (L.getD k default)) ≤ 100000000) := Lib.hid (Nat.le_trans (szL_at cRec L k (by rw [HN.out]; exact hlt)) HZ.out)
      obtain ⟨g, off, rfl, hg, d0, d1, d2⟩ := cRec_at (Cel.Rd.later hbel _ _ R1.out) k hlt
      obtain ⟨g2, off2, rfl, hg2, m0, m1, m2⟩ := cRec_at (Cel.Rd.later hbel _ _ R2.out) k hlt
      obtain ⟨x, hx⟩ : ∃ x, L.getD k default = x := ⟨_, rfl⟩
      rw [hx] at d0 d1 d2 m0 m1 m2   HX
      clear hx

      go_wp2
      go_region_with (go_at_call 119; refine (eqRec_st x _ HX.out).mono ?_; rintro e w1 ⟨rfl, hb1⟩)
      all_goals
        have hb2 : Below w.heap.size w w1 := hbel.drew.trans (hb1.mono hbel.size)
        clear d0 d1 d2 m0 m1 m2   hb1
        go_wp2
        go_roundw
        case rel => exact ⟨k + 1, by omega, by go_num, hb2⟩
        case measure => (simp [intOf]; try omega)
    · obtain rfl : k = n' := by omega
      go_wp2
      go_ret
      exact ⟨rfl, hbel⟩

end Go.Proofs.Ytmcelfiljnlmoaa
namespace Go.Proofs.Ytmcelfiljnlmoaa
open Go.RowKit Go.Proofs.Ytmcelfiljnlmoaa.Parts Go.Proofs.Ytmcelfiljnlmoaa.Hexa

set_option maxRecDepth 100000 in
set_option maxHeartbeats 1000000 in
theorem eqEntry_st (x : EntryR) (w : World) (_ : szL (cEntry.cels x) ≤ 100000000) :
    Calls Try.prog 120 #[.agg #[.int .i64 x.f0, .string x.f1], .agg #[.int .i64 x.f0, .string x.f1]] w fun e w' => e = .returned (.bool true) ∧ Below w.heap.size w w' := by
  go_enter Try.func120, Try.ntmps120
  go_wp2
  go_ret
  exact ⟨rfl, ((Below.refl _ _).alloc (Nat.le_refl _) _).alloc (by simp) _⟩

end Go.Proofs.Ytmcelfiljnlmoaa
namespace Go.Proofs.Ytmcelfiljnlmoaa
open Go.RowKit Go.Proofs.Ytmcelfiljnlmoaa.Parts Go.Proofs.Ytmcelfiljnlmoaa.Hexa

set_option maxRecDepth 100000 in
set_option maxHeartbeats 1000000 in
theorem eqEntryS_any (v v2 : Value) (L : List EntryR) (w : World) (s1 : (celRow cEntry L).Rd w v) (s2 : (celRow cEntry L).Rd w v2) (hz : (celRow cEntry L).sz ≤ 100000000) :
    Calls Try.prog 107 #[v, v2] w fun e w' => e = .returned (.bool true) ∧ Below w.heap.size w w' := by
  obtain ⟨a, n, c, rfl, hn⟩ := row_form s1
  obtain ⟨a', n', c', rfl, hn'⟩ := row_form s2
  obtain rfl : n' = n := by rw [← hn, ← hn']
  have R1 := Lib.hid s1
  have R2 := Lib.hid s2
  have hz' : n' + szL (celsE cEntry L) ≤ 100000000 := by rw [← hn]; exact hz
  have hn1 : n' ≤ 100000000 := by omega
  have HZ : Hid (szL (celsE cEntry L) ≤ 100000000) := Lib.hid (by omega)
  have HN := Lib.hid hn
  clear s1 s2 hz hz' hn hn'
  go_enter Try.func107, Try.ntmps107
  go_wp2
  go_loopw [5] (fun iv wr => ∃ k : Nat, k ≤ n' ∧ iv = .int .i64 k ∧ Below w.heap.size w wr) (fun iv _ => n' - (intOf iv).toNat)
  case atStart => exact ⟨0, Nat.zero_le _, rfl, Below.refl _ _⟩
  case round =>
    obtain ⟨k, hk, rfl, hbel⟩ := hrel
    by_cases hlt : k < n'
    · have HX : Hid (szL (cEntry.cels (L.getD k default)) ≤ 100000000) := Lib.hid (Nat.le_trans (szL_at cEntry L k (by rw [HN.out]; exact hlt)) HZ.out)
      obtain ⟨g, off, rfl, hg, d0, d1⟩ := cEntry_at (Cel.Rd.later hbel _ _ R1.out) k hlt
      obtain ⟨g2, off2, rfl, hg2, m0, m1⟩ := cEntry_at (Cel.Rd.later hbel _ _ R2.out) k hlt
      obtain ⟨x, hx⟩ : ∃ x, L.getD k default = x := ⟨_, rfl⟩
      rw [hx] at d0 d1 m0 m1   HX
      clear hx

      go_wp2
      go_region_with (go_at_call 120; refine (eqEntry_st x _ HX.out).mono ?_; rintro e w1 ⟨rfl, hb1⟩)
      all_goals
        have hb2 : Below w.heap.size w w1 := hbel.drew.trans (hb1.mono hbel.size)
        clear d0 d1 m0 m1   hb1
        go_wp2
        go_roundw
        case rel => exact ⟨k + 1, by omega, by go_num, hb2⟩
        case measure => (simp [intOf]; try omega)
    · obtain rfl : k = n' := by omega
      go_wp2
      go_ret
      exact ⟨rfl, hbel⟩

end Go.Proofs.Ytmcelfiljnlmoaa
namespace Go.Proofs.Ytmcelfiljnlmoaa
open Go.RowKit Go.Proofs.Ytmcelfiljnlmoaa.Parts Go.Proofs.Ytmcelfiljnlmoaa.Hexa

set_option maxRecDepth 100000 in
set_option maxHeartbeats 1000000 in
theorem eqIno_st (x : InoR) (a4 : Option Addr) (c4 : Nat) (a5 : Option Addr) (c5 : Nat) (b4 : Option Addr) (s4 : Nat) (b5 : Option Addr) (s5 : Nat) (w : World) (h4 : (celRow cRec x.R).Rd w (.slice a4 x.R.length c4)) (h5 : (celRow cEntry x.E).Rd w (.slice a5 x.E.length c5)) (k4 : (celRow cRec x.R).Rd w (.slice b4 x.R.length s4)) (k5 : (celRow cEntry x.E).Rd w (.slice b5 x.E.length s5)) (hz : szL (cIno.cels x) ≤ 100000000) :
    Calls Try.prog 85 #[.agg #[.int .i64 x.kd, .int .i64 x.sz, .int .i64 x.gn, .string x.key, .slice a4 x.R.length c4, .slice a5 x.E.length c5], .agg #[.int .i64 x.kd, .int .i64 x.sz, .int .i64 x.gn, .string x.key, .slice b4 x.R.length s4, .slice b5 x.E.length s5]] w fun e w' => e = .returned (.bool true) ∧ Below w.heap.size w w' := by
  rw [cIno_sz] at hz
  have hb1 := below_bk w (.cells #[.int .i64 x.kd, .int .i64 x.sz, .int .i64 x.gn, .string x.key, .slice a4 x.R.length c4, .slice a5 x.E.length c5] 59)
  have hb2 := below_bk (w.alloc (.cells #[.int .i64 x.kd, .int .i64 x.sz, .int .i64 x.gn, .string x.key, .slice a4 x.R.length c4, .slice a5 x.E.length c5] 59)) (.cells #[.int .i64 x.kd, .int .i64 x.sz, .int .i64 x.gn, .string x.key, .slice b4 x.R.length s4, .slice b5 x.E.length s5] 59)
  have T0 := Lib.hid ((Bk.alloc w #[.int .i64 x.kd, .int .i64 x.sz, .int .i64 x.gn, .string x.key, .slice a4 x.R.length c4, .slice a5 x.E.length c5] 59).later hb2)
  have U0 : Hid (Bk ((w.alloc (.cells #[.int .i64 x.kd, .int .i64 x.sz, .int .i64 x.gn, .string x.key, .slice a4 x.R.length c4, .slice a5 x.E.length c5] 59)).alloc (.cells #[.int .i64 x.kd, .int .i64 x.sz, .int .i64 x.gn, .string x.key, .slice b4 x.R.length s4, .slice b5 x.E.length s5] 59)) (w.heap.size + 1) #[.int .i64 x.kd, .int .i64 x.sz, .int .i64 x.gn, .string x.key, .slice b4 x.R.length s4, .slice b5 x.E.length s5] 59) := Lib.hid (by
    have h := Bk.alloc (w.alloc (.cells #[.int .i64 x.kd, .int .i64 x.sz, .int .i64 x.gn, .string x.key, .slice a4 x.R.length c4, .slice a5 x.E.length c5] 59)) #[.int .i64 x.kd, .int .i64 x.sz, .int .i64 x.gn, .string x.key, .slice b4 x.R.length s4, .slice b5 x.E.length s5] 59
    simpa using h)
  have B0 : Hid (Below w.heap.size w ((w.alloc (.cells #[.int .i64 x.kd, .int .i64 x.sz, .int .i64 x.gn, .string x.key, .slice a4 x.R.length c4, .slice a5 x.E.length c5] 59)).alloc (.cells #[.int .i64 x.kd, .int .i64 x.sz, .int .i64 x.gn, .string x.key, .slice b4 x.R.length s4, .slice b5 x.E.length s5] 59))) := Lib.hid (hb1.trans (hb2.mono hb1.size))
  have HS4 := Lib.hid h4
  have HU4 := Lib.hid k4
  have HS5 := Lib.hid h5
  have HU5 := Lib.hid k5
  clear hb1 hb2 h4 k4 h5 k5
  go_enter Try.func85, Try.ntmps85
  go_wp2_with fail
  refine (eqRecS_any _ _ x.R _ (Cel.Rd.later B0.out _ _ HS4.out) (Cel.Rd.later B0.out _ _ HU4.out) (by omega)).mono ?_
  rintro e w1 ⟨rfl, hb⟩
  have T1 := Lib.hid (T0.out.later hb)
  have U1 := Lib.hid (U0.out.later hb)
  have B1 : Hid (Below w.heap.size w w1) := Lib.hid (B0.out.trans (hb.mono B0.out.size))
  have x1_5 := T1.out.cell (j := 5) rfl
  have y1_5 := U1.out.cell (j := 5) rfl
  clear hb
  go_wp2_with fail
  refine (eqEntryS_any _ _ x.E _ (Cel.Rd.later B1.out _ _ HS5.out) (Cel.Rd.later B1.out _ _ HU5.out) (by omega)).mono ?_
  rintro e w2 ⟨rfl, hb⟩
  have T2 := Lib.hid (T1.out.later hb)
  have U2 := Lib.hid (U1.out.later hb)
  have B2 : Hid (Below w.heap.size w w2) := Lib.hid (B1.out.trans (hb.mono B1.out.size))
  clear hb
  go_wp2
  go_ret
  exact ⟨rfl, B2.out⟩

end Go.Proofs.Ytmcelfiljnlmoaa
namespace Go.Proofs.Ytmcelfiljnlmoaa
open Go.RowKit Go.Proofs.Ytmcelfiljnlmoaa.Parts Go.Proofs.Ytmcelfiljnlmoaa.Hexa

set_option maxRecDepth 100000 in
set_option maxHeartbeats 1000000 in
theorem eqInoS_any (v v2 : Value) (L : List InoR) (w : World) (s1 : (celRow cIno L).Rd w v) (s2 : (celRow cIno L).Rd w v2) (hz : (celRow cIno L).sz ≤ 100000000) :
    Calls Try.prog 51 #[v, v2] w fun e w' => e = .returned (.bool true) ∧ Below w.heap.size w w' := by
  obtain ⟨a, n, c, rfl, hn⟩ := row_form s1
  obtain ⟨a', n', c', rfl, hn'⟩ := row_form s2
  obtain rfl : n' = n := by rw [← hn, ← hn']
  have R1 := Lib.hid s1
  have R2 := Lib.hid s2
  have hz' : n' + szL (celsE cIno L) ≤ 100000000 := by rw [← hn]; exact hz
  have hn1 : n' ≤ 100000000 := by omega
  have HZ : Hid (szL (celsE cIno L) ≤ 100000000) := Lib.hid (by omega)
  have HN := Lib.hid hn
  clear s1 s2 hz hz' hn hn'
  go_enter Try.func51, Try.ntmps51
  go_wp2
  go_loopw [5] (fun iv wr => ∃ k : Nat, k ≤ n' ∧ iv = .int .i64 k ∧ Below w.heap.size w wr) (fun iv _ => n' - (intOf iv).toNat)
  case atStart => exact ⟨0, Nat.zero_le _, rfl, Below.refl _ _⟩
  case round =>
    obtain ⟨k, hk, rfl, hbel⟩ := hrel
    by_cases hlt : k < n'
    · have HX : Hid (szL (cIno.cels (L.getD k default)) ≤ 100000000) := Lib.hid (Nat.le_trans (szL_at cIno L k (by rw [HN.out]; exact hlt)) HZ.out)
      obtain ⟨g, off, a4, c4, a5, c5, rfl, hg, d0, d1, d2, d3, d4, d5, r4, r5⟩ := cIno_at (Cel.Rd.later hbel _ _ R1.out) k hlt
      obtain ⟨g2, off2, a4q, c4q, a5q, c5q, rfl, hg2, m0, m1, m2, m3, m4, m5, u4, u5⟩ := cIno_at (Cel.Rd.later hbel _ _ R2.out) k hlt
      obtain ⟨x, hx⟩ : ∃ x, L.getD k default = x := ⟨_, rfl⟩
      rw [hx] at d0 d1 d2 d3 d4 d5 m0 m1 m2 m3 m4 m5 r4 r5 u4 u5 HX
      clear hx
      have r4 := Cel.Rd.drew r4
      have u4 := Cel.Rd.drew u4
      have r5 := Cel.Rd.drew r5
      have u5 := Cel.Rd.drew u5
      go_wp2
      go_region_with (go_at_call 85; refine (eqIno_st x a4 c4 a5 c5 a4q c4q a5q c5q _ r4 r5 u4 u5 HX.out).mono ?_; rintro e w1 ⟨rfl, hb1⟩)
      all_goals
        have hb2 : Below w.heap.size w w1 := hbel.drew.trans (hb1.mono hbel.size)
        clear d0 d1 d2 d3 d4 d5 m0 m1 m2 m3 m4 m5 r4 r5 u4 u5 hb1
        go_wp2
        go_roundw
        case rel => exact ⟨k + 1, by omega, by go_num, hb2⟩
        case measure => (simp [intOf]; try omega)
    · obtain rfl : k = n' := by omega
      go_wp2
      go_ret
      exact ⟨rfl, hbel⟩

end Go.Proofs.Ytmcelfiljnlmoaa
namespace Go.Proofs.Ytmcelfiljnlmoaa
open Go.RowKit Go.Proofs.Ytmcelfiljnlmoaa.Parts Go.Proofs.Ytmcelfiljnlmoaa.Hexa

set_option maxRecDepth 100000 in
set_option maxHeartbeats 1000000 in
theorem eqPart_st (x : PartR) (a1 : Option Addr) (c1 : Nat) (a2 : Option Addr) (c2 : Nat) (b1 : Option Addr) (s1 : Nat) (b2 : Option Addr) (s2 : Nat) (w : World) (h1 : (celRow cInt x.st).Rd w (.slice a1 x.st.length c1)) (h2 : (celRow cIno x.ino).Rd w (.slice a2 x.ino.length c2)) (k1 : (celRow cInt x.st).Rd w (.slice b1 x.st.length s1)) (k2 : (celRow cIno x.ino).Rd w (.slice b2 x.ino.length s2)) (hz : szL (cPart.cels x) ≤ 100000000) :
    Calls Try.prog 18 #[.agg #[.int .i64 x.ser, .slice a1 x.st.length c1, .slice a2 x.ino.length c2], .agg #[.int .i64 x.ser, .slice b1 x.st.length s1, .slice b2 x.ino.length s2]] w fun e w' => e = .returned (.bool true) ∧ Below w.heap.size w w' := by
  rw [cPart_sz] at hz
  have hb1 := below_bk w (.cells #[.int .i64 x.ser, .slice a1 x.st.length c1, .slice a2 x.ino.length c2] 27)
  have hb2 := below_bk (w.alloc (.cells #[.int .i64 x.ser, .slice a1 x.st.length c1, .slice a2 x.ino.length c2] 27)) (.cells #[.int .i64 x.ser, .slice b1 x.st.length s1, .slice b2 x.ino.length s2] 27)
  have T0 := Lib.hid ((Bk.alloc w #[.int .i64 x.ser, .slice a1 x.st.length c1, .slice a2 x.ino.length c2] 27).later hb2)
  have U0 : Hid (Bk ((w.alloc (.cells #[.int .i64 x.ser, .slice a1 x.st.length c1, .slice a2 x.ino.length c2] 27)).alloc (.cells #[.int .i64 x.ser, .slice b1 x.st.length s1, .slice b2 x.ino.length s2] 27)) (w.heap.size + 1) #[.int .i64 x.ser, .slice b1 x.st.length s1, .slice b2 x.ino.length s2] 27) := Lib.hid (by
    have h := Bk.alloc (w.alloc (.cells #[.int .i64 x.ser, .slice a1 x.st.length c1, .slice a2 x.ino.length c2] 27)) #[.int .i64 x.ser, .slice b1 x.st.length s1, .slice b2 x.ino.length s2] 27
    simpa using h)
  have B0 : Hid (Below w.heap.size w ((w.alloc (.cells #[.int .i64 x.ser, .slice a1 x.st.length c1, .slice a2 x.ino.length c2] 27)).alloc (.cells #[.int .i64 x.ser, .slice b1 x.st.length s1, .slice b2 x.ino.length s2] 27))) := Lib.hid (hb1.trans (hb2.mono hb1.size))
  have HS1 := Lib.hid h1
  have HU1 := Lib.hid k1
  have HS2 := Lib.hid h2
  have HU2 := Lib.hid k2
  clear hb1 hb2 h1 k1 h2 k2
  go_enter Try.func18, Try.ntmps18
  go_wp2_with fail
  refine (eqIntS_any _ _ x.st _ (Cel.Rd.later B0.out _ _ HS1.out) (Cel.Rd.later B0.out _ _ HU1.out) (by omega)).mono ?_
  rintro e w1 ⟨rfl, hb⟩
  have T1 := Lib.hid (T0.out.later hb)
  have U1 := Lib.hid (U0.out.later hb)
  have B1 : Hid (Below w.heap.size w w1) := Lib.hid (B0.out.trans (hb.mono B0.out.size))
  have x1_2 := T1.out.cell (j := 2) rfl
  have y1_2 := U1.out.cell (j := 2) rfl
  clear hb
  go_wp2_with fail
  refine (eqInoS_any _ _ x.ino _ (Cel.Rd.later B1.out _ _ HS2.out) (Cel.Rd.later B1.out _ _ HU2.out) (by omega)).mono ?_
  rintro e w2 ⟨rfl, hb⟩
  have T2 := Lib.hid (T1.out.later hb)
  have U2 := Lib.hid (U1.out.later hb)
  have B2 : Hid (Below w.heap.size w w2) := Lib.hid (B1.out.trans (hb.mono B1.out.size))
  clear hb
  go_wp2
  go_ret
  exact ⟨rfl, B2.out⟩

end Go.Proofs.Ytmcelfiljnlmoaa
namespace Go.Proofs.Ytmcelfiljnlmoaa
open Go.RowKit Go.Proofs.Ytmcelfiljnlmoaa.Parts Go.Proofs.Ytmcelfiljnlmoaa.Hexa

theorem ret_i64m {a b : Int} (h : a = b) : Ending.returned (.int .i64 a) = .returned (.int .i64 b) := by rw [h]
theorem markText_n (i : Int) (k : Nat) (w : World) (h : i = k) (h0 : 0 < k) (hk : k ≤ 100000000) :
    Calls Try.prog 86 #[.int .i64 i] w fun e w' => e = .returned (.string (markT k)) ∧ Below w.heap.size w w' := by
  subst h; exact markText_any k w h0 hk
end Go.Proofs.Ytmcelfiljnlmoaa
namespace Go.Proofs.Ytmcelfiljnlmoaa
open Go.RowKit Go.Proofs.Ytmcelfiljnlmoaa.Parts Go.Proofs.Ytmcelfiljnlmoaa.Hexa

set_option maxRecDepth 100000 in
set_option maxHeartbeats 1000000 in
theorem markIntS_any (v : Value) (L : List Int) (F : List Nat) (k : Nat) (kz : Int) (w : World) (hkz : kz = (k : Int)) (h0 : 0 < k) (hk : k + (celRow cInt L).cnt ≤ 100000000) (hz : (celRow cInt L).sz ≤ 100000000) (hF : F.Nodup) (ho : (celRow cInt L).Own w F v) :
    Calls Try.prog 52 #[v, .int .i64 kz] w (MarkPost (celRow cInt L) F v k w) := by
  subst hkz
  obtain ⟨a, n, c, rfl, hn⟩ := row_form (Cel.Own.rd _ _ _ ho)
  have HN := Lib.hid hn
  have hz' : n + szL (celsE cInt L) ≤ 100000000 := by rw [← hn]; exact hz
  have hn9 : n ≤ 100000000 := by omega
  have HZ : Hid (szL (celsE cInt L) ≤ 100000000) := Lib.hid (by omega)
  have HF := Lib.hid hF
  have HC : Hid ((celRow cInt L).cnt = cntL (celsE cInt L)) := Lib.hid rfl
  have hk' : k + cntL (celsE cInt L) ≤ 100000000 := hk
  have HL : Hid ((celsE cInt L).length = n * 1) := Lib.hid (by rw [celsE_length, hn]; rfl)
  have HO : Hid ((Cel.sl cInt.e 1 n (stM (celsE cInt L) k 0)).Own w F (.slice a n c)) := Lib.hid (by rw [stM_zero]; have h9 := ho; unfold celRow at h9; rw [hn] at h9; exact h9)
  clear hn hF ho hk hz hz'
  go_enter Try.func52, Try.ntmps52
  go_wp2
  go_loopw [1, 5] (fun kv iv wr => ∃ (j q : Nat), j ≤ n ∧ 0 < q ∧ q ≤ 100000000 ∧ Hid (q = k + cntL (celsE cInt (L.take j))) ∧ iv = .int .i64 j ∧ kv = .int .i64 q ∧ Hid ((Cel.sl cInt.e 1 n (stM (celsE cInt L) k (j * 1))).Own wr F (.slice a n c)) ∧ Hid (OutF F w wr)) (fun _ iv _ => n - (intOf iv).toNat)
  case atStart => exact ⟨0, k, Nat.zero_le _, h0, by omega, Lib.hid (by simp only [List.take_zero, celsE, cntL]; rfl), rfl, rfl, by rw [Nat.zero_mul]; exact HO, Lib.hid (OutF.refl _ _)⟩
  case round =>
    clear HO
    obtain ⟨j, q, hj, hq0, hq9, HQ, rfl, rfl, HW, HU⟩ := hrel
    by_cases hlt : j < n
    · have hjL : j < L.length := by rw [HN.out]; exact hlt
      have HX := Lib.hid (cntL_next cInt hjL)
      have hm := cntL_take cInt L (j + 1)
      have HY := Lib.hid (Nat.le_trans (szL_at cInt L j hjL) HZ.out)
      have HG : Hid (∀ o, o < 1 → (celsE cInt L).getD (j * 1 + o) default = (cInt.cels (L.getD j default)).getD o default) := Lib.hid (fun o ho => celsE_getD cInt L j o hjL ho)
      have HA : Hid (∀ o, o ≤ 1 → atM (celsE cInt L) k (j * 1 + o) = q + cntL ((cInt.cels (L.getD j default)).take o)) := Lib.hid (fun o ho => by rw [HQ.out]; exact atM_in cInt hjL ho)
      obtain ⟨x, hx⟩ : ∃ x, L.getD j default = x := ⟨_, rfl⟩
      rw [hx] at HX HG HA HY
      have hm2 : q + cntL (cInt.cels x) ≤ 100000000 := by have := HQ.out; have := HX.out; omega
      have HM2 := Lib.hid hm2
      have hm3 : q + 1 ≤ 100000000 := by have : cntL (cInt.cels x) = (1 + 0) := rfl; omega
      clear hx hjL hm hm2
      rw [Nat.mul_one] at HW
      obtain ⟨g0, hg0, _, ⟨v0, e0⟩, z0, ho0, hu0⟩ := mark_val HW.out HF.out (i := j) (by omega) HL.out ((by have h9 := HG.out 0 (by decide); rw [Nat.mul_one, Nat.add_zero] at h9; exact h9))
      subst hg0
      have e9 : atM (celsE cInt L) k (j) = q + cntL ((cInt.cels x).take 0) := (by have h9 := HA.out 0 (by decide); rw [Nat.mul_one, Nat.add_zero] at h9; exact h9)
      have e8 : markV (.int .i64 x) (atM (celsE cInt L) k (j)) = (.int .i64 ((q : Int))) := by rw [e9]; show Value.int .i64 ((q + 0 : Nat) : Int) = _; rw [show ((q + 0 : Nat) : Int) = (q : Int) from by omega]
      rw [e8] at ho0 hu0
      clear e8 e9
      have W0 := Lib.hid ho0
      have U0 := Lib.hid (HU.out.trans hu0)
      clear ho0 hu0 HW HU
      go_wp2
      clear e0 z0
      have HR : Hid ((q + 1) = k + cntL (celsE cInt (L.take (j + 1)))) := Lib.hid (by have := HQ.out; have := HX.out; have : cntL (cInt.cels x) = (1 + 0) := rfl; omega)
      have hr9 : (q + 1) ≤ 100000000 := by have := HM2.out; have : cntL (cInt.cels x) = (1 + 0) := rfl; omega
      go_roundw
      case rel => exact ⟨j + 1, (q + 1), by omega, by omega, hr9, HR, by go_num, by go_num, by rw [Nat.mul_one]; exact W0, U0⟩
      case measure => (simp [intOf]; try omega)
    · obtain rfl : j = n := by omega
      have ho := HW.out
      rw [stM_all _ _ (by rw [HL.out]; omega)] at ho
      have HO := Lib.hid ho
      clear ho
      go_wp2
      go_ret
      refine ⟨ret_i64m (by have := HQ.out; rw [List.take_of_length_le (by rw [HN.out]; omega)] at this; rw [HC.out]; omega), HU.out, ?_⟩
      have h9 := HO.out
      rw [← HN.out] at h9 ⊢
      exact h9

theorem markIntS_obj (v : Value) (L : List Int) (lo hi k : Nat) (kz : Int) (w : World) (hkz : kz = (k : Int)) (h0 : 0 < k) (hk : k + (celRow cInt L).cnt ≤ 100000000) (hz : (celRow cInt L).sz ≤ 100000000) (ho : Obj1 w lo hi (celRow cInt L) v) :
    Calls Try.prog 52 #[v, .int .i64 kz] w fun e w' => e = .returned (.int .i64 ((k + (celRow cInt L).cnt : Nat) : Int)) ∧ OutR lo hi w w' ∧ Obj1 w' lo hi ((celRow cInt L).mk k) v := by
  obtain ⟨F, hn, hb, ho⟩ := ho
  refine (markIntS_any v L F k kz w hkz h0 hk hz hn ho).mono ?_
  rintro e w' ⟨he, hu, hw⟩
  exact ⟨he, OutR.of hu hb, F, hn, hb, hw⟩
end Go.Proofs.Ytmcelfiljnlmoaa
namespace Go.Proofs.Ytmcelfiljnlmoaa
open Go.RowKit Go.Proofs.Ytmcelfiljnlmoaa.Parts Go.Proofs.Ytmcelfiljnlmoaa.Hexa

set_option maxRecDepth 100000 in
set_option maxHeartbeats 1000000 in
theorem markRecS_any (v : Value) (L : List RecR) (F : List Nat) (k : Nat) (kz : Int) (w : World) (hkz : kz = (k : Int)) (h0 : 0 < k) (hk : k + (celRow cRec L).cnt ≤ 100000000) (hz : (celRow cRec L).sz ≤ 100000000) (hF : F.Nodup) (ho : (celRow cRec L).Own w F v) :
    Calls Try.prog 87 #[v, .int .i64 kz] w (MarkPost (celRow cRec L) F v k w) := by
  subst hkz
  obtain ⟨a, n, c, rfl, hn⟩ := row_form (Cel.Own.rd _ _ _ ho)
  have HN := Lib.hid hn
  have hz' : n + szL (celsE cRec L) ≤ 100000000 := by rw [← hn]; exact hz
  have hn9 : n ≤ 100000000 := by omega
  have HZ : Hid (szL (celsE cRec L) ≤ 100000000) := Lib.hid (by omega)
  have HF := Lib.hid hF
  have HC : Hid ((celRow cRec L).cnt = cntL (celsE cRec L)) := Lib.hid rfl
  have hk' : k + cntL (celsE cRec L) ≤ 100000000 := hk
  have HL : Hid ((celsE cRec L).length = n * 3) := Lib.hid (by rw [celsE_length, hn]; rfl)
  have HO : Hid ((Cel.sl cRec.e 3 n (stM (celsE cRec L) k 0)).Own w F (.slice a n c)) := Lib.hid (by rw [stM_zero]; have h9 := ho; unfold celRow at h9; rw [hn] at h9; exact h9)
  clear hn hF ho hk hz hz'
  go_enter Try.func87, Try.ntmps87
  go_wp2
  go_loopw [1, 5] (fun kv iv wr => ∃ (j q : Nat), j ≤ n ∧ 0 < q ∧ q ≤ 100000000 ∧ Hid (q = k + cntL (celsE cRec (L.take j))) ∧ iv = .int .i64 j ∧ kv = .int .i64 q ∧ Hid ((Cel.sl cRec.e 3 n (stM (celsE cRec L) k (j * 3))).Own wr F (.slice a n c)) ∧ Hid (OutF F w wr)) (fun _ iv _ => n - (intOf iv).toNat)
  case atStart => exact ⟨0, k, Nat.zero_le _, h0, by omega, Lib.hid (by simp only [List.take_zero, celsE, cntL]; rfl), rfl, rfl, by rw [Nat.zero_mul]; exact HO, Lib.hid (OutF.refl _ _)⟩
  case round =>
    clear HO
    obtain ⟨j, q, hj, hq0, hq9, HQ, rfl, rfl, HW, HU⟩ := hrel
    by_cases hlt : j < n
    · have hjL : j < L.length := by rw [HN.out]; exact hlt
      have HX := Lib.hid (cntL_next cRec hjL)
      have hm := cntL_take cRec L (j + 1)
      have HY := Lib.hid (Nat.le_trans (szL_at cRec L j hjL) HZ.out)
      have HG : Hid (∀ o, o < 3 → (celsE cRec L).getD (j * 3 + o) default = (cRec.cels (L.getD j default)).getD o default) := Lib.hid (fun o ho => celsE_getD cRec L j o hjL ho)
      have HA : Hid (∀ o, o ≤ 3 → atM (celsE cRec L) k (j * 3 + o) = q + cntL ((cRec.cels (L.getD j default)).take o)) := Lib.hid (fun o ho => by rw [HQ.out]; exact atM_in cRec hjL ho)
      obtain ⟨x, hx⟩ : ∃ x, L.getD j default = x := ⟨_, rfl⟩
      rw [hx] at HX HG HA HY
      have hm2 : q + cntL (cRec.cels x) ≤ 100000000 := by have := HQ.out; have := HX.out; omega
      have HM2 := Lib.hid hm2
      have hm3 : q + 3 ≤ 100000000 := by have : cntL (cRec.cels x) = (1 + (1 + (1 + 0))) := rfl; omega
      clear hx hjL hm hm2
      obtain ⟨g0, hg0, _, ⟨v0, e0⟩, z0, ho0, hu0⟩ := mark_val HW.out HF.out (i := j * 3) (by omega) HL.out (HG.out 0 (by decide))
      subst hg0
      have e9 : atM (celsE cRec L) k (j * 3) = q + cntL ((cRec.cels x).take 0) := HA.out 0 (by decide)
      have e8 : markV (.int .i64 x.f0) (atM (celsE cRec L) k (j * 3)) = (.int .i64 ((q : Int))) := by rw [e9]; show Value.int .i64 ((q + 0 : Nat) : Int) = _; rw [show ((q + 0 : Nat) : Int) = (q : Int) from by omega]
      rw [e8] at ho0 hu0
      clear e8 e9
      have W0 := Lib.hid ho0
      have U0 := Lib.hid (HU.out.trans hu0)
      clear ho0 hu0 HW HU
      obtain ⟨g1, hg1, _, ⟨v1, e1⟩, z1, ho1, hu1⟩ := mark_val W0.out HF.out (i := j * 3 + 1) (by omega) HL.out (HG.out 1 (by decide))
      obtain rfl : g0 = g1 := by simpa using hg1
      have e9 : atM (celsE cRec L) k (j * 3 + 1) = q + cntL ((cRec.cels x).take 1) := HA.out 1 (by decide)
      have e8 : markV (.int .i64 x.f1) (atM (celsE cRec L) k (j * 3 + 1)) = (.int .i64 ((q : Int) + 1)) := by rw [e9]; show Value.int .i64 ((q + (1 + 0) : Nat) : Int) = _; rw [show ((q + (1 + 0) : Nat) : Int) = (q : Int) + 1 from by omega]
      rw [e8] at ho1 hu1
      clear e8 e9
      have W1 := Lib.hid ho1
      have U1 := Lib.hid (U0.out.trans hu1)
      clear ho1 hu1 W0 U0
      go_wp2_with fail
      clear e0 z0 e1 z1
      obtain ⟨wa2, hwa⟩ : ∃ y, y = ((wr.setCell ⟨g0, j * 3, none⟩ (.int .i64 ((q : Int)))).setCell ⟨g0, j * 3 + 1, none⟩ (.int .i64 ((q : Int) + 1))) := ⟨_, rfl⟩
      rw [← hwa] at W1 U1 ⊢
      clear hwa
      refine (markText_n _ (q + 2) _ (by omega) (by omega) (by omega)).mono ?_
      rintro e y2 ⟨rfl, hb⟩
      have W2t := Lib.hid (Cel.Own.kept _ _ _ (fun g hg => hb.block g (Cel.Own.lt _ _ _ W1.out g hg)) W1.out)
      have U2t := Lib.hid (U1.out.trans (OutF.of_below hb))
      clear hb W1 U1
      obtain ⟨g2, hg2, _, ⟨v2, e2⟩, z2, ho2, hu2⟩ := mark_val W2t.out HF.out (i := j * 3 + 2) (by omega) HL.out (HG.out 2 (by decide))
      obtain rfl : g0 = g2 := by simpa using hg2
      have e9 : atM (celsE cRec L) k (j * 3 + 2) = q + cntL ((cRec.cels x).take 2) := HA.out 2 (by decide)
      have e8 : markV (.string x.f2) (atM (celsE cRec L) k (j * 3 + 2)) = (.string (markT (q + 2))) := by rw [e9]; show Value.string (markT (q + (1 + (1 + 0)))) = _; rw [show q + (1 + (1 + 0)) = (q + 2) from by omega]
      rw [e8] at ho2 hu2
      clear e8 e9
      have W2 := Lib.hid ho2
      have U2 := Lib.hid (U2t.out.trans hu2)
      clear ho2 hu2 W2t U2t
      go_wp2
      clear e2 z2
      have HR : Hid ((q + 3) = k + cntL (celsE cRec (L.take (j + 1)))) := Lib.hid (by have := HQ.out; have := HX.out; have : cntL (cRec.cels x) = (1 + (1 + (1 + 0))) := rfl; omega)
      have hr9 : (q + 3) ≤ 100000000 := by have := HM2.out; have : cntL (cRec.cels x) = (1 + (1 + (1 + 0))) := rfl; omega
      go_roundw
      case rel => exact ⟨j + 1, (q + 3), by omega, by omega, hr9, HR, by go_num, by go_num, by rw [Nat.add_mul, Nat.one_mul]; exact W2, U2⟩
      case measure => (simp [intOf]; try omega)
    · obtain rfl : j = n := by omega
      have ho := HW.out
      rw [stM_all _ _ (by rw [HL.out]; omega)] at ho
      have HO := Lib.hid ho
      clear ho
      go_wp2
      go_ret
      refine ⟨ret_i64m (by have := HQ.out; rw [List.take_of_length_le (by rw [HN.out]; omega)] at this; rw [HC.out]; omega), HU.out, ?_⟩
      have h9 := HO.out
      rw [← HN.out] at h9 ⊢
      exact h9

theorem markRecS_obj (v : Value) (L : List RecR) (lo hi k : Nat) (kz : Int) (w : World) (hkz : kz = (k : Int)) (h0 : 0 < k) (hk : k + (celRow cRec L).cnt ≤ 100000000) (hz : (celRow cRec L).sz ≤ 100000000) (ho : Obj1 w lo hi (celRow cRec L) v) :
    Calls Try.prog 87 #[v, .int .i64 kz] w fun e w' => e = .returned (.int .i64 ((k + (celRow cRec L).cnt : Nat) : Int)) ∧ OutR lo hi w w' ∧ Obj1 w' lo hi ((celRow cRec L).mk k) v := by
  obtain ⟨F, hn, hb, ho⟩ := ho
  refine (markRecS_any v L F k kz w hkz h0 hk hz hn ho).mono ?_
  rintro e w' ⟨he, hu, hw⟩
  exact ⟨he, OutR.of hu hb, F, hn, hb, hw⟩
end Go.Proofs.Ytmcelfiljnlmoaa
namespace Go.Proofs.Ytmcelfiljnlmoaa
open Go.RowKit Go.Proofs.Ytmcelfiljnlmoaa.Parts Go.Proofs.Ytmcelfiljnlmoaa.Hexa

set_option maxRecDepth 100000 in
set_option maxHeartbeats 1000000 in
theorem markEntryS_any (v : Value) (L : List EntryR) (F : List Nat) (k : Nat) (kz : Int) (w : World) (hkz : kz = (k : Int)) (h0 : 0 < k) (hk : k + (celRow cEntry L).cnt ≤ 100000000) (hz : (celRow cEntry L).sz ≤ 100000000) (hF : F.Nodup) (ho : (celRow cEntry L).Own w F v) :
    Calls Try.prog 88 #[v, .int .i64 kz] w (MarkPost (celRow cEntry L) F v k w) := by
  subst hkz
  obtain ⟨a, n, c, rfl, hn⟩ := row_form (Cel.Own.rd _ _ _ ho)
  have HN := Lib.hid hn
  have hz' : n + szL (celsE cEntry L) ≤ 100000000 := by rw [← hn]; exact hz
  have hn9 : n ≤ 100000000 := by omega
  have HZ : Hid (szL (celsE cEntry L) ≤ 100000000) := Lib.hid (by omega)
  have HF := Lib.hid hF
  have HC : Hid ((celRow cEntry L).cnt = cntL (celsE cEntry L)) := Lib.hid rfl
  have hk' : k + cntL (celsE cEntry L) ≤ 100000000 := hk
  have HL : Hid ((celsE cEntry L).length = n * 2) := Lib.hid (by rw [celsE_length, hn]; rfl)
  have HO : Hid ((Cel.sl cEntry.e 2 n (stM (celsE cEntry L) k 0)).Own w F (.slice a n c)) := Lib.hid (by rw [stM_zero]; have h9 := ho; unfold celRow at h9; rw [hn] at h9; exact h9)
  clear hn hF ho hk hz hz'
  go_enter Try.func88, Try.ntmps88
  go_wp2
  go_loopw [1, 5] (fun kv iv wr => ∃ (j q : Nat), j ≤ n ∧ 0 < q ∧ q ≤ 100000000 ∧ Hid (q = k + cntL (celsE cEntry (L.take j))) ∧ iv = .int .i64 j ∧ kv = .int .i64 q ∧ Hid ((Cel.sl cEntry.e 2 n (stM (celsE cEntry L) k (j * 2))).Own wr F (.slice a n c)) ∧ Hid (OutF F w wr)) (fun _ iv _ => n - (intOf iv).toNat)
  case atStart => exact ⟨0, k, Nat.zero_le _, h0, by omega, Lib.hid (by simp only [List.take_zero, celsE, cntL]; rfl), rfl, rfl, by rw [Nat.zero_mul]; exact HO, Lib.hid (OutF.refl _ _)⟩
  case round =>
    clear HO
    obtain ⟨j, q, hj, hq0, hq9, HQ, rfl, rfl, HW, HU⟩ := hrel
    by_cases hlt : j < n
    · have hjL : j < L.length := by rw [HN.out]; exact hlt
      have HX := Lib.hid (cntL_next cEntry hjL)
      have hm := cntL_take cEntry L (j + 1)
      have HY := Lib.hid (Nat.le_trans (szL_at cEntry L j hjL) HZ.out)
      have HG : Hid (∀ o, o < 2 → (celsE cEntry L).getD (j * 2 + o) default = (cEntry.cels (L.getD j default)).getD o default) := Lib.hid (fun o ho => celsE_getD cEntry L j o hjL ho)
      have HA : Hid (∀ o, o ≤ 2 → atM (celsE cEntry L) k (j * 2 + o) = q + cntL ((cEntry.cels (L.getD j default)).take o)) := Lib.hid (fun o ho => by rw [HQ.out]; exact atM_in cEntry hjL ho)
      obtain ⟨x, hx⟩ : ∃ x, L.getD j default = x := ⟨_, rfl⟩
      rw [hx] at HX HG HA HY
      have hm2 : q + cntL (cEntry.cels x) ≤ 100000000 := by have := HQ.out; have := HX.out; omega
      have HM2 := Lib.hid hm2
      have hm3 : q + 2 ≤ 100000000 := by have : cntL (cEntry.cels x) = (1 + (1 + 0)) := rfl; omega
      clear hx hjL hm hm2
      obtain ⟨g0, hg0, _, ⟨v0, e0⟩, z0, ho0, hu0⟩ := mark_val HW.out HF.out (i := j * 2) (by omega) HL.out (HG.out 0 (by decide))
      subst hg0
      have e9 : atM (celsE cEntry L) k (j * 2) = q + cntL ((cEntry.cels x).take 0) := HA.out 0 (by decide)
      have e8 : markV (.int .i64 x.f0) (atM (celsE cEntry L) k (j * 2)) = (.int .i64 ((q : Int))) := by rw [e9]; show Value.int .i64 ((q + 0 : Nat) : Int) = _; rw [show ((q + 0 : Nat) : Int) = (q : Int) from by omega]
      rw [e8] at ho0 hu0
      clear e8 e9
      have W0 := Lib.hid ho0
      have U0 := Lib.hid (HU.out.trans hu0)
      clear ho0 hu0 HW HU
      go_wp2_with fail
      clear e0 z0
      obtain ⟨wa1, hwa⟩ : ∃ y, y = (wr.setCell ⟨g0, j * 2, none⟩ (.int .i64 ((q : Int)))) := ⟨_, rfl⟩
      rw [← hwa] at W0 U0 ⊢
      clear hwa
      refine (markText_n _ (q + 1) _ (by omega) (by omega) (by omega)).mono ?_
      rintro e y1 ⟨rfl, hb⟩
      have W1t := Lib.hid (Cel.Own.kept _ _ _ (fun g hg => hb.block g (Cel.Own.lt _ _ _ W0.out g hg)) W0.out)
      have U1t := Lib.hid (U0.out.trans (OutF.of_below hb))
      clear hb W0 U0
      obtain ⟨g1, hg1, _, ⟨v1, e1⟩, z1, ho1, hu1⟩ := mark_val W1t.out HF.out (i := j * 2 + 1) (by omega) HL.out (HG.out 1 (by decide))
      obtain rfl : g0 = g1 := by simpa using hg1
      have e9 : atM (celsE cEntry L) k (j * 2 + 1) = q + cntL ((cEntry.cels x).take 1) := HA.out 1 (by decide)
      have e8 : markV (.string x.f1) (atM (celsE cEntry L) k (j * 2 + 1)) = (.string (markT (q + 1))) := by rw [e9]; show Value.string (markT (q + (1 + 0))) = _; rw [show q + (1 + 0) = (q + 1) from by omega]
      rw [e8] at ho1 hu1
      clear e8 e9
      have W1 := Lib.hid ho1
      have U1 := Lib.hid (U1t.out.trans hu1)
      clear ho1 hu1 W1t U1t
      go_wp2
      clear e1 z1
      have HR : Hid ((q + 2) = k + cntL (celsE cEntry (L.take (j + 1)))) := Lib.hid (by have := HQ.out; have := HX.out; have : cntL (cEntry.cels x) = (1 + (1 + 0)) := rfl; omega)
      have hr9 : (q + 2) ≤ 100000000 := by have := HM2.out; have : cntL (cEntry.cels x) = (1 + (1 + 0)) := rfl; omega
      go_roundw
      case rel => exact ⟨j + 1, (q + 2), by omega, by omega, hr9, HR, by go_num, by go_num, by rw [Nat.add_mul, Nat.one_mul]; exact W1, U1⟩
      case measure => (simp [intOf]; try omega)
    · obtain rfl : j = n := by omega
      have ho := HW.out
      rw [stM_all _ _ (by rw [HL.out]; omega)] at ho
      have HO := Lib.hid ho
      clear ho
      go_wp2
      go_ret
      refine ⟨ret_i64m (by have := HQ.out; rw [List.take_of_length_le (by rw [HN.out]; omega)] at this; rw [HC.out]; omega), HU.out, ?_⟩
      have h9 := HO.out
      rw [← HN.out] at h9 ⊢
      exact h9

theorem markEntryS_obj (v : Value) (L : List EntryR) (lo hi k : Nat) (kz : Int) (w : World) (hkz : kz = (k : Int)) (h0 : 0 < k) (hk : k + (celRow cEntry L).cnt ≤ 100000000) (hz : (celRow cEntry L).sz ≤ 100000000) (ho : Obj1 w lo hi (celRow cEntry L) v) :
    Calls Try.prog 88 #[v, .int .i64 kz] w fun e w' => e = .returned (.int .i64 ((k + (celRow cEntry L).cnt : Nat) : Int)) ∧ OutR lo hi w w' ∧ Obj1 w' lo hi ((celRow cEntry L).mk k) v := by
  obtain ⟨F, hn, hb, ho⟩ := ho
  refine (markEntryS_any v L F k kz w hkz h0 hk hz hn ho).mono ?_
  rintro e w' ⟨he, hu, hw⟩
  exact ⟨he, OutR.of hu hb, F, hn, hb, hw⟩
end Go.Proofs.Ytmcelfiljnlmoaa
