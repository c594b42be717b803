/- Merged texts: ChangedLaw. -/
import Derived.Test.YtmkchilhnmkhkabGreatP15ZJ
namespace Go.Proofs.YtmkchilhnmkhkabGreat
open Go.RowKit Go.Proofs.YtmkchilhnmkhkabGreat.Parts Go.Proofs.YtmkchilhnmkhkabGreat.Hexa Go.Proofs.YtmkchilhnmkhkabGreat.Byt

set_option maxRecDepth 100000 in
set_option maxHeartbeats 4000000 in
theorem changed_law (Tg Pg Ig Qg : Int) (t : Int) (p : PartR) (a1_p : Option Addr) (c1_p : Nat) (a2_p : Option Addr) (c2_p : Nat) (q : PartR) (a1_q : Option Addr) (c1_q : Nat) (a2_q : Option Addr) (c2_q : Nat) (w : World) (ht_p : TyL (cPart.cels p)) (h1_p : (celRow cInt p.st).Rd w (.slice a1_p p.st.length c1_p)) (h2_p : (celRow cIno p.ino).Rd w (.slice a2_p p.ino.length c2_p)) (ht_q : TyL (cPart.cels q)) (h1_q : (celRow cInt q.st).Rd w (.slice a1_q q.st.length c1_q)) (h2_q : (celRow cIno q.ino).Rd w (.slice a2_q q.ino.length c2_q)) :
    Calls Tryz.prog 4 #[.agg #[.int .i64 Tg, .int .i64 Pg, .int .i64 Ig, .int .i64 Qg], .int .i64 t, .agg #[.int .i64 p.ser, .slice a1_p p.st.length c1_p, .slice a2_p p.ino.length c2_p], .agg #[.int .i64 q.ser, .slice a1_q q.st.length c1_q, .slice a2_q q.ino.length c2_q]] w fun e w' => e = .returned (.bool true) ∧ Below w.heap.size w w' := by
  have HT_p := Lib.hid ht_p
  clear ht_p
  have HS1_p := Lib.hid h1_p
  clear h1_p
  have HS2_p := Lib.hid h2_p
  clear h2_p
  have HT_q := Lib.hid ht_q
  clear ht_q
  have HS1_q := Lib.hid h1_q
  clear h1_q
  have HS2_q := Lib.hid h2_q
  clear h2_q
  obtain ⟨r, hr⟩ : ∃ r, chR Tg Pg Ig Qg t p q = r := ⟨_, rfl⟩
  have HR := Lib.hid hr
  have HRZ : Hid ((celRow cWrite r).sz ≤ 100000000) := Lib.hid (by rw [← hr]; exact Nat.le_trans (chR_sz _ _ _ _ _ _ _) (by decide))
  have HRC : Hid (1 + (celRow cWrite r).cnt ≤ 100000000) := Lib.hid (by rw [← hr]; have := chR_cnt Tg Pg Ig Qg t p q; omega)
  clear hr
  have HTI_p : Hid (TyL (celsE cIno p.ino)) := Lib.hid HT_p.out.2.2.1.2
  have HTI_q : Hid (TyL (celsE cIno q.ino)) := Lib.hid HT_q.out.2.2.1.2
  have Xg_0 := Lib.hid (((Bk.alloc w #[.int .i64 Tg, .int .i64 Pg, .int .i64 Ig, .int .i64 Qg] 23).later (below_bk (w.alloc (.cells #[.int .i64 Tg, .int .i64 Pg, .int .i64 Ig, .int .i64 Qg] 23)) (.cells #[.int .i64 p.ser, .slice a1_p p.st.length c1_p, .slice a2_p p.ino.length c2_p] 27))).later (below_bk ((w.alloc (.cells #[.int .i64 Tg, .int .i64 Pg, .int .i64 Ig, .int .i64 Qg] 23)).alloc (.cells #[.int .i64 p.ser, .slice a1_p p.st.length c1_p, .slice a2_p p.ino.length c2_p] 27)) (.cells #[.int .i64 q.ser, .slice a1_q q.st.length c1_q, .slice a2_q q.ino.length c2_q] 27)))
  have Xp_0 : Hid (Bk (((w.alloc (.cells #[.int .i64 Tg, .int .i64 Pg, .int .i64 Ig, .int .i64 Qg] 23)).alloc (.cells #[.int .i64 p.ser, .slice a1_p p.st.length c1_p, .slice a2_p p.ino.length c2_p] 27)).alloc (.cells #[.int .i64 q.ser, .slice a1_q q.st.length c1_q, .slice a2_q q.ino.length c2_q] 27)) (w.heap.size + 1) #[.int .i64 p.ser, .slice a1_p p.st.length c1_p, .slice a2_p p.ino.length c2_p] 27) := Lib.hid (by have h := ((Bk.alloc (w.alloc (.cells #[.int .i64 Tg, .int .i64 Pg, .int .i64 Ig, .int .i64 Qg] 23)) #[.int .i64 p.ser, .slice a1_p p.st.length c1_p, .slice a2_p p.ino.length c2_p] 27).later (below_bk ((w.alloc (.cells #[.int .i64 Tg, .int .i64 Pg, .int .i64 Ig, .int .i64 Qg] 23)).alloc (.cells #[.int .i64 p.ser, .slice a1_p p.st.length c1_p, .slice a2_p p.ino.length c2_p] 27)) (.cells #[.int .i64 q.ser, .slice a1_q q.st.length c1_q, .slice a2_q q.ino.length c2_q] 27))); simpa using h)
  have Xq_0 : Hid (Bk (((w.alloc (.cells #[.int .i64 Tg, .int .i64 Pg, .int .i64 Ig, .int .i64 Qg] 23)).alloc (.cells #[.int .i64 p.ser, .slice a1_p p.st.length c1_p, .slice a2_p p.ino.length c2_p] 27)).alloc (.cells #[.int .i64 q.ser, .slice a1_q q.st.length c1_q, .slice a2_q q.ino.length c2_q] 27)) (w.heap.size + 1 + 1) #[.int .i64 q.ser, .slice a1_q q.st.length c1_q, .slice a2_q q.ino.length c2_q] 27) := Lib.hid (by have h := (Bk.alloc ((w.alloc (.cells #[.int .i64 Tg, .int .i64 Pg, .int .i64 Ig, .int .i64 Qg] 23)).alloc (.cells #[.int .i64 p.ser, .slice a1_p p.st.length c1_p, .slice a2_p p.ino.length c2_p] 27)) #[.int .i64 q.ser, .slice a1_q q.st.length c1_q, .slice a2_q q.ino.length c2_q] 27); simpa using h)
  have BW_0 := Lib.hid (((below_bk w (.cells #[.int .i64 Tg, .int .i64 Pg, .int .i64 Ig, .int .i64 Qg] 23)).alloc (by simp) (.cells #[.int .i64 p.ser, .slice a1_p p.st.length c1_p, .slice a2_p p.ino.length c2_p] 27)).alloc (by simp; omega) (.cells #[.int .i64 q.ser, .slice a1_q q.st.length c1_q, .slice a2_q q.ino.length c2_q] 27))
  go_enter Tryz.func4, Tryz.ntmps4
  have dg0 := Xg_0.out.cell (j := 0) rfl
  have dg1 := Xg_0.out.cell (j := 1) rfl
  have dg2 := Xg_0.out.cell (j := 2) rfl
  have dg3 := Xg_0.out.cell (j := 3) rfl
  have dp0 := Xp_0.out.cell (j := 0) rfl
  have dp1 := Xp_0.out.cell (j := 1) rfl
  have dp2 := Xp_0.out.cell (j := 2) rfl
  have dq0 := Xq_0.out.cell (j := 0) rfl
  have dq1 := Xq_0.out.cell (j := 1) rfl
  have dq2 := Xq_0.out.cell (j := 2) rfl
  go_wp2_with fail
  obtain ⟨V0, hV⟩ : ∃ y, y = (((w.alloc (.cells #[.int .i64 Tg, .int .i64 Pg, .int .i64 Ig, .int .i64 Qg] 23)).alloc (.cells #[.int .i64 p.ser, .slice a1_p p.st.length c1_p, .slice a2_p p.ino.length c2_p] 27)).alloc (.cells #[.int .i64 q.ser, .slice a1_q q.st.length c1_q, .slice a2_q q.ino.length c2_q] 27)) := ⟨_, rfl⟩
  clear dg0 dg1 dg2 dg3 dp0 dp1 dp2 dq0 dq1 dq2
  rw [← hV] at Xg_0 Xp_0 Xq_0 BW_0 ⊢
  have SZ_V0 : Hid (w.heap.size + 3 ≤ V0.heap.size) := Lib.hid (by rw [hV]; simp)
  clear hV
  refine (szPart_st p a1_p c1_p a2_p c2_p 1048576 _ (by decide) (by decide) (Cel.Rd.later BW_0.out _ _ HS1_p.out) (Cel.Rd.later BW_0.out _ _ HS2_p.out) HT_p.out).mono ?_
  rintro e w1 ⟨l_p, rfl, hr, hb⟩
  have Xg_1 := Lib.hid (Xg_0.out.later hb)
  have Xp_1 := Lib.hid (Xp_0.out.later hb)
  have Xq_1 := Lib.hid (Xq_0.out.later hb)
  have BW_1 : Hid (Below w.heap.size w w1) := Lib.hid (BW_0.out.trans (hb.mono BW_0.out.size))
  have SZ_w1 : Hid (V0.heap.size ≤ w1.heap.size) := Lib.hid hb.size
  clear hb Xg_0 Xp_0 Xq_0 BW_0
  rcases hr with hr | ⟨hl0, hl1⟩
  · go_wp2
    go_ret
    exact ⟨rfl, BW_1.out⟩
  have HZ_p : Hid (szL (cPart.cels p) ≤ 1048576) := Lib.hid (by omega)
  have HZB_p : Hid (szL (cPart.cels p) ≤ 100000000) := Lib.hid (by omega)
  have hq_p : ¬ (l_p < 0) := by omega
  have hp_p : l_p ≤ 1048576 := by omega
  clear hl1
  have dg0 := Xg_1.out.cell (j := 0) rfl
  have dg1 := Xg_1.out.cell (j := 1) rfl
  have dg2 := Xg_1.out.cell (j := 2) rfl
  have dg3 := Xg_1.out.cell (j := 3) rfl
  have dp0 := Xp_1.out.cell (j := 0) rfl
  have dp1 := Xp_1.out.cell (j := 1) rfl
  have dp2 := Xp_1.out.cell (j := 2) rfl
  have dq0 := Xq_1.out.cell (j := 0) rfl
  have dq1 := Xq_1.out.cell (j := 1) rfl
  have dq2 := Xq_1.out.cell (j := 2) rfl
  go_wp2_with fail
  clear dg0 dg1 dg2 dg3 dp0 dp1 dp2 dq0 dq1 dq2
  refine (szPart_st q a1_q c1_q a2_q c2_q l_p _ (by omega) (by omega) (Cel.Rd.later BW_1.out _ _ HS1_q.out) (Cel.Rd.later BW_1.out _ _ HS2_q.out) HT_q.out).mono ?_
  rintro e w2 ⟨l_q, rfl, hr, hb⟩
  have Xg_2 := Lib.hid (Xg_1.out.later hb)
  have Xp_2 := Lib.hid (Xp_1.out.later hb)
  have Xq_2 := Lib.hid (Xq_1.out.later hb)
  have BW_2 : Hid (Below w.heap.size w w2) := Lib.hid (BW_1.out.trans (hb.mono BW_1.out.size))
  have SZ_w2 : Hid (w1.heap.size ≤ w2.heap.size) := Lib.hid hb.size
  clear hb Xg_1 Xp_1 Xq_1 BW_1
  rcases hr with hr | ⟨hl0, hl1⟩
  · go_wp2
    go_ret
    exact ⟨rfl, BW_2.out⟩
  have HZ_q : Hid (szL (cPart.cels q) ≤ 1048576) := Lib.hid (by omega)
  have HZB_q : Hid (szL (cPart.cels q) ≤ 100000000) := Lib.hid (by omega)
  have hq_q : ¬ (l_q < 0) := by omega
  have hp_q : l_q ≤ 1048576 := by omega
  clear hl1
  have HPP := Lib.hid (part_marks5 p HZ_p.out)
  have HPQ := Lib.hid (part_marks5 q HZ_q.out)
  have HPC : Hid (1 + cntTop (cPart.cels p) ≤ 100000000) := Lib.hid (by have := HPP.out; omega)
  have dg0 := Xg_2.out.cell (j := 0) rfl
  have dg1 := Xg_2.out.cell (j := 1) rfl
  have dg2 := Xg_2.out.cell (j := 2) rfl
  have dg3 := Xg_2.out.cell (j := 3) rfl
  have dp0 := Xp_2.out.cell (j := 0) rfl
  have dp1 := Xp_2.out.cell (j := 1) rfl
  have dp2 := Xp_2.out.cell (j := 2) rfl
  have dq0 := Xq_2.out.cell (j := 0) rfl
  have dq1 := Xq_2.out.cell (j := 1) rfl
  have dq2 := Xq_2.out.cell (j := 2) rfl
  go_upto_region 8 with fail
  clear dg0 dg1 dg2 dg3 dp0 dp1 dp2 dq0 dq1 dq2
  go_cut [10] (fun sv wx => Obj1 wx w2.heap.size wx.heap.size (celRow cWrite r) sv ∧ Below w2.heap.size w2 wx)
  case first =>
    have Zg := Lib.hid Xg_2.out.drew
    have Zp := Lib.hid Xp_2.out.drew
    have Zq := Lib.hid Xq_2.out.drew
    have BD : Hid (Below w2.heap.size w2 w2.drew) := Lib.hid (Below.refl _ _).drew
    go_region_held3 (fun w' => w'.cell? ⟨w.heap.size, 0, none⟩ = some (.int .i64 Tg) ∧ w'.cell? ⟨w.heap.size, 1, none⟩ = some (.int .i64 Pg) ∧ w'.cell? ⟨w.heap.size, 2, none⟩ = some (.int .i64 Ig) ∧ w'.cell? ⟨w.heap.size, 3, none⟩ = some (.int .i64 Qg) ∧ w'.cell? ⟨w.heap.size + 1, 0, none⟩ = some (.int .i64 p.ser) ∧ w'.cell? ⟨w.heap.size + 1, 1, none⟩ = some (.slice a1_p p.st.length c1_p) ∧ w'.cell? ⟨w.heap.size + 1, 2, none⟩ = some (.slice a2_p p.ino.length c2_p) ∧ w'.cell? ⟨w.heap.size + 1 + 1, 0, none⟩ = some (.int .i64 q.ser) ∧ w'.cell? ⟨w.heap.size + 1 + 1, 1, none⟩ = some (.slice a1_q q.st.length c1_q) ∧ w'.cell? ⟨w.heap.size + 1 + 1, 2, none⟩ = some (.slice a2_q q.ino.length c2_q))
      (first
        | exact ⟨Zg.out.cell rfl, Zg.out.cell rfl, Zg.out.cell rfl, Zg.out.cell rfl, Zp.out.cell rfl, Zp.out.cell rfl, Zp.out.cell rfl, Zq.out.cell rfl, Zq.out.cell rfl, Zq.out.cell rfl⟩
        | exact ⟨(Zg.out.later (D012_1.out)).cell rfl, (Zg.out.later (D012_1.out)).cell rfl, (Zg.out.later (D012_1.out)).cell rfl, (Zg.out.later (D012_1.out)).cell rfl, (Zp.out.later (D012_1.out)).cell rfl, (Zp.out.later (D012_1.out)).cell rfl, (Zp.out.later (D012_1.out)).cell rfl, (Zq.out.later (D012_1.out)).cell rfl, (Zq.out.later (D012_1.out)).cell rfl, (Zq.out.later (D012_1.out)).cell rfl⟩
        | exact ⟨(Zg.out.later (D012_2.out)).cell rfl, (Zg.out.later (D012_2.out)).cell rfl, (Zg.out.later (D012_2.out)).cell rfl, (Zg.out.later (D012_2.out)).cell rfl, (Zp.out.later (D012_2.out)).cell rfl, (Zp.out.later (D012_2.out)).cell rfl, (Zp.out.later (D012_2.out)).cell rfl, (Zq.out.later (D012_2.out)).cell rfl, (Zq.out.later (D012_2.out)).cell rfl, (Zq.out.later (D012_2.out)).cell rfl⟩
        | exact ⟨(Zg.out.later (D012_3.out)).cell rfl, (Zg.out.later (D012_3.out)).cell rfl, (Zg.out.later (D012_3.out)).cell rfl, (Zg.out.later (D012_3.out)).cell rfl, (Zp.out.later (D012_3.out)).cell rfl, (Zp.out.later (D012_3.out)).cell rfl, (Zp.out.later (D012_3.out)).cell rfl, (Zq.out.later (D012_3.out)).cell rfl, (Zq.out.later (D012_3.out)).cell rfl, (Zq.out.later (D012_3.out)).cell rfl⟩
        | exact ⟨(Zg.out.later (D012_4.out)).cell rfl, (Zg.out.later (D012_4.out)).cell rfl, (Zg.out.later (D012_4.out)).cell rfl, (Zg.out.later (D012_4.out)).cell rfl, (Zp.out.later (D012_4.out)).cell rfl, (Zp.out.later (D012_4.out)).cell rfl, (Zp.out.later (D012_4.out)).cell rfl, (Zq.out.later (D012_4.out)).cell rfl, (Zq.out.later (D012_4.out)).cell rfl, (Zq.out.later (D012_4.out)).cell rfl⟩
        | exact ⟨(Zg.out.later (D021_1.out)).cell rfl, (Zg.out.later (D021_1.out)).cell rfl, (Zg.out.later (D021_1.out)).cell rfl, (Zg.out.later (D021_1.out)).cell rfl, (Zp.out.later (D021_1.out)).cell rfl, (Zp.out.later (D021_1.out)).cell rfl, (Zp.out.later (D021_1.out)).cell rfl, (Zq.out.later (D021_1.out)).cell rfl, (Zq.out.later (D021_1.out)).cell rfl, (Zq.out.later (D021_1.out)).cell rfl⟩
        | exact ⟨(Zg.out.later (D021_2.out)).cell rfl, (Zg.out.later (D021_2.out)).cell rfl, (Zg.out.later (D021_2.out)).cell rfl, (Zg.out.later (D021_2.out)).cell rfl, (Zp.out.later (D021_2.out)).cell rfl, (Zp.out.later (D021_2.out)).cell rfl, (Zp.out.later (D021_2.out)).cell rfl, (Zq.out.later (D021_2.out)).cell rfl, (Zq.out.later (D021_2.out)).cell rfl, (Zq.out.later (D021_2.out)).cell rfl⟩
        | exact ⟨(Zg.out.later (D021_3.out)).cell rfl, (Zg.out.later (D021_3.out)).cell rfl, (Zg.out.later (D021_3.out)).cell rfl, (Zg.out.later (D021_3.out)).cell rfl, (Zp.out.later (D021_3.out)).cell rfl, (Zp.out.later (D021_3.out)).cell rfl, (Zp.out.later (D021_3.out)).cell rfl, (Zq.out.later (D021_3.out)).cell rfl, (Zq.out.later (D021_3.out)).cell rfl, (Zq.out.later (D021_3.out)).cell rfl⟩
        | exact ⟨(Zg.out.later (D021_4.out)).cell rfl, (Zg.out.later (D021_4.out)).cell rfl, (Zg.out.later (D021_4.out)).cell rfl, (Zg.out.later (D021_4.out)).cell rfl, (Zp.out.later (D021_4.out)).cell rfl, (Zp.out.later (D021_4.out)).cell rfl, (Zp.out.later (D021_4.out)).cell rfl, (Zq.out.later (D021_4.out)).cell rfl, (Zq.out.later (D021_4.out)).cell rfl, (Zq.out.later (D021_4.out)).cell rfl⟩
        | exact ⟨(Zg.out.later (D102_1.out)).cell rfl, (Zg.out.later (D102_1.out)).cell rfl, (Zg.out.later (D102_1.out)).cell rfl, (Zg.out.later (D102_1.out)).cell rfl, (Zp.out.later (D102_1.out)).cell rfl, (Zp.out.later (D102_1.out)).cell rfl, (Zp.out.later (D102_1.out)).cell rfl, (Zq.out.later (D102_1.out)).cell rfl, (Zq.out.later (D102_1.out)).cell rfl, (Zq.out.later (D102_1.out)).cell rfl⟩
        | exact ⟨(Zg.out.later (D102_2.out)).cell rfl, (Zg.out.later (D102_2.out)).cell rfl, (Zg.out.later (D102_2.out)).cell rfl, (Zg.out.later (D102_2.out)).cell rfl, (Zp.out.later (D102_2.out)).cell rfl, (Zp.out.later (D102_2.out)).cell rfl, (Zp.out.later (D102_2.out)).cell rfl, (Zq.out.later (D102_2.out)).cell rfl, (Zq.out.later (D102_2.out)).cell rfl, (Zq.out.later (D102_2.out)).cell rfl⟩
        | exact ⟨(Zg.out.later (D102_3.out)).cell rfl, (Zg.out.later (D102_3.out)).cell rfl, (Zg.out.later (D102_3.out)).cell rfl, (Zg.out.later (D102_3.out)).cell rfl, (Zp.out.later (D102_3.out)).cell rfl, (Zp.out.later (D102_3.out)).cell rfl, (Zp.out.later (D102_3.out)).cell rfl, (Zq.out.later (D102_3.out)).cell rfl, (Zq.out.later (D102_3.out)).cell rfl, (Zq.out.later (D102_3.out)).cell rfl⟩
        | exact ⟨(Zg.out.later (D102_4.out)).cell rfl, (Zg.out.later (D102_4.out)).cell rfl, (Zg.out.later (D102_4.out)).cell rfl, (Zg.out.later (D102_4.out)).cell rfl, (Zp.out.later (D102_4.out)).cell rfl, (Zp.out.later (D102_4.out)).cell rfl, (Zp.out.later (D102_4.out)).cell rfl, (Zq.out.later (D102_4.out)).cell rfl, (Zq.out.later (D102_4.out)).cell rfl, (Zq.out.later (D102_4.out)).cell rfl⟩
        | exact ⟨(Zg.out.later (D120_1.out)).cell rfl, (Zg.out.later (D120_1.out)).cell rfl, (Zg.out.later (D120_1.out)).cell rfl, (Zg.out.later (D120_1.out)).cell rfl, (Zp.out.later (D120_1.out)).cell rfl, (Zp.out.later (D120_1.out)).cell rfl, (Zp.out.later (D120_1.out)).cell rfl, (Zq.out.later (D120_1.out)).cell rfl, (Zq.out.later (D120_1.out)).cell rfl, (Zq.out.later (D120_1.out)).cell rfl⟩
        | exact ⟨(Zg.out.later (D120_2.out)).cell rfl, (Zg.out.later (D120_2.out)).cell rfl, (Zg.out.later (D120_2.out)).cell rfl, (Zg.out.later (D120_2.out)).cell rfl, (Zp.out.later (D120_2.out)).cell rfl, (Zp.out.later (D120_2.out)).cell rfl, (Zp.out.later (D120_2.out)).cell rfl, (Zq.out.later (D120_2.out)).cell rfl, (Zq.out.later (D120_2.out)).cell rfl, (Zq.out.later (D120_2.out)).cell rfl⟩
        | exact ⟨(Zg.out.later (D120_3.out)).cell rfl, (Zg.out.later (D120_3.out)).cell rfl, (Zg.out.later (D120_3.out)).cell rfl, (Zg.out.later (D120_3.out)).cell rfl, (Zp.out.later (D120_3.out)).cell rfl, (Zp.out.later (D120_3.out)).cell rfl, (Zp.out.later (D120_3.out)).cell rfl, (Zq.out.later (D120_3.out)).cell rfl, (Zq.out.later (D120_3.out)).cell rfl, (Zq.out.later (D120_3.out)).cell rfl⟩
        | exact ⟨(Zg.out.later (D120_4.out)).cell rfl, (Zg.out.later (D120_4.out)).cell rfl, (Zg.out.later (D120_4.out)).cell rfl, (Zg.out.later (D120_4.out)).cell rfl, (Zp.out.later (D120_4.out)).cell rfl, (Zp.out.later (D120_4.out)).cell rfl, (Zp.out.later (D120_4.out)).cell rfl, (Zq.out.later (D120_4.out)).cell rfl, (Zq.out.later (D120_4.out)).cell rfl, (Zq.out.later (D120_4.out)).cell rfl⟩
        | exact ⟨(Zg.out.later (D201_1.out)).cell rfl, (Zg.out.later (D201_1.out)).cell rfl, (Zg.out.later (D201_1.out)).cell rfl, (Zg.out.later (D201_1.out)).cell rfl, (Zp.out.later (D201_1.out)).cell rfl, (Zp.out.later (D201_1.out)).cell rfl, (Zp.out.later (D201_1.out)).cell rfl, (Zq.out.later (D201_1.out)).cell rfl, (Zq.out.later (D201_1.out)).cell rfl, (Zq.out.later (D201_1.out)).cell rfl⟩
        | exact ⟨(Zg.out.later (D201_2.out)).cell rfl, (Zg.out.later (D201_2.out)).cell rfl, (Zg.out.later (D201_2.out)).cell rfl, (Zg.out.later (D201_2.out)).cell rfl, (Zp.out.later (D201_2.out)).cell rfl, (Zp.out.later (D201_2.out)).cell rfl, (Zp.out.later (D201_2.out)).cell rfl, (Zq.out.later (D201_2.out)).cell rfl, (Zq.out.later (D201_2.out)).cell rfl, (Zq.out.later (D201_2.out)).cell rfl⟩
        | exact ⟨(Zg.out.later (D201_3.out)).cell rfl, (Zg.out.later (D201_3.out)).cell rfl, (Zg.out.later (D201_3.out)).cell rfl, (Zg.out.later (D201_3.out)).cell rfl, (Zp.out.later (D201_3.out)).cell rfl, (Zp.out.later (D201_3.out)).cell rfl, (Zp.out.later (D201_3.out)).cell rfl, (Zq.out.later (D201_3.out)).cell rfl, (Zq.out.later (D201_3.out)).cell rfl, (Zq.out.later (D201_3.out)).cell rfl⟩
        | exact ⟨(Zg.out.later (D201_4.out)).cell rfl, (Zg.out.later (D201_4.out)).cell rfl, (Zg.out.later (D201_4.out)).cell rfl, (Zg.out.later (D201_4.out)).cell rfl, (Zp.out.later (D201_4.out)).cell rfl, (Zp.out.later (D201_4.out)).cell rfl, (Zp.out.later (D201_4.out)).cell rfl, (Zq.out.later (D201_4.out)).cell rfl, (Zq.out.later (D201_4.out)).cell rfl, (Zq.out.later (D201_4.out)).cell rfl⟩
        | exact ⟨(Zg.out.later (D210_1.out)).cell rfl, (Zg.out.later (D210_1.out)).cell rfl, (Zg.out.later (D210_1.out)).cell rfl, (Zg.out.later (D210_1.out)).cell rfl, (Zp.out.later (D210_1.out)).cell rfl, (Zp.out.later (D210_1.out)).cell rfl, (Zp.out.later (D210_1.out)).cell rfl, (Zq.out.later (D210_1.out)).cell rfl, (Zq.out.later (D210_1.out)).cell rfl, (Zq.out.later (D210_1.out)).cell rfl⟩
        | exact ⟨(Zg.out.later (D210_2.out)).cell rfl, (Zg.out.later (D210_2.out)).cell rfl, (Zg.out.later (D210_2.out)).cell rfl, (Zg.out.later (D210_2.out)).cell rfl, (Zp.out.later (D210_2.out)).cell rfl, (Zp.out.later (D210_2.out)).cell rfl, (Zp.out.later (D210_2.out)).cell rfl, (Zq.out.later (D210_2.out)).cell rfl, (Zq.out.later (D210_2.out)).cell rfl, (Zq.out.later (D210_2.out)).cell rfl⟩
        | exact ⟨(Zg.out.later (D210_3.out)).cell rfl, (Zg.out.later (D210_3.out)).cell rfl, (Zg.out.later (D210_3.out)).cell rfl, (Zg.out.later (D210_3.out)).cell rfl, (Zp.out.later (D210_3.out)).cell rfl, (Zp.out.later (D210_3.out)).cell rfl, (Zp.out.later (D210_3.out)).cell rfl, (Zq.out.later (D210_3.out)).cell rfl, (Zq.out.later (D210_3.out)).cell rfl, (Zq.out.later (D210_3.out)).cell rfl⟩
        | exact ⟨(Zg.out.later (D210_4.out)).cell rfl, (Zg.out.later (D210_4.out)).cell rfl, (Zg.out.later (D210_4.out)).cell rfl, (Zg.out.later (D210_4.out)).cell rfl, (Zp.out.later (D210_4.out)).cell rfl, (Zp.out.later (D210_4.out)).cell rfl, (Zp.out.later (D210_4.out)).cell rfl, (Zq.out.later (D210_4.out)).cell rfl, (Zq.out.later (D210_4.out)).cell rfl, (Zq.out.later (D210_4.out)).cell rfl⟩
        | go_keep)
      (first
        | (go_at_call 15; (with_reducible refine (specCh_obj Tg Pg Ig Qg t p a1_012p c1_012p a2_012p c2_012p q a1_012q c1_012q a2_012q c2_012q _ (cPart_un (O012p_3.out.rd)).1 (cPart_un (O012p_3.out.rd)).2 HZ_p.out HTI_p.out (cPart_un (O012q_3.out.rd)).1 (cPart_un (O012q_3.out.rd)).2 HZ_q.out HTI_q.out HR.out).mono ?_); rintro e wz012_4 ⟨vz, rfl, ho, hb⟩; have HO012 := Lib.hid (ho.mono (Nat.le_trans BD.out.size D012_3.out.size) (Nat.le_refl _)); have D012_4 : Hid (Below w2.drew.heap.size w2.drew wz012_4) := Lib.hid (D012_3.out.trans (hb.mono D012_3.out.size)); have B012_4 : Hid (Below w2.heap.size w2 wz012_4) := Lib.hid (BD.out.trans (D012_4.out.mono BD.out.size)); clear hb ho)
        | (go_at_call 15; (with_reducible refine (specCh_obj Tg Pg Ig Qg t p a1_021p c1_021p a2_021p c2_021p q a1_021q c1_021q a2_021q c2_021q _ (cPart_un (O021p_3.out.rd)).1 (cPart_un (O021p_3.out.rd)).2 HZ_p.out HTI_p.out (cPart_un (O021q_3.out.rd)).1 (cPart_un (O021q_3.out.rd)).2 HZ_q.out HTI_q.out HR.out).mono ?_); rintro e wz021_4 ⟨vz, rfl, ho, hb⟩; have HO021 := Lib.hid (ho.mono (Nat.le_trans BD.out.size D021_3.out.size) (Nat.le_refl _)); have D021_4 : Hid (Below w2.drew.heap.size w2.drew wz021_4) := Lib.hid (D021_3.out.trans (hb.mono D021_3.out.size)); have B021_4 : Hid (Below w2.heap.size w2 wz021_4) := Lib.hid (BD.out.trans (D021_4.out.mono BD.out.size)); clear hb ho)
        | (go_at_call 15; (with_reducible refine (specCh_obj Tg Pg Ig Qg t p a1_102p c1_102p a2_102p c2_102p q a1_102q c1_102q a2_102q c2_102q _ (cPart_un (O102p_3.out.rd)).1 (cPart_un (O102p_3.out.rd)).2 HZ_p.out HTI_p.out (cPart_un (O102q_3.out.rd)).1 (cPart_un (O102q_3.out.rd)).2 HZ_q.out HTI_q.out HR.out).mono ?_); rintro e wz102_4 ⟨vz, rfl, ho, hb⟩; have HO102 := Lib.hid (ho.mono (Nat.le_trans BD.out.size D102_3.out.size) (Nat.le_refl _)); have D102_4 : Hid (Below w2.drew.heap.size w2.drew wz102_4) := Lib.hid (D102_3.out.trans (hb.mono D102_3.out.size)); have B102_4 : Hid (Below w2.heap.size w2 wz102_4) := Lib.hid (BD.out.trans (D102_4.out.mono BD.out.size)); clear hb ho)
        | (go_at_call 15; (with_reducible refine (specCh_obj Tg Pg Ig Qg t p a1_120p c1_120p a2_120p c2_120p q a1_120q c1_120q a2_120q c2_120q _ (cPart_un (O120p_3.out.rd)).1 (cPart_un (O120p_3.out.rd)).2 HZ_p.out HTI_p.out (cPart_un (O120q_3.out.rd)).1 (cPart_un (O120q_3.out.rd)).2 HZ_q.out HTI_q.out HR.out).mono ?_); rintro e wz120_4 ⟨vz, rfl, ho, hb⟩; have HO120 := Lib.hid (ho.mono (Nat.le_trans BD.out.size D120_3.out.size) (Nat.le_refl _)); have D120_4 : Hid (Below w2.drew.heap.size w2.drew wz120_4) := Lib.hid (D120_3.out.trans (hb.mono D120_3.out.size)); have B120_4 : Hid (Below w2.heap.size w2 wz120_4) := Lib.hid (BD.out.trans (D120_4.out.mono BD.out.size)); clear hb ho)
        | (go_at_call 15; (with_reducible refine (specCh_obj Tg Pg Ig Qg t p a1_201p c1_201p a2_201p c2_201p q a1_201q c1_201q a2_201q c2_201q _ (cPart_un (O201p_3.out.rd)).1 (cPart_un (O201p_3.out.rd)).2 HZ_p.out HTI_p.out (cPart_un (O201q_3.out.rd)).1 (cPart_un (O201q_3.out.rd)).2 HZ_q.out HTI_q.out HR.out).mono ?_); rintro e wz201_4 ⟨vz, rfl, ho, hb⟩; have HO201 := Lib.hid (ho.mono (Nat.le_trans BD.out.size D201_3.out.size) (Nat.le_refl _)); have D201_4 : Hid (Below w2.drew.heap.size w2.drew wz201_4) := Lib.hid (D201_3.out.trans (hb.mono D201_3.out.size)); have B201_4 : Hid (Below w2.heap.size w2 wz201_4) := Lib.hid (BD.out.trans (D201_4.out.mono BD.out.size)); clear hb ho)
        | (go_at_call 15; (with_reducible refine (specCh_obj Tg Pg Ig Qg t p a1_210p c1_210p a2_210p c2_210p q a1_210q c1_210q a2_210q c2_210q _ (cPart_un (O210p_3.out.rd)).1 (cPart_un (O210p_3.out.rd)).2 HZ_p.out HTI_p.out (cPart_un (O210q_3.out.rd)).1 (cPart_un (O210q_3.out.rd)).2 HZ_q.out HTI_q.out HR.out).mono ?_); rintro e wz210_4 ⟨vz, rfl, ho, hb⟩; have HO210 := Lib.hid (ho.mono (Nat.le_trans BD.out.size D210_3.out.size) (Nat.le_refl _)); have D210_4 : Hid (Below w2.drew.heap.size w2.drew wz210_4) := Lib.hid (D210_3.out.trans (hb.mono D210_3.out.size)); have B210_4 : Hid (Below w2.heap.size w2 wz210_4) := Lib.hid (BD.out.trans (D210_4.out.mono BD.out.size)); clear hb ho)
        | (go_at_call 8; (with_reducible refine (toPart_st q a1_q c1_q a2_q c2_q _ (Cel.Rd.later (BW_2.out.trans (B012_2.out.mono BW_2.out.size)) _ _ HS1_q.out) (Cel.Rd.later (BW_2.out.trans (B012_2.out.mono BW_2.out.size)) _ _ HS2_q.out) HZ_q.out).mono ?_); rintro e wz012_3 ⟨vs, rfl, ho, hb⟩; obtain ⟨a1_012q, c1_012q, a2_012q, c2_012q, rfl, _, _⟩ := cPart_form ho.rd; have O012q_3 := Lib.hid ho; have D012_3 : Hid (Below w2.drew.heap.size w2.drew wz012_3) := Lib.hid (D012_2.out.trans (hb.mono D012_2.out.size)); have B012_3 : Hid (Below w2.heap.size w2 wz012_3) := Lib.hid (BD.out.trans (D012_3.out.mono BD.out.size)); have O012p_3 := Lib.hid (O012p_2.out.later hb); clear hb ho)
        | (go_at_call 8; (with_reducible refine (toPart_st p a1_p c1_p a2_p c2_p _ (Cel.Rd.later (BW_2.out.trans (B021_2.out.mono BW_2.out.size)) _ _ HS1_p.out) (Cel.Rd.later (BW_2.out.trans (B021_2.out.mono BW_2.out.size)) _ _ HS2_p.out) HZ_p.out).mono ?_); rintro e wz021_3 ⟨vs, rfl, ho, hb⟩; obtain ⟨a1_021p, c1_021p, a2_021p, c2_021p, rfl, _, _⟩ := cPart_form ho.rd; have O021p_3 := Lib.hid ho; have D021_3 : Hid (Below w2.drew.heap.size w2.drew wz021_3) := Lib.hid (D021_2.out.trans (hb.mono D021_2.out.size)); have B021_3 : Hid (Below w2.heap.size w2 wz021_3) := Lib.hid (BD.out.trans (D021_3.out.mono BD.out.size)); have O021q_3 := Lib.hid (O021q_2.out.later hb); clear hb ho)
        | (go_at_call 8; (with_reducible refine (toPart_st q a1_q c1_q a2_q c2_q _ (Cel.Rd.later (BW_2.out.trans (B102_2.out.mono BW_2.out.size)) _ _ HS1_q.out) (Cel.Rd.later (BW_2.out.trans (B102_2.out.mono BW_2.out.size)) _ _ HS2_q.out) HZ_q.out).mono ?_); rintro e wz102_3 ⟨vs, rfl, ho, hb⟩; obtain ⟨a1_102q, c1_102q, a2_102q, c2_102q, rfl, _, _⟩ := cPart_form ho.rd; have O102q_3 := Lib.hid ho; have D102_3 : Hid (Below w2.drew.heap.size w2.drew wz102_3) := Lib.hid (D102_2.out.trans (hb.mono D102_2.out.size)); have B102_3 : Hid (Below w2.heap.size w2 wz102_3) := Lib.hid (BD.out.trans (D102_3.out.mono BD.out.size)); have O102p_3 := Lib.hid (O102p_2.out.later hb); clear hb ho)
        | (go_at_call 7; (with_reducible refine (toGeo_any Tg Pg Ig Qg _).mono ?_); rintro e wz120_3 ⟨rfl, hb⟩; have D120_3 : Hid (Below w2.drew.heap.size w2.drew wz120_3) := Lib.hid (D120_2.out.trans (hb.mono D120_2.out.size)); have B120_3 : Hid (Below w2.heap.size w2 wz120_3) := Lib.hid (BD.out.trans (D120_3.out.mono BD.out.size)); have O120p_3 := Lib.hid (O120p_2.out.later hb); have O120q_3 := Lib.hid (O120q_2.out.later hb); clear hb)
        | (go_at_call 8; (with_reducible refine (toPart_st p a1_p c1_p a2_p c2_p _ (Cel.Rd.later (BW_2.out.trans (B201_2.out.mono BW_2.out.size)) _ _ HS1_p.out) (Cel.Rd.later (BW_2.out.trans (B201_2.out.mono BW_2.out.size)) _ _ HS2_p.out) HZ_p.out).mono ?_); rintro e wz201_3 ⟨vs, rfl, ho, hb⟩; obtain ⟨a1_201p, c1_201p, a2_201p, c2_201p, rfl, _, _⟩ := cPart_form ho.rd; have O201p_3 := Lib.hid ho; have D201_3 : Hid (Below w2.drew.heap.size w2.drew wz201_3) := Lib.hid (D201_2.out.trans (hb.mono D201_2.out.size)); have B201_3 : Hid (Below w2.heap.size w2 wz201_3) := Lib.hid (BD.out.trans (D201_3.out.mono BD.out.size)); have O201q_3 := Lib.hid (O201q_2.out.later hb); clear hb ho)
        | (go_at_call 7; (with_reducible refine (toGeo_any Tg Pg Ig Qg _).mono ?_); rintro e wz210_3 ⟨rfl, hb⟩; have D210_3 : Hid (Below w2.drew.heap.size w2.drew wz210_3) := Lib.hid (D210_2.out.trans (hb.mono D210_2.out.size)); have B210_3 : Hid (Below w2.heap.size w2 wz210_3) := Lib.hid (BD.out.trans (D210_3.out.mono BD.out.size)); have O210q_3 := Lib.hid (O210q_2.out.later hb); have O210p_3 := Lib.hid (O210p_2.out.later hb); clear hb)
        | (go_at_call 8; (with_reducible refine (toPart_st p a1_p c1_p a2_p c2_p _ (Cel.Rd.later (BW_2.out.trans (B012_1.out.mono BW_2.out.size)) _ _ HS1_p.out) (Cel.Rd.later (BW_2.out.trans (B012_1.out.mono BW_2.out.size)) _ _ HS2_p.out) HZ_p.out).mono ?_); rintro e wz012_2 ⟨vs, rfl, ho, hb⟩; obtain ⟨a1_012p, c1_012p, a2_012p, c2_012p, rfl, _, _⟩ := cPart_form ho.rd; have O012p_2 := Lib.hid ho; have D012_2 : Hid (Below w2.drew.heap.size w2.drew wz012_2) := Lib.hid (D012_1.out.trans (hb.mono D012_1.out.size)); have B012_2 : Hid (Below w2.heap.size w2 wz012_2) := Lib.hid (BD.out.trans (D012_2.out.mono BD.out.size)); clear hb ho)
        | (go_at_call 8; (with_reducible refine (toPart_st q a1_q c1_q a2_q c2_q _ (Cel.Rd.later (BW_2.out.trans (B021_1.out.mono BW_2.out.size)) _ _ HS1_q.out) (Cel.Rd.later (BW_2.out.trans (B021_1.out.mono BW_2.out.size)) _ _ HS2_q.out) HZ_q.out).mono ?_); rintro e wz021_2 ⟨vs, rfl, ho, hb⟩; obtain ⟨a1_021q, c1_021q, a2_021q, c2_021q, rfl, _, _⟩ := cPart_form ho.rd; have O021q_2 := Lib.hid ho; have D021_2 : Hid (Below w2.drew.heap.size w2.drew wz021_2) := Lib.hid (D021_1.out.trans (hb.mono D021_1.out.size)); have B021_2 : Hid (Below w2.heap.size w2 wz021_2) := Lib.hid (BD.out.trans (D021_2.out.mono BD.out.size)); clear hb ho)
        | (go_at_call 7; (with_reducible refine (toGeo_any Tg Pg Ig Qg _).mono ?_); rintro e wz102_2 ⟨rfl, hb⟩; have D102_2 : Hid (Below w2.drew.heap.size w2.drew wz102_2) := Lib.hid (D102_1.out.trans (hb.mono D102_1.out.size)); have B102_2 : Hid (Below w2.heap.size w2 wz102_2) := Lib.hid (BD.out.trans (D102_2.out.mono BD.out.size)); have O102p_2 := Lib.hid (O102p_1.out.later hb); clear hb)
        | (go_at_call 8; (with_reducible refine (toPart_st q a1_q c1_q a2_q c2_q _ (Cel.Rd.later (BW_2.out.trans (B120_1.out.mono BW_2.out.size)) _ _ HS1_q.out) (Cel.Rd.later (BW_2.out.trans (B120_1.out.mono BW_2.out.size)) _ _ HS2_q.out) HZ_q.out).mono ?_); rintro e wz120_2 ⟨vs, rfl, ho, hb⟩; obtain ⟨a1_120q, c1_120q, a2_120q, c2_120q, rfl, _, _⟩ := cPart_form ho.rd; have O120q_2 := Lib.hid ho; have D120_2 : Hid (Below w2.drew.heap.size w2.drew wz120_2) := Lib.hid (D120_1.out.trans (hb.mono D120_1.out.size)); have B120_2 : Hid (Below w2.heap.size w2 wz120_2) := Lib.hid (BD.out.trans (D120_2.out.mono BD.out.size)); have O120p_2 := Lib.hid (O120p_1.out.later hb); clear hb ho)
        | (go_at_call 7; (with_reducible refine (toGeo_any Tg Pg Ig Qg _).mono ?_); rintro e wz201_2 ⟨rfl, hb⟩; have D201_2 : Hid (Below w2.drew.heap.size w2.drew wz201_2) := Lib.hid (D201_1.out.trans (hb.mono D201_1.out.size)); have B201_2 : Hid (Below w2.heap.size w2 wz201_2) := Lib.hid (BD.out.trans (D201_2.out.mono BD.out.size)); have O201q_2 := Lib.hid (O201q_1.out.later hb); clear hb)
        | (go_at_call 8; (with_reducible refine (toPart_st p a1_p c1_p a2_p c2_p _ (Cel.Rd.later (BW_2.out.trans (B210_1.out.mono BW_2.out.size)) _ _ HS1_p.out) (Cel.Rd.later (BW_2.out.trans (B210_1.out.mono BW_2.out.size)) _ _ HS2_p.out) HZ_p.out).mono ?_); rintro e wz210_2 ⟨vs, rfl, ho, hb⟩; obtain ⟨a1_210p, c1_210p, a2_210p, c2_210p, rfl, _, _⟩ := cPart_form ho.rd; have O210p_2 := Lib.hid ho; have D210_2 : Hid (Below w2.drew.heap.size w2.drew wz210_2) := Lib.hid (D210_1.out.trans (hb.mono D210_1.out.size)); have B210_2 : Hid (Below w2.heap.size w2 wz210_2) := Lib.hid (BD.out.trans (D210_2.out.mono BD.out.size)); have O210q_2 := Lib.hid (O210q_1.out.later hb); clear hb ho)
        | (go_at_call 7; (with_reducible refine (toGeo_any Tg Pg Ig Qg _).mono ?_); rintro e wz012_1 ⟨rfl, hb⟩; have D012_1 : Hid (Below w2.drew.heap.size w2.drew wz012_1) := Lib.hid (hb); have B012_1 : Hid (Below w2.heap.size w2 wz012_1) := Lib.hid (BD.out.trans (D012_1.out.mono BD.out.size)); clear hb)
        | (go_at_call 7; (with_reducible refine (toGeo_any Tg Pg Ig Qg _).mono ?_); rintro e wz021_1 ⟨rfl, hb⟩; have D021_1 : Hid (Below w2.drew.heap.size w2.drew wz021_1) := Lib.hid (hb); have B021_1 : Hid (Below w2.heap.size w2 wz021_1) := Lib.hid (BD.out.trans (D021_1.out.mono BD.out.size)); clear hb)
        | (go_at_call 8; (with_reducible refine (toPart_st p a1_p c1_p a2_p c2_p _ (Cel.Rd.later (BW_2.out.trans (BD.out.mono BW_2.out.size)) _ _ HS1_p.out) (Cel.Rd.later (BW_2.out.trans (BD.out.mono BW_2.out.size)) _ _ HS2_p.out) HZ_p.out).mono ?_); rintro e wz102_1 ⟨vs, rfl, ho, hb⟩; obtain ⟨a1_102p, c1_102p, a2_102p, c2_102p, rfl, _, _⟩ := cPart_form ho.rd; have O102p_1 := Lib.hid ho; have D102_1 : Hid (Below w2.drew.heap.size w2.drew wz102_1) := Lib.hid (hb); have B102_1 : Hid (Below w2.heap.size w2 wz102_1) := Lib.hid (BD.out.trans (D102_1.out.mono BD.out.size)); clear hb ho)
        | (go_at_call 8; (with_reducible refine (toPart_st p a1_p c1_p a2_p c2_p _ (Cel.Rd.later (BW_2.out.trans (BD.out.mono BW_2.out.size)) _ _ HS1_p.out) (Cel.Rd.later (BW_2.out.trans (BD.out.mono BW_2.out.size)) _ _ HS2_p.out) HZ_p.out).mono ?_); rintro e wz120_1 ⟨vs, rfl, ho, hb⟩; obtain ⟨a1_120p, c1_120p, a2_120p, c2_120p, rfl, _, _⟩ := cPart_form ho.rd; have O120p_1 := Lib.hid ho; have D120_1 : Hid (Below w2.drew.heap.size w2.drew wz120_1) := Lib.hid (hb); have B120_1 : Hid (Below w2.heap.size w2 wz120_1) := Lib.hid (BD.out.trans (D120_1.out.mono BD.out.size)); clear hb ho)
        | (go_at_call 8; (with_reducible refine (toPart_st q a1_q c1_q a2_q c2_q _ (Cel.Rd.later (BW_2.out.trans (BD.out.mono BW_2.out.size)) _ _ HS1_q.out) (Cel.Rd.later (BW_2.out.trans (BD.out.mono BW_2.out.size)) _ _ HS2_q.out) HZ_q.out).mono ?_); rintro e wz201_1 ⟨vs, rfl, ho, hb⟩; obtain ⟨a1_201q, c1_201q, a2_201q, c2_201q, rfl, _, _⟩ := cPart_form ho.rd; have O201q_1 := Lib.hid ho; have D201_1 : Hid (Below w2.drew.heap.size w2.drew wz201_1) := Lib.hid (hb); have B201_1 : Hid (Below w2.heap.size w2 wz201_1) := Lib.hid (BD.out.trans (D201_1.out.mono BD.out.size)); clear hb ho)
        | (go_at_call 8; (with_reducible refine (toPart_st q a1_q c1_q a2_q c2_q _ (Cel.Rd.later (BW_2.out.trans (BD.out.mono BW_2.out.size)) _ _ HS1_q.out) (Cel.Rd.later (BW_2.out.trans (BD.out.mono BW_2.out.size)) _ _ HS2_q.out) HZ_q.out).mono ?_); rintro e wz210_1 ⟨vs, rfl, ho, hb⟩; obtain ⟨a1_210q, c1_210q, a2_210q, c2_210q, rfl, _, _⟩ := cPart_form ho.rd; have O210q_1 := Lib.hid ho; have D210_1 : Hid (Below w2.drew.heap.size w2.drew wz210_1) := Lib.hid (hb); have B210_1 : Hid (Below w2.heap.size w2 wz210_1) := Lib.hid (BD.out.trans (D210_1.out.mono BD.out.size)); clear hb ho))
    all_goals
      go_wp2
      go_meet
      first | exact ⟨HO012.out, B012_4.out⟩ | exact ⟨HO021.out, B021_4.out⟩ | exact ⟨HO102.out, B102_4.out⟩ | exact ⟨HO120.out, B120_4.out⟩ | exact ⟨HO201.out, B201_4.out⟩ | exact ⟨HO210.out, B210_4.out⟩
  case rest =>
  obtain ⟨ho, hb⟩ := hcut
  obtain ⟨w3, hnew⟩ : ∃ y, y = wc := ⟨_, rfl⟩
  rw [← hnew] at ho hb ⊢
  clear hnew
  obtain ⟨v_w, hnew⟩ : ∃ y, y = u10 := ⟨_, rfl⟩
  rw [← hnew] at ho ⊢
  clear hnew
  have Xg_3 := Lib.hid (Xg_2.out.later hb)
  have Xp_3 := Lib.hid (Xp_2.out.later hb)
  have Xq_3 := Lib.hid (Xq_2.out.later hb)
  have BW_3 : Hid (Below w.heap.size w w3) := Lib.hid (BW_2.out.trans (hb.mono BW_2.out.size))
  have SZ_w3 : Hid (w2.heap.size ≤ w3.heap.size) := Lib.hid hb.size
  clear hb Xg_2 Xp_2 Xq_2 BW_2
  have Ow_3x := Lib.hid ho
  clear ho
  have dg0 := Xg_3.out.cell (j := 0) rfl
  have dg1 := Xg_3.out.cell (j := 1) rfl
  have dg2 := Xg_3.out.cell (j := 2) rfl
  have dg3 := Xg_3.out.cell (j := 3) rfl
  have dp0 := Xp_3.out.cell (j := 0) rfl
  have dp1 := Xp_3.out.cell (j := 1) rfl
  have dp2 := Xp_3.out.cell (j := 2) rfl
  have dq0 := Xq_3.out.cell (j := 0) rfl
  have dq1 := Xq_3.out.cell (j := 1) rfl
  have dq2 := Xq_3.out.cell (j := 2) rfl
  go_wp2_with fail
  clear dg0 dg1 dg2 dg3 dp0 dp1 dp2 dq0 dq1 dq2
  refine (toPart_st p a1_p c1_p a2_p c2_p _ (Cel.Rd.later BW_3.out _ _ HS1_p.out) (Cel.Rd.later BW_3.out _ _ HS2_p.out) HZ_p.out).mono ?_
  rintro e w4 ⟨vs, rfl, ho, hb⟩
  have Xg_4 := Lib.hid (Xg_3.out.later hb)
  have Xp_4 := Lib.hid (Xp_3.out.later hb)
  have Xq_4 := Lib.hid (Xq_3.out.later hb)
  have Ow_4 := Lib.hid (Ow_3x.out.later hb)
  have BW_4 : Hid (Below w.heap.size w w4) := Lib.hid (BW_3.out.trans (hb.mono BW_3.out.size))
  have SZ_w4 : Hid (w3.heap.size ≤ w4.heap.size) := Lib.hid hb.size
  clear hb Xg_3 Xp_3 Xq_3 Ow_3x BW_3
  obtain ⟨a1_x, c1_x, a2_x, c2_x, rfl, _, _⟩ := cPart_form ho.rd
  have Ox_4x := Lib.hid ho
  clear ho
  have hba := below_bk w4 (.cells #[.int .i64 p.ser, .slice a1_x p.st.length c1_x, .slice a2_x p.ino.length c2_x] 35)
  have Xg_5 := Lib.hid (Xg_4.out.later hba)
  have Xp_5 := Lib.hid (Xp_4.out.later hba)
  have Xq_5 := Lib.hid (Xq_4.out.later hba)
  have Ow_5 := Lib.hid (Ow_4.out.later hba)
  have Ox_5 := Lib.hid (Ox_4x.out.later hba)
  have BW_5 : Hid (Below w.heap.size w (w4.alloc (.cells #[.int .i64 p.ser, .slice a1_x p.st.length c1_x, .slice a2_x p.ino.length c2_x] 35))) := Lib.hid (BW_4.out.trans (hba.mono BW_4.out.size))
  have Xx_5 := Lib.hid (Bk.alloc w4 #[.int .i64 p.ser, .slice a1_x p.st.length c1_x, .slice a2_x p.ino.length c2_x] 35)
  clear hba Xg_4 Xp_4 Xq_4 Ow_4 Ox_4x BW_4
  have dg0 := Xg_5.out.cell (j := 0) rfl
  have dg1 := Xg_5.out.cell (j := 1) rfl
  have dg2 := Xg_5.out.cell (j := 2) rfl
  have dg3 := Xg_5.out.cell (j := 3) rfl
  have dp0 := Xp_5.out.cell (j := 0) rfl
  have dp1 := Xp_5.out.cell (j := 1) rfl
  have dp2 := Xp_5.out.cell (j := 2) rfl
  have dq0 := Xq_5.out.cell (j := 0) rfl
  have dq1 := Xq_5.out.cell (j := 1) rfl
  have dq2 := Xq_5.out.cell (j := 2) rfl
  have dx0 := Xx_5.out.cell (j := 0) rfl
  have dx1 := Xx_5.out.cell (j := 1) rfl
  have dx2 := Xx_5.out.cell (j := 2) rfl
  go_wp2_with fail
  obtain ⟨V4, hV⟩ : ∃ y, y = (w4.alloc (.cells #[.int .i64 p.ser, .slice a1_x p.st.length c1_x, .slice a2_x p.ino.length c2_x] 35)) := ⟨_, rfl⟩
  clear dg0 dg1 dg2 dg3 dp0 dp1 dp2 dq0 dq1 dq2 dx0 dx1 dx2
  rw [← hV] at Xg_5 Xp_5 Xq_5 Xx_5 Ow_5 Ox_5 BW_5 ⊢
  have SZ_V4 : Hid (w4.heap.size + 1 ≤ V4.heap.size) := Lib.hid (by rw [hV]; simp)
  clear hV
  refine (toPart_st q a1_q c1_q a2_q c2_q _ (Cel.Rd.later BW_5.out _ _ HS1_q.out) (Cel.Rd.later BW_5.out _ _ HS2_q.out) HZ_q.out).mono ?_
  rintro e w5 ⟨vs, rfl, ho, hb⟩
  have Xg_6 := Lib.hid (Xg_5.out.later hb)
  have Xp_6 := Lib.hid (Xp_5.out.later hb)
  have Xq_6 := Lib.hid (Xq_5.out.later hb)
  have Xx_6 := Lib.hid (Xx_5.out.later hb)
  have Ow_6 := Lib.hid (Ow_5.out.later hb)
  have Ox_6 := Lib.hid (Ox_5.out.later hb)
  have BW_6 : Hid (Below w.heap.size w w5) := Lib.hid (BW_5.out.trans (hb.mono BW_5.out.size))
  have SZ_w5 : Hid (V4.heap.size ≤ w5.heap.size) := Lib.hid hb.size
  clear hb Xg_5 Xp_5 Xq_5 Xx_5 Ow_5 Ox_5 BW_5
  obtain ⟨a1_y, c1_y, a2_y, c2_y, rfl, _, _⟩ := cPart_form ho.rd
  have Oy_6x := Lib.hid ho
  clear ho
  have hba := below_bk w5 (.cells #[.int .i64 q.ser, .slice a1_y q.st.length c1_y, .slice a2_y q.ino.length c2_y] 35)
  have Xg_7 := Lib.hid (Xg_6.out.later hba)
  have Xp_7 := Lib.hid (Xp_6.out.later hba)
  have Xq_7 := Lib.hid (Xq_6.out.later hba)
  have Xx_7 := Lib.hid (Xx_6.out.later hba)
  have Ow_7 := Lib.hid (Ow_6.out.later hba)
  have Ox_7 := Lib.hid (Ox_6.out.later hba)
  have Oy_7 := Lib.hid (Oy_6x.out.later hba)
  have BW_7 : Hid (Below w.heap.size w (w5.alloc (.cells #[.int .i64 q.ser, .slice a1_y q.st.length c1_y, .slice a2_y q.ino.length c2_y] 35))) := Lib.hid (BW_6.out.trans (hba.mono BW_6.out.size))
  have Xy_7 := Lib.hid (Bk.alloc w5 #[.int .i64 q.ser, .slice a1_y q.st.length c1_y, .slice a2_y q.ino.length c2_y] 35)
  clear hba Xg_6 Xp_6 Xq_6 Xx_6 Ow_6 Ox_6 Oy_6x BW_6
  have dg0 := Xg_7.out.cell (j := 0) rfl
  have dg1 := Xg_7.out.cell (j := 1) rfl
  have dg2 := Xg_7.out.cell (j := 2) rfl
  have dg3 := Xg_7.out.cell (j := 3) rfl
  have dp0 := Xp_7.out.cell (j := 0) rfl
  have dp1 := Xp_7.out.cell (j := 1) rfl
  have dp2 := Xp_7.out.cell (j := 2) rfl
  have dq0 := Xq_7.out.cell (j := 0) rfl
  have dq1 := Xq_7.out.cell (j := 1) rfl
  have dq2 := Xq_7.out.cell (j := 2) rfl
  have dx0 := Xx_7.out.cell (j := 0) rfl
  have dx1 := Xx_7.out.cell (j := 1) rfl
  have dx2 := Xx_7.out.cell (j := 2) rfl
  have dy0 := Xy_7.out.cell (j := 0) rfl
  have dy1 := Xy_7.out.cell (j := 1) rfl
  have dy2 := Xy_7.out.cell (j := 2) rfl
  go_upto_region 11 with fail
  clear dg0 dg1 dg2 dg3 dp0 dp1 dp2 dq0 dq1 dq2 dx0 dx1 dx2 dy0 dy1 dy2
  obtain ⟨V5, hV⟩ : ∃ y, y = (w5.alloc (.cells #[.int .i64 q.ser, .slice a1_y q.st.length c1_y, .slice a2_y q.ino.length c2_y] 35)) := ⟨_, rfl⟩
  rw [← hV] at Xg_7 Xp_7 Xq_7 Xx_7 Xy_7 Ow_7 Ox_7 Oy_7 BW_7 ⊢
  have SZ_V5 : Hid (w5.heap.size + 1 ≤ V5.heap.size) := Lib.hid (by rw [hV]; simp)
  clear hV
  go_cut [13] (fun sv wx => Obj1 wx V5.heap.size wx.heap.size (celRow cWrite r) sv ∧ Below V5.heap.size V5 wx)
  case first =>
    have Zg := Lib.hid Xg_7.out.drew
    have Zp := Lib.hid Xp_7.out.drew
    have Zq := Lib.hid Xq_7.out.drew
    have Zx := Lib.hid Xx_7.out.drew
    have Zy := Lib.hid Xy_7.out.drew
    have BD : Hid (Below V5.heap.size V5 V5.drew) := Lib.hid (Below.refl _ _).drew
    go_region_held3 (fun w' => w'.cell? ⟨w.heap.size, 0, none⟩ = some (.int .i64 Tg) ∧ w'.cell? ⟨w.heap.size, 1, none⟩ = some (.int .i64 Pg) ∧ w'.cell? ⟨w.heap.size, 2, none⟩ = some (.int .i64 Ig) ∧ w'.cell? ⟨w.heap.size, 3, none⟩ = some (.int .i64 Qg) ∧ w'.cell? ⟨w.heap.size + 1, 0, none⟩ = some (.int .i64 p.ser) ∧ w'.cell? ⟨w.heap.size + 1, 1, none⟩ = some (.slice a1_p p.st.length c1_p) ∧ w'.cell? ⟨w.heap.size + 1, 2, none⟩ = some (.slice a2_p p.ino.length c2_p) ∧ w'.cell? ⟨w.heap.size + 1 + 1, 0, none⟩ = some (.int .i64 q.ser) ∧ w'.cell? ⟨w.heap.size + 1 + 1, 1, none⟩ = some (.slice a1_q q.st.length c1_q) ∧ w'.cell? ⟨w.heap.size + 1 + 1, 2, none⟩ = some (.slice a2_q q.ino.length c2_q) ∧ w'.cell? ⟨w4.heap.size, 0, none⟩ = some (.int .i64 p.ser) ∧ w'.cell? ⟨w4.heap.size, 1, none⟩ = some (.slice a1_x p.st.length c1_x) ∧ w'.cell? ⟨w4.heap.size, 2, none⟩ = some (.slice a2_x p.ino.length c2_x) ∧ w'.cell? ⟨w5.heap.size, 0, none⟩ = some (.int .i64 q.ser) ∧ w'.cell? ⟨w5.heap.size, 1, none⟩ = some (.slice a1_y q.st.length c1_y) ∧ w'.cell? ⟨w5.heap.size, 2, none⟩ = some (.slice a2_y q.ino.length c2_y))
      (first
        | exact ⟨Zg.out.cell rfl, Zg.out.cell rfl, Zg.out.cell rfl, Zg.out.cell rfl, Zp.out.cell rfl, Zp.out.cell rfl, Zp.out.cell rfl, Zq.out.cell rfl, Zq.out.cell rfl, Zq.out.cell rfl, Zx.out.cell rfl, Zx.out.cell rfl, Zx.out.cell rfl, Zy.out.cell rfl, Zy.out.cell rfl, Zy.out.cell rfl⟩
        | exact ⟨(Zg.out.later (D0_1.out)).cell rfl, (Zg.out.later (D0_1.out)).cell rfl, (Zg.out.later (D0_1.out)).cell rfl, (Zg.out.later (D0_1.out)).cell rfl, (Zp.out.later (D0_1.out)).cell rfl, (Zp.out.later (D0_1.out)).cell rfl, (Zp.out.later (D0_1.out)).cell rfl, (Zq.out.later (D0_1.out)).cell rfl, (Zq.out.later (D0_1.out)).cell rfl, (Zq.out.later (D0_1.out)).cell rfl, (Zx.out.later (D0_1.out)).cell rfl, (Zx.out.later (D0_1.out)).cell rfl, (Zx.out.later (D0_1.out)).cell rfl, (Zy.out.later (D0_1.out)).cell rfl, (Zy.out.later (D0_1.out)).cell rfl, (Zy.out.later (D0_1.out)).cell rfl⟩
        | exact ⟨(Zg.out.later (D0_2.out)).cell rfl, (Zg.out.later (D0_2.out)).cell rfl, (Zg.out.later (D0_2.out)).cell rfl, (Zg.out.later (D0_2.out)).cell rfl, (Zp.out.later (D0_2.out)).cell rfl, (Zp.out.later (D0_2.out)).cell rfl, (Zp.out.later (D0_2.out)).cell rfl, (Zq.out.later (D0_2.out)).cell rfl, (Zq.out.later (D0_2.out)).cell rfl, (Zq.out.later (D0_2.out)).cell rfl, (Zx.out.later (D0_2.out)).cell rfl, (Zx.out.later (D0_2.out)).cell rfl, (Zx.out.later (D0_2.out)).cell rfl, (Zy.out.later (D0_2.out)).cell rfl, (Zy.out.later (D0_2.out)).cell rfl, (Zy.out.later (D0_2.out)).cell rfl⟩
        | go_keep)
      (first
        | (go_at_call 16; (with_reducible refine (implCh_obj Tg Pg Ig Qg t p a1_x c1_x a2_x c2_x q a1_y c1_y a2_y c2_y _ (Cel.Rd.later B0_1.out _ _ (cPart_un Ox_7.out.rd).1) (Cel.Rd.later B0_1.out _ _ (cPart_un Ox_7.out.rd).2) HZ_p.out HTI_p.out (Cel.Rd.later B0_1.out _ _ (cPart_un Oy_7.out.rd).1) (Cel.Rd.later B0_1.out _ _ (cPart_un Oy_7.out.rd).2) HZ_q.out HTI_q.out HR.out).mono ?_); rintro e wz0_2 ⟨vz, rfl, ho, hb⟩; have HO0 := Lib.hid (ho.mono (Nat.le_trans BD.out.size D0_1.out.size) (Nat.le_refl _)); have D0_2 : Hid (Below V5.drew.heap.size V5.drew wz0_2) := Lib.hid (D0_1.out.trans (hb.mono D0_1.out.size)); have B0_2 : Hid (Below V5.heap.size V5 wz0_2) := Lib.hid (BD.out.trans (D0_2.out.mono BD.out.size)); clear hb ho)
        | (go_at_call 7; (with_reducible refine (toGeo_any Tg Pg Ig Qg _).mono ?_); rintro e wz0_1 ⟨rfl, hb⟩; have D0_1 : Hid (Below V5.drew.heap.size V5.drew wz0_1) := Lib.hid (hb); have B0_1 : Hid (Below V5.heap.size V5 wz0_1) := Lib.hid (BD.out.trans (D0_1.out.mono BD.out.size)); clear hb))
    all_goals
      go_wp2
      go_meet
      first | exact ⟨HO0.out, B0_2.out⟩
  case rest =>
  obtain ⟨ho, hb⟩ := hcut
  obtain ⟨w6, hnew⟩ : ∃ y, y = wc := ⟨_, rfl⟩
  rw [← hnew] at ho hb ⊢
  clear hnew
  obtain ⟨v_g0, hnew⟩ : ∃ y, y = u13 := ⟨_, rfl⟩
  rw [← hnew] at ho ⊢
  clear hnew
  have Xg_8 := Lib.hid (Xg_7.out.later hb)
  have Xp_8 := Lib.hid (Xp_7.out.later hb)
  have Xq_8 := Lib.hid (Xq_7.out.later hb)
  have Xx_8 := Lib.hid (Xx_7.out.later hb)
  have Xy_8 := Lib.hid (Xy_7.out.later hb)
  have Ow_8 := Lib.hid (Ow_7.out.later hb)
  have Ox_8 := Lib.hid (Ox_7.out.later hb)
  have Oy_8 := Lib.hid (Oy_7.out.later hb)
  have BW_8 : Hid (Below w.heap.size w w6) := Lib.hid (BW_7.out.trans (hb.mono BW_7.out.size))
  have SZ_w6 : Hid (V5.heap.size ≤ w6.heap.size) := Lib.hid hb.size
  clear hb Xg_7 Xp_7 Xq_7 Xx_7 Xy_7 Ow_7 Ox_7 Oy_7 BW_7
  have Og0_8x := Lib.hid ho
  clear ho
  have dg0 := Xg_8.out.cell (j := 0) rfl
  have dg1 := Xg_8.out.cell (j := 1) rfl
  have dg2 := Xg_8.out.cell (j := 2) rfl
  have dg3 := Xg_8.out.cell (j := 3) rfl
  have dp0 := Xp_8.out.cell (j := 0) rfl
  have dp1 := Xp_8.out.cell (j := 1) rfl
  have dp2 := Xp_8.out.cell (j := 2) rfl
  have dq0 := Xq_8.out.cell (j := 0) rfl
  have dq1 := Xq_8.out.cell (j := 1) rfl
  have dq2 := Xq_8.out.cell (j := 2) rfl
  have dx0 := Xx_8.out.cell (j := 0) rfl
  have dx1 := Xx_8.out.cell (j := 1) rfl
  have dx2 := Xx_8.out.cell (j := 2) rfl
  have dy0 := Xy_8.out.cell (j := 0) rfl
  have dy1 := Xy_8.out.cell (j := 1) rfl
  have dy2 := Xy_8.out.cell (j := 2) rfl
  go_wp2_with fail
  clear dg0 dg1 dg2 dg3 dp0 dp1 dp2 dq0 dq1 dq2 dx0 dx1 dx2 dy0 dy1 dy2
  refine (eqWriteS_any _ _ r _ Og0_8x.out.rd Ow_8.out.rd HRZ.out).mono ?_
  rintro e w7 ⟨rfl, hb⟩
  have Xg_9 := Lib.hid (Xg_8.out.later hb)
  have Xp_9 := Lib.hid (Xp_8.out.later hb)
  have Xq_9 := Lib.hid (Xq_8.out.later hb)
  have Xx_9 := Lib.hid (Xx_8.out.later hb)
  have Xy_9 := Lib.hid (Xy_8.out.later hb)
  have Ow_9 := Lib.hid (Ow_8.out.later hb)
  have Ox_9 := Lib.hid (Ox_8.out.later hb)
  have Oy_9 := Lib.hid (Oy_8.out.later hb)
  have Og0_9 := Lib.hid (Og0_8x.out.later hb)
  have BW_9 : Hid (Below w.heap.size w w7) := Lib.hid (BW_8.out.trans (hb.mono BW_8.out.size))
  have SZ_w7 : Hid (w6.heap.size ≤ w7.heap.size) := Lib.hid hb.size
  clear hb Xg_8 Xp_8 Xq_8 Xx_8 Xy_8 Ow_8 Ox_8 Oy_8 Og0_8x BW_8
  go_wp2
  have XD := Lib.hid Xx_9.out.drew
  have AD := Lib.hid Xp_9.out.drew
  have BD := Lib.hid BW_9.out.drew
  have OD : Hid (Objs w7.drew w3.heap.size w4.heap.size _ _) := Lib.hid (Ox_9.out.later (Below.refl _ _).drew)
  have YDg := Lib.hid Xg_9.out.drew
  have YDq := Lib.hid Xq_9.out.drew
  have YDy := Lib.hid Xy_9.out.drew
  have PDw := Lib.hid (Ow_9.out.later (Below.refl _ _).drew)
  have PDy := Lib.hid (Oy_9.out.later (Below.refl _ _).drew)
  have PDg0 := Lib.hid (Og0_9.out.later (Below.refl _ _).drew)
  go_region_held3 (fun w' => w'.cell? ⟨w4.heap.size, 0, none⟩ = some (.int .i64 p.ser) ∧ w'.cell? ⟨w4.heap.size, 1, none⟩ = some (.slice a1_x p.st.length c1_x) ∧ w'.cell? ⟨w4.heap.size, 2, none⟩ = some (.slice a2_x p.ino.length c2_x) ∧ w'.cell? ⟨w.heap.size + 1, 0, none⟩ = some (.int .i64 p.ser) ∧ w'.cell? ⟨w.heap.size + 1, 1, none⟩ = some (.slice a1_p p.st.length c1_p) ∧ w'.cell? ⟨w.heap.size + 1, 2, none⟩ = some (.slice a2_p p.ino.length c2_p))
    (first
      | exact ⟨XD.out.cell rfl, XD.out.cell rfl, XD.out.cell rfl, AD.out.cell rfl, AD.out.cell rfl, AD.out.cell rfl⟩
      | exact ⟨XE.out.cell rfl, XE.out.cell rfl, XE.out.cell rfl, AE.out.cell rfl, AE.out.cell rfl, AE.out.cell rfl⟩
      | exact ⟨XF.out.cell rfl, XF.out.cell rfl, XF.out.cell rfl, AF.out.cell rfl, AF.out.cell rfl, AF.out.cell rfl⟩
      | go_keep)
    (first
      | (go_at_call 8; (with_reducible refine (toPart_st p a1_p c1_p a2_p c2_p _ (Cel.Rd.later BD.out _ _ HS1_p.out) (Cel.Rd.later BD.out _ _ HS2_p.out) HZ_p.out).mono ?_); rintro e wa10 ⟨vs, rfl, ho, hb⟩; obtain ⟨a1_z9, c1_z9, a2_z9, c2_z9, rfl, q1, q2⟩ := cPart_form ho.rd; have XE := Lib.hid (XD.out.later hb); have AE := Lib.hid (AD.out.later hb); have OE := Lib.hid (OD.out.later hb); have BE : Hid (Below w.heap.size w wa10) := Lib.hid (BD.out.trans (hb.mono BD.out.size)); have SZ_wa10 : Hid (w7.heap.size ≤ wa10.heap.size) := Lib.hid hb.size; have YEg := Lib.hid (YDg.out.later hb); have YEq := Lib.hid (YDq.out.later hb); have YEy := Lib.hid (YDy.out.later hb); have PEw := Lib.hid (PDw.out.later hb); have PEy := Lib.hid (PDy.out.later hb); have PEg0 := Lib.hid (PDg0.out.later hb); clear hb ho)
      | (go_at_call 11; (with_reducible refine (eqPart_st p a1_x c1_x a2_x c2_x a1_z9 c1_z9 a2_z9 c2_z9 _ (cPart_un OE.out.rd).1 (cPart_un OE.out.rd).2 q1 q2 HZB_p.out).mono ?_); rintro e wb10 ⟨rfl, hb⟩; have XF := Lib.hid (XE.out.later hb); have AF := Lib.hid (AE.out.later hb); have OF := Lib.hid (OE.out.later hb); have BF : Hid (Below w.heap.size w wb10) := Lib.hid (BE.out.trans (hb.mono BE.out.size)); have SZ_wb10 : Hid (wa10.heap.size ≤ wb10.heap.size) := Lib.hid hb.size; have YFg := Lib.hid (YEg.out.later hb); have YFq := Lib.hid (YEq.out.later hb); have YFy := Lib.hid (YEy.out.later hb); have PFw := Lib.hid (PEw.out.later hb); have PFy := Lib.hid (PEy.out.later hb); have PFg0 := Lib.hid (PEg0.out.later hb); clear hb))
  have Xx_10 := XF
  have Xp_10 := AF
  have BW_10 := BF
  have Ox_10 := OF
  have Xg_10 := YFg
  have Xq_10 := YFq
  have Xy_10 := YFy
  have Ow_10 := PFw
  have Oy_10 := PFy
  have Og0_10 := PFg0
  clear Xg_9 Xp_9 Xq_9 Xx_9 Xy_9 Ow_9 Ox_9 Oy_9 Og0_9 BW_9 XD XE XF AD AE AF BD BE BF OD OE OF YDg YEg YFg YDq YEq YFq YDy YEy YFy PDw PEw PFw PDy PEy PFy PDg0 PEg0 PFg0
  go_wp2
  have XD := Lib.hid Xy_10.out.drew
  have AD := Lib.hid Xq_10.out.drew
  have BD := Lib.hid BW_10.out.drew
  have OD : Hid (Objs wb10.drew V4.heap.size w5.heap.size _ _) := Lib.hid (Oy_10.out.later (Below.refl _ _).drew)
  have YDg := Lib.hid Xg_10.out.drew
  have YDp := Lib.hid Xp_10.out.drew
  have YDx := Lib.hid Xx_10.out.drew
  have PDw := Lib.hid (Ow_10.out.later (Below.refl _ _).drew)
  have PDx := Lib.hid (Ox_10.out.later (Below.refl _ _).drew)
  have PDg0 := Lib.hid (Og0_10.out.later (Below.refl _ _).drew)
  go_region_held3 (fun w' => w'.cell? ⟨w5.heap.size, 0, none⟩ = some (.int .i64 q.ser) ∧ w'.cell? ⟨w5.heap.size, 1, none⟩ = some (.slice a1_y q.st.length c1_y) ∧ w'.cell? ⟨w5.heap.size, 2, none⟩ = some (.slice a2_y q.ino.length c2_y) ∧ w'.cell? ⟨w.heap.size + 1 + 1, 0, none⟩ = some (.int .i64 q.ser) ∧ w'.cell? ⟨w.heap.size + 1 + 1, 1, none⟩ = some (.slice a1_q q.st.length c1_q) ∧ w'.cell? ⟨w.heap.size + 1 + 1, 2, none⟩ = some (.slice a2_q q.ino.length c2_q))
    (first
      | exact ⟨XD.out.cell rfl, XD.out.cell rfl, XD.out.cell rfl, AD.out.cell rfl, AD.out.cell rfl, AD.out.cell rfl⟩
      | exact ⟨XE.out.cell rfl, XE.out.cell rfl, XE.out.cell rfl, AE.out.cell rfl, AE.out.cell rfl, AE.out.cell rfl⟩
      | exact ⟨XF.out.cell rfl, XF.out.cell rfl, XF.out.cell rfl, AF.out.cell rfl, AF.out.cell rfl, AF.out.cell rfl⟩
      | go_keep)
    (first
      | (go_at_call 8; (with_reducible refine (toPart_st q a1_q c1_q a2_q c2_q _ (Cel.Rd.later BD.out _ _ HS1_q.out) (Cel.Rd.later BD.out _ _ HS2_q.out) HZ_q.out).mono ?_); rintro e wa11 ⟨vs, rfl, ho, hb⟩; obtain ⟨a1_z9, c1_z9, a2_z9, c2_z9, rfl, q1, q2⟩ := cPart_form ho.rd; have XE := Lib.hid (XD.out.later hb); have AE := Lib.hid (AD.out.later hb); have OE := Lib.hid (OD.out.later hb); have BE : Hid (Below w.heap.size w wa11) := Lib.hid (BD.out.trans (hb.mono BD.out.size)); have SZ_wa11 : Hid (wb10.heap.size ≤ wa11.heap.size) := Lib.hid hb.size; have YEg := Lib.hid (YDg.out.later hb); have YEp := Lib.hid (YDp.out.later hb); have YEx := Lib.hid (YDx.out.later hb); have PEw := Lib.hid (PDw.out.later hb); have PEx := Lib.hid (PDx.out.later hb); have PEg0 := Lib.hid (PDg0.out.later hb); clear hb ho)
      | (go_at_call 11; (with_reducible refine (eqPart_st q a1_y c1_y a2_y c2_y a1_z9 c1_z9 a2_z9 c2_z9 _ (cPart_un OE.out.rd).1 (cPart_un OE.out.rd).2 q1 q2 HZB_q.out).mono ?_); rintro e wb11 ⟨rfl, hb⟩; have XF := Lib.hid (XE.out.later hb); have AF := Lib.hid (AE.out.later hb); have OF := Lib.hid (OE.out.later hb); have BF : Hid (Below w.heap.size w wb11) := Lib.hid (BE.out.trans (hb.mono BE.out.size)); have SZ_wb11 : Hid (wa11.heap.size ≤ wb11.heap.size) := Lib.hid hb.size; have YFg := Lib.hid (YEg.out.later hb); have YFp := Lib.hid (YEp.out.later hb); have YFx := Lib.hid (YEx.out.later hb); have PFw := Lib.hid (PEw.out.later hb); have PFx := Lib.hid (PEx.out.later hb); have PFg0 := Lib.hid (PEg0.out.later hb); clear hb))
  have Xy_11 := XF
  have Xq_11 := AF
  have BW_11 := BF
  have Oy_11 := OF
  have Xg_11 := YFg
  have Xp_11 := YFp
  have Xx_11 := YFx
  have Ow_11 := PFw
  have Ox_11 := PFx
  have Og0_11 := PFg0
  clear Xg_10 Xp_10 Xq_10 Xx_10 Xy_10 Ow_10 Ox_10 Oy_10 Og0_10 BW_10 XD XE XF AD AE AF BD BE BF OD OE OF YDg YEg YFg YDp YEp YFp YDx YEx YFx PDw PEw PFw PDx PEx PFx PDg0 PEg0 PFg0
  have dg0 := Xg_11.out.cell (j := 0) rfl
  have dg1 := Xg_11.out.cell (j := 1) rfl
  have dg2 := Xg_11.out.cell (j := 2) rfl
  have dg3 := Xg_11.out.cell (j := 3) rfl
  have dp0 := Xp_11.out.cell (j := 0) rfl
  have dp1 := Xp_11.out.cell (j := 1) rfl
  have dp2 := Xp_11.out.cell (j := 2) rfl
  have dq0 := Xq_11.out.cell (j := 0) rfl
  have dq1 := Xq_11.out.cell (j := 1) rfl
  have dq2 := Xq_11.out.cell (j := 2) rfl
  have dx0 := Xx_11.out.cell (j := 0) rfl
  have dx1 := Xx_11.out.cell (j := 1) rfl
  have dx2 := Xx_11.out.cell (j := 2) rfl
  have dy0 := Xy_11.out.cell (j := 0) rfl
  have dy1 := Xy_11.out.cell (j := 1) rfl
  have dy2 := Xy_11.out.cell (j := 2) rfl
  go_wp2_with fail
  clear dg0 dg1 dg2 dg3 dp0 dp1 dp2 dq0 dq1 dq2 dx0 dx1 dx2 dy0 dy1 dy2
  refine (markPart_st p a1_x c1_x a2_x c2_x w3.heap.size w4.heap.size 1 _ _ (by omega) (by omega) HPC.out HZB_p.out Ox_11.out).mono ?_
  rintro e w8 ⟨he, hu, ho⟩
  obtain ⟨k, hk⟩ : ∃ y, 1 + cntTop (cPart.cels p) = y := ⟨_, rfl⟩
  rw [hk] at he
  subst he
  have Xg_12 := Lib.hid (hu.bk Xg_11.out (by have := SZ_V0.out; have := SZ_w1.out; have := SZ_w2.out; have := SZ_w3.out; have := SZ_w4.out; have := SZ_V4.out; have := SZ_w5.out; have := SZ_V5.out; have := SZ_w6.out; have := SZ_w7.out; have := SZ_wa10.out; have := SZ_wb10.out; have := SZ_wa11.out; have := SZ_wb11.out; omega))
  have Xp_12 := Lib.hid (hu.bk Xp_11.out (by have := SZ_V0.out; have := SZ_w1.out; have := SZ_w2.out; have := SZ_w3.out; have := SZ_w4.out; have := SZ_V4.out; have := SZ_w5.out; have := SZ_V5.out; have := SZ_w6.out; have := SZ_w7.out; have := SZ_wa10.out; have := SZ_wb10.out; have := SZ_wa11.out; have := SZ_wb11.out; omega))
  have Xq_12 := Lib.hid (hu.bk Xq_11.out (by have := SZ_V0.out; have := SZ_w1.out; have := SZ_w2.out; have := SZ_w3.out; have := SZ_w4.out; have := SZ_V4.out; have := SZ_w5.out; have := SZ_V5.out; have := SZ_w6.out; have := SZ_w7.out; have := SZ_wa10.out; have := SZ_wb10.out; have := SZ_wa11.out; have := SZ_wb11.out; omega))
  have Xx_12 := Lib.hid (hu.bk Xx_11.out (by have := SZ_V0.out; have := SZ_w1.out; have := SZ_w2.out; have := SZ_w3.out; have := SZ_w4.out; have := SZ_V4.out; have := SZ_w5.out; have := SZ_V5.out; have := SZ_w6.out; have := SZ_w7.out; have := SZ_wa10.out; have := SZ_wb10.out; have := SZ_wa11.out; have := SZ_wb11.out; omega))
  have Xy_12 := Lib.hid (hu.bk Xy_11.out (by have := SZ_V0.out; have := SZ_w1.out; have := SZ_w2.out; have := SZ_w3.out; have := SZ_w4.out; have := SZ_V4.out; have := SZ_w5.out; have := SZ_V5.out; have := SZ_w6.out; have := SZ_w7.out; have := SZ_wa10.out; have := SZ_wb10.out; have := SZ_wa11.out; have := SZ_wb11.out; omega))
  have Ow_12 := Lib.hid (Ow_11.out.out hu (by have := SZ_V0.out; have := SZ_w1.out; have := SZ_w2.out; have := SZ_w3.out; have := SZ_w4.out; have := SZ_V4.out; have := SZ_w5.out; have := SZ_V5.out; have := SZ_w6.out; have := SZ_w7.out; have := SZ_wa10.out; have := SZ_wb10.out; have := SZ_wa11.out; have := SZ_wb11.out; omega))
  have Ox_12 := Lib.hid ho
  have Oy_12 := Lib.hid (Oy_11.out.out hu (by have := SZ_V0.out; have := SZ_w1.out; have := SZ_w2.out; have := SZ_w3.out; have := SZ_w4.out; have := SZ_V4.out; have := SZ_w5.out; have := SZ_V5.out; have := SZ_w6.out; have := SZ_w7.out; have := SZ_wa10.out; have := SZ_wb10.out; have := SZ_wa11.out; have := SZ_wb11.out; omega))
  have Og0_12 := Lib.hid (Og0_11.out.out hu (by have := SZ_V0.out; have := SZ_w1.out; have := SZ_w2.out; have := SZ_w3.out; have := SZ_w4.out; have := SZ_V4.out; have := SZ_w5.out; have := SZ_V5.out; have := SZ_w6.out; have := SZ_w7.out; have := SZ_wa10.out; have := SZ_wb10.out; have := SZ_wa11.out; have := SZ_wb11.out; omega))
  have BW_12 : Hid (Below w.heap.size w w8) := Lib.hid (BW_11.out.trans (hu.below (by have := SZ_V0.out; have := SZ_w1.out; have := SZ_w2.out; have := SZ_w3.out; have := SZ_w4.out; have := SZ_V4.out; have := SZ_w5.out; have := SZ_V5.out; have := SZ_w6.out; have := SZ_w7.out; have := SZ_wa10.out; have := SZ_wb10.out; have := SZ_wa11.out; have := SZ_wb11.out; omega) (by have := SZ_V0.out; have := SZ_w1.out; have := SZ_w2.out; have := SZ_w3.out; have := SZ_w4.out; have := SZ_V4.out; have := SZ_w5.out; have := SZ_V5.out; have := SZ_w6.out; have := SZ_w7.out; have := SZ_wa10.out; have := SZ_wb10.out; have := SZ_wa11.out; have := SZ_wb11.out; omega)))
  have SZ_w8 : Hid (wb11.heap.size ≤ w8.heap.size) := Lib.hid hu.size
  have HC_k := Lib.hid hk
  have hp_k : k ≤ 100000000 := by have h9 := HPC.out; omega
  have hq_k : 0 < k := by omega
  have hr_k : ¬ ((k : Int) < 0) := by omega
  clear hu ho hk Xg_11 Xp_11 Xq_11 Xx_11 Xy_11 Ow_11 Ox_11 Oy_11 Og0_11 BW_11
  have dg0 := Xg_12.out.cell (j := 0) rfl
  have dg1 := Xg_12.out.cell (j := 1) rfl
  have dg2 := Xg_12.out.cell (j := 2) rfl
  have dg3 := Xg_12.out.cell (j := 3) rfl
  have dp0 := Xp_12.out.cell (j := 0) rfl
  have dp1 := Xp_12.out.cell (j := 1) rfl
  have dp2 := Xp_12.out.cell (j := 2) rfl
  have dq0 := Xq_12.out.cell (j := 0) rfl
  have dq1 := Xq_12.out.cell (j := 1) rfl
  have dq2 := Xq_12.out.cell (j := 2) rfl
  have dx0 := Xx_12.out.cell (j := 0) rfl
  have dx1 := Xx_12.out.cell (j := 1) rfl
  have dx2 := Xx_12.out.cell (j := 2) rfl
  have dy0 := Xy_12.out.cell (j := 0) rfl
  have dy1 := Xy_12.out.cell (j := 1) rfl
  have dy2 := Xy_12.out.cell (j := 2) rfl
  go_wp2_with fail
  clear dg0 dg1 dg2 dg3 dp0 dp1 dp2 dq0 dq1 dq2 dx0 dx1 dx2 dy0 dy1 dy2
  refine (markPart_st q a1_y c1_y a2_y c2_y V4.heap.size w5.heap.size k _ _ (by omega) (by omega) (show k + cntTop (cPart.cels q) ≤ 100000000 by have := HC_k.out; have := HPP.out; have := HPQ.out; omega) HZB_q.out Oy_12.out).mono ?_
  rintro e w9 ⟨he, hu, ho⟩
  obtain ⟨k2, hk2⟩ : ∃ y, k + cntTop (cPart.cels q) = y := ⟨_, rfl⟩
  rw [hk2] at he
  subst he
  have Xg_13 := Lib.hid (hu.bk Xg_12.out (by have := SZ_V0.out; have := SZ_w1.out; have := SZ_w2.out; have := SZ_w3.out; have := SZ_w4.out; have := SZ_V4.out; have := SZ_w5.out; have := SZ_V5.out; have := SZ_w6.out; have := SZ_w7.out; have := SZ_wa10.out; have := SZ_wb10.out; have := SZ_wa11.out; have := SZ_wb11.out; have := SZ_w8.out; omega))
  have Xp_13 := Lib.hid (hu.bk Xp_12.out (by have := SZ_V0.out; have := SZ_w1.out; have := SZ_w2.out; have := SZ_w3.out; have := SZ_w4.out; have := SZ_V4.out; have := SZ_w5.out; have := SZ_V5.out; have := SZ_w6.out; have := SZ_w7.out; have := SZ_wa10.out; have := SZ_wb10.out; have := SZ_wa11.out; have := SZ_wb11.out; have := SZ_w8.out; omega))
  have Xq_13 := Lib.hid (hu.bk Xq_12.out (by have := SZ_V0.out; have := SZ_w1.out; have := SZ_w2.out; have := SZ_w3.out; have := SZ_w4.out; have := SZ_V4.out; have := SZ_w5.out; have := SZ_V5.out; have := SZ_w6.out; have := SZ_w7.out; have := SZ_wa10.out; have := SZ_wb10.out; have := SZ_wa11.out; have := SZ_wb11.out; have := SZ_w8.out; omega))
  have Xx_13 := Lib.hid (hu.bk Xx_12.out (by have := SZ_V0.out; have := SZ_w1.out; have := SZ_w2.out; have := SZ_w3.out; have := SZ_w4.out; have := SZ_V4.out; have := SZ_w5.out; have := SZ_V5.out; have := SZ_w6.out; have := SZ_w7.out; have := SZ_wa10.out; have := SZ_wb10.out; have := SZ_wa11.out; have := SZ_wb11.out; have := SZ_w8.out; omega))
  have Xy_13 := Lib.hid (hu.bk Xy_12.out (by have := SZ_V0.out; have := SZ_w1.out; have := SZ_w2.out; have := SZ_w3.out; have := SZ_w4.out; have := SZ_V4.out; have := SZ_w5.out; have := SZ_V5.out; have := SZ_w6.out; have := SZ_w7.out; have := SZ_wa10.out; have := SZ_wb10.out; have := SZ_wa11.out; have := SZ_wb11.out; have := SZ_w8.out; omega))
  have Ow_13 := Lib.hid (Ow_12.out.out hu (by have := SZ_V0.out; have := SZ_w1.out; have := SZ_w2.out; have := SZ_w3.out; have := SZ_w4.out; have := SZ_V4.out; have := SZ_w5.out; have := SZ_V5.out; have := SZ_w6.out; have := SZ_w7.out; have := SZ_wa10.out; have := SZ_wb10.out; have := SZ_wa11.out; have := SZ_wb11.out; have := SZ_w8.out; omega))
  have Ox_13 := Lib.hid (Ox_12.out.out hu (by have := SZ_V0.out; have := SZ_w1.out; have := SZ_w2.out; have := SZ_w3.out; have := SZ_w4.out; have := SZ_V4.out; have := SZ_w5.out; have := SZ_V5.out; have := SZ_w6.out; have := SZ_w7.out; have := SZ_wa10.out; have := SZ_wb10.out; have := SZ_wa11.out; have := SZ_wb11.out; have := SZ_w8.out; omega))
  have Oy_13 := Lib.hid ho
  have Og0_13 := Lib.hid (Og0_12.out.out hu (by have := SZ_V0.out; have := SZ_w1.out; have := SZ_w2.out; have := SZ_w3.out; have := SZ_w4.out; have := SZ_V4.out; have := SZ_w5.out; have := SZ_V5.out; have := SZ_w6.out; have := SZ_w7.out; have := SZ_wa10.out; have := SZ_wb10.out; have := SZ_wa11.out; have := SZ_wb11.out; have := SZ_w8.out; omega))
  have BW_13 : Hid (Below w.heap.size w w9) := Lib.hid (BW_12.out.trans (hu.below (by have := SZ_V0.out; have := SZ_w1.out; have := SZ_w2.out; have := SZ_w3.out; have := SZ_w4.out; have := SZ_V4.out; have := SZ_w5.out; have := SZ_V5.out; have := SZ_w6.out; have := SZ_w7.out; have := SZ_wa10.out; have := SZ_wb10.out; have := SZ_wa11.out; have := SZ_wb11.out; have := SZ_w8.out; omega) (by have := SZ_V0.out; have := SZ_w1.out; have := SZ_w2.out; have := SZ_w3.out; have := SZ_w4.out; have := SZ_V4.out; have := SZ_w5.out; have := SZ_V5.out; have := SZ_w6.out; have := SZ_w7.out; have := SZ_wa10.out; have := SZ_wb10.out; have := SZ_wa11.out; have := SZ_wb11.out; have := SZ_w8.out; omega)))
  have SZ_w9 : Hid (w8.heap.size ≤ w9.heap.size) := Lib.hid hu.size
  have HC_k2 := Lib.hid hk2
  have hp_k2 : k2 ≤ 100000000 := by have h9 := (show k + cntTop (cPart.cels q) ≤ 100000000 by have := HC_k.out; have := HPP.out; have := HPQ.out; omega); omega
  have hq_k2 : 0 < k2 := by omega
  have hr_k2 : ¬ ((k2 : Int) < 0) := by omega
  clear hu ho hk2 Xg_12 Xp_12 Xq_12 Xx_12 Xy_12 Ow_12 Ox_12 Oy_12 Og0_12 BW_12
  have dg0 := Xg_13.out.cell (j := 0) rfl
  have dg1 := Xg_13.out.cell (j := 1) rfl
  have dg2 := Xg_13.out.cell (j := 2) rfl
  have dg3 := Xg_13.out.cell (j := 3) rfl
  have dp0 := Xp_13.out.cell (j := 0) rfl
  have dp1 := Xp_13.out.cell (j := 1) rfl
  have dp2 := Xp_13.out.cell (j := 2) rfl
  have dq0 := Xq_13.out.cell (j := 0) rfl
  have dq1 := Xq_13.out.cell (j := 1) rfl
  have dq2 := Xq_13.out.cell (j := 2) rfl
  have dx0 := Xx_13.out.cell (j := 0) rfl
  have dx1 := Xx_13.out.cell (j := 1) rfl
  have dx2 := Xx_13.out.cell (j := 2) rfl
  have dy0 := Xy_13.out.cell (j := 0) rfl
  have dy1 := Xy_13.out.cell (j := 1) rfl
  have dy2 := Xy_13.out.cell (j := 2) rfl
  go_wp2_with fail
  clear dg0 dg1 dg2 dg3 dp0 dp1 dp2 dq0 dq1 dq2 dx0 dx1 dx2 dy0 dy1 dy2
  refine (eqWriteS_any _ _ r _ Og0_13.out.rd Ow_13.out.rd HRZ.out).mono ?_
  rintro e w10 ⟨rfl, hb⟩
  have Xg_14 := Lib.hid (Xg_13.out.later hb)
  have Xp_14 := Lib.hid (Xp_13.out.later hb)
  have Xq_14 := Lib.hid (Xq_13.out.later hb)
  have Xx_14 := Lib.hid (Xx_13.out.later hb)
  have Xy_14 := Lib.hid (Xy_13.out.later hb)
  have Ow_14 := Lib.hid (Ow_13.out.later hb)
  have Ox_14 := Lib.hid (Ox_13.out.later hb)
  have Oy_14 := Lib.hid (Oy_13.out.later hb)
  have Og0_14 := Lib.hid (Og0_13.out.later hb)
  have BW_14 : Hid (Below w.heap.size w w10) := Lib.hid (BW_13.out.trans (hb.mono BW_13.out.size))
  have SZ_w10 : Hid (w9.heap.size ≤ w10.heap.size) := Lib.hid hb.size
  clear hb Xg_13 Xp_13 Xq_13 Xx_13 Xy_13 Ow_13 Ox_13 Oy_13 Og0_13 BW_13
  have dg0 := Xg_14.out.cell (j := 0) rfl
  have dg1 := Xg_14.out.cell (j := 1) rfl
  have dg2 := Xg_14.out.cell (j := 2) rfl
  have dg3 := Xg_14.out.cell (j := 3) rfl
  have dp0 := Xp_14.out.cell (j := 0) rfl
  have dp1 := Xp_14.out.cell (j := 1) rfl
  have dp2 := Xp_14.out.cell (j := 2) rfl
  have dq0 := Xq_14.out.cell (j := 0) rfl
  have dq1 := Xq_14.out.cell (j := 1) rfl
  have dq2 := Xq_14.out.cell (j := 2) rfl
  have dx0 := Xx_14.out.cell (j := 0) rfl
  have dx1 := Xx_14.out.cell (j := 1) rfl
  have dx2 := Xx_14.out.cell (j := 2) rfl
  have dy0 := Xy_14.out.cell (j := 0) rfl
  have dy1 := Xy_14.out.cell (j := 1) rfl
  have dy2 := Xy_14.out.cell (j := 2) rfl
  go_wp2_with fail
  clear dg0 dg1 dg2 dg3 dp0 dp1 dp2 dq0 dq1 dq2 dx0 dx1 dx2 dy0 dy1 dy2
  refine (markWriteS_obj _ r V5.heap.size w6.heap.size 1 _ _ (by omega) (by omega) HRC.out HRZ.out Og0_14.out).mono ?_
  rintro e w11 ⟨he, hu, ho⟩
  obtain ⟨m, hm⟩ : ∃ y, 1 + (celRow cWrite r).cnt = y := ⟨_, rfl⟩
  rw [hm] at he
  subst he
  have Xg_15 := Lib.hid (hu.bk Xg_14.out (by have := SZ_V0.out; have := SZ_w1.out; have := SZ_w2.out; have := SZ_w3.out; have := SZ_w4.out; have := SZ_V4.out; have := SZ_w5.out; have := SZ_V5.out; have := SZ_w6.out; have := SZ_w7.out; have := SZ_wa10.out; have := SZ_wb10.out; have := SZ_wa11.out; have := SZ_wb11.out; have := SZ_w8.out; have := SZ_w9.out; have := SZ_w10.out; omega))
  have Xp_15 := Lib.hid (hu.bk Xp_14.out (by have := SZ_V0.out; have := SZ_w1.out; have := SZ_w2.out; have := SZ_w3.out; have := SZ_w4.out; have := SZ_V4.out; have := SZ_w5.out; have := SZ_V5.out; have := SZ_w6.out; have := SZ_w7.out; have := SZ_wa10.out; have := SZ_wb10.out; have := SZ_wa11.out; have := SZ_wb11.out; have := SZ_w8.out; have := SZ_w9.out; have := SZ_w10.out; omega))
  have Xq_15 := Lib.hid (hu.bk Xq_14.out (by have := SZ_V0.out; have := SZ_w1.out; have := SZ_w2.out; have := SZ_w3.out; have := SZ_w4.out; have := SZ_V4.out; have := SZ_w5.out; have := SZ_V5.out; have := SZ_w6.out; have := SZ_w7.out; have := SZ_wa10.out; have := SZ_wb10.out; have := SZ_wa11.out; have := SZ_wb11.out; have := SZ_w8.out; have := SZ_w9.out; have := SZ_w10.out; omega))
  have Xx_15 := Lib.hid (hu.bk Xx_14.out (by have := SZ_V0.out; have := SZ_w1.out; have := SZ_w2.out; have := SZ_w3.out; have := SZ_w4.out; have := SZ_V4.out; have := SZ_w5.out; have := SZ_V5.out; have := SZ_w6.out; have := SZ_w7.out; have := SZ_wa10.out; have := SZ_wb10.out; have := SZ_wa11.out; have := SZ_wb11.out; have := SZ_w8.out; have := SZ_w9.out; have := SZ_w10.out; omega))
  have Xy_15 := Lib.hid (hu.bk Xy_14.out (by have := SZ_V0.out; have := SZ_w1.out; have := SZ_w2.out; have := SZ_w3.out; have := SZ_w4.out; have := SZ_V4.out; have := SZ_w5.out; have := SZ_V5.out; have := SZ_w6.out; have := SZ_w7.out; have := SZ_wa10.out; have := SZ_wb10.out; have := SZ_wa11.out; have := SZ_wb11.out; have := SZ_w8.out; have := SZ_w9.out; have := SZ_w10.out; omega))
  have Ow_15 := Lib.hid (Ow_14.out.out hu (by have := SZ_V0.out; have := SZ_w1.out; have := SZ_w2.out; have := SZ_w3.out; have := SZ_w4.out; have := SZ_V4.out; have := SZ_w5.out; have := SZ_V5.out; have := SZ_w6.out; have := SZ_w7.out; have := SZ_wa10.out; have := SZ_wb10.out; have := SZ_wa11.out; have := SZ_wb11.out; have := SZ_w8.out; have := SZ_w9.out; have := SZ_w10.out; omega))
  have Ox_15 := Lib.hid (Ox_14.out.out hu (by have := SZ_V0.out; have := SZ_w1.out; have := SZ_w2.out; have := SZ_w3.out; have := SZ_w4.out; have := SZ_V4.out; have := SZ_w5.out; have := SZ_V5.out; have := SZ_w6.out; have := SZ_w7.out; have := SZ_wa10.out; have := SZ_wb10.out; have := SZ_wa11.out; have := SZ_wb11.out; have := SZ_w8.out; have := SZ_w9.out; have := SZ_w10.out; omega))
  have Oy_15 := Lib.hid (Oy_14.out.out hu (by have := SZ_V0.out; have := SZ_w1.out; have := SZ_w2.out; have := SZ_w3.out; have := SZ_w4.out; have := SZ_V4.out; have := SZ_w5.out; have := SZ_V5.out; have := SZ_w6.out; have := SZ_w7.out; have := SZ_wa10.out; have := SZ_wb10.out; have := SZ_wa11.out; have := SZ_wb11.out; have := SZ_w8.out; have := SZ_w9.out; have := SZ_w10.out; omega))
  have Og0_15 := Lib.hid ho
  have BW_15 : Hid (Below w.heap.size w w11) := Lib.hid (BW_14.out.trans (hu.below (by have := SZ_V0.out; have := SZ_w1.out; have := SZ_w2.out; have := SZ_w3.out; have := SZ_w4.out; have := SZ_V4.out; have := SZ_w5.out; have := SZ_V5.out; have := SZ_w6.out; have := SZ_w7.out; have := SZ_wa10.out; have := SZ_wb10.out; have := SZ_wa11.out; have := SZ_wb11.out; have := SZ_w8.out; have := SZ_w9.out; have := SZ_w10.out; omega) (by have := SZ_V0.out; have := SZ_w1.out; have := SZ_w2.out; have := SZ_w3.out; have := SZ_w4.out; have := SZ_V4.out; have := SZ_w5.out; have := SZ_V5.out; have := SZ_w6.out; have := SZ_w7.out; have := SZ_wa10.out; have := SZ_wb10.out; have := SZ_wa11.out; have := SZ_wb11.out; have := SZ_w8.out; have := SZ_w9.out; have := SZ_w10.out; omega)))
  have SZ_w11 : Hid (w10.heap.size ≤ w11.heap.size) := Lib.hid hu.size
  have HC_m := Lib.hid hm
  have hp_m : m ≤ 100000000 := by have h9 := HRC.out; omega
  have hq_m : 0 < m := by omega
  have hr_m : ¬ ((m : Int) < 0) := by omega
  clear hu ho hm Xg_14 Xp_14 Xq_14 Xx_14 Xy_14 Ow_14 Ox_14 Oy_14 Og0_14 BW_14
  have dg0 := Xg_15.out.cell (j := 0) rfl
  have dg1 := Xg_15.out.cell (j := 1) rfl
  have dg2 := Xg_15.out.cell (j := 2) rfl
  have dg3 := Xg_15.out.cell (j := 3) rfl
  have dp0 := Xp_15.out.cell (j := 0) rfl
  have dp1 := Xp_15.out.cell (j := 1) rfl
  have dp2 := Xp_15.out.cell (j := 2) rfl
  have dq0 := Xq_15.out.cell (j := 0) rfl
  have dq1 := Xq_15.out.cell (j := 1) rfl
  have dq2 := Xq_15.out.cell (j := 2) rfl
  have dx0 := Xx_15.out.cell (j := 0) rfl
  have dx1 := Xx_15.out.cell (j := 1) rfl
  have dx2 := Xx_15.out.cell (j := 2) rfl
  have dy0 := Xy_15.out.cell (j := 0) rfl
  have dy1 := Xy_15.out.cell (j := 1) rfl
  have dy2 := Xy_15.out.cell (j := 2) rfl
  go_wp2_with fail
  clear dg0 dg1 dg2 dg3 dp0 dp1 dp2 dq0 dq1 dq2 dx0 dx1 dx2 dy0 dy1 dy2
  refine (heldWriteS_any _ r 1 _ _ (by rfl) (by decide) HRC.out HRZ.out Og0_15.out.rd).mono ?_
  rintro e w12 ⟨he, hb⟩
  rw [HC_m.out] at he
  subst he
  have Xg_16 := Lib.hid (Xg_15.out.later hb)
  have Xp_16 := Lib.hid (Xp_15.out.later hb)
  have Xq_16 := Lib.hid (Xq_15.out.later hb)
  have Xx_16 := Lib.hid (Xx_15.out.later hb)
  have Xy_16 := Lib.hid (Xy_15.out.later hb)
  have Ow_16 := Lib.hid (Ow_15.out.later hb)
  have Ox_16 := Lib.hid (Ox_15.out.later hb)
  have Oy_16 := Lib.hid (Oy_15.out.later hb)
  have Og0_16 := Lib.hid (Og0_15.out.later hb)
  have BW_16 : Hid (Below w.heap.size w w12) := Lib.hid (BW_15.out.trans (hb.mono BW_15.out.size))
  have SZ_w12 : Hid (w11.heap.size ≤ w12.heap.size) := Lib.hid hb.size
  clear hb Xg_15 Xp_15 Xq_15 Xx_15 Xy_15 Ow_15 Ox_15 Oy_15 Og0_15 BW_15
  have dg0 := Xg_16.out.cell (j := 0) rfl
  have dg1 := Xg_16.out.cell (j := 1) rfl
  have dg2 := Xg_16.out.cell (j := 2) rfl
  have dg3 := Xg_16.out.cell (j := 3) rfl
  have dp0 := Xp_16.out.cell (j := 0) rfl
  have dp1 := Xp_16.out.cell (j := 1) rfl
  have dp2 := Xp_16.out.cell (j := 2) rfl
  have dq0 := Xq_16.out.cell (j := 0) rfl
  have dq1 := Xq_16.out.cell (j := 1) rfl
  have dq2 := Xq_16.out.cell (j := 2) rfl
  have dx0 := Xx_16.out.cell (j := 0) rfl
  have dx1 := Xx_16.out.cell (j := 1) rfl
  have dx2 := Xx_16.out.cell (j := 2) rfl
  have dy0 := Xy_16.out.cell (j := 0) rfl
  have dy1 := Xy_16.out.cell (j := 1) rfl
  have dy2 := Xy_16.out.cell (j := 2) rfl
  go_upto_region 31 with fail
  clear dg0 dg1 dg2 dg3 dp0 dp1 dp2 dq0 dq1 dq2 dx0 dx1 dx2 dy0 dy1 dy2
  go_cut [17] (fun sv wx => Obj1 wx w12.heap.size wx.heap.size (celRow cWrite r) sv ∧ Below w12.heap.size w12 wx)
  case first =>
    have Zg := Lib.hid Xg_16.out.drew
    have Zp := Lib.hid Xp_16.out.drew
    have Zq := Lib.hid Xq_16.out.drew
    have Zx := Lib.hid Xx_16.out.drew
    have Zy := Lib.hid Xy_16.out.drew
    have BD : Hid (Below w12.heap.size w12 w12.drew) := Lib.hid (Below.refl _ _).drew
    go_region_held3 (fun w' => w'.cell? ⟨w.heap.size, 0, none⟩ = some (.int .i64 Tg) ∧ w'.cell? ⟨w.heap.size, 1, none⟩ = some (.int .i64 Pg) ∧ w'.cell? ⟨w.heap.size, 2, none⟩ = some (.int .i64 Ig) ∧ w'.cell? ⟨w.heap.size, 3, none⟩ = some (.int .i64 Qg) ∧ w'.cell? ⟨w.heap.size + 1, 0, none⟩ = some (.int .i64 p.ser) ∧ w'.cell? ⟨w.heap.size + 1, 1, none⟩ = some (.slice a1_p p.st.length c1_p) ∧ w'.cell? ⟨w.heap.size + 1, 2, none⟩ = some (.slice a2_p p.ino.length c2_p) ∧ w'.cell? ⟨w.heap.size + 1 + 1, 0, none⟩ = some (.int .i64 q.ser) ∧ w'.cell? ⟨w.heap.size + 1 + 1, 1, none⟩ = some (.slice a1_q q.st.length c1_q) ∧ w'.cell? ⟨w.heap.size + 1 + 1, 2, none⟩ = some (.slice a2_q q.ino.length c2_q) ∧ w'.cell? ⟨w4.heap.size, 0, none⟩ = some (.int .i64 p.ser) ∧ w'.cell? ⟨w4.heap.size, 1, none⟩ = some (.slice a1_x p.st.length c1_x) ∧ w'.cell? ⟨w4.heap.size, 2, none⟩ = some (.slice a2_x p.ino.length c2_x) ∧ w'.cell? ⟨w5.heap.size, 0, none⟩ = some (.int .i64 q.ser) ∧ w'.cell? ⟨w5.heap.size, 1, none⟩ = some (.slice a1_y q.st.length c1_y) ∧ w'.cell? ⟨w5.heap.size, 2, none⟩ = some (.slice a2_y q.ino.length c2_y))
      (first
        | exact ⟨Zg.out.cell rfl, Zg.out.cell rfl, Zg.out.cell rfl, Zg.out.cell rfl, Zp.out.cell rfl, Zp.out.cell rfl, Zp.out.cell rfl, Zq.out.cell rfl, Zq.out.cell rfl, Zq.out.cell rfl, Zx.out.cell rfl, Zx.out.cell rfl, Zx.out.cell rfl, Zy.out.cell rfl, Zy.out.cell rfl, Zy.out.cell rfl⟩
        | exact ⟨(Zg.out.later (D012_1.out)).cell rfl, (Zg.out.later (D012_1.out)).cell rfl, (Zg.out.later (D012_1.out)).cell rfl, (Zg.out.later (D012_1.out)).cell rfl, (Zp.out.later (D012_1.out)).cell rfl, (Zp.out.later (D012_1.out)).cell rfl, (Zp.out.later (D012_1.out)).cell rfl, (Zq.out.later (D012_1.out)).cell rfl, (Zq.out.later (D012_1.out)).cell rfl, (Zq.out.later (D012_1.out)).cell rfl, (Zx.out.later (D012_1.out)).cell rfl, (Zx.out.later (D012_1.out)).cell rfl, (Zx.out.later (D012_1.out)).cell rfl, (Zy.out.later (D012_1.out)).cell rfl, (Zy.out.later (D012_1.out)).cell rfl, (Zy.out.later (D012_1.out)).cell rfl⟩
        | exact ⟨(Zg.out.later (D012_2.out)).cell rfl, (Zg.out.later (D012_2.out)).cell rfl, (Zg.out.later (D012_2.out)).cell rfl, (Zg.out.later (D012_2.out)).cell rfl, (Zp.out.later (D012_2.out)).cell rfl, (Zp.out.later (D012_2.out)).cell rfl, (Zp.out.later (D012_2.out)).cell rfl, (Zq.out.later (D012_2.out)).cell rfl, (Zq.out.later (D012_2.out)).cell rfl, (Zq.out.later (D012_2.out)).cell rfl, (Zx.out.later (D012_2.out)).cell rfl, (Zx.out.later (D012_2.out)).cell rfl, (Zx.out.later (D012_2.out)).cell rfl, (Zy.out.later (D012_2.out)).cell rfl, (Zy.out.later (D012_2.out)).cell rfl, (Zy.out.later (D012_2.out)).cell rfl⟩
        | exact ⟨(Zg.out.later (D012_3.out)).cell rfl, (Zg.out.later (D012_3.out)).cell rfl, (Zg.out.later (D012_3.out)).cell rfl, (Zg.out.later (D012_3.out)).cell rfl, (Zp.out.later (D012_3.out)).cell rfl, (Zp.out.later (D012_3.out)).cell rfl, (Zp.out.later (D012_3.out)).cell rfl, (Zq.out.later (D012_3.out)).cell rfl, (Zq.out.later (D012_3.out)).cell rfl, (Zq.out.later (D012_3.out)).cell rfl, (Zx.out.later (D012_3.out)).cell rfl, (Zx.out.later (D012_3.out)).cell rfl, (Zx.out.later (D012_3.out)).cell rfl, (Zy.out.later (D012_3.out)).cell rfl, (Zy.out.later (D012_3.out)).cell rfl, (Zy.out.later (D012_3.out)).cell rfl⟩
        | exact ⟨(Zg.out.later (D012_4.out)).cell rfl, (Zg.out.later (D012_4.out)).cell rfl, (Zg.out.later (D012_4.out)).cell rfl, (Zg.out.later (D012_4.out)).cell rfl, (Zp.out.later (D012_4.out)).cell rfl, (Zp.out.later (D012_4.out)).cell rfl, (Zp.out.later (D012_4.out)).cell rfl, (Zq.out.later (D012_4.out)).cell rfl, (Zq.out.later (D012_4.out)).cell rfl, (Zq.out.later (D012_4.out)).cell rfl, (Zx.out.later (D012_4.out)).cell rfl, (Zx.out.later (D012_4.out)).cell rfl, (Zx.out.later (D012_4.out)).cell rfl, (Zy.out.later (D012_4.out)).cell rfl, (Zy.out.later (D012_4.out)).cell rfl, (Zy.out.later (D012_4.out)).cell rfl⟩
        | exact ⟨(Zg.out.later (D021_1.out)).cell rfl, (Zg.out.later (D021_1.out)).cell rfl, (Zg.out.later (D021_1.out)).cell rfl, (Zg.out.later (D021_1.out)).cell rfl, (Zp.out.later (D021_1.out)).cell rfl, (Zp.out.later (D021_1.out)).cell rfl, (Zp.out.later (D021_1.out)).cell rfl, (Zq.out.later (D021_1.out)).cell rfl, (Zq.out.later (D021_1.out)).cell rfl, (Zq.out.later (D021_1.out)).cell rfl, (Zx.out.later (D021_1.out)).cell rfl, (Zx.out.later (D021_1.out)).cell rfl, (Zx.out.later (D021_1.out)).cell rfl, (Zy.out.later (D021_1.out)).cell rfl, (Zy.out.later (D021_1.out)).cell rfl, (Zy.out.later (D021_1.out)).cell rfl⟩
        | exact ⟨(Zg.out.later (D021_2.out)).cell rfl, (Zg.out.later (D021_2.out)).cell rfl, (Zg.out.later (D021_2.out)).cell rfl, (Zg.out.later (D021_2.out)).cell rfl, (Zp.out.later (D021_2.out)).cell rfl, (Zp.out.later (D021_2.out)).cell rfl, (Zp.out.later (D021_2.out)).cell rfl, (Zq.out.later (D021_2.out)).cell rfl, (Zq.out.later (D021_2.out)).cell rfl, (Zq.out.later (D021_2.out)).cell rfl, (Zx.out.later (D021_2.out)).cell rfl, (Zx.out.later (D021_2.out)).cell rfl, (Zx.out.later (D021_2.out)).cell rfl, (Zy.out.later (D021_2.out)).cell rfl, (Zy.out.later (D021_2.out)).cell rfl, (Zy.out.later (D021_2.out)).cell rfl⟩
        | exact ⟨(Zg.out.later (D021_3.out)).cell rfl, (Zg.out.later (D021_3.out)).cell rfl, (Zg.out.later (D021_3.out)).cell rfl, (Zg.out.later (D021_3.out)).cell rfl, (Zp.out.later (D021_3.out)).cell rfl, (Zp.out.later (D021_3.out)).cell rfl, (Zp.out.later (D021_3.out)).cell rfl, (Zq.out.later (D021_3.out)).cell rfl, (Zq.out.later (D021_3.out)).cell rfl, (Zq.out.later (D021_3.out)).cell rfl, (Zx.out.later (D021_3.out)).cell rfl, (Zx.out.later (D021_3.out)).cell rfl, (Zx.out.later (D021_3.out)).cell rfl, (Zy.out.later (D021_3.out)).cell rfl, (Zy.out.later (D021_3.out)).cell rfl, (Zy.out.later (D021_3.out)).cell rfl⟩
        | exact ⟨(Zg.out.later (D021_4.out)).cell rfl, (Zg.out.later (D021_4.out)).cell rfl, (Zg.out.later (D021_4.out)).cell rfl, (Zg.out.later (D021_4.out)).cell rfl, (Zp.out.later (D021_4.out)).cell rfl, (Zp.out.later (D021_4.out)).cell rfl, (Zp.out.later (D021_4.out)).cell rfl, (Zq.out.later (D021_4.out)).cell rfl, (Zq.out.later (D021_4.out)).cell rfl, (Zq.out.later (D021_4.out)).cell rfl, (Zx.out.later (D021_4.out)).cell rfl, (Zx.out.later (D021_4.out)).cell rfl, (Zx.out.later (D021_4.out)).cell rfl, (Zy.out.later (D021_4.out)).cell rfl, (Zy.out.later (D021_4.out)).cell rfl, (Zy.out.later (D021_4.out)).cell rfl⟩
        | exact ⟨(Zg.out.later (D102_1.out)).cell rfl, (Zg.out.later (D102_1.out)).cell rfl, (Zg.out.later (D102_1.out)).cell rfl, (Zg.out.later (D102_1.out)).cell rfl, (Zp.out.later (D102_1.out)).cell rfl, (Zp.out.later (D102_1.out)).cell rfl, (Zp.out.later (D102_1.out)).cell rfl, (Zq.out.later (D102_1.out)).cell rfl, (Zq.out.later (D102_1.out)).cell rfl, (Zq.out.later (D102_1.out)).cell rfl, (Zx.out.later (D102_1.out)).cell rfl, (Zx.out.later (D102_1.out)).cell rfl, (Zx.out.later (D102_1.out)).cell rfl, (Zy.out.later (D102_1.out)).cell rfl, (Zy.out.later (D102_1.out)).cell rfl, (Zy.out.later (D102_1.out)).cell rfl⟩
        | exact ⟨(Zg.out.later (D102_2.out)).cell rfl, (Zg.out.later (D102_2.out)).cell rfl, (Zg.out.later (D102_2.out)).cell rfl, (Zg.out.later (D102_2.out)).cell rfl, (Zp.out.later (D102_2.out)).cell rfl, (Zp.out.later (D102_2.out)).cell rfl, (Zp.out.later (D102_2.out)).cell rfl, (Zq.out.later (D102_2.out)).cell rfl, (Zq.out.later (D102_2.out)).cell rfl, (Zq.out.later (D102_2.out)).cell rfl, (Zx.out.later (D102_2.out)).cell rfl, (Zx.out.later (D102_2.out)).cell rfl, (Zx.out.later (D102_2.out)).cell rfl, (Zy.out.later (D102_2.out)).cell rfl, (Zy.out.later (D102_2.out)).cell rfl, (Zy.out.later (D102_2.out)).cell rfl⟩
        | exact ⟨(Zg.out.later (D102_3.out)).cell rfl, (Zg.out.later (D102_3.out)).cell rfl, (Zg.out.later (D102_3.out)).cell rfl, (Zg.out.later (D102_3.out)).cell rfl, (Zp.out.later (D102_3.out)).cell rfl, (Zp.out.later (D102_3.out)).cell rfl, (Zp.out.later (D102_3.out)).cell rfl, (Zq.out.later (D102_3.out)).cell rfl, (Zq.out.later (D102_3.out)).cell rfl, (Zq.out.later (D102_3.out)).cell rfl, (Zx.out.later (D102_3.out)).cell rfl, (Zx.out.later (D102_3.out)).cell rfl, (Zx.out.later (D102_3.out)).cell rfl, (Zy.out.later (D102_3.out)).cell rfl, (Zy.out.later (D102_3.out)).cell rfl, (Zy.out.later (D102_3.out)).cell rfl⟩
        | exact ⟨(Zg.out.later (D102_4.out)).cell rfl, (Zg.out.later (D102_4.out)).cell rfl, (Zg.out.later (D102_4.out)).cell rfl, (Zg.out.later (D102_4.out)).cell rfl, (Zp.out.later (D102_4.out)).cell rfl, (Zp.out.later (D102_4.out)).cell rfl, (Zp.out.later (D102_4.out)).cell rfl, (Zq.out.later (D102_4.out)).cell rfl, (Zq.out.later (D102_4.out)).cell rfl, (Zq.out.later (D102_4.out)).cell rfl, (Zx.out.later (D102_4.out)).cell rfl, (Zx.out.later (D102_4.out)).cell rfl, (Zx.out.later (D102_4.out)).cell rfl, (Zy.out.later (D102_4.out)).cell rfl, (Zy.out.later (D102_4.out)).cell rfl, (Zy.out.later (D102_4.out)).cell rfl⟩
        | exact ⟨(Zg.out.later (D120_1.out)).cell rfl, (Zg.out.later (D120_1.out)).cell rfl, (Zg.out.later (D120_1.out)).cell rfl, (Zg.out.later (D120_1.out)).cell rfl, (Zp.out.later (D120_1.out)).cell rfl, (Zp.out.later (D120_1.out)).cell rfl, (Zp.out.later (D120_1.out)).cell rfl, (Zq.out.later (D120_1.out)).cell rfl, (Zq.out.later (D120_1.out)).cell rfl, (Zq.out.later (D120_1.out)).cell rfl, (Zx.out.later (D120_1.out)).cell rfl, (Zx.out.later (D120_1.out)).cell rfl, (Zx.out.later (D120_1.out)).cell rfl, (Zy.out.later (D120_1.out)).cell rfl, (Zy.out.later (D120_1.out)).cell rfl, (Zy.out.later (D120_1.out)).cell rfl⟩
        | exact ⟨(Zg.out.later (D120_2.out)).cell rfl, (Zg.out.later (D120_2.out)).cell rfl, (Zg.out.later (D120_2.out)).cell rfl, (Zg.out.later (D120_2.out)).cell rfl, (Zp.out.later (D120_2.out)).cell rfl, (Zp.out.later (D120_2.out)).cell rfl, (Zp.out.later (D120_2.out)).cell rfl, (Zq.out.later (D120_2.out)).cell rfl, (Zq.out.later (D120_2.out)).cell rfl, (Zq.out.later (D120_2.out)).cell rfl, (Zx.out.later (D120_2.out)).cell rfl, (Zx.out.later (D120_2.out)).cell rfl, (Zx.out.later (D120_2.out)).cell rfl, (Zy.out.later (D120_2.out)).cell rfl, (Zy.out.later (D120_2.out)).cell rfl, (Zy.out.later (D120_2.out)).cell rfl⟩
        | exact ⟨(Zg.out.later (D120_3.out)).cell rfl, (Zg.out.later (D120_3.out)).cell rfl, (Zg.out.later (D120_3.out)).cell rfl, (Zg.out.later (D120_3.out)).cell rfl, (Zp.out.later (D120_3.out)).cell rfl, (Zp.out.later (D120_3.out)).cell rfl, (Zp.out.later (D120_3.out)).cell rfl, (Zq.out.later (D120_3.out)).cell rfl, (Zq.out.later (D120_3.out)).cell rfl, (Zq.out.later (D120_3.out)).cell rfl, (Zx.out.later (D120_3.out)).cell rfl, (Zx.out.later (D120_3.out)).cell rfl, (Zx.out.later (D120_3.out)).cell rfl, (Zy.out.later (D120_3.out)).cell rfl, (Zy.out.later (D120_3.out)).cell rfl, (Zy.out.later (D120_3.out)).cell rfl⟩
        | exact ⟨(Zg.out.later (D120_4.out)).cell rfl, (Zg.out.later (D120_4.out)).cell rfl, (Zg.out.later (D120_4.out)).cell rfl, (Zg.out.later (D120_4.out)).cell rfl, (Zp.out.later (D120_4.out)).cell rfl, (Zp.out.later (D120_4.out)).cell rfl, (Zp.out.later (D120_4.out)).cell rfl, (Zq.out.later (D120_4.out)).cell rfl, (Zq.out.later (D120_4.out)).cell rfl, (Zq.out.later (D120_4.out)).cell rfl, (Zx.out.later (D120_4.out)).cell rfl, (Zx.out.later (D120_4.out)).cell rfl, (Zx.out.later (D120_4.out)).cell rfl, (Zy.out.later (D120_4.out)).cell rfl, (Zy.out.later (D120_4.out)).cell rfl, (Zy.out.later (D120_4.out)).cell rfl⟩
        | exact ⟨(Zg.out.later (D201_1.out)).cell rfl, (Zg.out.later (D201_1.out)).cell rfl, (Zg.out.later (D201_1.out)).cell rfl, (Zg.out.later (D201_1.out)).cell rfl, (Zp.out.later (D201_1.out)).cell rfl, (Zp.out.later (D201_1.out)).cell rfl, (Zp.out.later (D201_1.out)).cell rfl, (Zq.out.later (D201_1.out)).cell rfl, (Zq.out.later (D201_1.out)).cell rfl, (Zq.out.later (D201_1.out)).cell rfl, (Zx.out.later (D201_1.out)).cell rfl, (Zx.out.later (D201_1.out)).cell rfl, (Zx.out.later (D201_1.out)).cell rfl, (Zy.out.later (D201_1.out)).cell rfl, (Zy.out.later (D201_1.out)).cell rfl, (Zy.out.later (D201_1.out)).cell rfl⟩
        | exact ⟨(Zg.out.later (D201_2.out)).cell rfl, (Zg.out.later (D201_2.out)).cell rfl, (Zg.out.later (D201_2.out)).cell rfl, (Zg.out.later (D201_2.out)).cell rfl, (Zp.out.later (D201_2.out)).cell rfl, (Zp.out.later (D201_2.out)).cell rfl, (Zp.out.later (D201_2.out)).cell rfl, (Zq.out.later (D201_2.out)).cell rfl, (Zq.out.later (D201_2.out)).cell rfl, (Zq.out.later (D201_2.out)).cell rfl, (Zx.out.later (D201_2.out)).cell rfl, (Zx.out.later (D201_2.out)).cell rfl, (Zx.out.later (D201_2.out)).cell rfl, (Zy.out.later (D201_2.out)).cell rfl, (Zy.out.later (D201_2.out)).cell rfl, (Zy.out.later (D201_2.out)).cell rfl⟩
        | exact ⟨(Zg.out.later (D201_3.out)).cell rfl, (Zg.out.later (D201_3.out)).cell rfl, (Zg.out.later (D201_3.out)).cell rfl, (Zg.out.later (D201_3.out)).cell rfl, (Zp.out.later (D201_3.out)).cell rfl, (Zp.out.later (D201_3.out)).cell rfl, (Zp.out.later (D201_3.out)).cell rfl, (Zq.out.later (D201_3.out)).cell rfl, (Zq.out.later (D201_3.out)).cell rfl, (Zq.out.later (D201_3.out)).cell rfl, (Zx.out.later (D201_3.out)).cell rfl, (Zx.out.later (D201_3.out)).cell rfl, (Zx.out.later (D201_3.out)).cell rfl, (Zy.out.later (D201_3.out)).cell rfl, (Zy.out.later (D201_3.out)).cell rfl, (Zy.out.later (D201_3.out)).cell rfl⟩
        | exact ⟨(Zg.out.later (D201_4.out)).cell rfl, (Zg.out.later (D201_4.out)).cell rfl, (Zg.out.later (D201_4.out)).cell rfl, (Zg.out.later (D201_4.out)).cell rfl, (Zp.out.later (D201_4.out)).cell rfl, (Zp.out.later (D201_4.out)).cell rfl, (Zp.out.later (D201_4.out)).cell rfl, (Zq.out.later (D201_4.out)).cell rfl, (Zq.out.later (D201_4.out)).cell rfl, (Zq.out.later (D201_4.out)).cell rfl, (Zx.out.later (D201_4.out)).cell rfl, (Zx.out.later (D201_4.out)).cell rfl, (Zx.out.later (D201_4.out)).cell rfl, (Zy.out.later (D201_4.out)).cell rfl, (Zy.out.later (D201_4.out)).cell rfl, (Zy.out.later (D201_4.out)).cell rfl⟩
        | exact ⟨(Zg.out.later (D210_1.out)).cell rfl, (Zg.out.later (D210_1.out)).cell rfl, (Zg.out.later (D210_1.out)).cell rfl, (Zg.out.later (D210_1.out)).cell rfl, (Zp.out.later (D210_1.out)).cell rfl, (Zp.out.later (D210_1.out)).cell rfl, (Zp.out.later (D210_1.out)).cell rfl, (Zq.out.later (D210_1.out)).cell rfl, (Zq.out.later (D210_1.out)).cell rfl, (Zq.out.later (D210_1.out)).cell rfl, (Zx.out.later (D210_1.out)).cell rfl, (Zx.out.later (D210_1.out)).cell rfl, (Zx.out.later (D210_1.out)).cell rfl, (Zy.out.later (D210_1.out)).cell rfl, (Zy.out.later (D210_1.out)).cell rfl, (Zy.out.later (D210_1.out)).cell rfl⟩
        | exact ⟨(Zg.out.later (D210_2.out)).cell rfl, (Zg.out.later (D210_2.out)).cell rfl, (Zg.out.later (D210_2.out)).cell rfl, (Zg.out.later (D210_2.out)).cell rfl, (Zp.out.later (D210_2.out)).cell rfl, (Zp.out.later (D210_2.out)).cell rfl, (Zp.out.later (D210_2.out)).cell rfl, (Zq.out.later (D210_2.out)).cell rfl, (Zq.out.later (D210_2.out)).cell rfl, (Zq.out.later (D210_2.out)).cell rfl, (Zx.out.later (D210_2.out)).cell rfl, (Zx.out.later (D210_2.out)).cell rfl, (Zx.out.later (D210_2.out)).cell rfl, (Zy.out.later (D210_2.out)).cell rfl, (Zy.out.later (D210_2.out)).cell rfl, (Zy.out.later (D210_2.out)).cell rfl⟩
        | exact ⟨(Zg.out.later (D210_3.out)).cell rfl, (Zg.out.later (D210_3.out)).cell rfl, (Zg.out.later (D210_3.out)).cell rfl, (Zg.out.later (D210_3.out)).cell rfl, (Zp.out.later (D210_3.out)).cell rfl, (Zp.out.later (D210_3.out)).cell rfl, (Zp.out.later (D210_3.out)).cell rfl, (Zq.out.later (D210_3.out)).cell rfl, (Zq.out.later (D210_3.out)).cell rfl, (Zq.out.later (D210_3.out)).cell rfl, (Zx.out.later (D210_3.out)).cell rfl, (Zx.out.later (D210_3.out)).cell rfl, (Zx.out.later (D210_3.out)).cell rfl, (Zy.out.later (D210_3.out)).cell rfl, (Zy.out.later (D210_3.out)).cell rfl, (Zy.out.later (D210_3.out)).cell rfl⟩
        | exact ⟨(Zg.out.later (D210_4.out)).cell rfl, (Zg.out.later (D210_4.out)).cell rfl, (Zg.out.later (D210_4.out)).cell rfl, (Zg.out.later (D210_4.out)).cell rfl, (Zp.out.later (D210_4.out)).cell rfl, (Zp.out.later (D210_4.out)).cell rfl, (Zp.out.later (D210_4.out)).cell rfl, (Zq.out.later (D210_4.out)).cell rfl, (Zq.out.later (D210_4.out)).cell rfl, (Zq.out.later (D210_4.out)).cell rfl, (Zx.out.later (D210_4.out)).cell rfl, (Zx.out.later (D210_4.out)).cell rfl, (Zx.out.later (D210_4.out)).cell rfl, (Zy.out.later (D210_4.out)).cell rfl, (Zy.out.later (D210_4.out)).cell rfl, (Zy.out.later (D210_4.out)).cell rfl⟩
        | go_keep)
      (first
        | (go_at_call 16; (with_reducible refine (implCh_obj Tg Pg Ig Qg t p a1_012p c1_012p a2_012p c2_012p q a1_012q c1_012q a2_012q c2_012q _ (cPart_un (O012p_3.out.rd)).1 (cPart_un (O012p_3.out.rd)).2 HZ_p.out HTI_p.out (cPart_un (O012q_3.out.rd)).1 (cPart_un (O012q_3.out.rd)).2 HZ_q.out HTI_q.out HR.out).mono ?_); rintro e wz012_4 ⟨vz, rfl, ho, hb⟩; have HO012 := Lib.hid (ho.mono (Nat.le_trans BD.out.size D012_3.out.size) (Nat.le_refl _)); have D012_4 : Hid (Below w12.drew.heap.size w12.drew wz012_4) := Lib.hid (D012_3.out.trans (hb.mono D012_3.out.size)); have B012_4 : Hid (Below w12.heap.size w12 wz012_4) := Lib.hid (BD.out.trans (D012_4.out.mono BD.out.size)); clear hb ho)
        | (go_at_call 16; (with_reducible refine (implCh_obj Tg Pg Ig Qg t p a1_021p c1_021p a2_021p c2_021p q a1_021q c1_021q a2_021q c2_021q _ (cPart_un (O021p_3.out.rd)).1 (cPart_un (O021p_3.out.rd)).2 HZ_p.out HTI_p.out (cPart_un (O021q_3.out.rd)).1 (cPart_un (O021q_3.out.rd)).2 HZ_q.out HTI_q.out HR.out).mono ?_); rintro e wz021_4 ⟨vz, rfl, ho, hb⟩; have HO021 := Lib.hid (ho.mono (Nat.le_trans BD.out.size D021_3.out.size) (Nat.le_refl _)); have D021_4 : Hid (Below w12.drew.heap.size w12.drew wz021_4) := Lib.hid (D021_3.out.trans (hb.mono D021_3.out.size)); have B021_4 : Hid (Below w12.heap.size w12 wz021_4) := Lib.hid (BD.out.trans (D021_4.out.mono BD.out.size)); clear hb ho)
        | (go_at_call 16; (with_reducible refine (implCh_obj Tg Pg Ig Qg t p a1_102p c1_102p a2_102p c2_102p q a1_102q c1_102q a2_102q c2_102q _ (cPart_un (O102p_3.out.rd)).1 (cPart_un (O102p_3.out.rd)).2 HZ_p.out HTI_p.out (cPart_un (O102q_3.out.rd)).1 (cPart_un (O102q_3.out.rd)).2 HZ_q.out HTI_q.out HR.out).mono ?_); rintro e wz102_4 ⟨vz, rfl, ho, hb⟩; have HO102 := Lib.hid (ho.mono (Nat.le_trans BD.out.size D102_3.out.size) (Nat.le_refl _)); have D102_4 : Hid (Below w12.drew.heap.size w12.drew wz102_4) := Lib.hid (D102_3.out.trans (hb.mono D102_3.out.size)); have B102_4 : Hid (Below w12.heap.size w12 wz102_4) := Lib.hid (BD.out.trans (D102_4.out.mono BD.out.size)); clear hb ho)
        | (go_at_call 16; (with_reducible refine (implCh_obj Tg Pg Ig Qg t p a1_120p c1_120p a2_120p c2_120p q a1_120q c1_120q a2_120q c2_120q _ (cPart_un (O120p_3.out.rd)).1 (cPart_un (O120p_3.out.rd)).2 HZ_p.out HTI_p.out (cPart_un (O120q_3.out.rd)).1 (cPart_un (O120q_3.out.rd)).2 HZ_q.out HTI_q.out HR.out).mono ?_); rintro e wz120_4 ⟨vz, rfl, ho, hb⟩; have HO120 := Lib.hid (ho.mono (Nat.le_trans BD.out.size D120_3.out.size) (Nat.le_refl _)); have D120_4 : Hid (Below w12.drew.heap.size w12.drew wz120_4) := Lib.hid (D120_3.out.trans (hb.mono D120_3.out.size)); have B120_4 : Hid (Below w12.heap.size w12 wz120_4) := Lib.hid (BD.out.trans (D120_4.out.mono BD.out.size)); clear hb ho)
        | (go_at_call 16; (with_reducible refine (implCh_obj Tg Pg Ig Qg t p a1_201p c1_201p a2_201p c2_201p q a1_201q c1_201q a2_201q c2_201q _ (cPart_un (O201p_3.out.rd)).1 (cPart_un (O201p_3.out.rd)).2 HZ_p.out HTI_p.out (cPart_un (O201q_3.out.rd)).1 (cPart_un (O201q_3.out.rd)).2 HZ_q.out HTI_q.out HR.out).mono ?_); rintro e wz201_4 ⟨vz, rfl, ho, hb⟩; have HO201 := Lib.hid (ho.mono (Nat.le_trans BD.out.size D201_3.out.size) (Nat.le_refl _)); have D201_4 : Hid (Below w12.drew.heap.size w12.drew wz201_4) := Lib.hid (D201_3.out.trans (hb.mono D201_3.out.size)); have B201_4 : Hid (Below w12.heap.size w12 wz201_4) := Lib.hid (BD.out.trans (D201_4.out.mono BD.out.size)); clear hb ho)
        | (go_at_call 16; (with_reducible refine (implCh_obj Tg Pg Ig Qg t p a1_210p c1_210p a2_210p c2_210p q a1_210q c1_210q a2_210q c2_210q _ (cPart_un (O210p_3.out.rd)).1 (cPart_un (O210p_3.out.rd)).2 HZ_p.out HTI_p.out (cPart_un (O210q_3.out.rd)).1 (cPart_un (O210q_3.out.rd)).2 HZ_q.out HTI_q.out HR.out).mono ?_); rintro e wz210_4 ⟨vz, rfl, ho, hb⟩; have HO210 := Lib.hid (ho.mono (Nat.le_trans BD.out.size D210_3.out.size) (Nat.le_refl _)); have D210_4 : Hid (Below w12.drew.heap.size w12.drew wz210_4) := Lib.hid (D210_3.out.trans (hb.mono D210_3.out.size)); have B210_4 : Hid (Below w12.heap.size w12 wz210_4) := Lib.hid (BD.out.trans (D210_4.out.mono BD.out.size)); clear hb ho)
        | (go_at_call 8; (with_reducible refine (toPart_st q a1_q c1_q a2_q c2_q _ (Cel.Rd.later (BW_16.out.trans (B012_2.out.mono BW_16.out.size)) _ _ HS1_q.out) (Cel.Rd.later (BW_16.out.trans (B012_2.out.mono BW_16.out.size)) _ _ HS2_q.out) HZ_q.out).mono ?_); rintro e wz012_3 ⟨vs, rfl, ho, hb⟩; obtain ⟨a1_012q, c1_012q, a2_012q, c2_012q, rfl, _, _⟩ := cPart_form ho.rd; have O012q_3 := Lib.hid ho; have D012_3 : Hid (Below w12.drew.heap.size w12.drew wz012_3) := Lib.hid (D012_2.out.trans (hb.mono D012_2.out.size)); have B012_3 : Hid (Below w12.heap.size w12 wz012_3) := Lib.hid (BD.out.trans (D012_3.out.mono BD.out.size)); have O012p_3 := Lib.hid (O012p_2.out.later hb); clear hb ho)
        | (go_at_call 8; (with_reducible refine (toPart_st p a1_p c1_p a2_p c2_p _ (Cel.Rd.later (BW_16.out.trans (B021_2.out.mono BW_16.out.size)) _ _ HS1_p.out) (Cel.Rd.later (BW_16.out.trans (B021_2.out.mono BW_16.out.size)) _ _ HS2_p.out) HZ_p.out).mono ?_); rintro e wz021_3 ⟨vs, rfl, ho, hb⟩; obtain ⟨a1_021p, c1_021p, a2_021p, c2_021p, rfl, _, _⟩ := cPart_form ho.rd; have O021p_3 := Lib.hid ho; have D021_3 : Hid (Below w12.drew.heap.size w12.drew wz021_3) := Lib.hid (D021_2.out.trans (hb.mono D021_2.out.size)); have B021_3 : Hid (Below w12.heap.size w12 wz021_3) := Lib.hid (BD.out.trans (D021_3.out.mono BD.out.size)); have O021q_3 := Lib.hid (O021q_2.out.later hb); clear hb ho)
        | (go_at_call 8; (with_reducible refine (toPart_st q a1_q c1_q a2_q c2_q _ (Cel.Rd.later (BW_16.out.trans (B102_2.out.mono BW_16.out.size)) _ _ HS1_q.out) (Cel.Rd.later (BW_16.out.trans (B102_2.out.mono BW_16.out.size)) _ _ HS2_q.out) HZ_q.out).mono ?_); rintro e wz102_3 ⟨vs, rfl, ho, hb⟩; obtain ⟨a1_102q, c1_102q, a2_102q, c2_102q, rfl, _, _⟩ := cPart_form ho.rd; have O102q_3 := Lib.hid ho; have D102_3 : Hid (Below w12.drew.heap.size w12.drew wz102_3) := Lib.hid (D102_2.out.trans (hb.mono D102_2.out.size)); have B102_3 : Hid (Below w12.heap.size w12 wz102_3) := Lib.hid (BD.out.trans (D102_3.out.mono BD.out.size)); have O102p_3 := Lib.hid (O102p_2.out.later hb); clear hb ho)
        | (go_at_call 7; (with_reducible refine (toGeo_any Tg Pg Ig Qg _).mono ?_); rintro e wz120_3 ⟨rfl, hb⟩; have D120_3 : Hid (Below w12.drew.heap.size w12.drew wz120_3) := Lib.hid (D120_2.out.trans (hb.mono D120_2.out.size)); have B120_3 : Hid (Below w12.heap.size w12 wz120_3) := Lib.hid (BD.out.trans (D120_3.out.mono BD.out.size)); have O120p_3 := Lib.hid (O120p_2.out.later hb); have O120q_3 := Lib.hid (O120q_2.out.later hb); clear hb)
        | (go_at_call 8; (with_reducible refine (toPart_st p a1_p c1_p a2_p c2_p _ (Cel.Rd.later (BW_16.out.trans (B201_2.out.mono BW_16.out.size)) _ _ HS1_p.out) (Cel.Rd.later (BW_16.out.trans (B201_2.out.mono BW_16.out.size)) _ _ HS2_p.out) HZ_p.out).mono ?_); rintro e wz201_3 ⟨vs, rfl, ho, hb⟩; obtain ⟨a1_201p, c1_201p, a2_201p, c2_201p, rfl, _, _⟩ := cPart_form ho.rd; have O201p_3 := Lib.hid ho; have D201_3 : Hid (Below w12.drew.heap.size w12.drew wz201_3) := Lib.hid (D201_2.out.trans (hb.mono D201_2.out.size)); have B201_3 : Hid (Below w12.heap.size w12 wz201_3) := Lib.hid (BD.out.trans (D201_3.out.mono BD.out.size)); have O201q_3 := Lib.hid (O201q_2.out.later hb); clear hb ho)
        | (go_at_call 7; (with_reducible refine (toGeo_any Tg Pg Ig Qg _).mono ?_); rintro e wz210_3 ⟨rfl, hb⟩; have D210_3 : Hid (Below w12.drew.heap.size w12.drew wz210_3) := Lib.hid (D210_2.out.trans (hb.mono D210_2.out.size)); have B210_3 : Hid (Below w12.heap.size w12 wz210_3) := Lib.hid (BD.out.trans (D210_3.out.mono BD.out.size)); have O210q_3 := Lib.hid (O210q_2.out.later hb); have O210p_3 := Lib.hid (O210p_2.out.later hb); clear hb)
        | (go_at_call 8; (with_reducible refine (toPart_st p a1_p c1_p a2_p c2_p _ (Cel.Rd.later (BW_16.out.trans (B012_1.out.mono BW_16.out.size)) _ _ HS1_p.out) (Cel.Rd.later (BW_16.out.trans (B012_1.out.mono BW_16.out.size)) _ _ HS2_p.out) HZ_p.out).mono ?_); rintro e wz012_2 ⟨vs, rfl, ho, hb⟩; obtain ⟨a1_012p, c1_012p, a2_012p, c2_012p, rfl, _, _⟩ := cPart_form ho.rd; have O012p_2 := Lib.hid ho; have D012_2 : Hid (Below w12.drew.heap.size w12.drew wz012_2) := Lib.hid (D012_1.out.trans (hb.mono D012_1.out.size)); have B012_2 : Hid (Below w12.heap.size w12 wz012_2) := Lib.hid (BD.out.trans (D012_2.out.mono BD.out.size)); clear hb ho)
        | (go_at_call 8; (with_reducible refine (toPart_st q a1_q c1_q a2_q c2_q _ (Cel.Rd.later (BW_16.out.trans (B021_1.out.mono BW_16.out.size)) _ _ HS1_q.out) (Cel.Rd.later (BW_16.out.trans (B021_1.out.mono BW_16.out.size)) _ _ HS2_q.out) HZ_q.out).mono ?_); rintro e wz021_2 ⟨vs, rfl, ho, hb⟩; obtain ⟨a1_021q, c1_021q, a2_021q, c2_021q, rfl, _, _⟩ := cPart_form ho.rd; have O021q_2 := Lib.hid ho; have D021_2 : Hid (Below w12.drew.heap.size w12.drew wz021_2) := Lib.hid (D021_1.out.trans (hb.mono D021_1.out.size)); have B021_2 : Hid (Below w12.heap.size w12 wz021_2) := Lib.hid (BD.out.trans (D021_2.out.mono BD.out.size)); clear hb ho)
        | (go_at_call 7; (with_reducible refine (toGeo_any Tg Pg Ig Qg _).mono ?_); rintro e wz102_2 ⟨rfl, hb⟩; have D102_2 : Hid (Below w12.drew.heap.size w12.drew wz102_2) := Lib.hid (D102_1.out.trans (hb.mono D102_1.out.size)); have B102_2 : Hid (Below w12.heap.size w12 wz102_2) := Lib.hid (BD.out.trans (D102_2.out.mono BD.out.size)); have O102p_2 := Lib.hid (O102p_1.out.later hb); clear hb)
        | (go_at_call 8; (with_reducible refine (toPart_st q a1_q c1_q a2_q c2_q _ (Cel.Rd.later (BW_16.out.trans (B120_1.out.mono BW_16.out.size)) _ _ HS1_q.out) (Cel.Rd.later (BW_16.out.trans (B120_1.out.mono BW_16.out.size)) _ _ HS2_q.out) HZ_q.out).mono ?_); rintro e wz120_2 ⟨vs, rfl, ho, hb⟩; obtain ⟨a1_120q, c1_120q, a2_120q, c2_120q, rfl, _, _⟩ := cPart_form ho.rd; have O120q_2 := Lib.hid ho; have D120_2 : Hid (Below w12.drew.heap.size w12.drew wz120_2) := Lib.hid (D120_1.out.trans (hb.mono D120_1.out.size)); have B120_2 : Hid (Below w12.heap.size w12 wz120_2) := Lib.hid (BD.out.trans (D120_2.out.mono BD.out.size)); have O120p_2 := Lib.hid (O120p_1.out.later hb); clear hb ho)
        | (go_at_call 7; (with_reducible refine (toGeo_any Tg Pg Ig Qg _).mono ?_); rintro e wz201_2 ⟨rfl, hb⟩; have D201_2 : Hid (Below w12.drew.heap.size w12.drew wz201_2) := Lib.hid (D201_1.out.trans (hb.mono D201_1.out.size)); have B201_2 : Hid (Below w12.heap.size w12 wz201_2) := Lib.hid (BD.out.trans (D201_2.out.mono BD.out.size)); have O201q_2 := Lib.hid (O201q_1.out.later hb); clear hb)
        | (go_at_call 8; (with_reducible refine (toPart_st p a1_p c1_p a2_p c2_p _ (Cel.Rd.later (BW_16.out.trans (B210_1.out.mono BW_16.out.size)) _ _ HS1_p.out) (Cel.Rd.later (BW_16.out.trans (B210_1.out.mono BW_16.out.size)) _ _ HS2_p.out) HZ_p.out).mono ?_); rintro e wz210_2 ⟨vs, rfl, ho, hb⟩; obtain ⟨a1_210p, c1_210p, a2_210p, c2_210p, rfl, _, _⟩ := cPart_form ho.rd; have O210p_2 := Lib.hid ho; have D210_2 : Hid (Below w12.drew.heap.size w12.drew wz210_2) := Lib.hid (D210_1.out.trans (hb.mono D210_1.out.size)); have B210_2 : Hid (Below w12.heap.size w12 wz210_2) := Lib.hid (BD.out.trans (D210_2.out.mono BD.out.size)); have O210q_2 := Lib.hid (O210q_1.out.later hb); clear hb ho)
        | (go_at_call 7; (with_reducible refine (toGeo_any Tg Pg Ig Qg _).mono ?_); rintro e wz012_1 ⟨rfl, hb⟩; have D012_1 : Hid (Below w12.drew.heap.size w12.drew wz012_1) := Lib.hid (hb); have B012_1 : Hid (Below w12.heap.size w12 wz012_1) := Lib.hid (BD.out.trans (D012_1.out.mono BD.out.size)); clear hb)
        | (go_at_call 7; (with_reducible refine (toGeo_any Tg Pg Ig Qg _).mono ?_); rintro e wz021_1 ⟨rfl, hb⟩; have D021_1 : Hid (Below w12.drew.heap.size w12.drew wz021_1) := Lib.hid (hb); have B021_1 : Hid (Below w12.heap.size w12 wz021_1) := Lib.hid (BD.out.trans (D021_1.out.mono BD.out.size)); clear hb)
        | (go_at_call 8; (with_reducible refine (toPart_st p a1_p c1_p a2_p c2_p _ (Cel.Rd.later (BW_16.out.trans (BD.out.mono BW_16.out.size)) _ _ HS1_p.out) (Cel.Rd.later (BW_16.out.trans (BD.out.mono BW_16.out.size)) _ _ HS2_p.out) HZ_p.out).mono ?_); rintro e wz102_1 ⟨vs, rfl, ho, hb⟩; obtain ⟨a1_102p, c1_102p, a2_102p, c2_102p, rfl, _, _⟩ := cPart_form ho.rd; have O102p_1 := Lib.hid ho; have D102_1 : Hid (Below w12.drew.heap.size w12.drew wz102_1) := Lib.hid (hb); have B102_1 : Hid (Below w12.heap.size w12 wz102_1) := Lib.hid (BD.out.trans (D102_1.out.mono BD.out.size)); clear hb ho)
        | (go_at_call 8; (with_reducible refine (toPart_st p a1_p c1_p a2_p c2_p _ (Cel.Rd.later (BW_16.out.trans (BD.out.mono BW_16.out.size)) _ _ HS1_p.out) (Cel.Rd.later (BW_16.out.trans (BD.out.mono BW_16.out.size)) _ _ HS2_p.out) HZ_p.out).mono ?_); rintro e wz120_1 ⟨vs, rfl, ho, hb⟩; obtain ⟨a1_120p, c1_120p, a2_120p, c2_120p, rfl, _, _⟩ := cPart_form ho.rd; have O120p_1 := Lib.hid ho; have D120_1 : Hid (Below w12.drew.heap.size w12.drew wz120_1) := Lib.hid (hb); have B120_1 : Hid (Below w12.heap.size w12 wz120_1) := Lib.hid (BD.out.trans (D120_1.out.mono BD.out.size)); clear hb ho)
        | (go_at_call 8; (with_reducible refine (toPart_st q a1_q c1_q a2_q c2_q _ (Cel.Rd.later (BW_16.out.trans (BD.out.mono BW_16.out.size)) _ _ HS1_q.out) (Cel.Rd.later (BW_16.out.trans (BD.out.mono BW_16.out.size)) _ _ HS2_q.out) HZ_q.out).mono ?_); rintro e wz201_1 ⟨vs, rfl, ho, hb⟩; obtain ⟨a1_201q, c1_201q, a2_201q, c2_201q, rfl, _, _⟩ := cPart_form ho.rd; have O201q_1 := Lib.hid ho; have D201_1 : Hid (Below w12.drew.heap.size w12.drew wz201_1) := Lib.hid (hb); have B201_1 : Hid (Below w12.heap.size w12 wz201_1) := Lib.hid (BD.out.trans (D201_1.out.mono BD.out.size)); clear hb ho)
        | (go_at_call 8; (with_reducible refine (toPart_st q a1_q c1_q a2_q c2_q _ (Cel.Rd.later (BW_16.out.trans (BD.out.mono BW_16.out.size)) _ _ HS1_q.out) (Cel.Rd.later (BW_16.out.trans (BD.out.mono BW_16.out.size)) _ _ HS2_q.out) HZ_q.out).mono ?_); rintro e wz210_1 ⟨vs, rfl, ho, hb⟩; obtain ⟨a1_210q, c1_210q, a2_210q, c2_210q, rfl, _, _⟩ := cPart_form ho.rd; have O210q_1 := Lib.hid ho; have D210_1 : Hid (Below w12.drew.heap.size w12.drew wz210_1) := Lib.hid (hb); have B210_1 : Hid (Below w12.heap.size w12 wz210_1) := Lib.hid (BD.out.trans (D210_1.out.mono BD.out.size)); clear hb ho))
    all_goals
      go_wp2
      go_meet
      first | exact ⟨HO012.out, B012_4.out⟩ | exact ⟨HO021.out, B021_4.out⟩ | exact ⟨HO102.out, B102_4.out⟩ | exact ⟨HO120.out, B120_4.out⟩ | exact ⟨HO201.out, B201_4.out⟩ | exact ⟨HO210.out, B210_4.out⟩
  case rest =>
  obtain ⟨ho, hb⟩ := hcut
  obtain ⟨w13, hnew⟩ : ∃ y, y = wc := ⟨_, rfl⟩
  rw [← hnew] at ho hb ⊢
  clear hnew
  obtain ⟨v_h0, hnew⟩ : ∃ y, y = u17 := ⟨_, rfl⟩
  rw [← hnew] at ho ⊢
  clear hnew
  have Xg_17 := Lib.hid (Xg_16.out.later hb)
  have Xp_17 := Lib.hid (Xp_16.out.later hb)
  have Xq_17 := Lib.hid (Xq_16.out.later hb)
  have Xx_17 := Lib.hid (Xx_16.out.later hb)
  have Xy_17 := Lib.hid (Xy_16.out.later hb)
  have Ow_17 := Lib.hid (Ow_16.out.later hb)
  have Ox_17 := Lib.hid (Ox_16.out.later hb)
  have Oy_17 := Lib.hid (Oy_16.out.later hb)
  have Og0_17 := Lib.hid (Og0_16.out.later hb)
  have BW_17 : Hid (Below w.heap.size w w13) := Lib.hid (BW_16.out.trans (hb.mono BW_16.out.size))
  have SZ_w13 : Hid (w12.heap.size ≤ w13.heap.size) := Lib.hid hb.size
  clear hb Xg_16 Xp_16 Xq_16 Xx_16 Xy_16 Ow_16 Ox_16 Oy_16 Og0_16 BW_16
  have Oh0_17x := Lib.hid ho
  clear ho
  have dg0 := Xg_17.out.cell (j := 0) rfl
  have dg1 := Xg_17.out.cell (j := 1) rfl
  have dg2 := Xg_17.out.cell (j := 2) rfl
  have dg3 := Xg_17.out.cell (j := 3) rfl
  have dp0 := Xp_17.out.cell (j := 0) rfl
  have dp1 := Xp_17.out.cell (j := 1) rfl
  have dp2 := Xp_17.out.cell (j := 2) rfl
  have dq0 := Xq_17.out.cell (j := 0) rfl
  have dq1 := Xq_17.out.cell (j := 1) rfl
  have dq2 := Xq_17.out.cell (j := 2) rfl
  have dx0 := Xx_17.out.cell (j := 0) rfl
  have dx1 := Xx_17.out.cell (j := 1) rfl
  have dx2 := Xx_17.out.cell (j := 2) rfl
  have dy0 := Xy_17.out.cell (j := 0) rfl
  have dy1 := Xy_17.out.cell (j := 1) rfl
  have dy2 := Xy_17.out.cell (j := 2) rfl
  go_wp2_with fail
  clear dg0 dg1 dg2 dg3 dp0 dp1 dp2 dq0 dq1 dq2 dx0 dx1 dx2 dy0 dy1 dy2
  refine (eqWriteS_any _ _ r _ Oh0_17x.out.rd Ow_17.out.rd HRZ.out).mono ?_
  rintro e w14 ⟨rfl, hb⟩
  have Xg_18 := Lib.hid (Xg_17.out.later hb)
  have Xp_18 := Lib.hid (Xp_17.out.later hb)
  have Xq_18 := Lib.hid (Xq_17.out.later hb)
  have Xx_18 := Lib.hid (Xx_17.out.later hb)
  have Xy_18 := Lib.hid (Xy_17.out.later hb)
  have Ow_18 := Lib.hid (Ow_17.out.later hb)
  have Ox_18 := Lib.hid (Ox_17.out.later hb)
  have Oy_18 := Lib.hid (Oy_17.out.later hb)
  have Og0_18 := Lib.hid (Og0_17.out.later hb)
  have Oh0_18 := Lib.hid (Oh0_17x.out.later hb)
  have BW_18 : Hid (Below w.heap.size w w14) := Lib.hid (BW_17.out.trans (hb.mono BW_17.out.size))
  have SZ_w14 : Hid (w13.heap.size ≤ w14.heap.size) := Lib.hid hb.size
  clear hb Xg_17 Xp_17 Xq_17 Xx_17 Xy_17 Ow_17 Ox_17 Oy_17 Og0_17 Oh0_17x BW_17
  have dg0 := Xg_18.out.cell (j := 0) rfl
  have dg1 := Xg_18.out.cell (j := 1) rfl
  have dg2 := Xg_18.out.cell (j := 2) rfl
  have dg3 := Xg_18.out.cell (j := 3) rfl
  have dp0 := Xp_18.out.cell (j := 0) rfl
  have dp1 := Xp_18.out.cell (j := 1) rfl
  have dp2 := Xp_18.out.cell (j := 2) rfl
  have dq0 := Xq_18.out.cell (j := 0) rfl
  have dq1 := Xq_18.out.cell (j := 1) rfl
  have dq2 := Xq_18.out.cell (j := 2) rfl
  have dx0 := Xx_18.out.cell (j := 0) rfl
  have dx1 := Xx_18.out.cell (j := 1) rfl
  have dx2 := Xx_18.out.cell (j := 2) rfl
  have dy0 := Xy_18.out.cell (j := 0) rfl
  have dy1 := Xy_18.out.cell (j := 1) rfl
  have dy2 := Xy_18.out.cell (j := 2) rfl
  go_wp2_with fail
  clear dg0 dg1 dg2 dg3 dp0 dp1 dp2 dq0 dq1 dq2 dx0 dx1 dx2 dy0 dy1 dy2
  refine (heldWriteS_any _ r 1 _ _ (by rfl) (by decide) HRC.out HRZ.out Og0_18.out.rd).mono ?_
  rintro e w15 ⟨he, hb⟩
  rw [HC_m.out] at he
  subst he
  have Xg_19 := Lib.hid (Xg_18.out.later hb)
  have Xp_19 := Lib.hid (Xp_18.out.later hb)
  have Xq_19 := Lib.hid (Xq_18.out.later hb)
  have Xx_19 := Lib.hid (Xx_18.out.later hb)
  have Xy_19 := Lib.hid (Xy_18.out.later hb)
  have Ow_19 := Lib.hid (Ow_18.out.later hb)
  have Ox_19 := Lib.hid (Ox_18.out.later hb)
  have Oy_19 := Lib.hid (Oy_18.out.later hb)
  have Og0_19 := Lib.hid (Og0_18.out.later hb)
  have Oh0_19 := Lib.hid (Oh0_18.out.later hb)
  have BW_19 : Hid (Below w.heap.size w w15) := Lib.hid (BW_18.out.trans (hb.mono BW_18.out.size))
  have SZ_w15 : Hid (w14.heap.size ≤ w15.heap.size) := Lib.hid hb.size
  clear hb Xg_18 Xp_18 Xq_18 Xx_18 Xy_18 Ow_18 Ox_18 Oy_18 Og0_18 Oh0_18 BW_18
  go_wp2
  go_ret
  exact ⟨rfl, BW_19.out⟩
end Go.Proofs.YtmkchilhnmkhkabGreat
