/- FnExactSameView: the law's walk. -/
import Derived.Test.YtkfkjcadmdcbnaaVwSameB
import Derived.Test.YtkfkjcadmdcbnaaTViewZ
import Derived.Test.YtkfkjcadmdcbnaaTViewC
import Derived.Test.YtkfkjcadmdcbnaaTViewQ
import Derived.Test.YtkfkjcadmdcbnaaMarkAt
import Derived.Test.YtkfkjcadmdcbnaaCutImport
namespace Go.Proofs.Ytkfkjcadmdcbnaa
open Go.RowKit Go.Proofs.Ytkfkjcadmdcbnaa.Parts Go.Proofs.Ytkfkjcadmdcbnaa.Hexa

set_option maxRecDepth 100000 in
set_option maxHeartbeats 4000000 in
theorem sameView_law (a : ViewR) (a0_a : Option Addr) (c0_a : Nat) (b : ViewR) (a0_b : Option Addr) (c0_b : Nat) (w : World) (ht_a : TyL (cView.cels a)) (h0_a : (celRow cItem a.items).Rd w (.slice a0_a a.items.length c0_a)) (ht_b : TyL (cView.cels b)) (h0_b : (celRow cItem b.items).Rd w (.slice a0_b b.items.length c0_b)) :
    Calls Try.prog 8 #[.agg #[.slice a0_a a.items.length c0_a], .agg #[.slice a0_b b.items.length c0_b]] w fun e w' => e = .returned (.bool true) ∧ Below w.heap.size w w' := by
  have HT_a := Lib.hid ht_a
  clear ht_a
  have HS0_a := Lib.hid h0_a
  clear h0_a
  have HT_b := Lib.hid ht_b
  clear ht_b
  have HS0_b := Lib.hid h0_b
  clear h0_b
  obtain ⟨rv, hrv⟩ : ∃ d, decide (a.items = b.items) = d := ⟨_, rfl⟩
  have HRV := Lib.hid hrv
  clear hrv
  have Xa_0 := Lib.hid ((Bk.alloc w #[.slice a0_a a.items.length c0_a] 39).later (below_bk (w.alloc (.cells #[.slice a0_a a.items.length c0_a] 39)) (.cells #[.slice a0_b b.items.length c0_b] 39)))
  have Xb_0 : Hid (Bk ((w.alloc (.cells #[.slice a0_a a.items.length c0_a] 39)).alloc (.cells #[.slice a0_b b.items.length c0_b] 39)) (w.heap.size + 1) #[.slice a0_b b.items.length c0_b] 39) := Lib.hid (by have h := (Bk.alloc (w.alloc (.cells #[.slice a0_a a.items.length c0_a] 39)) #[.slice a0_b b.items.length c0_b] 39); simpa using h)
  have BW_0 := Lib.hid ((below_bk w (.cells #[.slice a0_a a.items.length c0_a] 39)).alloc (by simp) (.cells #[.slice a0_b b.items.length c0_b] 39))
  go_enter Try.func8, Try.ntmps8
  have da0 := Xa_0.out.cell (j := 0) rfl
  have db0 := Xb_0.out.cell (j := 0) rfl
  go_wp2_with fail
  obtain ⟨V0, hV⟩ : ∃ y, y = ((w.alloc (.cells #[.slice a0_a a.items.length c0_a] 39)).alloc (.cells #[.slice a0_b b.items.length c0_b] 39)) := ⟨_, rfl⟩
  clear da0 db0
  rw [← hV] at Xa_0 Xb_0 BW_0 ⊢
  have SZ_V0 : Hid (w.heap.size + 2 ≤ V0.heap.size) := Lib.hid (by rw [hV]; simp)
  clear hV
  refine (szView_st a a0_a c0_a 1048576 _ (by decide) (by decide) (Cel.Rd.later BW_0.out _ _ HS0_a.out) HT_a.out).mono ?_
  rintro e w1 ⟨l_a, rfl, hr, hb⟩
  have Xa_1 := Lib.hid (Xa_0.out.later hb)
  have Xb_1 := Lib.hid (Xb_0.out.later hb)
  have BW_1 : Hid (Below w.heap.size w w1) := Lib.hid (BW_0.out.trans (hb.mono BW_0.out.size))
  have SZ_w1 : Hid (V0.heap.size ≤ w1.heap.size) := Lib.hid hb.size
  clear hb Xa_0 Xb_0 BW_0
  rcases hr with hr | ⟨hl0, hl1⟩
  · go_wp2
    go_ret
    exact ⟨rfl, BW_1.out⟩
  have HZ_a : Hid (szL (cView.cels a) ≤ 1048576) := Lib.hid (by omega)
  have HZB_a : Hid (szL (cView.cels a) ≤ 100000000) := Lib.hid (by omega)
  have hq_a : ¬ (l_a < 0) := by omega
  have hp_a : l_a ≤ 1048576 := by omega
  clear hl1
  have da0 := Xa_1.out.cell (j := 0) rfl
  have db0 := Xb_1.out.cell (j := 0) rfl
  go_wp2_with fail
  clear da0 db0
  refine (szView_st b a0_b c0_b l_a _ (by omega) (by omega) (Cel.Rd.later BW_1.out _ _ HS0_b.out) HT_b.out).mono ?_
  rintro e w2 ⟨l_b, rfl, hr, hb⟩
  have Xa_2 := Lib.hid (Xa_1.out.later hb)
  have Xb_2 := Lib.hid (Xb_1.out.later hb)
  have BW_2 : Hid (Below w.heap.size w w2) := Lib.hid (BW_1.out.trans (hb.mono BW_1.out.size))
  have SZ_w2 : Hid (w1.heap.size ≤ w2.heap.size) := Lib.hid hb.size
  clear hb Xa_1 Xb_1 BW_1
  rcases hr with hr | ⟨hl0, hl1⟩
  · go_wp2
    go_ret
    exact ⟨rfl, BW_2.out⟩
  have HZ_b : Hid (szL (cView.cels b) ≤ 1048576) := Lib.hid (by omega)
  have HZB_b : Hid (szL (cView.cels b) ≤ 100000000) := Lib.hid (by omega)
  have hq_b : ¬ (l_b < 0) := by omega
  have hp_b : l_b ≤ 1048576 := by omega
  clear hl1
  have da0 := Xa_2.out.cell (j := 0) rfl
  have db0 := Xb_2.out.cell (j := 0) rfl
  go_upto_region 8 with fail
  clear da0 db0
  go_cut [6] (fun sv wx => sv = .bool rv ∧ Below w2.heap.size w2 wx)
  case first =>
    have Za := Lib.hid Xa_2.out.drew
    have Zb := Lib.hid Xb_2.out.drew
    have BD : Hid (Below w2.heap.size w2 w2.drew) := Lib.hid (Below.refl _ _).drew
    go_region_held3 (fun w' => w'.cell? ⟨w.heap.size, 0, none⟩ = some (.slice a0_a a.items.length c0_a) ∧ w'.cell? ⟨w.heap.size + 1, 0, none⟩ = some (.slice a0_b b.items.length c0_b))
      (first
        | exact ⟨Za.out.cell rfl, Zb.out.cell rfl⟩
        | exact ⟨(Za.out.later (D01_1.out)).cell rfl, (Zb.out.later (D01_1.out)).cell rfl⟩
        | exact ⟨(Za.out.later (D01_2.out)).cell rfl, (Zb.out.later (D01_2.out)).cell rfl⟩
        | exact ⟨(Za.out.later (D01_3.out)).cell rfl, (Zb.out.later (D01_3.out)).cell rfl⟩
        | exact ⟨(Za.out.later (D10_1.out)).cell rfl, (Zb.out.later (D10_1.out)).cell rfl⟩
        | exact ⟨(Za.out.later (D10_2.out)).cell rfl, (Zb.out.later (D10_2.out)).cell rfl⟩
        | exact ⟨(Za.out.later (D10_3.out)).cell rfl, (Zb.out.later (D10_3.out)).cell rfl⟩
        | go_keep)
      (first
        | (go_at_call 13; (with_reducible refine (specSame_any _ _ a.items _ _ b.items _ (cView_un (O01a_2.out.rd)) (cView_un (O01b_2.out.rd)) (view_len HZB_a.out) (view_len HZB_b.out)).mono ?_); rw [HRV.out]; rintro e wz01_3 ⟨rfl, hb⟩; have D01_3 : Hid (Below w2.drew.heap.size w2.drew wz01_3) := Lib.hid (D01_2.out.trans (hb.mono D01_2.out.size)); have B01_3 : Hid (Below w2.heap.size w2 wz01_3) := Lib.hid (BD.out.trans (D01_3.out.mono BD.out.size)); clear hb)
        | (go_at_call 13; (with_reducible refine (specSame_any _ _ a.items _ _ b.items _ (cView_un (O10a_2.out.rd)) (cView_un (O10b_2.out.rd)) (view_len HZB_a.out) (view_len HZB_b.out)).mono ?_); rw [HRV.out]; rintro e wz10_3 ⟨rfl, hb⟩; have D10_3 : Hid (Below w2.drew.heap.size w2.drew wz10_3) := Lib.hid (D10_2.out.trans (hb.mono D10_2.out.size)); have B10_3 : Hid (Below w2.heap.size w2 wz10_3) := Lib.hid (BD.out.trans (D10_3.out.mono BD.out.size)); clear hb)
        | (go_at_call 22; (with_reducible refine (toView_st b a0_b c0_b _ (Cel.Rd.later (BW_2.out.trans (B01_1.out.mono BW_2.out.size)) _ _ HS0_b.out) HZ_b.out).mono ?_); rintro e wz01_2 ⟨vs, rfl, ho, hb⟩; obtain ⟨a0_01b, c0_01b, rfl, _⟩ := cView_form ho.rd; have O01b_2 := Lib.hid ho; have D01_2 : Hid (Below w2.drew.heap.size w2.drew wz01_2) := Lib.hid (D01_1.out.trans (hb.mono D01_1.out.size)); have B01_2 : Hid (Below w2.heap.size w2 wz01_2) := Lib.hid (BD.out.trans (D01_2.out.mono BD.out.size)); have O01a_2 := Lib.hid (O01a_1.out.later hb); clear hb ho)
        | (go_at_call 22; (with_reducible refine (toView_st a a0_a c0_a _ (Cel.Rd.later (BW_2.out.trans (B10_1.out.mono BW_2.out.size)) _ _ HS0_a.out) HZ_a.out).mono ?_); rintro e wz10_2 ⟨vs, rfl, ho, hb⟩; obtain ⟨a0_10a, c0_10a, rfl, _⟩ := cView_form ho.rd; have O10a_2 := Lib.hid ho; have D10_2 : Hid (Below w2.drew.heap.size w2.drew wz10_2) := Lib.hid (D10_1.out.trans (hb.mono D10_1.out.size)); have B10_2 : Hid (Below w2.heap.size w2 wz10_2) := Lib.hid (BD.out.trans (D10_2.out.mono BD.out.size)); have O10b_2 := Lib.hid (O10b_1.out.later hb); clear hb ho)
        | (go_at_call 22; (with_reducible refine (toView_st a a0_a c0_a _ (Cel.Rd.later (BW_2.out.trans (BD.out.mono BW_2.out.size)) _ _ HS0_a.out) HZ_a.out).mono ?_); rintro e wz01_1 ⟨vs, rfl, ho, hb⟩; obtain ⟨a0_01a, c0_01a, rfl, _⟩ := cView_form ho.rd; have O01a_1 := Lib.hid ho; have D01_1 : Hid (Below w2.drew.heap.size w2.drew wz01_1) := Lib.hid (hb); have B01_1 : Hid (Below w2.heap.size w2 wz01_1) := Lib.hid (BD.out.trans (D01_1.out.mono BD.out.size)); clear hb ho)
        | (go_at_call 22; (with_reducible refine (toView_st b a0_b c0_b _ (Cel.Rd.later (BW_2.out.trans (BD.out.mono BW_2.out.size)) _ _ HS0_b.out) HZ_b.out).mono ?_); rintro e wz10_1 ⟨vs, rfl, ho, hb⟩; obtain ⟨a0_10b, c0_10b, rfl, _⟩ := cView_form ho.rd; have O10b_1 := Lib.hid ho; have D10_1 : Hid (Below w2.drew.heap.size w2.drew wz10_1) := Lib.hid (hb); have B10_1 : Hid (Below w2.heap.size w2 wz10_1) := Lib.hid (BD.out.trans (D10_1.out.mono BD.out.size)); clear hb ho))
    all_goals
      go_wp2
      go_meet
      first | exact ⟨rfl, B01_3.out⟩ | exact ⟨rfl, B10_3.out⟩
  case rest =>
  obtain ⟨rfl, hb⟩ := hcut
  obtain ⟨w3, hnew⟩ : ∃ y, y = wc := ⟨_, rfl⟩
  rw [← hnew] at hb ⊢
  clear hnew
  have Xa_3 := Lib.hid (Xa_2.out.later hb)
  have Xb_3 := Lib.hid (Xb_2.out.later hb)
  have BW_3 : Hid (Below w.heap.size w w3) := Lib.hid (BW_2.out.trans (hb.mono BW_2.out.size))
  have SZ_w3 : Hid (w2.heap.size ≤ w3.heap.size) := Lib.hid hb.size
  clear hb Xa_2 Xb_2 BW_2
  have da0 := Xa_3.out.cell (j := 0) rfl
  have db0 := Xb_3.out.cell (j := 0) rfl
  go_wp2_with fail
  clear da0 db0
  refine (toView_st a a0_a c0_a _ (Cel.Rd.later BW_3.out _ _ HS0_a.out) HZ_a.out).mono ?_
  rintro e w4 ⟨vs, rfl, ho, hb⟩
  have Xa_4 := Lib.hid (Xa_3.out.later hb)
  have Xb_4 := Lib.hid (Xb_3.out.later hb)
  have BW_4 : Hid (Below w.heap.size w w4) := Lib.hid (BW_3.out.trans (hb.mono BW_3.out.size))
  have SZ_w4 : Hid (w3.heap.size ≤ w4.heap.size) := Lib.hid hb.size
  clear hb Xa_3 Xb_3 BW_3
  obtain ⟨a0_x, c0_x, rfl, _⟩ := cView_form ho.rd
  have Ox_4x := Lib.hid ho
  clear ho
  have hba := below_bk w4 (.cells #[.slice a0_x a.items.length c0_x] 26)
  have Xa_5 := Lib.hid (Xa_4.out.later hba)
  have Xb_5 := Lib.hid (Xb_4.out.later hba)
  have Ox_5 := Lib.hid (Ox_4x.out.later hba)
  have BW_5 : Hid (Below w.heap.size w (w4.alloc (.cells #[.slice a0_x a.items.length c0_x] 26))) := Lib.hid (BW_4.out.trans (hba.mono BW_4.out.size))
  have Xx_5 := Lib.hid (Bk.alloc w4 #[.slice a0_x a.items.length c0_x] 26)
  clear hba Xa_4 Xb_4 Ox_4x BW_4
  have da0 := Xa_5.out.cell (j := 0) rfl
  have db0 := Xb_5.out.cell (j := 0) rfl
  have dx0 := Xx_5.out.cell (j := 0) rfl
  go_wp2_with fail
  obtain ⟨V4, hV⟩ : ∃ y, y = (w4.alloc (.cells #[.slice a0_x a.items.length c0_x] 26)) := ⟨_, rfl⟩
  clear da0 db0 dx0
  rw [← hV] at Xa_5 Xb_5 Xx_5 Ox_5 BW_5 ⊢
  have SZ_V4 : Hid (w4.heap.size + 1 ≤ V4.heap.size) := Lib.hid (by rw [hV]; simp)
  clear hV
  refine (toView_st b a0_b c0_b _ (Cel.Rd.later BW_5.out _ _ HS0_b.out) HZ_b.out).mono ?_
  rintro e w5 ⟨vs, rfl, ho, hb⟩
  have Xa_6 := Lib.hid (Xa_5.out.later hb)
  have Xb_6 := Lib.hid (Xb_5.out.later hb)
  have Xx_6 := Lib.hid (Xx_5.out.later hb)
  have Ox_6 := Lib.hid (Ox_5.out.later hb)
  have BW_6 : Hid (Below w.heap.size w w5) := Lib.hid (BW_5.out.trans (hb.mono BW_5.out.size))
  have SZ_w5 : Hid (V4.heap.size ≤ w5.heap.size) := Lib.hid hb.size
  clear hb Xa_5 Xb_5 Xx_5 Ox_5 BW_5
  obtain ⟨a0_y, c0_y, rfl, _⟩ := cView_form ho.rd
  have Oy_6x := Lib.hid ho
  clear ho
  have hba := below_bk w5 (.cells #[.slice a0_y b.items.length c0_y] 26)
  have Xa_7 := Lib.hid (Xa_6.out.later hba)
  have Xb_7 := Lib.hid (Xb_6.out.later hba)
  have Xx_7 := Lib.hid (Xx_6.out.later hba)
  have Ox_7 := Lib.hid (Ox_6.out.later hba)
  have Oy_7 := Lib.hid (Oy_6x.out.later hba)
  have BW_7 : Hid (Below w.heap.size w (w5.alloc (.cells #[.slice a0_y b.items.length c0_y] 26))) := Lib.hid (BW_6.out.trans (hba.mono BW_6.out.size))
  have Xy_7 := Lib.hid (Bk.alloc w5 #[.slice a0_y b.items.length c0_y] 26)
  clear hba Xa_6 Xb_6 Xx_6 Ox_6 Oy_6x BW_6
  have da0 := Xa_7.out.cell (j := 0) rfl
  have db0 := Xb_7.out.cell (j := 0) rfl
  have dx0 := Xx_7.out.cell (j := 0) rfl
  have dy0 := Xy_7.out.cell (j := 0) rfl
  go_wp2_with fail
  obtain ⟨V5, hV⟩ : ∃ y, y = (w5.alloc (.cells #[.slice a0_y b.items.length c0_y] 26)) := ⟨_, rfl⟩
  clear da0 db0 dx0 dy0
  rw [← hV] at Xa_7 Xb_7 Xx_7 Xy_7 Ox_7 Oy_7 BW_7 ⊢
  have SZ_V5 : Hid (w5.heap.size + 1 ≤ V5.heap.size) := Lib.hid (by rw [hV]; simp)
  clear hV
  refine (implSame_any _ _ a.items _ _ b.items _ (cView_un Ox_7.out.rd) (cView_un Oy_7.out.rd) (view_len HZB_a.out) (view_len HZB_b.out)).mono ?_
  rw [HRV.out]
  rintro e w6 ⟨rfl, hb⟩
  have Xa_8 := Lib.hid (Xa_7.out.later hb)
  have Xb_8 := Lib.hid (Xb_7.out.later hb)
  have Xx_8 := Lib.hid (Xx_7.out.later hb)
  have Xy_8 := Lib.hid (Xy_7.out.later hb)
  have Ox_8 := Lib.hid (Ox_7.out.later hb)
  have Oy_8 := Lib.hid (Oy_7.out.later hb)
  have BW_8 : Hid (Below w.heap.size w w6) := Lib.hid (BW_7.out.trans (hb.mono BW_7.out.size))
  have SZ_w6 : Hid (V5.heap.size ≤ w6.heap.size) := Lib.hid hb.size
  clear hb Xa_7 Xb_7 Xx_7 Xy_7 Ox_7 Oy_7 BW_7
  go_wp2
  have XD := Lib.hid Xx_8.out.drew
  have AD := Lib.hid Xa_8.out.drew
  have BD := Lib.hid BW_8.out.drew
  have OD : Hid (Objs w6.drew w3.heap.size w4.heap.size _ _) := Lib.hid (Ox_8.out.later (Below.refl _ _).drew)
  have YDb := Lib.hid Xb_8.out.drew
  have YDy := Lib.hid Xy_8.out.drew
  have PDy := Lib.hid (Oy_8.out.later (Below.refl _ _).drew)
  go_region_held3 (fun w' => w'.cell? ⟨w4.heap.size, 0, none⟩ = some (.slice a0_x a.items.length c0_x) ∧ w'.cell? ⟨w.heap.size, 0, none⟩ = some (.slice a0_a a.items.length c0_a))
    (first
      | exact ⟨XD.out.cell rfl, AD.out.cell rfl⟩
      | exact ⟨XE.out.cell rfl, AE.out.cell rfl⟩
      | exact ⟨XF.out.cell rfl, AF.out.cell rfl⟩
      | go_keep)
    (first
      | (go_at_call 22; (with_reducible refine (toView_st a a0_a c0_a _ (Cel.Rd.later BD.out _ _ HS0_a.out) HZ_a.out).mono ?_); rintro e wa9 ⟨vs, rfl, ho, hb⟩; obtain ⟨a0_z9, c0_z9, rfl, q0⟩ := cView_form ho.rd; have XE := Lib.hid (XD.out.later hb); have AE := Lib.hid (AD.out.later hb); have OE := Lib.hid (OD.out.later hb); have BE : Hid (Below w.heap.size w wa9) := Lib.hid (BD.out.trans (hb.mono BD.out.size)); have SZ_wa9 : Hid (w6.heap.size ≤ wa9.heap.size) := Lib.hid hb.size; have YEb := Lib.hid (YDb.out.later hb); have YEy := Lib.hid (YDy.out.later hb); have PEy := Lib.hid (PDy.out.later hb); clear hb ho)
      | (go_at_call 23; (with_reducible refine (eqView_st a a0_x c0_x a0_z9 c0_z9 _ (cView_un OE.out.rd) q0 (view_len HZB_a.out)).mono ?_); rintro e wb9 ⟨rfl, hb⟩; have XF := Lib.hid (XE.out.later hb); have AF := Lib.hid (AE.out.later hb); have OF := Lib.hid (OE.out.later hb); have BF : Hid (Below w.heap.size w wb9) := Lib.hid (BE.out.trans (hb.mono BE.out.size)); have SZ_wb9 : Hid (wa9.heap.size ≤ wb9.heap.size) := Lib.hid hb.size; have YFb := Lib.hid (YEb.out.later hb); have YFy := Lib.hid (YEy.out.later hb); have PFy := Lib.hid (PEy.out.later hb); clear hb))
  have Xx_9 := XF
  have Xa_9 := AF
  have BW_9 := BF
  have Ox_9 := OF
  have Xb_9 := YFb
  have Xy_9 := YFy
  have Oy_9 := PFy
  clear Xa_8 Xb_8 Xx_8 Xy_8 Ox_8 Oy_8 BW_8 XD XE XF AD AE AF BD BE BF OD OE OF YDb YEb YFb YDy YEy YFy PDy PEy PFy
  go_wp2
  have XD := Lib.hid Xy_9.out.drew
  have AD := Lib.hid Xb_9.out.drew
  have BD := Lib.hid BW_9.out.drew
  have OD : Hid (Objs wb9.drew V4.heap.size w5.heap.size _ _) := Lib.hid (Oy_9.out.later (Below.refl _ _).drew)
  have YDa := Lib.hid Xa_9.out.drew
  have YDx := Lib.hid Xx_9.out.drew
  have PDx := Lib.hid (Ox_9.out.later (Below.refl _ _).drew)
  go_region_held3 (fun w' => w'.cell? ⟨w5.heap.size, 0, none⟩ = some (.slice a0_y b.items.length c0_y) ∧ w'.cell? ⟨w.heap.size + 1, 0, none⟩ = some (.slice a0_b b.items.length c0_b))
    (first
      | exact ⟨XD.out.cell rfl, AD.out.cell rfl⟩
      | exact ⟨XE.out.cell rfl, AE.out.cell rfl⟩
      | exact ⟨XF.out.cell rfl, AF.out.cell rfl⟩
      | go_keep)
    (first
      | (go_at_call 22; (with_reducible refine (toView_st b a0_b c0_b _ (Cel.Rd.later BD.out _ _ HS0_b.out) HZ_b.out).mono ?_); rintro e wa10 ⟨vs, rfl, ho, hb⟩; obtain ⟨a0_z9, c0_z9, rfl, q0⟩ := cView_form ho.rd; have XE := Lib.hid (XD.out.later hb); have AE := Lib.hid (AD.out.later hb); have OE := Lib.hid (OD.out.later hb); have BE : Hid (Below w.heap.size w wa10) := Lib.hid (BD.out.trans (hb.mono BD.out.size)); have SZ_wa10 : Hid (wb9.heap.size ≤ wa10.heap.size) := Lib.hid hb.size; have YEa := Lib.hid (YDa.out.later hb); have YEx := Lib.hid (YDx.out.later hb); have PEx := Lib.hid (PDx.out.later hb); clear hb ho)
      | (go_at_call 23; (with_reducible refine (eqView_st b a0_y c0_y a0_z9 c0_z9 _ (cView_un OE.out.rd) q0 (view_len HZB_b.out)).mono ?_); rintro e wb10 ⟨rfl, hb⟩; have XF := Lib.hid (XE.out.later hb); have AF := Lib.hid (AE.out.later hb); have OF := Lib.hid (OE.out.later hb); have BF : Hid (Below w.heap.size w wb10) := Lib.hid (BE.out.trans (hb.mono BE.out.size)); have SZ_wb10 : Hid (wa10.heap.size ≤ wb10.heap.size) := Lib.hid hb.size; have YFa := Lib.hid (YEa.out.later hb); have YFx := Lib.hid (YEx.out.later hb); have PFx := Lib.hid (PEx.out.later hb); clear hb))
  have Xy_10 := XF
  have Xb_10 := AF
  have BW_10 := BF
  have Oy_10 := OF
  have Xa_10 := YFa
  have Xx_10 := YFx
  have Ox_10 := PFx
  clear Xa_9 Xb_9 Xx_9 Xy_9 Ox_9 Oy_9 BW_9 XD XE XF AD AE AF BD BE BF OD OE OF YDa YEa YFa YDx YEx YFx PDx PEx PFx
  go_wp2
  go_ret
  exact ⟨rfl, BW_10.out⟩
end Go.Proofs.Ytkfkjcadmdcbnaa
