/- FnExactPagesIn: the law's walk. -/
import Derived.Test.YtkfkjcadmdcbnaaVwPgs
import Derived.Test.YtkfkjcadmdcbnaaTViewZ
import Derived.Test.YtkfkjcadmdcbnaaTViewC
import Derived.Test.YtkfkjcadmdcbnaaTViewQ
import Derived.Test.YtkfkjcadmdcbnaaMarkAt
namespace Go.Proofs.Ytkfkjcadmdcbnaa
open Go.RowKit Go.Proofs.Ytkfkjcadmdcbnaa.Parts Go.Proofs.Ytkfkjcadmdcbnaa.Hexa

set_option maxRecDepth 100000 in
set_option maxHeartbeats 4000000 in
theorem pagesIn_law (v : ViewR) (a0_v : Option Addr) (c0_v : Nat) (w : World) (ht_v : TyL (cView.cels v)) (h0_v : (celRow cItem v.items).Rd w (.slice a0_v v.items.length c0_v)) :
    Calls Try.prog 5 #[.agg #[.slice a0_v v.items.length c0_v]] w fun e w' => e = .returned (.bool true) ∧ Below w.heap.size w w' := by
  have HT_v := Lib.hid ht_v
  clear ht_v
  have HS0_v := Lib.hid h0_v
  clear h0_v
  obtain ⟨rv, hrv⟩ : ∃ d, pagesR v.items = d := ⟨_, rfl⟩
  have HRV := Lib.hid hrv
  clear hrv
  have Xv_0 := Lib.hid (Bk.alloc w #[.slice a0_v v.items.length c0_v] 39)
  have BW_0 := Lib.hid (below_bk w (.cells #[.slice a0_v v.items.length c0_v] 39))
  go_enter Try.func5, Try.ntmps5
  have dv0 := Xv_0.out.cell (j := 0) rfl
  go_wp2_with fail
  obtain ⟨V0, hV⟩ : ∃ y, y = (w.alloc (.cells #[.slice a0_v v.items.length c0_v] 39)) := ⟨_, rfl⟩
  clear dv0
  rw [← hV] at Xv_0 BW_0 ⊢
  have SZ_V0 : Hid (w.heap.size + 1 ≤ V0.heap.size) := Lib.hid (by rw [hV]; simp)
  clear hV
  refine (szView_st v a0_v c0_v 1048576 _ (by decide) (by decide) (Cel.Rd.later BW_0.out _ _ HS0_v.out) HT_v.out).mono ?_
  rintro e w1 ⟨l_v, rfl, hr, hb⟩
  have Xv_1 := Lib.hid (Xv_0.out.later hb)
  have BW_1 : Hid (Below w.heap.size w w1) := Lib.hid (BW_0.out.trans (hb.mono BW_0.out.size))
  have SZ_w1 : Hid (V0.heap.size ≤ w1.heap.size) := Lib.hid hb.size
  clear hb Xv_0 BW_0
  rcases hr with hr | ⟨hl0, hl1⟩
  · go_wp2
    go_ret
    exact ⟨rfl, BW_1.out⟩
  have HZ_v : Hid (szL (cView.cels v) ≤ 1048576) := Lib.hid (by omega)
  have HZB_v : Hid (szL (cView.cels v) ≤ 100000000) := Lib.hid (by omega)
  have hq_v : ¬ (l_v < 0) := by omega
  have hp_v : l_v ≤ 1048576 := by omega
  clear hl1
  have HSV : Hid ((celRow cItem v.items).sz ≤ 100000000) := Lib.hid (by have := HZB_v.out; rw [cView_sz] at this; omega)
  have dv0 := Xv_1.out.cell (j := 0) rfl
  go_wp2_with fail
  clear dv0
  refine (toView_st v a0_v c0_v _ (Cel.Rd.later BW_1.out _ _ HS0_v.out) HZ_v.out).mono ?_
  rintro e w2 ⟨vs, rfl, ho, hb⟩
  have Xv_2 := Lib.hid (Xv_1.out.later hb)
  have BW_2 : Hid (Below w.heap.size w w2) := Lib.hid (BW_1.out.trans (hb.mono BW_1.out.size))
  have SZ_w2 : Hid (w1.heap.size ≤ w2.heap.size) := Lib.hid hb.size
  clear hb Xv_1 BW_1
  obtain ⟨a0_y, c0_y, rfl, _⟩ := cView_form ho.rd
  have Oy_2x := Lib.hid ho
  clear ho
  have dv0 := Xv_2.out.cell (j := 0) rfl
  go_wp2_with fail
  clear dv0
  refine (specPgs_any _ _ v.items _ (cView_un Oy_2x.out.rd) HSV.out).mono ?_
  rw [HRV.out]
  rintro e w3 ⟨rfl, hb⟩
  have Xv_3 := Lib.hid (Xv_2.out.later hb)
  have Oy_3 := Lib.hid (Oy_2x.out.later hb)
  have BW_3 : Hid (Below w.heap.size w w3) := Lib.hid (BW_2.out.trans (hb.mono BW_2.out.size))
  have SZ_w3 : Hid (w2.heap.size ≤ w3.heap.size) := Lib.hid hb.size
  clear hb Xv_2 Oy_2x BW_2
  clear Oy_3
  have dv0 := Xv_3.out.cell (j := 0) rfl
  go_wp2_with fail
  clear dv0
  refine (toView_st v a0_v c0_v _ (Cel.Rd.later BW_3.out _ _ HS0_v.out) HZ_v.out).mono ?_
  rintro e w4 ⟨vs, rfl, ho, hb⟩
  have Xv_4 := Lib.hid (Xv_3.out.later hb)
  have BW_4 : Hid (Below w.heap.size w w4) := Lib.hid (BW_3.out.trans (hb.mono BW_3.out.size))
  have SZ_w4 : Hid (w3.heap.size ≤ w4.heap.size) := Lib.hid hb.size
  clear hb Xv_3 BW_3
  obtain ⟨a0_x, c0_x, rfl, _⟩ := cView_form ho.rd
  have Ox_4x := Lib.hid ho
  clear ho
  have hba := below_bk w4 (.cells #[.slice a0_x v.items.length c0_x] 26)
  have Xv_5 := Lib.hid (Xv_4.out.later hba)
  have Ox_5 := Lib.hid (Ox_4x.out.later hba)
  have BW_5 : Hid (Below w.heap.size w (w4.alloc (.cells #[.slice a0_x v.items.length c0_x] 26))) := Lib.hid (BW_4.out.trans (hba.mono BW_4.out.size))
  have Xx_5 := Lib.hid (Bk.alloc w4 #[.slice a0_x v.items.length c0_x] 26)
  clear hba Xv_4 Ox_4x BW_4
  have dv0 := Xv_5.out.cell (j := 0) rfl
  have dx0 := Xx_5.out.cell (j := 0) rfl
  go_wp2_with fail
  obtain ⟨V4, hV⟩ : ∃ y, y = (w4.alloc (.cells #[.slice a0_x v.items.length c0_x] 26)) := ⟨_, rfl⟩
  clear dv0 dx0
  rw [← hV] at Xv_5 Xx_5 Ox_5 BW_5 ⊢
  have SZ_V4 : Hid (w4.heap.size + 1 ≤ V4.heap.size) := Lib.hid (by rw [hV]; simp)
  clear hV
  refine (implPgs_any _ _ v.items _ (cView_un Ox_5.out.rd) HSV.out).mono ?_
  rw [HRV.out]
  rintro e w5 ⟨rfl, hb⟩
  have Xv_6 := Lib.hid (Xv_5.out.later hb)
  have Xx_6 := Lib.hid (Xx_5.out.later hb)
  have Ox_6 := Lib.hid (Ox_5.out.later hb)
  have BW_6 : Hid (Below w.heap.size w w5) := Lib.hid (BW_5.out.trans (hb.mono BW_5.out.size))
  have SZ_w5 : Hid (V4.heap.size ≤ w5.heap.size) := Lib.hid hb.size
  clear hb Xv_5 Xx_5 Ox_5 BW_5
  go_wp2
  have XD := Lib.hid Xx_6.out.drew
  have AD := Lib.hid Xv_6.out.drew
  have BD := Lib.hid BW_6.out.drew
  have OD : Hid (Objs w5.drew w3.heap.size w4.heap.size _ _) := Lib.hid (Ox_6.out.later (Below.refl _ _).drew)
  go_region_held3 (fun w' => w'.cell? ⟨w4.heap.size, 0, none⟩ = some (.slice a0_x v.items.length c0_x) ∧ w'.cell? ⟨w.heap.size, 0, none⟩ = some (.slice a0_v v.items.length c0_v))
    (first
      | exact ⟨XD.out.cell rfl, AD.out.cell rfl⟩
      | exact ⟨XE.out.cell rfl, AE.out.cell rfl⟩
      | exact ⟨XF.out.cell rfl, AF.out.cell rfl⟩
      | go_keep)
    (first
      | (go_at_call 22; (with_reducible refine (toView_st v a0_v c0_v _ (Cel.Rd.later BD.out _ _ HS0_v.out) HZ_v.out).mono ?_); rintro e wa7 ⟨vs, rfl, ho, hb⟩; obtain ⟨a0_z9, c0_z9, rfl, q0⟩ := cView_form ho.rd; have XE := Lib.hid (XD.out.later hb); have AE := Lib.hid (AD.out.later hb); have OE := Lib.hid (OD.out.later hb); have BE : Hid (Below w.heap.size w wa7) := Lib.hid (BD.out.trans (hb.mono BD.out.size)); have SZ_wa7 : Hid (w5.heap.size ≤ wa7.heap.size) := Lib.hid hb.size; clear hb ho)
      | (go_at_call 23; (with_reducible refine (eqView_st v a0_x c0_x a0_z9 c0_z9 _ (cView_un OE.out.rd) q0 (view_len HZB_v.out)).mono ?_); rintro e wb7 ⟨rfl, hb⟩; have XF := Lib.hid (XE.out.later hb); have AF := Lib.hid (AE.out.later hb); have OF := Lib.hid (OE.out.later hb); have BF : Hid (Below w.heap.size w wb7) := Lib.hid (BE.out.trans (hb.mono BE.out.size)); have SZ_wb7 : Hid (wa7.heap.size ≤ wb7.heap.size) := Lib.hid hb.size; clear hb))
  have Xx_7 := XF
  have Xv_7 := AF
  have BW_7 := BF
  have Ox_7 := OF
  clear Xv_6 Xx_6 Ox_6 BW_6 XD XE XF AD AE AF BD BE BF OD OE OF
  go_wp2
  go_ret
  exact ⟨rfl, BW_7.out⟩
end Go.Proofs.Ytkfkjcadmdcbnaa
