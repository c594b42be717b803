/- FnExactStoreWord: the law's walk. -/
import Derived.Test.YtlemlgadjapamaaStoreW
import Derived.Test.YtlemlgadjapamaaCellE
import Derived.Deep.DeepCutAuto
namespace Go.Proofs.Ytlemlgadjapamaa
open Go.RowKit Go.Proofs.Ytlemlgadjapamaa.Parts Go.Proofs.Ytlemlgadjapamaa.Hexa

set_option maxRecDepth 100000 in
set_option maxHeartbeats 4000000 in
theorem store_law_core (K : ByteArray) (a : Option Addr) (n c : Nat) (L : List C3) (i : Int) (s : ByteArray) (w : World) (R : ByteArray) (P : List C3) (hR : K = R) (hP : storedL K L i s = P) (hPn : P.length ≤ L.length + 1) (hs : SrcC w a n L) (hm : FitC L n maxLen) (hn : n ≤ 9223372036854775807) (hK : K.size ≤ maxLen) (hz : s.size ≤ maxLen) :
    Calls Try.prog 8 #[.agg #[.string K, .slice a n c], .int .i64 i, .string s] w fun e w' => e = .returned (.bool true) ∧ Below w.heap.size w w' := by
  have HS := Lib.hid hs
  have HL := Lib.hid hs.len
  have HM := Lib.hid hm
  have HK := Lib.hid hK
  have HR := Lib.hid hR
  have HP := Lib.hid hP
  have HPN := Lib.hid hPn
  have HGIV : Hid (GivesM (K) (storedL K L i s) = GivesM R P) := Lib.hid (by rw [← hP, ← hR])
  have B0 := Lib.hid (below_alloc w (.cells #[.string K, .slice a n c] 46))
  have T0 := Lib.hid (Two.alloc w (.string K) (.slice a n c) 46)
  clear hs hm hK hR hP hPn
  by_cases hs1 : (1048576 : Int) < (s.size : Int)
  · unfold maxLen at hz
    go_enter Try.func8, Try.ntmps8
    go_wp2
    go_ret
    exact ⟨rfl, B0.out⟩
  go_enter Try.func8, Try.ntmps8
  go_wp2_with fail
  refine (szMemory_any K a n c L _ (HS.out.later B0.out) hn HK.out HM.out).mono ?_
  rintro e w1 ⟨r, rfl, hr | ⟨h0, hK2, hn2, hF2⟩, hb1⟩
  · go_wp2
    go_ret
    exact ⟨rfl, B0.out.trans (hb1.mono B0.out.size)⟩
  have T1 := Lib.hid (T0.out.later hb1)
  have B1 := Lib.hid (B0.out.trans (hb1.mono B0.out.size))
  have hr : ¬ (r < 0) := by omega
  have HF : Hid (FitT L 1048600) := Lib.hid (fun j hj => Nat.le_trans (hF2 j (by have := HL.out; omega)) (by decide))
  obtain ⟨p, hp⟩ : ∃ p, P.length = p := ⟨_, rfl⟩
  have hpn : p ≤ 1048577 := by have := HPN.out; have := HL.out; omega
  have HPL := Lib.hid hp
  have c0 := T1.out.c0
  have c1 := T1.out.c1
  clear hF2 hb1 h0 hp
  go_wp2_with fail
  clear c0 c1
  refine (toMemory_any K a n c L _ (HS.out.later B1.out) hn2).mono ?_
  rintro e w2 ⟨g2, rfl, hown2, hb2⟩
  have T2 := Lib.hid (T1.out.later hb2)
  have B2 : Hid (Below w.heap.size w w2) := Lib.hid (B1.out.trans (hb2.mono B1.out.size))
  have I2 := Lib.hid (srcC_of_own hown2)
  clear hown2 hb2
  go_wp2_with fail
  refine (specStore_any K _ n n L i s _ I2.out (by omega) (by omega) HF.out (by omega)).mono ?_
  rw [HGIV.out]
  unfold GivesM
  rw [HPL.out]
  rintro e w3 ⟨v3, rfl, hown3, hb3⟩
  obtain ⟨a3, c3, rfl, _, _, _⟩ := ownE_form hown3
  have T3 := Lib.hid ((T2.out.later hb3).later (below_alloc w3 (.cells #[.string R, .slice a3 p c3] 26)))
  have Z3 := Lib.hid (Two.alloc w3 (.string R) (.slice a3 p c3) 26)
  have O3 := Lib.hid (own_below hown3 (below_alloc w3 (.cells #[.string R, .slice a3 p c3] 26)))
  have B3 : Hid (Below w.heap.size w (w3.alloc (.cells #[.string R, .slice a3 p c3] 26))) := Lib.hid (B2.out.trans ((hb3.trans ((below_alloc w3 _).mono hb3.size)).mono B2.out.size))
  have HB23 := Lib.hid hb3.size
  have S3 : Hid (∀ g, (Value.slice a3 p c3).ownBlock = some g → g < w3.heap.size) := Lib.hid (fun g hg => (hown3.lt g hg).2)
  have c0 := T3.out.c0
  have c1 := T3.out.c1
  clear hb3 I2 hown3
  go_wp2_with fail
  clear c0 c1
  obtain ⟨q3, hq3⟩ : ∃ q, w3.heap.size = q := ⟨_, rfl⟩
  obtain ⟨W3, h3⟩ : ∃ x, x = w3.alloc (.cells #[.string R, .slice a3 p c3] 26) := ⟨_, rfl⟩
  have HTQ : Hid (w.heap.size < q3) := Lib.hid (by have := T2.out.lt; have := HB23.out; omega)
  have Q3 : Hid (W3.heap.size = q3 + 1) := Lib.hid (by rw [h3, ← hq3]; simp)
  rw [hq3] at Z3 S3 ⊢
  rw [← h3] at Z3 T3 B3 O3 ⊢
  clear h3 hq3
  refine (toMemory_any K a n c L _ (HS.out.later B3.out) hn2).mono ?_
  rintro e w4 ⟨g4, rfl, hown4, hb4⟩
  have hba := below_alloc w4 (.cells #[.string K, .slice (some ⟨g4, 0, none⟩) n n] 26)
  have T5 := Lib.hid ((T3.out.later hb4).later hba)
  have Z5 := Lib.hid ((Z3.out.later hb4).later hba)
  have X5 := Lib.hid (Two.alloc w4 (.string K) (.slice (some ⟨g4, 0, none⟩) n n) 26)
  have O5 := Lib.hid (own_below (own_below O3.out hb4) hba)
  have M5 := Lib.hid (own_below hown4 hba)
  have B5 : Hid (Below w.heap.size w (w4.alloc (.cells #[.string K, .slice (some ⟨g4, 0, none⟩) n n] 26))) := Lib.hid (B3.out.trans ((hb4.trans (hba.mono hb4.size)).mono B3.out.size))
  have G4 : Hid (q3 + 1 ≤ g4 ∧ g4 < w4.heap.size) := Lib.hid ⟨by have := (hown4.lt g4 rfl).1; have := Q3.out; omega, (hown4.lt g4 rfl).2⟩
  clear hown4 hb4 hba
  go_wp2_with fail
  obtain ⟨q4, hq4⟩ : ∃ q, w4.heap.size = q := ⟨_, rfl⟩
  obtain ⟨w5, h5⟩ : ∃ x, x = w4.alloc (.cells #[.string K, .slice (some ⟨g4, 0, none⟩) n n] 26) := ⟨_, rfl⟩
  have Q5 : Hid (w5.heap.size = q4 + 1) := Lib.hid (by rw [h5, ← hq4]; simp)
  rw [hq4] at X5 G4 ⊢
  rw [← h5] at X5 T5 Z5 B5 M5 O5 ⊢
  clear h5 hq4 O3 Z3 T3
  refine (implStore_any K _ n n L i s w5 (srcC_of_own M5.out) (by omega) (by omega) HF.out (by omega)).mono ?_
  rw [HGIV.out]
  unfold GivesM
  rw [HPL.out]
  rintro e w6 ⟨v6, rfl, hown6, hb6⟩
  obtain ⟨a6, c6, rfl, _, _, _⟩ := ownE_form hown6
  have hba := below_alloc w6 (.cells #[.string R, .slice a6 p c6] 26)
  have T7 := Lib.hid ((T5.out.later hb6).later hba)
  have Z7 := Lib.hid ((Z5.out.later hb6).later hba)
  have X7 := Lib.hid ((X5.out.later hb6).later hba)
  have G7 := Lib.hid (Two.alloc w6 (.string R) (.slice a6 p c6) 26)
  have O37 := Lib.hid (own_below (own_below O5.out hb6) hba)
  have M7 := Lib.hid (own_below (own_below M5.out hb6) hba)
  have O67 := Lib.hid (own_below hown6 hba)
  have B7 : Hid (Below w.heap.size w (w6.alloc (.cells #[.string R, .slice a6 p c6] 26))) := Lib.hid (B5.out.trans ((hb6.trans (hba.mono hb6.size)).mono B5.out.size))
  have S6 : Hid (∀ g, (Value.slice a6 p c6).ownBlock = some g → q4 + 1 ≤ g ∧ g < w6.heap.size) := Lib.hid (fun g hg => ⟨by have := (hown6.lt g hg).1; have := Q5.out; omega, (hown6.lt g hg).2⟩)
  have S56 : Hid (q4 + 1 ≤ w6.heap.size) := Lib.hid (by have := hb6.size; have := Q5.out; omega)
  have z0 := Z7.out.c0
  have z1 := Z7.out.c1
  clear hown6 hb6 hba T5 Z5 X5 O5 M5
  go_wp2_with fail
  clear z0 z1
  obtain ⟨q6, hq6⟩ : ∃ q, w6.heap.size = q := ⟨_, rfl⟩
  obtain ⟨w7, h7⟩ : ∃ x, x = w6.alloc (.cells #[.string R, .slice a6 p c6] 26) := ⟨_, rfl⟩
  have Q7 : Hid (w7.heap.size = q6 + 1) := Lib.hid (by rw [h7, ← hq6]; simp)
  rw [hq6] at G7 S6 S56 ⊢
  rw [← h7] at T7 Z7 X7 G7 O37 M7 O67 B7 ⊢
  clear h7 hq6
  refine (eqMemory_any R a6 a3 p c6 c3 P w7 (by omega) (srcC_of_own O67.out) (srcC_of_own O37.out)).mono ?_
  rintro e w8 ⟨rfl, hb8⟩
  have T8 := Lib.hid (T7.out.later hb8)
  have Z8 := Lib.hid (Z7.out.later hb8)
  have X8 := Lib.hid (X7.out.later hb8)
  have G8 := Lib.hid (G7.out.later hb8)
  have O38 := Lib.hid (own_below O37.out hb8)
  have M8 := Lib.hid (own_below M7.out hb8)
  have O68 := Lib.hid (own_below O67.out hb8)
  have B8 : Hid (Below w.heap.size w w8) := Lib.hid (B7.out.trans (hb8.mono B7.out.size))
  have Q8 : Hid (q6 + 1 ≤ w8.heap.size) := Lib.hid (by have := hb8.size; have := Q7.out; omega)
  have c0 := T8.out.c0
  have c1 := T8.out.c1
  have x0 := X8.out.c0
  have x1 := X8.out.c1
  clear hb8 T7 Z7 X7 G7 O37 M7 O67
  go_upto_region 12 with fail
  go_cut [42] (fun sx wx => sx = .bool false ∧ Below w8.heap.size w8 wx)
  case first =>
    go_region_with (first
      | (go_at_call 37; refine (toMemory_any K a n c L _ (HS.out.later (B8.out.drew)) hn2).mono ?_; rintro e w9 ⟨g9, rfl, hown9, hb9⟩
         have I9 := Lib.hid (srcC_of_own hown9)
         have I89 := Lib.hid (srcC_of_own (own_below M8.out.drew hb9))
         have B9 : Hid (Below w8.heap.size w8 w9) := Lib.hid ((Below.refl w8.heap.size w8).drew.trans hb9)
         have y0 := (X8.out.drew.later hb9).c0
         have y1 := (X8.out.drew.later hb9).c1
         clear hown9 hb9)
      | (go_at_call 33; refine (eqMemory_any K _ _ n n n L _ (by omega) I89.out I9.out).mono ?_; rintro e w10 ⟨rfl, hb10⟩))
    all_goals
      go_wp2_with fail
      go_meet
      exact ⟨rfl, B9.out.trans (hb10.mono B9.out.size)⟩
  case rest =>
    obtain ⟨rfl, hbc⟩ := hcut
    have Tc := Lib.hid (T8.out.later hbc)
    have Zc := Lib.hid (Z8.out.later hbc)
    have Xc := Lib.hid (X8.out.later hbc)
    have Gc := Lib.hid (G8.out.later hbc)
    have O3c := Lib.hid (own_below O38.out hbc)
    have Mc := Lib.hid (own_below M8.out hbc)
    have O6c := Lib.hid (own_below O68.out hbc)
    have Bc : Hid (Below w.heap.size w wc) := Lib.hid (B8.out.trans (hbc.mono B8.out.size))
    have Qc : Hid (q6 + 1 ≤ wc.heap.size) := Lib.hid (by have := hbc.size; have := Q8.out; omega)
    have TL : Hid (w.heap.size < q3) := Lib.hid HTQ.out
    have x0 := Xc.out.c0
    have x1 := Xc.out.c1
    clear c0 c1 hbc T8 Z8 X8 G8 O38 M8 O68
    go_wp2_with fail
    clear x0 x1
    have hp0 : ¬ (((1 : Nat) : Int) + 3 * (n : Int) < 0) := by omega
    refine (markMemory_blk K W3.heap.size _ n 1 _ wc (by have := Qc.out; have := Q3.out; have := S56.out; have := G4.out; omega) (by omega) (by omega) Mc.out).mono ?_
    rintro e w9 ⟨rfl, hb9, he9, _⟩
    have hx : ∀ g, g ≠ g4 → (Value.slice (some (⟨g4, 0, none⟩ : Addr)) n n).ownBlock ≠ some g := fun g hg h => hg (by cases h; rfl)
    have T9 := Lib.hid (he9.two Tc.out (hx _ (by have := G4.out; have := TL.out; omega)))
    have Z9 := Lib.hid (he9.two Zc.out (hx _ (by have := G4.out; omega)))
    have G9 := Lib.hid (he9.two Gc.out (hx _ (by have := G4.out; have := S56.out; omega)))
    have O39 := Lib.hid (he9.own O3c.out (fun g hg => hx _ (by have := S3.out g hg; have := G4.out; omega)))
    have O69 := Lib.hid (he9.own O6c.out (fun g hg => hx _ (by have := S6.out g hg; have := G4.out; omega)))
    have B9 : Hid (Below w.heap.size w w9) := Lib.hid (Bc.out.trans (hb9.mono B3.out.size))
    have g0 := G9.out.c0
    have g1 := G9.out.c1
    have z0 := Z9.out.c0
    have z1 := Z9.out.c1
    clear hb9 he9 hx Tc Zc Xc Gc O3c Mc O6c
    go_wp2_with fail
    clear g0 g1 z0 z1
    refine (eqMemory_any R a6 a3 p c6 c3 P w9 (by omega) (srcC_of_own O69.out) (srcC_of_own O39.out)).mono ?_
    rintro e w10 ⟨rfl, hb10⟩
    have T10 := Lib.hid (T9.out.later hb10)
    have Z10 := Lib.hid (Z9.out.later hb10)
    have G10 := Lib.hid (G9.out.later hb10)
    have O310 := Lib.hid (own_below O39.out hb10)
    have O610 := Lib.hid (own_below O69.out hb10)
    have B10 : Hid (Below w.heap.size w w10) := Lib.hid (B9.out.trans (hb10.mono B9.out.size))
    have g0 := G10.out.c0
    have g1 := G10.out.c1
    clear hb10 T9 Z9 G9 O39 O69
    go_wp2_with fail
    clear g0 g1
    refine (markMemory_blk R w5.heap.size _ p 1 _ w10 (by have := G10.out.lt; have := Q5.out; have := S56.out; omega) (by omega) (by omega) O610.out).mono ?_
    rintro e w11 ⟨rfl, hb11, he11, hown11⟩
    have O11 := Lib.hid hown11
    have T11 := Lib.hid (he11.two T10.out (fun h => by have := S6.out _ h; have := TL.out; have := G4.out; omega))
    have Z11 := Lib.hid (he11.two Z10.out (fun h => by have := S6.out _ h; have := G4.out; omega))
    have G11 := Lib.hid (he11.two G10.out (fun h => by have := S6.out _ h; omega))
    have O311 := Lib.hid (he11.own O310.out (fun g hg h => by have := S6.out _ h; have := S3.out g hg; have := G4.out; omega))
    have B11 : Hid (Below w.heap.size w w11) := Lib.hid (B10.out.trans (hb11.mono B5.out.size))
    have hp1 : ¬ (((1 : Nat) : Int) + 3 * (p : Int) < 0) := by omega
    have g0 := G11.out.c0
    have g1 := G11.out.c1
    clear hb11 he11 hown11 T10 Z10 G10 O310 O610
    go_wp2_with fail
    clear g0 g1
    refine (heldMemory_any R a6 p c6 1 w11 (by omega) (by omega) (srcC_of_own O11.out)).mono ?_
    rintro e w12 ⟨rfl, hb12⟩
    have T12 := Lib.hid (T11.out.later hb12)
    have Z12 := Lib.hid (Z11.out.later hb12)
    have G12 := Lib.hid (G11.out.later hb12)
    have O312 := Lib.hid (own_below O311.out hb12)
    have O12 := Lib.hid (own_below O11.out hb12)
    have B12 : Hid (Below w.heap.size w w12) := Lib.hid (B11.out.trans (hb12.mono B11.out.size))
    have c0 := T12.out.c0
    have c1 := T12.out.c1
    clear hb12 T11 Z11 G11 O311 O11
    go_wp2_with fail
    clear c0 c1
    refine (toMemory_any K a n c L _ (HS.out.later B12.out) hn2).mono ?_
    rintro e w13 ⟨g13, rfl, hown13, hb13⟩
    have I13 := Lib.hid (srcC_of_own hown13)
    have Z13 := Lib.hid (Z12.out.later hb13)
    have G13 := Lib.hid (G12.out.later hb13)
    have O313 := Lib.hid (own_below O312.out hb13)
    have O13 := Lib.hid (own_below O12.out hb13)
    have B13 : Hid (Below w.heap.size w w13) := Lib.hid (B12.out.trans (hb13.mono B12.out.size))
    clear hb13 hown13 Z12 G12 O312 O12
    go_wp2_with fail
    refine (implStore_any K _ n n L i s w13 I13.out (by omega) (by omega) HF.out (by omega)).mono ?_
    rw [HGIV.out]
    unfold GivesM
    rw [HPL.out]
    rintro e w14 ⟨v14, rfl, hown14, hb14⟩
    obtain ⟨a14, c14, rfl, _, _, _⟩ := ownE_form hown14
    have hba := below_alloc w14 (.cells #[.string R, .slice a14 p c14] 26)
    have Z15 := Lib.hid ((Z13.out.later hb14).later hba)
    have G15 := Lib.hid ((G13.out.later hb14).later hba)
    have O315 := Lib.hid (own_below (own_below O313.out hb14) hba)
    have O15 := Lib.hid (own_below (own_below O13.out hb14) hba)
    have O1415 := Lib.hid (own_below hown14 hba)
    have B15 : Hid (Below w.heap.size w (w14.alloc (.cells #[.string R, .slice a14 p c14] 26))) := Lib.hid (B13.out.trans ((hb14.trans (hba.mono hb14.size)).mono B13.out.size))
    have z0 := Z15.out.c0
    have z1 := Z15.out.c1
    clear hown14 hb14 hba Z13 G13 O313 O13
    go_wp2_with fail
    clear z0 z1
    obtain ⟨w15, h15⟩ : ∃ x, x = w14.alloc (.cells #[.string R, .slice a14 p c14] 26) := ⟨_, rfl⟩
    rw [← h15] at Z15 G15 O315 O15 O1415 B15 ⊢
    clear h15
    refine (eqMemory_any R a14 a3 p c14 c3 P w15 (by omega) (srcC_of_own O1415.out) (srcC_of_own O315.out)).mono ?_
    rintro e w16 ⟨rfl, hb16⟩
    have G16 := Lib.hid (G15.out.later hb16)
    have O16 := Lib.hid (own_below O15.out hb16)
    have B16 : Hid (Below w.heap.size w w16) := Lib.hid (B15.out.trans (hb16.mono B15.out.size))
    have g0 := G16.out.c0
    have g1 := G16.out.c1
    clear hb16 Z15 G15 O315 O15 O1415
    go_wp2_with fail
    clear g0 g1
    refine (heldMemory_any R a6 p c6 1 w16 (by omega) (by omega) (srcC_of_own O16.out)).mono ?_
    rintro e w17 ⟨rfl, hb17⟩
    have B17 : Hid (Below w.heap.size w w17) := Lib.hid (B16.out.trans (hb17.mono B16.out.size))
    clear hb17
    go_wp2
    go_ret
    exact ⟨rfl, B17.out⟩

theorem store_law (K : ByteArray) (a : Option Addr) (n c : Nat) (L : List C3) (i : Int) (s : ByteArray) (w : World) (hs : SrcC w a n L) (hm : FitC L n maxLen) (hn : n ≤ 9223372036854775807) (hK : K.size ≤ maxLen) (hz : s.size ≤ maxLen) :
    Calls Try.prog 8 #[.agg #[.string K, .slice a n c], .int .i64 i, .string s] w fun e w' => e = .returned (.bool true) ∧ Below w.heap.size w w' :=
  store_law_core K a n c L i s w _ _ rfl rfl (storedL_len K L i s) hs hm hn hK hz
end Go.Proofs.Ytlemlgadjapamaa
