/- FnExactUnsure: the law's walk. -/
import Derived.Test.YtlemlgadjapamaaUnsure
import Derived.Test.YtlemlgadjapamaaInts
import Derived.Deep.DeepCutAuto
namespace Go.Proofs.Ytlemlgadjapamaa
open Go.RowKit Go.Proofs.Ytlemlgadjapamaa.Parts Go.Proofs.Ytlemlgadjapamaa.Hexa

theorem eqInts_own (v1 v2 : Value) (B1 B2 n : Nat) (P : List Int) (w : World) (hP : P.length = n) (hn : n ≤ 100000000) (h1 : w.ownsRow B1 3 1 v1 n (icells P)) (h2 : w.ownsRow B2 3 1 v2 n (icells P)) :
    Calls Try.prog 40 #[v1, v2] w fun e w' => e = .returned (.bool true) ∧ Below w.heap.size w w' := by
  obtain ⟨a1, c1, rfl, _, _, r1⟩ := own_form h1
  obtain ⟨a2, c2, rfl, _, _, r2⟩ := own_form h2
  exact (eqInts_any a1 a2 n c1 c2 P w hP hn r1 r2).mono fun e w' ⟨he, m, hw⟩ => ⟨he, by rw [hw]; exact below_drewsN (Below.refl _ _) m⟩

set_option maxRecDepth 100000 in
set_option maxHeartbeats 2000000 in
theorem unsure_law (K : ByteArray) (a : Option Addr) (n c : Nat) (L : List C3) (w : World) (hs : SrcC w a n L) (hm : FitC L n maxLen) (hn : n ≤ 9223372036854775807) (hK : K.size ≤ maxLen) :
    Calls Try.prog 12 #[.agg #[.string K, .slice a n c]] w fun e w' => e = .returned (.bool true) ∧ Below w.heap.size w w' := by
  have HS := Lib.hid hs
  have HL := Lib.hid hs.len
  have HM := Lib.hid hm
  have HK := Lib.hid hK
  have B0 := Lib.hid (below_alloc w (.cells #[.string K, .slice a n c] 46))
  have T0 := Lib.hid (Two.alloc w (.string K) (.slice a n c) 46)
  obtain ⟨P, hP⟩ : ∃ P, linesL L = P := ⟨_, rfl⟩
  have hPn : Hid (P.length = n) := Lib.hid (by rw [← hP]; simp [linesL, hs.len])
  have HP := Lib.hid hP
  clear hs hm hK hP
  go_enter Try.func12, Try.ntmps12
  go_wp2_with fail
  refine (szMemory_any K a n c L _ (HS.out.later B0.out) hn HK.out HM.out).mono ?_
  rintro e w1 ⟨r, rfl, hr | ⟨h0, hK2, hn2, hF2⟩, hb1⟩
  · go_wp2
    go_ret
    exact ⟨rfl, B0.out.trans (hb1.mono B0.out.size)⟩
  have T1 := Lib.hid (T0.out.later hb1)
  have B1 := Lib.hid (B0.out.trans (hb1.mono B0.out.size))
  have hr : ¬ (r < 0) := by omega
  have c0 := T1.out.c0
  have c1 := T1.out.c1
  clear hF2 hb1 h0
  go_wp2_with fail
  clear c0 c1
  refine (toMemory_any K a n c L _ (HS.out.later B1.out) hn2).mono ?_
  rintro e w2 ⟨g2, rfl, hown2, hb2⟩
  have T2 := Lib.hid (T1.out.later hb2)
  have B2 : Hid (Below w.heap.size w w2) := Lib.hid (B1.out.trans (hb2.mono B1.out.size))
  have I2 := Lib.hid (srcC_of_own hown2)
  clear hown2 hb2
  go_wp2_with fail
  refine (specUnsure_any K _ n n L _ I2.out (by omega)).mono ?_
  rw [HP.out]
  rintro e w3 ⟨v3, rfl, hown3, hb3⟩
  have O3 := Lib.hid hown3
  have T3 := Lib.hid (T2.out.later hb3)
  have B3 : Hid (Below w.heap.size w w3) := Lib.hid (B2.out.trans (hb3.mono B2.out.size))
  have c0 := T3.out.c0
  have c1 := T3.out.c1
  clear hb3 I2 hown3
  go_wp2_with fail
  clear c0 c1
  refine (toMemory_any K a n c L _ (HS.out.later B3.out) hn2).mono ?_
  rintro e w4 ⟨g4, rfl, hown4, hb4⟩
  have X5 := Lib.hid (Two.alloc w4 (.string K) (.slice (some ⟨g4, 0, none⟩) n n) 26)
  have T5 := Lib.hid ((T3.out.later hb4).later (below_alloc w4 (.cells #[.string K, .slice (some ⟨g4, 0, none⟩) n n] 26)))
  have B4 : Hid (Below w.heap.size w w4) := Lib.hid (B3.out.trans (hb4.mono B3.out.size))
  have B5 : Hid (Below w.heap.size w (w4.alloc (.cells #[.string K, .slice (some ⟨g4, 0, none⟩) n n] 26))) := Lib.hid (B4.out.trans ((below_alloc w4 _).mono B4.out.size))
  have O5 := Lib.hid (own_below (own_below O3.out hb4) (below_alloc w4 (.cells #[.string K, .slice (some ⟨g4, 0, none⟩) n n] 26)))
  have X4 := Lib.hid (own_below hown4 (below_alloc w4 (.cells #[.string K, .slice (some ⟨g4, 0, none⟩) n n] 26)))
  have S3 : Hid (∀ g, v3.ownBlock = some g → g < w3.heap.size) := Lib.hid (fun g hg => (O3.out.lt g hg).2)
  have S34 := Lib.hid hb4.size
  have G4 : Hid (g4 < w4.heap.size) := Lib.hid (ownE_lt hown4)
  clear hown4 hb4 B4 O3
  go_wp2_with fail
  obtain ⟨q, hq⟩ : ∃ q, w4.heap.size = q := ⟨_, rfl⟩
  obtain ⟨w5, h5⟩ : ∃ x, x = w4.alloc (.cells #[.string K, .slice (some ⟨g4, 0, none⟩) n n] 26) := ⟨_, rfl⟩
  rw [hq] at X5 ⊢
  rw [← h5] at X5 T5 B5 X4 O5 ⊢
  have Q45 : Hid (w4.heap.size < w5.heap.size) := Lib.hid (by rw [h5]; simp)
  clear h5 hq
  refine (implUnsure_any K _ n n L _ (srcC_of_own X4.out) (by omega)).mono ?_
  rw [HP.out]
  rintro e w6 ⟨v6, rfl, hown6, hb6⟩
  have X6 := Lib.hid (X5.out.later hb6)
  have T6 := Lib.hid (T5.out.later hb6)
  have B6 : Hid (Below w.heap.size w w6) := Lib.hid (B5.out.trans (hb6.mono B5.out.size))
  have M6 := Lib.hid (own_below X4.out hb6)
  have O6 := Lib.hid hown6
  have O36 := Lib.hid (own_below O5.out hb6)
  have HQ56 := Lib.hid hb6.size
  clear hb6 X5 T5 hown6 O5
  go_wp2_with fail
  refine (eqInts_own _ _ _ _ P.length P w6 rfl (by have := hPn.out; omega) O6.out O36.out).mono ?_
  rintro e w7 ⟨rfl, hb7⟩
  have X7 := Lib.hid (X6.out.later hb7)
  have T7 := Lib.hid (T6.out.later hb7)
  have B7 : Hid (Below w.heap.size w w7) := Lib.hid (B6.out.trans (hb7.mono B6.out.size))
  have M7 := Lib.hid (own_below M6.out hb7)
  have O67 := Lib.hid (own_below O6.out hb7)
  have O37 := Lib.hid (own_below O36.out hb7)
  have HQ67 := Lib.hid hb7.size
  have c0 := T7.out.c0
  have c1 := T7.out.c1
  have x0 := X7.out.c0
  have x1 := X7.out.c1
  clear hb7 X6 T6 M6
  go_upto_region 10 with fail
  go_cut [31] (fun s31 wx => s31 = .bool false ∧ Below w7.heap.size w7 wx)
  case first =>
    go_region_with (first
      | (go_at_call 37; refine (toMemory_any K a n c L _ (HS.out.later (B7.out.drew)) hn2).mono ?_; rintro e w8 ⟨g8, rfl, hown8, hb8⟩
         have I8 := Lib.hid (srcC_of_own hown8)
         have I78 := Lib.hid (srcC_of_own (own_below M7.out.drew hb8))
         have B8 : Hid (Below w7.heap.size w7 w8) := Lib.hid ((Below.refl w7.heap.size w7).drew.trans hb8)
         have y0 := (X7.out.drew.later hb8).c0
         have y1 := (X7.out.drew.later hb8).c1
         clear hown8 hb8)
      | (go_at_call 33; refine (eqMemory_any K _ _ n n n L _ (by omega) I78.out I8.out).mono ?_; rintro e w9 ⟨rfl, hb9⟩))
    all_goals
      go_wp2_with fail
      go_meet
      exact ⟨rfl, B8.out.trans (hb9.mono B8.out.size)⟩
  case rest =>
    obtain ⟨rfl, hbc⟩ := hcut
    have Xc := Lib.hid (X7.out.later hbc)
    have Tc := Lib.hid (T7.out.later hbc)
    have Bc : Hid (Below w.heap.size w wc) := Lib.hid (B7.out.trans (hbc.mono B7.out.size))
    have Mc := Lib.hid (own_below M7.out hbc)
    have Oc := Lib.hid (own_below O67.out hbc)
    have O3c := Lib.hid (own_below O37.out hbc)
    have x0 := Xc.out.c0
    have x1 := Xc.out.c1
    have Qc : Hid (w5.heap.size ≤ wc.heap.size) := Lib.hid (by have h2 := hbc.size; exact Nat.le_trans HQ56.out (Nat.le_trans HQ67.out h2))
    clear c0 c1 hbc X7 T7 M7 O67 O37
    go_wp2_with fail
    clear x0 x1
    have hp0 : ¬ (((1 : Nat) : Int) + 3 * (n : Int) < 0) := by omega
    refine (markMemory_any K w3.heap.size _ n 1 _ wc (by have := Qc.out; have := Q45.out; have := S34.out; omega) (by omega) (by omega) Mc.out).mono ?_
    rintro e w8 ⟨rfl, hb8, he8, _⟩
    have O38 := Lib.hid (he8 _ _ _ _ _ _ O3c.out (fun g hg => by have := S3.out g hg; have hh := Mc.out.lt g4 rfl; simp [Value.ownBlock]; omega))
    have O68 := Lib.hid (he8 _ _ _ _ _ _ Oc.out (fun g hg => by have h1 := own_block_ge Oc.out g hg; have h2 := G4.out; have := Q45.out; simp [Value.ownBlock]; omega))
    have B8 : Hid (Below w.heap.size w w8) := Lib.hid (Bc.out.trans (hb8.mono B3.out.size))
    have T8 : Hid (Two w8 w.heap.size (.string K) (.slice a n c) 46) := Lib.hid ((hb8.block w.heap.size (by have := T3.out.lt; exact this)).trans Tc.out)
    have Q8 : Hid (w5.heap.size ≤ w8.heap.size) := Lib.hid (Nat.le_trans Qc.out hb8.size)
    clear hb8 he8 Oc O3c Mc
    go_wp2_with fail
    refine (eqInts_own _ _ _ _ P.length P w8 rfl (by have := hPn.out; omega) O68.out O38.out).mono ?_
    rintro e w9 ⟨rfl, hb9⟩
    have O39 := Lib.hid (own_below O38.out hb9)
    have O69 := Lib.hid (own_below O68.out hb9)
    have B9 : Hid (Below w.heap.size w w9) := Lib.hid (B8.out.trans (hb9.mono B8.out.size))
    have T9 := Lib.hid (T8.out.later hb9)
    have Q9 : Hid (w5.heap.size ≤ w9.heap.size) := Lib.hid (Nat.le_trans Q8.out hb9.size)
    clear hb9 T8 O38 O68
    go_wp2_with fail
    refine (markInts_any w5.heap.size v6 P.length 1 _ w9 (by have := hPn.out; omega) O69.out).mono ?_
    rintro e w10 ⟨ys, rfl, hown10, hm10, hb10⟩
    have O10 := Lib.hid hown10
    have M10 := Lib.hid hm10
    have O310 := Lib.hid (ownE_left O39.out hb10 (fun g hg => by have := S3.out g hg; have := S34.out; have := Q45.out; omega))
    have B10 : Hid (Below w.heap.size w w10) := Lib.hid (B9.out.trans (hb10.mono B5.out.size))
    have T10 : Hid (Two w10 w.heap.size (.string K) (.slice a n c) 46) := Lib.hid ((hb10.block w.heap.size (by have := T3.out.lt; have := S34.out; have := Q45.out; omega)).trans T9.out)
    clear hown10 hm10 hb10 O69 O39 T9
    go_wp2_with fail
    refine (heldInts_any w5.heap.size v6 P.length 1 ys w10 (by have := hPn.out; omega) O10.out M10.out).mono ?_
    rintro e w11 ⟨rfl, rfl⟩
    have hp1 : ¬ (((1 : Nat) : Int) + (P.length : Int) < 0) := by omega
    have c0 := T10.out.c0
    have c1 := T10.out.c1
    go_wp2_with fail
    clear c0 c1
    refine (toMemory_any K a n c L _ (HS.out.later B10.out) hn2).mono ?_
    rintro e w12 ⟨g12, rfl, hown12, hb12⟩
    have O12 := Lib.hid (own_below O10.out hb12)
    have O312 := Lib.hid (own_below O310.out hb12)
    have B12 : Hid (Below w.heap.size w w12) := Lib.hid (B10.out.trans (hb12.mono B10.out.size))
    have I12 := Lib.hid (srcC_of_own hown12)
    clear hown12 hb12 O10 O310
    go_wp2_with fail
    refine (implUnsure_any K _ n n L _ I12.out (by omega)).mono ?_
    rw [HP.out]
    rintro e w13 ⟨v13, rfl, hown13, hb13⟩
    have O13 := Lib.hid hown13
    have O1213 := Lib.hid (own_below O12.out hb13)
    have O313 := Lib.hid (own_below O312.out hb13)
    have B13 : Hid (Below w.heap.size w w13) := Lib.hid (B12.out.trans (hb13.mono B12.out.size))
    clear hown13 hb13 O12 O312
    go_wp2_with fail
    refine (eqInts_own _ _ _ _ P.length P w13 rfl (by have := hPn.out; omega) O13.out O313.out).mono ?_
    rintro e w14 ⟨rfl, hb14⟩
    have O14 := Lib.hid (own_below O1213.out hb14)
    have B14 : Hid (Below w.heap.size w w14) := Lib.hid (B13.out.trans (hb14.mono B13.out.size))
    clear hb14 O1213 O313
    go_wp2_with fail
    refine (heldInts_any w5.heap.size v6 P.length 1 ys w14 (by have := hPn.out; omega) O14.out M10.out).mono ?_
    rintro e w15 ⟨rfl, rfl⟩
    go_wp2
    go_ret
    exact ⟨rfl, B14.out⟩
end Go.Proofs.Ytlemlgadjapamaa
