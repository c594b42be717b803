/- Merged texts: RpImpl, GeoS, WordsS, AtS, PlSAt, PlSC, PlSSer, InoReadC, InoReadD, InoRead, SerSpec. -/
import Derived.Test.YtkfkjcadmdcbnaaGreatDoorPZH
namespace Go.Proofs.YtkfkjcadmdcbnaaGreatDoor
open Go.RowKit Go.Proofs.YtkfkjcadmdcbnaaGreatDoor.Parts Go.Proofs.YtkfkjcadmdcbnaaGreatDoor.Hexa Go.Proofs.YtkfkjcadmdcbnaaGreatDoor.Byt

theorem implRdWords2 (K : ByteArray) (a : Option Addr) (n c : Nat) (L : List C3) (a0 : Int) (w : World) (hs : SrcC w a n L) (hn : n ≤ 1048600) (hK : K.size ≤ 1048600) (ha : -1 ≤ a0 ∧ a0 ≤ 100000) :
    Calls Tryz.prog 80 #[.agg #[.string K, .slice a n c], .int .i64 a0, .int .i64 2] w (GivesT (rdWords K L a0 2) w) := implRdWords_any K a n c L a0 2 w hs hn hK ha (by decide)
theorem implRdWords8 (K : ByteArray) (a : Option Addr) (n c : Nat) (L : List C3) (a0 : Int) (w : World) (hs : SrcC w a n L) (hn : n ≤ 1048600) (hK : K.size ≤ 1048600) (ha : -1 ≤ a0 ∧ a0 ≤ 100000) :
    Calls Tryz.prog 80 #[.agg #[.string K, .slice a n c], .int .i64 a0, .int .i64 8] w (GivesT (rdWords K L a0 8) w) := implRdWords_any K a n c L a0 8 w hs hn hK ha (by decide)
set_option maxRecDepth 100000 in
set_option maxHeartbeats 8000000 in
theorem implRp_any (K : ByteArray) (a : Option Addr) (n c : Nat) (L : List C3) (T P I Q t : Int) (w : World) (hs : SrcC w a n L) (hn : n ≤ 1048600) (hK : K.size ≤ 1048600) :
    Calls Tryz.prog 25 #[.agg #[.string K, .slice a n c], .agg #[.int .i64 T, .int .i64 P, .int .i64 I, .int .i64 Q], .int .i64 t] w (GivesPart (rpR K L T P I Q t) (rpB K L T P I Q t) w) := by
  have hb1 := below_bk w (.cells #[.string K, .slice a n c] 57)
  have hb2 := below_bk (w.alloc (.cells #[.string K, .slice a n c] 57)) (.cells #[.int .i64 T, .int .i64 P, .int .i64 I, .int .i64 Q] 25)
  have hb3 := below_bk ((w.alloc (.cells #[.string K, .slice a n c] 57)).alloc (.cells #[.int .i64 T, .int .i64 P, .int .i64 I, .int .i64 Q] 25)) (.cells #[.int .i64 0, .slice none 0 0, .slice none 0 0] 52)
  have hb0 := hb1.trans ((hb2.trans (hb3.mono hb2.size)).mono hb1.size)
  have MB := Lib.hid ((Bk.alloc w #[.string K, .slice a n c] 57).later (hb2.trans (hb3.mono hb2.size)))
  have GB : Hid (Bk (((w.alloc (.cells #[.string K, .slice a n c] 57)).alloc (.cells #[.int .i64 T, .int .i64 P, .int .i64 I, .int .i64 Q] 25)).alloc (.cells #[.int .i64 0, .slice none 0 0, .slice none 0 0] 52)) (w.heap.size + 1) #[.int .i64 T, .int .i64 P, .int .i64 I, .int .i64 Q] 25) := Lib.hid (by
    have h := (Bk.alloc (w.alloc (.cells #[.string K, .slice a n c] 57)) #[.int .i64 T, .int .i64 P, .int .i64 I, .int .i64 Q] 25).later hb3
    simpa using h)
  have RB : Hid (Bk (((w.alloc (.cells #[.string K, .slice a n c] 57)).alloc (.cells #[.int .i64 T, .int .i64 P, .int .i64 I, .int .i64 Q] 25)).alloc (.cells #[.int .i64 0, .slice none 0 0, .slice none 0 0] 52)) (w.heap.size + 1 + 1) #[.int .i64 0, .slice none 0 0, .slice none 0 0] 52) := Lib.hid (by
    have h := Bk.alloc ((w.alloc (.cells #[.string K, .slice a n c] 57)).alloc (.cells #[.int .i64 T, .int .i64 P, .int .i64 I, .int .i64 Q] 25)) #[.int .i64 0, .slice none 0 0, .slice none 0 0] 52
    simpa using h)
  obtain ⟨W0, hW0⟩ : ∃ y, y = ((w.alloc (.cells #[.string K, .slice a n c] 57)).alloc (.cells #[.int .i64 T, .int .i64 P, .int .i64 I, .int .i64 Q] 25)).alloc (.cells #[.int .i64 0, .slice none 0 0, .slice none 0 0] 52) := ⟨_, rfl⟩
  rw [← hW0] at MB GB RB
  have BN : Hid (Below w.heap.size w W0) := Lib.hid (by rw [hW0]; exact hb0)
  have HS : Hid (SrcC W0 a n L) := Lib.hid (hs.below BN.out (Nat.le_refl _))
  have HW0 := Lib.hid hW0
  have HS0 := Lib.hid hs
  clear hs hb1 hb2 hb3 hb0 hW0
  by_cases hten : GeoR T P I Q ∧ 0 ≤ t ∧ t ≤ T - 1
  case neg =>
    have HB : Hid (rpB K L T P I Q t = false) := Lib.hid (rpB_has (by unfold rpHas; rw [decide_eq_false hten]; rfl))
    have HT := Lib.hid hten
    clear hten
    go_enter Tryz.func25, Tryz.ntmps25
    have m0 := MB.out.cell (j := 0) rfl
    have m1 := MB.out.cell (j := 1) rfl
    have g0 := GB.out.cell (j := 0) rfl
    have g1 := GB.out.cell (j := 1) rfl
    have g2 := GB.out.cell (j := 2) rfl
    have g3 := GB.out.cell (j := 3) rfl
    go_wp2_with fail
    rw [← HW0.out]
    refine (implTen_no T P I Q t HT.out _).mono ?_
    rintro e w1 ⟨rfl, hb⟩
    have R1 := Lib.hid (RB.out.later hb)
    have B1 : Hid (Below w.heap.size w w1) := Lib.hid (BN.out.trans (hb.mono BN.out.size))
    have r0 := R1.out.cell (j := 0) rfl
    have r1 := R1.out.cell (j := 1) rfl
    have r2 := R1.out.cell (j := 2) rfl
    have f0 := R1.out.fr (o := 0)
    have f1 := R1.out.fr (o := 1)
    have f2 := R1.out.fr (o := 2)
    clear hb m0 m1 g0 g1 g2 g3
    go_wp2
    have RZ := Lib.hid (((R1.out.set 0 (.int .i64 0)).set 1 (.slice none 0 0)).set 2 (.slice none 0 0))
    have q0 := RZ.out.cell (j := 0) rfl
    have q1 := RZ.out.cell (j := 1) rfl
    have q2 := RZ.out.cell (j := 2) rfl
    have BZ := Lib.hid (((B1.out.setCell (p := ⟨w.heap.size + 1 + 1, 0, none⟩) (by show w.heap.size ≤ w.heap.size + 1 + 1; omega) (.int .i64 0)).setCell (p := ⟨w.heap.size + 1 + 1, 1, none⟩) (by show w.heap.size ≤ w.heap.size + 1 + 1; omega) (.slice none 0 0)).setCell (p := ⟨w.heap.size + 1 + 1, 2, none⟩) (by show w.heap.size ≤ w.heap.size + 1 + 1; omega) (.slice none 0 0))
    refine bodyPost_ret (v := .tuple #[.agg #[.int .i64 0, .slice none 0 0, .slice none 0 0], .bool false]) ?_ rfl (gives_nopart HB.out BZ.out)
    simp [results, Tryz.results25, go_sem, q0, q1, q2]
  have HTEN := Lib.hid hten
  go_enter Tryz.func25, Tryz.ntmps25
  have m0 := MB.out.cell (j := 0) rfl
  have m1 := MB.out.cell (j := 1) rfl
  have g0 := GB.out.cell (j := 0) rfl
  have g1 := GB.out.cell (j := 1) rfl
  have g2 := GB.out.cell (j := 2) rfl
  have g3 := GB.out.cell (j := 3) rfl
  go_wp2_with fail
  rw [← HW0.out]
  refine (implTen_yes T P I Q t hten.1 hten.2 _).mono ?_
  rintro e w1 ⟨rfl, hb⟩
  have M1 := Lib.hid (MB.out.later hb)
  have G1 := Lib.hid (GB.out.later hb)
  have R1 := Lib.hid (RB.out.later hb)
  have S1 : Hid (SrcC w1 a n L) := Lib.hid (HS.out.below hb (Nat.le_refl _))
  have B1 : Hid (Below w.heap.size w w1) := Lib.hid (BN.out.trans (hb.mono BN.out.size))
  clear hb m0 m1 g0 g1 g2 g3 MB GB RB HS BN HW0 hten
  have m0 := M1.out.cell (j := 0) rfl
  have m1 := M1.out.cell (j := 1) rfl
  have g0 := G1.out.cell (j := 0) rfl
  have g1 := G1.out.cell (j := 1) rfl
  have g2 := G1.out.cell (j := 2) rfl
  have g3 := G1.out.cell (j := 3) rfl
  go_wp2_with fail
  refine (implHolds_any K a n c L T P I Q _ S1.out hn hK).mono ?_
  obtain ⟨hv, hhv⟩ : ∃ b, (memOkB K L && decide (linesV T P I Q * 16 ≤ (K.size : Int))) = b := ⟨_, rfl⟩
  rw [hhv]
  rintro e w2 ⟨rfl, hb⟩
  have HHV := Lib.hid hhv
  have HHAS : Hid (rpHas K L T P I Q t = hv) := Lib.hid (by unfold rpHas; rw [decide_eq_true HTEN.out, hhv]; rfl)
  have M2 := Lib.hid (M1.out.later hb)
  have G2 := Lib.hid (G1.out.later hb)
  have R2 := Lib.hid (R1.out.later hb)
  have S2 : Hid (SrcC w2 a n L) := Lib.hid (S1.out.below hb (Nat.le_refl _))
  have B2 : Hid (Below w.heap.size w w2) := Lib.hid (B1.out.trans (hb.mono B1.out.size))
  clear hb hhv m0 m1 g0 g1 g2 g3 M1 G1 R1 S1 B1
  cases hv with
  | false =>
    have HB : Hid (rpB K L T P I Q t = false) := Lib.hid (rpB_has HHAS.out)
    have R1 := R2
    have B1 := B2
    have r0 := R1.out.cell (j := 0) rfl
    have r1 := R1.out.cell (j := 1) rfl
    have r2 := R1.out.cell (j := 2) rfl
    have f0 := R1.out.fr (o := 0)
    have f1 := R1.out.fr (o := 1)
    have f2 := R1.out.fr (o := 2)
    go_wp2
    have RZ := Lib.hid (((R1.out.set 0 (.int .i64 0)).set 1 (.slice none 0 0)).set 2 (.slice none 0 0))
    have q0 := RZ.out.cell (j := 0) rfl
    have q1 := RZ.out.cell (j := 1) rfl
    have q2 := RZ.out.cell (j := 2) rfl
    have BZ := Lib.hid (((B1.out.setCell (p := ⟨w.heap.size + 1 + 1, 0, none⟩) (by show w.heap.size ≤ w.heap.size + 1 + 1; omega) (.int .i64 0)).setCell (p := ⟨w.heap.size + 1 + 1, 1, none⟩) (by show w.heap.size ≤ w.heap.size + 1 + 1; omega) (.slice none 0 0)).setCell (p := ⟨w.heap.size + 1 + 1, 2, none⟩) (by show w.heap.size ≤ w.heap.size + 1 + 1; omega) (.slice none 0 0))
    refine bodyPost_ret (v := .tuple #[.agg #[.int .i64 0, .slice none 0 0, .slice none 0 0], .bool false]) ?_ rfl (gives_nopart HB.out BZ.out)
    simp [results, Tryz.results25, go_sem, q0, q1, q2]
  | true =>
    have HGEO := Lib.hid (rpHas_geo HHAS.out)
    obtain ⟨z2, hz2⟩ : ∃ z, placeV T P I Q t 2 = z := ⟨_, rfl⟩
    obtain ⟨wd, hwd⟩ : ∃ x, rpWord K L T P I Q t = x := ⟨_, rfl⟩
    have HZ2 := Lib.hid hz2
    have HWD : Hid (wordAtB K L z2 = wd) := Lib.hid (by rw [← hz2, ← hwd]; rfl)
    have hwds : wd.size ≤ 8 := by rw [← hwd]; exact wordAtB_size _
    obtain ⟨sr, hsr⟩ : ∃ z, rpSer K L T P I Q t = z := ⟨_, rfl⟩
    obtain ⟨sb, hsb⟩ : ∃ z, rpSerB K L T P I Q t = z := ⟨_, rfl⟩
    have HSR : Hid (numAtV wd 0 3 = sr) := Lib.hid (by rw [← hsr, ← hwd]; rfl)
    have HSB : Hid (decide (serB sr = wd) = sb) := Lib.hid (by rw [← hsb, ← hsr, ← hwd]; rfl)
    clear hz2 hwd
    have M1 := M2
    have G1 := G2
    have m0 := M1.out.cell (j := 0) rfl
    have m1 := M1.out.cell (j := 1) rfl
    have g0 := G1.out.cell (j := 0) rfl
    have g1 := G1.out.cell (j := 1) rfl
    have g2 := G1.out.cell (j := 2) rfl
    have g3 := G1.out.cell (j := 3) rfl
    have y0 := GrownW.cell m0 M1.out.lt
    have y1 := GrownW.cell m1 M1.out.lt
    have y2 := GrownW.cell g0 G1.out.lt
    have y3 := GrownW.cell g1 G1.out.lt
    have y4 := GrownW.cell g2 G1.out.lt
    have y5 := GrownW.cell g3 G1.out.lt
    clear m0 m1 g0 g1 g2 g3 M1 G1
    have Q0 : Hid (∀ g : GrownW w2, Calls Tryz.prog 78 #[.agg #[.int .i64 T, .int .i64 P, .int .i64 I, .int .i64 Q], .int .i64 t] g.wd fun e w' => e = .returned (.int .i64 z2) ∧ Below g.wd.heap.size g.wd w') := Lib.hid (fun g => by
      have h := implSerial_any T P I Q t g.wd
      rw [HZ2.out] at h
      exact h)
    have Q1 : Hid (∀ g : GrownW w2, Calls Tryz.prog 77 #[.agg #[.string K, .slice a n c], .int .i64 z2] g.wd fun e w' => e = .returned (.string wd) ∧ Below g.wd.heap.size g.wd w') := Lib.hid (fun g => by
      have h := implWordAt_any K a n c L z2 g.wd (S2.out.below g.grown (Nat.le_refl _)) hn hK
      rw [HWD.out] at h
      exact h)
    have Q2 : Hid (∀ g : GrownW w2, Calls Tryz.prog 76 #[.string wd] g.wd fun e w' => e = .returned (.tuple #[.int .i64 sr, .bool sb]) ∧ Below g.wd.heap.size g.wd w') := Lib.hid (fun g => by
      have h := implReadSer_any wd g.wd (by omega)
      rw [HSR.out, HSB.out] at h
      exact h)
    go_wp2
    refine wp_region_grown (by kernel_rfl) (by kernel_rfl) ?_
    repeat (go_big_quiet_step (first | (go_at_call 78; exact Calls.grown_of (Q0.out _)) | (go_at_call 77; exact Calls.grown_of (Q1.out _)) | (go_at_call 76; exact Calls.grown_of (Q2.out _))))
    refine wpQuiet_nil ?_
    rintro _ ⟨gq, rfl⟩
    obtain ⟨w3, hw3⟩ : ∃ y, y = gq.wd := ⟨_, rfl⟩
    have M3 : Hid (Bk w3 w.heap.size #[.string K, .slice a n c] 57) := Lib.hid (by rw [hw3]; exact M2.out.later gq.grown)
    have G3 : Hid (Bk w3 (w.heap.size + 1) #[.int .i64 T, .int .i64 P, .int .i64 I, .int .i64 Q] 25) := Lib.hid (by rw [hw3]; exact G2.out.later gq.grown)
    have R3 : Hid (Bk w3 (w.heap.size + 1 + 1) #[.int .i64 0, .slice none 0 0, .slice none 0 0] 52) := Lib.hid (by rw [hw3]; exact R2.out.later gq.grown)
    have S3 : Hid (SrcC w3 a n L) := Lib.hid (by rw [hw3]; exact S2.out.below gq.grown (Nat.le_refl _))
    have B3 : Hid (Below w.heap.size w w3) := Lib.hid (by rw [hw3]; exact B2.out.trans (gq.grown.mono B2.out.size))
    rw [← hw3]
    clear hw3 gq y0 y1 y2 y3 y4 y5 Q0 Q1 Q2 M2 G2 R2 S2 B2
    obtain ⟨z3, hz3⟩ : ∃ z, placeV T P I Q t 36 = z := ⟨_, rfl⟩
    have HZ3 := Lib.hid hz3
    have hz3b : -1 ≤ z3 ∧ z3 ≤ 100000 := by
      rw [← hz3]
      exact place_bd (by omega)
    obtain ⟨ws, hws⟩ : ∃ x, rpStW K L T P I Q t = x := ⟨_, rfl⟩
    have HWS : Hid (rdWords K L z3 2 = ws) := Lib.hid (by rw [← hz3, ← hws]; rfl)
    have HWL : Hid (ws.length = 2) := Lib.hid (by rw [← hws]; exact rdWords_len _ _ _ _)
    have HWZ : Hid (∀ j, j < 2 → (ws.getD j default).size ≤ 2000000) := Lib.hid (fun j hj => by rw [← hws]; exact Nat.le_trans (rdWords_size _ _ _ hj) (by decide))
    obtain ⟨st, hst⟩ : ∃ x, rpSt K L T P I Q t = x := ⟨_, rfl⟩
    obtain ⟨tb, htb⟩ : ∃ x, rpStB K L T P I Q t = x := ⟨_, rfl⟩
    have HST : Hid (rdR ws P = st) := Lib.hid (by rw [← hst, ← hws]; rfl)
    have HTB : Hid (rdB ws P = tb) := Lib.hid (by rw [← htb, ← hws]; rfl)
    clear hz3 hws
    have MD := Lib.hid M3.out.drew
    have GD := Lib.hid G3.out.drew
    have BD : Hid (Below w3.heap.size w3 w3.drew) := Lib.hid (Below.refl _ _).drew
    have HSD : Hid (SrcC w3.drew a n L) := Lib.hid (S3.out.below (Below.refl _ _).drew (Nat.le_refl _))
    have M1 := M3
    have G1 := G3
    have m0 := M1.out.cell (j := 0) rfl
    have m1 := M1.out.cell (j := 1) rfl
    have g0 := G1.out.cell (j := 0) rfl
    have g1 := G1.out.cell (j := 1) rfl
    have g2 := G1.out.cell (j := 2) rfl
    have g3 := G1.out.cell (j := 3) rfl
    go_upto_region 4 with fail
    go_cut [10, 11] (fun sv ov wx => ov = .bool tb ∧ OwnC wx w3.heap.size sv st.length (icells st) ∧ Below w3.heap.size w3 wx)
    case first =>
      go_region_held3 (fun w' => w'.cell? ⟨w.heap.size, 0, none⟩ = some (.string K) ∧ w'.cell? ⟨w.heap.size, 1, none⟩ = some (.slice a n c) ∧ w'.cell? ⟨w.heap.size + 1, 0, none⟩ = some (.int .i64 T) ∧ w'.cell? ⟨w.heap.size + 1, 1, none⟩ = some (.int .i64 P) ∧ w'.cell? ⟨w.heap.size + 1, 2, none⟩ = some (.int .i64 I) ∧ w'.cell? ⟨w.heap.size + 1, 3, none⟩ = some (.int .i64 Q))
        (first
          | exact ⟨MD.out.cell rfl, MD.out.cell rfl, GD.out.cell rfl, GD.out.cell rfl, GD.out.cell rfl, GD.out.cell rfl⟩
          | go_keep)
        (first
        | (go_at_call 81; (with_reducible refine (implStatesAt_any T P I Q t _).mono ?_); rw [HZ3.out]; rintro e wa ⟨rfl, hb⟩; have MD := Lib.hid (MD.out.later hb); have GD := Lib.hid (GD.out.later hb); have HSD : Hid (SrcC wa a n L) := Lib.hid (HSD.out.below hb (Nat.le_refl _)); have BD : Hid (Below w3.heap.size w3 wa) := Lib.hid (BD.out.trans (hb.mono BD.out.size)); clear hb)
        | (go_at_call 80; (with_reducible refine (implRdWords2 K a n c L z3 _ HSD.out hn hK hz3b).mono ?_); rw [HWS.out]; rintro e wb ⟨v4, rfl, ho, hb⟩; obtain ⟨aw, cw, rfl, hcw, hnw, _⟩ := own_form ho; have HTD := Lib.hid (srcT_of_own ho); have MD := Lib.hid (MD.out.later hb); have GD := Lib.hid (GD.out.later hb); have HSD : Hid (SrcC wb a n L) := Lib.hid (HSD.out.below hb (Nat.le_refl _)); have BD : Hid (Below w3.heap.size w3 wb) := Lib.hid (BD.out.trans (hb.mono BD.out.size)); clear ho hb)
        | (go_at_call 79; (with_reducible refine (implReadSt_any aw ws.length cw ws P _ HTD.out (fun j hj => HWZ.out j (by have := HWL.out; omega))).mono ?_); rw [HST.out, HTB.out]; rintro e wd' ⟨v5, rfl, ho, hb⟩; have HR := Lib.hid ho; have BD0 := BD; have MD := Lib.hid (MD.out.later hb); have GD := Lib.hid (GD.out.later hb); have BD : Hid (Below w3.heap.size w3 wd') := Lib.hid (BD.out.trans (hb.mono BD.out.size)); clear ho hb))
      all_goals
        go_wp2
        go_meet
        exact ⟨rfl, ownC_mono HR.out BD0.out.size, BD.out⟩
    case rest =>
      obtain ⟨rfl, ho, hb⟩ := hcut
      obtain ⟨w4, hw4⟩ : ∃ y, y = wc := ⟨_, rfl⟩
      rw [← hw4] at ho hb ⊢
      clear hw4
      have ho' := ho
      obtain ⟨aS, cS, qS, rfl, _, _, _, _⟩ := ho'
      have HI := Lib.hid ((obj_intsC ho).mono (show w.heap.size + 1 + 1 + 1 ≤ _ from R3.out.lt) (Nat.le_refl _))
      have M4 := Lib.hid (M3.out.later hb)
      have G4 := Lib.hid (G3.out.later hb)
      have R4 := Lib.hid (R3.out.later hb)
      have B4 : Hid (Below w.heap.size w w4) := Lib.hid (B3.out.trans (hb.mono B3.out.size))
      clear ho hb MD GD BD HSD m0 m1 g0 g1 g2 g3 M1 G1 M3 G3 R3 S3 B3 HZ3 HWS HWL HWZ HST HTB hz3b HZ2 HWD HSR HSB hwds
      have HSBE := Lib.hid hsb
      have HTBE := Lib.hid htb
      have HSRE := Lib.hid hsr
      have HSTE := Lib.hid hst
      clear hsb htb hsr hst
      cases sb with
      | false =>
        have HB : Hid (rpB K L T P I Q t = false) := Lib.hid (rpB_head (by rw [HSBE.out]; rfl))
        have RR := R4
        have BB := B4
        have r0 := RR.out.cell (j := 0) rfl
        have r1 := RR.out.cell (j := 1) rfl
        have r2 := RR.out.cell (j := 2) rfl
        have f0 := RR.out.fr (o := 0)
        have f1 := RR.out.fr (o := 1)
        have f2 := RR.out.fr (o := 2)
        go_wp2
        have RZ := Lib.hid (((RR.out.set 0 (.int .i64 0)).set 1 (.slice none 0 0)).set 2 (.slice none 0 0))
        have q0 := RZ.out.cell (j := 0) rfl
        have q1 := RZ.out.cell (j := 1) rfl
        have q2 := RZ.out.cell (j := 2) rfl
        have BZ := Lib.hid (((BB.out.setCell (p := ⟨w.heap.size + 1 + 1, 0, none⟩) (by show w.heap.size ≤ w.heap.size + 1 + 1; omega) (.int .i64 0)).setCell (p := ⟨w.heap.size + 1 + 1, 1, none⟩) (by show w.heap.size ≤ w.heap.size + 1 + 1; omega) (.slice none 0 0)).setCell (p := ⟨w.heap.size + 1 + 1, 2, none⟩) (by show w.heap.size ≤ w.heap.size + 1 + 1; omega) (.slice none 0 0))
        refine bodyPost_ret (v := .tuple #[.agg #[.int .i64 0, .slice none 0 0, .slice none 0 0], .bool false]) ?_ rfl (gives_nopart HB.out BZ.out)
        simp [results, Tryz.results25, go_sem, q0, q1, q2]
      | true =>
        cases tb with
        | false =>
          have HB : Hid (rpB K L T P I Q t = false) := Lib.hid (rpB_head (by rw [HSBE.out, HTBE.out]; rfl))
          have RR := R4
          have BB := B4
          have r0 := RR.out.cell (j := 0) rfl
          have r1 := RR.out.cell (j := 1) rfl
          have r2 := RR.out.cell (j := 2) rfl
          have f0 := RR.out.fr (o := 0)
          have f1 := RR.out.fr (o := 1)
          have f2 := RR.out.fr (o := 2)
          go_wp2
          have RZ := Lib.hid (((RR.out.set 0 (.int .i64 0)).set 1 (.slice none 0 0)).set 2 (.slice none 0 0))
          have q0 := RZ.out.cell (j := 0) rfl
          have q1 := RZ.out.cell (j := 1) rfl
          have q2 := RZ.out.cell (j := 2) rfl
          have BZ := Lib.hid (((BB.out.setCell (p := ⟨w.heap.size + 1 + 1, 0, none⟩) (by show w.heap.size ≤ w.heap.size + 1 + 1; omega) (.int .i64 0)).setCell (p := ⟨w.heap.size + 1 + 1, 1, none⟩) (by show w.heap.size ≤ w.heap.size + 1 + 1; omega) (.slice none 0 0)).setCell (p := ⟨w.heap.size + 1 + 1, 2, none⟩) (by show w.heap.size ≤ w.heap.size + 1 + 1; omega) (.slice none 0 0))
          refine bodyPost_ret (v := .tuple #[.agg #[.int .i64 0, .slice none 0 0, .slice none 0 0], .bool false]) ?_ rfl (gives_nopart HB.out BZ.out)
          simp [results, Tryz.results25, go_sem, q0, q1, q2]
        | true =>
          have hba := below_bk w4 (.cells #[.int .i64 sr, .slice aS st.length cS, .slice none 0 0] 52)
          have P5 : Hid (Bk (w4.alloc (.cells #[.int .i64 sr, .slice aS st.length cS, .slice none 0 0] 52)) w4.heap.size #[.int .i64 sr, .slice aS st.length cS, .slice none 0 0] 52) := Lib.hid (Bk.alloc _ _ _)
          have M5 : Hid (Bk (w4.alloc (.cells #[.int .i64 sr, .slice aS st.length cS, .slice none 0 0] 52)) w.heap.size #[.string K, .slice a n c] 57) := Lib.hid (M4.out.later hba)
          have G5 : Hid (Bk (w4.alloc (.cells #[.int .i64 sr, .slice aS st.length cS, .slice none 0 0] 52)) (w.heap.size + 1) #[.int .i64 T, .int .i64 P, .int .i64 I, .int .i64 Q] 25) := Lib.hid (G4.out.later hba)
          have R5 : Hid (Bk (w4.alloc (.cells #[.int .i64 sr, .slice aS st.length cS, .slice none 0 0] 52)) (w.heap.size + 1 + 1) #[.int .i64 0, .slice none 0 0, .slice none 0 0] 52) := Lib.hid (R4.out.later hba)
          have I5 : Hid (Obj1 (w4.alloc (.cells #[.int .i64 sr, .slice aS st.length cS, .slice none 0 0] 52)) (w.heap.size + 1 + 1 + 1) w4.heap.size (celRow cInt st) (.slice aS st.length cS)) := Lib.hid (HI.out.later hba)
          have B5 : Hid (Below w.heap.size w (w4.alloc (.cells #[.int .i64 sr, .slice aS st.length cS, .slice none 0 0] 52))) := Lib.hid (B4.out.trans (hba.mono B4.out.size))
          have LB : Hid (w.heap.size + 1 + 1 < w4.heap.size) := Lib.hid R4.out.lt
          have g2 := G5.out.cell (j := 2) rfl
          clear hba M4 G4 R4 B4 HI
          have GR5 : Hid (GrowE cIno (rpInos K L T P I Q t 0) (w4.alloc (.cells #[.int .i64 sr, .slice aS st.length cS, .slice none 0 0] 52)) (w4.heap.size + 1) 0 (.slice none 0 0)) := Lib.hid (GrowE.nil _ _)
          obtain ⟨hI0, hI1⟩ : 0 ≤ I ∧ I ≤ 6 := by obtain ⟨⟨_, _, _, _, _, _, _, _⟩, _, _⟩ := HTEN.out; omega
          go_wp2
          go_loopw [59] (fun kv wr => ∃ (k : Nat), k ≤ I.toNat ∧ kv = .int .i64 k ∧ ∃ uv Tt, Hid (GrowE cIno (rpInos K L T P I Q t k) wr (w4.heap.size + 1) Tt uv) ∧ Hid (Bk wr w4.heap.size #[.int .i64 sr, (.slice aS st.length cS), uv] 52) ∧ Hid (Bk wr w.heap.size #[.string K, .slice a n c] 57) ∧ Hid (Bk wr (w.heap.size + 1) #[.int .i64 T, .int .i64 P, .int .i64 I, .int .i64 Q] 25) ∧ Hid (Bk wr (w.heap.size + 1 + 1) #[.int .i64 0, .slice none 0 0, .slice none 0 0] 52) ∧ Hid (Obj1 wr (w.heap.size + 1 + 1 + 1) w4.heap.size (celRow cInt st) (.slice aS st.length cS)) ∧ Hid (rpAll K L T P I Q t k = true) ∧ Hid (Below w.heap.size w wr)) (fun kv _ => I.toNat - (intOf kv).toNat)
          case atStart => exact ⟨0, Nat.zero_le _, rfl, _, _, GR5, P5, M5, G5, R5, I5, Lib.hid rfl, B5⟩
          case round =>
            clear g2 GR5 P5 M5 G5 R5 I5 B5
            obtain ⟨k, hk, rfl, uv, Tt, GR, HP, HM, HG, HR, HI, HA, HBL⟩ := hrel
            by_cases hlt : (k : Int) < I
            · obtain ⟨z, hz⟩ : ∃ z, inodV T P I Q t (k : Int) = z := ⟨_, rfl⟩
              have HZ := Lib.hid hz
              have hzb : -1 ≤ z ∧ z ≤ 100000 := by rw [← hz]; exact inod_bd
              obtain ⟨ws, hws⟩ : ∃ x, rpInW K L T P I Q t (k : Int) = x := ⟨_, rfl⟩
              have HWS : Hid (rdWords K L z 8 = ws) := Lib.hid (by rw [← hz, ← hws]; rfl)
              have HWL : Hid (ws.length = 8) := Lib.hid (by rw [← hws]; exact rdWords_len _ _ _ _)
              have HWZ : Hid (∀ j, j < 8 → (ws.getD j default).size ≤ 1048576) := Lib.hid (fun j hj => by rw [← hws]; exact Nat.le_trans (rdWords_size _ _ _ hj) (by decide))
              obtain ⟨x, hx⟩ : ∃ x, rpIno K L T P I Q t (k : Int) = x := ⟨_, rfl⟩
              obtain ⟨b, hbb⟩ : ∃ x, rpInoB K L T P I Q t (k : Int) = x := ⟨_, rfl⟩
              have HX : Hid (readInoR ws = x) := Lib.hid (by rw [← hx, ← hws]; rfl)
              have HXB : Hid (readInoB ws = b) := Lib.hid (by rw [← hbb, ← hws]; rfl)
              have HBB := Lib.hid hbb
              have HN : Hid (rpInos K L T P I Q t (k + 1) = rpInos K L T P I Q t k ++ [x]) := Lib.hid (by rw [rpInos_succ, hx])
              clear hz hws hx hbb
              have SR : Hid (SrcC wr a n L) := Lib.hid (HS0.out.below HBL.out (Nat.le_refl _))
              have BD : Hid (Below wr.heap.size wr wr.drew) := Lib.hid (Below.refl _ _).drew
              have KP : Hid (∀ w', Below wr.heap.size wr w' → w'.cell? ⟨w.heap.size, 0, none⟩ = some (.string K) ∧ w'.cell? ⟨w.heap.size, 1, none⟩ = some (.slice a n c) ∧ w'.cell? ⟨w.heap.size + 1, 0, none⟩ = some (.int .i64 T) ∧ w'.cell? ⟨w.heap.size + 1, 1, none⟩ = some (.int .i64 P) ∧ w'.cell? ⟨w.heap.size + 1, 2, none⟩ = some (.int .i64 I) ∧ w'.cell? ⟨w.heap.size + 1, 3, none⟩ = some (.int .i64 Q)) := Lib.hid (fun w' hb => ⟨(HM.out.later hb).cell rfl, (HM.out.later hb).cell rfl, (HG.out.later hb).cell rfl, (HG.out.later hb).cell rfl, (HG.out.later hb).cell rfl, (HG.out.later hb).cell rfl⟩)
              go_upto_region 11 with fail
              go_cut [14, 15] (fun pv fv wx => InoCut wr x b pv fv wx)
              case first =>
                go_region_held3 (fun w' => w'.cell? ⟨w.heap.size, 0, none⟩ = some (.string K) ∧ w'.cell? ⟨w.heap.size, 1, none⟩ = some (.slice a n c) ∧ w'.cell? ⟨w.heap.size + 1, 0, none⟩ = some (.int .i64 T) ∧ w'.cell? ⟨w.heap.size + 1, 1, none⟩ = some (.int .i64 P) ∧ w'.cell? ⟨w.heap.size + 1, 2, none⟩ = some (.int .i64 I) ∧ w'.cell? ⟨w.heap.size + 1, 3, none⟩ = some (.int .i64 Q))
                  (first
                    | with_reducible exact KP.out _ BD.out
                    | with_reducible exact KP.out _ (below_alB BD.out _)
                    | with_reducible exact KP.out _ (be6 BD.out NG.out)
                    | with_reducible exact KP.out _ (below_bk _ _).drew)
                  (first
                  | (go_at_call 83; (with_reducible refine (implInode_any T P I Q t (k : Int) _).mono ?_); rw [HZ.out]; rintro e wa ⟨rfl, hb⟩; (first | (have NB : Hid (Bk wa wr.heap.size #[.int .i64 0, .int .i64 0, .int .i64 0, .string ⟨#[]⟩, .slice none 0 0, .slice none 0 0] 102) := Lib.hid (by with_reducible exact (Bk.alloc wr #[.int .i64 0, .int .i64 0, .int .i64 0, .string ⟨#[]⟩, .slice none 0 0, .slice none 0 0] 102).drew.later hb); have NG : Hid (wr.heap.size ≤ wr.heap.size) := Lib.hid (Nat.le_refl _); have BD : Hid (Below wr.heap.size wr wa) := Lib.hid (by with_reducible exact (below_bk wr _).drew.trans (hb.mono (below_bk wr _).drew.size))) | (have BD : Hid (Below wr.heap.size wr wa) := Lib.hid (by with_reducible exact BD.out.trans (hb.mono BD.out.size)))); clear hb)
                  | (go_at_call 80; (with_reducible refine (implRdWords8 K a n c L z _ (by first | with_reducible exact SR.out.below BD.out (Nat.le_refl _) | exact SR.out.below (below_alB BD.out _) (Nat.le_refl _)) hn hK hzb).mono ?_); rw [HWS.out]; rintro e wb ⟨v4, rfl, ho, hb⟩; obtain ⟨aw, cw, rfl, hcw, hnw, _⟩ := own_form ho; have HTD := Lib.hid (srcT_of_own ho); (first | (have BD : Hid (Below wr.heap.size wr wb) := Lib.hid (by with_reducible exact BD.out.trans (hb.mono BD.out.size)); have NB := Lib.hid (NB.out.later hb)) | (have BD : Hid (Below wr.heap.size wr wb) := Lib.hid (by with_reducible exact BD.out.trans (hb.mono BD.out.size))) | (have NB : Hid (Bk wb wa.heap.size #[.int .i64 0, .int .i64 0, .int .i64 0, .string ⟨#[]⟩, .slice none 0 0, .slice none 0 0] 102) := Lib.hid (nb_bk hb); have NG := Lib.hid BD.out.size; have BD : Hid (Below wr.heap.size wr wb) := Lib.hid (nb_be BD.out hb))); clear ho hb)
                  | (go_at_call 82; (with_reducible refine (implReadIno_any aw ws.length cw ws _ hnw (Nat.le_trans hcw (by decide)) (by first | with_reducible exact HTD.out | exact SrcE.later HTD.out (below_bk _ _)) (fun j hj => HWZ.out j (by have := HWL.out; omega))).mono ?_); rw [HX.out, HXB.out]; rintro e wd ⟨aR, cR, aE, cE, rfl, h1, h2, h3, hb⟩; have HO := Lib.hid (obj_ino h1 h2 h3 hb.size); (first | (have NL := Lib.hid NB.out.lt; have LO := Lib.hid BD.out.size; have NB := Lib.hid (NB.out.later hb); have BD : Hid (Below wr.heap.size wr wd) := Lib.hid (by with_reducible exact BD.out.trans (hb.mono BD.out.size)); have c0 := NB.out.cell (j := 0) rfl; have f0 := NB.out.fr (o := 0); have S1 := Lib.hid (NB.out.set 0 (.int .i64 x.kd)); have c1 := S1.out.cell (j := 1) rfl; have f1 := S1.out.fr (o := 1); have S2 := Lib.hid (S1.out.set 1 (.int .i64 x.sz)); have c2 := S2.out.cell (j := 2) rfl; have f2 := S2.out.fr (o := 2); have S3 := Lib.hid (S2.out.set 2 (.int .i64 x.gn)); have c3 := S3.out.cell (j := 3) rfl; have f3 := S3.out.fr (o := 3); have S4 := Lib.hid (S3.out.set 3 (.string x.key)); have c4 := S4.out.cell (j := 4) rfl; have f4 := S4.out.fr (o := 4); have S5 := Lib.hid (S4.out.set 4 (.slice aR x.R.length cR)); have c5 := S5.out.cell (j := 5) rfl; have f5 := S5.out.fr (o := 5)) | (have LO := Lib.hid BD.out.size; have BD : Hid (Below wr.heap.size wr wd) := Lib.hid (by with_reducible exact BD.out.trans (hb.mono BD.out.size))) | (have NL := Lib.hid (nb_lt hb); have LO := Lib.hid (nb_le BD.out hb); have NB : Hid (Bk wd wb.heap.size #[.int .i64 0, .int .i64 0, .int .i64 0, .string ⟨#[]⟩, .slice none 0 0, .slice none 0 0] 102) := Lib.hid (nb_bk hb); have NG := Lib.hid BD.out.size; have BD : Hid (Below wr.heap.size wr wd) := Lib.hid (nb_be BD.out hb); have c0 := NB.out.cell (j := 0) rfl; have f0 := NB.out.fr (o := 0); have S1 := Lib.hid (NB.out.set 0 (.int .i64 x.kd)); have c1 := S1.out.cell (j := 1) rfl; have f1 := S1.out.fr (o := 1); have S2 := Lib.hid (S1.out.set 1 (.int .i64 x.sz)); have c2 := S2.out.cell (j := 2) rfl; have f2 := S2.out.fr (o := 2); have S3 := Lib.hid (S2.out.set 2 (.int .i64 x.gn)); have c3 := S3.out.cell (j := 3) rfl; have f3 := S3.out.fr (o := 3); have S4 := Lib.hid (S3.out.set 3 (.string x.key)); have c4 := S4.out.cell (j := 4) rfl; have f4 := S4.out.fr (o := 4); have S5 := Lib.hid (S4.out.set 4 (.slice aR x.R.length cR)); have c5 := S5.out.cell (j := 5) rfl; have f5 := S5.out.fr (o := 5))); clear h1 h2 h3 hb))
                all_goals
                  go_wp2
                  go_meet
                  first | with_reducible exact inoCut_new BD.out HO.out LO.out | exact inoCut_old NB.out NG.out NL.out HO.out BD.out
              case rest =>
                obtain ⟨rfl, gN, aR, cR, aE, cE, rfl, hN, hO, hb⟩ := hcut
                obtain ⟨w5, hw5⟩ : ∃ y, y = wc := ⟨_, rfl⟩
                rw [← hw5] at hN hO hb ⊢
                clear hw5
                have lp : w4.heap.size < wr.heap.size := HP.out.lt
                have GR2 := Lib.hid (GR.out.later hb)
                have TL : Tt ≤ wr.heap.size := GR.out.top
                have P2 := Lib.hid (HP.out.later hb)
                have M2 := Lib.hid (HM.out.later hb)
                have G2 := Lib.hid (HG.out.later hb)
                have R2 := Lib.hid (HR.out.later hb)
                have I2 := Lib.hid (HI.out.later hb)
                have B2 : Hid (Below w.heap.size w w5) := Lib.hid (HBL.out.trans (hb.mono HBL.out.size))
                have LW := hb.size
                have N2 := Lib.hid hN
                have O2 := Lib.hid hO
                clear hb hN hO GR HP HM HG HR HI HBL SR BD HZ HWS HWL HWZ HX HXB hzb
                cases b with
                | false =>
                  have HB : Hid (rpB K L T P I Q t = false) := Lib.hid (rpB_all (rpAll_bad (n := k) (by omega) HBB.out))
                  clear lp LW TL
                  have RR := R2
                  have BB := B2
                  have r0 := RR.out.cell (j := 0) rfl
                  have r1 := RR.out.cell (j := 1) rfl
                  have r2 := RR.out.cell (j := 2) rfl
                  have f0 := RR.out.fr (o := 0)
                  have f1 := RR.out.fr (o := 1)
                  have f2 := RR.out.fr (o := 2)
                  go_wp2
                  have RZ := Lib.hid (((RR.out.set 0 (.int .i64 0)).set 1 (.slice none 0 0)).set 2 (.slice none 0 0))
                  have q0 := RZ.out.cell (j := 0) rfl
                  have q1 := RZ.out.cell (j := 1) rfl
                  have q2 := RZ.out.cell (j := 2) rfl
                  have BZ := Lib.hid (((BB.out.setCell (p := ⟨w.heap.size + 1 + 1, 0, none⟩) (by show w.heap.size ≤ w.heap.size + 1 + 1; omega) (.int .i64 0)).setCell (p := ⟨w.heap.size + 1 + 1, 1, none⟩) (by show w.heap.size ≤ w.heap.size + 1 + 1; omega) (.slice none 0 0)).setCell (p := ⟨w.heap.size + 1 + 1, 2, none⟩) (by show w.heap.size ≤ w.heap.size + 1 + 1; omega) (.slice none 0 0))
                  refine bodyPost_ret (v := .tuple #[.agg #[.int .i64 0, .slice none 0 0, .slice none 0 0], .bool false]) ?_ rfl (gives_nopart HB.out BZ.out)
                  simp [results, Tryz.results25, go_sem, q0, q1, q2]
                | true =>
                  have HA2 : Hid (rpAll K L T P I Q t (k + 1) = true) := Lib.hid (by rw [rpAll_succ, HA.out, HBB.out]; rfl)
                  obtain ⟨xs, hr, hstep⟩ := GR2.out.app O2.out TL (by omega) LW (by rw [rpInos_len]; omega) 50
                  have HST := Lib.hid hstep
                  have n0 := N2.out.cell (j := 0) rfl
                  have n1 := N2.out.cell (j := 1) rfl
                  have n2 := N2.out.cell (j := 2) rfl
                  have n3 := N2.out.cell (j := 3) rfl
                  have n4 := N2.out.cell (j := 4) rfl
                  have n5 := N2.out.cell (j := 5) rfl
                  have p2 := P2.out.cell (j := 2) rfl
                  clear hstep
                  go_wp2_with (at_builtin; refine wpList_appE rfl _ _ _ _ rfl _ _ rfl rfl hr ?_; clear hr; intro v' w6 h1 h2 h3; have h9 := HST.out v' w6 h1 h2 h3; obtain ⟨a6, c6, rfl, _, _, _⟩ := ownE_form h1; have GR6 := Lib.hid h9.1; have B6 := Lib.hid h9.2; have P6 : Hid (Bk w6 w4.heap.size #[.int .i64 sr, (.slice aS st.length cS), uv] 52) := Lib.hid ((B6.out.block _ (by omega)).trans P2.out); have M6 : Hid (Bk w6 w.heap.size #[.string K, .slice a n c] 57) := Lib.hid ((B6.out.block _ (by have := LB.out; omega)).trans M2.out); have G6 : Hid (Bk w6 (w.heap.size + 1) #[.int .i64 T, .int .i64 P, .int .i64 I, .int .i64 Q] 25) := Lib.hid ((B6.out.block _ (by have := LB.out; omega)).trans G2.out); have R6 : Hid (Bk w6 (w.heap.size + 1 + 1) #[.int .i64 0, .slice none 0 0, .slice none 0 0] 52) := Lib.hid ((B6.out.block _ (by have := LB.out; omega)).trans R2.out); have I6 := Lib.hid (I2.out.kept fun g h1 h2 => B6.out.block g (by omega)); have BB6 : Hid (Below w.heap.size w w6) := Lib.hid (B2.out.trans (B6.out.mono (by have := LB.out; omega))); have p2 := P6.out.cell (j := 2) rfl; have pf := P6.out.fr (o := 2); clear h1 h2 h3 h9 n0 n1 n2 n3 n4 n5 GR2 P2 M2 G2 R2 I2 B2 N2 O2 HST)
                  have K7 : Hid (ButE w4.heap.size w6 (w6.setCell ⟨w4.heap.size, 2, none⟩ (.slice a6 ((rpInos K L T P I Q t k).length + 1) c6))) := Lib.hid ((ButE.refl _ w6).then_set 2 _)
                  have GR7 := Lib.hid (GR6.out.but K7.out (Nat.lt_succ_self _))
                  rw [← HN.out] at GR7
                  have P7 : Hid (Bk (w6.setCell ⟨w4.heap.size, 2, none⟩ (.slice a6 ((rpInos K L T P I Q t k).length + 1) c6)) w4.heap.size #[.int .i64 sr, (.slice aS st.length cS), .slice a6 ((rpInos K L T P I Q t k).length + 1) c6] 52) := Lib.hid (P6.out.set 2 _)
                  have M7 := Lib.hid (M6.out.other (c := w4.heap.size) (o := 2) (by have := LB.out; omega) (.slice a6 ((rpInos K L T P I Q t k).length + 1) c6))
                  have G7 := Lib.hid (G6.out.other (c := w4.heap.size) (o := 2) (by have := LB.out; omega) (.slice a6 ((rpInos K L T P I Q t k).length + 1) c6))
                  have R7 := Lib.hid (R6.out.other (c := w4.heap.size) (o := 2) (by have := LB.out; omega) (.slice a6 ((rpInos K L T P I Q t k).length + 1) c6))
                  have I7 := Lib.hid (I6.out.kept fun g h1 h2 => K7.out.block g (by omega) (by have := P6.out.lt; omega))
                  have B7 := Lib.hid (BB6.out.setCell (p := ⟨w4.heap.size, 2, none⟩) (by show w.heap.size ≤ w4.heap.size; have := LB.out; omega) (.slice a6 ((rpInos K L T P I Q t k).length + 1) c6))
                  go_roundw
                  case rel => exact ⟨k + 1, by omega, by go_num, _, _, GR7, P7, M7, G7, R7, I7, HA2, B7⟩
                  case measure => (simp [intOf]; try omega)
            · obtain rfl : k = I.toNat := by omega
              have HB : Hid (rpB K L T P I Q t = true) := Lib.hid (rpB_yes HHAS.out (by rw [HSBE.out, HTBE.out]; rfl) HA.out)
              obtain ⟨au, cu, rfl⟩ := GR.out.form
              have p0 := HP.out.cell (j := 0) rfl
              have p1 := HP.out.cell (j := 1) rfl
              have p2 := HP.out.cell (j := 2) rfl
              have r0 := HR.out.cell (j := 0) rfl
              have r1 := HR.out.cell (j := 1) rfl
              have r2 := HR.out.cell (j := 2) rfl
              have f0 := HR.out.fr (o := 0)
              have f1 := HR.out.fr (o := 1)
              have f2 := HR.out.fr (o := 2)
              go_wp2
              have RZ := Lib.hid (((HR.out.set 0 (.int .i64 sr)).set 1 (.slice aS st.length cS)).set 2 (.slice au (rpInos K L T P I Q t I.toNat).length cu))
              have q0 := RZ.out.cell (j := 0) rfl
              have q1 := RZ.out.cell (j := 1) rfl
              have q2 := RZ.out.cell (j := 2) rfl
              have K8 : Hid (ButE (w.heap.size + 1 + 1) wr (((wr.setCell ⟨w.heap.size + 1 + 1, 0, none⟩ (.int .i64 sr)).setCell ⟨w.heap.size + 1 + 1, 1, none⟩ (.slice aS st.length cS)).setCell ⟨w.heap.size + 1 + 1, 2, none⟩ (.slice au (rpInos K L T P I Q t I.toNat).length cu))) := Lib.hid ((((ButE.refl _ wr).then_set 0 _).then_set 1 _).then_set 2 _)
              have B8 := Lib.hid (((HBL.out.setCell (p := ⟨w.heap.size + 1 + 1, 0, none⟩) (by show w.heap.size ≤ w.heap.size + 1 + 1; omega) (.int .i64 sr)).setCell (p := ⟨w.heap.size + 1 + 1, 1, none⟩) (by show w.heap.size ≤ w.heap.size + 1 + 1; omega) (.slice aS st.length cS)).setCell (p := ⟨w.heap.size + 1 + 1, 2, none⟩) (by show w.heap.size ≤ w.heap.size + 1 + 1; omega) (.slice au (rpInos K L T P I Q t I.toNat).length cu))
              have lp : w4.heap.size < wr.heap.size := HP.out.lt
              have GR8 := Lib.hid (GR.out.but K8.out (by have := LB.out; omega))
              have I8 := Lib.hid (HI.out.kept fun g h1 h2 => K8.out.block g (by omega) (by omega))
              have L8 : Hid (w4.heap.size < ((((wr.setCell ⟨w.heap.size + 1 + 1, 0, none⟩ (.int .i64 sr)).setCell ⟨w.heap.size + 1 + 1, 1, none⟩ (.slice aS st.length cS)).setCell ⟨w.heap.size + 1 + 1, 2, none⟩ (.slice au (rpInos K L T P I Q t I.toNat).length cu))).heap.size) := Lib.hid (Nat.lt_of_lt_of_le lp K8.out.size)
              have GP := Lib.hid (gives_part (w := w) HB.out (by rw [HSTE.out]; exact I8.out) GR8.out (by omega) (by have := LB.out; omega) L8.out B8.out)
              rw [HSRE.out] at GP
              refine bodyPost_ret (v := .tuple #[.agg #[.int .i64 sr, (.slice aS st.length cS), .slice au (rpInos K L T P I Q t I.toNat).length cu], .bool true]) ?_ rfl GP.out
              simp [results, Tryz.results25, go_sem, q0, q1, q2]
end Go.Proofs.YtkfkjcadmdcbnaaGreatDoor
namespace Go.Proofs.YtkfkjcadmdcbnaaGreatDoor
open Go.RowKit

set_option maxRecDepth 100000 in
set_option maxHeartbeats 400000 in
theorem specIn_any (n a b : Int) (w : World) : Calls Tryz.prog 105 #[.int .i64 n, .int .i64 a, .int .i64 b] w fun e w' => e = .returned (.bool (decide (a ≤ n ∧ n ≤ b))) ∧ w' = w := by
  by_cases h1 : a ≤ n <;> by_cases h2 : n ≤ b
  all_goals
    go_enter Tryz.func105, Tryz.ntmps105
    go_wp2
    all_goals go_ret
    all_goals exact ⟨by simp [h1, h2], rfl⟩
theorem specIn_yes {n a b : Int} (w : World) (h : a ≤ n ∧ n ≤ b) : Calls Tryz.prog 105 #[.int .i64 n, .int .i64 a, .int .i64 b] w fun e w' => e = .returned (.bool true) ∧ w' = w :=
  (specIn_any n a b w).mono fun _ _ ⟨he, hw⟩ => ⟨by rw [he, decide_eq_true h], hw⟩
theorem specIn_no {n a b : Int} (w : World) (h : ¬ (a ≤ n ∧ n ≤ b)) : Calls Tryz.prog 105 #[.int .i64 n, .int .i64 a, .int .i64 b] w fun e w' => e = .returned (.bool false) ∧ w' = w :=
  (specIn_any n a b w).mono fun _ _ ⟨he, hw⟩ => ⟨by rw [he, decide_eq_false h], hw⟩

set_option maxRecDepth 100000 in
set_option maxHeartbeats 1000000 in
theorem specGeo_yes (T P I Q : Int) (w : World) (h : GeoR T P I Q) : Calls Tryz.prog 43 #[.agg #[.int .i64 T, .int .i64 P, .int .i64 I, .int .i64 Q]] w (SaysB true w) := by
  obtain ⟨a1, a2, b1, b2, c1, c2, d1, d2⟩ := h
  have H1 : (1 : Int) ≤ T ∧ T ≤ 3 := ⟨a1, a2⟩
  have H2 : (5 : Int) ≤ P ∧ P ≤ 12 := ⟨b1, b2⟩
  have H3 : (2 : Int) ≤ I ∧ I ≤ 6 := ⟨c1, c2⟩
  have H4 : (1 : Int) ≤ Q ∧ Q ≤ P - 4 := ⟨d1, d2⟩
  go_enter Tryz.func43, Tryz.ntmps43
  go_wp2_with (first | ((with_reducible refine (specIn_yes _ H1).mono ?_); rintro e w1 ⟨rfl, rfl⟩) | ((with_reducible refine (specIn_yes _ H2).mono ?_); rintro e w1 ⟨rfl, rfl⟩) | ((with_reducible refine (specIn_yes _ H3).mono ?_); rintro e w1 ⟨rfl, rfl⟩) | ((with_reducible refine (specIn_yes _ H4).mono ?_); rintro e w1 ⟨rfl, rfl⟩))
  go_ret
  exact ⟨rfl, below_al w _⟩
set_option maxRecDepth 100000 in
set_option maxHeartbeats 1000000 in
theorem specGeo_no (T P I Q : Int) (w : World) (h : ¬ GeoR T P I Q) : Calls Tryz.prog 43 #[.agg #[.int .i64 T, .int .i64 P, .int .i64 I, .int .i64 Q]] w (SaysB false w) := by
  rcases geo_cases h with H1 | ⟨H1, H2⟩ | ⟨H1, H2, H3⟩ | ⟨H1, H2, H3, H4⟩
  · go_enter Tryz.func43, Tryz.ntmps43
    go_wp2_with ((with_reducible refine (specIn_no _ H1).mono ?_); rintro e w1 ⟨rfl, rfl⟩)
    go_ret
    exact ⟨rfl, below_al w _⟩
  · go_enter Tryz.func43, Tryz.ntmps43
    go_wp2_with (first | ((with_reducible refine (specIn_yes _ H1).mono ?_); rintro e w1 ⟨rfl, rfl⟩) | ((with_reducible refine (specIn_no _ H2).mono ?_); rintro e w1 ⟨rfl, rfl⟩))
    go_ret
    exact ⟨rfl, below_al w _⟩
  · go_enter Tryz.func43, Tryz.ntmps43
    go_wp2_with (first | ((with_reducible refine (specIn_yes _ H1).mono ?_); rintro e w1 ⟨rfl, rfl⟩) | ((with_reducible refine (specIn_yes _ H2).mono ?_); rintro e w1 ⟨rfl, rfl⟩) | ((with_reducible refine (specIn_no _ H3).mono ?_); rintro e w1 ⟨rfl, rfl⟩))
    go_ret
    exact ⟨rfl, below_al w _⟩
  · obtain ⟨b1, b2⟩ := H2
    have H2 : (5 : Int) ≤ P ∧ P ≤ 12 := ⟨b1, b2⟩
    go_enter Tryz.func43, Tryz.ntmps43
    go_wp2_with (first | ((with_reducible refine (specIn_yes _ H1).mono ?_); rintro e w1 ⟨rfl, rfl⟩) | ((with_reducible refine (specIn_yes _ H2).mono ?_); rintro e w1 ⟨rfl, rfl⟩) | ((with_reducible refine (specIn_yes _ H3).mono ?_); rintro e w1 ⟨rfl, rfl⟩) | ((with_reducible refine (specIn_no _ H4).mono ?_); rintro e w1 ⟨rfl, rfl⟩))
    go_ret
    exact ⟨rfl, below_al w _⟩
end Go.Proofs.YtkfkjcadmdcbnaaGreatDoor
namespace Go.Proofs.YtkfkjcadmdcbnaaGreatDoor
open Go.RowKit

set_option maxRecDepth 100000 in
set_option maxHeartbeats 1000000 in
theorem specPW_yes (T P I Q : Int) (h : GeoR T P I Q) (w : World) : Calls Tryz.prog 63 #[.agg #[.int .i64 T, .int .i64 P, .int .i64 I, .int .i64 Q]] w (SaysI (wordsOf P I) w) := by
  have T0 := Lib.hid (Four.alloc w T P I Q 25)
  have B0 := Lib.hid (below_al w (.cells #[.int .i64 T, .int .i64 P, .int .i64 I, .int .i64 Q] 25))
  have HG := Lib.hid h
  obtain ⟨g1, g2, g3, g4, g5, g6, g7, g8⟩ := h
  go_enter Tryz.func63, Tryz.ntmps63
  go_wp2_with fail
  refine (specGeo_yes T P I Q _ HG.out).mono ?_
  rintro e w1 ⟨rfl, hb⟩
  have T1 := Lib.hid (T0.out.later hb)
  have B1 : Hid (Below w.heap.size w w1) := Lib.hid (B0.out.trans (hb.mono B0.out.size))
  clear hb
  have c0 := T1.out.c0
  have c1 := T1.out.c1
  have c2 := T1.out.c2
  have c3 := T1.out.c3
  go_wp2
  go_ret
  exact ⟨rfl, B1.out⟩
set_option maxRecDepth 100000 in
set_option maxHeartbeats 1000000 in
theorem specPW_no (T P I Q : Int) (h : ¬ GeoR T P I Q) (w : World) : Calls Tryz.prog 63 #[.agg #[.int .i64 T, .int .i64 P, .int .i64 I, .int .i64 Q]] w (SaysI 0 w) := by
  have T0 := Lib.hid (Four.alloc w T P I Q 25)
  have B0 := Lib.hid (below_al w (.cells #[.int .i64 T, .int .i64 P, .int .i64 I, .int .i64 Q] 25))
  have HG := Lib.hid h
  clear h
  go_enter Tryz.func63, Tryz.ntmps63
  go_wp2_with fail
  refine (specGeo_no T P I Q _ HG.out).mono ?_
  rintro e w1 ⟨rfl, hb⟩
  have T1 := Lib.hid (T0.out.later hb)
  have B1 : Hid (Below w.heap.size w w1) := Lib.hid (B0.out.trans (hb.mono B0.out.size))
  clear hb
  have c0 := T1.out.c0
  have c1 := T1.out.c1
  have c2 := T1.out.c2
  have c3 := T1.out.c3
  go_wp2
  go_ret
  exact ⟨rfl, B1.out⟩
end Go.Proofs.YtkfkjcadmdcbnaaGreatDoor
namespace Go.Proofs.YtkfkjcadmdcbnaaGreatDoor
open Go.RowKit

set_option maxRecDepth 100000 in
set_option maxHeartbeats 1000000 in
theorem specAt_yes (T P I Q : Int) (t a : Int) (h : GeoR T P I Q) (ht : 0 ≤ t ∧ t ≤ T - 1) (ha : 0 ≤ a ∧ a ≤ 1000) (w : World) : Calls Tryz.prog 69 #[.agg #[.int .i64 T, .int .i64 P, .int .i64 I, .int .i64 Q], .int .i64 t, .int .i64 a] w (SaysI (t * wordsOf P I + a) w) := by
  have T0 := Lib.hid (Four.alloc w T P I Q 25)
  have B0 := Lib.hid (below_al w (.cells #[.int .i64 T, .int .i64 P, .int .i64 I, .int .i64 Q] 25))
  obtain ⟨W, hW⟩ : ∃ W, wordsOf P I = W := ⟨_, rfl⟩
  have HG := Lib.hid h
  obtain ⟨g1, g2, g3, g4, g5, g6, g7, g8⟩ := h
  have hw0 : 0 ≤ W ∧ W ≤ 134 := by unfold wordsOf at hW; omega
  have hm := Plc.mul_bd ht.1 (by omega) hw0.1 hw0.2
  obtain ⟨m1, m2⟩ := hm
  obtain ⟨W1, W2⟩ := hw0
  have HW := Lib.hid hW
  have HT := Lib.hid ht
  obtain ⟨t1, t2⟩ := ht
  obtain ⟨a1, a2⟩ := ha
  rw [hW]
  clear hW
  go_enter Tryz.func69, Tryz.ntmps69
  go_wp2_with fail
  refine (specGeo_yes T P I Q _ HG.out).mono ?_
  rintro e w1 ⟨rfl, hb⟩
  have T1 := Lib.hid (T0.out.later hb)
  have B1 : Hid (Below w.heap.size w w1) := Lib.hid (B0.out.trans (hb.mono B0.out.size))
  clear hb
  have c0 := T1.out.c0
  have c1 := T1.out.c1
  have c2 := T1.out.c2
  have c3 := T1.out.c3
  go_wp2_with fail
  refine (specIn_yes _ HT.out).mono ?_
  rintro e w9 ⟨rfl, rfl⟩
  go_wp2_with fail
  refine (specPW_yes T P I Q HG.out _).mono ?_
  rintro e w2 ⟨rfl, hb⟩
  clear c0 c1 c2 c3
  have T2 := Lib.hid (T1.out.later hb)
  have B2 : Hid (Below w.heap.size w w2) := Lib.hid (B1.out.trans (hb.mono B1.out.size))
  clear hb
  have c0 := T2.out.c0
  have c1 := T2.out.c1
  have c2 := T2.out.c2
  have c3 := T2.out.c3
  rw [HW.out]
  go_wp2
  go_ret
  exact ⟨rfl, B2.out⟩
set_option maxRecDepth 100000 in
set_option maxHeartbeats 1000000 in
theorem specAt_nogeo (T P I Q : Int) (t a : Int) (h : ¬ GeoR T P I Q) (w : World) : Calls Tryz.prog 69 #[.agg #[.int .i64 T, .int .i64 P, .int .i64 I, .int .i64 Q], .int .i64 t, .int .i64 a] w (SaysI (-1) w) := by
  have T0 := Lib.hid (Four.alloc w T P I Q 25)
  have B0 := Lib.hid (below_al w (.cells #[.int .i64 T, .int .i64 P, .int .i64 I, .int .i64 Q] 25))
  have HG := Lib.hid h
  clear h
  go_enter Tryz.func69, Tryz.ntmps69
  go_wp2_with fail
  refine (specGeo_no T P I Q _ HG.out).mono ?_
  rintro e w1 ⟨rfl, hb⟩
  have T1 := Lib.hid (T0.out.later hb)
  have B1 : Hid (Below w.heap.size w w1) := Lib.hid (B0.out.trans (hb.mono B0.out.size))
  clear hb
  have c0 := T1.out.c0
  have c1 := T1.out.c1
  have c2 := T1.out.c2
  have c3 := T1.out.c3
  go_wp2
  go_ret
  exact ⟨rfl, B1.out⟩
set_option maxRecDepth 100000 in
set_option maxHeartbeats 1000000 in
theorem specAt_noten (T P I Q : Int) (t a : Int) (h : GeoR T P I Q) (ht : ¬ (0 ≤ t ∧ t ≤ T - 1)) (w : World) : Calls Tryz.prog 69 #[.agg #[.int .i64 T, .int .i64 P, .int .i64 I, .int .i64 Q], .int .i64 t, .int .i64 a] w (SaysI (-1) w) := by
  have T0 := Lib.hid (Four.alloc w T P I Q 25)
  have B0 := Lib.hid (below_al w (.cells #[.int .i64 T, .int .i64 P, .int .i64 I, .int .i64 Q] 25))
  have HG := Lib.hid h
  obtain ⟨g1, g2, g3, g4, g5, g6, g7, g8⟩ := h
  have HT := Lib.hid ht
  clear ht
  go_enter Tryz.func69, Tryz.ntmps69
  go_wp2_with fail
  refine (specGeo_yes T P I Q _ HG.out).mono ?_
  rintro e w1 ⟨rfl, hb⟩
  have T1 := Lib.hid (T0.out.later hb)
  have B1 : Hid (Below w.heap.size w w1) := Lib.hid (B0.out.trans (hb.mono B0.out.size))
  clear hb
  have c0 := T1.out.c0
  have c1 := T1.out.c1
  have c2 := T1.out.c2
  have c3 := T1.out.c3
  go_wp2_with fail
  refine (specIn_no _ HT.out).mono ?_
  rintro e w9 ⟨rfl, rfl⟩
  go_wp2
  go_ret
  exact ⟨rfl, B1.out⟩
theorem specAt_no (T P I Q t a : Int) (h : ¬ (GeoR T P I Q ∧ 0 ≤ t ∧ t ≤ T - 1)) (w : World) : Calls Tryz.prog 69 #[.agg #[.int .i64 T, .int .i64 P, .int .i64 I, .int .i64 Q], .int .i64 t, .int .i64 a] w (SaysI (-1) w) := by
  by_cases hg : GeoR T P I Q
  · exact specAt_noten T P I Q t a hg (fun e => h ⟨hg, e⟩) w
  · exact specAt_nogeo T P I Q t a hg w
end Go.Proofs.YtkfkjcadmdcbnaaGreatDoor
namespace Go.Proofs.YtkfkjcadmdcbnaaGreatDoor
open Go.RowKit

theorem specAt_any (T P I Q t a : Int) (ha : GeoR T P I Q → 0 ≤ a ∧ a ≤ 1000) (w : World) : Calls Tryz.prog 69 #[.agg #[.int .i64 T, .int .i64 P, .int .i64 I, .int .i64 Q], .int .i64 t, .int .i64 a] w (SaysI (placeV T P I Q t a) w) := by
  by_cases h : GeoR T P I Q ∧ 0 ≤ t ∧ t ≤ T - 1
  · rw [placeV_yes h]; exact specAt_yes T P I Q t a h.1 h.2 (ha h.1) w
  · rw [placeV_no h]; exact specAt_no T P I Q t a h w

set_option maxRecDepth 100000 in
set_option maxHeartbeats 1000000 in
theorem specInode_yes (T P I Q : Int) (t i : Int) (h : GeoR T P I Q) (hi : 0 ≤ i ∧ i ≤ I - 1) (w : World) : Calls Tryz.prog 72 #[.agg #[.int .i64 T, .int .i64 P, .int .i64 I, .int .i64 Q], .int .i64 t, .int .i64 i] w (SaysI (inodV T P I Q t i) w) := by
  have T0 := Lib.hid (Four.alloc w T P I Q 25)
  have B0 := Lib.hid (below_al w (.cells #[.int .i64 T, .int .i64 P, .int .i64 I, .int .i64 Q] 25))
  have HJ : Hid (inodV T P I Q t i = placeV T P I Q t (38 + 8 * i)) := Lib.hid (if_pos ⟨h, hi⟩)
  have HR := Lib.hid hi
  obtain ⟨i0, i1⟩ := hi
  have HG := Lib.hid h
  obtain ⟨g1, g2, g3, g4, g5, g6, g7, g8⟩ := h
  go_enter Tryz.func72, Tryz.ntmps72
  go_wp2_with fail
  refine (specGeo_yes T P I Q _ HG.out).mono ?_
  rintro e w1 ⟨rfl, hb⟩
  have T1 := Lib.hid (T0.out.later hb)
  have B1 : Hid (Below w.heap.size w w1) := Lib.hid (B0.out.trans (hb.mono B0.out.size))
  clear hb
  have c0 := T1.out.c0
  have c1 := T1.out.c1
  have c2 := T1.out.c2
  have c3 := T1.out.c3
  go_wp2_with fail
  refine (specIn_yes _ HR.out).mono ?_
  rintro e w9 ⟨rfl, rfl⟩
  go_wp2_with fail
  refine (specAt_any T P I Q t (38 + 8 * i) (fun _ => by omega) _).mono ?_
  rintro e w8 ⟨rfl, hb⟩
  have B8 : Hid (Below w.heap.size w w8) := Lib.hid (B1.out.trans (hb.mono B1.out.size))
  clear hb
  obtain ⟨v, hv⟩ : ∃ v, placeV T P I Q t (38 + 8 * i) = v := ⟨_, rfl⟩
  rw [hv]
  have HV := Lib.hid hv
  clear hv
  go_wp2
  go_ret
  exact ⟨by rw [HJ.out, HV.out]; rfl, B8.out⟩
set_option maxRecDepth 100000 in
set_option maxHeartbeats 1000000 in
theorem specInode_noi (T P I Q : Int) (t i : Int) (h : GeoR T P I Q) (hi : ¬ (0 ≤ i ∧ i ≤ I - 1)) (w : World) : Calls Tryz.prog 72 #[.agg #[.int .i64 T, .int .i64 P, .int .i64 I, .int .i64 Q], .int .i64 t, .int .i64 i] w (SaysI (inodV T P I Q t i) w) := by
  have T0 := Lib.hid (Four.alloc w T P I Q 25)
  have B0 := Lib.hid (below_al w (.cells #[.int .i64 T, .int .i64 P, .int .i64 I, .int .i64 Q] 25))
  have HJ : Hid (inodV T P I Q t i = -1) := Lib.hid (if_neg (fun e => hi e.2))
  have HR := Lib.hid hi
  clear hi
  have HG := Lib.hid h
  obtain ⟨g1, g2, g3, g4, g5, g6, g7, g8⟩ := h
  go_enter Tryz.func72, Tryz.ntmps72
  go_wp2_with fail
  refine (specGeo_yes T P I Q _ HG.out).mono ?_
  rintro e w1 ⟨rfl, hb⟩
  have T1 := Lib.hid (T0.out.later hb)
  have B1 : Hid (Below w.heap.size w w1) := Lib.hid (B0.out.trans (hb.mono B0.out.size))
  clear hb
  have c0 := T1.out.c0
  have c1 := T1.out.c1
  have c2 := T1.out.c2
  have c3 := T1.out.c3
  go_wp2_with fail
  refine (specIn_no _ HR.out).mono ?_
  rintro e w9 ⟨rfl, rfl⟩
  go_wp2
  go_ret
  exact ⟨by rw [HJ.out]; rfl, B1.out⟩
set_option maxRecDepth 100000 in
set_option maxHeartbeats 1000000 in
theorem specInode_nog (T P I Q : Int) (t i : Int) (h : ¬ GeoR T P I Q) (w : World) : Calls Tryz.prog 72 #[.agg #[.int .i64 T, .int .i64 P, .int .i64 I, .int .i64 Q], .int .i64 t, .int .i64 i] w (SaysI (inodV T P I Q t i) w) := by
  have T0 := Lib.hid (Four.alloc w T P I Q 25)
  have B0 := Lib.hid (below_al w (.cells #[.int .i64 T, .int .i64 P, .int .i64 I, .int .i64 Q] 25))
  have HJ : Hid (inodV T P I Q t i = -1) := Lib.hid (if_neg (fun e => h e.1))
  have HG := Lib.hid h
  clear h
  go_enter Tryz.func72, Tryz.ntmps72
  go_wp2_with fail
  refine (specGeo_no T P I Q _ HG.out).mono ?_
  rintro e w1 ⟨rfl, hb⟩
  have T1 := Lib.hid (T0.out.later hb)
  have B1 : Hid (Below w.heap.size w w1) := Lib.hid (B0.out.trans (hb.mono B0.out.size))
  clear hb
  have c0 := T1.out.c0
  have c1 := T1.out.c1
  have c2 := T1.out.c2
  have c3 := T1.out.c3
  go_wp2
  go_ret
  exact ⟨by rw [HJ.out]; rfl, B1.out⟩
theorem specInode_any (T P I Q t i : Int) (w : World) : Calls Tryz.prog 72 #[.agg #[.int .i64 T, .int .i64 P, .int .i64 I, .int .i64 Q], .int .i64 t, .int .i64 i] w (SaysI (inodV T P I Q t i) w) := by
  by_cases hg : GeoR T P I Q
  · by_cases hi : 0 ≤ i ∧ i ≤ I - 1
    · exact specInode_yes T P I Q t i hg hi w
    · exact specInode_noi T P I Q t i hg hi w
  · exact specInode_nog T P I Q t i hg w
end Go.Proofs.YtkfkjcadmdcbnaaGreatDoor
namespace Go.Proofs.YtkfkjcadmdcbnaaGreatDoor
open Go.RowKit

set_option maxRecDepth 100000 in
set_option maxHeartbeats 1000000 in
theorem specCommit_any (T P I Q : Int) (t : Int) (w : World) : Calls Tryz.prog 60 #[.agg #[.int .i64 T, .int .i64 P, .int .i64 I, .int .i64 Q], .int .i64 t] w (SaysI (placeV T P I Q t 0) w) := by
  have T0 := Lib.hid (Four.alloc w T P I Q 25)
  have B0 := Lib.hid (below_al w (.cells #[.int .i64 T, .int .i64 P, .int .i64 I, .int .i64 Q] 25))
  go_enter Tryz.func60, Tryz.ntmps60
  go_wp2_with fail
  refine (specAt_any T P I Q t (0) (fun _ => by omega) _).mono ?_
  rintro e w8 ⟨rfl, hb⟩
  have B8 : Hid (Below w.heap.size w w8) := Lib.hid (B0.out.trans (hb.mono B0.out.size))
  clear hb
  obtain ⟨v, hv⟩ : ∃ v, placeV T P I Q t (0) = v := ⟨_, rfl⟩
  rw [hv]
  have HV := Lib.hid hv
  clear hv
  go_wp2
  go_ret
  exact ⟨by rw [HV.out]; rfl, B8.out⟩
end Go.Proofs.YtkfkjcadmdcbnaaGreatDoor
namespace Go.Proofs.YtkfkjcadmdcbnaaGreatDoor
open Go.RowKit

set_option maxRecDepth 100000 in
set_option maxHeartbeats 1000000 in
theorem specSerial_any (T P I Q : Int) (t : Int) (w : World) : Calls Tryz.prog 65 #[.agg #[.int .i64 T, .int .i64 P, .int .i64 I, .int .i64 Q], .int .i64 t] w (SaysI (placeV T P I Q t 2) w) := by
  have T0 := Lib.hid (Four.alloc w T P I Q 25)
  have B0 := Lib.hid (below_al w (.cells #[.int .i64 T, .int .i64 P, .int .i64 I, .int .i64 Q] 25))
  go_enter Tryz.func65, Tryz.ntmps65
  go_wp2_with fail
  refine (specAt_any T P I Q t (2) (fun _ => by omega) _).mono ?_
  rintro e w8 ⟨rfl, hb⟩
  have B8 : Hid (Below w.heap.size w w8) := Lib.hid (B0.out.trans (hb.mono B0.out.size))
  clear hb
  obtain ⟨v, hv⟩ : ∃ v, placeV T P I Q t (2) = v := ⟨_, rfl⟩
  rw [hv]
  have HV := Lib.hid hv
  clear hv
  go_wp2
  go_ret
  exact ⟨by rw [HV.out]; rfl, B8.out⟩
end Go.Proofs.YtkfkjcadmdcbnaaGreatDoor
namespace Go.Proofs.YtkfkjcadmdcbnaaGreatDoor
open Go.RowKit Go.Proofs.YtkfkjcadmdcbnaaGreatDoor.Parts Go.Proofs.YtkfkjcadmdcbnaaGreatDoor.Hexa Go.Proofs.YtkfkjcadmdcbnaaGreatDoor.Byt

theorem RSt.grown {w wr w' : World} {cs : Array Value} {r : Option Nat} (h : RSt w cs wr) (hg : wr.grownBy w' r) (hr : ∀ g, r = some g → w.heap.size + 2 ≤ g) : RSt w cs w' :=
  ⟨h.res.grown hg (fun e => by have := hr _ e; omega), h.box.grown hg (fun e => by have := hr _ e; omega), h.below.grown hg (by have := h.below.size; omega) (fun g e => by have := hr g e; omega)⟩

theorem gives_rec (sz gn : Int) (x1 : ByteArray) (aR : Option Addr) (nR cR : Nat) (L : List ByteArray) (w : World) {w' : World} {R : List RecR} (hL : ReadOk L) (hI : inoOf L = ⟨1, sz, gn, x1, R, []⟩) (hl : R.length = nR)
    (ho : w'.ownsRow (w.heap.size + 2) 139 3 (.slice aR nR cR) nR (cellsE encRec R)) (hb : Below w.heap.size w w') :
    GivesIno (readInoR L) (readInoB L) w (.returned (.tuple #[.agg #[.int .i64 1, .int .i64 sz, .int .i64 gn, .string x1, .slice aR nR cR, .slice none 0 0], .bool true])) w' := by
  subst hl
  rw [readInoR_yes hL, readInoB_yes hL, hI]
  exact ⟨aR, cR, none, 0, rfl, ownE_mono ho (by omega), ⟨rfl, .inl ⟨rfl, rfl⟩⟩, .inr rfl, hb⟩

section
variable (a : Option Addr) (c : Nat) (L : List ByteArray) (w : World)
set_option maxRecDepth 100000 in
set_option maxHeartbeats 4000000 in
theorem specReadIno_file (hs : SrcT w a 8 L) (h8 : ∀ j, j < 8 → (L.getD j default).size = 8) (hk1 : kindOf L = 1) : Calls Tryz.prog 71 #[.slice a 8 c] w (GivesIno (readInoR L) (readInoB L) w) := by
  have HLn : Hid (L.length = 8) := Lib.hid hs.len
  have HS := Lib.hid hs
  have H8 := Lib.hid h8
  have B0 := Lib.hid (below_bk w (inoObj 0 0 0 ⟨#[]⟩ none 0 0 none 0 0))
  obtain ⟨g, off, ha, hg, _⟩ := srcT_at hs 0 (by omega)
  have HC : Hid (∀ {w' : World}, Below w.heap.size w w' → ∀ j, j < 8 → w'.cell? ⟨g, off + j, none⟩ = some (.string (L.getD j default))) := Lib.hid (fun hb j hj => by
    obtain ⟨g', off', ha', _, d⟩ := srcT_later HS.out hb (Nat.le_refl _) j hj
    rw [ha] at ha'; cases ha'
    exact d)
  obtain ⟨x0, hx0⟩ : ∃ x, L.getD 0 default = x := ⟨_, rfl⟩
  have hx8 : x0.size = 8 := by rw [← hx0]; exact h8 0 (by omega)
  have h0s : 0 < x0.size := by omega
  have hkk : kindOf L = 1 := hk1
  have hkd : ((x0[0]'h0s).toNat : Int) = 1 := by unfold kindOf at hk1; rw [hx0, byte_getD x0 0 h0s] at hk1; exact hk1
  obtain ⟨x1, hx1⟩ : ∃ x, L.getD 1 default = x := ⟨_, rfl⟩
  have HX1 := Lib.hid hx1
  have hx18 : x1.size = 8 := by rw [← hx1]; exact h8 1 (by omega)
  have HX0 := Lib.hid hx0
  have HKK := Lib.hid hkk
  obtain ⟨sz, hsz⟩ : ∃ z : Int, numAtV x0 1 2 = z := ⟨_, rfl⟩
  obtain ⟨gn, hgn⟩ : ∃ z : Int, numAtV x0 3 2 = z := ⟨_, rfl⟩
  obtain ⟨sb, hsb⟩ : ∃ z : Bool, numAtB x0 1 2 = z := ⟨_, rfl⟩
  obtain ⟨gb, hgb⟩ : ∃ z : Bool, numAtB x0 3 2 = z := ⟨_, rfl⟩
  obtain ⟨T, hT⟩ : ∃ T, zeroB 8 = T := ⟨_, rfl⟩
  have hszb : -9223372036854775808 ≤ sz ∧ sz ≤ 9223372036854775807 := by
    have h9 : 0 ≤ numAtV x0 1 2 ∧ numAtV x0 1 2 < 256 ^ 2 := numAtV_lt x0 1 2 (by omega) (by omega)
    rw [← hsz]
    have h10 : ((256 : Int) ^ 2) = 65536 := by decide
    rw [h10] at h9
    exact ⟨by have := h9.1; omega, by have := h9.2; omega⟩
  have HSZ := Lib.hid hsz
  have HGN := Lib.hid hgn
  have HSB := Lib.hid hsb
  have HGB := Lib.hid hgb
  have HT := Lib.hid hT
  have HZB := Lib.hid hszb
  have hgne : ¬ g = w.heap.size + 1 := by omega
  have hgne2 : ¬ w.heap.size + 1 = g := by omega
  subst ha
  clear hs h8 hx0 hkk hk1 hx1 hsz hgn hsb hgb hT hszb
  obtain ⟨i0, hi, hz0, hz1, hz2⟩ := info_parts infoRec
  go_enter Tryz.func71, Tryz.ntmps71
  go_wp2
  go_loop [4] (fun iv => ∃ k : Nat, k ≤ 8 ∧ iv = .int .i64 k) (fun iv => 8 - (intOf iv).toNat)
  case atStart => exact ⟨0, Nat.zero_le _, rfl⟩
  case round =>
    obtain ⟨k, hk, rfl⟩ := hrel
    by_cases hlt : k < 8
    · have d0 := HC.out B0.out k hlt
      obtain ⟨x, hx⟩ : ∃ x, L.getD k default = x := ⟨_, rfl⟩
      have hxs : x.size = 8 := by rw [← hx]; exact H8.out k hlt
      rw [hx] at d0
      have e9 : ((x.size : Int) != 8) = false := by simp; omega
      clear hx
      go_wp2
      go_round
      case rel => exact ⟨k + 1, by omega, by go_num⟩
      case measure => (simp [intOf]; try omega)
    · obtain rfl : k = 8 := by omega
      have d0 := HC.out B0.out 0 (by omega)
      rw [HX0.out, Nat.add_zero] at d0
      go_wp2_with fail
      refine (specNumAt_any x0 1 2 _ (by omega) (by omega) (by omega)).mono ?_
      rw [HSZ.out, HSB.out]
      rintro e w1 ⟨rfl, hb1⟩
      have S1 := Lib.hid ((RSt.start w (inoCs 1 0 0 ⟨#[]⟩ none 0 0 none 0 0)).call hb1)
      have x1 := S1.out.box.cell (j := 1) rfl
      have z1 := S1.out.box.fr (o := 1)
      have S2 := Lib.hid (S1.out.set 1 (.int .i64 sz))
      have d1 := HC.out S1.out.below 0 (by omega)
      rw [HX0.out, Nat.add_zero] at d1
      clear hb1 d0
      go_wp2_with fail
      refine (specNumAt_any x0 3 2 _ (by omega) (by omega) (by omega)).mono ?_
      rw [HGN.out, HGB.out]
      rintro e w2 ⟨rfl, hb2⟩
      have S3 := Lib.hid (S2.out.call hb2)
      have x2 := S3.out.box.cell (j := 2) rfl
      have z2 := S3.out.box.fr (o := 2)
      have S4 := Lib.hid (S3.out.set 2 (.int .i64 gn))
      clear hb2 d1 x1 z1
      go_wp2_with fail
      refine (specZero_any 8 _).mono ?_
      rw [HT.out]
      rintro e w3 ⟨rfl, hb3⟩
      have S5 := Lib.hid (S4.out.call hb3)
      clear hb3 x2 z2
      have y0 := S5.out.box.cell (j := 0) rfl
      have y3 := S5.out.box.cell (j := 3) rfl
      have z3 := S5.out.box.fr (o := 3)
      have d2 := HC.out S5.out.below 1 (by omega)
      rw [HX1.out] at d2
      have S8 := Lib.hid (S5.out.set 3 (.string x1))
      go_wp2
      go_loopw [7] (fun iv wr => ∃ (k : Nat) (aR : Option Addr) (cR : Nat), 2 ≤ k ∧ k ≤ 8 ∧ iv = .int .i64 k ∧ Hid (Filled L k) ∧ Hid (RSt w (inoCs 1 sz gn x1 aR (k - 2) cR none 0 0) wr) ∧ Hid (wr.ownsRow (w.heap.size + 2) 139 3 (.slice aR (k - 2) cR) (k - 2) (cellsE encRec ((midTo L k).map recOf)))) (fun iv _ => 8 - (intOf iv).toNat)
      case atStart => exact ⟨2, none, 0, by omega, by omega, rfl, Lib.hid (fun j h1 h2 => by omega), Lib.hid S8.out, Lib.hid (by rw [midTo_two]; exact ⟨rfl, .inl ⟨rfl, rfl⟩⟩)⟩
      case round =>
        clear y0 y3 z3 d2 S8 S5
        obtain ⟨k, aR, cR, hk2, hk, rfl, HF, SW, HW⟩ := hrel
        have HLm : Hid (((midTo L k).map recOf).length = k - 2) := Lib.hid (by rw [List.length_map, midTo_length (by rw [HLn.out]; exact hk)])
        have HFit : Hid (FitRec ((midTo L k).map recOf) (k - 2) 2000000) := Lib.hid (fun j hj => by
          rw [map_getD _ _ _ (by rw [midTo_length (by rw [HLn.out]; exact hk)]; exact hj)]
          show (ByteArray.extract _ 4 8).size ≤ 2000000
          rw [ByteArray.size_extract]
          omega)
        have y0 := SW.out.box.cell (j := 0) rfl
        have y1 := SW.out.box.cell (j := 1) rfl
        have y2 := SW.out.box.cell (j := 2) rfl
        have y3 := SW.out.box.cell (j := 3) rfl
        have y4 := SW.out.box.cell (j := 4) rfl
        have y5 := SW.out.box.cell (j := 5) rfl
        by_cases hlt : k < 8
        · have d3 := HC.out SW.out.below k hlt
          obtain ⟨x, hx⟩ : ∃ x, L.getD k default = x := ⟨_, rfl⟩
          have hxs : x.size = 8 := by rw [← hx]; exact H8.out k hlt
          rw [hx] at d3
          have HX := Lib.hid hx
          clear hx
          by_cases hxz : x = T
          · subst hxz
            have HST : Hid (stopOf L = k) := Lib.hid (stop_at hk2 (by omega) HF.out (.inr (by rw [HX.out, ← HT.out]; rfl)))
            have HI : Hid (inoOf L = ⟨1, sz, gn, x1, (midTo L k).map recOf, []⟩) := Lib.hid (by unfold inoOf inoTo; rw [HKK.out, HX0.out, HSZ.out, HGN.out, HST.out, HX1.out, if_pos rfl, if_pos rfl, if_neg (by decide)])
            go_wp2_with fail
            refine (specInoWords_any 1 sz gn x1 aR (k - 2) cR none 0 0 _ ((midTo L k).map recOf) [] HZB.out (srcRec_of_own HW.out) HFit.out (SrcE.nil _ _ _) (fun j hj => absurd hj (Nat.not_lt_zero _))).mono ?_
            rintro e w6 ⟨v6, rfl, hown6, hb6⟩
            obtain ⟨a6, c6, rfl, _, _, _⟩ := own_form hown6
            have R6 := Lib.hid (srcT_of_own hown6)
            have S6 := Lib.hid (SW.out.call hb6)
            have HW6 := Lib.hid (own_below HW.out hb6)
            have L6 : Hid ((inoWordsB ⟨1, sz, gn, x1, (midTo L k).map recOf, []⟩).length ≤ 8) := Lib.hid (inoWords_le _)
            clear hown6 hb6 y0 y1 y2 y3 y4 y5 HW
            go_wp2_with fail
            refine (wordsEq_any _ _ _ 8 _ _ _ L _ (by have := L6.out; omega) R6.out (HS.out.below S6.out.below (Nat.le_refl _)) (readInoB L) (by rw [readInoB_iff HLn.out, HI.out])).mono ?_
            rintro e w7 ⟨rfl, q7, rfl⟩
            have S7 := Lib.hid (S6.out.drewN q7)
            have HW7 : Hid ((w6.drewN q7).ownsRow (w.heap.size + 2) 139 3 (.slice aR (k - 2) cR) (k - 2) (cellsE encRec ((midTo L k).map recOf))) := Lib.hid HW6.out
            have y0 := S7.out.box.cell (j := 0) rfl
            have y1 := S7.out.box.cell (j := 1) rfl
            have y2 := S7.out.box.cell (j := 2) rfl
            have y3 := S7.out.box.cell (j := 3) rfl
            have y4 := S7.out.box.cell (j := 4) rfl
            have y5 := S7.out.box.cell (j := 5) rfl
            have r0 := S7.out.res.cell (j := 0) rfl
            have r1 := S7.out.res.cell (j := 1) rfl
            have r2 := S7.out.res.cell (j := 2) rfl
            have r3 := S7.out.res.cell (j := 3) rfl
            have r4 := S7.out.res.cell (j := 4) rfl
            have r5 := S7.out.res.cell (j := 5) rfl
            have f0 := S7.out.res.fr (o := 0)
            have f1 := S7.out.res.fr (o := 1)
            have f2 := S7.out.res.fr (o := 2)
            have f3 := S7.out.res.fr (o := 3)
            have f4 := S7.out.res.fr (o := 4)
            have f5 := S7.out.res.fr (o := 5)
            by_cases hok : ReadOk L
            · have HOK := Lib.hid hok
              have hrb := readInoB_yes hok
              rw [hrb]
              clear hok hrb
              have qf := ((((((S7.out.res.set 0 (.int .i64 1)).set 1 (.int .i64 sz)).set 2 (.int .i64 gn)).set 3 (.string x1)).set 4 (.slice aR (k - 2) cR)).set 5 (.slice none 0 0))
              have q0 := qf.cell (j := 0) (v := .int .i64 1) rfl
              have q1 := qf.cell (j := 1) (v := .int .i64 sz) rfl
              have q2 := qf.cell (j := 2) (v := .int .i64 gn) rfl
              have q3 := qf.cell (j := 3) (v := .string x1) rfl
              have q4 := qf.cell (j := 4) (v := .slice aR (k - 2) cR) rfl
              have q5 := qf.cell (j := 5) (v := .slice none 0 0) rfl
              clear qf
              go_wp2
              refine bodyPost_ret (v := .tuple #[.agg #[.int .i64 1, .int .i64 sz, .int .i64 gn, .string x1, .slice aR (k - 2) cR, .slice none 0 0], .bool true]) ?_ rfl (gives_rec sz gn x1 aR (k - 2) cR L w HOK.out HI.out HLm.out (ownE_but HW7.out (((((((ButE.refl w.heap.size _).then_set _ _).then_set _ _).then_set _ _).then_set _ _).then_set _ _).then_set _ _) (fun g hg => by have := own_block_ge HW7.out g hg; omega)) ((((((S7.out.below.setCell (Nat.le_refl _) _).setCell (Nat.le_refl _) _).setCell (Nat.le_refl _) _).setCell (Nat.le_refl _) _).setCell (Nat.le_refl _) _).setCell (Nat.le_refl _) _))
              simp [results, Tryz.results71, go_sem, q0, q1, q2, q3, q4, q5]
            · have HOK := Lib.hid hok
              have hrb := readInoB_no hok
              rw [hrb]
              clear hok hrb
              have qf := ((((((S7.out.res.set 0 (.int .i64 0)).set 1 (.int .i64 0)).set 2 (.int .i64 0)).set 3 (.string ⟨#[]⟩)).set 4 (.slice none 0 0)).set 5 (.slice none 0 0))
              have q0 := qf.cell (j := 0) (v := .int .i64 0) rfl
              have q1 := qf.cell (j := 1) (v := .int .i64 0) rfl
              have q2 := qf.cell (j := 2) (v := .int .i64 0) rfl
              have q3 := qf.cell (j := 3) (v := .string ⟨#[]⟩) rfl
              have q4 := qf.cell (j := 4) (v := .slice none 0 0) rfl
              have q5 := qf.cell (j := 5) (v := .slice none 0 0) rfl
              clear qf
              go_wp2
              refine bodyPost_ret (v := .tuple #[.agg #[.int .i64 0, .int .i64 0, .int .i64 0, .string ⟨#[]⟩, .slice none 0 0, .slice none 0 0], .bool false]) ?_ rfl (gives_zero L w ((((((S7.out.below.setCell (Nat.le_refl _) _).setCell (Nat.le_refl _) _).setCell (Nat.le_refl _) _).setCell (Nat.le_refl _) _).setCell (Nat.le_refl _) _).setCell (Nat.le_refl _) _) HOK.out rfl)
              simp [results, Tryz.results71, go_sem, q0, q1, q2, q3, q4, q5]
          · have i1 := text_neB hxz
            have i2 : (x.toList != T.toList) = true := by simp only [bne, i1]; rfl
            have i3 := text_ne hxz
            have HF2 : Hid (Filled L (k + 1)) := Lib.hid (filled_step HF.out (by rw [HX.out]; intro e; exact hxz (by rw [e, ← HT.out]; rfl)))
            clear hxz
            go_wp2_with fail
            refine (specReadRec_any x _ (by omega)).mono ?_
            by_cases hR : RecOk (recOf x)
            · rw [show recReadR x = recOf x from if_pos ⟨hxs, hR⟩, show recReadB x = true from decide_eq_true ⟨hxs, hR⟩]
              obtain ⟨⟨p, q, m⟩, hr⟩ : ∃ r, recOf x = r := ⟨_, rfl⟩
              have HR := Lib.hid hr
              rw [hr]
              clear hr hR
              rintro e w1 ⟨rfl, hb1⟩
              have HW1 := Lib.hid (own_below HW.out hb1)
              have S1 := Lib.hid (SW.out.call hb1)
              have Z1 : Hid (w.heap.size + 2 ≤ w1.heap.size) := Lib.hid S1.out.size
              clear hb1 y0 y1 y2 y3 y4 y5 d3
              have y0 := S1.out.box.cell (j := 0) rfl
              have S1a := Lib.hid (S1.out.call (below_bk w1 (.cells #[.int .i64 p, .int .i64 q, .string m] 139)))
              have y4 := S1a.out.box.cell (j := 4) rfl
              have K1 : Hid (k + 1 - 2 = k - 2 + 1) := Lib.hid (by omega)
              have hwn : Hid (cellsE encRec ((midTo L k).map recOf) ++ [.int .i64 p, .int .i64 q, .string m] = cellsE encRec ((midTo L (k + 1)).map recOf)) := Lib.hid (by
                rw [midTo_next hk2 (by rw [HLn.out]; exact hlt), List.map_append, cellsE_append, HX.out]
                show _ = _ ++ cellsE encRec [recOf x]
                rw [HR.out, cellsE_one]; rfl)
              go_wp2_with (first
                | (at_builtin; refine wpList_append_own _ rfl (.tmp 84) (.tmp 86) 99 rfl (w.heap.size + 2) 139 i0 (.agg #[.int .i64 0, .int .i64 0, .string ByteArray.empty]) 3 32 Tryz.underlying99 hi hz0 hz1 hz2 rfl (by decide) _ _ _ rfl ((HW1.out.alloc _).alloc _) ⟨w1.heap.size + 1, 0, none⟩ 1 1 [.int .i64 p, .int .i64 q, .string m] rfl rfl (World.news_of_block (by simpa using heap_alloc_new (w1.alloc (.cells #[.int .i64 p, .int .i64 q, .string m] 139)) (.cells #[.int .i64 p, .int .i64 q, .string m] 139))) (by simp [Value.oneCell']) (by unfold maxLen; omega) (by omega) (by have := Z1.out; simp; omega) ?_; intro v2 w2 hown2 hgrow2 hn2
                   rw [hwn.out] at hown2
                   obtain ⟨aR2, cR2, rfl, _, _, hg2⟩ := ownE_form hown2
                   have S2 := Lib.hid ((S1a.out.call (below_bk _ (.cells #[.int .i64 p, .int .i64 q, .string m] 139))).grown hgrow2 (fun g hg => own_block_ge HW1.out g hg))
                   have x4 := S2.out.box.cell (j := 4) rfl
                   have z4 := S2.out.box.fr (o := 4)
                   have x0' := S2.out.box.cell (j := 0) rfl
                   have S3 := Lib.hid (S2.out.set 4 (.slice aR2 (k - 2 + 1) cR2))
                   have HW3 := Lib.hid (ownE_but hown2 ((ButE.refl (w.heap.size + 1) w2).then_set 4 (.slice aR2 (k - 2 + 1) cR2)) (fun g hg => by have := own_block_ge hown2 g hg; omega))
                   clear hown2 hgrow2 hn2 hg2 y0 y4))
              go_roundw
              case rel => exact ⟨k + 1, aR2, cR2, by omega, by omega, by go_num, HF2, Lib.hid (by rw [K1.out]; exact S3.out), Lib.hid (by rw [K1.out]; exact HW3.out)⟩
              case measure => (simp [intOf]; try omega)
            · have HL : Hid (¬ ReadOk L) := Lib.hid (read_badRec hk2 hlt HLn.out HKK.out HF2.out (by rw [HX.out]; exact hR))
              rw [show recReadR x = ⟨0, 0, ⟨#[]⟩⟩ from if_neg (fun e => hR e.2), show recReadB x = false from decide_eq_false (fun e => hR e.2)]
              clear hR
              rintro e w1 ⟨rfl, hb1⟩
              have S7 := Lib.hid ((SW.out.call hb1).call (below_bk w1 (.cells #[.int .i64 0, .int .i64 0, .string ⟨#[]⟩] 139)))
              clear hb1 y0 y1 y2 y3 y4 y5 d3 HW
              have r0 := S7.out.res.cell (j := 0) rfl
              have r1 := S7.out.res.cell (j := 1) rfl
              have r2 := S7.out.res.cell (j := 2) rfl
              have r3 := S7.out.res.cell (j := 3) rfl
              have r4 := S7.out.res.cell (j := 4) rfl
              have r5 := S7.out.res.cell (j := 5) rfl
              have f0 := S7.out.res.fr (o := 0)
              have f1 := S7.out.res.fr (o := 1)
              have f2 := S7.out.res.fr (o := 2)
              have f3 := S7.out.res.fr (o := 3)
              have f4 := S7.out.res.fr (o := 4)
              have f5 := S7.out.res.fr (o := 5)
              have qf := ((((((S7.out.res.set 0 (.int .i64 0)).set 1 (.int .i64 0)).set 2 (.int .i64 0)).set 3 (.string ⟨#[]⟩)).set 4 (.slice none 0 0)).set 5 (.slice none 0 0))
              have q0 := qf.cell (j := 0) (v := .int .i64 0) rfl
              have q1 := qf.cell (j := 1) (v := .int .i64 0) rfl
              have q2 := qf.cell (j := 2) (v := .int .i64 0) rfl
              have q3 := qf.cell (j := 3) (v := .string ⟨#[]⟩) rfl
              have q4 := qf.cell (j := 4) (v := .slice none 0 0) rfl
              have q5 := qf.cell (j := 5) (v := .slice none 0 0) rfl
              clear qf
              go_wp2
              refine bodyPost_ret (v := .tuple #[.agg #[.int .i64 0, .int .i64 0, .int .i64 0, .string ⟨#[]⟩, .slice none 0 0, .slice none 0 0], .bool false]) ?_ rfl (gives_zero L w ((((((S7.out.below.setCell (Nat.le_refl _) _).setCell (Nat.le_refl _) _).setCell (Nat.le_refl _) _).setCell (Nat.le_refl _) _).setCell (Nat.le_refl _) _).setCell (Nat.le_refl _) _) HL.out rfl)
              simp [results, Tryz.results71, go_sem, q0, q1, q2, q3, q4, q5]
        · obtain rfl : k = 8 := by omega
          have HST : Hid (stopOf L = 8) := Lib.hid (stop_at hk2 (by omega) HF.out (.inl rfl))
          have HI : Hid (inoOf L = ⟨1, sz, gn, x1, (midTo L 8).map recOf, []⟩) := Lib.hid (by unfold inoOf inoTo; rw [HKK.out, HX0.out, HSZ.out, HGN.out, HST.out, HX1.out, if_pos rfl, if_pos rfl, if_neg (by decide)])
          go_wp2_with fail
          refine (specInoWords_any 1 sz gn x1 aR (8 - 2) cR none 0 0 _ ((midTo L 8).map recOf) [] HZB.out (srcRec_of_own HW.out) HFit.out (SrcE.nil _ _ _) (fun j hj => absurd hj (Nat.not_lt_zero _))).mono ?_
          rintro e w6 ⟨v6, rfl, hown6, hb6⟩
          obtain ⟨a6, c6, rfl, _, _, _⟩ := own_form hown6
          have R6 := Lib.hid (srcT_of_own hown6)
          have S6 := Lib.hid (SW.out.call hb6)
          have HW6 := Lib.hid (own_below HW.out hb6)
          have L6 : Hid ((inoWordsB ⟨1, sz, gn, x1, (midTo L 8).map recOf, []⟩).length ≤ 8) := Lib.hid (inoWords_le _)
          clear hown6 hb6 y0 y1 y2 y3 y4 y5 HW
          go_wp2_with fail
          refine (wordsEq_any _ _ _ 8 _ _ _ L _ (by have := L6.out; omega) R6.out (HS.out.below S6.out.below (Nat.le_refl _)) (readInoB L) (by rw [readInoB_iff HLn.out, HI.out])).mono ?_
          rintro e w7 ⟨rfl, q7, rfl⟩
          have S7 := Lib.hid (S6.out.drewN q7)
          have HW7 : Hid ((w6.drewN q7).ownsRow (w.heap.size + 2) 139 3 (.slice aR (8 - 2) cR) (8 - 2) (cellsE encRec ((midTo L 8).map recOf))) := Lib.hid HW6.out
          have y0 := S7.out.box.cell (j := 0) rfl
          have y1 := S7.out.box.cell (j := 1) rfl
          have y2 := S7.out.box.cell (j := 2) rfl
          have y3 := S7.out.box.cell (j := 3) rfl
          have y4 := S7.out.box.cell (j := 4) rfl
          have y5 := S7.out.box.cell (j := 5) rfl
          have r0 := S7.out.res.cell (j := 0) rfl
          have r1 := S7.out.res.cell (j := 1) rfl
          have r2 := S7.out.res.cell (j := 2) rfl
          have r3 := S7.out.res.cell (j := 3) rfl
          have r4 := S7.out.res.cell (j := 4) rfl
          have r5 := S7.out.res.cell (j := 5) rfl
          have f0 := S7.out.res.fr (o := 0)
          have f1 := S7.out.res.fr (o := 1)
          have f2 := S7.out.res.fr (o := 2)
          have f3 := S7.out.res.fr (o := 3)
          have f4 := S7.out.res.fr (o := 4)
          have f5 := S7.out.res.fr (o := 5)
          by_cases hok : ReadOk L
          · have HOK := Lib.hid hok
            have hrb := readInoB_yes hok
            rw [hrb]
            clear hok hrb
            have qf := ((((((S7.out.res.set 0 (.int .i64 1)).set 1 (.int .i64 sz)).set 2 (.int .i64 gn)).set 3 (.string x1)).set 4 (.slice aR (8 - 2) cR)).set 5 (.slice none 0 0))
            have q0 := qf.cell (j := 0) (v := .int .i64 1) rfl
            have q1 := qf.cell (j := 1) (v := .int .i64 sz) rfl
            have q2 := qf.cell (j := 2) (v := .int .i64 gn) rfl
            have q3 := qf.cell (j := 3) (v := .string x1) rfl
            have q4 := qf.cell (j := 4) (v := .slice aR (8 - 2) cR) rfl
            have q5 := qf.cell (j := 5) (v := .slice none 0 0) rfl
            clear qf
            go_wp2
            refine bodyPost_ret (v := .tuple #[.agg #[.int .i64 1, .int .i64 sz, .int .i64 gn, .string x1, .slice aR (8 - 2) cR, .slice none 0 0], .bool true]) ?_ rfl (gives_rec sz gn x1 aR (8 - 2) cR L w HOK.out HI.out HLm.out (ownE_but HW7.out (((((((ButE.refl w.heap.size _).then_set _ _).then_set _ _).then_set _ _).then_set _ _).then_set _ _).then_set _ _) (fun g hg => by have := own_block_ge HW7.out g hg; omega)) ((((((S7.out.below.setCell (Nat.le_refl _) _).setCell (Nat.le_refl _) _).setCell (Nat.le_refl _) _).setCell (Nat.le_refl _) _).setCell (Nat.le_refl _) _).setCell (Nat.le_refl _) _))
            simp [results, Tryz.results71, go_sem, q0, q1, q2, q3, q4, q5]
          · have HOK := Lib.hid hok
            have hrb := readInoB_no hok
            rw [hrb]
            clear hok hrb
            have qf := ((((((S7.out.res.set 0 (.int .i64 0)).set 1 (.int .i64 0)).set 2 (.int .i64 0)).set 3 (.string ⟨#[]⟩)).set 4 (.slice none 0 0)).set 5 (.slice none 0 0))
            have q0 := qf.cell (j := 0) (v := .int .i64 0) rfl
            have q1 := qf.cell (j := 1) (v := .int .i64 0) rfl
            have q2 := qf.cell (j := 2) (v := .int .i64 0) rfl
            have q3 := qf.cell (j := 3) (v := .string ⟨#[]⟩) rfl
            have q4 := qf.cell (j := 4) (v := .slice none 0 0) rfl
            have q5 := qf.cell (j := 5) (v := .slice none 0 0) rfl
            clear qf
            go_wp2
            refine bodyPost_ret (v := .tuple #[.agg #[.int .i64 0, .int .i64 0, .int .i64 0, .string ⟨#[]⟩, .slice none 0 0, .slice none 0 0], .bool false]) ?_ rfl (gives_zero L w ((((((S7.out.below.setCell (Nat.le_refl _) _).setCell (Nat.le_refl _) _).setCell (Nat.le_refl _) _).setCell (Nat.le_refl _) _).setCell (Nat.le_refl _) _).setCell (Nat.le_refl _) _) HOK.out rfl)
            simp [results, Tryz.results71, go_sem, q0, q1, q2, q3, q4, q5]
end
end Go.Proofs.YtkfkjcadmdcbnaaGreatDoor
namespace Go.Proofs.YtkfkjcadmdcbnaaGreatDoor
open Go.RowKit Go.Proofs.YtkfkjcadmdcbnaaGreatDoor.Parts Go.Proofs.YtkfkjcadmdcbnaaGreatDoor.Hexa Go.Proofs.YtkfkjcadmdcbnaaGreatDoor.Byt

theorem entryOf_size (s : ByteArray) (h : s.size ≤ 2000000) : (entryOf s).f1.size ≤ 2000000 := by
  show (ByteArray.extract s 1 _).size ≤ 2000000
  rw [ByteArray.size_extract]
  omega
theorem gives_ent (sz gn : Int) (aR : Option Addr) (nR cR : Nat) (L : List ByteArray) (w : World) {w' : World} {R : List EntryR} (hL : ReadOk L) (hI : inoOf L = ⟨2, sz, gn, ⟨#[]⟩, [], R⟩) (hl : R.length = nR)
    (ho : w'.ownsRow (w.heap.size + 2) 143 2 (.slice aR nR cR) nR (cellsE encEntry R)) (hb : Below w.heap.size w w') :
    GivesIno (readInoR L) (readInoB L) w (.returned (.tuple #[.agg #[.int .i64 2, .int .i64 sz, .int .i64 gn, .string ⟨#[]⟩, .slice none 0 0, .slice aR nR cR], .bool true])) w' := by
  subst hl
  rw [readInoR_yes hL, readInoB_yes hL, hI]
  exact ⟨none, 0, aR, cR, rfl, ⟨rfl, .inl ⟨rfl, rfl⟩⟩, ownE_mono ho (by omega), .inl rfl, hb⟩

section
variable (a : Option Addr) (c : Nat) (L : List ByteArray) (w : World)
set_option maxRecDepth 100000 in
set_option maxHeartbeats 4000000 in
theorem specReadIno_dir (hs : SrcT w a 8 L) (h8 : ∀ j, j < 8 → (L.getD j default).size = 8) (hk1 : kindOf L = 2) : Calls Tryz.prog 71 #[.slice a 8 c] w (GivesIno (readInoR L) (readInoB L) w) := by
  have HLn : Hid (L.length = 8) := Lib.hid hs.len
  have HS := Lib.hid hs
  have H8 := Lib.hid h8
  have B0 := Lib.hid (below_bk w (inoObj 0 0 0 ⟨#[]⟩ none 0 0 none 0 0))
  obtain ⟨g, off, ha, hg, _⟩ := srcT_at hs 0 (by omega)
  have HC : Hid (∀ {w' : World}, Below w.heap.size w w' → ∀ j, j < 8 → w'.cell? ⟨g, off + j, none⟩ = some (.string (L.getD j default))) := Lib.hid (fun hb j hj => by
    obtain ⟨g', off', ha', _, d⟩ := srcT_later HS.out hb (Nat.le_refl _) j hj
    rw [ha] at ha'; cases ha'
    exact d)
  obtain ⟨x0, hx0⟩ : ∃ x, L.getD 0 default = x := ⟨_, rfl⟩
  have hx8 : x0.size = 8 := by rw [← hx0]; exact h8 0 (by omega)
  have h0s : 0 < x0.size := by omega
  have hkk : kindOf L = 2 := hk1
  have hkd : ((x0[0]'h0s).toNat : Int) = 2 := by unfold kindOf at hk1; rw [hx0, byte_getD x0 0 h0s] at hk1; exact hk1
  have HX0 := Lib.hid hx0
  have HKK := Lib.hid hkk
  obtain ⟨sz, hsz⟩ : ∃ z : Int, numAtV x0 1 2 = z := ⟨_, rfl⟩
  obtain ⟨gn, hgn⟩ : ∃ z : Int, numAtV x0 3 2 = z := ⟨_, rfl⟩
  obtain ⟨sb, hsb⟩ : ∃ z : Bool, numAtB x0 1 2 = z := ⟨_, rfl⟩
  obtain ⟨gb, hgb⟩ : ∃ z : Bool, numAtB x0 3 2 = z := ⟨_, rfl⟩
  obtain ⟨T, hT⟩ : ∃ T, zeroB 8 = T := ⟨_, rfl⟩
  have hszb : -9223372036854775808 ≤ sz ∧ sz ≤ 9223372036854775807 := by
    have h9 : 0 ≤ numAtV x0 1 2 ∧ numAtV x0 1 2 < 256 ^ 2 := numAtV_lt x0 1 2 (by omega) (by omega)
    rw [← hsz]
    have h10 : ((256 : Int) ^ 2) = 65536 := by decide
    rw [h10] at h9
    exact ⟨by have := h9.1; omega, by have := h9.2; omega⟩
  have HSZ := Lib.hid hsz
  have HGN := Lib.hid hgn
  have HSB := Lib.hid hsb
  have HGB := Lib.hid hgb
  have HT := Lib.hid hT
  have HZB := Lib.hid hszb
  have hgne : ¬ g = w.heap.size + 1 := by omega
  have hgne2 : ¬ w.heap.size + 1 = g := by omega
  subst ha
  clear hs h8 hx0 hkk hk1 hsz hgn hsb hgb hT hszb
  obtain ⟨i0, hi, hz0, hz1, hz2⟩ := info_parts infoEntry
  go_enter Tryz.func71, Tryz.ntmps71
  go_wp2
  go_loop [4] (fun iv => ∃ k : Nat, k ≤ 8 ∧ iv = .int .i64 k) (fun iv => 8 - (intOf iv).toNat)
  case atStart => exact ⟨0, Nat.zero_le _, rfl⟩
  case round =>
    obtain ⟨k, hk, rfl⟩ := hrel
    by_cases hlt : k < 8
    · have d0 := HC.out B0.out k hlt
      obtain ⟨x, hx⟩ : ∃ x, L.getD k default = x := ⟨_, rfl⟩
      have hxs : x.size = 8 := by rw [← hx]; exact H8.out k hlt
      rw [hx] at d0
      have e9 : ((x.size : Int) != 8) = false := by simp; omega
      clear hx
      go_wp2
      go_round
      case rel => exact ⟨k + 1, by omega, by go_num⟩
      case measure => (simp [intOf]; try omega)
    · obtain rfl : k = 8 := by omega
      have d0 := HC.out B0.out 0 (by omega)
      rw [HX0.out, Nat.add_zero] at d0
      go_wp2_with fail
      refine (specNumAt_any x0 1 2 _ (by omega) (by omega) (by omega)).mono ?_
      rw [HSZ.out, HSB.out]
      rintro e w1 ⟨rfl, hb1⟩
      have S1 := Lib.hid ((RSt.start w (inoCs 2 0 0 ⟨#[]⟩ none 0 0 none 0 0)).call hb1)
      have x1 := S1.out.box.cell (j := 1) rfl
      have z1 := S1.out.box.fr (o := 1)
      have S2 := Lib.hid (S1.out.set 1 (.int .i64 sz))
      have d1 := HC.out S1.out.below 0 (by omega)
      rw [HX0.out, Nat.add_zero] at d1
      clear hb1 d0
      go_wp2_with fail
      refine (specNumAt_any x0 3 2 _ (by omega) (by omega) (by omega)).mono ?_
      rw [HGN.out, HGB.out]
      rintro e w2 ⟨rfl, hb2⟩
      have S3 := Lib.hid (S2.out.call hb2)
      have x2 := S3.out.box.cell (j := 2) rfl
      have z2 := S3.out.box.fr (o := 2)
      have S4 := Lib.hid (S3.out.set 2 (.int .i64 gn))
      clear hb2 d1 x1 z1
      go_wp2_with fail
      refine (specZero_any 8 _).mono ?_
      rw [HT.out]
      rintro e w3 ⟨rfl, hb3⟩
      have S5 := Lib.hid (S4.out.call hb3)
      clear hb3 x2 z2
      have y0 := S5.out.box.cell (j := 0) rfl
      go_wp2
      go_loopw [7] (fun iv wr => ∃ (k : Nat) (aR : Option Addr) (cR : Nat), 2 ≤ k ∧ k ≤ 8 ∧ iv = .int .i64 k ∧ Hid (Filled L k) ∧ Hid (RSt w (inoCs 2 sz gn ⟨#[]⟩ none 0 0 aR (k - 2) cR) wr) ∧ Hid (wr.ownsRow (w.heap.size + 2) 143 2 (.slice aR (k - 2) cR) (k - 2) (cellsE encEntry ((midTo L k).map entryOf)))) (fun iv _ => 8 - (intOf iv).toNat)
      case atStart => exact ⟨2, none, 0, by omega, by omega, rfl, Lib.hid (fun j h1 h2 => by omega), Lib.hid S5.out, Lib.hid (by rw [midTo_two]; exact ⟨rfl, .inl ⟨rfl, rfl⟩⟩)⟩
      case round =>
        clear y0 S5
        obtain ⟨k, aR, cR, hk2, hk, rfl, HF, SW, HW⟩ := hrel
        have HLm : Hid (((midTo L k).map entryOf).length = k - 2) := Lib.hid (by rw [List.length_map, midTo_length (by rw [HLn.out]; exact hk)])
        have HFit : Hid (FitEntry ((midTo L k).map entryOf) (k - 2) 2000000) := Lib.hid (fun j hj => by
          rw [map_getD _ _ _ (by rw [midTo_length (by rw [HLn.out]; exact hk)]; exact hj)]
          exact entryOf_size _ (by rw [midTo_at (by omega), H8.out _ (by omega)]; omega))
        have y0 := SW.out.box.cell (j := 0) rfl
        have y1 := SW.out.box.cell (j := 1) rfl
        have y2 := SW.out.box.cell (j := 2) rfl
        have y3 := SW.out.box.cell (j := 3) rfl
        have y4 := SW.out.box.cell (j := 4) rfl
        have y5 := SW.out.box.cell (j := 5) rfl
        by_cases hlt : k < 8
        · have d3 := HC.out SW.out.below k hlt
          obtain ⟨x, hx⟩ : ∃ x, L.getD k default = x := ⟨_, rfl⟩
          have hxs : x.size = 8 := by rw [← hx]; exact H8.out k hlt
          rw [hx] at d3
          have HX := Lib.hid hx
          clear hx
          by_cases hxz : x = T
          · subst hxz
            have HST : Hid (stopOf L = k) := Lib.hid (stop_at hk2 (by omega) HF.out (.inr (by rw [HX.out, ← HT.out]; rfl)))
            have HI : Hid (inoOf L = ⟨2, sz, gn, ⟨#[]⟩, [], (midTo L k).map entryOf⟩) := Lib.hid (by unfold inoOf inoTo; rw [HKK.out, HX0.out, HSZ.out, HGN.out, HST.out, if_neg (by decide), if_neg (by decide), if_pos rfl])
            go_wp2_with fail
            refine (specInoWords_any 2 sz gn ⟨#[]⟩ none 0 0 aR (k - 2) cR _ [] ((midTo L k).map entryOf) HZB.out (SrcE.nil _ _ _) (fun j hj => absurd hj (Nat.not_lt_zero _)) (srcEntry_of_own HW.out) HFit.out).mono ?_
            rintro e w6 ⟨v6, rfl, hown6, hb6⟩
            obtain ⟨a6, c6, rfl, _, _, _⟩ := own_form hown6
            have R6 := Lib.hid (srcT_of_own hown6)
            have S6 := Lib.hid (SW.out.call hb6)
            have HW6 := Lib.hid (own_below HW.out hb6)
            have L6 : Hid ((inoWordsB ⟨2, sz, gn, ⟨#[]⟩, [], (midTo L k).map entryOf⟩).length ≤ 8) := Lib.hid (inoWords_le _)
            clear hown6 hb6 y0 y1 y2 y3 y4 y5 HW
            go_wp2_with fail
            refine (wordsEq_any _ _ _ 8 _ _ _ L _ (by have := L6.out; omega) R6.out (HS.out.below S6.out.below (Nat.le_refl _)) (readInoB L) (by rw [readInoB_iff HLn.out, HI.out])).mono ?_
            rintro e w7 ⟨rfl, q7, rfl⟩
            have S7 := Lib.hid (S6.out.drewN q7)
            have HW7 : Hid ((w6.drewN q7).ownsRow (w.heap.size + 2) 143 2 (.slice aR (k - 2) cR) (k - 2) (cellsE encEntry ((midTo L k).map entryOf))) := Lib.hid HW6.out
            have y0 := S7.out.box.cell (j := 0) rfl
            have y1 := S7.out.box.cell (j := 1) rfl
            have y2 := S7.out.box.cell (j := 2) rfl
            have y3 := S7.out.box.cell (j := 3) rfl
            have y4 := S7.out.box.cell (j := 4) rfl
            have y5 := S7.out.box.cell (j := 5) rfl
            have r0 := S7.out.res.cell (j := 0) rfl
            have r1 := S7.out.res.cell (j := 1) rfl
            have r2 := S7.out.res.cell (j := 2) rfl
            have r3 := S7.out.res.cell (j := 3) rfl
            have r4 := S7.out.res.cell (j := 4) rfl
            have r5 := S7.out.res.cell (j := 5) rfl
            have f0 := S7.out.res.fr (o := 0)
            have f1 := S7.out.res.fr (o := 1)
            have f2 := S7.out.res.fr (o := 2)
            have f3 := S7.out.res.fr (o := 3)
            have f4 := S7.out.res.fr (o := 4)
            have f5 := S7.out.res.fr (o := 5)
            by_cases hok : ReadOk L
            · have HOK := Lib.hid hok
              have hrb := readInoB_yes hok
              rw [hrb]
              clear hok hrb
              have qf := ((((((S7.out.res.set 0 (.int .i64 2)).set 1 (.int .i64 sz)).set 2 (.int .i64 gn)).set 3 (.string ⟨#[]⟩)).set 4 (.slice none 0 0)).set 5 (.slice aR (k - 2) cR))
              have q0 := qf.cell (j := 0) (v := .int .i64 2) rfl
              have q1 := qf.cell (j := 1) (v := .int .i64 sz) rfl
              have q2 := qf.cell (j := 2) (v := .int .i64 gn) rfl
              have q3 := qf.cell (j := 3) (v := .string ⟨#[]⟩) rfl
              have q4 := qf.cell (j := 4) (v := .slice none 0 0) rfl
              have q5 := qf.cell (j := 5) (v := .slice aR (k - 2) cR) rfl
              clear qf
              go_wp2
              refine bodyPost_ret (v := .tuple #[.agg #[.int .i64 2, .int .i64 sz, .int .i64 gn, .string ⟨#[]⟩, .slice none 0 0, .slice aR (k - 2) cR], .bool true]) ?_ rfl (gives_ent sz gn aR (k - 2) cR L w HOK.out HI.out HLm.out (ownE_but HW7.out (((((((ButE.refl w.heap.size _).then_set _ _).then_set _ _).then_set _ _).then_set _ _).then_set _ _).then_set _ _) (fun g hg => by have := own_block_ge HW7.out g hg; omega)) ((((((S7.out.below.setCell (Nat.le_refl _) _).setCell (Nat.le_refl _) _).setCell (Nat.le_refl _) _).setCell (Nat.le_refl _) _).setCell (Nat.le_refl _) _).setCell (Nat.le_refl _) _))
              simp [results, Tryz.results71, go_sem, q0, q1, q2, q3, q4, q5]
            · have HOK := Lib.hid hok
              have hrb := readInoB_no hok
              rw [hrb]
              clear hok hrb
              have qf := ((((((S7.out.res.set 0 (.int .i64 0)).set 1 (.int .i64 0)).set 2 (.int .i64 0)).set 3 (.string ⟨#[]⟩)).set 4 (.slice none 0 0)).set 5 (.slice none 0 0))
              have q0 := qf.cell (j := 0) (v := .int .i64 0) rfl
              have q1 := qf.cell (j := 1) (v := .int .i64 0) rfl
              have q2 := qf.cell (j := 2) (v := .int .i64 0) rfl
              have q3 := qf.cell (j := 3) (v := .string ⟨#[]⟩) rfl
              have q4 := qf.cell (j := 4) (v := .slice none 0 0) rfl
              have q5 := qf.cell (j := 5) (v := .slice none 0 0) rfl
              clear qf
              go_wp2
              refine bodyPost_ret (v := .tuple #[.agg #[.int .i64 0, .int .i64 0, .int .i64 0, .string ⟨#[]⟩, .slice none 0 0, .slice none 0 0], .bool false]) ?_ rfl (gives_zero L w ((((((S7.out.below.setCell (Nat.le_refl _) _).setCell (Nat.le_refl _) _).setCell (Nat.le_refl _) _).setCell (Nat.le_refl _) _).setCell (Nat.le_refl _) _).setCell (Nat.le_refl _) _) HOK.out rfl)
              simp [results, Tryz.results71, go_sem, q0, q1, q2, q3, q4, q5]
          · have i1 := text_neB hxz
            have i2 : (x.toList != T.toList) = true := by simp only [bne, i1]; rfl
            have i3 := text_ne hxz
            have HF2 : Hid (Filled L (k + 1)) := Lib.hid (filled_step HF.out (by rw [HX.out]; intro e; exact hxz (by rw [e, ← HT.out]; rfl)))
            clear hxz
            go_wp2_with fail
            refine (specReadEntry_any x _ (by omega)).mono ?_
            by_cases hR : EntryOk (entryOf x)
            · rw [show entryReadR x = entryOf x from if_pos ⟨hxs, hR⟩, show entryReadB x = true from decide_eq_true ⟨hxs, hR⟩]
              obtain ⟨⟨p, m⟩, hr⟩ : ∃ r, entryOf x = r := ⟨_, rfl⟩
              have HR := Lib.hid hr
              rw [hr]
              clear hr hR
              rintro e w1 ⟨rfl, hb1⟩
              have HW1 := Lib.hid (own_below HW.out hb1)
              have S1 := Lib.hid (SW.out.call hb1)
              have Z1 : Hid (w.heap.size + 2 ≤ w1.heap.size) := Lib.hid S1.out.size
              clear hb1 y0 y1 y2 y3 y4 y5 d3
              have y0 := S1.out.box.cell (j := 0) rfl
              have S1a := Lib.hid (S1.out.call (below_bk w1 (.cells #[.int .i64 p, .string m] 143)))
              have y4 := S1a.out.box.cell (j := 5) rfl
              have K1 : Hid (k + 1 - 2 = k - 2 + 1) := Lib.hid (by omega)
              have hwn : Hid (cellsE encEntry ((midTo L k).map entryOf) ++ [.int .i64 p, .string m] = cellsE encEntry ((midTo L (k + 1)).map entryOf)) := Lib.hid (by
                rw [midTo_next hk2 (by rw [HLn.out]; exact hlt), List.map_append, cellsE_append, HX.out]
                show _ = _ ++ cellsE encEntry [entryOf x]
                rw [HR.out, cellsE_one]; rfl)
              go_wp2_with (first
                | (at_builtin; refine wpList_append_own _ rfl (.tmp 104) (.tmp 106) 100 rfl (w.heap.size + 2) 143 i0 (.agg #[.int .i64 0, .string ByteArray.empty]) 2 24 Tryz.underlying100 hi hz0 hz1 hz2 rfl (by decide) _ _ _ rfl ((HW1.out.alloc _).alloc _) ⟨w1.heap.size + 1, 0, none⟩ 1 1 [.int .i64 p, .string m] rfl rfl (World.news_of_block (by simpa using heap_alloc_new (w1.alloc (.cells #[.int .i64 p, .string m] 143)) (.cells #[.int .i64 p, .string m] 143))) (by simp [Value.oneCell']) (by unfold maxLen; omega) (by omega) (by have := Z1.out; simp; omega) ?_; intro v2 w2 hown2 hgrow2 hn2
                   rw [hwn.out] at hown2
                   obtain ⟨aR2, cR2, rfl, _, _, hg2⟩ := ownE_form hown2
                   have S2 := Lib.hid ((S1a.out.call (below_bk _ (.cells #[.int .i64 p, .string m] 143))).grown hgrow2 (fun g hg => own_block_ge HW1.out g hg))
                   have x4 := S2.out.box.cell (j := 5) rfl
                   have z4 := S2.out.box.fr (o := 5)
                   have x0' := S2.out.box.cell (j := 0) rfl
                   have S3 := Lib.hid (S2.out.set 5 (.slice aR2 (k - 2 + 1) cR2))
                   have HW3 := Lib.hid (ownE_but hown2 ((ButE.refl (w.heap.size + 1) w2).then_set 5 (.slice aR2 (k - 2 + 1) cR2)) (fun g hg => by have := own_block_ge hown2 g hg; omega))
                   clear hown2 hgrow2 hn2 hg2 y0 y4))
              go_roundw
              case rel => exact ⟨k + 1, aR2, cR2, by omega, by omega, by go_num, HF2, Lib.hid (by rw [K1.out]; exact S3.out), Lib.hid (by rw [K1.out]; exact HW3.out)⟩
              case measure => (simp [intOf]; try omega)
            · have HL : Hid (¬ ReadOk L) := Lib.hid (read_badEnt hk2 hlt HLn.out HKK.out HF2.out (by rw [HX.out]; exact hR))
              rw [show entryReadR x = ⟨0, ⟨#[]⟩⟩ from if_neg (fun e => hR e.2), show entryReadB x = false from decide_eq_false (fun e => hR e.2)]
              clear hR
              rintro e w1 ⟨rfl, hb1⟩
              have S7 := Lib.hid ((SW.out.call hb1).call (below_bk w1 (.cells #[.int .i64 0, .string ⟨#[]⟩] 143)))
              clear hb1 y0 y1 y2 y3 y4 y5 d3 HW
              have r0 := S7.out.res.cell (j := 0) rfl
              have r1 := S7.out.res.cell (j := 1) rfl
              have r2 := S7.out.res.cell (j := 2) rfl
              have r3 := S7.out.res.cell (j := 3) rfl
              have r4 := S7.out.res.cell (j := 4) rfl
              have r5 := S7.out.res.cell (j := 5) rfl
              have f0 := S7.out.res.fr (o := 0)
              have f1 := S7.out.res.fr (o := 1)
              have f2 := S7.out.res.fr (o := 2)
              have f3 := S7.out.res.fr (o := 3)
              have f4 := S7.out.res.fr (o := 4)
              have f5 := S7.out.res.fr (o := 5)
              have qf := ((((((S7.out.res.set 0 (.int .i64 0)).set 1 (.int .i64 0)).set 2 (.int .i64 0)).set 3 (.string ⟨#[]⟩)).set 4 (.slice none 0 0)).set 5 (.slice none 0 0))
              have q0 := qf.cell (j := 0) (v := .int .i64 0) rfl
              have q1 := qf.cell (j := 1) (v := .int .i64 0) rfl
              have q2 := qf.cell (j := 2) (v := .int .i64 0) rfl
              have q3 := qf.cell (j := 3) (v := .string ⟨#[]⟩) rfl
              have q4 := qf.cell (j := 4) (v := .slice none 0 0) rfl
              have q5 := qf.cell (j := 5) (v := .slice none 0 0) rfl
              clear qf
              go_wp2
              refine bodyPost_ret (v := .tuple #[.agg #[.int .i64 0, .int .i64 0, .int .i64 0, .string ⟨#[]⟩, .slice none 0 0, .slice none 0 0], .bool false]) ?_ rfl (gives_zero L w ((((((S7.out.below.setCell (Nat.le_refl _) _).setCell (Nat.le_refl _) _).setCell (Nat.le_refl _) _).setCell (Nat.le_refl _) _).setCell (Nat.le_refl _) _).setCell (Nat.le_refl _) _) HL.out rfl)
              simp [results, Tryz.results71, go_sem, q0, q1, q2, q3, q4, q5]
        · obtain rfl : k = 8 := by omega
          have HST : Hid (stopOf L = 8) := Lib.hid (stop_at hk2 (by omega) HF.out (.inl rfl))
          have HI : Hid (inoOf L = ⟨2, sz, gn, ⟨#[]⟩, [], (midTo L 8).map entryOf⟩) := Lib.hid (by unfold inoOf inoTo; rw [HKK.out, HX0.out, HSZ.out, HGN.out, HST.out, if_neg (by decide), if_neg (by decide), if_pos rfl])
          go_wp2_with fail
          refine (specInoWords_any 2 sz gn ⟨#[]⟩ none 0 0 aR (8 - 2) cR _ [] ((midTo L 8).map entryOf) HZB.out (SrcE.nil _ _ _) (fun j hj => absurd hj (Nat.not_lt_zero _)) (srcEntry_of_own HW.out) HFit.out).mono ?_
          rintro e w6 ⟨v6, rfl, hown6, hb6⟩
          obtain ⟨a6, c6, rfl, _, _, _⟩ := own_form hown6
          have R6 := Lib.hid (srcT_of_own hown6)
          have S6 := Lib.hid (SW.out.call hb6)
          have HW6 := Lib.hid (own_below HW.out hb6)
          have L6 : Hid ((inoWordsB ⟨2, sz, gn, ⟨#[]⟩, [], (midTo L 8).map entryOf⟩).length ≤ 8) := Lib.hid (inoWords_le _)
          clear hown6 hb6 y0 y1 y2 y3 y4 y5 HW
          go_wp2_with fail
          refine (wordsEq_any _ _ _ 8 _ _ _ L _ (by have := L6.out; omega) R6.out (HS.out.below S6.out.below (Nat.le_refl _)) (readInoB L) (by rw [readInoB_iff HLn.out, HI.out])).mono ?_
          rintro e w7 ⟨rfl, q7, rfl⟩
          have S7 := Lib.hid (S6.out.drewN q7)
          have HW7 : Hid ((w6.drewN q7).ownsRow (w.heap.size + 2) 143 2 (.slice aR (8 - 2) cR) (8 - 2) (cellsE encEntry ((midTo L 8).map entryOf))) := Lib.hid HW6.out
          have y0 := S7.out.box.cell (j := 0) rfl
          have y1 := S7.out.box.cell (j := 1) rfl
          have y2 := S7.out.box.cell (j := 2) rfl
          have y3 := S7.out.box.cell (j := 3) rfl
          have y4 := S7.out.box.cell (j := 4) rfl
          have y5 := S7.out.box.cell (j := 5) rfl
          have r0 := S7.out.res.cell (j := 0) rfl
          have r1 := S7.out.res.cell (j := 1) rfl
          have r2 := S7.out.res.cell (j := 2) rfl
          have r3 := S7.out.res.cell (j := 3) rfl
          have r4 := S7.out.res.cell (j := 4) rfl
          have r5 := S7.out.res.cell (j := 5) rfl
          have f0 := S7.out.res.fr (o := 0)
          have f1 := S7.out.res.fr (o := 1)
          have f2 := S7.out.res.fr (o := 2)
          have f3 := S7.out.res.fr (o := 3)
          have f4 := S7.out.res.fr (o := 4)
          have f5 := S7.out.res.fr (o := 5)
          by_cases hok : ReadOk L
          · have HOK := Lib.hid hok
            have hrb := readInoB_yes hok
            rw [hrb]
            clear hok hrb
            have qf := ((((((S7.out.res.set 0 (.int .i64 2)).set 1 (.int .i64 sz)).set 2 (.int .i64 gn)).set 3 (.string ⟨#[]⟩)).set 4 (.slice none 0 0)).set 5 (.slice aR (8 - 2) cR))
            have q0 := qf.cell (j := 0) (v := .int .i64 2) rfl
            have q1 := qf.cell (j := 1) (v := .int .i64 sz) rfl
            have q2 := qf.cell (j := 2) (v := .int .i64 gn) rfl
            have q3 := qf.cell (j := 3) (v := .string ⟨#[]⟩) rfl
            have q4 := qf.cell (j := 4) (v := .slice none 0 0) rfl
            have q5 := qf.cell (j := 5) (v := .slice aR (8 - 2) cR) rfl
            clear qf
            go_wp2
            refine bodyPost_ret (v := .tuple #[.agg #[.int .i64 2, .int .i64 sz, .int .i64 gn, .string ⟨#[]⟩, .slice none 0 0, .slice aR (8 - 2) cR], .bool true]) ?_ rfl (gives_ent sz gn aR (8 - 2) cR L w HOK.out HI.out HLm.out (ownE_but HW7.out (((((((ButE.refl w.heap.size _).then_set _ _).then_set _ _).then_set _ _).then_set _ _).then_set _ _).then_set _ _) (fun g hg => by have := own_block_ge HW7.out g hg; omega)) ((((((S7.out.below.setCell (Nat.le_refl _) _).setCell (Nat.le_refl _) _).setCell (Nat.le_refl _) _).setCell (Nat.le_refl _) _).setCell (Nat.le_refl _) _).setCell (Nat.le_refl _) _))
            simp [results, Tryz.results71, go_sem, q0, q1, q2, q3, q4, q5]
          · have HOK := Lib.hid hok
            have hrb := readInoB_no hok
            rw [hrb]
            clear hok hrb
            have qf := ((((((S7.out.res.set 0 (.int .i64 0)).set 1 (.int .i64 0)).set 2 (.int .i64 0)).set 3 (.string ⟨#[]⟩)).set 4 (.slice none 0 0)).set 5 (.slice none 0 0))
            have q0 := qf.cell (j := 0) (v := .int .i64 0) rfl
            have q1 := qf.cell (j := 1) (v := .int .i64 0) rfl
            have q2 := qf.cell (j := 2) (v := .int .i64 0) rfl
            have q3 := qf.cell (j := 3) (v := .string ⟨#[]⟩) rfl
            have q4 := qf.cell (j := 4) (v := .slice none 0 0) rfl
            have q5 := qf.cell (j := 5) (v := .slice none 0 0) rfl
            clear qf
            go_wp2
            refine bodyPost_ret (v := .tuple #[.agg #[.int .i64 0, .int .i64 0, .int .i64 0, .string ⟨#[]⟩, .slice none 0 0, .slice none 0 0], .bool false]) ?_ rfl (gives_zero L w ((((((S7.out.below.setCell (Nat.le_refl _) _).setCell (Nat.le_refl _) _).setCell (Nat.le_refl _) _).setCell (Nat.le_refl _) _).setCell (Nat.le_refl _) _).setCell (Nat.le_refl _) _) HOK.out rfl)
            simp [results, Tryz.results71, go_sem, q0, q1, q2, q3, q4, q5]
end
end Go.Proofs.YtkfkjcadmdcbnaaGreatDoor
namespace Go.Proofs.YtkfkjcadmdcbnaaGreatDoor
open Go.RowKit Go.Proofs.YtkfkjcadmdcbnaaGreatDoor.Parts Go.Proofs.YtkfkjcadmdcbnaaGreatDoor.Hexa Go.Proofs.YtkfkjcadmdcbnaaGreatDoor.Byt

theorem specReadIno_any (a : Option Addr) (n c : Nat) (L : List ByteArray) (w : World) (hs : SrcT w a n L) (hm : ∀ j, j < n → (L.getD j default).size ≤ 2000000) :
    Calls Tryz.prog 71 #[.slice a n c] w (GivesIno (readInoR L) (readInoB L) w) := by
  by_cases h8 : n = 8
  · by_cases hz : ∀ j, j < 8 → (L.getD j default).size = 8
    · subst h8
      by_cases h1 : kindOf L = 1
      · exact specReadIno_file a c L w hs hz h1
      · by_cases h2 : kindOf L = 2
        · exact specReadIno_dir a c L w hs hz h2
        · exact specReadIno_else a c L w hs hz h1 h2
    · exact specReadIno_size a n c L w hs h8 hm hz
  · exact specReadIno_len a n c L w hs h8
end Go.Proofs.YtkfkjcadmdcbnaaGreatDoor
namespace Go.Proofs.YtkfkjcadmdcbnaaGreatDoor
open Go.RowKit Go.Proofs.YtkfkjcadmdcbnaaGreatDoor.Parts Go.Proofs.YtkfkjcadmdcbnaaGreatDoor.Hexa Go.Proofs.YtkfkjcadmdcbnaaGreatDoor.Byt

set_option maxRecDepth 100000 in
set_option maxHeartbeats 1000000 in
theorem specSer_any (n : Int) (w : World) :
    Calls Tryz.prog 70 #[.int .i64 n] w fun e w' => e = .returned (.string (serB n)) ∧ Below w.heap.size w w' := by
  by_cases h : SerR n
  · have H := Lib.hid h
    rw [serB_yes h]
    obtain ⟨D, hD⟩ : ∃ D, numTextB n 3 = D := ⟨_, rfl⟩
    have HD := Lib.hid hD
    rw [hD]
    obtain ⟨Q, hQ⟩ : ∃ Q, wordB D = Q := ⟨_, rfl⟩
    have HQ := Lib.hid hQ
    rw [hQ]
    clear h hD hQ
    go_enter Tryz.func70, Tryz.ntmps70
    go_wp2_with fail
    refine (range_yes _ H.out).mono ?_
    rintro e w1 ⟨rfl, rfl⟩
    go_wp2_with fail
    refine (specNum_any n 3 _ (by have := H.out.2; omega)).mono ?_
    rw [HD.out]
    rintro e w2 ⟨rfl, hb⟩
    go_wp2_with fail
    refine (specWord_any D _).mono ?_
    rw [HQ.out]
    rintro e w3 ⟨rfl, hb3⟩
    go_wp2
    go_ret
    exact ⟨rfl, hb.trans (hb3.mono hb.size)⟩
  · have H := Lib.hid h
    rw [serB_no h]
    clear h
    go_enter Tryz.func70, Tryz.ntmps70
    go_wp2_with fail
    refine (range_no _ H.out).mono ?_
    rintro e w1 ⟨rfl, rfl⟩
    go_wp2
    go_ret
    exact ⟨rfl, Below.refl _ _⟩
end Go.Proofs.YtkfkjcadmdcbnaaGreatDoor
