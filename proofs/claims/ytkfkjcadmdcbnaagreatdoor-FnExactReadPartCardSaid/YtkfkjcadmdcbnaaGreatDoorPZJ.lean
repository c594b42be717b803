/- Merged texts: RpSpec, MarkAt, TIntMS, TRecMS, TEntryMS, TInoMS, TPartM, RpMarks, RpSize, TCellE, TMemE, RpCut, TCellMS, TMemM, RpMem, TCellZ, TCellZS, TMemZ, TCellC. -/
import Derived.Test.YtkfkjcadmdcbnaaGreatDoorPZI
import Derived.Lib.SlicesS
namespace Go.Proofs.YtkfkjcadmdcbnaaGreatDoor
open Go.RowKit Go.Proofs.YtkfkjcadmdcbnaaGreatDoor.Parts Go.Proofs.YtkfkjcadmdcbnaaGreatDoor.Hexa Go.Proofs.YtkfkjcadmdcbnaaGreatDoor.Byt

theorem mem_lines {K : ByteArray} {L : List C3} {T P I Q : Int} (hm : MemOk K L) (hg : GeoR T P I Q) : (((K.size / 8 : Nat) : Int) < T * wordsOf P I) ↔ ¬ (linesV T P I Q * 16 ≤ (K.size : Int)) := by
  have h1 := (linesV_yes hg).1
  have h2 := hm.1
  omega
theorem specRdWords2 (K : ByteArray) (a : Option Addr) (n c : Nat) (L : List C3) (a0 : Int) (w : World) (hs : SrcC w a n L) (hn : n ≤ 1048600) (hK : K.size ≤ 1048600) (ha : -1 ≤ a0 ∧ a0 ≤ 100000) :
    Calls Tryz.prog 68 #[.agg #[.string K, .slice a n c], .int .i64 a0, .int .i64 2] w (GivesT (rdWords K L a0 2) w) := specRdWords_any K a n c L a0 2 w hs hn hK ha (by decide)
theorem specRdWords8 (K : ByteArray) (a : Option Addr) (n c : Nat) (L : List C3) (a0 : Int) (w : World) (hs : SrcC w a n L) (hn : n ≤ 1048600) (hK : K.size ≤ 1048600) (ha : -1 ≤ a0 ∧ a0 ≤ 100000) :
    Calls Tryz.prog 68 #[.agg #[.string K, .slice a n c], .int .i64 a0, .int .i64 8] w (GivesT (rdWords K L a0 8) w) := specRdWords_any K a n c L a0 8 w hs hn hK ha (by decide)

set_option maxRecDepth 100000 in
set_option maxHeartbeats 8000000 in
theorem specRp_any (K : ByteArray) (a : Option Addr) (n c : Nat) (L : List C3) (T P I Q t : Int) (w : World) (hs : SrcC w a n L) (hn : n ≤ 1048600) (hK : K.size ≤ 1048600) :
    Calls Tryz.prog 22 #[.agg #[.string K, .slice a n c], .agg #[.int .i64 T, .int .i64 P, .int .i64 I, .int .i64 Q], .int .i64 t] w (GivesPart (rpR K L T P I Q t) (rpB K L T P I Q t) w) := by
  have hb1 := below_bk w (.cells #[.string K, .slice a n c] 57)
  have hb2 := below_bk (w.alloc (.cells #[.string K, .slice a n c] 57)) (.cells #[.int .i64 T, .int .i64 P, .int .i64 I, .int .i64 Q] 25)
  have hb3 := below_bk ((w.alloc (.cells #[.string K, .slice a n c] 57)).alloc (.cells #[.int .i64 T, .int .i64 P, .int .i64 I, .int .i64 Q] 25)) (.cells #[.int .i64 0, .slice none 0 0, .slice none 0 0] 52)
  have hb0 := hb1.trans ((hb2.trans (hb3.mono hb2.size)).mono hb1.size)
  have MB := Lib.hid ((Bk.alloc w #[.string K, .slice a n c] 57).later (hb2.trans (hb3.mono hb2.size)))
  have GB : Hid (Bk (((w.alloc (.cells #[.string K, .slice a n c] 57)).alloc (.cells #[.int .i64 T, .int .i64 P, .int .i64 I, .int .i64 Q] 25)).alloc (.cells #[.int .i64 0, .slice none 0 0, .slice none 0 0] 52)) (w.heap.size + 1) #[.int .i64 T, .int .i64 P, .int .i64 I, .int .i64 Q] 25) := Lib.hid (by
    have h := (Bk.alloc (w.alloc (.cells #[.string K, .slice a n c] 57)) #[.int .i64 T, .int .i64 P, .int .i64 I, .int .i64 Q] 25).later hb3
    simpa using h)
  have RB : Hid (Bk (((w.alloc (.cells #[.string K, .slice a n c] 57)).alloc (.cells #[.int .i64 T, .int .i64 P, .int .i64 I, .int .i64 Q] 25)).alloc (.cells #[.int .i64 0, .slice none 0 0, .slice none 0 0] 52)) (w.heap.size + 1 + 1) #[.int .i64 0, .slice none 0 0, .slice none 0 0] 52) := Lib.hid (by
    have h := Bk.alloc ((w.alloc (.cells #[.string K, .slice a n c] 57)).alloc (.cells #[.int .i64 T, .int .i64 P, .int .i64 I, .int .i64 Q] 25)) #[.int .i64 0, .slice none 0 0, .slice none 0 0] 52
    simpa using h)
  obtain ⟨W0, hW0⟩ : ∃ y, y = ((w.alloc (.cells #[.string K, .slice a n c] 57)).alloc (.cells #[.int .i64 T, .int .i64 P, .int .i64 I, .int .i64 Q] 25)).alloc (.cells #[.int .i64 0, .slice none 0 0, .slice none 0 0] 52) := ⟨_, rfl⟩
  rw [← hW0] at MB GB RB
  have BN : Hid (Below w.heap.size w W0) := Lib.hid (by rw [hW0]; exact hb0)
  have HS : Hid (SrcC W0 a n L) := Lib.hid (hs.below BN.out (Nat.le_refl _))
  have HW0 := Lib.hid hW0
  have HS0 := Lib.hid hs
  clear hs hb1 hb2 hb3 hb0 hW0
  have m0 := MB.out.cell (j := 0) rfl
  have m1 := MB.out.cell (j := 1) rfl
  have g0 := GB.out.cell (j := 0) rfl
  have g1 := GB.out.cell (j := 1) rfl
  have g2 := GB.out.cell (j := 2) rfl
  have g3 := GB.out.cell (j := 3) rfl
  have y0 := GrownW.cell m0 MB.out.lt
  have y1 := GrownW.cell m1 MB.out.lt
  have y2 := GrownW.cell g0 GB.out.lt
  have y3 := GrownW.cell g1 GB.out.lt
  have y4 := GrownW.cell g2 GB.out.lt
  have y5 := GrownW.cell g3 GB.out.lt
  clear m0 m1 g0 g1 g2 g3
  obtain ⟨z0, hz0⟩ : ∃ z, placeV T P I Q t 0 = z := ⟨_, rfl⟩
  obtain ⟨bm, hbm⟩ : ∃ z, memOkB K L = z := ⟨_, rfl⟩
  have Q0 : Hid (∀ g : GrownW W0, Calls Tryz.prog 60 #[.agg #[.int .i64 T, .int .i64 P, .int .i64 I, .int .i64 Q], .int .i64 t] g.wd fun e w' => e = .returned (.int .i64 z0) ∧ Below g.wd.heap.size g.wd w') := Lib.hid (fun g => by
    have h := specCommit_any T P I Q t g.wd
    rw [hz0] at h
    exact h)
  have Q1 : Hid (∀ g : GrownW W0, Calls Tryz.prog 61 #[.agg #[.string K, .slice a n c]] g.wd fun e w' => e = .returned (.bool bm) ∧ Below g.wd.heap.size g.wd w') := Lib.hid (fun g => by
    have h := specOk_any K a n c L g.wd (HS.out.below g.grown (Nat.le_refl _)) hn hK
    rw [hbm] at h
    exact h)
  have Q2 : Hid (∀ g : GrownW W0, Calls Tryz.prog 62 #[.agg #[.string K, .slice a n c]] g.wd fun e w' => e = .returned (.int .i64 ((K.size / 8 : Nat) : Int)) ∧ Below g.wd.heap.size g.wd w') := Lib.hid (fun g => words_any K (.slice a n c) g.wd hK)
  obtain ⟨hv, hhv⟩ : ∃ z, rpHas K L T P I Q t = z := ⟨_, rfl⟩
  have HHAS := Lib.hid hhv
  go_enter Tryz.func22, Tryz.ntmps22
  go_upto_region 1 with fail
  rw [← HW0.out]
  go_cut [35] (fun v wx => v = .bool (!hv) ∧ Below W0.heap.size W0 wx)
  case first =>
    by_cases hten : GeoR T P I Q ∧ 0 ≤ t ∧ t ≤ T - 1
    case neg =>
      obtain rfl : hv = false := by rw [← hhv]; unfold rpHas; rw [decide_eq_false hten]; rfl
      obtain rfl : z0 = -1 := by rw [← hz0]; exact placeV_no hten
      clear hten hz0 hbm hhv
      refine wp_region_grown (by kernel_rfl) (by kernel_rfl) ?_
      repeat (go_big_quiet_step (first | (go_at_call 60; exact Calls.grown_of (Q0.out _)) | (go_at_call 61; exact Calls.grown_of (Q1.out _)) | (go_at_call 62; exact Calls.grown_of (Q2.out _)) | (go_at_call 63; exact Calls.grown_of (Q3.out _))))
      refine wpQuiet_nil ?_
      rintro _ ⟨gq, rfl⟩
      go_wp2
      go_meet
      exact ⟨by first | rfl | (rw [show ((K.size : Int) / 8) = ((K.size / 8 : Nat) : Int) by omega, hd]; rfl), gq.grown⟩
    case pos =>
      have hz : decide (z0 < 0) = false := decide_eq_false (by rw [← hz0, placeV_yes hten]; have h1 : 0 ≤ t * wordsOf P I := Int.mul_nonneg hten.2.1 (by obtain ⟨_, _, _, _, _, _, _, _⟩ := hten.1; unfold wordsOf; omega); omega)
      obtain ⟨pw, hpw⟩ : ∃ z, wordsOf P I = z := ⟨_, rfl⟩
      have Q3 : Hid (∀ g : GrownW W0, Calls Tryz.prog 63 #[.agg #[.int .i64 T, .int .i64 P, .int .i64 I, .int .i64 Q]] g.wd fun e w' => e = .returned (.int .i64 pw) ∧ Below g.wd.heap.size g.wd w') := Lib.hid (fun g => by
        have h := specPW_yes T P I Q hten.1 g.wd
        rw [hpw] at h
        exact h)
      have hwr : IntKind.i64.wrap (T * pw) = T * pw := by
        have h1 := linesV_yes hten.1
        rw [hpw] at h1
        exact IntWalk.i64_in _ (by omega)
      cases bm with
      | false =>
        obtain rfl : hv = false := by rw [← hhv]; unfold rpHas; rw [hbm, Bool.false_and, Bool.and_false]
        clear hten hz0 hbm hhv hpw
        refine wp_region_grown (by kernel_rfl) (by kernel_rfl) ?_
        repeat (go_big_quiet_step (first | (go_at_call 60; exact Calls.grown_of (Q0.out _)) | (go_at_call 61; exact Calls.grown_of (Q1.out _)) | (go_at_call 62; exact Calls.grown_of (Q2.out _)) | (go_at_call 63; exact Calls.grown_of (Q3.out _))))
        refine wpQuiet_nil ?_
        rintro _ ⟨gq, rfl⟩
        go_wp2
        go_meet
        exact ⟨by first | rfl | (rw [show ((K.size : Int) / 8) = ((K.size / 8 : Nat) : Int) by omega, hd]; rfl), gq.grown⟩
      | true =>
        have hmo : MemOk K L := memOkB_iff.1 hbm
        have hli := mem_lines hmo hten.1
        rw [hpw] at hli
        by_cases hsz : ((K.size / 8 : Nat) : Int) < T * pw
        · obtain rfl : hv = false := by rw [← hhv]; unfold rpHas; rw [decide_eq_false (hli.1 hsz), Bool.and_false, Bool.and_false]
          have hd : decide (((K.size / 8 : Nat) : Int) < T * pw) = true := decide_eq_true hsz
          clear hten hz0 hbm hhv hpw hmo hli hsz
          refine wp_region_grown (by kernel_rfl) (by kernel_rfl) ?_
          repeat (go_big_quiet_step (first | (go_at_call 60; exact Calls.grown_of (Q0.out _)) | (go_at_call 61; exact Calls.grown_of (Q1.out _)) | (go_at_call 62; exact Calls.grown_of (Q2.out _)) | (go_at_call 63; exact Calls.grown_of (Q3.out _))))
          refine wpQuiet_nil ?_
          rintro _ ⟨gq, rfl⟩
          go_wp2
          go_meet
          exact ⟨by first | rfl | (rw [show ((K.size : Int) / 8) = ((K.size / 8 : Nat) : Int) by omega, hd]; rfl), gq.grown⟩
        · obtain rfl : hv = true := by
            rw [← hhv]; unfold rpHas; rw [decide_eq_true hten, hbm, decide_eq_true (Classical.not_not.1 fun h => hsz (hli.2 h))]; rfl
          have hd : decide (((K.size / 8 : Nat) : Int) < T * pw) = false := decide_eq_false hsz
          clear hten hz0 hbm hhv hpw hmo hli hsz
          refine wp_region_grown (by kernel_rfl) (by kernel_rfl) ?_
          repeat (go_big_quiet_step (first | (go_at_call 60; exact Calls.grown_of (Q0.out _)) | (go_at_call 61; exact Calls.grown_of (Q1.out _)) | (go_at_call 62; exact Calls.grown_of (Q2.out _)) | (go_at_call 63; exact Calls.grown_of (Q3.out _))))
          refine wpQuiet_nil ?_
          rintro _ ⟨gq, rfl⟩
          go_wp2
          go_meet
          exact ⟨by first | rfl | (rw [show ((K.size : Int) / 8) = ((K.size / 8 : Nat) : Int) by omega, hd]; rfl), gq.grown⟩
  case rest =>
    obtain ⟨rfl, hb⟩ := hcut
    obtain ⟨w1, hw1⟩ : ∃ y, y = wc := ⟨_, rfl⟩
    rw [← hw1] at hb ⊢
    clear hw1
    have M1 := Lib.hid (MB.out.later hb)
    have G1 := Lib.hid (GB.out.later hb)
    have R1 := Lib.hid (RB.out.later hb)
    have B1 : Hid (Below w.heap.size w w1) := Lib.hid (BN.out.trans (hb.mono BN.out.size))
    clear hb y0 y1 y2 y3 y4 y5 Q0 Q1 Q2 MB GB RB HS BN HW0 hz0 hbm hhv
    cases hv with
    | false =>
      have HB : Hid (rpB K L T P I Q t = false) := Lib.hid (rpB_has HHAS.out)
      have RR := R1
      have BB := B1
      have r0 := RR.out.cell (j := 0) rfl
      have r1 := RR.out.cell (j := 1) rfl
      have r2 := RR.out.cell (j := 2) rfl
      have f0 := RR.out.fr (o := 0)
      have f1 := RR.out.fr (o := 1)
      have f2 := RR.out.fr (o := 2)
      go_wp2
      have RZ := Lib.hid (((RR.out.set 0 (.int .i64 0)).set 1 (.slice none 0 0)).set 2 (.slice none 0 0))
      have q0 := RZ.out.cell (j := 0) rfl
      have q1 := RZ.out.cell (j := 1) rfl
      have q2 := RZ.out.cell (j := 2) rfl
      have BZ := Lib.hid (((BB.out.setCell (p := ⟨w.heap.size + 1 + 1, 0, none⟩) (by show w.heap.size ≤ w.heap.size + 1 + 1; omega) (.int .i64 0)).setCell (p := ⟨w.heap.size + 1 + 1, 1, none⟩) (by show w.heap.size ≤ w.heap.size + 1 + 1; omega) (.slice none 0 0)).setCell (p := ⟨w.heap.size + 1 + 1, 2, none⟩) (by show w.heap.size ≤ w.heap.size + 1 + 1; omega) (.slice none 0 0))
      refine bodyPost_ret (v := .tuple #[.agg #[.int .i64 0, .slice none 0 0, .slice none 0 0], .bool false]) ?_ rfl (gives_nopart HB.out BZ.out)
      simp [results, Tryz.results22, go_sem, q0, q1, q2]
    | true =>
      have HGEO := Lib.hid (rpHas_geo HHAS.out)
      have hba := below_bk w1 (.cells #[.int .i64 0, .slice none 0 0, .slice none 0 0] 52)
      have P2 : Hid (Bk (w1.alloc (.cells #[.int .i64 0, .slice none 0 0, .slice none 0 0] 52)) w1.heap.size #[.int .i64 0, .slice none 0 0, .slice none 0 0] 52) := Lib.hid (Bk.alloc _ _ _)
      have M2 := Lib.hid (M1.out.later hba)
      have G2 := Lib.hid (G1.out.later hba)
      have R2 := Lib.hid (R1.out.later hba)
      have B2 : Hid (Below w.heap.size w (w1.alloc (.cells #[.int .i64 0, .slice none 0 0, .slice none 0 0] 52))) := Lib.hid (B1.out.trans (hba.mono B1.out.size))
      have LB : Hid (w.heap.size + 1 + 1 < w1.heap.size) := Lib.hid R1.out.lt
      obtain ⟨W2, hW2⟩ : ∃ y, y = w1.alloc (.cells #[.int .i64 0, .slice none 0 0, .slice none 0 0] 52) := ⟨_, rfl⟩
      obtain ⟨bp, hbp⟩ : ∃ y, y = w1.heap.size := ⟨_, rfl⟩
      go_upto_region 4 with fail
      rw [← hW2] at M2 G2 R2 B2 P2 ⊢
      rw [← hbp] at P2 LB ⊢
      clear M1 G1 R1 B1 hba hW2 hbp
      obtain ⟨z2, hz2⟩ : ∃ z, placeV T P I Q t 2 = z := ⟨_, rfl⟩
      obtain ⟨wd, hwd⟩ : ∃ x, rpWord K L T P I Q t = x := ⟨_, rfl⟩
      have HZ2 := Lib.hid hz2
      have HWD : Hid (wordAtB K L z2 = wd) := Lib.hid (by rw [← hz2, ← hwd]; rfl)
      have hwds : wd.size ≤ 8 := by rw [← hwd]; exact wordAtB_size _
      obtain ⟨sr, hsr⟩ : ∃ z, rpSer K L T P I Q t = z := ⟨_, rfl⟩
      obtain ⟨sb, hsb⟩ : ∃ z, rpSerB K L T P I Q t = z := ⟨_, rfl⟩
      have HSR : Hid (numAtV wd 0 3 = sr) := Lib.hid (by rw [← hsr, ← hwd]; rfl)
      have HSB : Hid (decide (serB sr = wd) = sb) := Lib.hid (by rw [← hsb, ← hsr, ← hwd]; rfl)
      clear hz2 hwd
      have m0 := M2.out.cell (j := 0) rfl
      have m1 := M2.out.cell (j := 1) rfl
      have g0 := G2.out.cell (j := 0) rfl
      have g1 := G2.out.cell (j := 1) rfl
      have g2 := G2.out.cell (j := 2) rfl
      have g3 := G2.out.cell (j := 3) rfl
      have y0 := GrownW.cell m0 M2.out.lt
      have y1 := GrownW.cell m1 M2.out.lt
      have y2 := GrownW.cell g0 G2.out.lt
      have y3 := GrownW.cell g1 G2.out.lt
      have y4 := GrownW.cell g2 G2.out.lt
      have y5 := GrownW.cell g3 G2.out.lt
      clear m0 m1 g0 g1 g2 g3
      have Q0 : Hid (∀ g : GrownW W2, Calls Tryz.prog 65 #[.agg #[.int .i64 T, .int .i64 P, .int .i64 I, .int .i64 Q], .int .i64 t] g.wd fun e w' => e = .returned (.int .i64 z2) ∧ Below g.wd.heap.size g.wd w') := Lib.hid (fun g => by
        have h := specSerial_any T P I Q t g.wd
        rw [HZ2.out] at h
        exact h)
      have Q1 : Hid (∀ g : GrownW W2, Calls Tryz.prog 64 #[.agg #[.string K, .slice a n c], .int .i64 z2] g.wd fun e w' => e = .returned (.string wd) ∧ Below g.wd.heap.size g.wd w') := Lib.hid (fun g => by
        have h := specWordAt_any K a n c L z2 g.wd (HS0.out.below (B2.out.trans (g.grown.mono B2.out.size)) (Nat.le_refl _)) hn hK
        rw [HWD.out] at h
        exact h)
      refine wp_region_grown (by kernel_rfl) (by kernel_rfl) ?_
      repeat (go_big_quiet_step (first | (go_at_call 65; exact Calls.grown_of (Q0.out _)) | (go_at_call 64; exact Calls.grown_of (Q1.out _))))
      refine wpQuiet_nil ?_
      rintro _ ⟨gq, rfl⟩
      obtain ⟨w3, hw3⟩ : ∃ y, y = gq.wd := ⟨_, rfl⟩
      have M3 : Hid (Bk w3 w.heap.size #[.string K, .slice a n c] 57) := Lib.hid (by rw [hw3]; exact M2.out.later gq.grown)
      have G3 : Hid (Bk w3 (w.heap.size + 1) #[.int .i64 T, .int .i64 P, .int .i64 I, .int .i64 Q] 25) := Lib.hid (by rw [hw3]; exact G2.out.later gq.grown)
      have R3 : Hid (Bk w3 (w.heap.size + 1 + 1) #[.int .i64 0, .slice none 0 0, .slice none 0 0] 52) := Lib.hid (by rw [hw3]; exact R2.out.later gq.grown)
      have P3 : Hid (Bk w3 bp #[.int .i64 0, .slice none 0 0, .slice none 0 0] 52) := Lib.hid (by rw [hw3]; exact P2.out.later gq.grown)
      have B3 : Hid (Below w.heap.size w w3) := Lib.hid (by rw [hw3]; exact B2.out.trans (gq.grown.mono B2.out.size))
      rw [← hw3]
      clear hw3 gq y0 y1 y2 y3 y4 y5 Q0 Q1 M2 G2 R2 P2 B2
      obtain ⟨nb, hnb⟩ : ∃ z, numAtB wd 0 3 = z := ⟨_, rfl⟩
      have HNB := Lib.hid hnb
      clear hnb
      go_wp2_with fail
      refine (specNumAt_any wd 0 3 _ (by omega) (by decide) (by decide)).mono ?_
      rw [HSR.out, HNB.out]
      rintro e w4 ⟨rfl, hb⟩
      have M4 := Lib.hid (M3.out.later hb)
      have G4 := Lib.hid (G3.out.later hb)
      have R4 := Lib.hid (R3.out.later hb)
      have P4 := Lib.hid (P3.out.later hb)
      have B4 : Hid (Below w.heap.size w w4) := Lib.hid (B3.out.trans (hb.mono B3.out.size))
      clear hb M3 G3 R3 P3 B3
      have p0 := P4.out.cell (j := 0) rfl
      have f0 := P4.out.fr (o := 0)
      go_upto_region 7 with fail
      obtain ⟨w5, hw5⟩ : ∃ y, y = w4.setCell ⟨bp, 0, none⟩ (.int .i64 sr) := ⟨_, rfl⟩
      have P5 : Hid (Bk w5 bp #[.int .i64 sr, .slice none 0 0, .slice none 0 0] 52) := Lib.hid (by rw [hw5]; exact P4.out.set 0 _)
      have M5 := Lib.hid (M4.out.other (c := bp) (o := 0) (by have := LB.out; omega) (.int .i64 sr))
      have G5 := Lib.hid (G4.out.other (c := bp) (o := 0) (by have := LB.out; omega) (.int .i64 sr))
      have R5 := Lib.hid (R4.out.other (c := bp) (o := 0) (by have := LB.out; omega) (.int .i64 sr))
      have B5 := Lib.hid (B4.out.setCell (p := ⟨bp, 0, none⟩) (by show w.heap.size ≤ bp; have := LB.out; omega) (.int .i64 sr))
      rw [← hw5] at M5 G5 R5 B5 ⊢
      clear hw5 M4 G4 R4 P4 B4 p0 f0
      obtain ⟨z3, hz3⟩ : ∃ z, placeV T P I Q t 36 = z := ⟨_, rfl⟩
      have HZ3 := Lib.hid hz3
      have hz3b : -1 ≤ z3 ∧ z3 ≤ 100000 := by rw [← hz3]; exact place_bd (by omega)
      obtain ⟨ws, hws⟩ : ∃ x, rpStW K L T P I Q t = x := ⟨_, rfl⟩
      have HWS : Hid (rdWords K L z3 2 = ws) := Lib.hid (by rw [← hz3, ← hws]; rfl)
      have HWL : Hid (ws.length = 2) := Lib.hid (by rw [← hws]; exact rdWords_len _ _ _ _)
      have HWZ : Hid (∀ j, j < 2 → (ws.getD j default).size ≤ 2000000) := Lib.hid (fun j hj => by rw [← hws]; exact Nat.le_trans (rdWords_size _ _ _ hj) (by decide))
      obtain ⟨st, hst⟩ : ∃ x, rpSt K L T P I Q t = x := ⟨_, rfl⟩
      obtain ⟨tb, htb⟩ : ∃ x, rpStB K L T P I Q t = x := ⟨_, rfl⟩
      have HST : Hid (rdR ws P = st) := Lib.hid (by rw [← hst, ← hws]; rfl)
      have HTB : Hid (rdB ws P = tb) := Lib.hid (by rw [← htb, ← hws]; rfl)
      clear hz3 hws
      have BD : Hid (Below w5.heap.size w5 w5.drew) := Lib.hid (Below.refl _ _).drew
      have SR : Hid (SrcC w5 a n L) := Lib.hid (HS0.out.below B5.out (Nat.le_refl _))
      have KP : Hid (∀ w', Below w5.heap.size w5 w' → w'.cell? ⟨w.heap.size, 0, none⟩ = some (.string K) ∧ w'.cell? ⟨w.heap.size, 1, none⟩ = some (.slice a n c) ∧ w'.cell? ⟨w.heap.size + 1, 0, none⟩ = some (.int .i64 T) ∧ w'.cell? ⟨w.heap.size + 1, 1, none⟩ = some (.int .i64 P) ∧ w'.cell? ⟨w.heap.size + 1, 2, none⟩ = some (.int .i64 I) ∧ w'.cell? ⟨w.heap.size + 1, 3, none⟩ = some (.int .i64 Q)) := Lib.hid (fun w' hb => ⟨(M5.out.later hb).cell rfl, (M5.out.later hb).cell rfl, (G5.out.later hb).cell rfl, (G5.out.later hb).cell rfl, (G5.out.later hb).cell rfl, (G5.out.later hb).cell rfl⟩)
      go_cut [12, 13] (fun sv ov wx => ov = .bool tb ∧ wx.ownsRow w5.heap.size 3 1 sv st.length (icells st) ∧ Below w5.heap.size w5 wx)
      case first =>
        go_region_held3 (fun w' => w'.cell? ⟨w.heap.size, 0, none⟩ = some (.string K) ∧ w'.cell? ⟨w.heap.size, 1, none⟩ = some (.slice a n c) ∧ w'.cell? ⟨w.heap.size + 1, 0, none⟩ = some (.int .i64 T) ∧ w'.cell? ⟨w.heap.size + 1, 1, none⟩ = some (.int .i64 P) ∧ w'.cell? ⟨w.heap.size + 1, 2, none⟩ = some (.int .i64 I) ∧ w'.cell? ⟨w.heap.size + 1, 3, none⟩ = some (.int .i64 Q))
          (first | with_reducible exact KP.out _ BD.out | go_keep)
          (first
          | (go_at_call 69; (with_reducible refine (specAt_any T P I Q t 36 (fun _ => by omega) _).mono ?_); rw [HZ3.out]; rintro e wa ⟨rfl, hb⟩; have BD : Hid (Below w5.heap.size w5 wa) := Lib.hid (BD.out.trans (hb.mono BD.out.size)); clear hb)
          | (go_at_call 68; (with_reducible refine (specRdWords2 K a n c L z3 _ (SR.out.below BD.out (Nat.le_refl _)) hn hK hz3b).mono ?_); rw [HWS.out]; rintro e wb ⟨v4, rfl, ho, hb⟩; obtain ⟨aw, cw, rfl, hcw, hnw, _⟩ := own_form ho; have HTD := Lib.hid (srcT_of_own ho); have BD : Hid (Below w5.heap.size w5 wb) := Lib.hid (BD.out.trans (hb.mono BD.out.size)); clear ho hb)
          | (go_at_call 67; (with_reducible refine (specReadSt_any aw ws.length cw ws P _ HTD.out (fun j hj => HWZ.out j (by have := HWL.out; omega))).mono ?_); rw [HST.out, HTB.out]; rintro e wd' ⟨v5, rfl, ho, hb⟩; have HR := Lib.hid ho; have BD0 := BD; have BD : Hid (Below w5.heap.size w5 wd') := Lib.hid (BD.out.trans (hb.mono BD.out.size)); clear ho hb))
        all_goals
          go_wp2
          go_meet
          exact ⟨rfl, ownE_mono HR.out BD0.out.size, BD.out⟩
      case rest =>
        obtain ⟨rfl, ho, hb⟩ := hcut
        obtain ⟨w6, hw6⟩ : ∃ y, y = wc := ⟨_, rfl⟩
        rw [← hw6] at ho hb ⊢
        clear hw6
        obtain ⟨aS, cS, rfl, hcS, hnS, _⟩ := own_form ho
        have HI := Lib.hid ((obj_ints ho (Nat.le_refl _) (Nat.le_refl _)).mono P5.out.lt (Nat.le_refl _))
        have P6 := Lib.hid (P5.out.later hb)
        have M6 := Lib.hid (M5.out.later hb)
        have G6 := Lib.hid (G5.out.later hb)
        have R6 := Lib.hid (R5.out.later hb)
        have B6 : Hid (Below w.heap.size w w6) := Lib.hid (B5.out.trans (hb.mono B5.out.size))
        clear ho hb BD SR KP M5 G5 R5 P5 B5 HZ3 HWS HWL HWZ HST HTB hz3b HZ2 HWD HSR
        have HSBE := Lib.hid hsb
        have HTBE := Lib.hid htb
        have HSRE := Lib.hid hsr
        have HSTE := Lib.hid hst
        clear hsb htb hsr hst
        obtain ⟨x, hx⟩ : ∃ x, serB sr = x := ⟨_, rfl⟩
        rw [hx] at HSB
        have HX9 := Lib.hid hx
        clear hx
        go_wp2_with fail
        refine (specSer_any sr _).mono ?_
        rw [HX9.out]
        rintro e w7 ⟨rfl, hb⟩
        have L67 := hb.size
        have P7 := Lib.hid (P6.out.later hb)
        have M7 := Lib.hid (M6.out.later hb)
        have G7 := Lib.hid (G6.out.later hb)
        have R7 := Lib.hid (R6.out.later hb)
        have I7 := Lib.hid (HI.out.later hb)
        have B7 : Hid (Below w.heap.size w w7) := Lib.hid (B6.out.trans (hb.mono B6.out.size))
        have LBP : Hid (bp < w6.heap.size) := Lib.hid P6.out.lt
        clear hb M6 G6 R6 P6 HI B6 hwds
        have hz := HSB.out
        cases sb with
        | false =>
          have HB : Hid (rpB K L T P I Q t = false) := Lib.hid (rpB_head (by rw [HSBE.out]; rfl))
          have hq := (Lib.bytes_beq_false_iff wd x).2 (fun h => of_decide_eq_false hz h.symm)
          clear hz
          have RR := R7
          have BB := B7
          have r0 := RR.out.cell (j := 0) rfl
          have r1 := RR.out.cell (j := 1) rfl
          have r2 := RR.out.cell (j := 2) rfl
          have f0 := RR.out.fr (o := 0)
          have f1 := RR.out.fr (o := 1)
          have f2 := RR.out.fr (o := 2)
          go_wp2
          have RZ := Lib.hid (((RR.out.set 0 (.int .i64 0)).set 1 (.slice none 0 0)).set 2 (.slice none 0 0))
          have q0 := RZ.out.cell (j := 0) rfl
          have q1 := RZ.out.cell (j := 1) rfl
          have q2 := RZ.out.cell (j := 2) rfl
          have BZ := Lib.hid (((BB.out.setCell (p := ⟨w.heap.size + 1 + 1, 0, none⟩) (by show w.heap.size ≤ w.heap.size + 1 + 1; omega) (.int .i64 0)).setCell (p := ⟨w.heap.size + 1 + 1, 1, none⟩) (by show w.heap.size ≤ w.heap.size + 1 + 1; omega) (.slice none 0 0)).setCell (p := ⟨w.heap.size + 1 + 1, 2, none⟩) (by show w.heap.size ≤ w.heap.size + 1 + 1; omega) (.slice none 0 0))
          refine bodyPost_ret (v := .tuple #[.agg #[.int .i64 0, .slice none 0 0, .slice none 0 0], .bool false]) ?_ rfl (gives_nopart HB.out BZ.out)
          simp [results, Tryz.results22, go_sem, q0, q1, q2]
        | true =>
          have hq := (Lib.bytes_beq_iff wd x).2 (of_decide_eq_true hz).symm
          clear hz
          cases tb with
          | false =>
            have HB : Hid (rpB K L T P I Q t = false) := Lib.hid (rpB_head (by rw [HSBE.out, HTBE.out]; rfl))
            have RR := R7
            have BB := B7
            have r0 := RR.out.cell (j := 0) rfl
            have r1 := RR.out.cell (j := 1) rfl
            have r2 := RR.out.cell (j := 2) rfl
            have f0 := RR.out.fr (o := 0)
            have f1 := RR.out.fr (o := 1)
            have f2 := RR.out.fr (o := 2)
            go_wp2
            have RZ := Lib.hid (((RR.out.set 0 (.int .i64 0)).set 1 (.slice none 0 0)).set 2 (.slice none 0 0))
            have q0 := RZ.out.cell (j := 0) rfl
            have q1 := RZ.out.cell (j := 1) rfl
            have q2 := RZ.out.cell (j := 2) rfl
            have BZ := Lib.hid (((BB.out.setCell (p := ⟨w.heap.size + 1 + 1, 0, none⟩) (by show w.heap.size ≤ w.heap.size + 1 + 1; omega) (.int .i64 0)).setCell (p := ⟨w.heap.size + 1 + 1, 1, none⟩) (by show w.heap.size ≤ w.heap.size + 1 + 1; omega) (.slice none 0 0)).setCell (p := ⟨w.heap.size + 1 + 1, 2, none⟩) (by show w.heap.size ≤ w.heap.size + 1 + 1; omega) (.slice none 0 0))
            refine bodyPost_ret (v := .tuple #[.agg #[.int .i64 0, .slice none 0 0, .slice none 0 0], .bool false]) ?_ rfl (gives_nopart HB.out BZ.out)
            simp [results, Tryz.results22, go_sem, q0, q1, q2]
          | true =>
          have p1 := P7.out.cell (j := 1) rfl
          have f1 := P7.out.fr (o := 1)
          obtain ⟨w8, hw8⟩ : ∃ y, y = w7.setCell ⟨bp, 1, none⟩ (.slice aS st.length cS) := ⟨_, rfl⟩
          have K8 : Hid (ButE bp w7 w8) := Lib.hid (by rw [hw8]; exact (ButE.refl bp w7).then_set 1 _)
          have P5 : Hid (Bk w8 bp #[.int .i64 sr, .slice aS st.length cS, .slice none 0 0] 52) := Lib.hid (by rw [hw8]; exact P7.out.set 1 _)
          have M5 := Lib.hid (M7.out.other (c := bp) (o := 1) (by have := LB.out; omega) (.slice aS st.length cS))
          have G5 := Lib.hid (G7.out.other (c := bp) (o := 1) (by have := LB.out; omega) (.slice aS st.length cS))
          have R5 := Lib.hid (R7.out.other (c := bp) (o := 1) (by have := LB.out; omega) (.slice aS st.length cS))
          have B5 := Lib.hid (B7.out.setCell (p := ⟨bp, 1, none⟩) (by show w.heap.size ≤ bp; have := LB.out; omega) (.slice aS st.length cS))
          rw [← hw8] at M5 G5 R5 B5
          have I5 := Lib.hid (I7.out.kept fun g h1 h2 => K8.out.block g (by omega) (Nat.lt_of_lt_of_le h2 L67))
          obtain ⟨bi, hbi⟩ : ∃ y, y = w6.heap.size := ⟨_, rfl⟩
          have LBI : Hid (bp < bi) := Lib.hid (by rw [hbi]; exact LBP.out)
          have LBI8 : Hid (bi ≤ w8.heap.size) := Lib.hid (by rw [hbi]; exact Nat.le_trans L67 K8.out.size)
          rw [← hbi] at I5
          have HW8 := Lib.hid hw8
          clear hbi hw8 L67 M7 G7 R7 P7 I7 B7 K8
          have g2 := G5.out.cell (j := 2) rfl
          have GR5 : Hid (GrowE cIno (rpInos K L T P I Q t 0) w8 bi 0 (.slice none 0 0)) := Lib.hid (GrowE.nil _ _)
          obtain ⟨hI0, hI1⟩ : 0 ≤ I ∧ I ≤ 6 := by obtain ⟨⟨_, _, _, _, _, _, _, _⟩, _, _⟩ := HGEO.out.1; omega
          go_wp2
          rw [← HW8.out]
          go_loopw [14] (fun kv wr => ∃ (k : Nat), k ≤ I.toNat ∧ bi ≤ wr.heap.size ∧ kv = .int .i64 k ∧ ∃ uv Tt, Hid (GrowE cIno (rpInos K L T P I Q t k) wr bi Tt uv) ∧ Hid (Bk wr bp #[.int .i64 sr, (.slice aS st.length cS), uv] 52) ∧ Hid (Bk wr w.heap.size #[.string K, .slice a n c] 57) ∧ Hid (Bk wr (w.heap.size + 1) #[.int .i64 T, .int .i64 P, .int .i64 I, .int .i64 Q] 25) ∧ Hid (Bk wr (w.heap.size + 1 + 1) #[.int .i64 0, .slice none 0 0, .slice none 0 0] 52) ∧ Hid (Obj1 wr (bp + 1) bi (celRow cInt st) (.slice aS st.length cS)) ∧ Hid (rpAll K L T P I Q t k = true) ∧ Hid (Below w.heap.size w wr)) (fun kv _ => I.toNat - (intOf kv).toNat)
          case atStart => exact ⟨0, Nat.zero_le _, LBI8.out, rfl, _, _, GR5, P5, M5, G5, R5, I5, Lib.hid rfl, B5⟩
          case round =>
            clear GR5 P5 M5 G5 R5 I5 B5
            obtain ⟨k, hk, hbi, rfl, uv, Tt, GR, HP, HM, HG, HR, HI, HA, HBL⟩ := hrel
            have g2 := HG.out.cell (j := 2) rfl
            by_cases hlt : (k : Int) < I
            · obtain ⟨z, hz⟩ : ∃ z, inodV T P I Q t (k : Int) = z := ⟨_, rfl⟩
              have HZ := Lib.hid hz
              have hzb : -1 ≤ z ∧ z ≤ 100000 := by rw [← hz]; exact inod_bd
              obtain ⟨ws, hws⟩ : ∃ x, rpInW K L T P I Q t (k : Int) = x := ⟨_, rfl⟩
              have HWS : Hid (rdWords K L z 8 = ws) := Lib.hid (by rw [← hz, ← hws]; rfl)
              have HWL : Hid (ws.length = 8) := Lib.hid (by rw [← hws]; exact rdWords_len _ _ _ _)
              have HWZ : Hid (∀ j, j < 8 → (ws.getD j default).size ≤ 2000000) := Lib.hid (fun j hj => by rw [← hws]; exact Nat.le_trans (rdWords_size _ _ _ hj) (by decide))
              obtain ⟨x, hx⟩ : ∃ x, rpIno K L T P I Q t (k : Int) = x := ⟨_, rfl⟩
              obtain ⟨b, hbb⟩ : ∃ x, rpInoB K L T P I Q t (k : Int) = x := ⟨_, rfl⟩
              have HX : Hid (readInoR ws = x) := Lib.hid (by rw [← hx, ← hws]; rfl)
              have HXB : Hid (readInoB ws = b) := Lib.hid (by rw [← hbb, ← hws]; rfl)
              have HBB := Lib.hid hbb
              have HN : Hid (rpInos K L T P I Q t (k + 1) = rpInos K L T P I Q t k ++ [x]) := Lib.hid (by rw [rpInos_succ, hx])
              clear hz hws hx hbb
              have SR : Hid (SrcC wr a n L) := Lib.hid (HS0.out.below HBL.out (Nat.le_refl _))
              have BD : Hid (Below wr.heap.size wr wr.drew) := Lib.hid (Below.refl _ _).drew
              have KP : Hid (∀ w', Below wr.heap.size wr w' → w'.cell? ⟨w.heap.size, 0, none⟩ = some (.string K) ∧ w'.cell? ⟨w.heap.size, 1, none⟩ = some (.slice a n c) ∧ w'.cell? ⟨w.heap.size + 1, 0, none⟩ = some (.int .i64 T) ∧ w'.cell? ⟨w.heap.size + 1, 1, none⟩ = some (.int .i64 P) ∧ w'.cell? ⟨w.heap.size + 1, 2, none⟩ = some (.int .i64 I) ∧ w'.cell? ⟨w.heap.size + 1, 3, none⟩ = some (.int .i64 Q)) := Lib.hid (fun w' hb => ⟨(HM.out.later hb).cell rfl, (HM.out.later hb).cell rfl, (HG.out.later hb).cell rfl, (HG.out.later hb).cell rfl, (HG.out.later hb).cell rfl, (HG.out.later hb).cell rfl⟩)
              go_upto_region 14 with fail
              go_cut [15, 16] (fun pv fv wx => InoCut wr x b pv fv wx)
              case first =>
                go_region_held3 (fun w' => w'.cell? ⟨w.heap.size, 0, none⟩ = some (.string K) ∧ w'.cell? ⟨w.heap.size, 1, none⟩ = some (.slice a n c) ∧ w'.cell? ⟨w.heap.size + 1, 0, none⟩ = some (.int .i64 T) ∧ w'.cell? ⟨w.heap.size + 1, 1, none⟩ = some (.int .i64 P) ∧ w'.cell? ⟨w.heap.size + 1, 2, none⟩ = some (.int .i64 I) ∧ w'.cell? ⟨w.heap.size + 1, 3, none⟩ = some (.int .i64 Q))
                  (first
                    | with_reducible exact KP.out _ BD.out
                    | with_reducible exact KP.out _ (below_alB BD.out _)
                    | with_reducible exact KP.out _ (be6 BD.out NG.out)
                    | with_reducible exact KP.out _ (below_bk _ _).drew)
                  (first
                  | (go_at_call 72; (with_reducible refine (specInode_any T P I Q t (k : Int) _).mono ?_); rw [HZ.out]; rintro e wa ⟨rfl, hb⟩; (first | (have NB : Hid (Bk wa wr.heap.size #[.int .i64 0, .int .i64 0, .int .i64 0, .string ⟨#[]⟩, .slice none 0 0, .slice none 0 0] 102) := Lib.hid (by with_reducible exact (Bk.alloc wr #[.int .i64 0, .int .i64 0, .int .i64 0, .string ⟨#[]⟩, .slice none 0 0, .slice none 0 0] 102).drew.later hb); have NG : Hid (wr.heap.size ≤ wr.heap.size) := Lib.hid (Nat.le_refl _); have BD : Hid (Below wr.heap.size wr wa) := Lib.hid (by with_reducible exact (below_bk wr _).drew.trans (hb.mono (below_bk wr _).drew.size))) | (have BD : Hid (Below wr.heap.size wr wa) := Lib.hid (by with_reducible exact BD.out.trans (hb.mono BD.out.size)))); clear hb)
                  | (go_at_call 68; (with_reducible refine (specRdWords8 K a n c L z _ (by first | with_reducible exact SR.out.below BD.out (Nat.le_refl _) | exact SR.out.below (below_alB BD.out _) (Nat.le_refl _)) hn hK hzb).mono ?_); rw [HWS.out]; rintro e wb ⟨v4, rfl, ho, hb⟩; obtain ⟨aw, cw, rfl, hcw, hnw, _⟩ := own_form ho; have HTD := Lib.hid (srcT_of_own ho); (first | (have BD : Hid (Below wr.heap.size wr wb) := Lib.hid (by with_reducible exact BD.out.trans (hb.mono BD.out.size)); have NB := Lib.hid (NB.out.later hb)) | (have BD : Hid (Below wr.heap.size wr wb) := Lib.hid (by with_reducible exact BD.out.trans (hb.mono BD.out.size))) | (have NB : Hid (Bk wb wa.heap.size #[.int .i64 0, .int .i64 0, .int .i64 0, .string ⟨#[]⟩, .slice none 0 0, .slice none 0 0] 102) := Lib.hid (nb_bk hb); have NG := Lib.hid BD.out.size; have BD : Hid (Below wr.heap.size wr wb) := Lib.hid (nb_be BD.out hb))); clear ho hb)
                  | (go_at_call 71; (with_reducible refine (specReadIno_any aw ws.length cw ws _ (by first | with_reducible exact HTD.out | exact SrcE.later HTD.out (below_bk _ _)) (fun j hj => HWZ.out j (by have := HWL.out; omega))).mono ?_); rw [HX.out, HXB.out]; rintro e wd ⟨aR, cR, aE, cE, rfl, h1, h2, h3, hb⟩; have HO := Lib.hid (obj_ino h1 h2 h3 hb.size); (first | (have NL := Lib.hid NB.out.lt; have LO := Lib.hid BD.out.size; have NB := Lib.hid (NB.out.later hb); have BD : Hid (Below wr.heap.size wr wd) := Lib.hid (by with_reducible exact BD.out.trans (hb.mono BD.out.size)); have c0 := NB.out.cell (j := 0) rfl; have f0 := NB.out.fr (o := 0); have S1 := Lib.hid (NB.out.set 0 (.int .i64 x.kd)); have c1 := S1.out.cell (j := 1) rfl; have f1 := S1.out.fr (o := 1); have S2 := Lib.hid (S1.out.set 1 (.int .i64 x.sz)); have c2 := S2.out.cell (j := 2) rfl; have f2 := S2.out.fr (o := 2); have S3 := Lib.hid (S2.out.set 2 (.int .i64 x.gn)); have c3 := S3.out.cell (j := 3) rfl; have f3 := S3.out.fr (o := 3); have S4 := Lib.hid (S3.out.set 3 (.string x.key)); have c4 := S4.out.cell (j := 4) rfl; have f4 := S4.out.fr (o := 4); have S5 := Lib.hid (S4.out.set 4 (.slice aR x.R.length cR)); have c5 := S5.out.cell (j := 5) rfl; have f5 := S5.out.fr (o := 5)) | (have LO := Lib.hid BD.out.size; have BD : Hid (Below wr.heap.size wr wd) := Lib.hid (by with_reducible exact BD.out.trans (hb.mono BD.out.size))) | (have NL := Lib.hid (nb_lt hb); have LO := Lib.hid (nb_le BD.out hb); have NB : Hid (Bk wd wb.heap.size #[.int .i64 0, .int .i64 0, .int .i64 0, .string ⟨#[]⟩, .slice none 0 0, .slice none 0 0] 102) := Lib.hid (nb_bk hb); have NG := Lib.hid BD.out.size; have BD : Hid (Below wr.heap.size wr wd) := Lib.hid (nb_be BD.out hb); have c0 := NB.out.cell (j := 0) rfl; have f0 := NB.out.fr (o := 0); have S1 := Lib.hid (NB.out.set 0 (.int .i64 x.kd)); have c1 := S1.out.cell (j := 1) rfl; have f1 := S1.out.fr (o := 1); have S2 := Lib.hid (S1.out.set 1 (.int .i64 x.sz)); have c2 := S2.out.cell (j := 2) rfl; have f2 := S2.out.fr (o := 2); have S3 := Lib.hid (S2.out.set 2 (.int .i64 x.gn)); have c3 := S3.out.cell (j := 3) rfl; have f3 := S3.out.fr (o := 3); have S4 := Lib.hid (S3.out.set 3 (.string x.key)); have c4 := S4.out.cell (j := 4) rfl; have f4 := S4.out.fr (o := 4); have S5 := Lib.hid (S4.out.set 4 (.slice aR x.R.length cR)); have c5 := S5.out.cell (j := 5) rfl; have f5 := S5.out.fr (o := 5))); clear h1 h2 h3 hb))
                all_goals
                  go_wp2
                  go_meet
                  first | with_reducible exact inoCut_new BD.out HO.out LO.out | exact inoCut_old NB.out NG.out NL.out HO.out BD.out
              case rest =>
                obtain ⟨rfl, gN, aR, cR, aE, cE, rfl, hN, hO, hb⟩ := hcut
                obtain ⟨w5, hw5⟩ : ∃ y, y = wc := ⟨_, rfl⟩
                rw [← hw5] at hN hO hb ⊢
                clear hw5
                have lp : bp < wr.heap.size := HP.out.lt
                have GR2 := Lib.hid (GR.out.later hb)
                have TL : Tt ≤ wr.heap.size := GR.out.top
                have P2 := Lib.hid (HP.out.later hb)
                have M2 := Lib.hid (HM.out.later hb)
                have G2 := Lib.hid (HG.out.later hb)
                have R2 := Lib.hid (HR.out.later hb)
                have I2 := Lib.hid (HI.out.later hb)
                have B2 : Hid (Below w.heap.size w w5) := Lib.hid (HBL.out.trans (hb.mono HBL.out.size))
                have LW := hb.size
                have N2 := Lib.hid hN
                have O2 := Lib.hid hO
                clear hb hN hO GR HP HM HG HR HI HBL SR BD HZ HWS HWL HWZ HX HXB hzb
                cases b with
                | false =>
                  have HB : Hid (rpB K L T P I Q t = false) := Lib.hid (rpB_all (rpAll_bad (n := k) (by omega) HBB.out))
                  clear lp LW TL
                  have RR := R2
                  have BB := B2
                  have r0 := RR.out.cell (j := 0) rfl
                  have r1 := RR.out.cell (j := 1) rfl
                  have r2 := RR.out.cell (j := 2) rfl
                  have f0 := RR.out.fr (o := 0)
                  have f1 := RR.out.fr (o := 1)
                  have f2 := RR.out.fr (o := 2)
                  go_wp2
                  have RZ := Lib.hid (((RR.out.set 0 (.int .i64 0)).set 1 (.slice none 0 0)).set 2 (.slice none 0 0))
                  have q0 := RZ.out.cell (j := 0) rfl
                  have q1 := RZ.out.cell (j := 1) rfl
                  have q2 := RZ.out.cell (j := 2) rfl
                  have BZ := Lib.hid (((BB.out.setCell (p := ⟨w.heap.size + 1 + 1, 0, none⟩) (by show w.heap.size ≤ w.heap.size + 1 + 1; omega) (.int .i64 0)).setCell (p := ⟨w.heap.size + 1 + 1, 1, none⟩) (by show w.heap.size ≤ w.heap.size + 1 + 1; omega) (.slice none 0 0)).setCell (p := ⟨w.heap.size + 1 + 1, 2, none⟩) (by show w.heap.size ≤ w.heap.size + 1 + 1; omega) (.slice none 0 0))
                  refine bodyPost_ret (v := .tuple #[.agg #[.int .i64 0, .slice none 0 0, .slice none 0 0], .bool false]) ?_ rfl (gives_nopart HB.out BZ.out)
                  simp [results, Tryz.results22, go_sem, q0, q1, q2]
                | true =>
                  have HA2 : Hid (rpAll K L T P I Q t (k + 1) = true) := Lib.hid (by rw [rpAll_succ, HA.out, HBB.out]; rfl)
                  obtain ⟨xs, hr, hstep⟩ := GR2.out.app O2.out TL (by omega) LW (by rw [rpInos_len]; omega) 50
                  have HST := Lib.hid hstep
                  have n0 := N2.out.cell (j := 0) rfl
                  have n1 := N2.out.cell (j := 1) rfl
                  have n2 := N2.out.cell (j := 2) rfl
                  have n3 := N2.out.cell (j := 3) rfl
                  have n4 := N2.out.cell (j := 4) rfl
                  have n5 := N2.out.cell (j := 5) rfl
                  have p2 := P2.out.cell (j := 2) rfl
                  clear hstep
                  go_wp2_with (at_builtin; refine wpList_appE rfl _ _ _ _ rfl _ _ rfl rfl hr ?_; clear hr; intro v' w6 h1 h2 h3; have h9 := HST.out v' w6 h1 h2 h3; obtain ⟨a6, c6, rfl, _, _, _⟩ := ownE_form h1; have GR6 := Lib.hid h9.1; have B6 := Lib.hid h9.2; have P6 : Hid (Bk w6 bp #[.int .i64 sr, (.slice aS st.length cS), uv] 52) := Lib.hid ((B6.out.block _ LBI.out).trans P2.out); have M6 : Hid (Bk w6 w.heap.size #[.string K, .slice a n c] 57) := Lib.hid ((B6.out.block _ (by have := LB.out; have := LBI.out; omega)).trans M2.out); have G6 : Hid (Bk w6 (w.heap.size + 1) #[.int .i64 T, .int .i64 P, .int .i64 I, .int .i64 Q] 25) := Lib.hid ((B6.out.block _ (by have := LB.out; have := LBI.out; omega)).trans G2.out); have R6 : Hid (Bk w6 (w.heap.size + 1 + 1) #[.int .i64 0, .slice none 0 0, .slice none 0 0] 52) := Lib.hid ((B6.out.block _ (by have := LB.out; have := LBI.out; omega)).trans R2.out); have I6 := Lib.hid (I2.out.kept fun g h1 h2 => B6.out.block g (by omega)); have BB6 : Hid (Below w.heap.size w w6) := Lib.hid (B2.out.trans (B6.out.mono (by have := LB.out; have := LBI.out; omega))); have p2 := P6.out.cell (j := 2) rfl; have pf := P6.out.fr (o := 2); clear h1 h2 h3 h9 n0 n1 n2 n3 n4 n5 GR2 P2 M2 G2 R2 I2 B2 N2 O2 HST)
                  have K7 : Hid (ButE bp w6 (w6.setCell ⟨bp, 2, none⟩ (.slice a6 ((rpInos K L T P I Q t k).length + 1) c6))) := Lib.hid ((ButE.refl _ w6).then_set 2 _)
                  have GR7 := Lib.hid (GR6.out.but K7.out LBI.out)
                  rw [← HN.out] at GR7
                  have P7 : Hid (Bk (w6.setCell ⟨bp, 2, none⟩ (.slice a6 ((rpInos K L T P I Q t k).length + 1) c6)) bp #[.int .i64 sr, (.slice aS st.length cS), .slice a6 ((rpInos K L T P I Q t k).length + 1) c6] 52) := Lib.hid (P6.out.set 2 _)
                  have M7 := Lib.hid (M6.out.other (c := bp) (o := 2) (by have := LB.out; have := LBI.out; omega) (.slice a6 ((rpInos K L T P I Q t k).length + 1) c6))
                  have G7 := Lib.hid (G6.out.other (c := bp) (o := 2) (by have := LB.out; have := LBI.out; omega) (.slice a6 ((rpInos K L T P I Q t k).length + 1) c6))
                  have R7 := Lib.hid (R6.out.other (c := bp) (o := 2) (by have := LB.out; have := LBI.out; omega) (.slice a6 ((rpInos K L T P I Q t k).length + 1) c6))
                  have I7 := Lib.hid (I6.out.kept fun g h1 h2 => K7.out.block g (by omega) (by have := B6.out.size; omega))
                  have B7 := Lib.hid (BB6.out.setCell (p := ⟨bp, 2, none⟩) (by show w.heap.size ≤ bp; have := LB.out; omega) (.slice a6 ((rpInos K L T P I Q t k).length + 1) c6))
                  go_roundw
                  case rel => exact ⟨k + 1, by omega, by have := K7.out.size; have := B6.out.size; omega, by go_num, _, _, GR7, P7, M7, G7, R7, I7, HA2, B7⟩
                  case measure => (simp [intOf]; try omega)
            · obtain rfl : k = I.toNat := by omega
              have HB : Hid (rpB K L T P I Q t = true) := Lib.hid (rpB_yes HHAS.out (by rw [HSBE.out, HTBE.out]; rfl) HA.out)
              obtain ⟨au, cu, rfl⟩ := GR.out.form
              have p0 := HP.out.cell (j := 0) rfl
              have p1 := HP.out.cell (j := 1) rfl
              have p2 := HP.out.cell (j := 2) rfl
              have r0 := HR.out.cell (j := 0) rfl
              have r1 := HR.out.cell (j := 1) rfl
              have r2 := HR.out.cell (j := 2) rfl
              have f0 := HR.out.fr (o := 0)
              have f1 := HR.out.fr (o := 1)
              have f2 := HR.out.fr (o := 2)
              go_wp2
              have RZ := Lib.hid (((HR.out.set 0 (.int .i64 sr)).set 1 (.slice aS st.length cS)).set 2 (.slice au (rpInos K L T P I Q t I.toNat).length cu))
              have q0 := RZ.out.cell (j := 0) rfl
              have q1 := RZ.out.cell (j := 1) rfl
              have q2 := RZ.out.cell (j := 2) rfl
              have K8 : Hid (ButE (w.heap.size + 1 + 1) wr (((wr.setCell ⟨w.heap.size + 1 + 1, 0, none⟩ (.int .i64 sr)).setCell ⟨w.heap.size + 1 + 1, 1, none⟩ (.slice aS st.length cS)).setCell ⟨w.heap.size + 1 + 1, 2, none⟩ (.slice au (rpInos K L T P I Q t I.toNat).length cu))) := Lib.hid ((((ButE.refl _ wr).then_set 0 _).then_set 1 _).then_set 2 _)
              have B8 := Lib.hid (((HBL.out.setCell (p := ⟨w.heap.size + 1 + 1, 0, none⟩) (by show w.heap.size ≤ w.heap.size + 1 + 1; omega) (.int .i64 sr)).setCell (p := ⟨w.heap.size + 1 + 1, 1, none⟩) (by show w.heap.size ≤ w.heap.size + 1 + 1; omega) (.slice aS st.length cS)).setCell (p := ⟨w.heap.size + 1 + 1, 2, none⟩) (by show w.heap.size ≤ w.heap.size + 1 + 1; omega) (.slice au (rpInos K L T P I Q t I.toNat).length cu))
              have lp : bp < wr.heap.size := HP.out.lt
              have GR8 := Lib.hid (GR.out.but K8.out (by have := LB.out; have := LBI.out; omega))
              have I8 := Lib.hid (HI.out.kept fun g h1 h2 => K8.out.block g (by have := LB.out; omega) (by omega))
              have L8 : Hid (bp < ((((wr.setCell ⟨w.heap.size + 1 + 1, 0, none⟩ (.int .i64 sr)).setCell ⟨w.heap.size + 1 + 1, 1, none⟩ (.slice aS st.length cS)).setCell ⟨w.heap.size + 1 + 1, 2, none⟩ (.slice au (rpInos K L T P I Q t I.toNat).length cu))).heap.size) := Lib.hid (Nat.lt_of_lt_of_le lp K8.out.size)
              have GP := Lib.hid (gives_part2 (w := w) HB.out (by rw [HSTE.out]; exact I8.out) GR8.out (by have := LB.out; omega) LBI.out (Nat.le_trans hbi K8.out.size) B8.out)
              rw [HSRE.out] at GP
              refine bodyPost_ret (v := .tuple #[.agg #[.int .i64 sr, (.slice aS st.length cS), .slice au (rpInos K L T P I Q t I.toNat).length cu], .bool true]) ?_ rfl GP.out
              simp [results, Tryz.results22, go_sem, q0, q1, q2]
end Go.Proofs.YtkfkjcadmdcbnaaGreatDoor
namespace Go.Proofs.YtkfkjcadmdcbnaaGreatDoor
open Go.RowKit Go.Proofs.YtkfkjcadmdcbnaaGreatDoor.Parts Go.Proofs.YtkfkjcadmdcbnaaGreatDoor.Hexa

theorem ret_i64m {a b : Int} (h : a = b) : Ending.returned (.int .i64 a) = .returned (.int .i64 b) := by rw [h]
theorem markText_n (i : Int) (k : Nat) (w : World) (h : i = k) (h0 : 0 < k) (hk : k ≤ 100000000) :
    Calls Tryz.prog 148 #[.int .i64 i] w fun e w' => e = .returned (.string (markT k)) ∧ Below w.heap.size w w' := by
  subst h; exact markText_any k w h0 hk
end Go.Proofs.YtkfkjcadmdcbnaaGreatDoor
namespace Go.Proofs.YtkfkjcadmdcbnaaGreatDoor
open Go.RowKit Go.Proofs.YtkfkjcadmdcbnaaGreatDoor.Parts Go.Proofs.YtkfkjcadmdcbnaaGreatDoor.Hexa

set_option maxRecDepth 100000 in
set_option maxHeartbeats 1000000 in
theorem markIntS_any (v : Value) (L : List Int) (F : List Nat) (k : Nat) (kz : Int) (w : World) (hkz : kz = (k : Int)) (h0 : 0 < k) (hk : k + (celRow cInt L).cnt ≤ 100000000) (hz : (celRow cInt L).sz ≤ 100000000) (hF : F.Nodup) (ho : (celRow cInt L).Own w F v) :
    Calls Tryz.prog 88 #[v, .int .i64 kz] w (MarkPost (celRow cInt L) F v k w) := by
  subst hkz
  obtain ⟨a, n, c, rfl, hn⟩ := row_form (Cel.Own.rd _ _ _ ho)
  have HN := Lib.hid hn
  have hz' : n + szL (celsE cInt L) ≤ 100000000 := by rw [← hn]; exact hz
  have hn9 : n ≤ 100000000 := by omega
  have HZ : Hid (szL (celsE cInt L) ≤ 100000000) := Lib.hid (by omega)
  have HF := Lib.hid hF
  have HC : Hid ((celRow cInt L).cnt = cntL (celsE cInt L)) := Lib.hid rfl
  have hk' : k + cntL (celsE cInt L) ≤ 100000000 := hk
  have HL : Hid ((celsE cInt L).length = n * 1) := Lib.hid (by rw [celsE_length, hn]; rfl)
  have HO : Hid ((Cel.sl cInt.e 1 n (stM (celsE cInt L) k 0)).Own w F (.slice a n c)) := Lib.hid (by rw [stM_zero]; have h9 := ho; unfold celRow at h9; rw [hn] at h9; exact h9)
  clear hn hF ho hk hz hz'
  go_enter Tryz.func88, Tryz.ntmps88
  go_wp2
  go_loopw [1, 5] (fun kv iv wr => ∃ (j q : Nat), j ≤ n ∧ 0 < q ∧ q ≤ 100000000 ∧ Hid (q = k + cntL (celsE cInt (L.take j))) ∧ iv = .int .i64 j ∧ kv = .int .i64 q ∧ Hid ((Cel.sl cInt.e 1 n (stM (celsE cInt L) k (j * 1))).Own wr F (.slice a n c)) ∧ Hid (OutF F w wr)) (fun _ iv _ => n - (intOf iv).toNat)
  case atStart => exact ⟨0, k, Nat.zero_le _, h0, by omega, Lib.hid (by simp only [List.take_zero, celsE, cntL]; rfl), rfl, rfl, by rw [Nat.zero_mul]; exact HO, Lib.hid (OutF.refl _ _)⟩
  case round =>
    clear HO
    obtain ⟨j, q, hj, hq0, hq9, HQ, rfl, rfl, HW, HU⟩ := hrel
    by_cases hlt : j < n
    · have hjL : j < L.length := by rw [HN.out]; exact hlt
      have HX := Lib.hid (cntL_next cInt hjL)
      have hm := cntL_take cInt L (j + 1)
      have HY := Lib.hid (Nat.le_trans (szL_at cInt L j hjL) HZ.out)
      have HG : Hid (∀ o, o < 1 → (celsE cInt L).getD (j * 1 + o) default = (cInt.cels (L.getD j default)).getD o default) := Lib.hid (fun o ho => celsE_getD cInt L j o hjL ho)
      have HA : Hid (∀ o, o ≤ 1 → atM (celsE cInt L) k (j * 1 + o) = q + cntL ((cInt.cels (L.getD j default)).take o)) := Lib.hid (fun o ho => by rw [HQ.out]; exact atM_in cInt hjL ho)
      obtain ⟨x, hx⟩ : ∃ x, L.getD j default = x := ⟨_, rfl⟩
      rw [hx] at HX HG HA HY
      have hm2 : q + cntL (cInt.cels x) ≤ 100000000 := by have := HQ.out; have := HX.out; omega
      have HM2 := Lib.hid hm2
      have hm3 : q + 1 ≤ 100000000 := by have : cntL (cInt.cels x) = (1 + 0) := rfl; omega
      clear hx hjL hm hm2
      rw [Nat.mul_one] at HW
      obtain ⟨g0, hg0, _, ⟨v0, e0⟩, z0, ho0, hu0⟩ := mark_val HW.out HF.out (i := j) (by omega) HL.out ((by have h9 := HG.out 0 (by decide); rw [Nat.mul_one, Nat.add_zero] at h9; exact h9))
      subst hg0
      have e9 : atM (celsE cInt L) k (j) = q + cntL ((cInt.cels x).take 0) := (by have h9 := HA.out 0 (by decide); rw [Nat.mul_one, Nat.add_zero] at h9; exact h9)
      have e8 : markV (.int .i64 x) (atM (celsE cInt L) k (j)) = (.int .i64 ((q : Int))) := by rw [e9]; show Value.int .i64 ((q + 0 : Nat) : Int) = _; rw [show ((q + 0 : Nat) : Int) = (q : Int) from by omega]
      rw [e8] at ho0 hu0
      clear e8 e9
      have W0 := Lib.hid ho0
      have U0 := Lib.hid (HU.out.trans hu0)
      clear ho0 hu0 HW HU
      go_wp2
      clear e0 z0
      have HR : Hid ((q + 1) = k + cntL (celsE cInt (L.take (j + 1)))) := Lib.hid (by have := HQ.out; have := HX.out; have : cntL (cInt.cels x) = (1 + 0) := rfl; omega)
      have hr9 : (q + 1) ≤ 100000000 := by have := HM2.out; have : cntL (cInt.cels x) = (1 + 0) := rfl; omega
      go_roundw
      case rel => exact ⟨j + 1, (q + 1), by omega, by omega, hr9, HR, by go_num, by go_num, by rw [Nat.mul_one]; exact W0, U0⟩
      case measure => (simp [intOf]; try omega)
    · obtain rfl : j = n := by omega
      have ho := HW.out
      rw [stM_all _ _ (by rw [HL.out]; omega)] at ho
      have HO := Lib.hid ho
      clear ho
      go_wp2
      go_ret
      refine ⟨ret_i64m (by have := HQ.out; rw [List.take_of_length_le (by rw [HN.out]; omega)] at this; rw [HC.out]; omega), HU.out, ?_⟩
      have h9 := HO.out
      rw [← HN.out] at h9 ⊢
      exact h9

theorem markIntS_obj (v : Value) (L : List Int) (lo hi k : Nat) (kz : Int) (w : World) (hkz : kz = (k : Int)) (h0 : 0 < k) (hk : k + (celRow cInt L).cnt ≤ 100000000) (hz : (celRow cInt L).sz ≤ 100000000) (ho : Obj1 w lo hi (celRow cInt L) v) :
    Calls Tryz.prog 88 #[v, .int .i64 kz] w fun e w' => e = .returned (.int .i64 ((k + (celRow cInt L).cnt : Nat) : Int)) ∧ OutR lo hi w w' ∧ Obj1 w' lo hi ((celRow cInt L).mk k) v := by
  obtain ⟨F, hn, hb, ho⟩ := ho
  refine (markIntS_any v L F k kz w hkz h0 hk hz hn ho).mono ?_
  rintro e w' ⟨he, hu, hw⟩
  exact ⟨he, OutR.of hu hb, F, hn, hb, hw⟩
end Go.Proofs.YtkfkjcadmdcbnaaGreatDoor
namespace Go.Proofs.YtkfkjcadmdcbnaaGreatDoor
open Go.RowKit Go.Proofs.YtkfkjcadmdcbnaaGreatDoor.Parts Go.Proofs.YtkfkjcadmdcbnaaGreatDoor.Hexa

set_option maxRecDepth 100000 in
set_option maxHeartbeats 1000000 in
theorem markRecS_any (v : Value) (L : List RecR) (F : List Nat) (k : Nat) (kz : Int) (w : World) (hkz : kz = (k : Int)) (h0 : 0 < k) (hk : k + (celRow cRec L).cnt ≤ 100000000) (hz : (celRow cRec L).sz ≤ 100000000) (hF : F.Nodup) (ho : (celRow cRec L).Own w F v) :
    Calls Tryz.prog 149 #[v, .int .i64 kz] w (MarkPost (celRow cRec L) F v k w) := by
  subst hkz
  obtain ⟨a, n, c, rfl, hn⟩ := row_form (Cel.Own.rd _ _ _ ho)
  have HN := Lib.hid hn
  have hz' : n + szL (celsE cRec L) ≤ 100000000 := by rw [← hn]; exact hz
  have hn9 : n ≤ 100000000 := by omega
  have HZ : Hid (szL (celsE cRec L) ≤ 100000000) := Lib.hid (by omega)
  have HF := Lib.hid hF
  have HC : Hid ((celRow cRec L).cnt = cntL (celsE cRec L)) := Lib.hid rfl
  have hk' : k + cntL (celsE cRec L) ≤ 100000000 := hk
  have HL : Hid ((celsE cRec L).length = n * 3) := Lib.hid (by rw [celsE_length, hn]; rfl)
  have HO : Hid ((Cel.sl cRec.e 3 n (stM (celsE cRec L) k 0)).Own w F (.slice a n c)) := Lib.hid (by rw [stM_zero]; have h9 := ho; unfold celRow at h9; rw [hn] at h9; exact h9)
  clear hn hF ho hk hz hz'
  go_enter Tryz.func149, Tryz.ntmps149
  go_wp2
  go_loopw [1, 5] (fun kv iv wr => ∃ (j q : Nat), j ≤ n ∧ 0 < q ∧ q ≤ 100000000 ∧ Hid (q = k + cntL (celsE cRec (L.take j))) ∧ iv = .int .i64 j ∧ kv = .int .i64 q ∧ Hid ((Cel.sl cRec.e 3 n (stM (celsE cRec L) k (j * 3))).Own wr F (.slice a n c)) ∧ Hid (OutF F w wr)) (fun _ iv _ => n - (intOf iv).toNat)
  case atStart => exact ⟨0, k, Nat.zero_le _, h0, by omega, Lib.hid (by simp only [List.take_zero, celsE, cntL]; rfl), rfl, rfl, by rw [Nat.zero_mul]; exact HO, Lib.hid (OutF.refl _ _)⟩
  case round =>
    clear HO
    obtain ⟨j, q, hj, hq0, hq9, HQ, rfl, rfl, HW, HU⟩ := hrel
    by_cases hlt : j < n
    · have hjL : j < L.length := by rw [HN.out]; exact hlt
      have HX := Lib.hid (cntL_next cRec hjL)
      have hm := cntL_take cRec L (j + 1)
      have HY := Lib.hid (Nat.le_trans (szL_at cRec L j hjL) HZ.out)
      have HG : Hid (∀ o, o < 3 → (celsE cRec L).getD (j * 3 + o) default = (cRec.cels (L.getD j default)).getD o default) := Lib.hid (fun o ho => celsE_getD cRec L j o hjL ho)
      have HA : Hid (∀ o, o ≤ 3 → atM (celsE cRec L) k (j * 3 + o) = q + cntL ((cRec.cels (L.getD j default)).take o)) := Lib.hid (fun o ho => by rw [HQ.out]; exact atM_in cRec hjL ho)
      obtain ⟨x, hx⟩ : ∃ x, L.getD j default = x := ⟨_, rfl⟩
      rw [hx] at HX HG HA HY
      have hm2 : q + cntL (cRec.cels x) ≤ 100000000 := by have := HQ.out; have := HX.out; omega
      have HM2 := Lib.hid hm2
      have hm3 : q + 3 ≤ 100000000 := by have : cntL (cRec.cels x) = (1 + (1 + (1 + 0))) := rfl; omega
      clear hx hjL hm hm2
      obtain ⟨g0, hg0, _, ⟨v0, e0⟩, z0, ho0, hu0⟩ := mark_val HW.out HF.out (i := j * 3) (by omega) HL.out (HG.out 0 (by decide))
      subst hg0
      have e9 : atM (celsE cRec L) k (j * 3) = q + cntL ((cRec.cels x).take 0) := HA.out 0 (by decide)
      have e8 : markV (.int .i64 x.f0) (atM (celsE cRec L) k (j * 3)) = (.int .i64 ((q : Int))) := by rw [e9]; show Value.int .i64 ((q + 0 : Nat) : Int) = _; rw [show ((q + 0 : Nat) : Int) = (q : Int) from by omega]
      rw [e8] at ho0 hu0
      clear e8 e9
      have W0 := Lib.hid ho0
      have U0 := Lib.hid (HU.out.trans hu0)
      clear ho0 hu0 HW HU
      obtain ⟨g1, hg1, _, ⟨v1, e1⟩, z1, ho1, hu1⟩ := mark_val W0.out HF.out (i := j * 3 + 1) (by omega) HL.out (HG.out 1 (by decide))
      obtain rfl : g0 = g1 := by simpa using hg1
      have e9 : atM (celsE cRec L) k (j * 3 + 1) = q + cntL ((cRec.cels x).take 1) := HA.out 1 (by decide)
      have e8 : markV (.int .i64 x.f1) (atM (celsE cRec L) k (j * 3 + 1)) = (.int .i64 ((q : Int) + 1)) := by rw [e9]; show Value.int .i64 ((q + (1 + 0) : Nat) : Int) = _; rw [show ((q + (1 + 0) : Nat) : Int) = (q : Int) + 1 from by omega]
      rw [e8] at ho1 hu1
      clear e8 e9
      have W1 := Lib.hid ho1
      have U1 := Lib.hid (U0.out.trans hu1)
      clear ho1 hu1 W0 U0
      go_wp2_with fail
      clear e0 z0 e1 z1
      obtain ⟨wa2, hwa⟩ : ∃ y, y = ((wr.setCell ⟨g0, j * 3, none⟩ (.int .i64 ((q : Int)))).setCell ⟨g0, j * 3 + 1, none⟩ (.int .i64 ((q : Int) + 1))) := ⟨_, rfl⟩
      rw [← hwa] at W1 U1 ⊢
      clear hwa
      refine (markText_n _ (q + 2) _ (by omega) (by omega) (by omega)).mono ?_
      rintro e y2 ⟨rfl, hb⟩
      have W2t := Lib.hid (Cel.Own.kept _ _ _ (fun g hg => hb.block g (Cel.Own.lt _ _ _ W1.out g hg)) W1.out)
      have U2t := Lib.hid (U1.out.trans (OutF.of_below hb))
      clear hb W1 U1
      obtain ⟨g2, hg2, _, ⟨v2, e2⟩, z2, ho2, hu2⟩ := mark_val W2t.out HF.out (i := j * 3 + 2) (by omega) HL.out (HG.out 2 (by decide))
      obtain rfl : g0 = g2 := by simpa using hg2
      have e9 : atM (celsE cRec L) k (j * 3 + 2) = q + cntL ((cRec.cels x).take 2) := HA.out 2 (by decide)
      have e8 : markV (.string x.f2) (atM (celsE cRec L) k (j * 3 + 2)) = (.string (markT (q + 2))) := by rw [e9]; show Value.string (markT (q + (1 + (1 + 0)))) = _; rw [show q + (1 + (1 + 0)) = (q + 2) from by omega]
      rw [e8] at ho2 hu2
      clear e8 e9
      have W2 := Lib.hid ho2
      have U2 := Lib.hid (U2t.out.trans hu2)
      clear ho2 hu2 W2t U2t
      go_wp2
      clear e2 z2
      have HR : Hid ((q + 3) = k + cntL (celsE cRec (L.take (j + 1)))) := Lib.hid (by have := HQ.out; have := HX.out; have : cntL (cRec.cels x) = (1 + (1 + (1 + 0))) := rfl; omega)
      have hr9 : (q + 3) ≤ 100000000 := by have := HM2.out; have : cntL (cRec.cels x) = (1 + (1 + (1 + 0))) := rfl; omega
      go_roundw
      case rel => exact ⟨j + 1, (q + 3), by omega, by omega, hr9, HR, by go_num, by go_num, by rw [Nat.add_mul, Nat.one_mul]; exact W2, U2⟩
      case measure => (simp [intOf]; try omega)
    · obtain rfl : j = n := by omega
      have ho := HW.out
      rw [stM_all _ _ (by rw [HL.out]; omega)] at ho
      have HO := Lib.hid ho
      clear ho
      go_wp2
      go_ret
      refine ⟨ret_i64m (by have := HQ.out; rw [List.take_of_length_le (by rw [HN.out]; omega)] at this; rw [HC.out]; omega), HU.out, ?_⟩
      have h9 := HO.out
      rw [← HN.out] at h9 ⊢
      exact h9

theorem markRecS_obj (v : Value) (L : List RecR) (lo hi k : Nat) (kz : Int) (w : World) (hkz : kz = (k : Int)) (h0 : 0 < k) (hk : k + (celRow cRec L).cnt ≤ 100000000) (hz : (celRow cRec L).sz ≤ 100000000) (ho : Obj1 w lo hi (celRow cRec L) v) :
    Calls Tryz.prog 149 #[v, .int .i64 kz] w fun e w' => e = .returned (.int .i64 ((k + (celRow cRec L).cnt : Nat) : Int)) ∧ OutR lo hi w w' ∧ Obj1 w' lo hi ((celRow cRec L).mk k) v := by
  obtain ⟨F, hn, hb, ho⟩ := ho
  refine (markRecS_any v L F k kz w hkz h0 hk hz hn ho).mono ?_
  rintro e w' ⟨he, hu, hw⟩
  exact ⟨he, OutR.of hu hb, F, hn, hb, hw⟩
end Go.Proofs.YtkfkjcadmdcbnaaGreatDoor
namespace Go.Proofs.YtkfkjcadmdcbnaaGreatDoor
open Go.RowKit Go.Proofs.YtkfkjcadmdcbnaaGreatDoor.Parts Go.Proofs.YtkfkjcadmdcbnaaGreatDoor.Hexa

set_option maxRecDepth 100000 in
set_option maxHeartbeats 1000000 in
theorem markEntryS_any (v : Value) (L : List EntryR) (F : List Nat) (k : Nat) (kz : Int) (w : World) (hkz : kz = (k : Int)) (h0 : 0 < k) (hk : k + (celRow cEntry L).cnt ≤ 100000000) (hz : (celRow cEntry L).sz ≤ 100000000) (hF : F.Nodup) (ho : (celRow cEntry L).Own w F v) :
    Calls Tryz.prog 150 #[v, .int .i64 kz] w (MarkPost (celRow cEntry L) F v k w) := by
  subst hkz
  obtain ⟨a, n, c, rfl, hn⟩ := row_form (Cel.Own.rd _ _ _ ho)
  have HN := Lib.hid hn
  have hz' : n + szL (celsE cEntry L) ≤ 100000000 := by rw [← hn]; exact hz
  have hn9 : n ≤ 100000000 := by omega
  have HZ : Hid (szL (celsE cEntry L) ≤ 100000000) := Lib.hid (by omega)
  have HF := Lib.hid hF
  have HC : Hid ((celRow cEntry L).cnt = cntL (celsE cEntry L)) := Lib.hid rfl
  have hk' : k + cntL (celsE cEntry L) ≤ 100000000 := hk
  have HL : Hid ((celsE cEntry L).length = n * 2) := Lib.hid (by rw [celsE_length, hn]; rfl)
  have HO : Hid ((Cel.sl cEntry.e 2 n (stM (celsE cEntry L) k 0)).Own w F (.slice a n c)) := Lib.hid (by rw [stM_zero]; have h9 := ho; unfold celRow at h9; rw [hn] at h9; exact h9)
  clear hn hF ho hk hz hz'
  go_enter Tryz.func150, Tryz.ntmps150
  go_wp2
  go_loopw [1, 5] (fun kv iv wr => ∃ (j q : Nat), j ≤ n ∧ 0 < q ∧ q ≤ 100000000 ∧ Hid (q = k + cntL (celsE cEntry (L.take j))) ∧ iv = .int .i64 j ∧ kv = .int .i64 q ∧ Hid ((Cel.sl cEntry.e 2 n (stM (celsE cEntry L) k (j * 2))).Own wr F (.slice a n c)) ∧ Hid (OutF F w wr)) (fun _ iv _ => n - (intOf iv).toNat)
  case atStart => exact ⟨0, k, Nat.zero_le _, h0, by omega, Lib.hid (by simp only [List.take_zero, celsE, cntL]; rfl), rfl, rfl, by rw [Nat.zero_mul]; exact HO, Lib.hid (OutF.refl _ _)⟩
  case round =>
    clear HO
    obtain ⟨j, q, hj, hq0, hq9, HQ, rfl, rfl, HW, HU⟩ := hrel
    by_cases hlt : j < n
    · have hjL : j < L.length := by rw [HN.out]; exact hlt
      have HX := Lib.hid (cntL_next cEntry hjL)
      have hm := cntL_take cEntry L (j + 1)
      have HY := Lib.hid (Nat.le_trans (szL_at cEntry L j hjL) HZ.out)
      have HG : Hid (∀ o, o < 2 → (celsE cEntry L).getD (j * 2 + o) default = (cEntry.cels (L.getD j default)).getD o default) := Lib.hid (fun o ho => celsE_getD cEntry L j o hjL ho)
      have HA : Hid (∀ o, o ≤ 2 → atM (celsE cEntry L) k (j * 2 + o) = q + cntL ((cEntry.cels (L.getD j default)).take o)) := Lib.hid (fun o ho => by rw [HQ.out]; exact atM_in cEntry hjL ho)
      obtain ⟨x, hx⟩ : ∃ x, L.getD j default = x := ⟨_, rfl⟩
      rw [hx] at HX HG HA HY
      have hm2 : q + cntL (cEntry.cels x) ≤ 100000000 := by have := HQ.out; have := HX.out; omega
      have HM2 := Lib.hid hm2
      have hm3 : q + 2 ≤ 100000000 := by have : cntL (cEntry.cels x) = (1 + (1 + 0)) := rfl; omega
      clear hx hjL hm hm2
      obtain ⟨g0, hg0, _, ⟨v0, e0⟩, z0, ho0, hu0⟩ := mark_val HW.out HF.out (i := j * 2) (by omega) HL.out (HG.out 0 (by decide))
      subst hg0
      have e9 : atM (celsE cEntry L) k (j * 2) = q + cntL ((cEntry.cels x).take 0) := HA.out 0 (by decide)
      have e8 : markV (.int .i64 x.f0) (atM (celsE cEntry L) k (j * 2)) = (.int .i64 ((q : Int))) := by rw [e9]; show Value.int .i64 ((q + 0 : Nat) : Int) = _; rw [show ((q + 0 : Nat) : Int) = (q : Int) from by omega]
      rw [e8] at ho0 hu0
      clear e8 e9
      have W0 := Lib.hid ho0
      have U0 := Lib.hid (HU.out.trans hu0)
      clear ho0 hu0 HW HU
      go_wp2_with fail
      clear e0 z0
      obtain ⟨wa1, hwa⟩ : ∃ y, y = (wr.setCell ⟨g0, j * 2, none⟩ (.int .i64 ((q : Int)))) := ⟨_, rfl⟩
      rw [← hwa] at W0 U0 ⊢
      clear hwa
      refine (markText_n _ (q + 1) _ (by omega) (by omega) (by omega)).mono ?_
      rintro e y1 ⟨rfl, hb⟩
      have W1t := Lib.hid (Cel.Own.kept _ _ _ (fun g hg => hb.block g (Cel.Own.lt _ _ _ W0.out g hg)) W0.out)
      have U1t := Lib.hid (U0.out.trans (OutF.of_below hb))
      clear hb W0 U0
      obtain ⟨g1, hg1, _, ⟨v1, e1⟩, z1, ho1, hu1⟩ := mark_val W1t.out HF.out (i := j * 2 + 1) (by omega) HL.out (HG.out 1 (by decide))
      obtain rfl : g0 = g1 := by simpa using hg1
      have e9 : atM (celsE cEntry L) k (j * 2 + 1) = q + cntL ((cEntry.cels x).take 1) := HA.out 1 (by decide)
      have e8 : markV (.string x.f1) (atM (celsE cEntry L) k (j * 2 + 1)) = (.string (markT (q + 1))) := by rw [e9]; show Value.string (markT (q + (1 + 0))) = _; rw [show q + (1 + 0) = (q + 1) from by omega]
      rw [e8] at ho1 hu1
      clear e8 e9
      have W1 := Lib.hid ho1
      have U1 := Lib.hid (U1t.out.trans hu1)
      clear ho1 hu1 W1t U1t
      go_wp2
      clear e1 z1
      have HR : Hid ((q + 2) = k + cntL (celsE cEntry (L.take (j + 1)))) := Lib.hid (by have := HQ.out; have := HX.out; have : cntL (cEntry.cels x) = (1 + (1 + 0)) := rfl; omega)
      have hr9 : (q + 2) ≤ 100000000 := by have := HM2.out; have : cntL (cEntry.cels x) = (1 + (1 + 0)) := rfl; omega
      go_roundw
      case rel => exact ⟨j + 1, (q + 2), by omega, by omega, hr9, HR, by go_num, by go_num, by rw [Nat.add_mul, Nat.one_mul]; exact W1, U1⟩
      case measure => (simp [intOf]; try omega)
    · obtain rfl : j = n := by omega
      have ho := HW.out
      rw [stM_all _ _ (by rw [HL.out]; omega)] at ho
      have HO := Lib.hid ho
      clear ho
      go_wp2
      go_ret
      refine ⟨ret_i64m (by have := HQ.out; rw [List.take_of_length_le (by rw [HN.out]; omega)] at this; rw [HC.out]; omega), HU.out, ?_⟩
      have h9 := HO.out
      rw [← HN.out] at h9 ⊢
      exact h9

theorem markEntryS_obj (v : Value) (L : List EntryR) (lo hi k : Nat) (kz : Int) (w : World) (hkz : kz = (k : Int)) (h0 : 0 < k) (hk : k + (celRow cEntry L).cnt ≤ 100000000) (hz : (celRow cEntry L).sz ≤ 100000000) (ho : Obj1 w lo hi (celRow cEntry L) v) :
    Calls Tryz.prog 150 #[v, .int .i64 kz] w fun e w' => e = .returned (.int .i64 ((k + (celRow cEntry L).cnt : Nat) : Int)) ∧ OutR lo hi w w' ∧ Obj1 w' lo hi ((celRow cEntry L).mk k) v := by
  obtain ⟨F, hn, hb, ho⟩ := ho
  refine (markEntryS_any v L F k kz w hkz h0 hk hz hn ho).mono ?_
  rintro e w' ⟨he, hu, hw⟩
  exact ⟨he, OutR.of hu hb, F, hn, hb, hw⟩
end Go.Proofs.YtkfkjcadmdcbnaaGreatDoor
namespace Go.Proofs.YtkfkjcadmdcbnaaGreatDoor
open Go.RowKit Go.Proofs.YtkfkjcadmdcbnaaGreatDoor.Parts Go.Proofs.YtkfkjcadmdcbnaaGreatDoor.Hexa

set_option maxRecDepth 100000 in
set_option maxHeartbeats 1000000 in
theorem markInoS_any (v : Value) (L : List InoR) (F : List Nat) (k : Nat) (kz : Int) (w : World) (hkz : kz = (k : Int)) (h0 : 0 < k) (hk : k + (celRow cIno L).cnt ≤ 100000000) (hz : (celRow cIno L).sz ≤ 100000000) (hF : F.Nodup) (ho : (celRow cIno L).Own w F v) :
    Calls Tryz.prog 89 #[v, .int .i64 kz] w (MarkPost (celRow cIno L) F v k w) := by
  subst hkz
  obtain ⟨a, n, c, rfl, hn⟩ := row_form (Cel.Own.rd _ _ _ ho)
  have HN := Lib.hid hn
  have hz' : n + szL (celsE cIno L) ≤ 100000000 := by rw [← hn]; exact hz
  have hn9 : n ≤ 100000000 := by omega
  have HZ : Hid (szL (celsE cIno L) ≤ 100000000) := Lib.hid (by omega)
  have HF := Lib.hid hF
  have HC : Hid ((celRow cIno L).cnt = cntL (celsE cIno L)) := Lib.hid rfl
  have hk' : k + cntL (celsE cIno L) ≤ 100000000 := hk
  have HL : Hid ((celsE cIno L).length = n * 6) := Lib.hid (by rw [celsE_length, hn]; rfl)
  have HO : Hid ((Cel.sl cIno.e 6 n (stM (celsE cIno L) k 0)).Own w F (.slice a n c)) := Lib.hid (by rw [stM_zero]; have h9 := ho; unfold celRow at h9; rw [hn] at h9; exact h9)
  clear hn hF ho hk hz hz'
  go_enter Tryz.func89, Tryz.ntmps89
  go_wp2
  go_loopw [1, 5] (fun kv iv wr => ∃ (j q : Nat), j ≤ n ∧ 0 < q ∧ q ≤ 100000000 ∧ Hid (q = k + cntL (celsE cIno (L.take j))) ∧ iv = .int .i64 j ∧ kv = .int .i64 q ∧ Hid ((Cel.sl cIno.e 6 n (stM (celsE cIno L) k (j * 6))).Own wr F (.slice a n c)) ∧ Hid (OutF F w wr)) (fun _ iv _ => n - (intOf iv).toNat)
  case atStart => exact ⟨0, k, Nat.zero_le _, h0, by omega, Lib.hid (by simp only [List.take_zero, celsE, cntL]; rfl), rfl, rfl, by rw [Nat.zero_mul]; exact HO, Lib.hid (OutF.refl _ _)⟩
  case round =>
    clear HO
    obtain ⟨j, q, hj, hq0, hq9, HQ, rfl, rfl, HW, HU⟩ := hrel
    by_cases hlt : j < n
    · have hjL : j < L.length := by rw [HN.out]; exact hlt
      have HX := Lib.hid (cntL_next cIno hjL)
      have hm := cntL_take cIno L (j + 1)
      have HY := Lib.hid (Nat.le_trans (szL_at cIno L j hjL) HZ.out)
      have HG : Hid (∀ o, o < 6 → (celsE cIno L).getD (j * 6 + o) default = (cIno.cels (L.getD j default)).getD o default) := Lib.hid (fun o ho => celsE_getD cIno L j o hjL ho)
      have HA : Hid (∀ o, o ≤ 6 → atM (celsE cIno L) k (j * 6 + o) = q + cntL ((cIno.cels (L.getD j default)).take o)) := Lib.hid (fun o ho => by rw [HQ.out]; exact atM_in cIno hjL ho)
      obtain ⟨x, hx⟩ : ∃ x, L.getD j default = x := ⟨_, rfl⟩
      rw [hx] at HX HG HA HY
      have hm2 : q + cntL (cIno.cels x) ≤ 100000000 := by have := HQ.out; have := HX.out; omega
      have HM2 := Lib.hid hm2
      have hm3 : q + 4 ≤ 100000000 := by have : cntL (cIno.cels x) = (1 + (1 + (1 + (1 + ((celRow cRec x.R).cnt + ((celRow cEntry x.E).cnt + 0)))))) := rfl; omega
      clear hx hjL hm hm2
      obtain ⟨g0, hg0, _, ⟨v0, e0⟩, z0, ho0, hu0⟩ := mark_val HW.out HF.out (i := j * 6) (by omega) HL.out (HG.out 0 (by decide))
      subst hg0
      have e9 : atM (celsE cIno L) k (j * 6) = q + cntL ((cIno.cels x).take 0) := HA.out 0 (by decide)
      have e8 : markV (.int .i64 x.kd) (atM (celsE cIno L) k (j * 6)) = (.int .i64 ((q : Int))) := by rw [e9]; show Value.int .i64 ((q + 0 : Nat) : Int) = _; rw [show ((q + 0 : Nat) : Int) = (q : Int) from by omega]
      rw [e8] at ho0 hu0
      clear e8 e9
      have W0 := Lib.hid ho0
      have U0 := Lib.hid (HU.out.trans hu0)
      clear ho0 hu0 HW HU
      obtain ⟨g1, hg1, _, ⟨v1, e1⟩, z1, ho1, hu1⟩ := mark_val W0.out HF.out (i := j * 6 + 1) (by omega) HL.out (HG.out 1 (by decide))
      obtain rfl : g0 = g1 := by simpa using hg1
      have e9 : atM (celsE cIno L) k (j * 6 + 1) = q + cntL ((cIno.cels x).take 1) := HA.out 1 (by decide)
      have e8 : markV (.int .i64 x.sz) (atM (celsE cIno L) k (j * 6 + 1)) = (.int .i64 ((q : Int) + 1)) := by rw [e9]; show Value.int .i64 ((q + (1 + 0) : Nat) : Int) = _; rw [show ((q + (1 + 0) : Nat) : Int) = (q : Int) + 1 from by omega]
      rw [e8] at ho1 hu1
      clear e8 e9
      have W1 := Lib.hid ho1
      have U1 := Lib.hid (U0.out.trans hu1)
      clear ho1 hu1 W0 U0
      obtain ⟨g2, hg2, _, ⟨v2, e2⟩, z2, ho2, hu2⟩ := mark_val W1.out HF.out (i := j * 6 + 2) (by omega) HL.out (HG.out 2 (by decide))
      obtain rfl : g0 = g2 := by simpa using hg2
      have e9 : atM (celsE cIno L) k (j * 6 + 2) = q + cntL ((cIno.cels x).take 2) := HA.out 2 (by decide)
      have e8 : markV (.int .i64 x.gn) (atM (celsE cIno L) k (j * 6 + 2)) = (.int .i64 ((q : Int) + 1 + 1)) := by rw [e9]; show Value.int .i64 ((q + (1 + (1 + 0)) : Nat) : Int) = _; rw [show ((q + (1 + (1 + 0)) : Nat) : Int) = (q : Int) + 1 + 1 from by omega]
      rw [e8] at ho2 hu2
      clear e8 e9
      have W2 := Lib.hid ho2
      have U2 := Lib.hid (U1.out.trans hu2)
      clear ho2 hu2 W1 U1
      go_wp2_with fail
      clear e0 z0 e1 z1 e2 z2
      obtain ⟨wa3, hwa⟩ : ∃ y, y = (((wr.setCell ⟨g0, j * 6, none⟩ (.int .i64 ((q : Int)))).setCell ⟨g0, j * 6 + 1, none⟩ (.int .i64 ((q : Int) + 1))).setCell ⟨g0, j * 6 + 2, none⟩ (.int .i64 ((q : Int) + 1 + 1))) := ⟨_, rfl⟩
      rw [← hwa] at W2 U2 ⊢
      clear hwa
      refine (markText_n _ (q + 3) _ (by omega) (by omega) (by omega)).mono ?_
      rintro e y3 ⟨rfl, hb⟩
      have W3t := Lib.hid (Cel.Own.kept _ _ _ (fun g hg => hb.block g (Cel.Own.lt _ _ _ W2.out g hg)) W2.out)
      have U3t := Lib.hid (U2.out.trans (OutF.of_below hb))
      clear hb W2 U2
      obtain ⟨g3, hg3, _, ⟨v3, e3⟩, z3, ho3, hu3⟩ := mark_val W3t.out HF.out (i := j * 6 + 3) (by omega) HL.out (HG.out 3 (by decide))
      obtain rfl : g0 = g3 := by simpa using hg3
      have e9 : atM (celsE cIno L) k (j * 6 + 3) = q + cntL ((cIno.cels x).take 3) := HA.out 3 (by decide)
      have e8 : markV (.string x.key) (atM (celsE cIno L) k (j * 6 + 3)) = (.string (markT (q + 3))) := by rw [e9]; show Value.string (markT (q + (1 + (1 + (1 + 0))))) = _; rw [show q + (1 + (1 + (1 + 0))) = (q + 3) from by omega]
      rw [e8] at ho3 hu3
      clear e8 e9
      have W3 := Lib.hid ho3
      have U3 := Lib.hid (U3t.out.trans hu3)
      clear ho3 hu3 W3t U3t
      obtain ⟨g4, G4, u4, hg4, hG4, e4, ho4, hK4⟩ := mark_sub W3.out HF.out (i := j * 6 + 4) (by omega) HL.out
      obtain rfl : g0 = g4 := by simpa using hg4
      rw [HG.out 4 (by decide)] at ho4 hK4
      change (celRow cRec x.R).Own _ _ _ at ho4
      obtain ⟨p4, m4, s4, rfl, hm4⟩ := row_form (Cel.Own.rd _ _ _ ho4)
      subst hm4
      have HO4 := Lib.hid ho4
      have HG4 := Lib.hid hG4
      have HK4 : Hid (∀ w', OutF G4 (y3.setCell ⟨g0, j * 6 + 3, none⟩ (.string (markT (q + 3)))) w' → ((celRow cRec x.R).mk (q + 4)).Own w' G4 (.slice p4 x.R.length s4) → (Cel.sl cIno.e 6 n (stM (celsE cIno L) k (j * 6 + 4 + 1))).Own w' F (.slice (some ⟨g0, 0, none⟩) n c) ∧ OutF F (y3.setCell ⟨g0, j * 6 + 3, none⟩ (.string (markT (q + 3)))) w') := Lib.hid (by
        have e9 := HA.out 4 (by decide)
        rw [show q + cntL ((cIno.cels x).take 4) = (q + 4) by show q + (1 + (1 + (1 + (1 + 0)))) = _; omega] at e9
        rw [e9] at hK4
        exact hK4)
      clear ho4 hG4 hK4
      go_wp2_with fail
      clear e3 z3
      refine (markRecS_any _ x.R G4 (q + 4) _ _ (by omega) (by omega) (by have := HM2.out; have : cntL (cIno.cels x) = (1 + (1 + (1 + (1 + ((celRow cRec x.R).cnt + ((celRow cEntry x.E).cnt + 0)))))) := rfl; omega) (by have := HY.out; rw [cIno_sz] at this; omega) HG4.out HO4.out).mono ?_
      rintro e y4 ⟨he, hu, hw⟩
      obtain ⟨q4, hq4⟩ : ∃ y, (q + 4) + (celRow cRec x.R).cnt = y := ⟨_, rfl⟩
      rw [hq4] at he
      subst he
      have HQ4 := Lib.hid hq4
      have hl4 : q4 + 0 ≤ 100000000 := by have := HM2.out; have : cntL (cIno.cels x) = (1 + (1 + (1 + (1 + ((celRow cRec x.R).cnt + ((celRow cEntry x.E).cnt + 0)))))) := rfl; omega
      obtain ⟨hw1, hu1⟩ := HK4.out _ hu hw
      have W4 := Lib.hid hw1
      have U4 := Lib.hid (U3.out.trans hu1)
      have hb4 : 0 < q4 := by omega
      clear hw1 hu1 hu hw HK4 hq4 e4 HO4 W3 U3
      obtain ⟨g5, G5, u5, hg5, hG5, e5, ho5, hK5⟩ := mark_sub W4.out HF.out (i := j * 6 + 5) (by omega) HL.out
      obtain rfl : g0 = g5 := by simpa using hg5
      rw [HG.out 5 (by decide)] at ho5 hK5
      change (celRow cEntry x.E).Own _ _ _ at ho5
      obtain ⟨p5, m5, s5, rfl, hm5⟩ := row_form (Cel.Own.rd _ _ _ ho5)
      subst hm5
      have HO5 := Lib.hid ho5
      have HG5 := Lib.hid hG5
      have HK5 : Hid (∀ w', OutF G5 y4 w' → ((celRow cEntry x.E).mk q4).Own w' G5 (.slice p5 x.E.length s5) → (Cel.sl cIno.e 6 n (stM (celsE cIno L) k (j * 6 + 5 + 1))).Own w' F (.slice (some ⟨g0, 0, none⟩) n c) ∧ OutF F y4 w') := Lib.hid (by
        have e9 := HA.out 5 (by decide)
        rw [show q + cntL ((cIno.cels x).take 5) = q4 by have := HQ4.out; show q + (1 + (1 + (1 + (1 + ((celRow cRec x.R).cnt + 0))))) = _; omega] at e9
        rw [e9] at hK5
        exact hK5)
      clear ho5 hG5 hK5
      go_wp2_with fail
      refine (markEntryS_any _ x.E G5 q4 _ _ (by omega) (by omega) (by have := HM2.out; have := HQ4.out; have : cntL (cIno.cels x) = (1 + (1 + (1 + (1 + ((celRow cRec x.R).cnt + ((celRow cEntry x.E).cnt + 0)))))) := rfl; omega) (by have := HY.out; rw [cIno_sz] at this; omega) HG5.out HO5.out).mono ?_
      rintro e y5 ⟨he, hu, hw⟩
      obtain ⟨q5, hq5⟩ : ∃ y, q4 + (celRow cEntry x.E).cnt = y := ⟨_, rfl⟩
      rw [hq5] at he
      subst he
      have HQ5 := Lib.hid hq5
      have hl5 : q5 + 0 ≤ 100000000 := by have := HM2.out; have := HQ4.out; have : cntL (cIno.cels x) = (1 + (1 + (1 + (1 + ((celRow cRec x.R).cnt + ((celRow cEntry x.E).cnt + 0)))))) := rfl; omega
      obtain ⟨hw1, hu1⟩ := HK5.out _ hu hw
      have W5 := Lib.hid hw1
      have U5 := Lib.hid (U4.out.trans hu1)
      have hb5 : 0 < q5 := by omega
      clear hw1 hu1 hu hw HK5 hq5 e5 HO5 W4 U4
      go_wp2
      have HR : Hid (q5 = k + cntL (celsE cIno (L.take (j + 1)))) := Lib.hid (by have := HQ.out; have := HX.out; have := HQ4.out; have := HQ5.out; have : cntL (cIno.cels x) = (1 + (1 + (1 + (1 + ((celRow cRec x.R).cnt + ((celRow cEntry x.E).cnt + 0)))))) := rfl; omega)
      have hr9 : q5 ≤ 100000000 := by have := HM2.out; have := HQ4.out; have := HQ5.out; have : cntL (cIno.cels x) = (1 + (1 + (1 + (1 + ((celRow cRec x.R).cnt + ((celRow cEntry x.E).cnt + 0)))))) := rfl; omega
      go_roundw
      case rel => exact ⟨j + 1, q5, by omega, by omega, hr9, HR, by go_num, by go_num, by rw [Nat.add_mul, Nat.one_mul]; exact W5, U5⟩
      case measure => (simp [intOf]; try omega)
    · obtain rfl : j = n := by omega
      have ho := HW.out
      rw [stM_all _ _ (by rw [HL.out]; omega)] at ho
      have HO := Lib.hid ho
      clear ho
      go_wp2
      go_ret
      refine ⟨ret_i64m (by have := HQ.out; rw [List.take_of_length_le (by rw [HN.out]; omega)] at this; rw [HC.out]; omega), HU.out, ?_⟩
      have h9 := HO.out
      rw [← HN.out] at h9 ⊢
      exact h9

theorem markInoS_obj (v : Value) (L : List InoR) (lo hi k : Nat) (kz : Int) (w : World) (hkz : kz = (k : Int)) (h0 : 0 < k) (hk : k + (celRow cIno L).cnt ≤ 100000000) (hz : (celRow cIno L).sz ≤ 100000000) (ho : Obj1 w lo hi (celRow cIno L) v) :
    Calls Tryz.prog 89 #[v, .int .i64 kz] w fun e w' => e = .returned (.int .i64 ((k + (celRow cIno L).cnt : Nat) : Int)) ∧ OutR lo hi w w' ∧ Obj1 w' lo hi ((celRow cIno L).mk k) v := by
  obtain ⟨F, hn, hb, ho⟩ := ho
  refine (markInoS_any v L F k kz w hkz h0 hk hz hn ho).mono ?_
  rintro e w' ⟨he, hu, hw⟩
  exact ⟨he, OutR.of hu hb, F, hn, hb, hw⟩
end Go.Proofs.YtkfkjcadmdcbnaaGreatDoor
namespace Go.Proofs.YtkfkjcadmdcbnaaGreatDoor
open Go.RowKit Go.Proofs.YtkfkjcadmdcbnaaGreatDoor.Parts Go.Proofs.YtkfkjcadmdcbnaaGreatDoor.Hexa

theorem cPart_top (x : PartR) : cntTop (cPart.cels x) = ((celRow cInt x.st).cnt + ((celRow cIno x.ino).cnt + 0)) := rfl
set_option maxRecDepth 100000 in
set_option maxHeartbeats 1000000 in
theorem markPart_st (x : PartR) (a1 : Option Addr) (c1 : Nat) (a2 : Option Addr) (c2 : Nat) (lo hi k : Nat) (kz : Int) (w : World) (hkz : kz = (k : Int)) (h0 : 0 < k) (hk : k + cntTop (cPart.cels x) ≤ 100000000) (hz : szL (cPart.cels x) ≤ 100000000) (ho : Objs w lo hi (cPart.cels x) [.int .i64 x.ser, .slice a1 x.st.length c1, .slice a2 x.ino.length c2]) :
    Calls Tryz.prog 29 #[.agg #[.int .i64 x.ser, .slice a1 x.st.length c1, .slice a2 x.ino.length c2], .int .i64 kz] w fun e w' => e = .returned (.int .i64 ((k + cntTop (cPart.cels x) : Nat) : Int)) ∧ OutR lo hi w w' ∧ Objs w' lo hi (mkTop (cPart.cels x) k) [.int .i64 x.ser, .slice a1 x.st.length c1, .slice a2 x.ino.length c2] := by
  subst hkz
  obtain ⟨F0, hn, hb, hO⟩ := ho
  replace hO := own_cons_val hO
  obtain ⟨F1a, R1, e1, o1, hO⟩ := own_cons hO
  obtain ⟨F2a, R2, e2, o2, hO⟩ := own_cons hO
  have en := own_nil hO
  clear hO
  rw [en] at e2
  rw [e2] at e1
  rw [e1] at hn hb
  clear en e1 e2
  have HN := Lib.hid hn
  have HB := Lib.hid hb
  have N1 : Hid (F1a.Nodup) := Lib.hid (by have := hn; simp only [List.nodup_append] at this; simp_all)
  have N2 : Hid (F2a.Nodup) := Lib.hid (by have := hn; simp only [List.nodup_append] at this; simp_all)
  have D1_2 : Hid (∀ g ∈ F1a, g ∉ F2a) := Lib.hid (fun g h1 h2 => by have h3 := hn; simp only [List.nodup_append, List.mem_append] at h3; simp only [List.not_mem_nil, or_false] at h3; grind)
  have D2_1 : Hid (∀ g ∈ F2a, g ∉ F1a) := Lib.hid (fun g h1 h2 => by have h3 := hn; simp only [List.nodup_append, List.mem_append] at h3; simp only [List.not_mem_nil, or_false] at h3; grind)
  have O1 := Lib.hid o1
  have P1 : Hid (∀ g ∈ F1a, g < w.heap.size) := Lib.hid (Cel.Own.lt _ _ _ o1)
  have O2 := Lib.hid o2
  have P2 : Hid (∀ g ∈ F2a, g < w.heap.size) := Lib.hid (Cel.Own.lt _ _ _ o2)
  rw [cPart_top] at hk
  have HZ := Lib.hid hz
  have HK := Lib.hid hk
  clear hn hb hz hk o1 o2
  have B0 := Lib.hid (below_bk w (.cells #[.int .i64 x.ser, .slice a1 x.st.length c1, .slice a2 x.ino.length c2] 52))
  have T0 := Lib.hid (Bk.alloc w #[.int .i64 x.ser, .slice a1 x.st.length c1, .slice a2 x.ino.length c2] 52)
  have U0 := Lib.hid (OutF.of_below (F := (F1a ++ (F2a ++ []))) B0.out)
  have O1_0 : Hid ((celRow cInt x.st).Own _ F1a _) := Lib.hid (Cel.Own.kept _ _ _ (fun g hg => B0.out.block g (P1.out g hg)) O1.out)
  have O2_0 : Hid ((celRow cIno x.ino).Own _ F2a _) := Lib.hid (Cel.Own.kept _ _ _ (fun g hg => B0.out.block g (P2.out g hg)) O2.out)
  clear O1 O2
  go_enter Tryz.func29, Tryz.ntmps29
  go_wp2_with fail
  refine (markIntS_any _ x.st F1a k _ _ (by omega) (by omega) (by have := HK.out; omega) (by have := HZ.out; rw [cPart_sz] at this; omega) N1.out O1_0.out).mono ?_
  rintro e w1 ⟨he, hu, hw⟩
  obtain ⟨k1, hq1⟩ : ∃ y, k + (celRow cInt x.st).cnt = y := ⟨_, rfl⟩
  rw [hq1] at he
  subst he
  have HQ1 := Lib.hid hq1
  have hb1 : 0 < k1 := by omega
  have hl1 : k1 ≤ 100000000 := by have := HK.out; omega
  have T1 : Hid (Bk w1 w.heap.size #[.int .i64 x.ser, .slice a1 x.st.length c1, .slice a2 x.ino.length c2] 52) := Lib.hid ((hu.block w.heap.size (fun h => by have := P1.out _ h; omega) T0.out.lt).trans T0.out)
  have U1 := Lib.hid (U0.out.trans (hu.mono (G := (F1a ++ (F2a ++ []))) (fun g hg => by simp only [List.mem_append]; simp [hg])))
  have O1_1 := Lib.hid hw
  have O2_1 := Lib.hid (Cel.Own.kept _ _ _ (fun g hg => hu.block g (D2_1.out g hg) (Cel.Own.lt _ _ _ O2_0.out g hg)) O2_0.out)
  have d1 := T1.out.cell (j := 2) rfl
  clear hu hw hq1 T0 U0 O1_0 O2_0
  go_wp2_with fail
  refine (markInoS_any _ x.ino F2a k1 _ _ (by omega) (by omega) (by have := HK.out; have := HQ1.out; omega) (by have := HZ.out; rw [cPart_sz] at this; omega) N2.out O2_1.out).mono ?_
  rintro e w2 ⟨he, hu, hw⟩
  obtain ⟨k2, hq2⟩ : ∃ y, k1 + (celRow cIno x.ino).cnt = y := ⟨_, rfl⟩
  rw [hq2] at he
  subst he
  have HQ2 := Lib.hid hq2
  have hb2 : 0 < k2 := by omega
  have hl2 : k2 ≤ 100000000 := by have := HK.out; have := HQ1.out; omega
  have T2 : Hid (Bk w2 w.heap.size #[.int .i64 x.ser, .slice a1 x.st.length c1, .slice a2 x.ino.length c2] 52) := Lib.hid ((hu.block w.heap.size (fun h => by have := P2.out _ h; omega) T1.out.lt).trans T1.out)
  have U2 := Lib.hid (U1.out.trans (hu.mono (G := (F1a ++ (F2a ++ []))) (fun g hg => by simp only [List.mem_append]; simp [hg])))
  have O2_2 := Lib.hid hw
  have O1_2 := Lib.hid (Cel.Own.kept _ _ _ (fun g hg => hu.block g (D1_2.out g hg) (Cel.Own.lt _ _ _ O1_1.out g hg)) O1_1.out)
  clear hu hw hq2 T1 U1 O1_1 O2_1
  go_wp2
  go_ret
  have E1 : ((celRow cInt x.st).mk k).Own w2 F1a (.slice a1 x.st.length c1) := by exact O1_2.out
  have E2 : ((celRow cIno x.ino).mk (k + (celRow cInt x.st).cnt)).Own w2 F2a (.slice a2 x.ino.length c2) := by rw [show (k + (celRow cInt x.st).cnt) = k1 by have := HQ1.out; have := HQ2.out; omega]; exact O2_2.out
  refine ⟨ret_i64m (by rw [cPart_top]; have := HQ1.out; have := HQ2.out; omega), OutR.of U2.out HB.out, (F1a ++ (F2a ++ [])), HN.out, HB.out, ⟨_, _, [], _, rfl, rfl, ⟨rfl, rfl⟩, ⟨_, _, F1a, _, rfl, rfl, E1, ⟨_, _, F2a, _, rfl, rfl, E2, ⟨rfl, rfl⟩⟩⟩⟩⟩
end Go.Proofs.YtkfkjcadmdcbnaaGreatDoor
namespace Go.Proofs.YtkfkjcadmdcbnaaGreatDoor
open Go.RowKit

theorem cntRecs : ∀ L : List RecR, cntL (celsE cRec L) = 3 * L.length
  | [] => rfl
  | x :: r => by rw [celsE, cntL_append, cRec_cnt, cntRecs r, List.length_cons]; omega
theorem cntEnts : ∀ L : List EntryR, cntL (celsE cEntry L) = 2 * L.length
  | [] => rfl
  | x :: r => by rw [celsE, cntL_append, cEntry_cnt, cntEnts r, List.length_cons]; omega
theorem cntNums : ∀ L : List Int, cntL (celsE cInt L) = L.length
  | [] => rfl
  | x :: r => by rw [celsE, cntL_append, cntNums r, List.length_cons]; show 1 + 0 + _ = _; omega
theorem cntInos : ∀ L : List InoR, cntL (celsE cIno L) ≤ 4 * (L.length + szL (celsE cIno L))
  | [] => Nat.zero_le _
  | x :: r => by
    have h1 := cntInos r
    have h2 : cntL (cIno.cels x) ≤ 4 + 4 * szL (cIno.cels x) := by
      rw [cIno_cnt, cIno_sz]
      have e1 : (celRow cRec x.R).cnt = cntL (celsE cRec x.R) := rfl
      have e2 : (celRow cEntry x.E).cnt = cntL (celsE cEntry x.E) := rfl
      have e3 := sz_row' cRec x.R
      have e4 := sz_row' cEntry x.E
      have e5 := cntRecs x.R
      have e6 := cntEnts x.E
      omega
    rw [celsE, cntL_append, szL_append, List.length_cons]
    omega
theorem part_marks (p : PartR) (h : szL (cPart.cels p) ≤ 1048576) : 1 + cntTop (cPart.cels p) ≤ 100000000 := by
  rw [cPart_top]
  rw [cPart_sz] at h
  have e1 : (celRow cInt p.st).cnt = cntL (celsE cInt p.st) := rfl
  have e2 : (celRow cIno p.ino).cnt = cntL (celsE cIno p.ino) := rfl
  have e3 := sz_row' cInt p.st
  have e4 := sz_row' cIno p.ino
  have e5 := cntNums p.st
  have e6 := cntInos p.ino
  omega
end Go.Proofs.YtkfkjcadmdcbnaaGreatDoor
namespace Go.Proofs.YtkfkjcadmdcbnaaGreatDoor
open Go.RowKit

theorem recs_szL : ∀ {R : List RecR}, RecsOk R R.length → szL (celsE cRec R) ≤ 4 * R.length := by
  intro R h
  have h1 : ∀ x ∈ R, x.f2.size = 4 := fun x hx => by
    obtain ⟨j, hj, e⟩ := List.mem_iff_getElem.1 hx
    have h2 := (h j hj).1.2.2
    have e2 : R.getD j default = x := by simpa [List.getD, hj] using e
    rw [e2] at h2
    exact h2
  clear h
  induction R with
  | nil => exact Nat.le_refl _
  | cons x r ih =>
    have h2 := ih (fun y hy => h1 y (List.mem_cons_of_mem _ hy))
    have h3 := h1 x List.mem_cons_self
    rw [celsE, szL_append, cRec_sz, List.length_cons]
    omega
theorem ents_szL : ∀ {E : List EntryR}, EntsOk E E.length → szL (celsE cEntry E) ≤ 7 * E.length := by
  intro E h
  have h1 : ∀ x ∈ E, x.f1.size ≤ 7 := fun x hx => by
    obtain ⟨j, hj, e⟩ := List.mem_iff_getElem.1 hx
    have h2 := (h j hj).1.2.1.2
    have e2 : E.getD j default = x := by simpa [List.getD, hj] using e
    rw [e2] at h2
    exact h2
  clear h
  induction E with
  | nil => exact Nat.le_refl _
  | cons x r ih =>
    have h2 := ih (fun y hy => h1 y (List.mem_cons_of_mem _ hy))
    have h3 := h1 x List.mem_cons_self
    rw [celsE, szL_append, cEntry_sz, List.length_cons]
    omega
theorem nil_recs {R : List RecR} (h : R.length = 0) : szL (celsE cRec R) = 0 := by rw [List.length_eq_zero_iff.1 h]; rfl
theorem nil_ents {E : List EntryR} (h : E.length = 0) : szL (celsE cEntry E) = 0 := by rw [List.length_eq_zero_iff.1 h]; rfl
theorem ino_szL {n : InoR} (h : InoOk n) : szL (cIno.cels n) ≤ 100 := by
  rw [cIno_sz, sz_row', sz_row']
  rcases h with ⟨_, ⟨_, h⟩ | ⟨_, h⟩ | ⟨_, h⟩⟩
  · obtain ⟨_, h1, h2, h3⟩ := h
    rw [nil_recs h2, nil_ents h3]
    omega
  · obtain ⟨⟨h0, h0'⟩, h1, h2, h3, h4⟩ := h
    have h5 := recs_szL h4
    rw [nil_ents h3]
    have h6 : n.R.length ≤ 4 := by unfold pagesZ at h2; split at h2 <;> omega
    omega
  · obtain ⟨_, h1, h2, h3, h4⟩ := h
    have h5 := ents_szL h4
    rw [nil_recs h2]
    omega
theorem readIno_szL (L : List ByteArray) : szL (cIno.cels (readInoR L)) ≤ 100 := by
  by_cases h : ReadOk L
  · rw [readInoR_yes h]; exact ino_szL (readOk_ok h)
  · rw [readInoR_no h]; decide
theorem inos_szL : ∀ {M : List InoR}, (∀ x ∈ M, szL (cIno.cels x) ≤ 100) → szL (celsE cIno M) ≤ 100 * M.length
  | [], _ => Nat.le_refl _
  | x :: r, h => by
    have h1 := inos_szL (M := r) (fun y hy => h y (List.mem_cons_of_mem _ hy))
    have h2 := h x List.mem_cons_self
    rw [celsE, szL_append, List.length_cons]
    omega
theorem ints_szL : ∀ M : List Int, szL (celsE cInt M) = 0
  | [] => rfl
  | x :: r => by rw [celsE, szL_append, ints_szL r]; rfl
theorem rp_sz (K : ByteArray) (L : List C3) (T P I Q t : Int) : szL (cPart.cels (rpR K L T P I Q t)) ≤ 1048576 := by
  unfold rpR
  by_cases h : rpB K L T P I Q t = true
  · rw [if_pos h, cPart_sz, sz_row', sz_row', ints_szL]
    have hh : rpHas K L T P I Q t = true := by
      cases h9 : rpHas K L T P I Q t with
      | true => rfl
      | false => rw [rpB_has h9] at h; cases h
    have hg := (rpHas_geo hh).1.1
    have h1 : (rpInos K L T P I Q t I.toNat).length = I.toNat := rpInos_len _
    have h2 := inos_szL (M := rpInos K L T P I Q t I.toNat) (fun x hx => by
      unfold rpInos at hx
      obtain ⟨i, _, rfl⟩ := List.mem_map.1 hx
      exact readIno_szL _)
    have h3 : (rpSt K L T P I Q t).length ≤ 12 := rdR_len _ _
    obtain ⟨_, _, _, _, _, _, _, _⟩ := hg
    dsimp only
    omega
  · rw [if_neg h]; decide
theorem rp_marks (K : ByteArray) (L : List C3) (T P I Q t : Int) : 1 + cntTop (cPart.cels (rpR K L T P I Q t)) ≤ 100000000 := part_marks _ (rp_sz K L T P I Q t)
end Go.Proofs.YtkfkjcadmdcbnaaGreatDoor
namespace Go.Proofs.YtkfkjcadmdcbnaaGreatDoor
open Go.RowKit Go.Proofs.YtkfkjcadmdcbnaaGreatDoor.Parts Go.Proofs.YtkfkjcadmdcbnaaGreatDoor.Hexa

def cCell : EncC C3 := ⟨135, 3, fun x => [.val (.int .i64 x.l), .val (.string x.t), .val (.bool x.f)], fun _ => rfl⟩
theorem infoCellD : (Tryz.prog.info? 135).map (fun i => (i.zero, i.size, i.bytes)) = some (some (.agg #[.int .i64 0, .string ⟨#[]⟩, .bool false]), 3, 32) := by kernel_rfl
theorem cCell_form {w : World} {x : C3} {vs : List Value} (h : RdL w (cCell.cels x) vs) : vs = [.int .i64 x.l, .string x.t, .bool x.f] := by
  obtain ⟨v0, r0, e0, h0, v1, r1, e1, h1, v2, r2, e2, h2, hend⟩ := h
  have f0 : v0 = .int .i64 x.l := h0
  have f1 : v1 = .string x.t := h1
  have f2 : v2 = .bool x.f := h2
  have hend' : r2 = [] := hend
  rw [hend'] at e2
  rw [e2] at e1
  rw [e1] at e0
  rw [f0, f1, f2] at e0
  exact e0
theorem cCell_rd {w : World} {x : C3}  : RdL w (cCell.cels x) [.int .i64 x.l, .string x.t, .bool x.f] :=
  ⟨_, _, rfl, rfl, ⟨_, _, rfl, rfl, ⟨_, _, rfl, rfl, rfl⟩⟩⟩
theorem cCell_at {w : World} {L : List C3} {a : Option Addr} {n c : Nat} (h : (celRow cCell L).Rd w (.slice a n c)) (j : Nat) (hj : j < n) :
    ∃ (g off : Nat), a = some ⟨g, off, none⟩ ∧ g < w.heap.size ∧ w.cell? ⟨g, off + j * 3, none⟩ = some (.int .i64 (L.getD j default).l) ∧ w.cell? ⟨g, off + j * 3 + 1, none⟩ = some (.string (L.getD j default).t) ∧ w.cell? ⟨g, off + j * 3 + 2, none⟩ = some (.bool (L.getD j default).f) := by
  obtain ⟨g, off, vs, ha, hg, hr, hc⟩ := row_at h (by decide) j hj
  have hv := cCell_form hr
  subst hv
  exact ⟨g, off, ha, hg, hc 0 _ rfl, hc 1 _ rfl, hc 2 _ rfl⟩
theorem cCell_sz (x : C3) : szL (cCell.cels x) = (0 + (x.t.size + (0 + 0))) := rfl
theorem cCell_cnt (x : C3) : cntL (cCell.cels x) = (1 + (1 + (1 + 0))) := rfl

end Go.Proofs.YtkfkjcadmdcbnaaGreatDoor
namespace Go.Proofs.YtkfkjcadmdcbnaaGreatDoor
open Go.RowKit Go.Proofs.YtkfkjcadmdcbnaaGreatDoor.Parts Go.Proofs.YtkfkjcadmdcbnaaGreatDoor.Hexa

structure MemR where
  text : ByteArray
  cells : List C3
instance : Inhabited MemR := ⟨⟨ByteArray.empty, []⟩⟩
def cMem : EncC MemR := ⟨57, 2, fun x => [.val (.string x.text), celRow cCell x.cells], fun _ => rfl⟩
theorem infoMemD : (Tryz.prog.info? 57).map (fun i => (i.zero, i.size, i.bytes)) = some (some (.agg #[.string ⟨#[]⟩, .slice none 0 0]), 2, 40) := by kernel_rfl
theorem cMem_form {w : World} {x : MemR} {vs : List Value} (h : RdL w (cMem.cels x) vs) : ∃ (a1 : Option Addr) (c1 : Nat), vs = [.string x.text, .slice a1 x.cells.length c1] ∧ (celRow cCell x.cells).Rd w (.slice a1 x.cells.length c1) := by
  obtain ⟨v0, r0, e0, h0, v1, r1, e1, h1, hend⟩ := h
  have f0 : v0 = .string x.text := h0
  obtain ⟨a1, n1, c1, f1, g1⟩ := row_form (E := cCell) (L := x.cells) h1
  have hend' : r1 = [] := hend
  subst g1
  rw [hend'] at e1
  rw [e1] at e0
  rw [f0, f1] at e0
  rw [f1] at h1
  exact ⟨a1, c1, e0, h1⟩
theorem cMem_rd {w : World} {x : MemR} {a1 : Option Addr} {c1 : Nat} (h1 : (celRow cCell x.cells).Rd w (.slice a1 x.cells.length c1)) : RdL w (cMem.cels x) [.string x.text, .slice a1 x.cells.length c1] :=
  ⟨_, _, rfl, rfl, ⟨_, _, rfl, h1, rfl⟩⟩
theorem cMem_un {w : World} {x : MemR} {a1 : Option Addr} {c1 : Nat} (h : RdL w (cMem.cels x) [.string x.text, .slice a1 x.cells.length c1]) : (celRow cCell x.cells).Rd w (.slice a1 x.cells.length c1) := by
  replace h := (rd_cons h).2
  obtain ⟨h1, h⟩ := rd_cons h
  exact h1
theorem cMem_at {w : World} {L : List MemR} {a : Option Addr} {n c : Nat} (h : (celRow cMem L).Rd w (.slice a n c)) (j : Nat) (hj : j < n) :
    ∃ (g off : Nat) (a1 : Option Addr) (c1 : Nat), a = some ⟨g, off, none⟩ ∧ g < w.heap.size ∧ w.cell? ⟨g, off + j * 2, none⟩ = some (.string (L.getD j default).text) ∧ w.cell? ⟨g, off + j * 2 + 1, none⟩ = some (.slice a1 (L.getD j default).cells.length c1) ∧ (celRow cCell (L.getD j default).cells).Rd w (.slice a1 (L.getD j default).cells.length c1) := by
  obtain ⟨g, off, vs, ha, hg, hr, hc⟩ := row_at h (by decide) j hj
  obtain ⟨a1, c1, hv, h1⟩ := cMem_form hr
  subst hv
  exact ⟨g, off, a1, c1, ha, hg, hc 0 _ rfl, hc 1 _ rfl, h1⟩
theorem cMem_sz (x : MemR) : szL (cMem.cels x) = (x.text.size + ((celRow cCell x.cells).sz + 0)) := rfl
theorem cMem_cnt (x : MemR) : cntL (cMem.cels x) = (1 + ((celRow cCell x.cells).cnt + 0)) := rfl

end Go.Proofs.YtkfkjcadmdcbnaaGreatDoor
namespace Go.Proofs.YtkfkjcadmdcbnaaGreatDoor
open Go.RowKit Go.Proofs.YtkfkjcadmdcbnaaGreatDoor.Parts Go.Proofs.YtkfkjcadmdcbnaaGreatDoor.Hexa

theorem srcC_of_rd {w : World} {L : List C3} {a : Option Addr} {n c : Nat} (h : (celRow cCell L).Rd w (.slice a n c)) : SrcC w a n L := by
  obtain ⟨_, _, _, hv, hn⟩ := row_form h
  cases hv
  refine ⟨hn, fun j hj => ?_⟩
  obtain ⟨g, off, ha, hg, q0, q1, q2⟩ := cCell_at h j hj
  refine ⟨g, off, ha, hg, fun o v hv => ?_⟩
  match o, hv with
  | 0, hv => cases hv; exact q0
  | 1, hv => cases hv; exact q1
  | 2, hv => cases hv; exact q2
abbrev zeroP : Array Value := #[.int .i64 0, .slice none 0 0, .slice none 0 0]
theorem be3 {w0 W : World} {g : Nat} {v0 v1 v2 : Value} (h : Below w0.heap.size w0 W) (hg : w0.heap.size ≤ g) : Below w0.heap.size w0 (((W.setCell ⟨g, 0, none⟩ v0).setCell ⟨g, 1, none⟩ v1).setCell ⟨g, 2, none⟩ v2) :=
  ((h.setCell (p := ⟨g, 0, none⟩) hg _).setCell (p := ⟨g, 1, none⟩) hg _).setCell (p := ⟨g, 2, none⟩) hg _
def PartCut (wr : World) (x : PartR) (b : Bool) (pv fv : Value) (wx : World) : Prop :=
  fv = .bool b ∧ ∃ (wl wh : World) (gN : Nat) (a1 : Option Addr) (c1 : Nat) (a2 : Option Addr) (c2 : Nat), pv = .pointer (some ⟨gN, 0, none⟩) ∧ Bk wx gN #[.int .i64 x.ser, .slice a1 x.st.length c1, .slice a2 x.ino.length c2] 52
    ∧ Objs wx wl.heap.size wh.heap.size (cPart.cels x) [.int .i64 x.ser, .slice a1 x.st.length c1, .slice a2 x.ino.length c2] ∧ (gN < wl.heap.size ∨ wh.heap.size ≤ gN) ∧ wr.heap.size ≤ wl.heap.size ∧ wl.heap.size ≤ wh.heap.size ∧ wh.heap.size ≤ wx.heap.size ∧ wr.heap.size ≤ gN ∧ gN < wx.heap.size ∧ Below wr.heap.size wr wx
theorem partCut_new {wr wl wd : World} {x : PartR} {b : Bool} {a1 a2 : Option Addr} {c1 c2 : Nat} (hb : Below wr.heap.size wr wd) (ho : Objs wd wl.heap.size wd.heap.size (cPart.cels x) [.int .i64 x.ser, .slice a1 x.st.length c1, .slice a2 x.ino.length c2]) (hlo : wr.heap.size ≤ wl.heap.size) (hlh : wl.heap.size ≤ wd.heap.size) :
    PartCut wr x b (.pointer (some ⟨wd.heap.size, 0, none⟩)) (.bool b) (wd.alloc (.cells #[.int .i64 x.ser, .slice a1 x.st.length c1, .slice a2 x.ino.length c2] 52)) := by
  have hba := below_bk wd (.cells #[.int .i64 x.ser, .slice a1 x.st.length c1, .slice a2 x.ino.length c2] 52)
  exact ⟨rfl, wl, wd, _, a1, c1, a2, c2, rfl, Bk.alloc _ _ _, ho.later hba, .inr (Nat.le_refl _), hlo, hlh, hba.size, hb.size, (Bk.alloc wd _ _).lt, hb.trans (hba.mono hb.size)⟩
theorem partCut_old {wr wl wd : World} {x : PartR} {b : Bool} {gN : Nat} {a1 a2 : Option Addr} {c1 c2 : Nat} (hn : Bk wd gN zeroP 52) (hg : wr.heap.size ≤ gN) (hl : gN < wl.heap.size) (ho : Objs wd wl.heap.size wd.heap.size (cPart.cels x) [.int .i64 x.ser, .slice a1 x.st.length c1, .slice a2 x.ino.length c2]) (hlo : wr.heap.size ≤ wl.heap.size) (hlh : wl.heap.size ≤ wd.heap.size) (hb : Below wr.heap.size wr wd) :
    PartCut wr x b (.pointer (some ⟨gN, 0, none⟩)) (.bool b) (((wd.setCell ⟨gN, 0, none⟩ (.int .i64 x.ser)).setCell ⟨gN, 1, none⟩ (.slice a1 x.st.length c1)).setCell ⟨gN, 2, none⟩ (.slice a2 x.ino.length c2)) := by
  have K := (((ButE.refl gN wd).then_set 0 (.int .i64 x.ser)).then_set 1 (.slice a1 x.st.length c1)).then_set 2 (.slice a2 x.ino.length c2)
  have S := ((hn.set 0 (.int .i64 x.ser)).set 1 (.slice a1 x.st.length c1)).set 2 (.slice a2 x.ino.length c2)
  exact ⟨rfl, wl, wd, gN, a1, c1, a2, c2, rfl, S, ho.kept fun g h1 h2 => K.block g (by omega) h2, .inl hl, hlo, hlh, K.size, hg, S.lt, be3 hb hg⟩
end Go.Proofs.YtkfkjcadmdcbnaaGreatDoor
namespace Go.Proofs.YtkfkjcadmdcbnaaGreatDoor
open Go.RowKit Go.Proofs.YtkfkjcadmdcbnaaGreatDoor.Parts Go.Proofs.YtkfkjcadmdcbnaaGreatDoor.Hexa

set_option maxRecDepth 100000 in
set_option maxHeartbeats 1000000 in
theorem markCellS_any (v : Value) (L : List C3) (F : List Nat) (k : Nat) (kz : Int) (w : World) (hkz : kz = (k : Int)) (h0 : 0 < k) (hk : k + (celRow cCell L).cnt ≤ 100000000) (hz : (celRow cCell L).sz ≤ 100000000) (hF : F.Nodup) (ho : (celRow cCell L).Own w F v) :
    Calls Tryz.prog 87 #[v, .int .i64 kz] w (MarkPost (celRow cCell L) F v k w) := by
  subst hkz
  obtain ⟨a, n, c, rfl, hn⟩ := row_form (Cel.Own.rd _ _ _ ho)
  have HN := Lib.hid hn
  have hz' : n + szL (celsE cCell L) ≤ 100000000 := by rw [← hn]; exact hz
  have hn9 : n ≤ 100000000 := by omega
  have HZ : Hid (szL (celsE cCell L) ≤ 100000000) := Lib.hid (by omega)
  have HF := Lib.hid hF
  have HC : Hid ((celRow cCell L).cnt = cntL (celsE cCell L)) := Lib.hid rfl
  have hk' : k + cntL (celsE cCell L) ≤ 100000000 := hk
  have HL : Hid ((celsE cCell L).length = n * 3) := Lib.hid (by rw [celsE_length, hn]; rfl)
  have HO : Hid ((Cel.sl cCell.e 3 n (stM (celsE cCell L) k 0)).Own w F (.slice a n c)) := Lib.hid (by rw [stM_zero]; have h9 := ho; unfold celRow at h9; rw [hn] at h9; exact h9)
  clear hn hF ho hk hz hz'
  go_enter Tryz.func87, Tryz.ntmps87
  go_wp2
  go_loopw [1, 5] (fun kv iv wr => ∃ (j q : Nat), j ≤ n ∧ 0 < q ∧ q ≤ 100000000 ∧ Hid (q = k + cntL (celsE cCell (L.take j))) ∧ iv = .int .i64 j ∧ kv = .int .i64 q ∧ Hid ((Cel.sl cCell.e 3 n (stM (celsE cCell L) k (j * 3))).Own wr F (.slice a n c)) ∧ Hid (OutF F w wr)) (fun _ iv _ => n - (intOf iv).toNat)
  case atStart => exact ⟨0, k, Nat.zero_le _, h0, by omega, Lib.hid (by simp only [List.take_zero, celsE, cntL]; rfl), rfl, rfl, by rw [Nat.zero_mul]; exact HO, Lib.hid (OutF.refl _ _)⟩
  case round =>
    clear HO
    obtain ⟨j, q, hj, hq0, hq9, HQ, rfl, rfl, HW, HU⟩ := hrel
    by_cases hlt : j < n
    · have hjL : j < L.length := by rw [HN.out]; exact hlt
      have HX := Lib.hid (cntL_next cCell hjL)
      have hm := cntL_take cCell L (j + 1)
      have HY := Lib.hid (Nat.le_trans (szL_at cCell L j hjL) HZ.out)
      have HG : Hid (∀ o, o < 3 → (celsE cCell L).getD (j * 3 + o) default = (cCell.cels (L.getD j default)).getD o default) := Lib.hid (fun o ho => celsE_getD cCell L j o hjL ho)
      have HA : Hid (∀ o, o ≤ 3 → atM (celsE cCell L) k (j * 3 + o) = q + cntL ((cCell.cels (L.getD j default)).take o)) := Lib.hid (fun o ho => by rw [HQ.out]; exact atM_in cCell hjL ho)
      obtain ⟨x, hx⟩ : ∃ x, L.getD j default = x := ⟨_, rfl⟩
      rw [hx] at HX HG HA HY
      have hm2 : q + cntL (cCell.cels x) ≤ 100000000 := by have := HQ.out; have := HX.out; omega
      have HM2 := Lib.hid hm2
      have hm3 : q + 3 ≤ 100000000 := by have : cntL (cCell.cels x) = (1 + (1 + (1 + 0))) := rfl; omega
      clear hx hjL hm hm2
      obtain ⟨g0, hg0, _, ⟨v0, e0⟩, z0, ho0, hu0⟩ := mark_val HW.out HF.out (i := j * 3) (by omega) HL.out (HG.out 0 (by decide))
      subst hg0
      have e9 : atM (celsE cCell L) k (j * 3) = q + cntL ((cCell.cels x).take 0) := HA.out 0 (by decide)
      have e8 : markV (.int .i64 x.l) (atM (celsE cCell L) k (j * 3)) = (.int .i64 ((q : Int))) := by rw [e9]; show Value.int .i64 ((q + 0 : Nat) : Int) = _; rw [show ((q + 0 : Nat) : Int) = (q : Int) from by omega]
      rw [e8] at ho0 hu0
      clear e8 e9
      have W0 := Lib.hid ho0
      have U0 := Lib.hid (HU.out.trans hu0)
      clear ho0 hu0 HW HU
      go_wp2_with fail
      clear e0 z0
      obtain ⟨wa1, hwa⟩ : ∃ y, y = (wr.setCell ⟨g0, j * 3, none⟩ (.int .i64 ((q : Int)))) := ⟨_, rfl⟩
      rw [← hwa] at W0 U0 ⊢
      clear hwa
      refine (markText_n _ (q + 1) _ (by omega) (by omega) (by omega)).mono ?_
      rintro e y1 ⟨rfl, hb⟩
      have W1t := Lib.hid (Cel.Own.kept _ _ _ (fun g hg => hb.block g (Cel.Own.lt _ _ _ W0.out g hg)) W0.out)
      have U1t := Lib.hid (U0.out.trans (OutF.of_below hb))
      clear hb W0 U0
      obtain ⟨g1, hg1, _, ⟨v1, e1⟩, z1, ho1, hu1⟩ := mark_val W1t.out HF.out (i := j * 3 + 1) (by omega) HL.out (HG.out 1 (by decide))
      obtain rfl : g0 = g1 := by simpa using hg1
      have e9 : atM (celsE cCell L) k (j * 3 + 1) = q + cntL ((cCell.cels x).take 1) := HA.out 1 (by decide)
      have e8 : markV (.string x.t) (atM (celsE cCell L) k (j * 3 + 1)) = (.string (markT (q + 1))) := by rw [e9]; show Value.string (markT (q + (1 + 0))) = _; rw [show q + (1 + 0) = (q + 1) from by omega]
      rw [e8] at ho1 hu1
      clear e8 e9
      have W1 := Lib.hid ho1
      have U1 := Lib.hid (U1t.out.trans hu1)
      clear ho1 hu1 W1t U1t
      obtain ⟨g2, hg2, _, ⟨v2, e2⟩, z2, ho2, hu2⟩ := mark_val W1.out HF.out (i := j * 3 + 2) (by omega) HL.out (HG.out 2 (by decide))
      obtain rfl : g0 = g2 := by simpa using hg2
      have e9 : atM (celsE cCell L) k (j * 3 + 2) = q + cntL ((cCell.cels x).take 2) := HA.out 2 (by decide)
      have e8 : markV (.bool x.f) (atM (celsE cCell L) k (j * 3 + 2)) = (.bool (((q : Int) + 1 + 1) % 3 == 0)) := by rw [e9]; show Value.bool (((q + (1 + (1 + 0)) : Nat)) % 3 == 0) = _; rw [mark3_eq (a := q + (1 + (1 + 0))) (b := q + (1 + (1 + 0))) (c := (q : Int) + 1 + 1) rfl (by omega)]
      rw [e8] at ho2 hu2
      clear e8 e9
      have W2 := Lib.hid ho2
      have U2 := Lib.hid (U1.out.trans hu2)
      clear ho2 hu2 W1 U1
      go_wp2
      clear e1 z1 e2 z2
      have HR : Hid ((q + 3) = k + cntL (celsE cCell (L.take (j + 1)))) := Lib.hid (by have := HQ.out; have := HX.out; have : cntL (cCell.cels x) = (1 + (1 + (1 + 0))) := rfl; omega)
      have hr9 : (q + 3) ≤ 100000000 := by have := HM2.out; have : cntL (cCell.cels x) = (1 + (1 + (1 + 0))) := rfl; omega
      go_roundw
      case rel => exact ⟨j + 1, (q + 3), by omega, by omega, hr9, HR, by go_num, by go_num, by rw [Nat.add_mul, Nat.one_mul]; exact W2, U2⟩
      case measure => (simp [intOf]; try omega)
    · obtain rfl : j = n := by omega
      have ho := HW.out
      rw [stM_all _ _ (by rw [HL.out]; omega)] at ho
      have HO := Lib.hid ho
      clear ho
      go_wp2
      go_ret
      refine ⟨ret_i64m (by have := HQ.out; rw [List.take_of_length_le (by rw [HN.out]; omega)] at this; rw [HC.out]; omega), HU.out, ?_⟩
      have h9 := HO.out
      rw [← HN.out] at h9 ⊢
      exact h9

theorem markCellS_obj (v : Value) (L : List C3) (lo hi k : Nat) (kz : Int) (w : World) (hkz : kz = (k : Int)) (h0 : 0 < k) (hk : k + (celRow cCell L).cnt ≤ 100000000) (hz : (celRow cCell L).sz ≤ 100000000) (ho : Obj1 w lo hi (celRow cCell L) v) :
    Calls Tryz.prog 87 #[v, .int .i64 kz] w fun e w' => e = .returned (.int .i64 ((k + (celRow cCell L).cnt : Nat) : Int)) ∧ OutR lo hi w w' ∧ Obj1 w' lo hi ((celRow cCell L).mk k) v := by
  obtain ⟨F, hn, hb, ho⟩ := ho
  refine (markCellS_any v L F k kz w hkz h0 hk hz hn ho).mono ?_
  rintro e w' ⟨he, hu, hw⟩
  exact ⟨he, OutR.of hu hb, F, hn, hb, hw⟩
end Go.Proofs.YtkfkjcadmdcbnaaGreatDoor
namespace Go.Proofs.YtkfkjcadmdcbnaaGreatDoor
open Go.RowKit Go.Proofs.YtkfkjcadmdcbnaaGreatDoor.Parts Go.Proofs.YtkfkjcadmdcbnaaGreatDoor.Hexa

theorem cMem_top (x : MemR) : cntTop (cMem.cels x) = ((celRow cCell x.cells).cnt + 0) := rfl
set_option maxRecDepth 100000 in
set_option maxHeartbeats 1000000 in
theorem markMem_st (x : MemR) (a1 : Option Addr) (c1 : Nat) (lo hi k : Nat) (kz : Int) (w : World) (hkz : kz = (k : Int)) (h0 : 0 < k) (hk : k + cntTop (cMem.cels x) ≤ 100000000) (hz : szL (cMem.cels x) ≤ 100000000) (ho : Objs w lo hi (cMem.cels x) [.string x.text, .slice a1 x.cells.length c1]) :
    Calls Tryz.prog 28 #[.agg #[.string x.text, .slice a1 x.cells.length c1], .int .i64 kz] w fun e w' => e = .returned (.int .i64 ((k + cntTop (cMem.cels x) : Nat) : Int)) ∧ OutR lo hi w w' ∧ Objs w' lo hi (mkTop (cMem.cels x) k) [.string x.text, .slice a1 x.cells.length c1] := by
  subst hkz
  obtain ⟨F0, hn, hb, hO⟩ := ho
  replace hO := own_cons_val hO
  obtain ⟨F1a, R1, e1, o1, hO⟩ := own_cons hO
  have en := own_nil hO
  clear hO
  rw [en] at e1
  rw [e1] at hn hb
  clear en e1
  have HN := Lib.hid hn
  have HB := Lib.hid hb
  have N1 : Hid (F1a.Nodup) := Lib.hid (by have := hn; simp only [List.nodup_append] at this; simp_all)
  have O1 := Lib.hid o1
  have P1 : Hid (∀ g ∈ F1a, g < w.heap.size) := Lib.hid (Cel.Own.lt _ _ _ o1)
  rw [cMem_top] at hk
  have HZ := Lib.hid hz
  have HK := Lib.hid hk
  clear hn hb hz hk o1
  have B0 := Lib.hid (below_bk w (.cells #[.string x.text, .slice a1 x.cells.length c1] 57))
  have T0 := Lib.hid (Bk.alloc w #[.string x.text, .slice a1 x.cells.length c1] 57)
  have U0 := Lib.hid (OutF.of_below (F := (F1a ++ [])) B0.out)
  have O1_0 : Hid ((celRow cCell x.cells).Own _ F1a _) := Lib.hid (Cel.Own.kept _ _ _ (fun g hg => B0.out.block g (P1.out g hg)) O1.out)
  clear O1
  go_enter Tryz.func28, Tryz.ntmps28
  go_wp2_with fail
  refine (markCellS_any _ x.cells F1a k _ _ (by omega) (by omega) (by have := HK.out; omega) (by have := HZ.out; rw [cMem_sz] at this; omega) N1.out O1_0.out).mono ?_
  rintro e w1 ⟨he, hu, hw⟩
  obtain ⟨k1, hq1⟩ : ∃ y, k + (celRow cCell x.cells).cnt = y := ⟨_, rfl⟩
  rw [hq1] at he
  subst he
  have HQ1 := Lib.hid hq1
  have hb1 : 0 < k1 := by omega
  have hl1 : k1 ≤ 100000000 := by have := HK.out; omega
  have T1 : Hid (Bk w1 w.heap.size #[.string x.text, .slice a1 x.cells.length c1] 57) := Lib.hid ((hu.block w.heap.size (fun h => by have := P1.out _ h; omega) T0.out.lt).trans T0.out)
  have U1 := Lib.hid (U0.out.trans (hu.mono (G := (F1a ++ [])) (fun g hg => by simp only [List.mem_append]; simp [hg])))
  have O1_1 := Lib.hid hw
  clear hu hw hq1 T0 U0 O1_0
  go_wp2
  go_ret
  have E1 : ((celRow cCell x.cells).mk k).Own w1 F1a (.slice a1 x.cells.length c1) := by exact O1_1.out
  refine ⟨ret_i64m (by rw [cMem_top]; have := HQ1.out; omega), OutR.of U1.out HB.out, (F1a ++ []), HN.out, HB.out, ⟨_, _, [], _, rfl, rfl, ⟨rfl, rfl⟩, ⟨_, _, F1a, _, rfl, rfl, E1, ⟨rfl, rfl⟩⟩⟩⟩
end Go.Proofs.YtkfkjcadmdcbnaaGreatDoor
namespace Go.Proofs.YtkfkjcadmdcbnaaGreatDoor
open Go.RowKit

theorem mem_len {m : MemR} (h : szL (cMem.cels m) ≤ 1048576) : m.cells.length ≤ 1048600 := by
  rw [cMem_sz, sz_row'] at h
  omega
theorem mem_text {m : MemR} (h : szL (cMem.cels m) ≤ 1048576) : m.text.size ≤ 1048600 := by
  rw [cMem_sz] at h
  omega
theorem cntCells_eq : ∀ L : List C3, cntL (celsE cCell L) = 3 * L.length
  | [] => rfl
  | x :: r => by rw [celsE, cntL_append, cntCells_eq r, cCell_cnt, List.length_cons]; omega
theorem mem_marks {m : MemR} (h : m.cells.length ≤ 1048600) : 1 + cntTop (cMem.cels m) ≤ 100000000 := by
  rw [cMem_top]
  have h1 : (celRow cCell m.cells).cnt = cntL (celsE cCell m.cells) := rfl
  have h2 := cntCells_eq m.cells
  omega
end Go.Proofs.YtkfkjcadmdcbnaaGreatDoor
namespace Go.Proofs.YtkfkjcadmdcbnaaGreatDoor
open Go.RowKit Go.Proofs.YtkfkjcadmdcbnaaGreatDoor.Parts Go.Proofs.YtkfkjcadmdcbnaaGreatDoor.Hexa

set_option maxRecDepth 100000 in
set_option maxHeartbeats 1000000 in
theorem szCell_st (x : C3) (l : Int) (w : World) (l0 : 0 ≤ l) (l1 : l ≤ 1048576) (ht : TyL (cCell.cels x)) :
    Calls Tryz.prog 117 #[.agg #[.int .i64 x.l, .string x.t, .bool x.f], .int .i64 l] w (SzPost (szL (cCell.cels x)) l w) := by
  have hz := cCell_sz x
  obtain ⟨t0, t1, t2, _⟩ := ht
  have k1 : x.t.size ≤ 9223372036854775807 := Nat.le_trans t1 (by decide)
  clear t0 t1 t2
  have B0 := Lib.hid (below_bk w (.cells #[.int .i64 x.l, .string x.t, .bool x.f] 133))
  have T0 := Lib.hid (Bk.alloc w #[.int .i64 x.l, .string x.t, .bool x.f] 133)
  by_cases b1 : l - (x.t.size : Int) < 0
  · go_enter Tryz.func117, Tryz.ntmps117
    go_wp2
    go_ret
    exact ⟨-1, rfl, .inl (by omega), B0.out⟩
  go_enter Tryz.func117, Tryz.ntmps117
  go_wp2
  go_ret
  refine ⟨_, rfl, .inr ⟨by omega, ?_⟩, B0.out⟩
  first | omega | (rw [hz]; omega)

end Go.Proofs.YtkfkjcadmdcbnaaGreatDoor
namespace Go.Proofs.YtkfkjcadmdcbnaaGreatDoor
open Go.RowKit Go.Proofs.YtkfkjcadmdcbnaaGreatDoor.Parts Go.Proofs.YtkfkjcadmdcbnaaGreatDoor.Hexa

set_option maxRecDepth 100000 in
set_option maxHeartbeats 1000000 in
theorem szCellS_any (v : Value) (L : List C3) (l0 : Int) (w : World) (hl0 : 0 ≤ l0) (hl1 : l0 ≤ 1048576) (hs : (celRow cCell L).Rd w v) (ht : (celRow cCell L).Ty) :
    Calls Tryz.prog 59 #[v, .int .i64 l0] w (SzPost ((celRow cCell L).sz) l0 w) := by
  obtain ⟨a, n, c, rfl, hn⟩ := row_form hs
  have HS := Lib.hid hs
  have HT : Hid (TyL (celsE cCell L)) := Lib.hid ht.2
  have hn0 : n ≤ 9223372036854775807 := by rw [← hn]; exact ht.1
  have HZ : Hid ((celRow cCell L).sz = n + szL (celsE cCell L)) := Lib.hid (by rw [← hn]; rfl)
  have HN := Lib.hid hn
  clear hs ht hn
  by_cases hlt0 : l0 - (n : Int) < 0
  · go_enter Tryz.func59, Tryz.ntmps59
    go_wp2
    go_ret
    exact ⟨-1, rfl, .inl (by omega), Below.refl _ _⟩
  · go_enter Tryz.func59, Tryz.ntmps59
    go_wp2
    go_loopw [1, 5] (fun lv iv wr => ∃ (k : Nat) (l : Int), k ≤ n ∧ iv = .int .i64 k ∧ lv = .int .i64 l ∧ 0 ≤ l ∧ l ≤ l0 ∧ Hid (l + (n : Int) + (szL (celsE cCell (L.take k)) : Int) = l0) ∧ Below w.heap.size w wr) (fun _ iv _ => n - (intOf iv).toNat)
    case atStart => exact ⟨0, _, Nat.zero_le _, rfl, rfl, by omega, by omega, Lib.hid (by simp only [List.take_zero, celsE, szL]; omega), Below.refl _ _⟩
    case round =>
      obtain ⟨k, l, hk, rfl, rfl, h0, hl, HA, hbel⟩ := hrel
      by_cases hlt : k < n
      · have HX := Lib.hid (TyL_at cCell L k HT.out (by rw [HN.out]; exact hlt))
        have HQ := Lib.hid (szL_next cCell (L := L) (j := k) (by rw [HN.out]; exact hlt))
        obtain ⟨g, off, rfl, hg, d0, d1, d2⟩ := cCell_at (Cel.Rd.later hbel _ _ HS.out) k hlt
        obtain ⟨x, hx⟩ : ∃ x, L.getD k default = x := ⟨_, rfl⟩
        rw [hx] at d0 d1 d2  HX HQ
        clear hx
        go_wp2_with fail
        refine (szCell_st x l _ h0 (by omega) HX.out).mono ?_
        rintro e w1 ⟨r, rfl, hr, hb1⟩
        have hb2 : Below w.heap.size w w1 := hbel.trans (hb1.mono hbel.size)
        clear d0 d1 d2  hb1
        rcases hr with h1 | ⟨h1, h2⟩
        · go_wp2
          go_ret
          exact ⟨-1, rfl, .inl (by omega), hb2⟩
        · have HA2 : Hid (r + (n : Int) + (szL (celsE cCell (L.take (k + 1))) : Int) = l0) := Lib.hid (by have h3 := HQ.out; have h4 := HA.out; omega)
          have hr2 : r ≤ l0 := by omega
          clear HA HQ h2
          go_wp2
          go_roundw
          case rel => exact ⟨k + 1, r, by omega, by go_num, rfl, h1, hr2, HA2, hb2⟩
          case measure => (simp [intOf]; try omega)
      · obtain rfl : k = n := by omega
        go_wp2
        go_ret
        refine ⟨l, rfl, .inr ⟨h0, ?_⟩, hbel⟩
        have h9 := HA.out
        rw [List.take_of_length_le (by rw [HN.out]; omega)] at h9
        rw [HZ.out]
        omega

end Go.Proofs.YtkfkjcadmdcbnaaGreatDoor
namespace Go.Proofs.YtkfkjcadmdcbnaaGreatDoor
open Go.RowKit Go.Proofs.YtkfkjcadmdcbnaaGreatDoor.Parts Go.Proofs.YtkfkjcadmdcbnaaGreatDoor.Hexa

set_option maxRecDepth 100000 in
set_option maxHeartbeats 1000000 in
theorem szMem_st (x : MemR) (a1 : Option Addr) (c1 : Nat) (l : Int) (w : World) (l0 : 0 ≤ l) (l1 : l ≤ 1048576) (h1 : (celRow cCell x.cells).Rd w (.slice a1 x.cells.length c1)) (ht : TyL (cMem.cels x)) :
    Calls Tryz.prog 21 #[.agg #[.string x.text, .slice a1 x.cells.length c1], .int .i64 l] w (SzPost (szL (cMem.cels x)) l w) := by
  have hz := cMem_sz x
  obtain ⟨t0, t1, _⟩ := ht
  have k0 : x.text.size ≤ 9223372036854775807 := Nat.le_trans t0 (by decide)
  clear t0
  have HS1 := Lib.hid h1
  have HT1 := Lib.hid t1
  clear h1 t1
  have B0 := Lib.hid (below_bk w (.cells #[.string x.text, .slice a1 x.cells.length c1] 46))
  have T0 := Lib.hid (Bk.alloc w #[.string x.text, .slice a1 x.cells.length c1] 46)
  by_cases b0 : l - (x.text.size : Int) < 0
  · go_enter Tryz.func21, Tryz.ntmps21
    go_wp2
    go_ret
    exact ⟨-1, rfl, .inl (by omega), B0.out⟩
  obtain ⟨m0, hm0⟩ : ∃ m : Int, l - (x.text.size : Int) = m := ⟨_, rfl⟩
  have g0 : 0 ≤ m0 := by omega
  have g1 : m0 ≤ 1048576 := by omega
  have HM0 := Lib.hid hm0
  clear b0 k0
  have HZ := Lib.hid hz
  clear hz
  go_enter Tryz.func21, Tryz.ntmps21
  go_wp2_with fail
  clear hm0
  refine (szCellS_any _ x.cells m0 _ g0 g1 (Cel.Rd.later B0.out _ _ HS1.out) HT1.out).mono ?_
  rintro e w1 ⟨m1, rfl, hr, hb⟩
  have B1 : Hid (Below w.heap.size w w1) := Lib.hid (B0.out.trans (hb.mono B0.out.size))
  have T1 := Lib.hid (T0.out.later hb)
  clear hb
  rcases hr with hr | ⟨p0, p1⟩
  · go_wp2
    go_ret
    exact ⟨-1, rfl, .inl (by omega), B1.out⟩
  have HM1 := Lib.hid p1
  have g10 := p0
  have g11 : m1 ≤ 1048576 := by omega
  have q1 : ¬ (m1 < 0) := by omega
  clear p0 p1
  go_wp2
  go_ret
  exact ⟨m1, rfl, .inr ⟨g10, by have := HZ.out; have := HM0.out; have := HM1.out; omega⟩, B1.out⟩

end Go.Proofs.YtkfkjcadmdcbnaaGreatDoor
namespace Go.Proofs.YtkfkjcadmdcbnaaGreatDoor
open Go.RowKit Go.Proofs.YtkfkjcadmdcbnaaGreatDoor.Parts Go.Proofs.YtkfkjcadmdcbnaaGreatDoor.Hexa

set_option maxRecDepth 100000 in
set_option maxHeartbeats 1000000 in
theorem toCell_st (x : C3) (w : World) (_ : szL (cCell.cels x) ≤ 1048576) :
    Calls Tryz.prog 128 #[.agg #[.int .i64 x.l, .string x.t, .bool x.f]] w (ToPostS (cCell.cels x) w) := by
  go_enter Tryz.func128, Tryz.ntmps128
  go_wp2
  refine bodyPost_ret (v := .agg #[.int .i64 x.l, .string x.t, .bool x.f]) ?_ rfl ⟨_, rfl, (((Objs.nil _ _ _).val _).val _).val _, (((Below.refl _ _).alloc (Nat.le_refl _) _).alloc (by simp) _).alloc (by simp; omega) _⟩
  simp [results, Tryz.results128, go_sem]

end Go.Proofs.YtkfkjcadmdcbnaaGreatDoor
