/- Merged texts: InodesLaw, Texts, RowCells, TextsRow. -/
import Derived.Test.YtcckhkihhhchbaaDoorPIL
import Derived.Deep.Strs
import Derived.ProofKit
namespace Go.Proofs.YtcckhkihhhchbaaDoor
open Go.RowKit Go.Proofs.YtcckhkihhhchbaaDoor.Parts Go.Proofs.YtcckhkihhhchbaaDoor.Hexa Go.Proofs.YtcckhkihhhchbaaDoor.Byt Go.Proofs.YtcckhkihhhchbaaDoor.Draw

/-- A valid inode's rows. -/
theorem ok_rows {n : InoR} (h : InoOk n) : (∀ j, j < n.R.length → RecOk (n.R.getD j default)) ∧ (∀ j, j < n.E.length → EntryOk (n.E.getD j default)) ∧ ((n.R.length : Int) = pagesZ n.sz) := by
  rcases h.2 with ⟨_, h1, h2, h3, h4⟩ | ⟨_, h1, h2, h3, h4, h5⟩ | ⟨_, h1, h2, h3, h4, h5⟩
  · exact ⟨fun j hj => by omega, fun j hj => by omega, by rw [h1, h3]; rfl⟩
  · exact ⟨fun j hj => (h5 j hj).1, fun j hj => by omega, h3⟩
  · exact ⟨fun j hj => by omega, fun j hj => (h5 j hj).1, by rw [h1, h3]; rfl⟩
theorem words_back {n : InoR} (h : InoOk n) : readInoB (inoWordsB n) = true ∧ readInoR (inoWordsB n) = n := by
  have h1 : ReadOk (inoWordsB n) := ⟨inoWords_length h, by rw [inoOf_words h]⟩
  exact ⟨readInoB_yes h1, by rw [readInoR_yes h1, inoOf_words h]⟩

/-- An inode's box and rows, behind the law's start. -/
structure IA (w wr : World) (bx : Nat) (kd sz gn : Int) (key : ByteArray) (aR : Option Addr) (nR cR : Nat) (aE : Option Addr) (nE cE : Nat) (R : List RecR) (E : List EntryR) : Prop where
  box : Bk wr bx #[.int .i64 kd, .int .i64 sz, .int .i64 gn, .string key, .slice aR nR cR, .slice aE nE cE] 27
  rR : wr.ownsRow w.heap.size 36 3 (.slice aR nR cR) nR (cellsE encRec R)
  rE : wr.ownsRow w.heap.size 41 2 (.slice aE nE cE) nE (cellsE encEntry E)
  below : Below w.heap.size w wr
section
variable {w wr w' : World} {bx : Nat} {kd sz gn : Int} {key : ByteArray} {aR : Option Addr} {nR cR : Nat} {aE : Option Addr} {nE cE : Nat} {R : List RecR} {E : List EntryR}
theorem IA.later (h : IA w wr bx kd sz gn key aR nR cR aE nE cE R E) (hb : Below wr.heap.size wr w') : IA w w' bx kd sz gn key aR nR cR aE nE cE R E :=
  ⟨h.box.later hb, own_below h.rR hb, own_below h.rE hb, h.below.trans (hb.mono h.below.size)⟩
theorem IA.drewN (h : IA w wr bx kd sz gn key aR nR cR aE nE cE R E) (m : Nat) : IA w (wr.drewN m) bx kd sz gn key aR nR cR aE nE cE R E := h.later (below_drewsN (Below.refl _ _) m)
theorem IA.drew (h : IA w wr bx kd sz gn key aR nR cR aE nE cE R E) : IA w wr.drew bx kd sz gn key aR nR cR aE nE cE R E := h.later ((Below.refl _ _).drew)
theorem IA.srcR (h : IA w wr bx kd sz gn key aR nR cR aE nE cE R E) : SrcRec wr aR nR R := srcRec_of_own h.rR
theorem IA.srcE (h : IA w wr bx kd sz gn key aR nR cR aE nE cE R E) : SrcEntry wr aE nE E := srcEntry_of_own h.rE
theorem IA.new {W : World} (oR : W.ownsRow w.heap.size 36 3 (.slice aR nR cR) nR (cellsE encRec R)) (oE : W.ownsRow w.heap.size 41 2 (.slice aE nE cE) nE (cellsE encEntry E)) (hb : Below w.heap.size w W) :
    IA w (W.alloc (.cells #[.int .i64 kd, .int .i64 sz, .int .i64 gn, .string key, .slice aR nR cR, .slice aE nE cE] 27)) W.heap.size kd sz gn key aR nR cR aE nE cE R E :=
  ⟨Bk.alloc W _ _, own_below oR (below_bk W _), own_below oE (below_bk W _), hb.trans ((below_bk W _).mono hb.size)⟩
end

set_option maxRecDepth 100000 in
set_option maxHeartbeats 16000000 in
theorem fnInodes_law (ad : Option Addr) (len cap : Nat) (w : World) (hs : Draw.Src w w.heap.size ad len) :
    Calls Tryd.prog 3 #[.slice ad len cap] w fun e w' => e = .returned (.bool true) ∧ Below w.heap.size w w' := by
  by_cases hbig : len ≤ 1048576
  · have HS := Lib.hid hs
    clear hs
    go_enter Tryd.func3, Tryd.ntmps3
    go_wp2_with (go_at_call 7; go_in)
    refine (drawIno_any ad len cap w hbig HS.out).mono ?_
    rintro e w1 ⟨kd, sz, gn, key, aR, cR, aE, cE, R, E, hP, rfl, oR, oE, hb1⟩
    obtain ⟨nR, hnR⟩ : ∃ k, R.length = k := ⟨_, rfl⟩
    obtain ⟨nE, hnE⟩ : ∃ k, E.length = k := ⟨_, rfl⟩
    have HP := Lib.hid hP
    have HSZ : Hid (-9223372036854775808 ≤ sz ∧ sz ≤ 9223372036854775807) := Lib.hid hP.1
    have HFR : Hid (FitRec R nR 2000000) := Lib.hid (by rw [← hnR]; exact hP.2.2.2.1)
    have HFE : Hid (FitEntry E nE 2000000) := Lib.hid (by rw [← hnE]; exact hP.2.2.2.2)
    have hR9 : nR ≤ 100 := by rw [← hnR]; exact hP.2.1
    have hE9 : nE ≤ 100 := by rw [← hnE]; exact hP.2.2.1
    rw [hnR] at oR
    rw [hnE] at oE
    rw [hnR, hnE]
    have HNR := Lib.hid hnR
    have HNE := Lib.hid hnE
    have I20 := IA.new (kd := kd) (sz := sz) (gn := gn) (key := key) oR oE hb1
    obtain ⟨bx, hbx⟩ : ∃ b, w1.heap.size = b := ⟨_, rfl⟩
    obtain ⟨w2, hw2⟩ : ∃ x, w1.alloc (.cells #[.int .i64 kd, .int .i64 sz, .int .i64 gn, .string key, .slice aR nR cR, .slice aE nE cE] 27) = x := ⟨_, rfl⟩
    rw [hbx, hw2] at I20
    have I2 := Lib.hid I20
    have Hbx := Lib.hid hbx
    have Hw2 := Lib.hid hw2
    clear hP hnR hnE oR oE hb1 I20 hbx hw2
    go_wp2_with fail
    rw [Hbx.out, Hw2.out]
    clear Hbx Hw2
    refine (implInoWords_any sz gn key aR nR cR aE nE cE _ R E kd HSZ.out (by omega) I2.out.srcR HFR.out I2.out.srcE HFE.out).mono ?_
    rintro e w3 ⟨v, rfl, ho3, hb3⟩
    have I3 := Lib.hid (I2.out.later hb3)
    clear hb3 I2
    have kc0 := I3.out.box.cell (j := 0) rfl
    have kc1 := I3.out.box.cell (j := 1) rfl
    have kc2 := I3.out.box.cell (j := 2) rfl
    have kc3 := I3.out.box.cell (j := 3) rfl
    have kc4 := I3.out.box.cell (j := 4) rfl
    have kc5 := I3.out.box.cell (j := 5) rfl
    by_cases hok : InoOk ⟨kd, sz, gn, key, R, E⟩
    · have HLEN : Hid ((inoWordsB ⟨kd, sz, gn, key, R, E⟩).length = 8) := Lib.hid (inoWords_length hok)
      have HWS : Hid (∀ j, j < 8 → ((inoWordsB ⟨kd, sz, gn, key, R, E⟩).getD j default).size ≤ 1048576) := Lib.hid (fun j hj => by
        have h1 : (inoWordsB ⟨kd, sz, gn, key, R, E⟩).getD j default ∈ inoWordsB ⟨kd, sz, gn, key, R, E⟩ := by
          have := HLEN.out
          simp [List.getD, show j < (inoWordsB ⟨kd, sz, gn, key, R, E⟩).length by omega]
        rw [inoWords_sizes h1]; decide)
      have HBK := Lib.hid (words_back hok)
      have HRS : Hid (∀ j, j < nR → RecOk (R.getD j default)) := Lib.hid (fun j hj => (ok_rows hok).1 j (by have := HNR.out; show j < R.length; omega))
      have HES : Hid (∀ j, j < nE → EntryOk (E.getD j default)) := Lib.hid (fun j hj => (ok_rows hok).2.1 j (by have := HNE.out; show j < E.length; omega))
      have HPG : Hid (pagesZ sz = (nR : Int)) := Lib.hid (by have h := (ok_rows hok).2.2; rw [← HNR.out]; exact h.symm)
      have HOKB := Lib.hid (inoB_yes hok)
      obtain ⟨L, hL⟩ : ∃ L, inoWordsB ⟨kd, sz, gn, key, R, E⟩ = L := ⟨_, rfl⟩
      rw [hL] at HLEN HWS HBK ho3
      rw [HLEN.out] at ho3
      obtain ⟨a4, c4, rfl, h84, hc4, _⟩ := ownE_form ho3
      have X3 : Hid (SrcT w3 a4 8 L) := Lib.hid (srcT_of_own ho3)
      have h4m : c4 ≤ 9223372036854775807 := Nat.le_trans hc4 (by decide)
      have HRD : Hid (∀ (w0 : World) (e : Ending) (w1 : World), GivesIno (readInoR L) (readInoB L) w0 e w1 → ∃ aR5 cR5 aE5 cE5, e = .returned (.tuple #[.agg #[.int .i64 kd, .int .i64 sz, .int .i64 gn, .string key, .slice aR5 nR cR5, .slice aE5 nE cE5], .bool true])
          ∧ w1.ownsRow w0.heap.size 36 3 (.slice aR5 nR cR5) nR (cellsE encRec R) ∧ w1.ownsRow w0.heap.size 41 2 (.slice aE5 nE cE5) nE (cellsE encEntry E) ∧ Below w0.heap.size w0 w1) := Lib.hid (fun w0 e w1 h => by
        rw [HBK.out.1, HBK.out.2] at h
        obtain ⟨a, b, c, d, h1, h2, h3, _, h5⟩ := h
        simp only [HNR.out, HNE.out] at h1 h2 h3
        exact ⟨a, b, c, d, h1, h2, h3, h5⟩)
      clear hok hL ho3 HBK
      go_wp2_with fail
      refine (specIno_any kd sz gn key aR nR cR aE nE cE _ R E HSZ.out I3.out.srcR HFR.out I3.out.srcE HFE.out).mono ?_
      rw [HOKB.out]
      rintro e w4 ⟨rfl, hb4⟩
      have I4 := Lib.hid (I3.out.later hb4)
      have X4 : Hid (SrcT w4 a4 8 L) := Lib.hid (SrcE.later X3.out hb4)
      clear hb4 I3 X3 kc0 kc1 kc2 kc3 kc4 kc5
      go_wp2_with fail
      refine (implReadIno_any a4 8 c4 L _ h84 h4m X4.out HWS.out).mono ?_
      intro e w5 hg
      obtain ⟨aR5, cR5, aE5, cE5, rfl, oR5, oE5, hb5⟩ := HRD.out _ _ _ hg
      have I50 := I4.out.later hb5
      have hsz := I4.out.below.size
      have J60 := IA.new (w := w) (ownE_mono oR5 hsz) (ownE_mono oE5 hsz) I50.below (kd := kd) (sz := sz) (gn := gn) (key := key)
      have I60 := I50.later (below_bk w5 (.cells #[.int .i64 kd, .int .i64 sz, .int .i64 gn, .string key, .slice aR5 nR cR5, .slice aE5 nE cE5] 27))
      obtain ⟨b5, hb5e⟩ : ∃ b, w5.heap.size = b := ⟨_, rfl⟩
      obtain ⟨w6, hw6⟩ : ∃ x, w5.alloc (.cells #[.int .i64 kd, .int .i64 sz, .int .i64 gn, .string key, .slice aR5 nR cR5, .slice aE5 nE cE5] 27) = x := ⟨_, rfl⟩
      rw [hb5e, hw6] at J60
      rw [hw6] at I60
      have I6 := Lib.hid I60
      have J6 := Lib.hid J60
      have Hb5 := Lib.hid hb5e
      have Hw6 := Lib.hid hw6
      clear hg oR5 oE5 hb5 I50 hsz J60 I60 hb5e hw6 I4 X4
      go_wp2
      rw [Hb5.out, Hw6.out]
      clear Hb5 Hw6
      go_loopw [7] (fun iv wr => ∃ k : Nat, k ≤ nR ∧ iv = .int .i64 k ∧ Hid (IA w wr bx kd sz gn key aR nR cR aE nE cE R E) ∧ Hid (IA w wr b5 kd sz gn key aR5 nR cR5 aE5 nE cE5 R E)) (fun iv _ => nR - (intOf iv).toNat)
      case atStart => exact ⟨0, Nat.zero_le _, rfl, I6, J6⟩
      case round =>
        obtain ⟨k, hk, rfl, I7, J7⟩ := hrel
        clear I6 J6
        have x4 := I7.out.box.cell (j := 4) rfl
        by_cases hlt : k < nR
        · obtain ⟨g, off, ha, hg, d0, d1, d2⟩ := srcRec_later I7.out.srcR (Below.refl wr.heap.size wr) (Nat.le_refl _) k hlt
          obtain ⟨⟨p, q, m⟩, hx⟩ : ∃ x, R.getD k default = x := ⟨_, rfl⟩
          have hrok : RecOk ⟨p, q, m⟩ := by rw [← hx]; exact HRS.out k hlt
          obtain ⟨t, ht⟩ : ∃ t, recWordB ⟨p, q, m⟩ = t := ⟨_, rfl⟩
          have ht8 : t.size = 8 := by rw [← ht]; exact recWord_size hrok
          have HRW : Hid (∀ W : World, Calls Tryd.prog 15 #[.agg #[.int .i64 p, .int .i64 q, .string m]] W fun e w' => e = .returned (.string t) ∧ Below W.heap.size W w') := Lib.hid (fun W => by
            have h := implRecWord_any p q m W (by have := hrok.2.2; simp only at this; omega)
            rw [ht] at h; exact h)
          have HRR : Hid (∀ W : World, Calls Tryd.prog 14 #[.string t] W fun e w' => e = .returned (.tuple #[.agg #[.int .i64 p, .int .i64 q, .string m], .bool true]) ∧ Below W.heap.size W w') := Lib.hid (fun W => by
            have h := implReadRec_any t W (by omega)
            rw [← ht, (recRead_word hrok).1, (recRead_word hrok).2, ht] at h; exact h)
          have HX := Lib.hid hx
          rw [hx] at d0 d1 d2
          simp only at d0 d1 d2
          subst ha
          clear hx hrok ht
          go_wp2_with fail
          refine (HRW.out _).mono ?_
          rintro e w8 ⟨rfl, hb8⟩
          have I8 := Lib.hid (I7.out.later hb8)
          have J8 := Lib.hid (J7.out.later hb8)
          clear hb8 d0 d1 d2 x4 I7 J7
          go_wp2_with fail
          refine (HRR.out _).mono ?_
          rintro e w9 ⟨rfl, hb9⟩
          have N9 := Lib.hid (Bk.alloc w9 #[.int .i64 p, .int .i64 q, .string m] 36)
          have hb10 := hb9.trans ((below_bk w9 (.cells #[.int .i64 p, .int .i64 q, .string m] 36)).mono hb9.size)
          have I9 := Lib.hid (I8.out.later hb10)
          have J9 := Lib.hid (J8.out.later hb10)
          have y0 := N9.out.cell (j := 0) rfl
          have y1 := N9.out.cell (j := 1) rfl
          have y2 := N9.out.cell (j := 2) rfl
          have x4 := I9.out.box.cell (j := 4) rfl
          obtain ⟨g2, off2, ha2, hg2, d0, d1, d2⟩ := srcRec_later I9.out.srcR (Below.refl _ _) (Nat.le_refl _) k hlt
          cases ha2
          rw [HX.out] at d0 d1 d2
          simp only at d0 d1 d2
          clear hb9 hb10 I8 J8 hg2
          go_wp2
          go_quiet (fail)
          have I10 := fun m => Lib.hid (I9.out.drewN m)
          have J10 := fun m => Lib.hid (J9.out.drewN m)
          clear y0 y1 y2 x4 d0 d1 d2 N9
          go_wp2
          go_roundw
          case rel => exact ⟨k + 1, by omega, by go_num, I10 _, J10 _⟩
          case measure => (simp [intOf]; try omega)
        · obtain rfl : nR = k := by omega
          go_wp2
          go_loopw [10] (fun iv wr => ∃ k : Nat, k ≤ nE ∧ iv = .int .i64 k ∧ Hid (IA w wr bx kd sz gn key aR nR cR aE nE cE R E) ∧ Hid (IA w wr b5 kd sz gn key aR5 nR cR5 aE5 nE cE5 R E)) (fun iv _ => nE - (intOf iv).toNat)
          case atStart => exact ⟨0, Nat.zero_le _, rfl, I7, J7⟩
          case round =>
            obtain ⟨k2, hk2, rfl, I11, J11⟩ := hrel
            clear I7 J7 x4
            have x5 := I11.out.box.cell (j := 5) rfl
            by_cases hlt2 : k2 < nE
            · obtain ⟨g, off, ha, hg, d0, d1⟩ := srcEntry_later I11.out.srcE (Below.refl _ _) (Nat.le_refl _) k2 hlt2
              obtain ⟨⟨p, m⟩, hx⟩ : ∃ x, E.getD k2 default = x := ⟨_, rfl⟩
              have hrok : EntryOk ⟨p, m⟩ := by rw [← hx]; exact HES.out k2 hlt2
              obtain ⟨t, ht⟩ : ∃ t, entryWordB ⟨p, m⟩ = t := ⟨_, rfl⟩
              have ht8 : t.size = 8 := by rw [← ht]; exact entryWord_size hrok
              have hm7 : m.size ≤ 2000000 := by have := hrok.2.1.2; simp only at this; omega
              have HEW : Hid (∀ W : World, Calls Tryd.prog 17 #[.agg #[.int .i64 p, .string m]] W fun e w' => e = .returned (.string t) ∧ Below W.heap.size W w') := Lib.hid (fun W => by
                have h := implEntryWord_any p m W hm7
                rw [ht] at h; exact h)
              have HER : Hid (∀ W : World, Calls Tryd.prog 16 #[.string t] W fun e w' => e = .returned (.tuple #[.agg #[.int .i64 p, .string m], .bool true]) ∧ Below W.heap.size W w') := Lib.hid (fun W => by
                have h := implReadEntry_any t W (by omega)
                rw [← ht, (entRead_word hrok).1, (entRead_word hrok).2, ht] at h; exact h)
              have HNM : Hid (∀ W : World, Calls Tryd.prog 18 #[.string m] W fun e w' => e = .returned (.bool true) ∧ w' = W) := Lib.hid (fun W => by
                have h := implName_any m W hm7
                rw [nameB_yes hrok.2] at h; exact h)
              have HX := Lib.hid hx
              rw [hx] at d0 d1
              simp only at d0 d1
              subst ha
              clear hx hrok ht hm7
              go_wp2_with fail
              refine (HEW.out _).mono ?_
              rintro e w8 ⟨rfl, hb8⟩
              have I8 := Lib.hid (I11.out.later hb8)
              have J8 := Lib.hid (J11.out.later hb8)
              clear hb8 d0 d1 x5 I11 J11
              go_wp2_with fail
              refine (HER.out _).mono ?_
              rintro e w9 ⟨rfl, hb9⟩
              have N9 := Lib.hid (Bk.alloc w9 #[.int .i64 p, .string m] 41)
              have hb10 := hb9.trans ((below_bk w9 (.cells #[.int .i64 p, .string m] 41)).mono hb9.size)
              have I9 := Lib.hid (I8.out.later hb10)
              have J9 := Lib.hid (J8.out.later hb10)
              have y0 := N9.out.cell (j := 0) rfl
              have y1 := N9.out.cell (j := 1) rfl
              have x5 := I9.out.box.cell (j := 5) rfl
              obtain ⟨g2, off2, ha2, hg2, d0, d1⟩ := srcEntry_later I9.out.srcE (Below.refl _ _) (Nat.le_refl _) k2 hlt2
              cases ha2
              rw [HX.out] at d0 d1
              simp only at d0 d1
              clear hb9 hb10 I8 J8 hg2
              go_wp2
              go_quiet ((go_at_call 18; exact Calls.quiet_of_same (HNM.out _)))
              have I10 := fun m => Lib.hid (I9.out.drewN m)
              have J10 := fun m => Lib.hid (J9.out.drewN m)
              clear y0 y1 x5 d0 d1 N9
              go_wp2
              go_roundw
              case rel => exact ⟨k2 + 1, by omega, by go_num, I10 _, J10 _⟩
              case measure => (simp [intOf]; try omega)
            · obtain rfl : nE = k2 := by omega
              go_wp2
              have I12 := Lib.hid I11.out.drew
              have J12 := Lib.hid J11.out.drew
              go_region_held3 (fun w' => w'.cell? ⟨bx, 0, none⟩ = some (.int .i64 kd) ∧ w'.cell? ⟨bx, 1, none⟩ = some (.int .i64 sz) ∧ w'.cell? ⟨bx, 2, none⟩ = some (.int .i64 gn) ∧ w'.cell? ⟨bx, 3, none⟩ = some (.string key) ∧ w'.cell? ⟨bx, 4, none⟩ = some (.slice aR nR cR) ∧ w'.cell? ⟨bx, 5, none⟩ = some (.slice aE nE cE) ∧ w'.cell? ⟨b5, 0, none⟩ = some (.int .i64 kd) ∧ w'.cell? ⟨b5, 1, none⟩ = some (.int .i64 sz) ∧ w'.cell? ⟨b5, 2, none⟩ = some (.int .i64 gn) ∧ w'.cell? ⟨b5, 3, none⟩ = some (.string key) ∧ w'.cell? ⟨b5, 4, none⟩ = some (.slice aR5 nR cR5) ∧ w'.cell? ⟨b5, 5, none⟩ = some (.slice aE5 nE cE5)) (first
                  | exact ⟨I12.out.box.cell (j := 0) rfl, I12.out.box.cell (j := 1) rfl, I12.out.box.cell (j := 2) rfl, I12.out.box.cell (j := 3) rfl, I12.out.box.cell (j := 4) rfl, I12.out.box.cell (j := 5) rfl, J12.out.box.cell (j := 0) rfl, J12.out.box.cell (j := 1) rfl, J12.out.box.cell (j := 2) rfl, J12.out.box.cell (j := 3) rfl, J12.out.box.cell (j := 4) rfl, J12.out.box.cell (j := 5) rfl⟩
                  | exact ⟨I13.out.box.cell (j := 0) rfl, I13.out.box.cell (j := 1) rfl, I13.out.box.cell (j := 2) rfl, I13.out.box.cell (j := 3) rfl, I13.out.box.cell (j := 4) rfl, I13.out.box.cell (j := 5) rfl, J13.out.box.cell (j := 0) rfl, J13.out.box.cell (j := 1) rfl, J13.out.box.cell (j := 2) rfl, J13.out.box.cell (j := 3) rfl, J13.out.box.cell (j := 4) rfl, J13.out.box.cell (j := 5) rfl⟩
                  | exact ⟨I14.out.box.cell (j := 0) rfl, I14.out.box.cell (j := 1) rfl, I14.out.box.cell (j := 2) rfl, I14.out.box.cell (j := 3) rfl, I14.out.box.cell (j := 4) rfl, I14.out.box.cell (j := 5) rfl, J14.out.box.cell (j := 0) rfl, J14.out.box.cell (j := 1) rfl, J14.out.box.cell (j := 2) rfl, J14.out.box.cell (j := 3) rfl, J14.out.box.cell (j := 4) rfl, J14.out.box.cell (j := 5) rfl⟩
                  | go_keep)
                (first
                  | (go_at_call 19; (with_reducible refine (sameInode_any kd sz gn key aR5 aR nR cR5 cR aE5 aE nE cE5 cE R E _ (by omega) (by omega) J12.out.srcR I12.out.srcR J12.out.srcE I12.out.srcE).mono ?_); rintro e w13 ⟨rfl, hb13⟩; have I13 := Lib.hid (I12.out.later hb13); have J13 := Lib.hid (J12.out.later hb13); clear hb13)
                  | (go_at_call 11; (with_reducible refine (implIno_any kd sz gn key aR nR cR aE nE cE _ R E HSZ.out (by omega) I13.out.srcR HFR.out I13.out.srcE HFE.out).mono ?_); rw [HOKB.out]; rintro e w14 ⟨rfl, hb14⟩; have I14 := Lib.hid (I13.out.later hb14); have J14 := Lib.hid (J13.out.later hb14); clear hb14)
                  | (go_at_call 12; (with_reducible refine (implPages_any sz _ HSZ.out.1 HSZ.out.2).mono ?_); rw [HPG.out]; rintro e w15 ⟨rfl, rfl⟩))
              go_wp2
              go_ret
              exact ⟨rfl, I14.out.below⟩
    · have HN := Lib.hid (inoB_no hok)
      rw [inoWords_no hok] at ho3
      obtain ⟨a4, c4, rfl, _, _, _⟩ := ownE_form ho3
      clear hok ho3
      go_wp2_with fail
      refine (specIno_any kd sz gn key aR nR cR aE nE cE _ R E HSZ.out I3.out.srcR HFR.out I3.out.srcE HFE.out).mono ?_
      rw [HN.out]
      rintro e w4 ⟨rfl, hb4⟩
      have I4 := Lib.hid (I3.out.later hb4)
      clear hb4 I3 kc0 kc1 kc2 kc3 kc4 kc5
      have kc0 := I4.out.box.cell (j := 0) rfl
      have kc1 := I4.out.box.cell (j := 1) rfl
      have kc2 := I4.out.box.cell (j := 2) rfl
      have kc3 := I4.out.box.cell (j := 3) rfl
      have kc4 := I4.out.box.cell (j := 4) rfl
      have kc5 := I4.out.box.cell (j := 5) rfl
      go_wp2_with fail
      refine (implIno_any kd sz gn key aR nR cR aE nE cE _ R E HSZ.out (by omega) I4.out.srcR HFR.out I4.out.srcE HFE.out).mono ?_
      rw [HN.out]
      rintro e w5 ⟨rfl, hb5⟩
      have I5 := Lib.hid (I4.out.later hb5)
      clear hb5 I4 kc0 kc1 kc2 kc3 kc4 kc5
      go_wp2_with fail
      refine (implPages_any 33 _ (by decide) (by decide)).mono ?_
      rintro e w6 ⟨rfl, rfl⟩
      have hp33 : pagesZ 33 = 2 := by decide
      rw [hp33]
      go_wp2
      go_ret
      exact ⟨rfl, I5.out.below⟩
  · go_enter Tryd.func3, Tryd.ntmps3
    go_wp2_with (go_at_call 7; go_in)
    go_ret
    exact ⟨rfl, Below.refl _ _⟩
end Go.Proofs.YtcckhkihhhchbaaDoor
namespace Go.Proofs.YtcckhkihhhchbaaDoor
open Go.RowKit Go.Proofs.YtcckhkihhhchbaaDoor.Parts Go.Proofs.YtcckhkihhhchbaaDoor.Hexa

/-- No text longer than b. -/
def FitT2 (L : List ByteArray) (n b : Nat) : Prop := ∀ j, j < n → (L.getD j default).size ≤ b
theorem infoT : (Tryd.prog.info? 9).map (fun i => (i.zero, i.size, i.bytes)) = some (some (.string ByteArray.empty), 1, 16) := by kernel_rfl

set_option maxRecDepth 100000 in
set_option maxHeartbeats 1000000 in
theorem szTexts_any (a : Option Addr) (n c : Nat) (L : List ByteArray) (l0 : Int) (w : World) (hl0 : 0 ≤ l0) (hl1 : l0 ≤ 1048576) (hs : SrcT w a n L) (hn : n ≤ 9223372036854775807) (hm : FitT2 L n maxLen) :
    Calls Tryd.prog 25 #[.slice a n c, .int .i64 l0] w fun e w' => ∃ r, e = .returned (.int .i64 r) ∧ (r < 0 ∨ (0 ≤ r ∧ r ≤ l0 ∧ n ≤ 1048576 ∧ FitT2 L n 1048576)) ∧ w' = w := by
  have HS := Lib.hid hs
  have HM := Lib.hid hm
  clear hs hm
  by_cases hlt0 : l0 - (n : Int) < 0
  · go_enter Tryd.func25, Tryd.ntmps25
    go_wp2
    go_ret
    exact ⟨-1, rfl, .inl (by omega), rfl⟩
  · go_enter Tryd.func25, Tryd.ntmps25
    go_wp2
    go_loopw [1, 5] (fun lv iv wr => ∃ (k : Nat) (l : Int), k ≤ n ∧ iv = .int .i64 k ∧ lv = .int .i64 l ∧ 0 ≤ l ∧ l ≤ l0 ∧ Hid (∀ j, j < k → (L.getD j default).size ≤ 1048576) ∧ wr = w) (fun _ iv _ => n - (intOf iv).toNat)
    case atStart => exact ⟨0, _, Nat.zero_le _, rfl, rfl, by omega, by omega, Lib.hid (fun j hj => by omega), rfl⟩
    case round =>
      obtain ⟨k, l, hk, rfl, rfl, h0, hl, HA, rfl⟩ := hrel
      by_cases hlt : k < n
      · obtain ⟨g, off, rfl, hg, d0⟩ := srcT_at HS.out k hlt
        obtain ⟨x, hx⟩ : ∃ x, L.getD k default = x := ⟨_, rfl⟩
        rw [hx] at d0
        have hm0 := HM.out k hlt
        rw [hx] at hm0
        unfold maxLen at hm0
        have HX := Lib.hid hx
        clear hx
        by_cases hlt2 : l - (x.size : Int) < 0
        · go_wp2
          go_ret
          exact ⟨-1, rfl, .inl (by omega), rfl⟩
        · have HA2 : Hid (∀ j, j < k + 1 → (L.getD j default).size ≤ 1048576) := Lib.hid (fun j hj => by
            by_cases e : j = k
            · subst e; rw [HX.out]; omega
            · exact HA.out j (by omega))
          go_wp2
          go_roundw
          case rel => exact ⟨k + 1, l - (x.size : Int), by omega, by go_num, rfl, by omega, by omega, HA2, by first | rfl | trivial⟩
          case measure => (simp [intOf]; try omega)
      · obtain rfl : k = n := by omega
        go_wp2
        go_ret
        refine ⟨l, rfl, .inr ⟨h0, hl, by omega, fun j hj => HA.out j hj⟩, rfl⟩

/-- What the copy returns. -/
def CopyT (n : Nat) (L : List ByteArray) (w : World) (e : Ending) (w' : World) : Prop :=
  e = .returned (.slice (some ⟨w.heap.size, 0, none⟩) n n) ∧ w'.ownsRow w.heap.size 9 1 (.slice (some ⟨w.heap.size, 0, none⟩) n n) n (scells L) ∧ Below w.heap.size w w'

set_option maxRecDepth 100000 in
set_option maxHeartbeats 1000000 in
theorem toTexts_any (a : Option Addr) (n c : Nat) (L : List ByteArray) (w : World) (hs : SrcT w a n L) (hn : n ≤ 1048576) :
    Calls Tryd.prog 26 #[.slice a n c] w (CopyT n L w) := by
  obtain ⟨i0, hi, hz0, hz1, hz2⟩ := info_parts infoT
  have HS := Lib.hid hs
  have hL := hs.len
  clear hs
  go_enter Tryd.func26, Tryd.ntmps26
  go_wp2_with (at_make; refine wpList_make_full _ rfl _ _ 29 rfl w.heap.size 9 i0 _ 1 Tryd.underlying29 hi hz0 hz1 .i64 .i64 _ _ n rfl rfl rfl rfl (by rw [hz2]; omega) (by unfold maxLen; omega) (Nat.le_refl _) ?_; intro w0 hown0 hgrow0)
  have hg0 : Below w.heap.size w w0 := (Below.refl _ _).grown hgrow0 (Nat.le_refl _) (fun k h => by cases h)
  have HO0 := Lib.hid hown0
  clear hown0 hgrow0
  go_loopw [4] (fun iv wr => ∃ (k : Nat) (xs : List Value), k ≤ n ∧ iv = .int .i64 k ∧ Hid (wr.ownsRow w.heap.size 9 1 (.slice (some ⟨w.heap.size, 0, none⟩) n n) n xs) ∧ Hid (∀ j, j < k * 1 → xs[j]? = (cellsE encT L)[j]?) ∧ Below w.heap.size w wr)
    (fun iv _ => n - (intOf iv).toNat)
  case atStart => exact ⟨0, _, Nat.zero_le _, rfl, HO0, Lib.hid (fun j hj => by omega), hg0⟩
  case round =>
    clear HO0 hg0
    obtain ⟨k, xs, hk, rfl, HW, HX, hbel⟩ := hrel
    have hxl : Hid (xs.length = n * 1) := Lib.hid HW.out.1
    by_cases hlt : k < n
    · obtain ⟨g, off, rfl, hg, d0⟩ := srcT_later HS.out hbel (Nat.le_refl _) k hlt
      have X1 := Lib.hid (cellsE_step encT (by omega) (by rw [hL]; exact hxl.out) HX.out)
      obtain ⟨x, hx⟩ : ∃ x, L.getD k default = x := ⟨_, rfl⟩
      rw [hx] at d0 X1
      clear hx
      obtain ⟨v0, e0⟩ := ownE_cell HW.out (j := k) (by omega)
      have z0 := HW.out.frozenAt k
      have O1 := Lib.hid (own_sets (encT.cells x) (k * 1) HW.out)
      have hb2 : Hid (Below w.heap.size w (wr.setCells w.heap.size (k * 1) (encT.cells x))) := Lib.hid (below_sets (Nat.le_refl _) _ _ hbel)
      have E9 : Hid (wr.setCells w.heap.size (k * 1) (encT.cells x) = wr.setCell ⟨w.heap.size, k, none⟩ (.string x)) := Lib.hid (by rw [Nat.mul_one]; rfl)
      rw [E9.out] at O1 hb2
      go_wp2
      clear d0 e0 z0
      go_roundw
      case rel => exact ⟨k + 1, _, by omega, by go_num, O1, X1, hb2.out⟩
      case measure => (simp [intOf]; try omega)
    · obtain rfl : k = n := by omega
      have hfin : xs = cellsE encT L := cellsE_all encT (by rw [hL]; exact hxl.out) (by rw [hL]; exact HX.out)
      have ho := HW.out
      rw [hfin, cellsT_eq] at ho
      have HO := Lib.hid ho
      clear ho hfin
      go_wp2
      go_ret
      exact ⟨rfl, HO.out, hbel⟩
end Go.Proofs.YtcckhkihhhchbaaDoor
namespace Go.Proofs.YtcckhkihhhchbaaDoor
open Go.Deep Go.ChangeShapes Go.WideShapes Go.RowKit

theorem add_at1 (a : Addr) (k : Nat) (h : a.spot = none) : a.add k = ⟨a.block, a.off + k, none⟩ := by
  obtain ⟨b, o, s⟩ := a
  simp only at h
  subst h
  unfold Addr.add
  split <;> simp_all
/-- A row of elements that came in, for whatever element. -/
theorem row_of_cells {α : Type} [Inhabited α] (E : Enc α) {W : World} {ad : Addr} {len : Nat} (h0 : 0 < E.k) (each : ∀ i, i < len → ∃ s : α, W.cells? 0 (ad.add (i * E.k)) E.k = some (E.cells s)) :
    ∃ L : List α, SrcE E W (some ad) len L ∧ (∀ i, i < len → W.cells? 0 (ad.add (i * E.k)) E.k = some (E.cells (L.getD i default))) := by
  obtain ⟨S, hS⟩ := choose_lt each
  have hget : ∀ i, i < len → ((List.range len).map S).getD i default = S i := fun i hi => by simp [List.getD, hi]
  refine ⟨(List.range len).map S, ⟨by simp, fun j hj => ?_⟩, fun i hi => by rw [hget i hi]; exact hS i hi⟩
  rw [hget j hj]
  have hj3 := (World.cells?_some (hS j hj)).2.2
  have e0 := hj3 0 h0
  have hlen := E.len (S j)
  rw [show (E.cells (S j))[0]? = some ((E.cells (S j))[0]'(by omega)) from List.getElem?_eq_getElem _] at e0
  have h00 := (World.cells?_some (hS 0 (by omega))).2.2 0 h0
  have hlen0 := E.len (S 0)
  rw [show (E.cells (S 0))[0]? = some ((E.cells (S 0))[0]'(by omega)) from List.getElem?_eq_getElem _] at h00
  have hspot : ad.spot = none := by
    have := World.cell?_spot h00
    simpa [Addr.add] using this
  simp only [add_add] at e0 hj3
  rw [add_at1 ad _ hspot] at e0
  have hb : ad.block < W.heap.size := by
    rcases Nat.lt_or_ge ad.block W.heap.size with hlt | hge
    · exact hlt
    · simp [World.cell?, Array.getElem?_eq_none hge] at e0
  refine ⟨ad.block, ad.off, by obtain ⟨b, o, s⟩ := ad; simp only at hspot; rw [hspot], hb, fun o v hv => ?_⟩
  have ho : o < E.k := by
    rcases Nat.lt_or_ge o E.k with h | h
    · exact h
    · rw [List.getElem?_eq_none (by omega)] at hv; cases hv
  have e1 := hj3 o ho
  rw [add_at1 ad _ hspot, hv] at e1
  rw [Nat.add_assoc]
  exact e1
end Go.Proofs.YtcckhkihhhchbaaDoor
namespace Go.Proofs.YtcckhkihhhchbaaDoor
open Go.Deep Go.ChangeShapes Go.WideShapes Go.RowKit

theorem cellsTextT9 : Tryd.prog.cellsOf 9 = 1 := by kernel_rfl
theorem texts_of_trod {H : Type} {enc : TypeId × Value → H} {W : World} {fuel : Nat} {a : Option Addr} {len cap : Nat} {x : DataW H × List MemPlace}
    (h : DataW.trod enc Tryd.prog W 0 (fun _ => true) true fuel 29 (Value.slice a len cap).cells.toList = some x) : ∃ L, SrcT W a len L ∧ FitT2 L len maxLen ∧ len ≤ 9223372036854775807 := by
  rcases open_slice Tryd.underlying29 h with ⟨hcs, _⟩ | ⟨ad, l, c, m, n, D, Pl, hcs, _, hl, hm, hmm, _, hx⟩
  · simp [Value.cells] at hcs
    obtain ⟨rfl, rfl, rfl⟩ := hcs
    exact ⟨[], SrcE.nil _ _ _, fun j hj => by omega, by omega⟩
  · simp [Value.cells] at hcs hmm
    obtain ⟨rfl, rfl, rfl⟩ := hcs
    subst hmm
    rw [cellsTextT9] at hx
    have each : ∀ i, i < len → ∃ s : ByteArray, W.cells? 0 (ad.add (i * encT.k)) encT.k = some (encT.cells s) ∧ s.size ≤ maxLen := fun i hi => by
      obtain ⟨cs, h1, h2⟩ := hx i (by omega)
      obtain ⟨s, e, _, z⟩ := DataW.trod_string Tryd.underlying9 h2
      subst e
      exact ⟨s, h1, z⟩
    obtain ⟨L, hL, hc⟩ := row_of_cells encT (by decide) (fun i hi => by obtain ⟨s, h1, _⟩ := each i hi; exact ⟨s, h1⟩)
    refine ⟨L, hL, fun j hj => ?_, Nat.le_trans hl (Nat.le_trans hm (by decide))⟩
    obtain ⟨s, h1, z⟩ := each j hj
    have h2 := hc j hj
    rw [h1] at h2
    have h3 := Option.some.inj h2
    simp only [encT_cells, List.cons.injEq, Value.string.injEq] at h3
    rw [← h3.1]
    exact z
end Go.Proofs.YtcckhkihhhchbaaDoor
