/- Merged texts: InoReadD, InoRead, InoFore, InoFore2, GotMath, RecImpl, ReadRecImpl. -/
import Derived.Test.YtmkchilhnmkhkaaDoorPQF
namespace Go.Proofs.YtmkchilhnmkhkaaDoor
open Go.RowKit Go.Proofs.YtmkchilhnmkhkaaDoor.Parts Go.Proofs.YtmkchilhnmkhkaaDoor.Hexa Go.Proofs.YtmkchilhnmkhkaaDoor.Byt

theorem entryOf_size (s : ByteArray) (h : s.size ≤ 2000000) : (entryOf s).f1.size ≤ 2000000 := by
  show (ByteArray.extract s 1 _).size ≤ 2000000
  rw [ByteArray.size_extract]
  omega
theorem gives_ent (sz gn : Int) (aR : Option Addr) (nR cR : Nat) (L : List ByteArray) (w : World) {w' : World} {R : List EntryR} (hL : ReadOk L) (hI : inoOf L = ⟨2, sz, gn, ⟨#[]⟩, [], R⟩) (hl : R.length = nR)
    (ho : w'.ownsRow (w.heap.size + 2) 47 2 (.slice aR nR cR) nR (cellsE encEntry R)) (hb : Below w.heap.size w w') :
    GivesIno (readInoR L) (readInoB L) w (.returned (.tuple #[.agg #[.int .i64 2, .int .i64 sz, .int .i64 gn, .string ⟨#[]⟩, .slice none 0 0, .slice aR nR cR], .bool true])) w' := by
  subst hl
  rw [readInoR_yes hL, readInoB_yes hL, hI]
  exact ⟨none, 0, aR, cR, rfl, ⟨rfl, .inl ⟨rfl, rfl⟩⟩, ownE_mono ho (by omega), .inl rfl, hb⟩

section
variable (a : Option Addr) (c : Nat) (L : List ByteArray) (w : World)
set_option maxRecDepth 100000 in
set_option maxHeartbeats 4000000 in
theorem specReadIno_dir (hs : SrcT w a 8 L) (h8 : ∀ j, j < 8 → (L.getD j default).size = 8) (hk1 : kindOf L = 2) : Calls Tryd.prog 36 #[.slice a 8 c] w (GivesIno (readInoR L) (readInoB L) w) := by
  have HLn : Hid (L.length = 8) := Lib.hid hs.len
  have HS := Lib.hid hs
  have H8 := Lib.hid h8
  have B0 := Lib.hid (below_bk w (inoObj 0 0 0 ⟨#[]⟩ none 0 0 none 0 0))
  obtain ⟨g, off, ha, hg, _⟩ := srcT_at hs 0 (by omega)
  have HC : Hid (∀ {w' : World}, Below w.heap.size w w' → ∀ j, j < 8 → w'.cell? ⟨g, off + j, none⟩ = some (.string (L.getD j default))) := Lib.hid (fun hb j hj => by
    obtain ⟨g', off', ha', _, d⟩ := srcT_later HS.out hb (Nat.le_refl _) j hj
    rw [ha] at ha'; cases ha'
    exact d)
  obtain ⟨x0, hx0⟩ : ∃ x, L.getD 0 default = x := ⟨_, rfl⟩
  have hx8 : x0.size = 8 := by rw [← hx0]; exact h8 0 (by omega)
  have h0s : 0 < x0.size := by omega
  have hkk : kindOf L = 2 := hk1
  have hkd : ((x0[0]'h0s).toNat : Int) = 2 := by unfold kindOf at hk1; rw [hx0, byte_getD x0 0 h0s] at hk1; exact hk1
  have HX0 := Lib.hid hx0
  have HKK := Lib.hid hkk
  obtain ⟨sz, hsz⟩ : ∃ z : Int, numAtV x0 1 2 = z := ⟨_, rfl⟩
  obtain ⟨gn, hgn⟩ : ∃ z : Int, numAtV x0 3 2 = z := ⟨_, rfl⟩
  obtain ⟨sb, hsb⟩ : ∃ z : Bool, numAtB x0 1 2 = z := ⟨_, rfl⟩
  obtain ⟨gb, hgb⟩ : ∃ z : Bool, numAtB x0 3 2 = z := ⟨_, rfl⟩
  obtain ⟨T, hT⟩ : ∃ T, zeroB 8 = T := ⟨_, rfl⟩
  have hszb : -9223372036854775808 ≤ sz ∧ sz ≤ 9223372036854775807 := by
    have h9 : 0 ≤ numAtV x0 1 2 ∧ numAtV x0 1 2 < 256 ^ 2 := numAtV_lt x0 1 2 (by omega) (by omega)
    rw [← hsz]
    have h10 : ((256 : Int) ^ 2) = 65536 := by decide
    rw [h10] at h9
    exact ⟨by have := h9.1; omega, by have := h9.2; omega⟩
  have HSZ := Lib.hid hsz
  have HGN := Lib.hid hgn
  have HSB := Lib.hid hsb
  have HGB := Lib.hid hgb
  have HT := Lib.hid hT
  have HZB := Lib.hid hszb
  have hgne : ¬ g = w.heap.size + 1 := by omega
  have hgne2 : ¬ w.heap.size + 1 = g := by omega
  subst ha
  clear hs h8 hx0 hkk hk1 hsz hgn hsb hgb hT hszb
  obtain ⟨i0, hi, hz0, hz1, hz2⟩ := info_parts infoEntry
  go_enter Tryd.func36, Tryd.ntmps36
  go_wp2
  go_loop [4] (fun iv => ∃ k : Nat, k ≤ 8 ∧ iv = .int .i64 k) (fun iv => 8 - (intOf iv).toNat)
  case atStart => exact ⟨0, Nat.zero_le _, rfl⟩
  case round =>
    obtain ⟨k, hk, rfl⟩ := hrel
    by_cases hlt : k < 8
    · have d0 := HC.out B0.out k hlt
      obtain ⟨x, hx⟩ : ∃ x, L.getD k default = x := ⟨_, rfl⟩
      have hxs : x.size = 8 := by rw [← hx]; exact H8.out k hlt
      rw [hx] at d0
      have e9 : ((x.size : Int) != 8) = false := by simp; omega
      clear hx
      go_wp2
      go_round
      case rel => exact ⟨k + 1, by omega, by go_num⟩
      case measure => (simp [intOf]; try omega)
    · obtain rfl : k = 8 := by omega
      have d0 := HC.out B0.out 0 (by omega)
      rw [HX0.out, Nat.add_zero] at d0
      go_wp2_with fail
      refine (specNumAt_any x0 1 2 _ (by omega) (by omega) (by omega)).mono ?_
      rw [HSZ.out, HSB.out]
      rintro e w1 ⟨rfl, hb1⟩
      have S1 := Lib.hid ((RSt.start w (inoCs 2 0 0 ⟨#[]⟩ none 0 0 none 0 0)).call hb1)
      have x1 := S1.out.box.cell (j := 1) rfl
      have z1 := S1.out.box.fr (o := 1)
      have S2 := Lib.hid (S1.out.set 1 (.int .i64 sz))
      have d1 := HC.out S1.out.below 0 (by omega)
      rw [HX0.out, Nat.add_zero] at d1
      clear hb1 d0
      go_wp2_with fail
      refine (specNumAt_any x0 3 2 _ (by omega) (by omega) (by omega)).mono ?_
      rw [HGN.out, HGB.out]
      rintro e w2 ⟨rfl, hb2⟩
      have S3 := Lib.hid (S2.out.call hb2)
      have x2 := S3.out.box.cell (j := 2) rfl
      have z2 := S3.out.box.fr (o := 2)
      have S4 := Lib.hid (S3.out.set 2 (.int .i64 gn))
      clear hb2 d1 x1 z1
      go_wp2_with fail
      refine (specZero_any 8 _).mono ?_
      rw [HT.out]
      rintro e w3 ⟨rfl, hb3⟩
      have S5 := Lib.hid (S4.out.call hb3)
      clear hb3 x2 z2
      have y0 := S5.out.box.cell (j := 0) rfl
      go_wp2
      go_loopw [7] (fun iv wr => ∃ (k : Nat) (aR : Option Addr) (cR : Nat), 2 ≤ k ∧ k ≤ 8 ∧ iv = .int .i64 k ∧ Hid (Filled L k) ∧ Hid (RSt w (inoCs 2 sz gn ⟨#[]⟩ none 0 0 aR (k - 2) cR) wr) ∧ Hid (wr.ownsRow (w.heap.size + 2) 47 2 (.slice aR (k - 2) cR) (k - 2) (cellsE encEntry ((midTo L k).map entryOf)))) (fun iv _ => 8 - (intOf iv).toNat)
      case atStart => exact ⟨2, none, 0, by omega, by omega, rfl, Lib.hid (fun j h1 h2 => by omega), Lib.hid S5.out, Lib.hid (by rw [midTo_two]; exact ⟨rfl, .inl ⟨rfl, rfl⟩⟩)⟩
      case round =>
        clear y0 S5
        obtain ⟨k, aR, cR, hk2, hk, rfl, HF, SW, HW⟩ := hrel
        have HLm : Hid (((midTo L k).map entryOf).length = k - 2) := Lib.hid (by rw [List.length_map, midTo_length (by rw [HLn.out]; exact hk)])
        have HFit : Hid (FitEntry ((midTo L k).map entryOf) (k - 2) 2000000) := Lib.hid (fun j hj => by
          rw [map_getD _ _ _ (by rw [midTo_length (by rw [HLn.out]; exact hk)]; exact hj)]
          exact entryOf_size _ (by rw [midTo_at (by omega), H8.out _ (by omega)]; omega))
        have y0 := SW.out.box.cell (j := 0) rfl
        have y1 := SW.out.box.cell (j := 1) rfl
        have y2 := SW.out.box.cell (j := 2) rfl
        have y3 := SW.out.box.cell (j := 3) rfl
        have y4 := SW.out.box.cell (j := 4) rfl
        have y5 := SW.out.box.cell (j := 5) rfl
        by_cases hlt : k < 8
        · have d3 := HC.out SW.out.below k hlt
          obtain ⟨x, hx⟩ : ∃ x, L.getD k default = x := ⟨_, rfl⟩
          have hxs : x.size = 8 := by rw [← hx]; exact H8.out k hlt
          rw [hx] at d3
          have HX := Lib.hid hx
          clear hx
          by_cases hxz : x = T
          · subst hxz
            have HST : Hid (stopOf L = k) := Lib.hid (stop_at hk2 (by omega) HF.out (.inr (by rw [HX.out, ← HT.out]; rfl)))
            have HI : Hid (inoOf L = ⟨2, sz, gn, ⟨#[]⟩, [], (midTo L k).map entryOf⟩) := Lib.hid (by unfold inoOf inoTo; rw [HKK.out, HX0.out, HSZ.out, HGN.out, HST.out, if_neg (by decide), if_neg (by decide), if_pos rfl])
            go_wp2_with fail
            refine (specInoWords_any 2 sz gn ⟨#[]⟩ none 0 0 aR (k - 2) cR _ [] ((midTo L k).map entryOf) HZB.out (SrcE.nil _ _ _) (fun j hj => absurd hj (Nat.not_lt_zero _)) (srcEntry_of_own HW.out) HFit.out).mono ?_
            rintro e w6 ⟨v6, rfl, hown6, hb6⟩
            obtain ⟨a6, c6, rfl, _, _, _⟩ := own_form hown6
            have R6 := Lib.hid (srcT_of_own hown6)
            have S6 := Lib.hid (SW.out.call hb6)
            have HW6 := Lib.hid (own_below HW.out hb6)
            have L6 : Hid ((inoWordsB ⟨2, sz, gn, ⟨#[]⟩, [], (midTo L k).map entryOf⟩).length ≤ 8) := Lib.hid (inoWords_le _)
            clear hown6 hb6 y0 y1 y2 y3 y4 y5 HW
            go_wp2_with fail
            refine (wordsEq_any _ _ _ 8 _ _ _ L _ (by have := L6.out; omega) R6.out (HS.out.below S6.out.below (Nat.le_refl _)) (readInoB L) (by rw [readInoB_iff HLn.out, HI.out])).mono ?_
            rintro e w7 ⟨rfl, q7, rfl⟩
            have S7 := Lib.hid (S6.out.drewN q7)
            have HW7 : Hid ((w6.drewN q7).ownsRow (w.heap.size + 2) 47 2 (.slice aR (k - 2) cR) (k - 2) (cellsE encEntry ((midTo L k).map entryOf))) := Lib.hid HW6.out
            have y0 := S7.out.box.cell (j := 0) rfl
            have y1 := S7.out.box.cell (j := 1) rfl
            have y2 := S7.out.box.cell (j := 2) rfl
            have y3 := S7.out.box.cell (j := 3) rfl
            have y4 := S7.out.box.cell (j := 4) rfl
            have y5 := S7.out.box.cell (j := 5) rfl
            have r0 := S7.out.res.cell (j := 0) rfl
            have r1 := S7.out.res.cell (j := 1) rfl
            have r2 := S7.out.res.cell (j := 2) rfl
            have r3 := S7.out.res.cell (j := 3) rfl
            have r4 := S7.out.res.cell (j := 4) rfl
            have r5 := S7.out.res.cell (j := 5) rfl
            have f0 := S7.out.res.fr (o := 0)
            have f1 := S7.out.res.fr (o := 1)
            have f2 := S7.out.res.fr (o := 2)
            have f3 := S7.out.res.fr (o := 3)
            have f4 := S7.out.res.fr (o := 4)
            have f5 := S7.out.res.fr (o := 5)
            by_cases hok : ReadOk L
            · have HOK := Lib.hid hok
              have hrb := readInoB_yes hok
              rw [hrb]
              clear hok hrb
              have qf := ((((((S7.out.res.set 0 (.int .i64 2)).set 1 (.int .i64 sz)).set 2 (.int .i64 gn)).set 3 (.string ⟨#[]⟩)).set 4 (.slice none 0 0)).set 5 (.slice aR (k - 2) cR))
              have q0 := qf.cell (j := 0) (v := .int .i64 2) rfl
              have q1 := qf.cell (j := 1) (v := .int .i64 sz) rfl
              have q2 := qf.cell (j := 2) (v := .int .i64 gn) rfl
              have q3 := qf.cell (j := 3) (v := .string ⟨#[]⟩) rfl
              have q4 := qf.cell (j := 4) (v := .slice none 0 0) rfl
              have q5 := qf.cell (j := 5) (v := .slice aR (k - 2) cR) rfl
              clear qf
              go_wp2
              refine bodyPost_ret (v := .tuple #[.agg #[.int .i64 2, .int .i64 sz, .int .i64 gn, .string ⟨#[]⟩, .slice none 0 0, .slice aR (k - 2) cR], .bool true]) ?_ rfl (gives_ent sz gn aR (k - 2) cR L w HOK.out HI.out HLm.out (ownE_but HW7.out (((((((ButE.refl w.heap.size _).then_set _ _).then_set _ _).then_set _ _).then_set _ _).then_set _ _).then_set _ _) (fun g hg => by have := own_block_ge HW7.out g hg; omega)) ((((((S7.out.below.setCell (Nat.le_refl _) _).setCell (Nat.le_refl _) _).setCell (Nat.le_refl _) _).setCell (Nat.le_refl _) _).setCell (Nat.le_refl _) _).setCell (Nat.le_refl _) _))
              simp [results, Tryd.results36, go_sem, q0, q1, q2, q3, q4, q5]
            · have HOK := Lib.hid hok
              have hrb := readInoB_no hok
              rw [hrb]
              clear hok hrb
              have qf := ((((((S7.out.res.set 0 (.int .i64 0)).set 1 (.int .i64 0)).set 2 (.int .i64 0)).set 3 (.string ⟨#[]⟩)).set 4 (.slice none 0 0)).set 5 (.slice none 0 0))
              have q0 := qf.cell (j := 0) (v := .int .i64 0) rfl
              have q1 := qf.cell (j := 1) (v := .int .i64 0) rfl
              have q2 := qf.cell (j := 2) (v := .int .i64 0) rfl
              have q3 := qf.cell (j := 3) (v := .string ⟨#[]⟩) rfl
              have q4 := qf.cell (j := 4) (v := .slice none 0 0) rfl
              have q5 := qf.cell (j := 5) (v := .slice none 0 0) rfl
              clear qf
              go_wp2
              refine bodyPost_ret (v := .tuple #[.agg #[.int .i64 0, .int .i64 0, .int .i64 0, .string ⟨#[]⟩, .slice none 0 0, .slice none 0 0], .bool false]) ?_ rfl (gives_zero L w ((((((S7.out.below.setCell (Nat.le_refl _) _).setCell (Nat.le_refl _) _).setCell (Nat.le_refl _) _).setCell (Nat.le_refl _) _).setCell (Nat.le_refl _) _).setCell (Nat.le_refl _) _) HOK.out rfl)
              simp [results, Tryd.results36, go_sem, q0, q1, q2, q3, q4, q5]
          · have i1 := text_neB hxz
            have i2 : (x.toList != T.toList) = true := by simp only [bne, i1]; rfl
            have i3 := text_ne hxz
            have HF2 : Hid (Filled L (k + 1)) := Lib.hid (filled_step HF.out (by rw [HX.out]; intro e; exact hxz (by rw [e, ← HT.out]; rfl)))
            clear hxz
            go_wp2_with fail
            refine (specReadEntry_any x _ (by omega)).mono ?_
            by_cases hR : EntryOk (entryOf x)
            · rw [show entryReadR x = entryOf x from if_pos ⟨hxs, hR⟩, show entryReadB x = true from decide_eq_true ⟨hxs, hR⟩]
              obtain ⟨⟨p, m⟩, hr⟩ : ∃ r, entryOf x = r := ⟨_, rfl⟩
              have HR := Lib.hid hr
              rw [hr]
              clear hr hR
              rintro e w1 ⟨rfl, hb1⟩
              have HW1 := Lib.hid (own_below HW.out hb1)
              have S1 := Lib.hid (SW.out.call hb1)
              have Z1 : Hid (w.heap.size + 2 ≤ w1.heap.size) := Lib.hid S1.out.size
              clear hb1 y0 y1 y2 y3 y4 y5 d3
              have y0 := S1.out.box.cell (j := 0) rfl
              have S1a := Lib.hid (S1.out.call (below_bk w1 (.cells #[.int .i64 p, .string m] 47)))
              have y4 := S1a.out.box.cell (j := 5) rfl
              have K1 : Hid (k + 1 - 2 = k - 2 + 1) := Lib.hid (by omega)
              have hwn : Hid (cellsE encEntry ((midTo L k).map entryOf) ++ [.int .i64 p, .string m] = cellsE encEntry ((midTo L (k + 1)).map entryOf)) := Lib.hid (by
                rw [midTo_next hk2 (by rw [HLn.out]; exact hlt), List.map_append, cellsE_append, HX.out]
                show _ = _ ++ cellsE encEntry [entryOf x]
                rw [HR.out, cellsE_one]; rfl)
              go_wp2_with (first
                | (at_builtin; refine wpList_append_own _ rfl (.tmp 104) (.tmp 106) 52 rfl (w.heap.size + 2) 47 i0 (.agg #[.int .i64 0, .string ByteArray.empty]) 2 24 Tryd.underlying52 hi hz0 hz1 hz2 rfl (by decide) _ _ _ rfl ((HW1.out.alloc _).alloc _) ⟨w1.heap.size + 1, 0, none⟩ 1 1 [.int .i64 p, .string m] rfl rfl (World.news_of_block (by simpa using heap_alloc_new (w1.alloc (.cells #[.int .i64 p, .string m] 47)) (.cells #[.int .i64 p, .string m] 47))) (by simp [Value.oneCell']) (by unfold maxLen; omega) (by omega) (by have := Z1.out; simp; omega) ?_; intro v2 w2 hown2 hgrow2 hn2
                   rw [hwn.out] at hown2
                   obtain ⟨aR2, cR2, rfl, _, _, hg2⟩ := ownE_form hown2
                   have S2 := Lib.hid ((S1a.out.call (below_bk _ (.cells #[.int .i64 p, .string m] 47))).grown hgrow2 (fun g hg => own_block_ge HW1.out g hg))
                   have x4 := S2.out.box.cell (j := 5) rfl
                   have z4 := S2.out.box.fr (o := 5)
                   have x0' := S2.out.box.cell (j := 0) rfl
                   have S3 := Lib.hid (S2.out.set 5 (.slice aR2 (k - 2 + 1) cR2))
                   have HW3 := Lib.hid (ownE_but hown2 ((ButE.refl (w.heap.size + 1) w2).then_set 5 (.slice aR2 (k - 2 + 1) cR2)) (fun g hg => by have := own_block_ge hown2 g hg; omega))
                   clear hown2 hgrow2 hn2 hg2 y0 y4))
              go_roundw
              case rel => exact ⟨k + 1, aR2, cR2, by omega, by omega, by go_num, HF2, Lib.hid (by rw [K1.out]; exact S3.out), Lib.hid (by rw [K1.out]; exact HW3.out)⟩
              case measure => (simp [intOf]; try omega)
            · have HL : Hid (¬ ReadOk L) := Lib.hid (read_badEnt hk2 hlt HLn.out HKK.out HF2.out (by rw [HX.out]; exact hR))
              rw [show entryReadR x = ⟨0, ⟨#[]⟩⟩ from if_neg (fun e => hR e.2), show entryReadB x = false from decide_eq_false (fun e => hR e.2)]
              clear hR
              rintro e w1 ⟨rfl, hb1⟩
              have S7 := Lib.hid ((SW.out.call hb1).call (below_bk w1 (.cells #[.int .i64 0, .string ⟨#[]⟩] 47)))
              clear hb1 y0 y1 y2 y3 y4 y5 d3 HW
              have r0 := S7.out.res.cell (j := 0) rfl
              have r1 := S7.out.res.cell (j := 1) rfl
              have r2 := S7.out.res.cell (j := 2) rfl
              have r3 := S7.out.res.cell (j := 3) rfl
              have r4 := S7.out.res.cell (j := 4) rfl
              have r5 := S7.out.res.cell (j := 5) rfl
              have f0 := S7.out.res.fr (o := 0)
              have f1 := S7.out.res.fr (o := 1)
              have f2 := S7.out.res.fr (o := 2)
              have f3 := S7.out.res.fr (o := 3)
              have f4 := S7.out.res.fr (o := 4)
              have f5 := S7.out.res.fr (o := 5)
              have qf := ((((((S7.out.res.set 0 (.int .i64 0)).set 1 (.int .i64 0)).set 2 (.int .i64 0)).set 3 (.string ⟨#[]⟩)).set 4 (.slice none 0 0)).set 5 (.slice none 0 0))
              have q0 := qf.cell (j := 0) (v := .int .i64 0) rfl
              have q1 := qf.cell (j := 1) (v := .int .i64 0) rfl
              have q2 := qf.cell (j := 2) (v := .int .i64 0) rfl
              have q3 := qf.cell (j := 3) (v := .string ⟨#[]⟩) rfl
              have q4 := qf.cell (j := 4) (v := .slice none 0 0) rfl
              have q5 := qf.cell (j := 5) (v := .slice none 0 0) rfl
              clear qf
              go_wp2
              refine bodyPost_ret (v := .tuple #[.agg #[.int .i64 0, .int .i64 0, .int .i64 0, .string ⟨#[]⟩, .slice none 0 0, .slice none 0 0], .bool false]) ?_ rfl (gives_zero L w ((((((S7.out.below.setCell (Nat.le_refl _) _).setCell (Nat.le_refl _) _).setCell (Nat.le_refl _) _).setCell (Nat.le_refl _) _).setCell (Nat.le_refl _) _).setCell (Nat.le_refl _) _) HL.out rfl)
              simp [results, Tryd.results36, go_sem, q0, q1, q2, q3, q4, q5]
        · obtain rfl : k = 8 := by omega
          have HST : Hid (stopOf L = 8) := Lib.hid (stop_at hk2 (by omega) HF.out (.inl rfl))
          have HI : Hid (inoOf L = ⟨2, sz, gn, ⟨#[]⟩, [], (midTo L 8).map entryOf⟩) := Lib.hid (by unfold inoOf inoTo; rw [HKK.out, HX0.out, HSZ.out, HGN.out, HST.out, if_neg (by decide), if_neg (by decide), if_pos rfl])
          go_wp2_with fail
          refine (specInoWords_any 2 sz gn ⟨#[]⟩ none 0 0 aR (8 - 2) cR _ [] ((midTo L 8).map entryOf) HZB.out (SrcE.nil _ _ _) (fun j hj => absurd hj (Nat.not_lt_zero _)) (srcEntry_of_own HW.out) HFit.out).mono ?_
          rintro e w6 ⟨v6, rfl, hown6, hb6⟩
          obtain ⟨a6, c6, rfl, _, _, _⟩ := own_form hown6
          have R6 := Lib.hid (srcT_of_own hown6)
          have S6 := Lib.hid (SW.out.call hb6)
          have HW6 := Lib.hid (own_below HW.out hb6)
          have L6 : Hid ((inoWordsB ⟨2, sz, gn, ⟨#[]⟩, [], (midTo L 8).map entryOf⟩).length ≤ 8) := Lib.hid (inoWords_le _)
          clear hown6 hb6 y0 y1 y2 y3 y4 y5 HW
          go_wp2_with fail
          refine (wordsEq_any _ _ _ 8 _ _ _ L _ (by have := L6.out; omega) R6.out (HS.out.below S6.out.below (Nat.le_refl _)) (readInoB L) (by rw [readInoB_iff HLn.out, HI.out])).mono ?_
          rintro e w7 ⟨rfl, q7, rfl⟩
          have S7 := Lib.hid (S6.out.drewN q7)
          have HW7 : Hid ((w6.drewN q7).ownsRow (w.heap.size + 2) 47 2 (.slice aR (8 - 2) cR) (8 - 2) (cellsE encEntry ((midTo L 8).map entryOf))) := Lib.hid HW6.out
          have y0 := S7.out.box.cell (j := 0) rfl
          have y1 := S7.out.box.cell (j := 1) rfl
          have y2 := S7.out.box.cell (j := 2) rfl
          have y3 := S7.out.box.cell (j := 3) rfl
          have y4 := S7.out.box.cell (j := 4) rfl
          have y5 := S7.out.box.cell (j := 5) rfl
          have r0 := S7.out.res.cell (j := 0) rfl
          have r1 := S7.out.res.cell (j := 1) rfl
          have r2 := S7.out.res.cell (j := 2) rfl
          have r3 := S7.out.res.cell (j := 3) rfl
          have r4 := S7.out.res.cell (j := 4) rfl
          have r5 := S7.out.res.cell (j := 5) rfl
          have f0 := S7.out.res.fr (o := 0)
          have f1 := S7.out.res.fr (o := 1)
          have f2 := S7.out.res.fr (o := 2)
          have f3 := S7.out.res.fr (o := 3)
          have f4 := S7.out.res.fr (o := 4)
          have f5 := S7.out.res.fr (o := 5)
          by_cases hok : ReadOk L
          · have HOK := Lib.hid hok
            have hrb := readInoB_yes hok
            rw [hrb]
            clear hok hrb
            have qf := ((((((S7.out.res.set 0 (.int .i64 2)).set 1 (.int .i64 sz)).set 2 (.int .i64 gn)).set 3 (.string ⟨#[]⟩)).set 4 (.slice none 0 0)).set 5 (.slice aR (8 - 2) cR))
            have q0 := qf.cell (j := 0) (v := .int .i64 2) rfl
            have q1 := qf.cell (j := 1) (v := .int .i64 sz) rfl
            have q2 := qf.cell (j := 2) (v := .int .i64 gn) rfl
            have q3 := qf.cell (j := 3) (v := .string ⟨#[]⟩) rfl
            have q4 := qf.cell (j := 4) (v := .slice none 0 0) rfl
            have q5 := qf.cell (j := 5) (v := .slice aR (8 - 2) cR) rfl
            clear qf
            go_wp2
            refine bodyPost_ret (v := .tuple #[.agg #[.int .i64 2, .int .i64 sz, .int .i64 gn, .string ⟨#[]⟩, .slice none 0 0, .slice aR (8 - 2) cR], .bool true]) ?_ rfl (gives_ent sz gn aR (8 - 2) cR L w HOK.out HI.out HLm.out (ownE_but HW7.out (((((((ButE.refl w.heap.size _).then_set _ _).then_set _ _).then_set _ _).then_set _ _).then_set _ _).then_set _ _) (fun g hg => by have := own_block_ge HW7.out g hg; omega)) ((((((S7.out.below.setCell (Nat.le_refl _) _).setCell (Nat.le_refl _) _).setCell (Nat.le_refl _) _).setCell (Nat.le_refl _) _).setCell (Nat.le_refl _) _).setCell (Nat.le_refl _) _))
            simp [results, Tryd.results36, go_sem, q0, q1, q2, q3, q4, q5]
          · have HOK := Lib.hid hok
            have hrb := readInoB_no hok
            rw [hrb]
            clear hok hrb
            have qf := ((((((S7.out.res.set 0 (.int .i64 0)).set 1 (.int .i64 0)).set 2 (.int .i64 0)).set 3 (.string ⟨#[]⟩)).set 4 (.slice none 0 0)).set 5 (.slice none 0 0))
            have q0 := qf.cell (j := 0) (v := .int .i64 0) rfl
            have q1 := qf.cell (j := 1) (v := .int .i64 0) rfl
            have q2 := qf.cell (j := 2) (v := .int .i64 0) rfl
            have q3 := qf.cell (j := 3) (v := .string ⟨#[]⟩) rfl
            have q4 := qf.cell (j := 4) (v := .slice none 0 0) rfl
            have q5 := qf.cell (j := 5) (v := .slice none 0 0) rfl
            clear qf
            go_wp2
            refine bodyPost_ret (v := .tuple #[.agg #[.int .i64 0, .int .i64 0, .int .i64 0, .string ⟨#[]⟩, .slice none 0 0, .slice none 0 0], .bool false]) ?_ rfl (gives_zero L w ((((((S7.out.below.setCell (Nat.le_refl _) _).setCell (Nat.le_refl _) _).setCell (Nat.le_refl _) _).setCell (Nat.le_refl _) _).setCell (Nat.le_refl _) _).setCell (Nat.le_refl _) _) HOK.out rfl)
            simp [results, Tryd.results36, go_sem, q0, q1, q2, q3, q4, q5]
end
end Go.Proofs.YtmkchilhnmkhkaaDoor
namespace Go.Proofs.YtmkchilhnmkhkaaDoor
open Go.RowKit Go.Proofs.YtmkchilhnmkhkaaDoor.Parts Go.Proofs.YtmkchilhnmkhkaaDoor.Hexa Go.Proofs.YtmkchilhnmkhkaaDoor.Byt

theorem specReadIno_any (a : Option Addr) (n c : Nat) (L : List ByteArray) (w : World) (hs : SrcT w a n L) (hm : ∀ j, j < n → (L.getD j default).size ≤ 2000000) :
    Calls Tryd.prog 36 #[.slice a n c] w (GivesIno (readInoR L) (readInoB L) w) := by
  by_cases h8 : n = 8
  · by_cases hz : ∀ j, j < 8 → (L.getD j default).size = 8
    · subst h8
      by_cases h1 : kindOf L = 1
      · exact specReadIno_file a c L w hs hz h1
      · by_cases h2 : kindOf L = 2
        · exact specReadIno_dir a c L w hs hz h2
        · exact specReadIno_else a c L w hs hz h1 h2
    · exact specReadIno_size a n c L w hs h8 hm hz
  · exact specReadIno_len a n c L w hs h8
end Go.Proofs.YtmkchilhnmkhkaaDoor
namespace Go.Proofs.YtmkchilhnmkhkaaDoor
open Go.RowKit Go.Proofs.YtmkchilhnmkhkaaDoor.Parts Go.Proofs.YtmkchilhnmkhkaaDoor.Hexa Go.Proofs.YtmkchilhnmkhkaaDoor.Byt

theorem list_of_size {x : ByteArray} {k : Nat} (h : x.size = k) : x.data.toList.length = k := by simpa using h
theorem cut_first (A B : List UInt8) (k : Nat) (h : A.length = k) : ((A ++ B).drop 0).take k = A := by
  rw [List.drop_zero, ← h]; simp
theorem cut_next (A B C : List UInt8) (j k : Nat) (h : A.length = j) (h2 : B.length = k) : ((A ++ B ++ C).drop j).take k = B := by
  rw [← h, List.append_assoc, List.drop_left, ← h2, List.take_left]
theorem rec_fore {r : RecR} (h : RecOk r) : recOf (recWordB r) = r := by
  have h8 := recWord_size h
  rw [recWordB_yes h] at h8 ⊢
  obtain ⟨⟨h0, h1⟩, ⟨h2, h3⟩, h4⟩ := h
  have e1 : (numTextB r.f0 1).size = 1 := numText_size (k := 1) (by omega) (by omega) (by omega)
  have e2 : (numTextB r.f1 3).size = 3 := numText_size (k := 3) (by omega) (by omega) (by omega)
  have l1 := list_of_size e1
  have l2 := list_of_size e2
  have l3 := list_of_size h4
  have a1 : numAtV (numTextB r.f0 1 ++ numTextB r.f1 3 ++ r.f2) 0 1 = r.f0 := numAt_fore _ 0 1 r.f0 (by omega) (by omega) (by omega) (by omega) (by
    unfold cutL
    rw [ByteArray.data_append, ByteArray.data_append, Array.toList_append, Array.toList_append, List.append_assoc]
    exact cut_first _ _ 1 l1)
  have a2 : numAtV (numTextB r.f0 1 ++ numTextB r.f1 3 ++ r.f2) 1 3 = r.f1 := numAt_fore _ 1 3 r.f1 (by omega) (by omega) (by omega) (by omega) (by
    unfold cutL
    rw [ByteArray.data_append, ByteArray.data_append, Array.toList_append, Array.toList_append]
    exact cut_next _ _ _ 1 3 l1 l2)
  have a3 : (numTextB r.f0 1 ++ numTextB r.f1 3 ++ r.f2).extract 4 8 = r.f2 := by
    apply ByteArray.ext
    apply Array.toList_inj.1
    have := cut_extract (numTextB r.f0 1 ++ numTextB r.f1 3 ++ r.f2) 4 4
    rw [show 4 + 4 = 8 from rfl] at this
    rw [this]
    unfold cutL
    rw [ByteArray.data_append, ByteArray.data_append, Array.toList_append, Array.toList_append]
    rw [List.drop_append_of_le_length (by simp [l1, l2]), List.drop_of_length_le (by simp [l1, l2]), List.nil_append, ← l3, List.take_length]
  show (⟨_, _, _⟩ : RecR) = r
  rw [a1, a2, a3]
theorem endTo_at (l : List UInt8) (E : Nat) (h2 : 2 ≤ E) (hne : ¬ l.getD (E - 1) 0 = 0) : ∀ k, E ≤ k → (∀ j, E ≤ j → j < k → l.getD j 0 = 0) → endTo l k = E
  | 0, h, _ => by omega
  | 1, h, _ => by omega
  | k + 2, h, hz => by
    by_cases e : E = k + 2
    · subst e
      exact endTo_stop l k hne
    · rw [endTo_step l k (hz (k + 1) (by omega) (by omega))]
      exact endTo_at l E h2 hne (k + 1) (by omega) (fun j h3 h4 => hz j h3 (by omega))
theorem ent_fore {r : EntryR} (h : EntryOk r) : entryOf (entryWordB r) = r := by
  rw [entryWordB_yes h]
  obtain ⟨⟨h0, h1⟩, h2⟩ := h
  obtain ⟨b, hb⟩ : ∃ b : UInt8, (b.toNat : Int) = r.f0 := ⟨UInt8.ofNat r.f0.toNat, by rw [UInt8.toNat_ofNat']; omega⟩
  have e1 : (numTextB r.f0 1).data.toList = [b] := by rw [← hb]; exact one_byte b (by omega)
  have hN : r.f1.data.toList.length = r.f1.size := by simp
  obtain ⟨n, hn⟩ : ∃ n, r.f1.size = n := ⟨_, rfl⟩
  have hn7 := h2.1
  rw [hn] at hn7 hN
  have hs : (wordB (numTextB r.f0 1 ++ r.f1)).data.toList = [b] ++ r.f1.data.toList ++ List.replicate (7 - n) 0 := by
    have e2 : (numTextB r.f0 1 ++ r.f1).size = 1 + n := by
      rw [ByteArray.size_append, hn]
      have : (numTextB r.f0 1).data.toList.length = 1 := by rw [e1]; rfl
      have e3 : (numTextB r.f0 1).size = 1 := by simpa using this
      rw [e3]
    unfold wordB
    rw [if_pos (by omega), ByteArray.data_append, ByteArray.data_append, Array.toList_append, Array.toList_append, e1, e2]
    show _ ++ (List.replicate (8 - (1 + n)) 0) = _
    rw [show 8 - (1 + n) = 7 - n by omega]
  have hlast : ¬ ([b] ++ r.f1.data.toList ++ List.replicate (7 - n) 0).getD n 0 = 0 := by
    have hm : n - 1 < r.f1.data.toList.length := by omega
    have e4 : ([b] ++ r.f1.data.toList ++ List.replicate (7 - n) 0).getD n 0 = r.f1.data.toList[n - 1] := by
      simp only [List.getD]
      rw [List.getElem?_append_left (by simp; omega), List.getElem?_append_right (by simp; omega), List.getElem?_eq_getElem (by simp; omega)]
      simp
    rw [e4]
    intro e5
    have := h2.2 _ (List.getElem_mem hm)
    rw [e5] at this
    exact absurd this (by decide)
  have hend : endOf (wordB (numTextB r.f0 1 ++ r.f1)) = 1 + n := by
    unfold endOf
    rw [hs]
    refine endTo_at _ (1 + n) (by omega) (by rw [show 1 + n - 1 = n by omega]; exact hlast) 8 (by omega) (fun j h3 h4 => ?_)
    simp only [List.getD]
    rw [List.getElem?_append_right (by simp; omega)]
    rw [List.getElem?_replicate]
    split <;> rfl
  show (⟨_, _⟩ : EntryR) = r
  rw [hend]
  have a1 : (((wordB (numTextB r.f0 1 ++ r.f1)).data.toList.getD 0 0).toNat : Int) = r.f0 := by rw [hs, ← hb]; rfl
  have a2 : (wordB (numTextB r.f0 1 ++ r.f1)).extract 1 (1 + n) = r.f1 := by
    apply ByteArray.ext
    apply Array.toList_inj.1
    rw [cut_extract]
    unfold cutL
    rw [hs]
    exact cut_next _ _ _ 1 n rfl hN
  rw [a1, a2]
end Go.Proofs.YtmkchilhnmkhkaaDoor
namespace Go.Proofs.YtmkchilhnmkhkaaDoor
open Go.RowKit Go.Proofs.YtmkchilhnmkhkaaDoor.Parts Go.Proofs.YtmkchilhnmkhkaaDoor.Hexa Go.Proofs.YtmkchilhnmkhkaaDoor.Byt

theorem stop_words (h k : ByteArray) (M : List ByteArray) (j : Nat) (hj : M.length + j = 6) (hz : ∀ x ∈ M, x ≠ zero8) :
    stopOf ([h, k] ++ M ++ List.replicate j zero8) = 2 + M.length ∧ midTo ([h, k] ++ M ++ List.replicate j zero8) (2 + M.length) = M := by
  refine ⟨stop_at (by omega) (by omega) (fun i h1 h2 => ?_) ?_, ?_⟩
  · have hm : i - 2 < M.length := by omega
    have e : ([h, k] ++ M ++ List.replicate j zero8).getD i default = M[i - 2] := by
      simp only [List.getD]
      rw [List.getElem?_append_left (by simp; omega), List.getElem?_append_right (by simp; omega)]
      simp [hm]
    rw [e]
    exact hz _ (List.getElem_mem hm)
  · by_cases e : j = 0
    · left; omega
    · right
      simp only [List.getD]
      rw [List.getElem?_append_right (by simp; omega), List.getElem?_replicate, if_pos (by simp; omega)]
      rfl
  · unfold midTo
    rw [List.take_append_of_le_length (by simp; omega), List.take_of_length_le (by simp; omega)]
    rfl
theorem recZero : ¬ RecOk (recOf zero8) := by decide +kernel
theorem entZero : ¬ EntryOk (entryOf zero8) := by decide +kernel
theorem head_list {n : InoR} (h0 : 0 ≤ n.kd ∧ n.kd ≤ 2) (h1 : 0 ≤ n.sz ∧ n.sz ≤ 65535) (h2 : 0 ≤ n.gn ∧ n.gn ≤ 65535) :
    (((headB n).data.toList.getD 0 0).toNat : Int) = n.kd ∧ numAtV (headB n) 1 2 = n.sz ∧ numAtV (headB n) 3 2 = n.gn := by
  obtain ⟨b, hb⟩ : ∃ b : UInt8, (b.toNat : Int) = n.kd := ⟨UInt8.ofNat n.kd.toNat, by rw [UInt8.toNat_ofNat']; omega⟩
  have e1 : (numTextB n.kd 1).data.toList = [b] := by rw [← hb]; exact one_byte b (by omega)
  have s1 : (numTextB n.kd 1).size = 1 := numText_size (k := 1) (by omega) (by omega) (by omega)
  have s2 : (numTextB n.sz 2).size = 2 := numText_size (k := 2) (by omega) (by omega) (by omega)
  have s3 : (numTextB n.gn 2).size = 2 := numText_size (k := 2) (by omega) (by omega) (by omega)
  have l2 := list_of_size s2
  have l3 := list_of_size s3
  have hl : (headB n).data.toList = [b] ++ (numTextB n.sz 2).data.toList ++ (numTextB n.gn 2).data.toList ++ List.replicate 3 0 := by
    have e2 : (numTextB n.kd 1 ++ numTextB n.sz 2 ++ numTextB n.gn 2).size = 5 := by rw [ByteArray.size_append, ByteArray.size_append, s1, s2, s3]
    unfold headB wordB
    rw [if_pos (by omega), e2, ByteArray.data_append, ByteArray.data_append, ByteArray.data_append, Array.toList_append, Array.toList_append, Array.toList_append, e1]
    rfl
  have h8 : (headB n).size = 8 := by
    have : (headB n).data.toList.length = 8 := by rw [hl]; simp [l2, l3]
    simpa using this
  refine ⟨by rw [hl, ← hb]; rfl, numAt_fore _ 1 2 n.sz (by omega) (by omega) h1.1 (by omega) ?_, numAt_fore _ 3 2 n.gn (by omega) (by omega) h2.1 (by omega) ?_⟩
  · unfold cutL
    rw [hl, List.append_assoc ([b] ++ _)]
    exact cut_next _ _ _ 1 2 rfl l2
  · unfold cutL
    rw [hl]
    exact cut_next _ _ _ 3 2 (by simp [l2]) l3
theorem map_id_of {α : Type} [Inhabited α] (f : α → α) (L : List α) (h : ∀ j, j < L.length → f (L.getD j default) = L.getD j default) : L.map f = L := by
  apply List.ext_getElem (by simp)
  intro i h1 h2
  have h9 := h i h2
  simpa [List.getD, h2] using h9
theorem inoOf_words {n : InoR} (h : InoOk n) : inoOf (inoWordsB n) = n := by
  have hle := wordsI_le h
  have hlen : (wordsI n).length = 2 + (n.R.map recWordB ++ n.E.map entryWordB).length := by unfold wordsI; simp; omega
  have hL : inoWordsB n = [headB n, wordB n.key] ++ (n.R.map recWordB ++ n.E.map entryWordB) ++ List.replicate (8 - (wordsI n).length) zero8 := by
    rw [inoWords_yes h]; unfold fillTo wordsI; rw [List.append_assoc [headB n, wordB n.key]]
  have hM : ∀ x ∈ n.R.map recWordB ++ n.E.map entryWordB, x ≠ zero8 := by
    intro x hx
    rw [List.mem_append, List.mem_map, List.mem_map] at hx
    rcases hx with ⟨r, hr, rfl⟩ | ⟨r, hr, rfl⟩
    · obtain ⟨j, hj, rfl⟩ := getD_mem_i _ hr
      rcases h with ⟨_, ⟨_, h⟩ | ⟨_, h⟩ | ⟨_, h⟩⟩
      · have := h.2.2.1; omega
      · have hr := (h.2.2.2.2 j hj).1
        intro e
        have := rec_fore hr
        rw [e] at this
        exact recZero (by rw [this]; exact hr)
      · have := h.2.2.1; omega
    · obtain ⟨j, hj, rfl⟩ := getD_mem_i _ hr
      rcases h with ⟨_, ⟨_, h⟩ | ⟨_, h⟩ | ⟨_, h⟩⟩
      · have := h.2.2.2; omega
      · have := h.2.2.2.1; omega
      · have hr := (h.2.2.2.2 j hj).1
        intro e
        have := ent_fore hr
        rw [e] at this
        exact entZero (by rw [this]; exact hr)
  obtain ⟨hst, hmid⟩ := stop_words (headB n) (wordB n.key) _ (8 - (wordsI n).length) (by omega) hM
  have hk : 0 ≤ n.kd ∧ n.kd ≤ 2 := by rcases h with ⟨_, ⟨e, _⟩ | ⟨e, _⟩ | ⟨e, _⟩⟩ <;> omega
  have hz : 0 ≤ n.sz ∧ n.sz ≤ 65535 := by
    rcases h with ⟨_, ⟨_, h⟩ | ⟨_, h⟩ | ⟨_, h⟩⟩
    · have := h.1; omega
    · have := h.1; omega
    · have := h.1; omega
  obtain ⟨k1, k2, k3⟩ := head_list hk hz h.1
  unfold inoOf inoTo kindOf
  rw [hL, hst, hmid]
  show (⟨(((headB n).data.toList.getD 0 0).toNat : Int), numAtV (headB n) 1 2, numAtV (headB n) 3 2, if (((headB n).data.toList.getD 0 0).toNat : Int) = 1 then wordB n.key else ⟨#[]⟩, if (((headB n).data.toList.getD 0 0).toNat : Int) = 1 then _ else [], if (((headB n).data.toList.getD 0 0).toNat : Int) = 2 then _ else []⟩ : InoR) = n
  rw [k1, k2, k3]
  obtain ⟨kd, sz, gn, key, R, E⟩ := n
  rcases h with ⟨_, ⟨e, h⟩ | ⟨e, h⟩ | ⟨e, h⟩⟩
  · obtain rfl : kd = 0 := e
    obtain ⟨_, g2, g3, g4⟩ := h
    obtain rfl : key = ⟨#[]⟩ := text_nothing g2
    obtain rfl : R = [] := List.length_eq_zero_iff.1 g3
    obtain rfl : E = [] := List.length_eq_zero_iff.1 g4
    rfl
  · obtain rfl : kd = 1 := e
    obtain ⟨_, g2, _, g4, g5⟩ := h
    obtain rfl : E = [] := List.length_eq_zero_iff.1 g4
    have hkey : wordB key = key := by
      have g2 : key.size = 8 := g2
      unfold wordB
      rw [if_pos (by omega), g2]
      exact ByteArray.append_empty
    have hR : (R.map recWordB).map recOf = R := by
      rw [List.map_map]
      exact map_id_of _ R (fun j hj => rec_fore (g5 j hj).1)
    simp [hkey, hR]
  · obtain rfl : kd = 2 := e
    obtain ⟨_, g2, g3, _, g5⟩ := h
    obtain rfl : key = ⟨#[]⟩ := text_nothing g2
    obtain rfl : R = [] := List.length_eq_zero_iff.1 g3
    have hE : (E.map entryWordB).map entryOf = E := by
      rw [List.map_map]
      exact map_id_of _ E (fun j hj => ent_fore (g5 j hj).1)
    simp
    exact map_id_of _ E (fun j hj => ent_fore (g5 j hj).1)
end Go.Proofs.YtmkchilhnmkhkaaDoor
namespace Go.Proofs.YtmkchilhnmkhkaaDoor
open Go.RowKit Go.Proofs.YtmkchilhnmkhkaaDoor.Parts Go.Proofs.YtmkchilhnmkhkaaDoor.Hexa Go.Proofs.YtmkchilhnmkhkaaDoor.Byt

def leadRecs (L : List ByteArray) : List RecR := (L.takeWhile recReadB).map recReadR
def leadEnts (L : List ByteArray) : List EntryR := (L.takeWhile entryReadB).map entryReadR
def gotKind (L : List ByteArray) : Int := numAtV (L.getD 0 default) 0 1
def inoGot (L : List ByteArray) : InoR :=
  ⟨gotKind L, numAtV (L.getD 0 default) 1 2, numAtV (L.getD 0 default) 3 2, if gotKind L = 1 then L.getD 1 default else ⟨#[]⟩, if gotKind L = 1 then leadRecs (L.drop 2) else [], if gotKind L = 2 then leadEnts (L.drop 2) else []⟩
theorem recRead_word {r : RecR} (h : RecOk r) : recReadB (recWordB r) = true ∧ recReadR (recWordB r) = r := by
  have h8 := recWord_size h
  have hf := rec_fore h
  have h9 : (recWordB r).size = 8 ∧ RecOk (recOf (recWordB r)) := ⟨h8, by rw [hf]; exact h⟩
  exact ⟨decide_eq_true h9, by unfold recReadR; rw [if_pos h9, hf]⟩
theorem entRead_word {r : EntryR} (h : EntryOk r) : entryReadB (entryWordB r) = true ∧ entryReadR (entryWordB r) = r := by
  have h8 := entryWord_size h
  have hf := ent_fore h
  have h9 : (entryWordB r).size = 8 ∧ EntryOk (entryOf (entryWordB r)) := ⟨h8, by rw [hf]; exact h⟩
  exact ⟨decide_eq_true h9, by unfold entryReadR; rw [if_pos h9, hf]⟩
theorem recRead_zero : recReadB zero8 = false := decide_eq_false (fun h => recZero h.2)
theorem entRead_zero : entryReadB zero8 = false := decide_eq_false (fun h => entZero h.2)
theorem lead_recs (j : Nat) : ∀ R : List RecR, (∀ r ∈ R, RecOk r) → leadRecs (R.map recWordB ++ List.replicate j zero8) = R
  | [], _ => by
    unfold leadRecs
    cases j with
    | zero => rfl
    | succ j => rw [List.map_nil, List.nil_append, List.replicate_succ, List.takeWhile_cons_of_neg (by rw [recRead_zero]; decide)]; rfl
  | r :: R, h => by
    have ih := lead_recs j R (fun x hx => h x (List.mem_cons_of_mem _ hx))
    obtain ⟨h1, h2⟩ := recRead_word (h r List.mem_cons_self)
    unfold leadRecs at ih ⊢
    rw [List.map_cons, List.cons_append, List.takeWhile_cons_of_pos h1, List.map_cons, h2, ih]
theorem lead_ents (j : Nat) : ∀ E : List EntryR, (∀ r ∈ E, EntryOk r) → leadEnts (E.map entryWordB ++ List.replicate j zero8) = E
  | [], _ => by
    unfold leadEnts
    cases j with
    | zero => rfl
    | succ j => rw [List.map_nil, List.nil_append, List.replicate_succ, List.takeWhile_cons_of_neg (by rw [entRead_zero]; decide)]; rfl
  | r :: E, h => by
    have ih := lead_ents j E (fun x hx => h x (List.mem_cons_of_mem _ hx))
    obtain ⟨h1, h2⟩ := entRead_word (h r List.mem_cons_self)
    unfold leadEnts at ih ⊢
    rw [List.map_cons, List.cons_append, List.takeWhile_cons_of_pos h1, List.map_cons, h2, ih]
theorem all_of_at {α : Type} [Inhabited α] {L : List α} {p : α → Prop} (h : ∀ j, j < L.length → p (L.getD j default)) : ∀ x ∈ L, p x := fun x hx => by
  obtain ⟨j, hj, rfl⟩ := getD_mem_i L hx
  exact h j hj
theorem got_words {n : InoR} (h : InoOk n) : inoGot (inoWordsB n) = n := by
  have hL : inoWordsB n = [headB n, wordB n.key] ++ (n.R.map recWordB ++ n.E.map entryWordB ++ List.replicate (8 - (wordsI n).length) zero8) := by
    rw [inoWords_yes h]; unfold fillTo wordsI; simp
  have hk : 0 ≤ n.kd ∧ n.kd ≤ 2 := by rcases h with ⟨_, ⟨e, _⟩ | ⟨e, _⟩ | ⟨e, _⟩⟩ <;> omega
  have hz : 0 ≤ n.sz ∧ n.sz ≤ 65535 := by
    rcases h with ⟨_, ⟨_, h⟩ | ⟨_, h⟩ | ⟨_, h⟩⟩
    · have := h.1; omega
    · have := h.1; omega
    · have := h.1; omega
  obtain ⟨k1, k2, k3⟩ := head_list hk hz h.1
  have h8 := headB_size h
  have hkd : numAtV (headB n) 0 1 = n.kd := by rw [entry_head (by omega)]; exact k1
  obtain ⟨j, hj⟩ : ∃ j, 8 - (wordsI n).length = j := ⟨_, rfl⟩
  rw [hj] at hL
  rw [hL]
  unfold inoGot gotKind
  show (⟨numAtV (headB n) 0 1, numAtV (headB n) 1 2, numAtV (headB n) 3 2, if numAtV (headB n) 0 1 = 1 then wordB n.key else ⟨#[]⟩, if numAtV (headB n) 0 1 = 1 then leadRecs (n.R.map recWordB ++ n.E.map entryWordB ++ List.replicate j zero8) else [], if numAtV (headB n) 0 1 = 2 then leadEnts (n.R.map recWordB ++ n.E.map entryWordB ++ List.replicate j zero8) else []⟩ : InoR) = n
  rw [hkd, k2, k3]
  obtain ⟨kd, sz, gn, key, R, E⟩ := n
  rcases h with ⟨_, ⟨e, h⟩ | ⟨e, h⟩ | ⟨e, h⟩⟩
  · obtain rfl : kd = 0 := e
    obtain ⟨_, g2, g3, g4⟩ := h
    obtain rfl : key = ⟨#[]⟩ := text_nothing g2
    obtain rfl : R = [] := List.length_eq_zero_iff.1 g3
    obtain rfl : E = [] := List.length_eq_zero_iff.1 g4
    rfl
  · obtain rfl : kd = 1 := e
    obtain ⟨_, g2, _, g4, g5⟩ := h
    obtain rfl : E = [] := List.length_eq_zero_iff.1 g4
    have hkey : wordB key = key := by
      have g2 : key.size = 8 := g2
      unfold wordB
      rw [if_pos (by omega), g2]
      exact ByteArray.append_empty
    have hR := lead_recs j R (all_of_at (fun i hi => (g5 i hi).1))
    simp [hkey, hR]
  · obtain rfl : kd = 2 := e
    obtain ⟨_, g2, g3, _, g5⟩ := h
    obtain rfl : key = ⟨#[]⟩ := text_nothing g2
    obtain rfl : R = [] := List.length_eq_zero_iff.1 g3
    have hE := lead_ents j E (all_of_at (fun i hi => (g5 i hi).1))
    simp [hE]
theorem got_ok {L : List ByteArray} (h8 : L.length = 8) (h : inoWordsB (inoGot L) = L) : InoOk (inoGot L) := by
  by_cases h9 : InoOk (inoGot L)
  · exact h9
  · rw [inoWords_no h9] at h
    rw [← h] at h8
    exact absurd h8 (by decide)
theorem got_iff {L : List ByteArray} (h8 : L.length = 8) : readInoB L = true ↔ inoWordsB (inoGot L) = L := by
  rw [readInoB_iff h8]
  constructor
  · intro h
    have hk := readOk_ok ⟨h8, h⟩
    have e : inoGot L = inoOf L := by
      have := got_words hk
      rw [h] at this
      exact this
    rw [e, h]
  · intro h
    have hk := got_ok h8 h
    have e : inoOf L = inoGot L := by
      have := inoOf_words hk
      rw [h] at this
      exact this
    rw [e, h]
theorem got_eq {L : List ByteArray} (h8 : L.length = 8) (h : readInoB L = true) : readInoR L = inoGot L := by
  have h1 := (got_iff h8).1 h
  have hk := got_ok h8 h1
  have e : inoOf L = inoGot L := by
    have := inoOf_words hk
    rw [h1] at this
    exact this
  unfold readInoR
  rw [if_pos h, e]
end Go.Proofs.YtmkchilhnmkhkaaDoor
namespace Go.Proofs.YtmkchilhnmkhkaaDoor
open Go.RowKit Go.Proofs.YtmkchilhnmkhkaaDoor.Parts Go.Proofs.YtmkchilhnmkhkaaDoor.Hexa Go.Proofs.YtmkchilhnmkhkaaDoor.Byt

set_option maxRecDepth 100000 in
set_option maxHeartbeats 1000000 in
theorem implRecWord_no (p q : Int) (m : ByteArray) (w : World) (_hm : m.size ≤ 2000000) (h : ¬ RecOk ⟨p, q, m⟩) :
    Calls Tryd.prog 48 #[.agg #[.int .i64 p, .int .i64 q, .string m]] w (SaysT ⟨#[]⟩ w) := by
  by_cases h0 : 1 ≤ p ∧ p ≤ 12
  · have H0 := Lib.hid h0
    by_cases h1 : 1 ≤ q ∧ q ≤ 16777215
    · have H1 := Lib.hid h1
      have h2 : ¬ m.size = 4 := fun e => h ⟨h0, h1, e⟩
      have e8 : ((m.size : Int) == 4) = false := by simp; omega
      have e9 : ((m.size : Int) != 4) = true := by simp; omega
      clear h0 h1 h
      go_enter Tryd.func48, Tryd.ntmps48
      go_wp2_with (first | ((with_reducible refine (implIn_yes _ H0.out).mono ?_); rintro e w1 ⟨rfl, rfl⟩) | ((with_reducible refine (implIn_yes _ H1.out).mono ?_); rintro e w1 ⟨rfl, rfl⟩))
      go_ret
      exact ⟨rfl, below_bk w _⟩
    · have H1 := Lib.hid h1
      clear h0 h1 h
      go_enter Tryd.func48, Tryd.ntmps48
      go_wp2_with (first | ((with_reducible refine (implIn_yes _ H0.out).mono ?_); rintro e w1 ⟨rfl, rfl⟩) | ((with_reducible refine (implIn_no _ H1.out).mono ?_); rintro e w1 ⟨rfl, rfl⟩))
      go_ret
      exact ⟨rfl, below_bk w _⟩
  · have H0 := Lib.hid h0
    clear h0 h
    go_enter Tryd.func48, Tryd.ntmps48
    go_wp2_with ((with_reducible refine (implIn_no _ H0.out).mono ?_); rintro e w1 ⟨rfl, rfl⟩)
    go_ret
    exact ⟨rfl, below_bk w _⟩

set_option maxRecDepth 100000 in
set_option maxHeartbeats 1000000 in
theorem implRecWord_yes (p q : Int) (m : ByteArray) (w : World) (h : RecOk ⟨p, q, m⟩) :
    Calls Tryd.prog 48 #[.agg #[.int .i64 p, .int .i64 q, .string m]] w (SaysT (recWordB ⟨p, q, m⟩) w) := by
  have HE := Lib.hid (recWordB_yes h)
  obtain ⟨h0, h1, h2⟩ := h
  have H0 : Hid (1 ≤ p ∧ p ≤ 12) := Lib.hid h0
  have H1 : Hid (1 ≤ q ∧ q ≤ 16777215) := Lib.hid h1
  have hm4 : m.size = 4 := h2
  have e8 : ((m.size : Int) == 4) = true := by simp; omega
  have e9 : ((m.size : Int) != 4) = false := by simp; omega
  have T0 := Lib.hid (Bk.alloc w #[.int .i64 p, .int .i64 q, .string m] 66)
  have B0 := Lib.hid (below_bk w (.cells #[.int .i64 p, .int .i64 q, .string m] 66))
  have hA : (numTextB p 1).size = 1 := numText_size (k := 1) (by omega) (by have := H0.out.1; omega) (by have := H0.out.2; omega)
  have hB : (numTextB q 3).size = 3 := numText_size (k := 3) (by omega) (by have := H1.out.1; omega) (by have := H1.out.2; omega)
  obtain ⟨A, hAe⟩ : ∃ A, numTextB p 1 = A := ⟨_, rfl⟩
  obtain ⟨D, hDe⟩ : ∃ D, numTextB q 3 = D := ⟨_, rfl⟩
  have HA := Lib.hid hAe
  have HD := Lib.hid hDe
  rw [hAe] at hA
  rw [hDe] at hB
  have hA1 : A.size ≤ 1 := by omega
  have hB1 : D.size ≤ 3 := by omega
  have hAD : ¬ (9223372036854775807 < A.size + D.size) := by omega
  have hADm : ¬ (9223372036854775807 < A.size + D.size + 4) := by omega
  clear h0 h1 h2 hAe hDe hA hB
  go_enter Tryd.func48, Tryd.ntmps48
  go_wp2_with (first | ((with_reducible refine (implIn_yes _ H0.out).mono ?_); rintro e w1 ⟨rfl, rfl⟩) | ((with_reducible refine (implIn_yes _ H1.out).mono ?_); rintro e w1 ⟨rfl, rfl⟩))
  have T0d := Lib.hid T0.out.drew
  have B0d : Hid (Below w.heap.size w (w.alloc (.cells #[.int .i64 p, .int .i64 q, .string m] 66)).drew) := Lib.hid B0.out.drew
  go_region_held3 (fun w' => w'.cell? ⟨w.heap.size, 0, none⟩ = some (.int .i64 p) ∧ w'.cell? ⟨w.heap.size, 1, none⟩ = some (.int .i64 q) ∧ w'.cell? ⟨w.heap.size, 2, none⟩ = some (.string m))
    (first
      | exact ⟨T0d.out.cell rfl, T0d.out.cell rfl, T0d.out.cell rfl⟩
      | exact ⟨T1.out.cell rfl, T1.out.cell rfl, T1.out.cell rfl⟩
      | exact ⟨T2.out.cell rfl, T2.out.cell rfl, T2.out.cell rfl⟩
      | go_keep)
    (first
      | (go_at_call 89; (with_reducible refine (implNum_any p 1 _ (by have := H0.out.2; omega)).mono ?_); rw [HA.out]; rintro e w1 ⟨rfl, hb⟩; have T1 := Lib.hid (T0d.out.later hb); have B1 : Hid (Below w.heap.size w w1) := Lib.hid (B0d.out.trans (hb.mono B0d.out.size)); clear hb)
      | (go_at_call 89; (with_reducible refine (implNum_any q 3 _ (by have := H1.out.2; omega)).mono ?_); rw [HD.out]; rintro e w2 ⟨rfl, hb⟩; have T2 := Lib.hid (T1.out.later hb); have B2 : Hid (Below w.heap.size w w2) := Lib.hid (B1.out.trans (hb.mono B1.out.size)); clear hb))
  go_wp2
  go_ret
  exact ⟨by rw [HE.out, HA.out, HD.out]; rfl, B2.out⟩
theorem implRecWord_any (p q : Int) (m : ByteArray) (w : World) (hm : m.size ≤ 2000000) :
    Calls Tryd.prog 48 #[.agg #[.int .i64 p, .int .i64 q, .string m]] w (SaysT (recWordB ⟨p, q, m⟩) w) := by
  by_cases h : RecOk ⟨p, q, m⟩
  · exact implRecWord_yes p q m w h
  · rw [recWordB_no h]; exact implRecWord_no p q m w hm h
end Go.Proofs.YtmkchilhnmkhkaaDoor
namespace Go.Proofs.YtmkchilhnmkhkaaDoor
open Go.RowKit Go.Proofs.YtmkchilhnmkhkaaDoor.Parts Go.Proofs.YtmkchilhnmkhkaaDoor.Hexa Go.Proofs.YtmkchilhnmkhkaaDoor.Byt

set_option maxRecDepth 100000 in
set_option maxHeartbeats 1000000 in
theorem implReadRec_len (s : ByteArray) (w : World) (_hs : s.size ≤ 2000000) (h : ¬ s.size = 8) :
    Calls Tryd.prog 47 #[.string s] w (SaysRec ⟨0, 0, ⟨#[]⟩⟩ false w) := by
  have R0 := Bk.alloc w #[.int .i64 0, .int .i64 0, .string ⟨#[]⟩] 66
  have B0 := Lib.hid (below_bk w (.cells #[.int .i64 0, .int .i64 0, .string ⟨#[]⟩] 66))
  have e8 : ((s.size : Int) == 8) = false := by simp; omega
  have e9 : ((s.size : Int) != 8) = true := by simp; omega
  clear R0
  go_enter Tryd.func47, Tryd.ntmps47
  go_wp2
  refine bodyPost_ret (v := .tuple #[.agg #[.int .i64 0, .int .i64 0, .string ⟨#[]⟩], .bool false]) ?_ rfl ⟨rfl, ?_⟩
  · simp [results, Tryd.results47, go_sem]
  · exact B0.out

set_option maxRecDepth 100000 in
set_option maxHeartbeats 1000000 in
theorem implReadRec_yes (s : ByteArray) (w : World) (h8 : s.size = 8) (h : RecOk (recOf s)) :
    Calls Tryd.prog 47 #[.string s] w (SaysRec (recOf s) true w) := by
  have R0 := Lib.hid (Bk.alloc w #[.int .i64 0, .int .i64 0, .string ⟨#[]⟩] 66)
  have B0 := Lib.hid (below_bk w (.cells #[.int .i64 0, .int .i64 0, .string ⟨#[]⟩] 66))
  have e8 : ((s.size : Int) == 8) = true := by simp; omega
  have e9 : ((s.size : Int) != 8) = false := by simp; omega
  have hs8 : s.size ≤ 8 := by omega
  have hs9 : 8 ≤ s.size := by omega
  have HB := Lib.hid (rec_back h8 h)
  have hex : s.extract 4 s.size = (recOf s).f2 := by rw [h8]; rfl
  obtain ⟨P, hP⟩ : ∃ P, numAtV s 0 1 = P := ⟨_, rfl⟩
  obtain ⟨Q, hQ⟩ : ∃ Q, numAtV s 1 3 = Q := ⟨_, rfl⟩
  obtain ⟨M, hM⟩ : ∃ M, s.extract 4 s.size = M := ⟨_, rfl⟩
  have hR : recOf s = ⟨P, Q, M⟩ := by rw [← hP, ← hQ, ← hM, hex]; rfl
  have hMs : M.size ≤ 8 := by rw [← hM, ByteArray.size_extract]; omega
  rw [hR] at HB ⊢
  have HP := Lib.hid hP
  have HQ := Lib.hid hQ
  have HM8 := Lib.hid hMs
  clear h8 h hex hP hQ hR hMs
  go_enter Tryd.func47, Tryd.ntmps47
  go_wp2_with fail
  refine (implNumAt_any s 0 1 _ (by omega)).mono ?_
  rw [HP.out]
  rintro e w1 ⟨rfl, hb⟩
  have R1 := Lib.hid (R0.out.later hb)
  have B1 : Hid (Below w.heap.size w w1) := Lib.hid (B0.out.trans (hb.mono B0.out.size))
  clear hb R0 B0
  go_wp2_with fail
  refine (implNumAt_any s 1 3 _ (by omega)).mono ?_
  rw [HQ.out]
  rintro e w2 ⟨rfl, hb⟩
  have R2 := Lib.hid (R1.out.later hb)
  have B2' : Hid (Below w.heap.size w w2) := Lib.hid (B1.out.trans (hb.mono B1.out.size))
  clear hb R1 B1
  go_wp2_with fail
  refine (cloneText_any M _ (by have := HM8.out; omega)).mono ?_
  rintro e w2x ⟨rfl, hb⟩
  have hba := below_bk w2x (.cells #[.int .i64 P, .int .i64 Q, .string M] 66)
  have R3 := Lib.hid ((R2.out.later hb).later hba)
  have B2 : Below w.heap.size w w2x := B2'.out.trans (hb.mono B2'.out.size)
  have B3 : Hid (Below w.heap.size w (w2x.alloc (.cells #[.int .i64 P, .int .i64 Q, .string M] 66))) := Lib.hid (B2.trans (hba.mono B2.size))
  have X3 := Lib.hid (Bk.alloc w2x #[.int .i64 P, .int .i64 Q, .string M] 66)
  clear hb hba B2 R2 B2'
  go_wp2_with fail
  refine (implRecWord_any P Q M _ (by have := HM8.out; omega)).mono ?_
  rw [HB.out]
  rintro e w4 ⟨rfl, hb⟩
  have R4 := Lib.hid (R3.out.later hb)
  have X4 := Lib.hid (X3.out.later hb)
  have B4 : Hid (Below w.heap.size w w4) := Lib.hid (B3.out.trans (hb.mono B3.out.size))
  clear hb R3 X3 B3
  have x0 := X4.out.cell (j := 0) rfl
  have x1 := X4.out.cell (j := 1) rfl
  have x2 := X4.out.cell (j := 2) rfl
  have r0 := R4.out.cell (j := 0) rfl
  have r1 := R4.out.cell (j := 1) rfl
  have r2 := R4.out.cell (j := 2) rfl
  have f0 := R4.out.fr (o := 0)
  have f1 := R4.out.fr (o := 1)
  have f2 := R4.out.fr (o := 2)
  have qf := ((R4.out.set 0 (.int .i64 P)).set 1 (.int .i64 Q)).set 2 (.string M)
  have q0 := qf.cell (j := 0) (v := .int .i64 P) rfl
  have q1 := qf.cell (j := 1) (v := .int .i64 Q) rfl
  have q2 := qf.cell (j := 2) (v := .string M) rfl
  clear qf
  go_wp2
  refine bodyPost_ret (v := .tuple #[.agg #[.int .i64 P, .int .i64 Q, .string M], .bool true]) ?_ rfl ⟨rfl, ?_⟩
  · simp [results, Tryd.results47, go_sem, q0, q1, q2]
  · exact ((B4.out.setCell (Nat.le_refl _) _).setCell (Nat.le_refl _) _).setCell (Nat.le_refl _) _
set_option maxRecDepth 100000 in
set_option maxHeartbeats 1000000 in
theorem implReadRec_no (s : ByteArray) (w : World) (h8 : s.size = 8) (h : ¬ RecOk (recOf s)) :
    Calls Tryd.prog 47 #[.string s] w (SaysRec (⟨0, 0, ⟨#[]⟩⟩) false w) := by
  have R0 := Lib.hid (Bk.alloc w #[.int .i64 0, .int .i64 0, .string ⟨#[]⟩] 66)
  have B0 := Lib.hid (below_bk w (.cells #[.int .i64 0, .int .i64 0, .string ⟨#[]⟩] 66))
  have e8 : ((s.size : Int) == 8) = true := by simp; omega
  have e9 : ((s.size : Int) != 8) = false := by simp; omega
  have hs8 : s.size ≤ 8 := by omega
  have hs9 : 8 ≤ s.size := by omega
  have HB := Lib.hid (recWordB_no h)
  have n1 := text_full s (by omega)
  have n2 := text_full' s (by omega)
  have hex : s.extract 4 s.size = (recOf s).f2 := by rw [h8]; rfl
  obtain ⟨P, hP⟩ : ∃ P, numAtV s 0 1 = P := ⟨_, rfl⟩
  obtain ⟨Q, hQ⟩ : ∃ Q, numAtV s 1 3 = Q := ⟨_, rfl⟩
  obtain ⟨M, hM⟩ : ∃ M, s.extract 4 s.size = M := ⟨_, rfl⟩
  have hR : recOf s = ⟨P, Q, M⟩ := by rw [← hP, ← hQ, ← hM, hex]; rfl
  have hMs : M.size ≤ 8 := by rw [← hM, ByteArray.size_extract]; omega
  rw [hR] at HB
  have HP := Lib.hid hP
  have HQ := Lib.hid hQ
  have HM8 := Lib.hid hMs
  clear h8 h hex hP hQ hR hMs
  go_enter Tryd.func47, Tryd.ntmps47
  go_wp2_with fail
  refine (implNumAt_any s 0 1 _ (by omega)).mono ?_
  rw [HP.out]
  rintro e w1 ⟨rfl, hb⟩
  have R1 := Lib.hid (R0.out.later hb)
  have B1 : Hid (Below w.heap.size w w1) := Lib.hid (B0.out.trans (hb.mono B0.out.size))
  clear hb R0 B0
  go_wp2_with fail
  refine (implNumAt_any s 1 3 _ (by omega)).mono ?_
  rw [HQ.out]
  rintro e w2 ⟨rfl, hb⟩
  have R2 := Lib.hid (R1.out.later hb)
  have B2' : Hid (Below w.heap.size w w2) := Lib.hid (B1.out.trans (hb.mono B1.out.size))
  clear hb R1 B1
  go_wp2_with fail
  refine (cloneText_any M _ (by have := HM8.out; omega)).mono ?_
  rintro e w2x ⟨rfl, hb⟩
  have hba := below_bk w2x (.cells #[.int .i64 P, .int .i64 Q, .string M] 66)
  have R3 := Lib.hid ((R2.out.later hb).later hba)
  have B2 : Below w.heap.size w w2x := B2'.out.trans (hb.mono B2'.out.size)
  have B3 : Hid (Below w.heap.size w (w2x.alloc (.cells #[.int .i64 P, .int .i64 Q, .string M] 66))) := Lib.hid (B2.trans (hba.mono B2.size))
  have X3 := Lib.hid (Bk.alloc w2x #[.int .i64 P, .int .i64 Q, .string M] 66)
  clear hb hba B2 R2 B2'
  go_wp2_with fail
  refine (implRecWord_any P Q M _ (by have := HM8.out; omega)).mono ?_
  rw [HB.out]
  rintro e w4 ⟨rfl, hb⟩
  have R4 := Lib.hid (R3.out.later hb)
  have X4 := Lib.hid (X3.out.later hb)
  have B4 : Hid (Below w.heap.size w w4) := Lib.hid (B3.out.trans (hb.mono B3.out.size))
  clear hb R3 X3 B3
  have x0 := X4.out.cell (j := 0) rfl
  have x1 := X4.out.cell (j := 1) rfl
  have x2 := X4.out.cell (j := 2) rfl
  have r0 := R4.out.cell (j := 0) rfl
  have r1 := R4.out.cell (j := 1) rfl
  have r2 := R4.out.cell (j := 2) rfl
  have f0 := R4.out.fr (o := 0)
  have f1 := R4.out.fr (o := 1)
  have f2 := R4.out.fr (o := 2)
  have qf := ((R4.out.set 0 (.int .i64 0)).set 1 (.int .i64 0)).set 2 (.string ⟨#[]⟩)
  have q0 := qf.cell (j := 0) (v := .int .i64 0) rfl
  have q1 := qf.cell (j := 1) (v := .int .i64 0) rfl
  have q2 := qf.cell (j := 2) (v := .string ⟨#[]⟩) rfl
  clear qf
  go_wp2
  refine bodyPost_ret (v := .tuple #[.agg #[.int .i64 0, .int .i64 0, .string ⟨#[]⟩], .bool false]) ?_ rfl ⟨rfl, ?_⟩
  · simp [results, Tryd.results47, go_sem, q0, q1, q2]
  · exact ((B4.out.setCell (Nat.le_refl _) _).setCell (Nat.le_refl _) _).setCell (Nat.le_refl _) _
theorem implReadRec_any (s : ByteArray) (w : World) (hs : s.size ≤ 2000000) :
    Calls Tryd.prog 47 #[.string s] w (SaysRec (recReadR s) (recReadB s) w) := by
  by_cases h : s.size = 8 ∧ RecOk (recOf s)
  · rw [show recReadR s = recOf s from if_pos h, show recReadB s = true from decide_eq_true h]
    exact implReadRec_yes s w h.1 h.2
  · rw [show recReadR s = ⟨0, 0, ⟨#[]⟩⟩ from if_neg h, show recReadB s = false from decide_eq_false h]
    by_cases h8 : s.size = 8
    · exact implReadRec_no s w h8 (fun e => h ⟨h8, e⟩)
    · exact implReadRec_len s w hs h8
end Go.Proofs.YtmkchilhnmkhkaaDoor
