/- Merged texts: InoReadC, InoReadD, InoRead, RangeImpl, Made, NumImpl. -/
import Derived.Test.YtmkchilhnmkhkabDoorPAG
import Derived.Test.YtmkchilhnmkhkabDoorRows
import Derived.WalkKit
import Derived.WalkSpells
import Derived.RowKit3
import Derived.Lib.Hide
import Derived.Laws.MakeOwn
import Derived.Lib.AppendStr
import Derived.WalkLawsBesides
import Derived.Deep.RegionLaw
namespace Go.Proofs.YtmkchilhnmkhkabDoor
open Go.RowKit Go.Proofs.YtmkchilhnmkhkabDoor.Parts Go.Proofs.YtmkchilhnmkhkabDoor.Hexa Go.Proofs.YtmkchilhnmkhkabDoor.Byt

theorem RSt.grown {w wr w' : World} {cs : Array Value} {r : Option Nat} (h : RSt w cs wr) (hg : wr.grownBy w' r) (hr : ∀ g, r = some g → w.heap.size + 2 ≤ g) : RSt w cs w' :=
  ⟨h.res.grown hg (fun e => by have := hr _ e; omega), h.box.grown hg (fun e => by have := hr _ e; omega), h.below.grown hg (by have := h.below.size; omega) (fun g e => by have := hr g e; omega)⟩

theorem gives_rec (sz gn : Int) (x1 : ByteArray) (aR : Option Addr) (nR cR : Nat) (L : List ByteArray) (w : World) {w' : World} {R : List RecR} (hL : ReadOk L) (hI : inoOf L = ⟨1, sz, gn, x1, R, []⟩) (hl : R.length = nR)
    (ho : w'.ownsRow (w.heap.size + 2) 49 3 (.slice aR nR cR) nR (cellsE encRec R)) (hb : Below w.heap.size w w') :
    GivesIno (readInoR L) (readInoB L) w (.returned (.tuple #[.agg #[.int .i64 1, .int .i64 sz, .int .i64 gn, .string x1, .slice aR nR cR, .slice none 0 0], .bool true])) w' := by
  subst hl
  rw [readInoR_yes hL, readInoB_yes hL, hI]
  exact ⟨aR, cR, none, 0, rfl, ownE_mono ho (by omega), ⟨rfl, .inl ⟨rfl, rfl⟩⟩, .inr rfl, hb⟩

section
variable (a : Option Addr) (c : Nat) (L : List ByteArray) (w : World)
set_option maxRecDepth 100000 in
set_option maxHeartbeats 4000000 in
theorem specReadIno_file (hs : SrcT w a 8 L) (h8 : ∀ j, j < 8 → (L.getD j default).size = 8) (hk1 : kindOf L = 1) : Calls Tryd.prog 7 #[.slice a 8 c] w (GivesIno (readInoR L) (readInoB L) w) := by
  have HLn : Hid (L.length = 8) := Lib.hid hs.len
  have HS := Lib.hid hs
  have H8 := Lib.hid h8
  have B0 := Lib.hid (below_bk w (inoObj 0 0 0 ⟨#[]⟩ none 0 0 none 0 0))
  obtain ⟨g, off, ha, hg, _⟩ := srcT_at hs 0 (by omega)
  have HC : Hid (∀ {w' : World}, Below w.heap.size w w' → ∀ j, j < 8 → w'.cell? ⟨g, off + j, none⟩ = some (.string (L.getD j default))) := Lib.hid (fun hb j hj => by
    obtain ⟨g', off', ha', _, d⟩ := srcT_later HS.out hb (Nat.le_refl _) j hj
    rw [ha] at ha'; cases ha'
    exact d)
  obtain ⟨x0, hx0⟩ : ∃ x, L.getD 0 default = x := ⟨_, rfl⟩
  have hx8 : x0.size = 8 := by rw [← hx0]; exact h8 0 (by omega)
  have h0s : 0 < x0.size := by omega
  have hkk : kindOf L = 1 := hk1
  have hkd : ((x0[0]'h0s).toNat : Int) = 1 := by unfold kindOf at hk1; rw [hx0, byte_getD x0 0 h0s] at hk1; exact hk1
  obtain ⟨x1, hx1⟩ : ∃ x, L.getD 1 default = x := ⟨_, rfl⟩
  have HX1 := Lib.hid hx1
  have hx18 : x1.size = 8 := by rw [← hx1]; exact h8 1 (by omega)
  have HX0 := Lib.hid hx0
  have HKK := Lib.hid hkk
  obtain ⟨sz, hsz⟩ : ∃ z : Int, numAtV x0 1 2 = z := ⟨_, rfl⟩
  obtain ⟨gn, hgn⟩ : ∃ z : Int, numAtV x0 3 2 = z := ⟨_, rfl⟩
  obtain ⟨sb, hsb⟩ : ∃ z : Bool, numAtB x0 1 2 = z := ⟨_, rfl⟩
  obtain ⟨gb, hgb⟩ : ∃ z : Bool, numAtB x0 3 2 = z := ⟨_, rfl⟩
  obtain ⟨T, hT⟩ : ∃ T, zeroB 8 = T := ⟨_, rfl⟩
  have hszb : -9223372036854775808 ≤ sz ∧ sz ≤ 9223372036854775807 := by
    have h9 : 0 ≤ numAtV x0 1 2 ∧ numAtV x0 1 2 < 256 ^ 2 := numAtV_lt x0 1 2 (by omega) (by omega)
    rw [← hsz]
    have h10 : ((256 : Int) ^ 2) = 65536 := by decide
    rw [h10] at h9
    exact ⟨by have := h9.1; omega, by have := h9.2; omega⟩
  have HSZ := Lib.hid hsz
  have HGN := Lib.hid hgn
  have HSB := Lib.hid hsb
  have HGB := Lib.hid hgb
  have HT := Lib.hid hT
  have HZB := Lib.hid hszb
  have hgne : ¬ g = w.heap.size + 1 := by omega
  have hgne2 : ¬ w.heap.size + 1 = g := by omega
  subst ha
  clear hs h8 hx0 hkk hk1 hx1 hsz hgn hsb hgb hT hszb
  obtain ⟨i0, hi, hz0, hz1, hz2⟩ := info_parts infoRec
  go_enter Tryd.func7, Tryd.ntmps7
  go_wp2
  go_loop [4] (fun iv => ∃ k : Nat, k ≤ 8 ∧ iv = .int .i64 k) (fun iv => 8 - (intOf iv).toNat)
  case atStart => exact ⟨0, Nat.zero_le _, rfl⟩
  case round =>
    obtain ⟨k, hk, rfl⟩ := hrel
    by_cases hlt : k < 8
    · have d0 := HC.out B0.out k hlt
      obtain ⟨x, hx⟩ : ∃ x, L.getD k default = x := ⟨_, rfl⟩
      have hxs : x.size = 8 := by rw [← hx]; exact H8.out k hlt
      rw [hx] at d0
      have e9 : ((x.size : Int) != 8) = false := by simp; omega
      clear hx
      go_wp2
      go_round
      case rel => exact ⟨k + 1, by omega, by go_num⟩
      case measure => (simp [intOf]; try omega)
    · obtain rfl : k = 8 := by omega
      have d0 := HC.out B0.out 0 (by omega)
      rw [HX0.out, Nat.add_zero] at d0
      go_wp2_with fail
      refine (specNumAt_any x0 1 2 _ (by omega) (by omega) (by omega)).mono ?_
      rw [HSZ.out, HSB.out]
      rintro e w1 ⟨rfl, hb1⟩
      have S1 := Lib.hid ((RSt.start w (inoCs 1 0 0 ⟨#[]⟩ none 0 0 none 0 0)).call hb1)
      have x1 := S1.out.box.cell (j := 1) rfl
      have z1 := S1.out.box.fr (o := 1)
      have S2 := Lib.hid (S1.out.set 1 (.int .i64 sz))
      have d1 := HC.out S1.out.below 0 (by omega)
      rw [HX0.out, Nat.add_zero] at d1
      clear hb1 d0
      go_wp2_with fail
      refine (specNumAt_any x0 3 2 _ (by omega) (by omega) (by omega)).mono ?_
      rw [HGN.out, HGB.out]
      rintro e w2 ⟨rfl, hb2⟩
      have S3 := Lib.hid (S2.out.call hb2)
      have x2 := S3.out.box.cell (j := 2) rfl
      have z2 := S3.out.box.fr (o := 2)
      have S4 := Lib.hid (S3.out.set 2 (.int .i64 gn))
      clear hb2 d1 x1 z1
      go_wp2_with fail
      refine (specZero_any 8 _).mono ?_
      rw [HT.out]
      rintro e w3 ⟨rfl, hb3⟩
      have S5 := Lib.hid (S4.out.call hb3)
      clear hb3 x2 z2
      have y0 := S5.out.box.cell (j := 0) rfl
      have y3 := S5.out.box.cell (j := 3) rfl
      have z3 := S5.out.box.fr (o := 3)
      have d2 := HC.out S5.out.below 1 (by omega)
      rw [HX1.out] at d2
      have S8 := Lib.hid (S5.out.set 3 (.string x1))
      go_wp2
      go_loopw [7] (fun iv wr => ∃ (k : Nat) (aR : Option Addr) (cR : Nat), 2 ≤ k ∧ k ≤ 8 ∧ iv = .int .i64 k ∧ Hid (Filled L k) ∧ Hid (RSt w (inoCs 1 sz gn x1 aR (k - 2) cR none 0 0) wr) ∧ Hid (wr.ownsRow (w.heap.size + 2) 49 3 (.slice aR (k - 2) cR) (k - 2) (cellsE encRec ((midTo L k).map recOf)))) (fun iv _ => 8 - (intOf iv).toNat)
      case atStart => exact ⟨2, none, 0, by omega, by omega, rfl, Lib.hid (fun j h1 h2 => by omega), Lib.hid S8.out, Lib.hid (by rw [midTo_two]; exact ⟨rfl, .inl ⟨rfl, rfl⟩⟩)⟩
      case round =>
        clear y0 y3 z3 d2 S8 S5
        obtain ⟨k, aR, cR, hk2, hk, rfl, HF, SW, HW⟩ := hrel
        have HLm : Hid (((midTo L k).map recOf).length = k - 2) := Lib.hid (by rw [List.length_map, midTo_length (by rw [HLn.out]; exact hk)])
        have HFit : Hid (FitRec ((midTo L k).map recOf) (k - 2) 2000000) := Lib.hid (fun j hj => by
          rw [map_getD _ _ _ (by rw [midTo_length (by rw [HLn.out]; exact hk)]; exact hj)]
          show (ByteArray.extract _ 4 8).size ≤ 2000000
          rw [ByteArray.size_extract]
          omega)
        have y0 := SW.out.box.cell (j := 0) rfl
        have y1 := SW.out.box.cell (j := 1) rfl
        have y2 := SW.out.box.cell (j := 2) rfl
        have y3 := SW.out.box.cell (j := 3) rfl
        have y4 := SW.out.box.cell (j := 4) rfl
        have y5 := SW.out.box.cell (j := 5) rfl
        by_cases hlt : k < 8
        · have d3 := HC.out SW.out.below k hlt
          obtain ⟨x, hx⟩ : ∃ x, L.getD k default = x := ⟨_, rfl⟩
          have hxs : x.size = 8 := by rw [← hx]; exact H8.out k hlt
          rw [hx] at d3
          have HX := Lib.hid hx
          clear hx
          by_cases hxz : x = T
          · subst hxz
            have HST : Hid (stopOf L = k) := Lib.hid (stop_at hk2 (by omega) HF.out (.inr (by rw [HX.out, ← HT.out]; rfl)))
            have HI : Hid (inoOf L = ⟨1, sz, gn, x1, (midTo L k).map recOf, []⟩) := Lib.hid (by unfold inoOf inoTo; rw [HKK.out, HX0.out, HSZ.out, HGN.out, HST.out, HX1.out, if_pos rfl, if_pos rfl, if_neg (by decide)])
            go_wp2_with fail
            refine (specInoWords_any 1 sz gn x1 aR (k - 2) cR none 0 0 _ ((midTo L k).map recOf) [] HZB.out (srcRec_of_own HW.out) HFit.out (SrcE.nil _ _ _) (fun j hj => absurd hj (Nat.not_lt_zero _))).mono ?_
            rintro e w6 ⟨v6, rfl, hown6, hb6⟩
            obtain ⟨a6, c6, rfl, _, _, _⟩ := own_form hown6
            have R6 := Lib.hid (srcT_of_own hown6)
            have S6 := Lib.hid (SW.out.call hb6)
            have HW6 := Lib.hid (own_below HW.out hb6)
            have L6 : Hid ((inoWordsB ⟨1, sz, gn, x1, (midTo L k).map recOf, []⟩).length ≤ 8) := Lib.hid (inoWords_le _)
            clear hown6 hb6 y0 y1 y2 y3 y4 y5 HW
            go_wp2_with fail
            refine (wordsEq_any _ _ _ 8 _ _ _ L _ (by have := L6.out; omega) R6.out (HS.out.below S6.out.below (Nat.le_refl _)) (readInoB L) (by rw [readInoB_iff HLn.out, HI.out])).mono ?_
            rintro e w7 ⟨rfl, q7, rfl⟩
            have S7 := Lib.hid (S6.out.drewN q7)
            have HW7 : Hid ((w6.drewN q7).ownsRow (w.heap.size + 2) 49 3 (.slice aR (k - 2) cR) (k - 2) (cellsE encRec ((midTo L k).map recOf))) := Lib.hid HW6.out
            have y0 := S7.out.box.cell (j := 0) rfl
            have y1 := S7.out.box.cell (j := 1) rfl
            have y2 := S7.out.box.cell (j := 2) rfl
            have y3 := S7.out.box.cell (j := 3) rfl
            have y4 := S7.out.box.cell (j := 4) rfl
            have y5 := S7.out.box.cell (j := 5) rfl
            have r0 := S7.out.res.cell (j := 0) rfl
            have r1 := S7.out.res.cell (j := 1) rfl
            have r2 := S7.out.res.cell (j := 2) rfl
            have r3 := S7.out.res.cell (j := 3) rfl
            have r4 := S7.out.res.cell (j := 4) rfl
            have r5 := S7.out.res.cell (j := 5) rfl
            have f0 := S7.out.res.fr (o := 0)
            have f1 := S7.out.res.fr (o := 1)
            have f2 := S7.out.res.fr (o := 2)
            have f3 := S7.out.res.fr (o := 3)
            have f4 := S7.out.res.fr (o := 4)
            have f5 := S7.out.res.fr (o := 5)
            by_cases hok : ReadOk L
            · have HOK := Lib.hid hok
              have hrb := readInoB_yes hok
              rw [hrb]
              clear hok hrb
              have qf := ((((((S7.out.res.set 0 (.int .i64 1)).set 1 (.int .i64 sz)).set 2 (.int .i64 gn)).set 3 (.string x1)).set 4 (.slice aR (k - 2) cR)).set 5 (.slice none 0 0))
              have q0 := qf.cell (j := 0) (v := .int .i64 1) rfl
              have q1 := qf.cell (j := 1) (v := .int .i64 sz) rfl
              have q2 := qf.cell (j := 2) (v := .int .i64 gn) rfl
              have q3 := qf.cell (j := 3) (v := .string x1) rfl
              have q4 := qf.cell (j := 4) (v := .slice aR (k - 2) cR) rfl
              have q5 := qf.cell (j := 5) (v := .slice none 0 0) rfl
              clear qf
              go_wp2
              refine bodyPost_ret (v := .tuple #[.agg #[.int .i64 1, .int .i64 sz, .int .i64 gn, .string x1, .slice aR (k - 2) cR, .slice none 0 0], .bool true]) ?_ rfl (gives_rec sz gn x1 aR (k - 2) cR L w HOK.out HI.out HLm.out (ownE_but HW7.out (((((((ButE.refl w.heap.size _).then_set _ _).then_set _ _).then_set _ _).then_set _ _).then_set _ _).then_set _ _) (fun g hg => by have := own_block_ge HW7.out g hg; omega)) ((((((S7.out.below.setCell (Nat.le_refl _) _).setCell (Nat.le_refl _) _).setCell (Nat.le_refl _) _).setCell (Nat.le_refl _) _).setCell (Nat.le_refl _) _).setCell (Nat.le_refl _) _))
              simp [results, Tryd.results7, go_sem, q0, q1, q2, q3, q4, q5]
            · have HOK := Lib.hid hok
              have hrb := readInoB_no hok
              rw [hrb]
              clear hok hrb
              have qf := ((((((S7.out.res.set 0 (.int .i64 0)).set 1 (.int .i64 0)).set 2 (.int .i64 0)).set 3 (.string ⟨#[]⟩)).set 4 (.slice none 0 0)).set 5 (.slice none 0 0))
              have q0 := qf.cell (j := 0) (v := .int .i64 0) rfl
              have q1 := qf.cell (j := 1) (v := .int .i64 0) rfl
              have q2 := qf.cell (j := 2) (v := .int .i64 0) rfl
              have q3 := qf.cell (j := 3) (v := .string ⟨#[]⟩) rfl
              have q4 := qf.cell (j := 4) (v := .slice none 0 0) rfl
              have q5 := qf.cell (j := 5) (v := .slice none 0 0) rfl
              clear qf
              go_wp2
              refine bodyPost_ret (v := .tuple #[.agg #[.int .i64 0, .int .i64 0, .int .i64 0, .string ⟨#[]⟩, .slice none 0 0, .slice none 0 0], .bool false]) ?_ rfl (gives_zero L w ((((((S7.out.below.setCell (Nat.le_refl _) _).setCell (Nat.le_refl _) _).setCell (Nat.le_refl _) _).setCell (Nat.le_refl _) _).setCell (Nat.le_refl _) _).setCell (Nat.le_refl _) _) HOK.out rfl)
              simp [results, Tryd.results7, go_sem, q0, q1, q2, q3, q4, q5]
          · have i1 := text_neB hxz
            have i2 : (x.toList != T.toList) = true := by simp only [bne, i1]; rfl
            have i3 := text_ne hxz
            have HF2 : Hid (Filled L (k + 1)) := Lib.hid (filled_step HF.out (by rw [HX.out]; intro e; exact hxz (by rw [e, ← HT.out]; rfl)))
            clear hxz
            go_wp2_with fail
            refine (specReadRec_any x _ (by omega)).mono ?_
            by_cases hR : RecOk (recOf x)
            · rw [show recReadR x = recOf x from if_pos ⟨hxs, hR⟩, show recReadB x = true from decide_eq_true ⟨hxs, hR⟩]
              obtain ⟨⟨p, q, m⟩, hr⟩ : ∃ r, recOf x = r := ⟨_, rfl⟩
              have HR := Lib.hid hr
              rw [hr]
              clear hr hR
              rintro e w1 ⟨rfl, hb1⟩
              have HW1 := Lib.hid (own_below HW.out hb1)
              have S1 := Lib.hid (SW.out.call hb1)
              have Z1 : Hid (w.heap.size + 2 ≤ w1.heap.size) := Lib.hid S1.out.size
              clear hb1 y0 y1 y2 y3 y4 y5 d3
              have y0 := S1.out.box.cell (j := 0) rfl
              have S1a := Lib.hid (S1.out.call (below_bk w1 (.cells #[.int .i64 p, .int .i64 q, .string m] 49)))
              have y4 := S1a.out.box.cell (j := 4) rfl
              have K1 : Hid (k + 1 - 2 = k - 2 + 1) := Lib.hid (by omega)
              have hwn : Hid (cellsE encRec ((midTo L k).map recOf) ++ [.int .i64 p, .int .i64 q, .string m] = cellsE encRec ((midTo L (k + 1)).map recOf)) := Lib.hid (by
                rw [midTo_next hk2 (by rw [HLn.out]; exact hlt), List.map_append, cellsE_append, HX.out]
                show _ = _ ++ cellsE encRec [recOf x]
                rw [HR.out, cellsE_one]; rfl)
              go_wp2_with (first
                | (at_builtin; refine wpList_append_own _ rfl (.tmp 84) (.tmp 86) 26 rfl (w.heap.size + 2) 49 i0 (.agg #[.int .i64 0, .int .i64 0, .string ByteArray.empty]) 3 32 Tryd.underlying26 hi hz0 hz1 hz2 rfl (by decide) _ _ _ rfl ((HW1.out.alloc _).alloc _) ⟨w1.heap.size + 1, 0, none⟩ 1 1 [.int .i64 p, .int .i64 q, .string m] rfl rfl (World.news_of_block (by simpa using heap_alloc_new (w1.alloc (.cells #[.int .i64 p, .int .i64 q, .string m] 49)) (.cells #[.int .i64 p, .int .i64 q, .string m] 49))) (by simp [Value.oneCell']) (by unfold maxLen; omega) (by omega) (by have := Z1.out; simp; omega) ?_; intro v2 w2 hown2 hgrow2 hn2
                   rw [hwn.out] at hown2
                   obtain ⟨aR2, cR2, rfl, _, _, hg2⟩ := ownE_form hown2
                   have S2 := Lib.hid ((S1a.out.call (below_bk _ (.cells #[.int .i64 p, .int .i64 q, .string m] 49))).grown hgrow2 (fun g hg => own_block_ge HW1.out g hg))
                   have x4 := S2.out.box.cell (j := 4) rfl
                   have z4 := S2.out.box.fr (o := 4)
                   have x0' := S2.out.box.cell (j := 0) rfl
                   have S3 := Lib.hid (S2.out.set 4 (.slice aR2 (k - 2 + 1) cR2))
                   have HW3 := Lib.hid (ownE_but hown2 ((ButE.refl (w.heap.size + 1) w2).then_set 4 (.slice aR2 (k - 2 + 1) cR2)) (fun g hg => by have := own_block_ge hown2 g hg; omega))
                   clear hown2 hgrow2 hn2 hg2 y0 y4))
              go_roundw
              case rel => exact ⟨k + 1, aR2, cR2, by omega, by omega, by go_num, HF2, Lib.hid (by rw [K1.out]; exact S3.out), Lib.hid (by rw [K1.out]; exact HW3.out)⟩
              case measure => (simp [intOf]; try omega)
            · have HL : Hid (¬ ReadOk L) := Lib.hid (read_badRec hk2 hlt HLn.out HKK.out HF2.out (by rw [HX.out]; exact hR))
              rw [show recReadR x = ⟨0, 0, ⟨#[]⟩⟩ from if_neg (fun e => hR e.2), show recReadB x = false from decide_eq_false (fun e => hR e.2)]
              clear hR
              rintro e w1 ⟨rfl, hb1⟩
              have S7 := Lib.hid ((SW.out.call hb1).call (below_bk w1 (.cells #[.int .i64 0, .int .i64 0, .string ⟨#[]⟩] 49)))
              clear hb1 y0 y1 y2 y3 y4 y5 d3 HW
              have r0 := S7.out.res.cell (j := 0) rfl
              have r1 := S7.out.res.cell (j := 1) rfl
              have r2 := S7.out.res.cell (j := 2) rfl
              have r3 := S7.out.res.cell (j := 3) rfl
              have r4 := S7.out.res.cell (j := 4) rfl
              have r5 := S7.out.res.cell (j := 5) rfl
              have f0 := S7.out.res.fr (o := 0)
              have f1 := S7.out.res.fr (o := 1)
              have f2 := S7.out.res.fr (o := 2)
              have f3 := S7.out.res.fr (o := 3)
              have f4 := S7.out.res.fr (o := 4)
              have f5 := S7.out.res.fr (o := 5)
              have qf := ((((((S7.out.res.set 0 (.int .i64 0)).set 1 (.int .i64 0)).set 2 (.int .i64 0)).set 3 (.string ⟨#[]⟩)).set 4 (.slice none 0 0)).set 5 (.slice none 0 0))
              have q0 := qf.cell (j := 0) (v := .int .i64 0) rfl
              have q1 := qf.cell (j := 1) (v := .int .i64 0) rfl
              have q2 := qf.cell (j := 2) (v := .int .i64 0) rfl
              have q3 := qf.cell (j := 3) (v := .string ⟨#[]⟩) rfl
              have q4 := qf.cell (j := 4) (v := .slice none 0 0) rfl
              have q5 := qf.cell (j := 5) (v := .slice none 0 0) rfl
              clear qf
              go_wp2
              refine bodyPost_ret (v := .tuple #[.agg #[.int .i64 0, .int .i64 0, .int .i64 0, .string ⟨#[]⟩, .slice none 0 0, .slice none 0 0], .bool false]) ?_ rfl (gives_zero L w ((((((S7.out.below.setCell (Nat.le_refl _) _).setCell (Nat.le_refl _) _).setCell (Nat.le_refl _) _).setCell (Nat.le_refl _) _).setCell (Nat.le_refl _) _).setCell (Nat.le_refl _) _) HL.out rfl)
              simp [results, Tryd.results7, go_sem, q0, q1, q2, q3, q4, q5]
        · obtain rfl : k = 8 := by omega
          have HST : Hid (stopOf L = 8) := Lib.hid (stop_at hk2 (by omega) HF.out (.inl rfl))
          have HI : Hid (inoOf L = ⟨1, sz, gn, x1, (midTo L 8).map recOf, []⟩) := Lib.hid (by unfold inoOf inoTo; rw [HKK.out, HX0.out, HSZ.out, HGN.out, HST.out, HX1.out, if_pos rfl, if_pos rfl, if_neg (by decide)])
          go_wp2_with fail
          refine (specInoWords_any 1 sz gn x1 aR (8 - 2) cR none 0 0 _ ((midTo L 8).map recOf) [] HZB.out (srcRec_of_own HW.out) HFit.out (SrcE.nil _ _ _) (fun j hj => absurd hj (Nat.not_lt_zero _))).mono ?_
          rintro e w6 ⟨v6, rfl, hown6, hb6⟩
          obtain ⟨a6, c6, rfl, _, _, _⟩ := own_form hown6
          have R6 := Lib.hid (srcT_of_own hown6)
          have S6 := Lib.hid (SW.out.call hb6)
          have HW6 := Lib.hid (own_below HW.out hb6)
          have L6 : Hid ((inoWordsB ⟨1, sz, gn, x1, (midTo L 8).map recOf, []⟩).length ≤ 8) := Lib.hid (inoWords_le _)
          clear hown6 hb6 y0 y1 y2 y3 y4 y5 HW
          go_wp2_with fail
          refine (wordsEq_any _ _ _ 8 _ _ _ L _ (by have := L6.out; omega) R6.out (HS.out.below S6.out.below (Nat.le_refl _)) (readInoB L) (by rw [readInoB_iff HLn.out, HI.out])).mono ?_
          rintro e w7 ⟨rfl, q7, rfl⟩
          have S7 := Lib.hid (S6.out.drewN q7)
          have HW7 : Hid ((w6.drewN q7).ownsRow (w.heap.size + 2) 49 3 (.slice aR (8 - 2) cR) (8 - 2) (cellsE encRec ((midTo L 8).map recOf))) := Lib.hid HW6.out
          have y0 := S7.out.box.cell (j := 0) rfl
          have y1 := S7.out.box.cell (j := 1) rfl
          have y2 := S7.out.box.cell (j := 2) rfl
          have y3 := S7.out.box.cell (j := 3) rfl
          have y4 := S7.out.box.cell (j := 4) rfl
          have y5 := S7.out.box.cell (j := 5) rfl
          have r0 := S7.out.res.cell (j := 0) rfl
          have r1 := S7.out.res.cell (j := 1) rfl
          have r2 := S7.out.res.cell (j := 2) rfl
          have r3 := S7.out.res.cell (j := 3) rfl
          have r4 := S7.out.res.cell (j := 4) rfl
          have r5 := S7.out.res.cell (j := 5) rfl
          have f0 := S7.out.res.fr (o := 0)
          have f1 := S7.out.res.fr (o := 1)
          have f2 := S7.out.res.fr (o := 2)
          have f3 := S7.out.res.fr (o := 3)
          have f4 := S7.out.res.fr (o := 4)
          have f5 := S7.out.res.fr (o := 5)
          by_cases hok : ReadOk L
          · have HOK := Lib.hid hok
            have hrb := readInoB_yes hok
            rw [hrb]
            clear hok hrb
            have qf := ((((((S7.out.res.set 0 (.int .i64 1)).set 1 (.int .i64 sz)).set 2 (.int .i64 gn)).set 3 (.string x1)).set 4 (.slice aR (8 - 2) cR)).set 5 (.slice none 0 0))
            have q0 := qf.cell (j := 0) (v := .int .i64 1) rfl
            have q1 := qf.cell (j := 1) (v := .int .i64 sz) rfl
            have q2 := qf.cell (j := 2) (v := .int .i64 gn) rfl
            have q3 := qf.cell (j := 3) (v := .string x1) rfl
            have q4 := qf.cell (j := 4) (v := .slice aR (8 - 2) cR) rfl
            have q5 := qf.cell (j := 5) (v := .slice none 0 0) rfl
            clear qf
            go_wp2
            refine bodyPost_ret (v := .tuple #[.agg #[.int .i64 1, .int .i64 sz, .int .i64 gn, .string x1, .slice aR (8 - 2) cR, .slice none 0 0], .bool true]) ?_ rfl (gives_rec sz gn x1 aR (8 - 2) cR L w HOK.out HI.out HLm.out (ownE_but HW7.out (((((((ButE.refl w.heap.size _).then_set _ _).then_set _ _).then_set _ _).then_set _ _).then_set _ _).then_set _ _) (fun g hg => by have := own_block_ge HW7.out g hg; omega)) ((((((S7.out.below.setCell (Nat.le_refl _) _).setCell (Nat.le_refl _) _).setCell (Nat.le_refl _) _).setCell (Nat.le_refl _) _).setCell (Nat.le_refl _) _).setCell (Nat.le_refl _) _))
            simp [results, Tryd.results7, go_sem, q0, q1, q2, q3, q4, q5]
          · have HOK := Lib.hid hok
            have hrb := readInoB_no hok
            rw [hrb]
            clear hok hrb
            have qf := ((((((S7.out.res.set 0 (.int .i64 0)).set 1 (.int .i64 0)).set 2 (.int .i64 0)).set 3 (.string ⟨#[]⟩)).set 4 (.slice none 0 0)).set 5 (.slice none 0 0))
            have q0 := qf.cell (j := 0) (v := .int .i64 0) rfl
            have q1 := qf.cell (j := 1) (v := .int .i64 0) rfl
            have q2 := qf.cell (j := 2) (v := .int .i64 0) rfl
            have q3 := qf.cell (j := 3) (v := .string ⟨#[]⟩) rfl
            have q4 := qf.cell (j := 4) (v := .slice none 0 0) rfl
            have q5 := qf.cell (j := 5) (v := .slice none 0 0) rfl
            clear qf
            go_wp2
            refine bodyPost_ret (v := .tuple #[.agg #[.int .i64 0, .int .i64 0, .int .i64 0, .string ⟨#[]⟩, .slice none 0 0, .slice none 0 0], .bool false]) ?_ rfl (gives_zero L w ((((((S7.out.below.setCell (Nat.le_refl _) _).setCell (Nat.le_refl _) _).setCell (Nat.le_refl _) _).setCell (Nat.le_refl _) _).setCell (Nat.le_refl _) _).setCell (Nat.le_refl _) _) HOK.out rfl)
            simp [results, Tryd.results7, go_sem, q0, q1, q2, q3, q4, q5]
end
end Go.Proofs.YtmkchilhnmkhkabDoor
namespace Go.Proofs.YtmkchilhnmkhkabDoor
open Go.RowKit Go.Proofs.YtmkchilhnmkhkabDoor.Parts Go.Proofs.YtmkchilhnmkhkabDoor.Hexa Go.Proofs.YtmkchilhnmkhkabDoor.Byt

theorem entryOf_size (s : ByteArray) (h : s.size ≤ 2000000) : (entryOf s).f1.size ≤ 2000000 := by
  show (ByteArray.extract s 1 _).size ≤ 2000000
  rw [ByteArray.size_extract]
  omega
theorem gives_ent (sz gn : Int) (aR : Option Addr) (nR cR : Nat) (L : List ByteArray) (w : World) {w' : World} {R : List EntryR} (hL : ReadOk L) (hI : inoOf L = ⟨2, sz, gn, ⟨#[]⟩, [], R⟩) (hl : R.length = nR)
    (ho : w'.ownsRow (w.heap.size + 2) 55 2 (.slice aR nR cR) nR (cellsE encEntry R)) (hb : Below w.heap.size w w') :
    GivesIno (readInoR L) (readInoB L) w (.returned (.tuple #[.agg #[.int .i64 2, .int .i64 sz, .int .i64 gn, .string ⟨#[]⟩, .slice none 0 0, .slice aR nR cR], .bool true])) w' := by
  subst hl
  rw [readInoR_yes hL, readInoB_yes hL, hI]
  exact ⟨none, 0, aR, cR, rfl, ⟨rfl, .inl ⟨rfl, rfl⟩⟩, ownE_mono ho (by omega), .inl rfl, hb⟩

section
variable (a : Option Addr) (c : Nat) (L : List ByteArray) (w : World)
set_option maxRecDepth 100000 in
set_option maxHeartbeats 4000000 in
theorem specReadIno_dir (hs : SrcT w a 8 L) (h8 : ∀ j, j < 8 → (L.getD j default).size = 8) (hk1 : kindOf L = 2) : Calls Tryd.prog 7 #[.slice a 8 c] w (GivesIno (readInoR L) (readInoB L) w) := by
  have HLn : Hid (L.length = 8) := Lib.hid hs.len
  have HS := Lib.hid hs
  have H8 := Lib.hid h8
  have B0 := Lib.hid (below_bk w (inoObj 0 0 0 ⟨#[]⟩ none 0 0 none 0 0))
  obtain ⟨g, off, ha, hg, _⟩ := srcT_at hs 0 (by omega)
  have HC : Hid (∀ {w' : World}, Below w.heap.size w w' → ∀ j, j < 8 → w'.cell? ⟨g, off + j, none⟩ = some (.string (L.getD j default))) := Lib.hid (fun hb j hj => by
    obtain ⟨g', off', ha', _, d⟩ := srcT_later HS.out hb (Nat.le_refl _) j hj
    rw [ha] at ha'; cases ha'
    exact d)
  obtain ⟨x0, hx0⟩ : ∃ x, L.getD 0 default = x := ⟨_, rfl⟩
  have hx8 : x0.size = 8 := by rw [← hx0]; exact h8 0 (by omega)
  have h0s : 0 < x0.size := by omega
  have hkk : kindOf L = 2 := hk1
  have hkd : ((x0[0]'h0s).toNat : Int) = 2 := by unfold kindOf at hk1; rw [hx0, byte_getD x0 0 h0s] at hk1; exact hk1
  have HX0 := Lib.hid hx0
  have HKK := Lib.hid hkk
  obtain ⟨sz, hsz⟩ : ∃ z : Int, numAtV x0 1 2 = z := ⟨_, rfl⟩
  obtain ⟨gn, hgn⟩ : ∃ z : Int, numAtV x0 3 2 = z := ⟨_, rfl⟩
  obtain ⟨sb, hsb⟩ : ∃ z : Bool, numAtB x0 1 2 = z := ⟨_, rfl⟩
  obtain ⟨gb, hgb⟩ : ∃ z : Bool, numAtB x0 3 2 = z := ⟨_, rfl⟩
  obtain ⟨T, hT⟩ : ∃ T, zeroB 8 = T := ⟨_, rfl⟩
  have hszb : -9223372036854775808 ≤ sz ∧ sz ≤ 9223372036854775807 := by
    have h9 : 0 ≤ numAtV x0 1 2 ∧ numAtV x0 1 2 < 256 ^ 2 := numAtV_lt x0 1 2 (by omega) (by omega)
    rw [← hsz]
    have h10 : ((256 : Int) ^ 2) = 65536 := by decide
    rw [h10] at h9
    exact ⟨by have := h9.1; omega, by have := h9.2; omega⟩
  have HSZ := Lib.hid hsz
  have HGN := Lib.hid hgn
  have HSB := Lib.hid hsb
  have HGB := Lib.hid hgb
  have HT := Lib.hid hT
  have HZB := Lib.hid hszb
  have hgne : ¬ g = w.heap.size + 1 := by omega
  have hgne2 : ¬ w.heap.size + 1 = g := by omega
  subst ha
  clear hs h8 hx0 hkk hk1 hsz hgn hsb hgb hT hszb
  obtain ⟨i0, hi, hz0, hz1, hz2⟩ := info_parts infoEntry
  go_enter Tryd.func7, Tryd.ntmps7
  go_wp2
  go_loop [4] (fun iv => ∃ k : Nat, k ≤ 8 ∧ iv = .int .i64 k) (fun iv => 8 - (intOf iv).toNat)
  case atStart => exact ⟨0, Nat.zero_le _, rfl⟩
  case round =>
    obtain ⟨k, hk, rfl⟩ := hrel
    by_cases hlt : k < 8
    · have d0 := HC.out B0.out k hlt
      obtain ⟨x, hx⟩ : ∃ x, L.getD k default = x := ⟨_, rfl⟩
      have hxs : x.size = 8 := by rw [← hx]; exact H8.out k hlt
      rw [hx] at d0
      have e9 : ((x.size : Int) != 8) = false := by simp; omega
      clear hx
      go_wp2
      go_round
      case rel => exact ⟨k + 1, by omega, by go_num⟩
      case measure => (simp [intOf]; try omega)
    · obtain rfl : k = 8 := by omega
      have d0 := HC.out B0.out 0 (by omega)
      rw [HX0.out, Nat.add_zero] at d0
      go_wp2_with fail
      refine (specNumAt_any x0 1 2 _ (by omega) (by omega) (by omega)).mono ?_
      rw [HSZ.out, HSB.out]
      rintro e w1 ⟨rfl, hb1⟩
      have S1 := Lib.hid ((RSt.start w (inoCs 2 0 0 ⟨#[]⟩ none 0 0 none 0 0)).call hb1)
      have x1 := S1.out.box.cell (j := 1) rfl
      have z1 := S1.out.box.fr (o := 1)
      have S2 := Lib.hid (S1.out.set 1 (.int .i64 sz))
      have d1 := HC.out S1.out.below 0 (by omega)
      rw [HX0.out, Nat.add_zero] at d1
      clear hb1 d0
      go_wp2_with fail
      refine (specNumAt_any x0 3 2 _ (by omega) (by omega) (by omega)).mono ?_
      rw [HGN.out, HGB.out]
      rintro e w2 ⟨rfl, hb2⟩
      have S3 := Lib.hid (S2.out.call hb2)
      have x2 := S3.out.box.cell (j := 2) rfl
      have z2 := S3.out.box.fr (o := 2)
      have S4 := Lib.hid (S3.out.set 2 (.int .i64 gn))
      clear hb2 d1 x1 z1
      go_wp2_with fail
      refine (specZero_any 8 _).mono ?_
      rw [HT.out]
      rintro e w3 ⟨rfl, hb3⟩
      have S5 := Lib.hid (S4.out.call hb3)
      clear hb3 x2 z2
      have y0 := S5.out.box.cell (j := 0) rfl
      go_wp2
      go_loopw [7] (fun iv wr => ∃ (k : Nat) (aR : Option Addr) (cR : Nat), 2 ≤ k ∧ k ≤ 8 ∧ iv = .int .i64 k ∧ Hid (Filled L k) ∧ Hid (RSt w (inoCs 2 sz gn ⟨#[]⟩ none 0 0 aR (k - 2) cR) wr) ∧ Hid (wr.ownsRow (w.heap.size + 2) 55 2 (.slice aR (k - 2) cR) (k - 2) (cellsE encEntry ((midTo L k).map entryOf)))) (fun iv _ => 8 - (intOf iv).toNat)
      case atStart => exact ⟨2, none, 0, by omega, by omega, rfl, Lib.hid (fun j h1 h2 => by omega), Lib.hid S5.out, Lib.hid (by rw [midTo_two]; exact ⟨rfl, .inl ⟨rfl, rfl⟩⟩)⟩
      case round =>
        clear y0 S5
        obtain ⟨k, aR, cR, hk2, hk, rfl, HF, SW, HW⟩ := hrel
        have HLm : Hid (((midTo L k).map entryOf).length = k - 2) := Lib.hid (by rw [List.length_map, midTo_length (by rw [HLn.out]; exact hk)])
        have HFit : Hid (FitEntry ((midTo L k).map entryOf) (k - 2) 2000000) := Lib.hid (fun j hj => by
          rw [map_getD _ _ _ (by rw [midTo_length (by rw [HLn.out]; exact hk)]; exact hj)]
          exact entryOf_size _ (by rw [midTo_at (by omega), H8.out _ (by omega)]; omega))
        have y0 := SW.out.box.cell (j := 0) rfl
        have y1 := SW.out.box.cell (j := 1) rfl
        have y2 := SW.out.box.cell (j := 2) rfl
        have y3 := SW.out.box.cell (j := 3) rfl
        have y4 := SW.out.box.cell (j := 4) rfl
        have y5 := SW.out.box.cell (j := 5) rfl
        by_cases hlt : k < 8
        · have d3 := HC.out SW.out.below k hlt
          obtain ⟨x, hx⟩ : ∃ x, L.getD k default = x := ⟨_, rfl⟩
          have hxs : x.size = 8 := by rw [← hx]; exact H8.out k hlt
          rw [hx] at d3
          have HX := Lib.hid hx
          clear hx
          by_cases hxz : x = T
          · subst hxz
            have HST : Hid (stopOf L = k) := Lib.hid (stop_at hk2 (by omega) HF.out (.inr (by rw [HX.out, ← HT.out]; rfl)))
            have HI : Hid (inoOf L = ⟨2, sz, gn, ⟨#[]⟩, [], (midTo L k).map entryOf⟩) := Lib.hid (by unfold inoOf inoTo; rw [HKK.out, HX0.out, HSZ.out, HGN.out, HST.out, if_neg (by decide), if_neg (by decide), if_pos rfl])
            go_wp2_with fail
            refine (specInoWords_any 2 sz gn ⟨#[]⟩ none 0 0 aR (k - 2) cR _ [] ((midTo L k).map entryOf) HZB.out (SrcE.nil _ _ _) (fun j hj => absurd hj (Nat.not_lt_zero _)) (srcEntry_of_own HW.out) HFit.out).mono ?_
            rintro e w6 ⟨v6, rfl, hown6, hb6⟩
            obtain ⟨a6, c6, rfl, _, _, _⟩ := own_form hown6
            have R6 := Lib.hid (srcT_of_own hown6)
            have S6 := Lib.hid (SW.out.call hb6)
            have HW6 := Lib.hid (own_below HW.out hb6)
            have L6 : Hid ((inoWordsB ⟨2, sz, gn, ⟨#[]⟩, [], (midTo L k).map entryOf⟩).length ≤ 8) := Lib.hid (inoWords_le _)
            clear hown6 hb6 y0 y1 y2 y3 y4 y5 HW
            go_wp2_with fail
            refine (wordsEq_any _ _ _ 8 _ _ _ L _ (by have := L6.out; omega) R6.out (HS.out.below S6.out.below (Nat.le_refl _)) (readInoB L) (by rw [readInoB_iff HLn.out, HI.out])).mono ?_
            rintro e w7 ⟨rfl, q7, rfl⟩
            have S7 := Lib.hid (S6.out.drewN q7)
            have HW7 : Hid ((w6.drewN q7).ownsRow (w.heap.size + 2) 55 2 (.slice aR (k - 2) cR) (k - 2) (cellsE encEntry ((midTo L k).map entryOf))) := Lib.hid HW6.out
            have y0 := S7.out.box.cell (j := 0) rfl
            have y1 := S7.out.box.cell (j := 1) rfl
            have y2 := S7.out.box.cell (j := 2) rfl
            have y3 := S7.out.box.cell (j := 3) rfl
            have y4 := S7.out.box.cell (j := 4) rfl
            have y5 := S7.out.box.cell (j := 5) rfl
            have r0 := S7.out.res.cell (j := 0) rfl
            have r1 := S7.out.res.cell (j := 1) rfl
            have r2 := S7.out.res.cell (j := 2) rfl
            have r3 := S7.out.res.cell (j := 3) rfl
            have r4 := S7.out.res.cell (j := 4) rfl
            have r5 := S7.out.res.cell (j := 5) rfl
            have f0 := S7.out.res.fr (o := 0)
            have f1 := S7.out.res.fr (o := 1)
            have f2 := S7.out.res.fr (o := 2)
            have f3 := S7.out.res.fr (o := 3)
            have f4 := S7.out.res.fr (o := 4)
            have f5 := S7.out.res.fr (o := 5)
            by_cases hok : ReadOk L
            · have HOK := Lib.hid hok
              have hrb := readInoB_yes hok
              rw [hrb]
              clear hok hrb
              have qf := ((((((S7.out.res.set 0 (.int .i64 2)).set 1 (.int .i64 sz)).set 2 (.int .i64 gn)).set 3 (.string ⟨#[]⟩)).set 4 (.slice none 0 0)).set 5 (.slice aR (k - 2) cR))
              have q0 := qf.cell (j := 0) (v := .int .i64 2) rfl
              have q1 := qf.cell (j := 1) (v := .int .i64 sz) rfl
              have q2 := qf.cell (j := 2) (v := .int .i64 gn) rfl
              have q3 := qf.cell (j := 3) (v := .string ⟨#[]⟩) rfl
              have q4 := qf.cell (j := 4) (v := .slice none 0 0) rfl
              have q5 := qf.cell (j := 5) (v := .slice aR (k - 2) cR) rfl
              clear qf
              go_wp2
              refine bodyPost_ret (v := .tuple #[.agg #[.int .i64 2, .int .i64 sz, .int .i64 gn, .string ⟨#[]⟩, .slice none 0 0, .slice aR (k - 2) cR], .bool true]) ?_ rfl (gives_ent sz gn aR (k - 2) cR L w HOK.out HI.out HLm.out (ownE_but HW7.out (((((((ButE.refl w.heap.size _).then_set _ _).then_set _ _).then_set _ _).then_set _ _).then_set _ _).then_set _ _) (fun g hg => by have := own_block_ge HW7.out g hg; omega)) ((((((S7.out.below.setCell (Nat.le_refl _) _).setCell (Nat.le_refl _) _).setCell (Nat.le_refl _) _).setCell (Nat.le_refl _) _).setCell (Nat.le_refl _) _).setCell (Nat.le_refl _) _))
              simp [results, Tryd.results7, go_sem, q0, q1, q2, q3, q4, q5]
            · have HOK := Lib.hid hok
              have hrb := readInoB_no hok
              rw [hrb]
              clear hok hrb
              have qf := ((((((S7.out.res.set 0 (.int .i64 0)).set 1 (.int .i64 0)).set 2 (.int .i64 0)).set 3 (.string ⟨#[]⟩)).set 4 (.slice none 0 0)).set 5 (.slice none 0 0))
              have q0 := qf.cell (j := 0) (v := .int .i64 0) rfl
              have q1 := qf.cell (j := 1) (v := .int .i64 0) rfl
              have q2 := qf.cell (j := 2) (v := .int .i64 0) rfl
              have q3 := qf.cell (j := 3) (v := .string ⟨#[]⟩) rfl
              have q4 := qf.cell (j := 4) (v := .slice none 0 0) rfl
              have q5 := qf.cell (j := 5) (v := .slice none 0 0) rfl
              clear qf
              go_wp2
              refine bodyPost_ret (v := .tuple #[.agg #[.int .i64 0, .int .i64 0, .int .i64 0, .string ⟨#[]⟩, .slice none 0 0, .slice none 0 0], .bool false]) ?_ rfl (gives_zero L w ((((((S7.out.below.setCell (Nat.le_refl _) _).setCell (Nat.le_refl _) _).setCell (Nat.le_refl _) _).setCell (Nat.le_refl _) _).setCell (Nat.le_refl _) _).setCell (Nat.le_refl _) _) HOK.out rfl)
              simp [results, Tryd.results7, go_sem, q0, q1, q2, q3, q4, q5]
          · have i1 := text_neB hxz
            have i2 : (x.toList != T.toList) = true := by simp only [bne, i1]; rfl
            have i3 := text_ne hxz
            have HF2 : Hid (Filled L (k + 1)) := Lib.hid (filled_step HF.out (by rw [HX.out]; intro e; exact hxz (by rw [e, ← HT.out]; rfl)))
            clear hxz
            go_wp2_with fail
            refine (specReadEntry_any x _ (by omega)).mono ?_
            by_cases hR : EntryOk (entryOf x)
            · rw [show entryReadR x = entryOf x from if_pos ⟨hxs, hR⟩, show entryReadB x = true from decide_eq_true ⟨hxs, hR⟩]
              obtain ⟨⟨p, m⟩, hr⟩ : ∃ r, entryOf x = r := ⟨_, rfl⟩
              have HR := Lib.hid hr
              rw [hr]
              clear hr hR
              rintro e w1 ⟨rfl, hb1⟩
              have HW1 := Lib.hid (own_below HW.out hb1)
              have S1 := Lib.hid (SW.out.call hb1)
              have Z1 : Hid (w.heap.size + 2 ≤ w1.heap.size) := Lib.hid S1.out.size
              clear hb1 y0 y1 y2 y3 y4 y5 d3
              have y0 := S1.out.box.cell (j := 0) rfl
              have S1a := Lib.hid (S1.out.call (below_bk w1 (.cells #[.int .i64 p, .string m] 55)))
              have y4 := S1a.out.box.cell (j := 5) rfl
              have K1 : Hid (k + 1 - 2 = k - 2 + 1) := Lib.hid (by omega)
              have hwn : Hid (cellsE encEntry ((midTo L k).map entryOf) ++ [.int .i64 p, .string m] = cellsE encEntry ((midTo L (k + 1)).map entryOf)) := Lib.hid (by
                rw [midTo_next hk2 (by rw [HLn.out]; exact hlt), List.map_append, cellsE_append, HX.out]
                show _ = _ ++ cellsE encEntry [entryOf x]
                rw [HR.out, cellsE_one]; rfl)
              go_wp2_with (first
                | (at_builtin; refine wpList_append_own _ rfl (.tmp 104) (.tmp 106) 27 rfl (w.heap.size + 2) 55 i0 (.agg #[.int .i64 0, .string ByteArray.empty]) 2 24 Tryd.underlying27 hi hz0 hz1 hz2 rfl (by decide) _ _ _ rfl ((HW1.out.alloc _).alloc _) ⟨w1.heap.size + 1, 0, none⟩ 1 1 [.int .i64 p, .string m] rfl rfl (World.news_of_block (by simpa using heap_alloc_new (w1.alloc (.cells #[.int .i64 p, .string m] 55)) (.cells #[.int .i64 p, .string m] 55))) (by simp [Value.oneCell']) (by unfold maxLen; omega) (by omega) (by have := Z1.out; simp; omega) ?_; intro v2 w2 hown2 hgrow2 hn2
                   rw [hwn.out] at hown2
                   obtain ⟨aR2, cR2, rfl, _, _, hg2⟩ := ownE_form hown2
                   have S2 := Lib.hid ((S1a.out.call (below_bk _ (.cells #[.int .i64 p, .string m] 55))).grown hgrow2 (fun g hg => own_block_ge HW1.out g hg))
                   have x4 := S2.out.box.cell (j := 5) rfl
                   have z4 := S2.out.box.fr (o := 5)
                   have x0' := S2.out.box.cell (j := 0) rfl
                   have S3 := Lib.hid (S2.out.set 5 (.slice aR2 (k - 2 + 1) cR2))
                   have HW3 := Lib.hid (ownE_but hown2 ((ButE.refl (w.heap.size + 1) w2).then_set 5 (.slice aR2 (k - 2 + 1) cR2)) (fun g hg => by have := own_block_ge hown2 g hg; omega))
                   clear hown2 hgrow2 hn2 hg2 y0 y4))
              go_roundw
              case rel => exact ⟨k + 1, aR2, cR2, by omega, by omega, by go_num, HF2, Lib.hid (by rw [K1.out]; exact S3.out), Lib.hid (by rw [K1.out]; exact HW3.out)⟩
              case measure => (simp [intOf]; try omega)
            · have HL : Hid (¬ ReadOk L) := Lib.hid (read_badEnt hk2 hlt HLn.out HKK.out HF2.out (by rw [HX.out]; exact hR))
              rw [show entryReadR x = ⟨0, ⟨#[]⟩⟩ from if_neg (fun e => hR e.2), show entryReadB x = false from decide_eq_false (fun e => hR e.2)]
              clear hR
              rintro e w1 ⟨rfl, hb1⟩
              have S7 := Lib.hid ((SW.out.call hb1).call (below_bk w1 (.cells #[.int .i64 0, .string ⟨#[]⟩] 55)))
              clear hb1 y0 y1 y2 y3 y4 y5 d3 HW
              have r0 := S7.out.res.cell (j := 0) rfl
              have r1 := S7.out.res.cell (j := 1) rfl
              have r2 := S7.out.res.cell (j := 2) rfl
              have r3 := S7.out.res.cell (j := 3) rfl
              have r4 := S7.out.res.cell (j := 4) rfl
              have r5 := S7.out.res.cell (j := 5) rfl
              have f0 := S7.out.res.fr (o := 0)
              have f1 := S7.out.res.fr (o := 1)
              have f2 := S7.out.res.fr (o := 2)
              have f3 := S7.out.res.fr (o := 3)
              have f4 := S7.out.res.fr (o := 4)
              have f5 := S7.out.res.fr (o := 5)
              have qf := ((((((S7.out.res.set 0 (.int .i64 0)).set 1 (.int .i64 0)).set 2 (.int .i64 0)).set 3 (.string ⟨#[]⟩)).set 4 (.slice none 0 0)).set 5 (.slice none 0 0))
              have q0 := qf.cell (j := 0) (v := .int .i64 0) rfl
              have q1 := qf.cell (j := 1) (v := .int .i64 0) rfl
              have q2 := qf.cell (j := 2) (v := .int .i64 0) rfl
              have q3 := qf.cell (j := 3) (v := .string ⟨#[]⟩) rfl
              have q4 := qf.cell (j := 4) (v := .slice none 0 0) rfl
              have q5 := qf.cell (j := 5) (v := .slice none 0 0) rfl
              clear qf
              go_wp2
              refine bodyPost_ret (v := .tuple #[.agg #[.int .i64 0, .int .i64 0, .int .i64 0, .string ⟨#[]⟩, .slice none 0 0, .slice none 0 0], .bool false]) ?_ rfl (gives_zero L w ((((((S7.out.below.setCell (Nat.le_refl _) _).setCell (Nat.le_refl _) _).setCell (Nat.le_refl _) _).setCell (Nat.le_refl _) _).setCell (Nat.le_refl _) _).setCell (Nat.le_refl _) _) HL.out rfl)
              simp [results, Tryd.results7, go_sem, q0, q1, q2, q3, q4, q5]
        · obtain rfl : k = 8 := by omega
          have HST : Hid (stopOf L = 8) := Lib.hid (stop_at hk2 (by omega) HF.out (.inl rfl))
          have HI : Hid (inoOf L = ⟨2, sz, gn, ⟨#[]⟩, [], (midTo L 8).map entryOf⟩) := Lib.hid (by unfold inoOf inoTo; rw [HKK.out, HX0.out, HSZ.out, HGN.out, HST.out, if_neg (by decide), if_neg (by decide), if_pos rfl])
          go_wp2_with fail
          refine (specInoWords_any 2 sz gn ⟨#[]⟩ none 0 0 aR (8 - 2) cR _ [] ((midTo L 8).map entryOf) HZB.out (SrcE.nil _ _ _) (fun j hj => absurd hj (Nat.not_lt_zero _)) (srcEntry_of_own HW.out) HFit.out).mono ?_
          rintro e w6 ⟨v6, rfl, hown6, hb6⟩
          obtain ⟨a6, c6, rfl, _, _, _⟩ := own_form hown6
          have R6 := Lib.hid (srcT_of_own hown6)
          have S6 := Lib.hid (SW.out.call hb6)
          have HW6 := Lib.hid (own_below HW.out hb6)
          have L6 : Hid ((inoWordsB ⟨2, sz, gn, ⟨#[]⟩, [], (midTo L 8).map entryOf⟩).length ≤ 8) := Lib.hid (inoWords_le _)
          clear hown6 hb6 y0 y1 y2 y3 y4 y5 HW
          go_wp2_with fail
          refine (wordsEq_any _ _ _ 8 _ _ _ L _ (by have := L6.out; omega) R6.out (HS.out.below S6.out.below (Nat.le_refl _)) (readInoB L) (by rw [readInoB_iff HLn.out, HI.out])).mono ?_
          rintro e w7 ⟨rfl, q7, rfl⟩
          have S7 := Lib.hid (S6.out.drewN q7)
          have HW7 : Hid ((w6.drewN q7).ownsRow (w.heap.size + 2) 55 2 (.slice aR (8 - 2) cR) (8 - 2) (cellsE encEntry ((midTo L 8).map entryOf))) := Lib.hid HW6.out
          have y0 := S7.out.box.cell (j := 0) rfl
          have y1 := S7.out.box.cell (j := 1) rfl
          have y2 := S7.out.box.cell (j := 2) rfl
          have y3 := S7.out.box.cell (j := 3) rfl
          have y4 := S7.out.box.cell (j := 4) rfl
          have y5 := S7.out.box.cell (j := 5) rfl
          have r0 := S7.out.res.cell (j := 0) rfl
          have r1 := S7.out.res.cell (j := 1) rfl
          have r2 := S7.out.res.cell (j := 2) rfl
          have r3 := S7.out.res.cell (j := 3) rfl
          have r4 := S7.out.res.cell (j := 4) rfl
          have r5 := S7.out.res.cell (j := 5) rfl
          have f0 := S7.out.res.fr (o := 0)
          have f1 := S7.out.res.fr (o := 1)
          have f2 := S7.out.res.fr (o := 2)
          have f3 := S7.out.res.fr (o := 3)
          have f4 := S7.out.res.fr (o := 4)
          have f5 := S7.out.res.fr (o := 5)
          by_cases hok : ReadOk L
          · have HOK := Lib.hid hok
            have hrb := readInoB_yes hok
            rw [hrb]
            clear hok hrb
            have qf := ((((((S7.out.res.set 0 (.int .i64 2)).set 1 (.int .i64 sz)).set 2 (.int .i64 gn)).set 3 (.string ⟨#[]⟩)).set 4 (.slice none 0 0)).set 5 (.slice aR (8 - 2) cR))
            have q0 := qf.cell (j := 0) (v := .int .i64 2) rfl
            have q1 := qf.cell (j := 1) (v := .int .i64 sz) rfl
            have q2 := qf.cell (j := 2) (v := .int .i64 gn) rfl
            have q3 := qf.cell (j := 3) (v := .string ⟨#[]⟩) rfl
            have q4 := qf.cell (j := 4) (v := .slice none 0 0) rfl
            have q5 := qf.cell (j := 5) (v := .slice aR (8 - 2) cR) rfl
            clear qf
            go_wp2
            refine bodyPost_ret (v := .tuple #[.agg #[.int .i64 2, .int .i64 sz, .int .i64 gn, .string ⟨#[]⟩, .slice none 0 0, .slice aR (8 - 2) cR], .bool true]) ?_ rfl (gives_ent sz gn aR (8 - 2) cR L w HOK.out HI.out HLm.out (ownE_but HW7.out (((((((ButE.refl w.heap.size _).then_set _ _).then_set _ _).then_set _ _).then_set _ _).then_set _ _).then_set _ _) (fun g hg => by have := own_block_ge HW7.out g hg; omega)) ((((((S7.out.below.setCell (Nat.le_refl _) _).setCell (Nat.le_refl _) _).setCell (Nat.le_refl _) _).setCell (Nat.le_refl _) _).setCell (Nat.le_refl _) _).setCell (Nat.le_refl _) _))
            simp [results, Tryd.results7, go_sem, q0, q1, q2, q3, q4, q5]
          · have HOK := Lib.hid hok
            have hrb := readInoB_no hok
            rw [hrb]
            clear hok hrb
            have qf := ((((((S7.out.res.set 0 (.int .i64 0)).set 1 (.int .i64 0)).set 2 (.int .i64 0)).set 3 (.string ⟨#[]⟩)).set 4 (.slice none 0 0)).set 5 (.slice none 0 0))
            have q0 := qf.cell (j := 0) (v := .int .i64 0) rfl
            have q1 := qf.cell (j := 1) (v := .int .i64 0) rfl
            have q2 := qf.cell (j := 2) (v := .int .i64 0) rfl
            have q3 := qf.cell (j := 3) (v := .string ⟨#[]⟩) rfl
            have q4 := qf.cell (j := 4) (v := .slice none 0 0) rfl
            have q5 := qf.cell (j := 5) (v := .slice none 0 0) rfl
            clear qf
            go_wp2
            refine bodyPost_ret (v := .tuple #[.agg #[.int .i64 0, .int .i64 0, .int .i64 0, .string ⟨#[]⟩, .slice none 0 0, .slice none 0 0], .bool false]) ?_ rfl (gives_zero L w ((((((S7.out.below.setCell (Nat.le_refl _) _).setCell (Nat.le_refl _) _).setCell (Nat.le_refl _) _).setCell (Nat.le_refl _) _).setCell (Nat.le_refl _) _).setCell (Nat.le_refl _) _) HOK.out rfl)
            simp [results, Tryd.results7, go_sem, q0, q1, q2, q3, q4, q5]
end
end Go.Proofs.YtmkchilhnmkhkabDoor
namespace Go.Proofs.YtmkchilhnmkhkabDoor
open Go.RowKit Go.Proofs.YtmkchilhnmkhkabDoor.Parts Go.Proofs.YtmkchilhnmkhkabDoor.Hexa Go.Proofs.YtmkchilhnmkhkabDoor.Byt

theorem specReadIno_any (a : Option Addr) (n c : Nat) (L : List ByteArray) (w : World) (hs : SrcT w a n L) (hm : ∀ j, j < n → (L.getD j default).size ≤ 2000000) :
    Calls Tryd.prog 7 #[.slice a n c] w (GivesIno (readInoR L) (readInoB L) w) := by
  by_cases h8 : n = 8
  · by_cases hz : ∀ j, j < 8 → (L.getD j default).size = 8
    · subst h8
      by_cases h1 : kindOf L = 1
      · exact specReadIno_file a c L w hs hz h1
      · by_cases h2 : kindOf L = 2
        · exact specReadIno_dir a c L w hs hz h2
        · exact specReadIno_else a c L w hs hz h1 h2
    · exact specReadIno_size a n c L w hs h8 hm hz
  · exact specReadIno_len a n c L w hs h8
end Go.Proofs.YtmkchilhnmkhkabDoor
namespace Go.Proofs.YtmkchilhnmkhkabDoor
open Go.RowKit

set_option maxRecDepth 100000 in
set_option maxHeartbeats 400000 in
theorem implIn_any (n a b : Int) (w : World) : Calls Tryd.prog 56 #[.int .i64 n, .int .i64 a, .int .i64 b] w fun e w' => e = .returned (.bool (decide (a ≤ n ∧ n ≤ b))) ∧ w' = w := by
  by_cases h1 : a ≤ n <;> by_cases h2 : n ≤ b
  all_goals
    go_enter Tryd.func56, Tryd.ntmps56
    go_wp2
    all_goals go_ret
    all_goals exact ⟨by simp [h1, h2], rfl⟩
theorem implIn_yes {n a b : Int} (w : World) (h : a ≤ n ∧ n ≤ b) : Calls Tryd.prog 56 #[.int .i64 n, .int .i64 a, .int .i64 b] w fun e w' => e = .returned (.bool true) ∧ w' = w :=
  (implIn_any n a b w).mono fun _ _ ⟨he, hw⟩ => ⟨by rw [he, decide_eq_true h], hw⟩
theorem implIn_no {n a b : Int} (w : World) (h : ¬ (a ≤ n ∧ n ≤ b)) : Calls Tryd.prog 56 #[.int .i64 n, .int .i64 a, .int .i64 b] w fun e w' => e = .returned (.bool false) ∧ w' = w :=
  (implIn_any n a b w).mono fun _ _ ⟨he, hw⟩ => ⟨by rw [he, decide_eq_false h], hw⟩

end Go.Proofs.YtmkchilhnmkhkabDoor
namespace Go.Proofs.YtmkchilhnmkhkabDoor
open Go.RowKit Go.Lib Go.Proofs.YtmkchilhnmkhkabDoor.Hexa Go.Proofs.YtmkchilhnmkhkabDoor.Byt

theorem made_zero (n : Nat) : (madeCells (Value.int .u8 0).cells (n * 1)).toList = bcells (List.replicate n 0) := by
  apply List.ext_getElem?
  intro j
  have hcl : (Value.int .u8 0).cells = #[Value.int .u8 0] := rfl
  by_cases hj : j < n
  · simp [madeCells, hj, hcl, Nat.mod_one, bcells]
  · rw [List.getElem?_eq_none (by simp [madeCells]; omega), List.getElem?_eq_none (by simp [bcells]; omega)]

/-- The bytes A, and zeros up to n. -/
def partB (A : List UInt8) (n : Nat) : List UInt8 := A ++ List.replicate (n - A.length) 0
theorem partB_length (A : List UInt8) (n : Nat) (h : A.length ≤ n) : (partB A n).length = n := by simp [partB]; omega
theorem partB_nil (n : Nat) : partB [] n = List.replicate n 0 := by simp [partB]
theorem partB_full (A : List UInt8) (n : Nat) (h : A.length = n) : partB A n = A := by simp [partB, h]
theorem partB_set (A : List UInt8) (n : Nat) (x : UInt8) (h : A.length < n) : (partB A n).set A.length x = partB (A ++ [x]) n := by
  obtain ⟨m, hm⟩ : ∃ m, n - A.length = m + 1 := ⟨n - A.length - 1, by omega⟩
  have h2 : n - (A ++ [x]).length = m := by simp; omega
  unfold partB
  rw [h2, hm, List.replicate_succ, List.set_append_right _ _ (Nat.le_refl _), Nat.sub_self, List.set_cons_zero, List.append_assoc]
  rfl
theorem part_start {w : World} {B e g n : Nat} (h : w.ownsRow B e 1 (.slice (some ⟨g, 0, none⟩) n n) n (madeCells (Value.int .u8 0).cells (n * 1)).toList) :
    Bytes w B e (.slice (some ⟨g, 0, none⟩) n n) (partB [] n) := by
  rw [made_zero] at h
  rw [partB_nil]
  refine bytes_of_own ?_
  rw [List.length_replicate]
  exact h
/-- The next byte written. -/
theorem part_next {w : World} {B e g n : Nat} {A : List UInt8} (h : Bytes w B e (.slice (some ⟨g, 0, none⟩) n n) (partB A n)) (x : UInt8) (hl : A.length < n) :
    Bytes (w.setCell ⟨g, A.length, none⟩ (.int .u8 x.toNat)) B e (.slice (some ⟨g, 0, none⟩) n n) (partB (A ++ [x]) n) := by
  have hp := partB_length A n (by omega)
  have h' : Bytes w B e (.slice (some ⟨g, 0, none⟩) (partB A n).length n) (partB A n) := by rw [hp]; exact h
  have hs := bytes_set h' A.length x
  rw [partB_set A n x hl, hp] at hs
  exact hs
theorem part_at {w : World} {B e g n : Nat} {A : List UInt8} (h : Bytes w B e (.slice (some ⟨g, 0, none⟩) n n) (partB A n)) (hl : A.length < n) :
    (∃ v, w.cell? ⟨g, A.length, none⟩ = some v) ∧ w.frozen? ⟨g, A.length, none⟩ = false ∧ B ≤ g := by
  have hp := partB_length A n (by omega)
  have h' : Bytes w B e (.slice (some ⟨g, 0, none⟩) (partB A n).length n) (partB A n) := by rw [hp]; exact h
  obtain ⟨h1, h2, h3⟩ := bytes_at h' A.length (by omega)
  exact ⟨⟨_, h1⟩, h2, h3⟩

/-- 'copy(b, s)'. -/
theorem bytes_copy {P : Program} {t e u ty : TypeId} {i : TypeInfo} (ht : P.underlying t = some (.slice e)) (hi : P.info? e = some i) (hs1 : i.size = 1)
    {w : World} {B g c n : Nat} {l : List UInt8} (hn : l.length = n) (h : Bytes w B e (.slice (some ⟨g, 0, none⟩) n c) l) (s : ByteArray) (hs : s.size ≤ n) :
    ∃ w', (Builtin.copy_ #[t, u] ty #[.slice (some ⟨g, 0, none⟩) n c, .string s]).run P w = .ok (goInt s.size) w' ∧ Bytes w' B e (.slice (some ⟨g, 0, none⟩) n c) (s.data.toList ++ l.drop s.size) ∧ Below B w w' := by
  subst hn
  have hsl : s.data.toList.length = s.size := by simp
  rcases h with ⟨h, _⟩ | ⟨g', cap, cur, fz, hv, hb, hg, hfz, hlc, hm, hcs, htk⟩
  · cases h
  · simp at hv
    obtain ⟨rfl, rfl⟩ := hv
    have hst := Byt.run_store P g 0 e fz (strCells s) 0 cur w hg hfz (by rw [strCells_length]; omega) (strCells_oneCell s)
    have hf := run_firstCells_string (P := P) w 1 s
    have hln : (s.data.toList ++ l.drop s.size).length = l.length := by rw [List.length_append, List.length_drop, hsl]; omega
    simp only [Nat.add_zero, Nat.zero_add, strCells_length] at hst
    refine ⟨w.setRow g (List.take 0 cur.toList ++ strCells s ++ List.drop s.size cur.toList).toArray, ?_, .inr ⟨g, c, (List.take 0 cur.toList ++ strCells s ++ List.drop s.size cur.toList).toArray, fz, by rw [hln], hb, setRow_heap w g cur _ e fz hg, ?_, by rw [hln]; exact hlc, hm, ?_, ?_⟩, Byt.below_setRow w hb _⟩
    · simp [Builtin.copy_, run_underlying ht, Builtin.lenOf, sizeOf, typeInfo, hi, hs1, Nat.min_eq_left hs, hf, hst]
    · have hz : (List.take 0 cur.toList ++ strCells s ++ List.drop s.size cur.toList).toArray.size = cur.size := by simp [strCells_length]; omega
      rw [hz]; exact hfz
    · simp [strCells_length]; omega
    · rw [hln]
      have e1 : strCells s = bcells s.data.toList := rfl
      simp only [List.take_zero, List.nil_append, e1, bcells_append]
      have e2 : l.length = (bcells s.data.toList).length + (l.length - s.size) := by rw [bcells_length, hsl]; omega
      have e3 : bcells (l.drop s.size) = (bcells l).drop s.size := by simp [bcells]
      rw [e2, List.take_length_add_append, e3, ← htk, List.drop_take]

theorem wpList_copy_text {P : Program} {w : World} {ops : Array Oper} {rest : List Oper} {o : Oper} {a : Act} {Q : Exit → Act → World → Prop} (hgd : o.guard = none) (d s : Operand) (dT sT : TypeId)
    (ho : o.op = .call { callee := .builtin .copy, args := #[d, s], argTypes := #[dT, sT] }) (v0 v1 r : Value) (w' : World) (hd : a.eval d = v0) (hs : a.eval s = v1)
    (hrun : (Builtin.copy_ #[dT, sT] o.type #[v0, v1]).run P w = .ok r w') (h : wpList P ops Q rest (a.put o.dst r) w') : wpList P ops Q (o :: rest) a w := by
  refine wpList_plain hgd fun K hK => ?_
  unfold Oper.wp
  simp [execOp, ho, resolve, invoke, builtin, hd, hs, hrun, Result.andThen]
  exact hK _ _ h
end Go.Proofs.YtmkchilhnmkhkabDoor
namespace Go.Proofs.YtmkchilhnmkhkabDoor
open Go.RowKit Go.Proofs.YtmkchilhnmkhkabDoor.Hexa Go.Proofs.YtmkchilhnmkhkabDoor.Byt Go.Proofs.YtmkchilhnmkhkabDoor.BitsM

set_option maxRecDepth 100000 in
set_option maxHeartbeats 1000000 in
theorem implNum_yes (m k : Nat) (w : World) (hk : 1 ≤ k) (hk' : k ≤ 7) (hm : m < 256 ^ k) :
    Calls Tryd.prog 37 #[.int .i64 m, .int .i64 k] w fun e w' => e = .returned (.string (numB m k)) ∧ Below w.heap.size w w' := by
  obtain ⟨i0, hi, hz0, hz1, hz2⟩ := info_parts infoByte
  have hmb : m < 72057594037927936 := Nat.lt_of_lt_of_le hm (Nat.le_trans (Nat.pow_le_pow_right (by omega) hk') (by decide))
  have hq := shift_zero hm
  have h0 : ¬ ((m : Int) < 0) := by omega
  have hsh0 : (8 * (k : Int)).toNat = 8 * k := by omega
  clear hm
  go_enter Tryd.func37, Tryd.ntmps37
  go_wp2_with (at_make; refine wpList_make_full _ rfl _ _ 22 rfl w.heap.size 5 i0 (.int .u8 0) 1 Tryd.underlying22 hi hz0 hz1 .i64 .i64 _ _ k rfl rfl rfl rfl (by rw [hz2]; omega) (by unfold maxLen; omega) (Nat.le_refl _) ?_; intro w0 hown0 hgrow0)
  have hg0 : Below w.heap.size w w0 := (Below.refl _ _).grown hgrow0 (Nat.le_refl _) (fun k h => by cases h)
  have HO0 := Lib.hid (part_start hown0)
  clear hown0 hgrow0 hq hsh0
  go_loopw [6, 28] (fun jv iv wr => ∃ j : Nat, j ≤ k ∧ iv = .int .i64 j ∧ Hid (Bytes wr w.heap.size 5 (.slice (some ⟨w.heap.size, 0, none⟩) k k) (partB (numL m k j) k)) ∧ Below w.heap.size w wr)
    (fun _ iv _ => k - (intOf iv).toNat)
  case atStart => exact ⟨0, Nat.zero_le _, rfl, HO0, hg0⟩
  case round =>
    clear HO0 hg0
    obtain ⟨j, hj, rfl, HW, hbel⟩ := hrel
    have hl := numL_length m k j
    by_cases hlt : j < k
    · have hsh : (8 * ((k : Int) - 1 - j)).toNat = 8 * (k - 1 - j) := by omega
      have hge : 0 ≤ (k : Int) - 1 - j := by omega
      have hby := num_byte m (k - 1 - j)
      have HNX := Lib.hid (numL_next m k j)
      obtain ⟨⟨v, c3⟩, z3, hB⟩ := part_at HW.out (by omega)
      have N3 := Lib.hid (part_next HW.out (UInt8.ofNat (m / 256 ^ (k - 1 - j))) (by omega))
      rw [hl] at c3 z3 N3
      rw [HNX.out] at N3
      generalize UInt8.ofNat (m / 256 ^ (k - 1 - j)) = z at hby N3
      have hb1 : Below w.heap.size w (wr.setCell ⟨w.heap.size, j, none⟩ (.int .u8 (z.toNat : Int))) := hbel.setCell (Nat.le_refl _) _
      clear HNX
      go_wp2
      go_roundw
      case rel => exact ⟨j + 1, by omega, by go_num, N3, hb1⟩
      case measure => (simp [intOf]; try omega)
    · obtain rfl : j = k := by omega
      have h9 := HW.out
      rw [partB_full _ _ hl] at h9
      have hconv := bytes_string (P := Tryd.prog) 22 9 Tryd.underlying22 Tryd.underlying5 Tryd.underlying9 h9
      clear h9
      go_wp2
      go_ret
      exact ⟨rfl, hbel⟩
end Go.Proofs.YtmkchilhnmkhkabDoor
