/- Merged texts: OkImplD, ToGeo, CutImport, PartOkLaw, RowCells, RowTree, TIntR, TIntRS, TStrE, TStrR, TRecR, TRecRS, TEntryR, TEntryRS, TInoR, TInoRS, TPartR, TPartRT, GeoRow. -/
import Derived.Test.YtmkchilhnmkhkabP15BF
import Derived.Deep.RegionHeld3
import Derived.Test.YtmkchilhnmkhkabRows
import Derived.Deep.DeepCutAuto
import Derived.Deep.Strs
import Derived.ProofKit
import Derived.Deep.Fields
import Derived.OpenShut
import Derived.Lib.SmallJoins
namespace Go.Proofs.Ytmkchilhnmkhkab
open Go.RowKit Go.Proofs.Ytmkchilhnmkhkab.Parts Go.Proofs.Ytmkchilhnmkhkab.Hexa Go.Proofs.Ytmkchilhnmkhkab.Byt

theorem implGeo_dec (T P I Q : Int) (w : World) : Calls Try.prog 28 #[.agg #[.int .i64 T, .int .i64 P, .int .i64 I, .int .i64 Q]] w (SaysB (decB (GeoR T P I Q)) w) := by
  by_cases h : GeoR T P I Q
  · rw [decB_yes h]; exact implGeo_yes T P I Q w h
  · rw [decB_no h]; exact implGeo_no T P I Q w h
theorem stB_dec (zs : List Int) (p : Int) : stB zs p = decB (StOk zs p) := rfl
theorem dec_eq {q : Prop} [Decidable q] : decide q = decB q := by
  by_cases h : q
  · rw [decB_yes h, decide_eq_true h]
  · rw [decB_no h, decide_eq_false h]
theorem ptB_def (T P I Q : Int) (p : PartR) : ptB T P I Q p = (decB (GeoR T P I Q) && (decB (SerR p.ser) && (decB (StOk p.st P) && (decB ((p.ino.length : Int) = I) && (decB (InosR p.ino) && (decB (LinksR p.ino) && (decB (UsersR p.ino p.st) && decB (((withSt p.st 2 p.st.length).length : Int) ≤ Q)))))))) := by
  rw [Bool.eq_iff_iff]
  simp only [Bool.and_eq_true, decB_iff, ptB, PartOkR]

set_option maxRecDepth 100000 in
set_option maxHeartbeats 4000000 in
theorem implPartOk_any (T P I Q : Int) (p : PartR) (a1 : Option Addr) (c1 : Nat) (a2 : Option Addr) (c2 : Nat) (w : World) (h1 : (celRow cInt p.st).Rd w (.slice a1 p.st.length c1)) (h2 : (celRow cIno p.ino).Rd w (.slice a2 p.ino.length c2)) (hz : szL (cPart.cels p) ≤ 1048576) (ht : TyL (celsE cIno p.ino)) :
    Calls Try.prog 12 #[.agg #[.int .i64 T, .int .i64 P, .int .i64 I, .int .i64 Q], .agg #[.int .i64 p.ser, .slice a1 p.st.length c1, .slice a2 p.ino.length c2]] w (SaysB (ptB T P I Q p) w) := by
  have hb1 := below_bk w (.cells #[.int .i64 T, .int .i64 P, .int .i64 I, .int .i64 Q] 37)
  have hb2 := below_bk (w.alloc (.cells #[.int .i64 T, .int .i64 P, .int .i64 I, .int .i64 Q] 37)) (.cells #[.int .i64 p.ser, .slice a1 p.st.length c1, .slice a2 p.ino.length c2] 30)
  have hb0 := hb1.trans (hb2.mono hb1.size)
  have BD := Lib.hid hb0.drew
  have GD := Lib.hid ((Four.alloc w T P I Q 37).later hb2).drew
  have XD : Hid (Bk ((w.alloc (.cells #[.int .i64 T, .int .i64 P, .int .i64 I, .int .i64 Q] 37)).alloc (.cells #[.int .i64 p.ser, .slice a1 p.st.length c1, .slice a2 p.ino.length c2] 30)).drew (w.heap.size + 1) #[.int .i64 p.ser, .slice a1 p.st.length c1, .slice a2 p.ino.length c2] 30) := Lib.hid (by
    have h := (Bk.alloc (w.alloc (.cells #[.int .i64 T, .int .i64 P, .int .i64 I, .int .i64 Q] 37)) #[.int .i64 p.ser, .slice a1 p.st.length c1, .slice a2 p.ino.length c2] 30).drew
    simpa using h)
  have HS1 := Lib.hid h1
  have HS2 := Lib.hid h2
  have HZ := Lib.hid hz
  have HT := Lib.hid ht
  have hn : p.st.length ≤ 1048576 := by have h9 := hz; rw [cPart_sz, szInts_eq] at h9; omega
  have hn2 : p.ino.length ≤ 1048576 := (part_ino hz).1
  clear h1 h2 hz ht hb1 hb2
  rw [ptB_def]
  obtain ⟨g1, e1⟩ : ∃ b, decB (GeoR T P I Q) = b := ⟨_, rfl⟩
  obtain ⟨g2, e2⟩ : ∃ b, decB (SerR p.ser) = b := ⟨_, rfl⟩
  obtain ⟨g3, e3⟩ : ∃ b, decB (StOk p.st P) = b := ⟨_, rfl⟩
  obtain ⟨g5, e5⟩ : ∃ b, decB (InosR p.ino) = b := ⟨_, rfl⟩
  obtain ⟨g6, e6⟩ : ∃ b, decB (LinksR p.ino) = b := ⟨_, rfl⟩
  obtain ⟨g7, e7⟩ : ∃ b, decB (UsersR p.ino p.st) = b := ⟨_, rfl⟩
  have HGEO : Hid (∀ W, Calls Try.prog 28 #[.agg #[.int .i64 T, .int .i64 P, .int .i64 I, .int .i64 Q]] W (SaysB g1 W)) := Lib.hid (fun W => by have h := implGeo_dec T P I Q W; rw [e1] at h; exact h)
  have HSER : Hid (decide (0 ≤ p.ser ∧ p.ser ≤ 16777215) = g2) := Lib.hid (by rw [dec_eq]; exact e2)
  have HST : Hid (stB p.st P = g3) := Lib.hid e3
  have HINO := Lib.hid e5
  have HLNK := Lib.hid e6
  have HUSR := Lib.hid e7
  obtain ⟨U, hU⟩ : ∃ U, (withSt p.st 2 p.st.length).length = U := ⟨_, rfl⟩
  have hUl : U ≤ 1048576 := by have := withSt_len p.st 2 p.st.length; omega
  have HU := Lib.hid hU
  rw [e1, e2, e3, e5, e6, e7, hU]
  obtain ⟨z, hz⟩ : ∃ z : Bool, (g1 && (g2 && (g3 && (decB ((p.ino.length : Int) = I) && (g5 && (g6 && (g7 && decB ((U : Int) ≤ Q)))))))) = z := ⟨_, rfl⟩
  rw [hz]
  have HZZ := Lib.hid hz
  clear hz e1 e2 e3 e5 e6 e7 hU
  obtain ⟨W0, hW0⟩ : ∃ y, y = (w.alloc (.cells #[.int .i64 T, .int .i64 P, .int .i64 I, .int .i64 Q] 37)).alloc (.cells #[.int .i64 p.ser, .slice a1 p.st.length c1, .slice a2 p.ino.length c2] 30) := ⟨_, rfl⟩
  rw [← hW0] at BD GD XD
  have HW0 := Lib.hid hW0
  have BN : Hid (Below w.heap.size w W0) := Lib.hid (by rw [hW0]; exact hb0)
  have LT : Hid (w.heap.size < W0.heap.size ∧ w.heap.size + 1 < W0.heap.size) := Lib.hid (by rw [hW0]; exact ⟨by simp; omega, by simp⟩)
  clear hW0 hb0
  have Q0 : Hid (∀ g : GrownW W0, Calls Try.prog 28 #[.agg #[.int .i64 T, .int .i64 P, .int .i64 I, .int .i64 Q]] g.wd fun e w' => e = .returned (.bool g1) ∧ Below g.wd.heap.size g.wd w') := Lib.hid (fun g => HGEO.out _)
  have Q1 : Hid (∀ g : GrownW W0, Calls Try.prog 29 #[.int .i64 p.ser, .int .i64 0, .int .i64 16777215] g.wd fun e w' => e = .returned (.bool g2) ∧ Below g.wd.heap.size g.wd w') := Lib.hid (fun g => (implIn_any p.ser 0 16777215 _).mono fun e w' ⟨he, hw⟩ => ⟨by rw [he, HSER.out], by rw [hw]; exact Below.refl _ _⟩)
  have Q2 : Hid (∀ g : GrownW W0, Calls Try.prog 30 #[.slice a1 p.st.length c1, .int .i64 P] g.wd fun e w' => e = .returned (.bool g3) ∧ Below g.wd.heap.size g.wd w') := Lib.hid (fun g => (implStOk_any a1 p.st.length c1 p.st P _ (srcI_of_rd (Cel.Rd.later (BN.out.trans (g.grown.mono BN.out.size)) _ _ HS1.out)) (by omega)).mono fun e w' ⟨he, hw⟩ => ⟨by rw [he, HST.out], by rw [hw]; exact Below.refl _ _⟩)
  have Q3 : Hid (∀ g : GrownW W0, Calls Try.prog 31 #[.agg #[.int .i64 p.ser, .slice a1 p.st.length c1, .slice a2 p.ino.length c2]] g.wd fun e w' => e = .returned (.bool g5) ∧ Below g.wd.heap.size g.wd w') := Lib.hid (fun g => (implInos_any p a1 c1 a2 c2 _ (Cel.Rd.later (BN.out.trans (g.grown.mono BN.out.size)) _ _ HS2.out) HZ.out HT.out).mono fun e w' ⟨he, hw⟩ => ⟨by rw [he, HINO.out], hw⟩)
  have Q4 : Hid (∀ g : GrownW W0, Calls Try.prog 32 #[.agg #[.int .i64 p.ser, .slice a1 p.st.length c1, .slice a2 p.ino.length c2]] g.wd fun e w' => e = .returned (.bool g6) ∧ Below g.wd.heap.size g.wd w') := Lib.hid (fun g => (implLinksOk_any p a1 c1 a2 c2 _ (Cel.Rd.later (BN.out.trans (g.grown.mono BN.out.size)) _ _ HS2.out) HZ.out HT.out).mono fun e w' ⟨he, hw⟩ => ⟨by rw [he, HLNK.out], hw⟩)
  have Q5 : Hid (∀ g : GrownW W0, Calls Try.prog 33 #[.agg #[.int .i64 p.ser, .slice a1 p.st.length c1, .slice a2 p.ino.length c2]] g.wd fun e w' => e = .returned (.bool g7) ∧ Below g.wd.heap.size g.wd w') := Lib.hid (fun g => (implUsersOk_any p a1 c1 a2 c2 _ (Cel.Rd.later (BN.out.trans (g.grown.mono BN.out.size)) _ _ HS1.out) (Cel.Rd.later (BN.out.trans (g.grown.mono BN.out.size)) _ _ HS2.out) HZ.out HT.out).mono fun e w' ⟨he, hw⟩ => ⟨by rw [he, HUSR.out], hw⟩)
  have c0 : W0.cell? ⟨w.heap.size, 0, none⟩ = some (.int .i64 T) := GD.out.c0
  have c1' : W0.cell? ⟨w.heap.size, 1, none⟩ = some (.int .i64 P) := GD.out.c1
  have c2' : W0.cell? ⟨w.heap.size, 2, none⟩ = some (.int .i64 I) := GD.out.c2
  have c3 : W0.cell? ⟨w.heap.size, 3, none⟩ = some (.int .i64 Q) := GD.out.c3
  have x0 : W0.cell? ⟨w.heap.size + 1, 0, none⟩ = some (.int .i64 p.ser) := XD.out.cell (j := 0) rfl
  have x1 : W0.cell? ⟨w.heap.size + 1, 1, none⟩ = some (.slice a1 p.st.length c1) := XD.out.cell (j := 1) rfl
  have x2 : W0.cell? ⟨w.heap.size + 1, 2, none⟩ = some (.slice a2 p.ino.length c2) := XD.out.cell (j := 2) rfl
  have y0 := GrownW.cell c0 LT.out.1
  have y1 := GrownW.cell c1' LT.out.1
  have y2 := GrownW.cell c2' LT.out.1
  have y3 := GrownW.cell c3 LT.out.1
  have y4 := GrownW.cell x0 LT.out.2
  have y5 := GrownW.cell x1 LT.out.2
  have y6 := GrownW.cell x2 LT.out.2
  clear c0 c1' c2' c3 x0 x1 x2
  have hN : ∃ b, decB ((p.ino.length : Int) = I) = b := ⟨_, rfl⟩
  obtain ⟨g4, e4⟩ := hN
  rw [e4] at HZZ
  have H4 : Hid (((p.ino.length : Int) == I) = g4) := Lib.hid (by
    rw [← e4, Bool.eq_iff_iff]
    simp only [beq_iff_eq, decB_iff])
  clear e4
  cases g1 with
  | false =>
    obtain rfl : false = z := HZZ.out
    have h4 := H4.out
    go_enter Try.func12, Try.ntmps12
    go_wp2
    rw [← HW0.out]
    refine wp_region_grown (by kernel_rfl) (by kernel_rfl) ?_
    repeat (go_big_quiet_step (first | (go_at_call 28; exact Calls.grown_of (Q0.out _)) | (go_at_call 29; exact Calls.grown_of (Q1.out _)) | (go_at_call 30; exact Calls.grown_of (Q2.out _)) | (go_at_call 31; exact Calls.grown_of (Q3.out _)) | (go_at_call 32; exact Calls.grown_of (Q4.out _)) | (go_at_call 33; exact Calls.grown_of (Q5.out _))))
    refine wpQuiet_nil ?_
    rintro _ ⟨gq, rfl⟩
    have BQ := Lib.hid (BN.out.trans (gq.grown.mono BN.out.size))
    clear y0 y1 y2 y3 y4 y5 y6
    go_wp2
    go_ret
    exact ⟨rfl, BQ.out⟩
  | true =>
    cases g2 with
    | false =>
      obtain rfl : false = z := HZZ.out
      have h4 := H4.out
      go_enter Try.func12, Try.ntmps12
      go_wp2
      rw [← HW0.out]
      refine wp_region_grown (by kernel_rfl) (by kernel_rfl) ?_
      repeat (go_big_quiet_step (first | (go_at_call 28; exact Calls.grown_of (Q0.out _)) | (go_at_call 29; exact Calls.grown_of (Q1.out _)) | (go_at_call 30; exact Calls.grown_of (Q2.out _)) | (go_at_call 31; exact Calls.grown_of (Q3.out _)) | (go_at_call 32; exact Calls.grown_of (Q4.out _)) | (go_at_call 33; exact Calls.grown_of (Q5.out _))))
      refine wpQuiet_nil ?_
      rintro _ ⟨gq, rfl⟩
      have BQ := Lib.hid (BN.out.trans (gq.grown.mono BN.out.size))
      clear y0 y1 y2 y3 y4 y5 y6
      go_wp2
      go_ret
      exact ⟨rfl, BQ.out⟩
    | true =>
      cases g3 with
      | false =>
        obtain rfl : false = z := HZZ.out
        have h4 := H4.out
        go_enter Try.func12, Try.ntmps12
        go_wp2
        rw [← HW0.out]
        refine wp_region_grown (by kernel_rfl) (by kernel_rfl) ?_
        repeat (go_big_quiet_step (first | (go_at_call 28; exact Calls.grown_of (Q0.out _)) | (go_at_call 29; exact Calls.grown_of (Q1.out _)) | (go_at_call 30; exact Calls.grown_of (Q2.out _)) | (go_at_call 31; exact Calls.grown_of (Q3.out _)) | (go_at_call 32; exact Calls.grown_of (Q4.out _)) | (go_at_call 33; exact Calls.grown_of (Q5.out _))))
        refine wpQuiet_nil ?_
        rintro _ ⟨gq, rfl⟩
        have BQ := Lib.hid (BN.out.trans (gq.grown.mono BN.out.size))
        clear y0 y1 y2 y3 y4 y5 y6
        go_wp2
        go_ret
        exact ⟨rfl, BQ.out⟩
      | true =>
        cases g4 with
        | false =>
          obtain rfl : false = z := HZZ.out
          have h4 := H4.out
          go_enter Try.func12, Try.ntmps12
          go_wp2
          rw [← HW0.out]
          refine wp_region_grown (by kernel_rfl) (by kernel_rfl) ?_
          repeat (go_big_quiet_step (first | (go_at_call 28; exact Calls.grown_of (Q0.out _)) | (go_at_call 29; exact Calls.grown_of (Q1.out _)) | (go_at_call 30; exact Calls.grown_of (Q2.out _)) | (go_at_call 31; exact Calls.grown_of (Q3.out _)) | (go_at_call 32; exact Calls.grown_of (Q4.out _)) | (go_at_call 33; exact Calls.grown_of (Q5.out _))))
          refine wpQuiet_nil ?_
          rintro _ ⟨gq, rfl⟩
          have BQ := Lib.hid (BN.out.trans (gq.grown.mono BN.out.size))
          clear y0 y1 y2 y3 y4 y5 y6
          go_wp2
          go_ret
          exact ⟨rfl, BQ.out⟩
        | true =>
          cases g5 with
          | false =>
            obtain rfl : false = z := HZZ.out
            have h4 := H4.out
            go_enter Try.func12, Try.ntmps12
            go_wp2
            rw [← HW0.out]
            refine wp_region_grown (by kernel_rfl) (by kernel_rfl) ?_
            repeat (go_big_quiet_step (first | (go_at_call 28; exact Calls.grown_of (Q0.out _)) | (go_at_call 29; exact Calls.grown_of (Q1.out _)) | (go_at_call 30; exact Calls.grown_of (Q2.out _)) | (go_at_call 31; exact Calls.grown_of (Q3.out _)) | (go_at_call 32; exact Calls.grown_of (Q4.out _)) | (go_at_call 33; exact Calls.grown_of (Q5.out _))))
            refine wpQuiet_nil ?_
            rintro _ ⟨gq, rfl⟩
            have BQ := Lib.hid (BN.out.trans (gq.grown.mono BN.out.size))
            clear y0 y1 y2 y3 y4 y5 y6
            go_wp2
            go_ret
            exact ⟨rfl, BQ.out⟩
          | true =>
            cases g6 with
            | false =>
              obtain rfl : false = z := HZZ.out
              have h4 := H4.out
              go_enter Try.func12, Try.ntmps12
              go_wp2
              rw [← HW0.out]
              refine wp_region_grown (by kernel_rfl) (by kernel_rfl) ?_
              repeat (go_big_quiet_step (first | (go_at_call 28; exact Calls.grown_of (Q0.out _)) | (go_at_call 29; exact Calls.grown_of (Q1.out _)) | (go_at_call 30; exact Calls.grown_of (Q2.out _)) | (go_at_call 31; exact Calls.grown_of (Q3.out _)) | (go_at_call 32; exact Calls.grown_of (Q4.out _)) | (go_at_call 33; exact Calls.grown_of (Q5.out _))))
              refine wpQuiet_nil ?_
              rintro _ ⟨gq, rfl⟩
              have BQ := Lib.hid (BN.out.trans (gq.grown.mono BN.out.size))
              clear y0 y1 y2 y3 y4 y5 y6
              go_wp2
              go_ret
              exact ⟨rfl, BQ.out⟩
            | true =>
              cases g7 with
              | false =>
                obtain rfl : false = z := HZZ.out
                have h4 := H4.out
                go_enter Try.func12, Try.ntmps12
                go_wp2
                rw [← HW0.out]
                refine wp_region_grown (by kernel_rfl) (by kernel_rfl) ?_
                repeat (go_big_quiet_step (first | (go_at_call 28; exact Calls.grown_of (Q0.out _)) | (go_at_call 29; exact Calls.grown_of (Q1.out _)) | (go_at_call 30; exact Calls.grown_of (Q2.out _)) | (go_at_call 31; exact Calls.grown_of (Q3.out _)) | (go_at_call 32; exact Calls.grown_of (Q4.out _)) | (go_at_call 33; exact Calls.grown_of (Q5.out _))))
                refine wpQuiet_nil ?_
                rintro _ ⟨gq, rfl⟩
                have BQ := Lib.hid (BN.out.trans (gq.grown.mono BN.out.size))
                clear y0 y1 y2 y3 y4 y5 y6
                go_wp2
                go_ret
                exact ⟨rfl, BQ.out⟩
              | true =>
                have HZ9 : Hid (decB ((U : Int) ≤ Q) = z) := Lib.hid HZZ.out
                have h4 := H4.out
                clear y0 y1 y2 y3 y4 y5 y6
                go_enter Try.func12, Try.ntmps12
                go_wp2
                rw [← HW0.out]
                go_region_held3 (fun w' => w'.cell? ⟨w.heap.size, 0, none⟩ = some (.int .i64 T) ∧ w'.cell? ⟨w.heap.size, 1, none⟩ = some (.int .i64 P) ∧ w'.cell? ⟨w.heap.size, 2, none⟩ = some (.int .i64 I) ∧ w'.cell? ⟨w.heap.size, 3, none⟩ = some (.int .i64 Q) ∧ w'.cell? ⟨w.heap.size + 1, 0, none⟩ = some (.int .i64 p.ser) ∧ w'.cell? ⟨w.heap.size + 1, 1, none⟩ = some (.slice a1 p.st.length c1) ∧ w'.cell? ⟨w.heap.size + 1, 2, none⟩ = some (.slice a2 p.ino.length c2))
                  (first
                    | exact ⟨GD.out.c0, GD.out.c1, GD.out.c2, GD.out.c3, XD.out.cell rfl, XD.out.cell rfl, XD.out.cell rfl⟩
                    | exact ⟨GE.out.c0, GE.out.c1, GE.out.c2, GE.out.c3, XE.out.cell rfl, XE.out.cell rfl, XE.out.cell rfl⟩
                    | exact ⟨GF.out.c0, GF.out.c1, GF.out.c2, GF.out.c3, XF.out.cell rfl, XF.out.cell rfl, XF.out.cell rfl⟩
                    | exact ⟨GG.out.c0, GG.out.c1, GG.out.c2, GG.out.c3, XG.out.cell rfl, XG.out.cell rfl, XG.out.cell rfl⟩
                    | exact ⟨GH.out.c0, GH.out.c1, GH.out.c2, GH.out.c3, XH.out.cell rfl, XH.out.cell rfl, XH.out.cell rfl⟩
                    | exact ⟨GI.out.c0, GI.out.c1, GI.out.c2, GI.out.c3, XI.out.cell rfl, XI.out.cell rfl, XI.out.cell rfl⟩
                    | go_keep)
                  (first
                  | (go_at_call 28; (with_reducible refine (HGEO.out _).mono ?_); rintro e w1 ⟨rfl, hb⟩; have GE := Lib.hid (GD.out.later hb); have XE := Lib.hid (XD.out.later hb); have BE : Hid (Below w.heap.size w w1) := Lib.hid (BD.out.trans (hb.mono BD.out.size)); clear hb)
                  | (go_at_call 29; (with_reducible refine (implIn_any p.ser 0 16777215 _).mono ?_); rw [HSER.out]; rintro e w2 ⟨rfl, rfl⟩)
                  | (go_at_call 30; (with_reducible refine (implStOk_any a1 p.st.length c1 p.st P _ (srcI_of_rd (Cel.Rd.later BE.out _ _ HS1.out)) (by omega)).mono ?_); rw [HST.out]; rintro e w3 ⟨rfl, rfl⟩)
                  | (go_at_call 31; (with_reducible refine (implInos_any p a1 c1 a2 c2 _ (Cel.Rd.later BE.out _ _ HS2.out) HZ.out HT.out).mono ?_); rw [HINO.out]; rintro e w4 ⟨rfl, hb⟩; have GF := Lib.hid (GE.out.later hb); have XF := Lib.hid (XE.out.later hb); have BF : Hid (Below w.heap.size w w4) := Lib.hid (BE.out.trans (hb.mono BE.out.size)); clear hb)
                  | (go_at_call 32; (with_reducible refine (implLinksOk_any p a1 c1 a2 c2 _ (Cel.Rd.later BF.out _ _ HS2.out) HZ.out HT.out).mono ?_); rw [HLNK.out]; rintro e w5 ⟨rfl, hb⟩; have GG := Lib.hid (GF.out.later hb); have XG := Lib.hid (XF.out.later hb); have BG : Hid (Below w.heap.size w w5) := Lib.hid (BF.out.trans (hb.mono BF.out.size)); clear hb)
                  | (go_at_call 33; (with_reducible refine (implUsersOk_any p a1 c1 a2 c2 _ (Cel.Rd.later BG.out _ _ HS1.out) (Cel.Rd.later BG.out _ _ HS2.out) HZ.out HT.out).mono ?_); rw [HUSR.out]; rintro e w6 ⟨rfl, hb⟩; have GH := Lib.hid (GG.out.later hb); have XH := Lib.hid (XG.out.later hb); have BH : Hid (Below w.heap.size w w6) := Lib.hid (BG.out.trans (hb.mono BG.out.size)); clear hb)
                  | (go_at_call 34; (with_reducible refine (implPagesWith_any a1 p.st.length c1 p.st 2 _ (srcI_of_rd (Cel.Rd.later BH.out _ _ HS1.out)) (by omega)).mono ?_); rintro e w7 ⟨v7, rfl, ho, hb⟩; rw [HU.out] at ho; obtain ⟨a7, c7, rfl, _⟩ := ownE_form ho; clear ho; have GI := Lib.hid (GH.out.later hb); have XI := Lib.hid (XH.out.later hb); have BI : Hid (Below w.heap.size w w7) := Lib.hid (BH.out.trans (hb.mono BH.out.size)); clear hb))
                by_cases hq : (U : Int) ≤ Q
                · have h9 := HZ9.out
                  rw [decB_yes hq] at h9
                  subst h9
                  go_wp2
                  go_ret
                  exact ⟨ret_boolk (by first | rfl | exact decide_eq_true hq), BI.out⟩
                · have h9 := HZ9.out
                  rw [decB_no hq] at h9
                  subst h9
                  have hq' : decide ((U : Int) ≤ Q) = false := decide_eq_false hq
                  go_wp2
                  go_ret
                  exact ⟨ret_boolk (by first | rfl | exact hq'), BI.out⟩
end Go.Proofs.Ytmkchilhnmkhkab
namespace Go.Proofs.Ytmkchilhnmkhkab
open Go.RowKit

set_option maxRecDepth 100000 in
set_option maxHeartbeats 1000000 in
theorem toGeo_any (T P I Q : Int) (w : World) : Calls Try.prog 11 #[.agg #[.int .i64 T, .int .i64 P, .int .i64 I, .int .i64 Q]] w fun e w' => e = .returned (.agg #[.int .i64 T, .int .i64 P, .int .i64 I, .int .i64 Q]) ∧ Below w.heap.size w w' := by
  go_enter Try.func11, Try.ntmps11
  go_wp2
  refine bodyPost_ret (v := .agg #[.int .i64 T, .int .i64 P, .int .i64 I, .int .i64 Q]) ?_ rfl ⟨rfl, ?_⟩
  · simp [results, Try.results11, go_sem]
  · exact (((Below.refl _ _).alloc (Nat.le_refl _) _).alloc (by simp) _).alloc (by simp; omega) _
end Go.Proofs.Ytmkchilhnmkhkab

namespace Go.Proofs.Ytmkchilhnmkhkab
open Go.RowKit Go.Proofs.Ytmkchilhnmkhkab.Parts Go.Proofs.Ytmkchilhnmkhkab.Hexa Go.Proofs.Ytmkchilhnmkhkab.Byt

set_option maxRecDepth 100000 in
set_option maxHeartbeats 4000000 in
theorem partOk_law (Tg Pg Ig Qg : Int) (p : PartR) (a1_p : Option Addr) (c1_p : Nat) (a2_p : Option Addr) (c2_p : Nat) (w : World) (ht_p : TyL (cPart.cels p)) (h1_p : (celRow cInt p.st).Rd w (.slice a1_p p.st.length c1_p)) (h2_p : (celRow cIno p.ino).Rd w (.slice a2_p p.ino.length c2_p)) :
    Calls Try.prog 4 #[.agg #[.int .i64 Tg, .int .i64 Pg, .int .i64 Ig, .int .i64 Qg], .agg #[.int .i64 p.ser, .slice a1_p p.st.length c1_p, .slice a2_p p.ino.length c2_p]] w fun e w' => e = .returned (.bool true) ∧ Below w.heap.size w w' := by
  have HT_p := Lib.hid ht_p
  clear ht_p
  have HS1_p := Lib.hid h1_p
  clear h1_p
  have HS2_p := Lib.hid h2_p
  clear h2_p
  obtain ⟨rv, hrv⟩ : ∃ b, ptB Tg Pg Ig Qg p = b := ⟨_, rfl⟩
  have HRV := Lib.hid hrv
  clear hrv
  have HTI : Hid (TyL (celsE cIno p.ino)) := Lib.hid HT_p.out.2.2.1.2
  have Xg_0 := Lib.hid ((Bk.alloc w #[.int .i64 Tg, .int .i64 Pg, .int .i64 Ig, .int .i64 Qg] 35).later (below_bk (w.alloc (.cells #[.int .i64 Tg, .int .i64 Pg, .int .i64 Ig, .int .i64 Qg] 35)) (.cells #[.int .i64 p.ser, .slice a1_p p.st.length c1_p, .slice a2_p p.ino.length c2_p] 25)))
  have Xp_0 : Hid (Bk ((w.alloc (.cells #[.int .i64 Tg, .int .i64 Pg, .int .i64 Ig, .int .i64 Qg] 35)).alloc (.cells #[.int .i64 p.ser, .slice a1_p p.st.length c1_p, .slice a2_p p.ino.length c2_p] 25)) (w.heap.size + 1) #[.int .i64 p.ser, .slice a1_p p.st.length c1_p, .slice a2_p p.ino.length c2_p] 25) := Lib.hid (by have h := (Bk.alloc (w.alloc (.cells #[.int .i64 Tg, .int .i64 Pg, .int .i64 Ig, .int .i64 Qg] 35)) #[.int .i64 p.ser, .slice a1_p p.st.length c1_p, .slice a2_p p.ino.length c2_p] 25); simpa using h)
  have BW_0 := Lib.hid ((below_bk w (.cells #[.int .i64 Tg, .int .i64 Pg, .int .i64 Ig, .int .i64 Qg] 35)).alloc (by simp) (.cells #[.int .i64 p.ser, .slice a1_p p.st.length c1_p, .slice a2_p p.ino.length c2_p] 25))
  go_enter Try.func4, Try.ntmps4
  have dg0 := Xg_0.out.cell (j := 0) rfl
  have dg1 := Xg_0.out.cell (j := 1) rfl
  have dg2 := Xg_0.out.cell (j := 2) rfl
  have dg3 := Xg_0.out.cell (j := 3) rfl
  have dp0 := Xp_0.out.cell (j := 0) rfl
  have dp1 := Xp_0.out.cell (j := 1) rfl
  have dp2 := Xp_0.out.cell (j := 2) rfl
  go_wp2_with fail
  obtain ⟨V0, hV⟩ : ∃ y, y = ((w.alloc (.cells #[.int .i64 Tg, .int .i64 Pg, .int .i64 Ig, .int .i64 Qg] 35)).alloc (.cells #[.int .i64 p.ser, .slice a1_p p.st.length c1_p, .slice a2_p p.ino.length c2_p] 25)) := ⟨_, rfl⟩
  clear dg0 dg1 dg2 dg3 dp0 dp1 dp2
  rw [← hV] at Xg_0 Xp_0 BW_0 ⊢
  have SZ_V0 : Hid (w.heap.size + 2 ≤ V0.heap.size) := Lib.hid (by rw [hV]; simp)
  clear hV
  refine (szPart_st p a1_p c1_p a2_p c2_p 1048576 _ (by decide) (by decide) (Cel.Rd.later BW_0.out _ _ HS1_p.out) (Cel.Rd.later BW_0.out _ _ HS2_p.out) HT_p.out).mono ?_
  rintro e w1 ⟨l_p, rfl, hr, hb⟩
  have Xg_1 := Lib.hid (Xg_0.out.later hb)
  have Xp_1 := Lib.hid (Xp_0.out.later hb)
  have BW_1 : Hid (Below w.heap.size w w1) := Lib.hid (BW_0.out.trans (hb.mono BW_0.out.size))
  have SZ_w1 : Hid (V0.heap.size ≤ w1.heap.size) := Lib.hid hb.size
  clear hb Xg_0 Xp_0 BW_0
  rcases hr with hr | ⟨hl0, hl1⟩
  · go_wp2
    go_ret
    exact ⟨rfl, BW_1.out⟩
  have HZ_p : Hid (szL (cPart.cels p) ≤ 1048576) := Lib.hid (by omega)
  have HZB_p : Hid (szL (cPart.cels p) ≤ 100000000) := Lib.hid (by omega)
  have hq_p : ¬ (l_p < 0) := by omega
  have hp_p : l_p ≤ 1048576 := by omega
  clear hl1
  have dg0 := Xg_1.out.cell (j := 0) rfl
  have dg1 := Xg_1.out.cell (j := 1) rfl
  have dg2 := Xg_1.out.cell (j := 2) rfl
  have dg3 := Xg_1.out.cell (j := 3) rfl
  have dp0 := Xp_1.out.cell (j := 0) rfl
  have dp1 := Xp_1.out.cell (j := 1) rfl
  have dp2 := Xp_1.out.cell (j := 2) rfl
  go_upto_region 5 with fail
  clear dg0 dg1 dg2 dg3 dp0 dp1 dp2
  go_cut [6] (fun sv wx => sv = .bool rv ∧ Below w1.heap.size w1 wx)
  case first =>
    have Zg := Lib.hid Xg_1.out.drew
    have Zp := Lib.hid Xp_1.out.drew
    have BD : Hid (Below w1.heap.size w1 w1.drew) := Lib.hid (Below.refl _ _).drew
    go_region_held3 (fun w' => w'.cell? ⟨w.heap.size, 0, none⟩ = some (.int .i64 Tg) ∧ w'.cell? ⟨w.heap.size, 1, none⟩ = some (.int .i64 Pg) ∧ w'.cell? ⟨w.heap.size, 2, none⟩ = some (.int .i64 Ig) ∧ w'.cell? ⟨w.heap.size, 3, none⟩ = some (.int .i64 Qg) ∧ w'.cell? ⟨w.heap.size + 1, 0, none⟩ = some (.int .i64 p.ser) ∧ w'.cell? ⟨w.heap.size + 1, 1, none⟩ = some (.slice a1_p p.st.length c1_p) ∧ w'.cell? ⟨w.heap.size + 1, 2, none⟩ = some (.slice a2_p p.ino.length c2_p))
      (first
        | exact ⟨Zg.out.cell rfl, Zg.out.cell rfl, Zg.out.cell rfl, Zg.out.cell rfl, Zp.out.cell rfl, Zp.out.cell rfl, Zp.out.cell rfl⟩
        | exact ⟨(Zg.out.later (D01_1.out)).cell rfl, (Zg.out.later (D01_1.out)).cell rfl, (Zg.out.later (D01_1.out)).cell rfl, (Zg.out.later (D01_1.out)).cell rfl, (Zp.out.later (D01_1.out)).cell rfl, (Zp.out.later (D01_1.out)).cell rfl, (Zp.out.later (D01_1.out)).cell rfl⟩
        | exact ⟨(Zg.out.later (D01_2.out)).cell rfl, (Zg.out.later (D01_2.out)).cell rfl, (Zg.out.later (D01_2.out)).cell rfl, (Zg.out.later (D01_2.out)).cell rfl, (Zp.out.later (D01_2.out)).cell rfl, (Zp.out.later (D01_2.out)).cell rfl, (Zp.out.later (D01_2.out)).cell rfl⟩
        | exact ⟨(Zg.out.later (D01_3.out)).cell rfl, (Zg.out.later (D01_3.out)).cell rfl, (Zg.out.later (D01_3.out)).cell rfl, (Zg.out.later (D01_3.out)).cell rfl, (Zp.out.later (D01_3.out)).cell rfl, (Zp.out.later (D01_3.out)).cell rfl, (Zp.out.later (D01_3.out)).cell rfl⟩
        | exact ⟨(Zg.out.later (D10_1.out)).cell rfl, (Zg.out.later (D10_1.out)).cell rfl, (Zg.out.later (D10_1.out)).cell rfl, (Zg.out.later (D10_1.out)).cell rfl, (Zp.out.later (D10_1.out)).cell rfl, (Zp.out.later (D10_1.out)).cell rfl, (Zp.out.later (D10_1.out)).cell rfl⟩
        | exact ⟨(Zg.out.later (D10_2.out)).cell rfl, (Zg.out.later (D10_2.out)).cell rfl, (Zg.out.later (D10_2.out)).cell rfl, (Zg.out.later (D10_2.out)).cell rfl, (Zp.out.later (D10_2.out)).cell rfl, (Zp.out.later (D10_2.out)).cell rfl, (Zp.out.later (D10_2.out)).cell rfl⟩
        | exact ⟨(Zg.out.later (D10_3.out)).cell rfl, (Zg.out.later (D10_3.out)).cell rfl, (Zg.out.later (D10_3.out)).cell rfl, (Zg.out.later (D10_3.out)).cell rfl, (Zp.out.later (D10_3.out)).cell rfl, (Zp.out.later (D10_3.out)).cell rfl, (Zp.out.later (D10_3.out)).cell rfl⟩
        | go_keep)
      (first
        | (go_at_call 10; (with_reducible refine (specPartOk_any Tg Pg Ig Qg p a1_01p c1_01p a2_01p c2_01p _ (cPart_un (O01p_2.out.rd)).1 (cPart_un (O01p_2.out.rd)).2 HZ_p.out HTI.out).mono ?_); rw [HRV.out]; rintro e wz01_3 ⟨rfl, hb⟩; have D01_3 : Hid (Below w1.drew.heap.size w1.drew wz01_3) := Lib.hid (D01_2.out.trans (hb.mono D01_2.out.size)); have B01_3 : Hid (Below w1.heap.size w1 wz01_3) := Lib.hid (BD.out.trans (D01_3.out.mono BD.out.size)); clear hb)
        | (go_at_call 10; (with_reducible refine (specPartOk_any Tg Pg Ig Qg p a1_10p c1_10p a2_10p c2_10p _ (cPart_un (O10p_2.out.rd)).1 (cPart_un (O10p_2.out.rd)).2 HZ_p.out HTI.out).mono ?_); rw [HRV.out]; rintro e wz10_3 ⟨rfl, hb⟩; have D10_3 : Hid (Below w1.drew.heap.size w1.drew wz10_3) := Lib.hid (D10_2.out.trans (hb.mono D10_2.out.size)); have B10_3 : Hid (Below w1.heap.size w1 wz10_3) := Lib.hid (BD.out.trans (D10_3.out.mono BD.out.size)); clear hb)
        | (go_at_call 7; (with_reducible refine (toPart_st p a1_p c1_p a2_p c2_p _ (Cel.Rd.later (BW_1.out.trans (B01_1.out.mono BW_1.out.size)) _ _ HS1_p.out) (Cel.Rd.later (BW_1.out.trans (B01_1.out.mono BW_1.out.size)) _ _ HS2_p.out) HZ_p.out).mono ?_); rintro e wz01_2 ⟨vs, rfl, ho, hb⟩; obtain ⟨a1_01p, c1_01p, a2_01p, c2_01p, rfl, _, _⟩ := cPart_form ho.rd; have O01p_2 := Lib.hid ho; have D01_2 : Hid (Below w1.drew.heap.size w1.drew wz01_2) := Lib.hid (D01_1.out.trans (hb.mono D01_1.out.size)); have B01_2 : Hid (Below w1.heap.size w1 wz01_2) := Lib.hid (BD.out.trans (D01_2.out.mono BD.out.size)); clear hb ho)
        | (go_at_call 11; (with_reducible refine (toGeo_any Tg Pg Ig Qg _).mono ?_); rintro e wz10_2 ⟨rfl, hb⟩; have D10_2 : Hid (Below w1.drew.heap.size w1.drew wz10_2) := Lib.hid (D10_1.out.trans (hb.mono D10_1.out.size)); have B10_2 : Hid (Below w1.heap.size w1 wz10_2) := Lib.hid (BD.out.trans (D10_2.out.mono BD.out.size)); have O10p_2 := Lib.hid (O10p_1.out.later hb); clear hb)
        | (go_at_call 11; (with_reducible refine (toGeo_any Tg Pg Ig Qg _).mono ?_); rintro e wz01_1 ⟨rfl, hb⟩; have D01_1 : Hid (Below w1.drew.heap.size w1.drew wz01_1) := Lib.hid (hb); have B01_1 : Hid (Below w1.heap.size w1 wz01_1) := Lib.hid (BD.out.trans (D01_1.out.mono BD.out.size)); clear hb)
        | (go_at_call 7; (with_reducible refine (toPart_st p a1_p c1_p a2_p c2_p _ (Cel.Rd.later (BW_1.out.trans (BD.out.mono BW_1.out.size)) _ _ HS1_p.out) (Cel.Rd.later (BW_1.out.trans (BD.out.mono BW_1.out.size)) _ _ HS2_p.out) HZ_p.out).mono ?_); rintro e wz10_1 ⟨vs, rfl, ho, hb⟩; obtain ⟨a1_10p, c1_10p, a2_10p, c2_10p, rfl, _, _⟩ := cPart_form ho.rd; have O10p_1 := Lib.hid ho; have D10_1 : Hid (Below w1.drew.heap.size w1.drew wz10_1) := Lib.hid (hb); have B10_1 : Hid (Below w1.heap.size w1 wz10_1) := Lib.hid (BD.out.trans (D10_1.out.mono BD.out.size)); clear hb ho))
    all_goals
      go_wp2
      go_meet
      first | exact ⟨rfl, B01_3.out⟩ | exact ⟨rfl, B10_3.out⟩
  case rest =>
  obtain ⟨rfl, hb⟩ := hcut
  obtain ⟨w2, hnew⟩ : ∃ y, y = wc := ⟨_, rfl⟩
  rw [← hnew] at hb ⊢
  clear hnew
  have Xg_2 := Lib.hid (Xg_1.out.later hb)
  have Xp_2 := Lib.hid (Xp_1.out.later hb)
  have BW_2 : Hid (Below w.heap.size w w2) := Lib.hid (BW_1.out.trans (hb.mono BW_1.out.size))
  have SZ_w2 : Hid (w1.heap.size ≤ w2.heap.size) := Lib.hid hb.size
  clear hb Xg_1 Xp_1 BW_1
  have dg0 := Xg_2.out.cell (j := 0) rfl
  have dg1 := Xg_2.out.cell (j := 1) rfl
  have dg2 := Xg_2.out.cell (j := 2) rfl
  have dg3 := Xg_2.out.cell (j := 3) rfl
  have dp0 := Xp_2.out.cell (j := 0) rfl
  have dp1 := Xp_2.out.cell (j := 1) rfl
  have dp2 := Xp_2.out.cell (j := 2) rfl
  go_wp2_with fail
  clear dg0 dg1 dg2 dg3 dp0 dp1 dp2
  refine (toPart_st p a1_p c1_p a2_p c2_p _ (Cel.Rd.later BW_2.out _ _ HS1_p.out) (Cel.Rd.later BW_2.out _ _ HS2_p.out) HZ_p.out).mono ?_
  rintro e w3 ⟨vs, rfl, ho, hb⟩
  have Xg_3 := Lib.hid (Xg_2.out.later hb)
  have Xp_3 := Lib.hid (Xp_2.out.later hb)
  have BW_3 : Hid (Below w.heap.size w w3) := Lib.hid (BW_2.out.trans (hb.mono BW_2.out.size))
  have SZ_w3 : Hid (w2.heap.size ≤ w3.heap.size) := Lib.hid hb.size
  clear hb Xg_2 Xp_2 BW_2
  obtain ⟨a1_x, c1_x, a2_x, c2_x, rfl, _, _⟩ := cPart_form ho.rd
  have Ox_3x := Lib.hid ho
  clear ho
  have hba := below_bk w3 (.cells #[.int .i64 p.ser, .slice a1_x p.st.length c1_x, .slice a2_x p.ino.length c2_x] 30)
  have Xg_4 := Lib.hid (Xg_3.out.later hba)
  have Xp_4 := Lib.hid (Xp_3.out.later hba)
  have Ox_4 := Lib.hid (Ox_3x.out.later hba)
  have BW_4 : Hid (Below w.heap.size w (w3.alloc (.cells #[.int .i64 p.ser, .slice a1_x p.st.length c1_x, .slice a2_x p.ino.length c2_x] 30))) := Lib.hid (BW_3.out.trans (hba.mono BW_3.out.size))
  have Xx_4 := Lib.hid (Bk.alloc w3 #[.int .i64 p.ser, .slice a1_x p.st.length c1_x, .slice a2_x p.ino.length c2_x] 30)
  clear hba Xg_3 Xp_3 Ox_3x BW_3
  have dg0 := Xg_4.out.cell (j := 0) rfl
  have dg1 := Xg_4.out.cell (j := 1) rfl
  have dg2 := Xg_4.out.cell (j := 2) rfl
  have dg3 := Xg_4.out.cell (j := 3) rfl
  have dp0 := Xp_4.out.cell (j := 0) rfl
  have dp1 := Xp_4.out.cell (j := 1) rfl
  have dp2 := Xp_4.out.cell (j := 2) rfl
  have dx0 := Xx_4.out.cell (j := 0) rfl
  have dx1 := Xx_4.out.cell (j := 1) rfl
  have dx2 := Xx_4.out.cell (j := 2) rfl
  go_upto_region 7 with fail
  clear dg0 dg1 dg2 dg3 dp0 dp1 dp2 dx0 dx1 dx2
  obtain ⟨V3, hV⟩ : ∃ y, y = (w3.alloc (.cells #[.int .i64 p.ser, .slice a1_x p.st.length c1_x, .slice a2_x p.ino.length c2_x] 30)) := ⟨_, rfl⟩
  rw [← hV] at Xg_4 Xp_4 Xx_4 Ox_4 BW_4 ⊢
  have SZ_V3 : Hid (w3.heap.size + 1 ≤ V3.heap.size) := Lib.hid (by rw [hV]; simp)
  clear hV
  go_cut [8] (fun sv wx => sv = .bool rv ∧ Below V3.heap.size V3 wx)
  case first =>
    have Zg := Lib.hid Xg_4.out.drew
    have Zp := Lib.hid Xp_4.out.drew
    have Zx := Lib.hid Xx_4.out.drew
    have BD : Hid (Below V3.heap.size V3 V3.drew) := Lib.hid (Below.refl _ _).drew
    go_region_held3 (fun w' => w'.cell? ⟨w.heap.size, 0, none⟩ = some (.int .i64 Tg) ∧ w'.cell? ⟨w.heap.size, 1, none⟩ = some (.int .i64 Pg) ∧ w'.cell? ⟨w.heap.size, 2, none⟩ = some (.int .i64 Ig) ∧ w'.cell? ⟨w.heap.size, 3, none⟩ = some (.int .i64 Qg) ∧ w'.cell? ⟨w.heap.size + 1, 0, none⟩ = some (.int .i64 p.ser) ∧ w'.cell? ⟨w.heap.size + 1, 1, none⟩ = some (.slice a1_p p.st.length c1_p) ∧ w'.cell? ⟨w.heap.size + 1, 2, none⟩ = some (.slice a2_p p.ino.length c2_p) ∧ w'.cell? ⟨w3.heap.size, 0, none⟩ = some (.int .i64 p.ser) ∧ w'.cell? ⟨w3.heap.size, 1, none⟩ = some (.slice a1_x p.st.length c1_x) ∧ w'.cell? ⟨w3.heap.size, 2, none⟩ = some (.slice a2_x p.ino.length c2_x))
      (first
        | exact ⟨Zg.out.cell rfl, Zg.out.cell rfl, Zg.out.cell rfl, Zg.out.cell rfl, Zp.out.cell rfl, Zp.out.cell rfl, Zp.out.cell rfl, Zx.out.cell rfl, Zx.out.cell rfl, Zx.out.cell rfl⟩
        | exact ⟨(Zg.out.later (D0_1.out)).cell rfl, (Zg.out.later (D0_1.out)).cell rfl, (Zg.out.later (D0_1.out)).cell rfl, (Zg.out.later (D0_1.out)).cell rfl, (Zp.out.later (D0_1.out)).cell rfl, (Zp.out.later (D0_1.out)).cell rfl, (Zp.out.later (D0_1.out)).cell rfl, (Zx.out.later (D0_1.out)).cell rfl, (Zx.out.later (D0_1.out)).cell rfl, (Zx.out.later (D0_1.out)).cell rfl⟩
        | exact ⟨(Zg.out.later (D0_2.out)).cell rfl, (Zg.out.later (D0_2.out)).cell rfl, (Zg.out.later (D0_2.out)).cell rfl, (Zg.out.later (D0_2.out)).cell rfl, (Zp.out.later (D0_2.out)).cell rfl, (Zp.out.later (D0_2.out)).cell rfl, (Zp.out.later (D0_2.out)).cell rfl, (Zx.out.later (D0_2.out)).cell rfl, (Zx.out.later (D0_2.out)).cell rfl, (Zx.out.later (D0_2.out)).cell rfl⟩
        | go_keep)
      (first
        | (go_at_call 12; (with_reducible refine (implPartOk_any Tg Pg Ig Qg p a1_x c1_x a2_x c2_x _ (Cel.Rd.later B0_1.out _ _ (cPart_un Ox_4.out.rd).1) (Cel.Rd.later B0_1.out _ _ (cPart_un Ox_4.out.rd).2) HZ_p.out HTI.out).mono ?_); rw [HRV.out]; rintro e wz0_2 ⟨rfl, hb⟩; have D0_2 : Hid (Below V3.drew.heap.size V3.drew wz0_2) := Lib.hid (D0_1.out.trans (hb.mono D0_1.out.size)); have B0_2 : Hid (Below V3.heap.size V3 wz0_2) := Lib.hid (BD.out.trans (D0_2.out.mono BD.out.size)); clear hb)
        | (go_at_call 11; (with_reducible refine (toGeo_any Tg Pg Ig Qg _).mono ?_); rintro e wz0_1 ⟨rfl, hb⟩; have D0_1 : Hid (Below V3.drew.heap.size V3.drew wz0_1) := Lib.hid (hb); have B0_1 : Hid (Below V3.heap.size V3 wz0_1) := Lib.hid (BD.out.trans (D0_1.out.mono BD.out.size)); clear hb))
    all_goals
      go_wp2
      go_meet
      first | exact ⟨rfl, B0_2.out⟩
  case rest =>
  obtain ⟨rfl, hb⟩ := hcut
  obtain ⟨w4, hnew⟩ : ∃ y, y = wc := ⟨_, rfl⟩
  rw [← hnew] at hb ⊢
  clear hnew
  have Xg_5 := Lib.hid (Xg_4.out.later hb)
  have Xp_5 := Lib.hid (Xp_4.out.later hb)
  have Xx_5 := Lib.hid (Xx_4.out.later hb)
  have Ox_5 := Lib.hid (Ox_4.out.later hb)
  have BW_5 : Hid (Below w.heap.size w w4) := Lib.hid (BW_4.out.trans (hb.mono BW_4.out.size))
  have SZ_w4 : Hid (V3.heap.size ≤ w4.heap.size) := Lib.hid hb.size
  clear hb Xg_4 Xp_4 Xx_4 Ox_4 BW_4
  go_wp2
  have XD := Lib.hid Xx_5.out.drew
  have AD := Lib.hid Xp_5.out.drew
  have BD := Lib.hid BW_5.out.drew
  have OD : Hid (Objs w4.drew w2.heap.size w3.heap.size _ _) := Lib.hid (Ox_5.out.later (Below.refl _ _).drew)
  have YDg := Lib.hid Xg_5.out.drew
  go_region_held3 (fun w' => w'.cell? ⟨w3.heap.size, 0, none⟩ = some (.int .i64 p.ser) ∧ w'.cell? ⟨w3.heap.size, 1, none⟩ = some (.slice a1_x p.st.length c1_x) ∧ w'.cell? ⟨w3.heap.size, 2, none⟩ = some (.slice a2_x p.ino.length c2_x) ∧ w'.cell? ⟨w.heap.size + 1, 0, none⟩ = some (.int .i64 p.ser) ∧ w'.cell? ⟨w.heap.size + 1, 1, none⟩ = some (.slice a1_p p.st.length c1_p) ∧ w'.cell? ⟨w.heap.size + 1, 2, none⟩ = some (.slice a2_p p.ino.length c2_p))
    (first
      | exact ⟨XD.out.cell rfl, XD.out.cell rfl, XD.out.cell rfl, AD.out.cell rfl, AD.out.cell rfl, AD.out.cell rfl⟩
      | exact ⟨XE.out.cell rfl, XE.out.cell rfl, XE.out.cell rfl, AE.out.cell rfl, AE.out.cell rfl, AE.out.cell rfl⟩
      | exact ⟨XF.out.cell rfl, XF.out.cell rfl, XF.out.cell rfl, AF.out.cell rfl, AF.out.cell rfl, AF.out.cell rfl⟩
      | go_keep)
    (first
      | (go_at_call 7; (with_reducible refine (toPart_st p a1_p c1_p a2_p c2_p _ (Cel.Rd.later BD.out _ _ HS1_p.out) (Cel.Rd.later BD.out _ _ HS2_p.out) HZ_p.out).mono ?_); rintro e wa6 ⟨vs, rfl, ho, hb⟩; obtain ⟨a1_z9, c1_z9, a2_z9, c2_z9, rfl, q1, q2⟩ := cPart_form ho.rd; have XE := Lib.hid (XD.out.later hb); have AE := Lib.hid (AD.out.later hb); have OE := Lib.hid (OD.out.later hb); have BE : Hid (Below w.heap.size w wa6) := Lib.hid (BD.out.trans (hb.mono BD.out.size)); have SZ_wa6 : Hid (w4.heap.size ≤ wa6.heap.size) := Lib.hid hb.size; have YEg := Lib.hid (YDg.out.later hb); clear hb ho)
      | (go_at_call 9; (with_reducible refine (eqPart_st p a1_x c1_x a2_x c2_x a1_z9 c1_z9 a2_z9 c2_z9 _ (cPart_un OE.out.rd).1 (cPart_un OE.out.rd).2 q1 q2 HZB_p.out).mono ?_); rintro e wb6 ⟨rfl, hb⟩; have XF := Lib.hid (XE.out.later hb); have AF := Lib.hid (AE.out.later hb); have OF := Lib.hid (OE.out.later hb); have BF : Hid (Below w.heap.size w wb6) := Lib.hid (BE.out.trans (hb.mono BE.out.size)); have SZ_wb6 : Hid (wa6.heap.size ≤ wb6.heap.size) := Lib.hid hb.size; have YFg := Lib.hid (YEg.out.later hb); clear hb))
  have Xx_6 := XF
  have Xp_6 := AF
  have BW_6 := BF
  have Ox_6 := OF
  have Xg_6 := YFg
  clear Xg_5 Xp_5 Xx_5 Ox_5 BW_5 XD XE XF AD AE AF BD BE BF OD OE OF YDg YEg YFg
  go_wp2
  go_ret
  exact ⟨rfl, BW_6.out⟩
end Go.Proofs.Ytmkchilhnmkhkab
namespace Go.Proofs.Ytmkchilhnmkhkab
open Go.Deep Go.ChangeShapes Go.WideShapes Go.RowKit

theorem add_at1 (a : Addr) (k : Nat) (h : a.spot = none) : a.add k = ⟨a.block, a.off + k, none⟩ := by
  obtain ⟨b, o, s⟩ := a
  simp only at h
  subst h
  unfold Addr.add
  split <;> simp_all
/-- A row of elements that came in, for whatever element. -/
theorem row_of_cells {α : Type} [Inhabited α] (E : Enc α) {W : World} {ad : Addr} {len : Nat} (h0 : 0 < E.k) (each : ∀ i, i < len → ∃ s : α, W.cells? 0 (ad.add (i * E.k)) E.k = some (E.cells s)) :
    ∃ L : List α, SrcE E W (some ad) len L ∧ (∀ i, i < len → W.cells? 0 (ad.add (i * E.k)) E.k = some (E.cells (L.getD i default))) := by
  obtain ⟨S, hS⟩ := choose_lt each
  have hget : ∀ i, i < len → ((List.range len).map S).getD i default = S i := fun i hi => by simp [List.getD, hi]
  refine ⟨(List.range len).map S, ⟨by simp, fun j hj => ?_⟩, fun i hi => by rw [hget i hi]; exact hS i hi⟩
  rw [hget j hj]
  have hj3 := (World.cells?_some (hS j hj)).2.2
  have e0 := hj3 0 h0
  have hlen := E.len (S j)
  rw [show (E.cells (S j))[0]? = some ((E.cells (S j))[0]'(by omega)) from List.getElem?_eq_getElem _] at e0
  have h00 := (World.cells?_some (hS 0 (by omega))).2.2 0 h0
  have hlen0 := E.len (S 0)
  rw [show (E.cells (S 0))[0]? = some ((E.cells (S 0))[0]'(by omega)) from List.getElem?_eq_getElem _] at h00
  have hspot : ad.spot = none := by
    have := World.cell?_spot h00
    simpa [Addr.add] using this
  simp only [add_add] at e0 hj3
  rw [add_at1 ad _ hspot] at e0
  have hb : ad.block < W.heap.size := by
    rcases Nat.lt_or_ge ad.block W.heap.size with hlt | hge
    · exact hlt
    · simp [World.cell?, Array.getElem?_eq_none hge] at e0
  refine ⟨ad.block, ad.off, by obtain ⟨b, o, s⟩ := ad; simp only at hspot; rw [hspot], hb, fun o v hv => ?_⟩
  have ho : o < E.k := by
    rcases Nat.lt_or_ge o E.k with h | h
    · exact h
    · rw [List.getElem?_eq_none (by omega)] at hv; cases hv
  have e1 := hj3 o ho
  rw [add_at1 ad _ hspot, hv] at e1
  rw [Nat.add_assoc]
  exact e1
end Go.Proofs.Ytmkchilhnmkhkab
namespace Go.Proofs.Ytmkchilhnmkhkab
open Go.Deep Go.ChangeShapes Go.WideShapes Go.RowKit

theorem RdL.append {w : World} : ∀ (A B : List Cel) (us vs : List Value), RdL w A us → RdL w B vs → RdL w (A ++ B) (us ++ vs)
  | [], _, _, _, h, h2 => by rw [show _ = [] from h]; exact h2
  | c :: A, B, _, vs, ⟨v, r, hv, h1, h2⟩, h => by
    rw [hv]
    exact ⟨v, r ++ vs, rfl, h1, RdL.append A B r vs h2 h⟩
theorem flat_rd {α : Type} {E : EncC α} {W : World} {S : Nat → α × List Value} : ∀ l : List Nat, (∀ i ∈ l, RdL W (E.cels (S i).1) (S i).2) → RdL W (celsE E (l.map fun i => (S i).1)) (l.flatMap fun i => (S i).2)
  | [], _ => rfl
  | i :: l, h => by
    rw [List.map_cons, List.flatMap_cons, celsE]
    exact RdL.append _ _ _ _ (h i List.mem_cons_self) (flat_rd l fun j hj => h j (List.mem_cons_of_mem _ hj))
theorem flat_ty {α : Type} {E : EncC α} {S : Nat → α × List Value} : ∀ l : List Nat, (∀ i ∈ l, TyL (E.cels (S i).1)) → TyL (celsE E (l.map fun i => (S i).1))
  | [], _ => trivial
  | i :: l, h => by
    rw [List.map_cons, celsE]
    exact (TyL_append _ _).2 ⟨h i List.mem_cons_self, flat_ty l fun j hj => h j (List.mem_cons_of_mem _ hj)⟩
theorem flat_len {f : Nat → List Value} {k : Nat} : ∀ n, (∀ i, i < n → (f i).length = k) → ((List.range n).flatMap f).length = n * k
  | 0, _ => by simp
  | n + 1, h => by
    rw [List.range_succ, List.flatMap_append, List.length_append, flat_len n (fun i hi => h i (by omega)), List.flatMap_singleton, h n (by omega), Nat.add_mul, Nat.one_mul]
theorem flat_at {f : Nat → List Value} {k : Nat} : ∀ (n j : Nat) (u : Value), (∀ i, i < n → (f i).length = k) → ((List.range n).flatMap f)[j]? = some u → ∃ i o, i < n ∧ o < k ∧ j = i * k + o ∧ (f i)[o]? = some u
  | 0, j, u, _, h => by simp at h
  | n + 1, j, u, hk, h => by
    have hl := flat_len n (fun i hi => hk i (Nat.lt_succ_of_lt hi))
    rw [List.range_succ, List.flatMap_append] at h
    by_cases hj : j < n * k
    · rw [List.getElem?_append_left (by rw [hl]; exact hj)] at h
      obtain ⟨i, o, h1, h2, h3, h4⟩ := flat_at n j u (fun i hi => hk i (by omega)) h
      exact ⟨i, o, by omega, h2, h3, h4⟩
    · rw [List.getElem?_append_right (by rw [hl]; omega), hl, List.flatMap_singleton] at h
      have ho : j - n * k < k := by
        have := (List.getElem?_eq_some_iff.1 h).1
        rwa [hk n (by omega)] at this
      exact ⟨n, j - n * k, by omega, ho, by omega, h⟩
theorem rowC_of_cells {α : Type} [Inhabited α] (E : EncC α) {W : World} {ad : Addr} {len cap : Nat} (h0 : 0 < E.k) (hl : len ≤ 9223372036854775807)
    (each : ∀ i, i < len → ∃ p : α × List Value, W.cells? 0 (ad.add (i * E.k)) E.k = some p.2 ∧ RdL W (E.cels p.1) p.2 ∧ TyL (E.cels p.1)) :
    ∃ L : List α, (celRow E L).Rd W (.slice (some ad) len cap) ∧ (celRow E L).Ty := by
  rcases Nat.eq_zero_or_pos len with rfl | hpos
  · exact ⟨[], ⟨by simp [celsE], some ad, cap, [], rfl, rfl, .inl rfl⟩, by show (0 ≤ _) ∧ True; exact ⟨by omega, trivial⟩⟩
  obtain ⟨S, hS⟩ := choose_lt each
  have hlen : ∀ i, i < len → (S i).2.length = E.k := fun i hi => by rw [RdL.length _ _ (hS i hi).2.1, E.len]
  have hat : ∀ i, i < len → ∀ o u, (S i).2[o]? = some u → W.cell? ((ad.add (i * E.k)).add o) = some u := fun i hi o u hu => by
    have hj3 := (World.cells?_some (hS i hi).1).2.2
    have ho : o < E.k := by
      have := (List.getElem?_eq_some_iff.1 hu).1
      rwa [hlen i hi] at this
    rw [hj3 o ho]
    exact hu
  have hspot : ad.spot = none := by
    have h9 := hlen 0 hpos
    have h00 := hat 0 hpos 0 ((S 0).2[0]'(by omega)) (List.getElem?_eq_getElem _)
    have := World.cell?_spot h00
    simpa [Addr.add] using this
  have hat2 : ∀ i, i < len → ∀ o u, (S i).2[o]? = some u → W.cell? ⟨ad.block, ad.off + (i * E.k + o), none⟩ = some u := fun i hi o u hu => by
    have h9 := hat i hi o u hu
    rw [add_add, add_at1 ad _ hspot] at h9
    exact h9
  have hb : ad.block < W.heap.size := by
    have h9 := hlen 0 hpos
    have h00 := hat2 0 hpos 0 ((S 0).2[0]'(by omega)) (List.getElem?_eq_getElem _)
    rcases Nat.lt_or_ge ad.block W.heap.size with hlt | hge
    · exact hlt
    · simp [World.cell?, Array.getElem?_eq_none hge] at h00
  have hml : ((List.range len).map fun i => (S i).1).length = len := by simp
  refine ⟨(List.range len).map fun i => (S i).1, ?_, ?_⟩
  · unfold celRow
    rw [hml]
    refine ⟨by rw [celsE_length, hml], some ad, cap, (List.range len).flatMap fun i => (S i).2, rfl, flat_rd _ (fun i hi => (hS i (List.mem_range.1 hi)).2.1), .inr ⟨ad.block, ad.off, ?_, hb, fun j u hu => ?_⟩⟩
    · obtain ⟨b, o, s⟩ := ad; simp only at hspot; rw [hspot]
    · obtain ⟨i, o, h1, h2, rfl, h4⟩ := flat_at len j u hlen hu
      exact hat2 i h1 o u h4
  · unfold celRow
    rw [hml]
    exact ⟨hl, flat_ty _ (fun i hi => (hS i (List.mem_range.1 hi)).2.2)⟩
end Go.Proofs.Ytmkchilhnmkhkab
namespace Go.Proofs.Ytmkchilhnmkhkab
open Go.Deep Go.ChangeShapes Go.WideShapes Go.RowKit

theorem cellsIntT : Try.prog.cellsOf 3 = 1 := by kernel_rfl
theorem Int_trod {H : Type} {enc : TypeId × Value → H} {W : World} {base fuel : Nat} {sp : Nat → Bool} {held : Bool} {cs : List Value} {x : DataW H × List MemPlace} (h : DataW.trod enc Try.prog W base sp held fuel 3 cs = some x) : ∃ s : Int, RdL W (cInt.cels s) cs ∧ TyL (cInt.cels s) := by
  obtain ⟨s, e, _, b⟩ := DataW.trod_int Try.underlying3 h
  subst e
  exact ⟨s, ⟨_, _, rfl, rfl, rfl⟩, bounds_i64 b, trivial⟩
end Go.Proofs.Ytmkchilhnmkhkab
namespace Go.Proofs.Ytmkchilhnmkhkab
open Go.Deep Go.ChangeShapes Go.WideShapes Go.RowKit

theorem cellsIntST : Try.prog.cellsOf 22 = 1 := by kernel_rfl
theorem IntS_trod {H : Type} {enc : TypeId × Value → H} {W : World} {fuel : Nat} {v : Value} {x : DataW H × List MemPlace} (h : DataW.trod enc Try.prog W 0 (fun _ => true) true fuel 22 [v] = some x) : ∃ L, (celRow cInt L).Rd W v ∧ (celRow cInt L).Ty := by
  rcases open_slice Try.underlying22 h with ⟨hcs, _⟩ | ⟨ad, l, c, m, n, D, Pl, hcs, _, hl, hm, hmm, _, hx⟩
  · simp only [List.cons.injEq, and_true] at hcs
    subst hcs
    exact ⟨[], ⟨rfl, none, 0, [], rfl, rfl, .inl rfl⟩, by show (0 ≤ _) ∧ True; exact ⟨by omega, trivial⟩⟩
  · simp only [List.cons.injEq, and_true] at hcs
    subst hcs
    simp at hmm
    rw [cellsIntT] at hx
    exact rowC_of_cells cInt (by decide) (Nat.le_trans hl (Nat.le_trans hm (by decide))) (fun i hi => by
      obtain ⟨cs, h1, h2⟩ := hx i (by omega)
      obtain ⟨s, h3, h4⟩ := Int_trod h2
      exact ⟨(s, cs), h1, h3, h4⟩)
end Go.Proofs.Ytmkchilhnmkhkab
namespace Go.Proofs.Ytmkchilhnmkhkab
open Go.RowKit Go.Proofs.Ytmkchilhnmkhkab.Parts Go.Proofs.Ytmkchilhnmkhkab.Hexa

def cStr : EncC ByteArray := ⟨9, 1, fun x => [.val (.string x)], fun _ => rfl⟩
end Go.Proofs.Ytmkchilhnmkhkab
namespace Go.Proofs.Ytmkchilhnmkhkab
open Go.Deep Go.ChangeShapes Go.WideShapes Go.RowKit

theorem cellsStrT : Try.prog.cellsOf 9 = 1 := by kernel_rfl
theorem Str_trod {H : Type} {enc : TypeId × Value → H} {W : World} {base fuel : Nat} {sp : Nat → Bool} {held : Bool} {cs : List Value} {x : DataW H × List MemPlace} (h : DataW.trod enc Try.prog W base sp held fuel 9 cs = some x) : ∃ s : ByteArray, RdL W (cStr.cels s) cs ∧ TyL (cStr.cels s) := by
  obtain ⟨s, e, _, b⟩ := DataW.trod_string Try.underlying9 h
  subst e
  exact ⟨s, ⟨_, _, rfl, rfl, rfl⟩, b, trivial⟩
end Go.Proofs.Ytmkchilhnmkhkab
namespace Go.Proofs.Ytmkchilhnmkhkab
open Go.Deep Go.ChangeShapes Go.WideShapes Go.RowKit

theorem cellsRecT : Try.prog.cellsOf 95 = 3 := by kernel_rfl
set_option maxRecDepth 100000 in
theorem Rec_trod {H : Type} {enc : TypeId × Value → H} {W : World} {fuel : Nat} {cs : List Value} {x : DataW H × List MemPlace} (h : DataW.trod enc Try.prog W 0 (fun _ => true) true fuel 95 cs = some x) : ∃ s : RecR, RdL W (cRec.cels s) cs ∧ TyL (cRec.cels s) := by
  obtain ⟨xs, n, _, _, hl, hlen, hg⟩ := DataW.trod_struct Try.underlying95 h
  have hl' : cs.length = 3 := hl.trans cellsRecT
  clear hl h
  match cs, hl' with
  | [c0, c1, c2], _ =>
    match xs, hlen with
    | [y0, y1, y2], _ =>
      have g0 : DataW.trod enc Try.prog W 0 (fun _ => true) true n 3 [c0] = some y0 := by have h := hg 0 _ rfl; simpa [cellsIntT, Value.cells] using h
      have g1 : DataW.trod enc Try.prog W 0 (fun _ => true) true n 3 [c1] = some y1 := by have h := hg 1 _ rfl; simpa [cellsIntT, Value.cells] using h
      have g2 : DataW.trod enc Try.prog W 0 (fun _ => true) true n 9 [c2] = some y2 := by have h := hg 2 _ rfl; simpa [cellsStrT, Value.cells] using h
      obtain ⟨s0, ⟨_, _, e0, r0, q0⟩, t0, _⟩ := Int_trod g0
      obtain ⟨s1, ⟨_, _, e1, r1, q1⟩, t1, _⟩ := Int_trod g1
      obtain ⟨s2, ⟨_, _, e2, r2, q2⟩, t2, _⟩ := Str_trod g2
      exact ⟨⟨s0, s1, s2⟩, ⟨_, _, rfl, by have h9 := List.head_eq_of_cons_eq e0; rw [h9]; exact r0, ⟨_, _, rfl, by have h9 := List.head_eq_of_cons_eq e1; rw [h9]; exact r1, ⟨_, _, rfl, by have h9 := List.head_eq_of_cons_eq e2; rw [h9]; exact r2, rfl⟩⟩⟩, t0, t1, t2, trivial⟩
end Go.Proofs.Ytmkchilhnmkhkab
namespace Go.Proofs.Ytmkchilhnmkhkab
open Go.Deep Go.ChangeShapes Go.WideShapes Go.RowKit

theorem cellsRecST : Try.prog.cellsOf 61 = 1 := by kernel_rfl
theorem RecS_trod {H : Type} {enc : TypeId × Value → H} {W : World} {fuel : Nat} {v : Value} {x : DataW H × List MemPlace} (h : DataW.trod enc Try.prog W 0 (fun _ => true) true fuel 61 [v] = some x) : ∃ L, (celRow cRec L).Rd W v ∧ (celRow cRec L).Ty := by
  rcases open_slice Try.underlying61 h with ⟨hcs, _⟩ | ⟨ad, l, c, m, n, D, Pl, hcs, _, hl, hm, hmm, _, hx⟩
  · simp only [List.cons.injEq, and_true] at hcs
    subst hcs
    exact ⟨[], ⟨rfl, none, 0, [], rfl, rfl, .inl rfl⟩, by show (0 ≤ _) ∧ True; exact ⟨by omega, trivial⟩⟩
  · simp only [List.cons.injEq, and_true] at hcs
    subst hcs
    simp at hmm
    rw [cellsRecT] at hx
    exact rowC_of_cells cRec (by decide) (Nat.le_trans hl (Nat.le_trans hm (by decide))) (fun i hi => by
      obtain ⟨cs, h1, h2⟩ := hx i (by omega)
      obtain ⟨s, h3, h4⟩ := Rec_trod h2
      exact ⟨(s, cs), h1, h3, h4⟩)
end Go.Proofs.Ytmkchilhnmkhkab
namespace Go.Proofs.Ytmkchilhnmkhkab
open Go.Deep Go.ChangeShapes Go.WideShapes Go.RowKit

theorem cellsEntryT : Try.prog.cellsOf 97 = 2 := by kernel_rfl
set_option maxRecDepth 100000 in
theorem Entry_trod {H : Type} {enc : TypeId × Value → H} {W : World} {fuel : Nat} {cs : List Value} {x : DataW H × List MemPlace} (h : DataW.trod enc Try.prog W 0 (fun _ => true) true fuel 97 cs = some x) : ∃ s : EntryR, RdL W (cEntry.cels s) cs ∧ TyL (cEntry.cels s) := by
  obtain ⟨xs, n, _, _, hl, hlen, hg⟩ := DataW.trod_struct Try.underlying97 h
  have hl' : cs.length = 2 := hl.trans cellsEntryT
  clear hl h
  match cs, hl' with
  | [c0, c1], _ =>
    match xs, hlen with
    | [y0, y1], _ =>
      have g0 : DataW.trod enc Try.prog W 0 (fun _ => true) true n 3 [c0] = some y0 := by have h := hg 0 _ rfl; simpa [cellsIntT, Value.cells] using h
      have g1 : DataW.trod enc Try.prog W 0 (fun _ => true) true n 9 [c1] = some y1 := by have h := hg 1 _ rfl; simpa [cellsStrT, Value.cells] using h
      obtain ⟨s0, ⟨_, _, e0, r0, q0⟩, t0, _⟩ := Int_trod g0
      obtain ⟨s1, ⟨_, _, e1, r1, q1⟩, t1, _⟩ := Str_trod g1
      exact ⟨⟨s0, s1⟩, ⟨_, _, rfl, by have h9 := List.head_eq_of_cons_eq e0; rw [h9]; exact r0, ⟨_, _, rfl, by have h9 := List.head_eq_of_cons_eq e1; rw [h9]; exact r1, rfl⟩⟩, t0, t1, trivial⟩
end Go.Proofs.Ytmkchilhnmkhkab
namespace Go.Proofs.Ytmkchilhnmkhkab
open Go.Deep Go.ChangeShapes Go.WideShapes Go.RowKit

theorem cellsEntryST : Try.prog.cellsOf 62 = 1 := by kernel_rfl
theorem EntryS_trod {H : Type} {enc : TypeId × Value → H} {W : World} {fuel : Nat} {v : Value} {x : DataW H × List MemPlace} (h : DataW.trod enc Try.prog W 0 (fun _ => true) true fuel 62 [v] = some x) : ∃ L, (celRow cEntry L).Rd W v ∧ (celRow cEntry L).Ty := by
  rcases open_slice Try.underlying62 h with ⟨hcs, _⟩ | ⟨ad, l, c, m, n, D, Pl, hcs, _, hl, hm, hmm, _, hx⟩
  · simp only [List.cons.injEq, and_true] at hcs
    subst hcs
    exact ⟨[], ⟨rfl, none, 0, [], rfl, rfl, .inl rfl⟩, by show (0 ≤ _) ∧ True; exact ⟨by omega, trivial⟩⟩
  · simp only [List.cons.injEq, and_true] at hcs
    subst hcs
    simp at hmm
    rw [cellsEntryT] at hx
    exact rowC_of_cells cEntry (by decide) (Nat.le_trans hl (Nat.le_trans hm (by decide))) (fun i hi => by
      obtain ⟨cs, h1, h2⟩ := hx i (by omega)
      obtain ⟨s, h3, h4⟩ := Entry_trod h2
      exact ⟨(s, cs), h1, h3, h4⟩)
end Go.Proofs.Ytmkchilhnmkhkab
namespace Go.Proofs.Ytmkchilhnmkhkab
open Go.Deep Go.ChangeShapes Go.WideShapes Go.RowKit

theorem cellsInoT : Try.prog.cellsOf 64 = 6 := by kernel_rfl
set_option maxRecDepth 100000 in
theorem Ino_trod {H : Type} {enc : TypeId × Value → H} {W : World} {fuel : Nat} {cs : List Value} {x : DataW H × List MemPlace} (h : DataW.trod enc Try.prog W 0 (fun _ => true) true fuel 64 cs = some x) : ∃ s : InoR, RdL W (cIno.cels s) cs ∧ TyL (cIno.cels s) := by
  obtain ⟨xs, n, _, _, hl, hlen, hg⟩ := DataW.trod_struct Try.underlying64 h
  have hl' : cs.length = 6 := hl.trans cellsInoT
  clear hl h
  match cs, hl' with
  | [c0, c1, c2, c3, c4, c5], _ =>
    match xs, hlen with
    | [y0, y1, y2, y3, y4, y5], _ =>
      have g0 : DataW.trod enc Try.prog W 0 (fun _ => true) true n 3 [c0] = some y0 := by have h := hg 0 _ rfl; simpa [cellsIntT, Value.cells] using h
      have g1 : DataW.trod enc Try.prog W 0 (fun _ => true) true n 3 [c1] = some y1 := by have h := hg 1 _ rfl; simpa [cellsIntT, Value.cells] using h
      have g2 : DataW.trod enc Try.prog W 0 (fun _ => true) true n 3 [c2] = some y2 := by have h := hg 2 _ rfl; simpa [cellsIntT, Value.cells] using h
      have g3 : DataW.trod enc Try.prog W 0 (fun _ => true) true n 9 [c3] = some y3 := by have h := hg 3 _ rfl; simpa [cellsStrT, Value.cells] using h
      have g4 : DataW.trod enc Try.prog W 0 (fun _ => true) true n 61 [c4] = some y4 := by have h := hg 4 _ rfl; simpa [cellsRecST, Value.cells] using h
      have g5 : DataW.trod enc Try.prog W 0 (fun _ => true) true n 62 [c5] = some y5 := by have h := hg 5 _ rfl; simpa [cellsEntryST, Value.cells] using h
      obtain ⟨s0, ⟨_, _, e0, r0, q0⟩, t0, _⟩ := Int_trod g0
      obtain ⟨s1, ⟨_, _, e1, r1, q1⟩, t1, _⟩ := Int_trod g1
      obtain ⟨s2, ⟨_, _, e2, r2, q2⟩, t2, _⟩ := Int_trod g2
      obtain ⟨s3, ⟨_, _, e3, r3, q3⟩, t3, _⟩ := Str_trod g3
      obtain ⟨s4, r4, t4⟩ := RecS_trod g4
      obtain ⟨s5, r5, t5⟩ := EntryS_trod g5
      exact ⟨⟨s0, s1, s2, s3, s4, s5⟩, ⟨_, _, rfl, by have h9 := List.head_eq_of_cons_eq e0; rw [h9]; exact r0, ⟨_, _, rfl, by have h9 := List.head_eq_of_cons_eq e1; rw [h9]; exact r1, ⟨_, _, rfl, by have h9 := List.head_eq_of_cons_eq e2; rw [h9]; exact r2, ⟨_, _, rfl, by have h9 := List.head_eq_of_cons_eq e3; rw [h9]; exact r3, ⟨_, _, rfl, r4, ⟨_, _, rfl, r5, rfl⟩⟩⟩⟩⟩⟩, t0, t1, t2, t3, t4, t5, trivial⟩
end Go.Proofs.Ytmkchilhnmkhkab
namespace Go.Proofs.Ytmkchilhnmkhkab
open Go.Deep Go.ChangeShapes Go.WideShapes Go.RowKit

theorem cellsInoST : Try.prog.cellsOf 23 = 1 := by kernel_rfl
theorem InoS_trod {H : Type} {enc : TypeId × Value → H} {W : World} {fuel : Nat} {v : Value} {x : DataW H × List MemPlace} (h : DataW.trod enc Try.prog W 0 (fun _ => true) true fuel 23 [v] = some x) : ∃ L, (celRow cIno L).Rd W v ∧ (celRow cIno L).Ty := by
  rcases open_slice Try.underlying23 h with ⟨hcs, _⟩ | ⟨ad, l, c, m, n, D, Pl, hcs, _, hl, hm, hmm, _, hx⟩
  · simp only [List.cons.injEq, and_true] at hcs
    subst hcs
    exact ⟨[], ⟨rfl, none, 0, [], rfl, rfl, .inl rfl⟩, by show (0 ≤ _) ∧ True; exact ⟨by omega, trivial⟩⟩
  · simp only [List.cons.injEq, and_true] at hcs
    subst hcs
    simp at hmm
    rw [cellsInoT] at hx
    exact rowC_of_cells cIno (by decide) (Nat.le_trans hl (Nat.le_trans hm (by decide))) (fun i hi => by
      obtain ⟨cs, h1, h2⟩ := hx i (by omega)
      obtain ⟨s, h3, h4⟩ := Ino_trod h2
      exact ⟨(s, cs), h1, h3, h4⟩)
end Go.Proofs.Ytmkchilhnmkhkab
namespace Go.Proofs.Ytmkchilhnmkhkab
open Go.Deep Go.ChangeShapes Go.WideShapes Go.RowKit

theorem cellsPartT : Try.prog.cellsOf 25 = 3 := by kernel_rfl
set_option maxRecDepth 100000 in
theorem Part_trod {H : Type} {enc : TypeId × Value → H} {W : World} {fuel : Nat} {cs : List Value} {x : DataW H × List MemPlace} (h : DataW.trod enc Try.prog W 0 (fun _ => true) true fuel 25 cs = some x) : ∃ s : PartR, RdL W (cPart.cels s) cs ∧ TyL (cPart.cels s) := by
  obtain ⟨xs, n, _, _, hl, hlen, hg⟩ := DataW.trod_struct Try.underlying25 h
  have hl' : cs.length = 3 := hl.trans cellsPartT
  clear hl h
  match cs, hl' with
  | [c0, c1, c2], _ =>
    match xs, hlen with
    | [y0, y1, y2], _ =>
      have g0 : DataW.trod enc Try.prog W 0 (fun _ => true) true n 3 [c0] = some y0 := by have h := hg 0 _ rfl; simpa [cellsIntT, Value.cells] using h
      have g1 : DataW.trod enc Try.prog W 0 (fun _ => true) true n 22 [c1] = some y1 := by have h := hg 1 _ rfl; simpa [cellsIntST, Value.cells] using h
      have g2 : DataW.trod enc Try.prog W 0 (fun _ => true) true n 23 [c2] = some y2 := by have h := hg 2 _ rfl; simpa [cellsInoST, Value.cells] using h
      obtain ⟨s0, ⟨_, _, e0, r0, q0⟩, t0, _⟩ := Int_trod g0
      obtain ⟨s1, r1, t1⟩ := IntS_trod g1
      obtain ⟨s2, r2, t2⟩ := InoS_trod g2
      exact ⟨⟨s0, s1, s2⟩, ⟨_, _, rfl, by have h9 := List.head_eq_of_cons_eq e0; rw [h9]; exact r0, ⟨_, _, rfl, r1, ⟨_, _, rfl, r2, rfl⟩⟩⟩, t0, t1, t2, trivial⟩
end Go.Proofs.Ytmkchilhnmkhkab
namespace Go.Proofs.Ytmkchilhnmkhkab
open Go.Deep Go.ChangeShapes Go.WideShapes Go.RowKit

set_option maxRecDepth 100000 in
/-- One that came in. -/
theorem Part_of_trod {H : Type} {enc : TypeId × Value → H} {W : World} {r : Reach} {b0 : Nat} {v : Value} {d : DataW H} {p : List MemPlace} (hv : Value.okWide Try.prog W r b0 25 v) (h : DataW.Trod enc Try.prog W 0 (fun _ => true) true 25 v d p) :
    ∃ (s : PartR) (a1 : Option Addr) (c1 : Nat) (a2 : Option Addr) (c2 : Nat), v = .agg #[.int .i64 s.ser, .slice a1 s.st.length c1, .slice a2 s.ino.length c2] ∧ TyL (cPart.cels s) ∧ (celRow cInt s.st).Rd W (.slice a1 s.st.length c1) ∧ (celRow cIno s.ino).Rd W (.slice a2 s.ino.length c2) := by
  obtain ⟨cs, rfl, hsz⟩ := okWide_struct Try.underlying25 hv
  obtain ⟨l⟩ := cs
  obtain ⟨fuel, hf⟩ := h
  obtain ⟨s, h1, h2⟩ := Part_trod hf
  obtain ⟨a1, c1, a2, c2, hv, h1x, h2x⟩ := cPart_form h1
  have hv2 : l = _ := hv
  subst hv2
  exact ⟨s, a1, c1, a2, c2, rfl, h2, h1x, h2x⟩
end Go.Proofs.Ytmkchilhnmkhkab
namespace Go.Proofs.Ytmkchilhnmkhkab
open Go.Joins Go.ChangeShapes Go.WideShapes

theorem cellsGeoT : Try.prog.cellsOf 35 = 4 := by kernel_rfl
set_option maxRecDepth 100000 in
theorem geo_of_trod {H : Type} {enc : TypeId × Value → H} {W : World} {sp : Nat → Bool} {held : Bool} {r : Reach} {b0 base : Nat} {v : Value} {d : DataW H} {p : List MemPlace}
    (hv : Value.okWide Try.prog W r b0 35 v) (h : DataW.Trod enc Try.prog W base sp held 35 v d p) : ∃ T P I Q : Int, v = .agg #[.int .i64 T, .int .i64 P, .int .i64 I, .int .i64 Q] := by
  obtain ⟨v0, v1, v2, v3, y0, y1, y2, y3, n, rfl, _, _, h0, h1, h2, h3⟩ := open_agg4 Try.underlying35 (by kernel_rfl) cellsGeoT hv h
  obtain ⟨s0, e0, _⟩ := DataW.trod_int Try.underlying3 h0
  obtain ⟨s1, e1, _⟩ := DataW.trod_int Try.underlying3 h1
  obtain ⟨s2, e2, _⟩ := DataW.trod_int Try.underlying3 h2
  obtain ⟨s3, e3, _⟩ := DataW.trod_int Try.underlying3 h3
  simp at e0 e1 e2 e3
  exact ⟨s0, s1, s2, s3, by rw [e0, e1, e2, e3]⟩
end Go.Proofs.Ytmkchilhnmkhkab
