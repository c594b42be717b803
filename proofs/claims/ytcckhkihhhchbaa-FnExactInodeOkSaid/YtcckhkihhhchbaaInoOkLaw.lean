/- FnExactInodeOk: the law's walk. -/
import Derived.Test.YtcckhkihhhchbaaInoImpl
import Derived.Test.YtcckhkihhhchbaaInoArgs
import Derived.Test.YtcckhkihhhchbaaInoEq
namespace Go.Proofs.Ytcckhkihhhchbaa
open Go.RowKit Go.Proofs.Ytcckhkihhhchbaa.Parts Go.Proofs.Ytcckhkihhhchbaa.Hexa Go.Proofs.Ytcckhkihhhchbaa.Byt

set_option maxRecDepth 100000 in
set_option maxHeartbeats 4000000 in
theorem inoOk_law (kd sz gn : Int) (key : ByteArray) (aR : Option Addr) (nR cR : Nat) (aE : Option Addr) (nE cE : Nat) (R : List RecR) (E : List EntryR) (w : World) (hz : -9223372036854775808 ≤ sz ∧ sz ≤ 9223372036854775807) (hk : key.size ≤ maxLen) (hs : SrcRec w aR nR R) (hm : FitRec R nR maxLen) (hn : nR ≤ 9223372036854775807) (hs' : SrcEntry w aE nE E) (hm' : FitEntry E nE maxLen) (hn' : nE ≤ 9223372036854775807) :
    Calls Try.prog 8 #[.agg #[.int .i64 kd, .int .i64 sz, .int .i64 gn, .string key, .slice aR nR cR, .slice aE nE cE]] w fun e w' => e = .returned (.bool true) ∧ Below w.heap.size w w' := by
  have HZ := Lib.hid hz
  have HK := Lib.hid hk
  have HS := Lib.hid hs
  have HM := Lib.hid hm
  have HN := Lib.hid hn
  have HS' := Lib.hid hs'
  have HM' := Lib.hid hm'
  have HN' := Lib.hid hn'
  have T0 := Lib.hid (Bk.alloc w #[.int .i64 kd, .int .i64 sz, .int .i64 gn, .string key, .slice aR nR cR, .slice aE nE cE] 45)
  have B0 := Lib.hid (below_bk w (.cells #[.int .i64 kd, .int .i64 sz, .int .i64 gn, .string key, .slice aR nR cR, .slice aE nE cE] 45))
  obtain ⟨b, hb⟩ : ∃ b, inoB ⟨kd, sz, gn, key, R, E⟩ = b := ⟨_, rfl⟩
  have HB := Lib.hid hb
  clear hb
  clear hz hk hs hm hn hs' hm' hn'
  go_enter Try.func8, Try.ntmps8
  go_wp2_with fail
  refine (szIno_any kd sz gn key aR nR cR aE nE cE R E _ HK.out (HS.out.later B0.out) HN.out HM.out (HS'.out.later B0.out) HN'.out HM'.out).mono ?_
  rintro e w1 ⟨r, rfl, hr | ⟨h0, _, hn2, hf2, hn3, hf3⟩, hb1⟩
  · go_wp2
    go_ret
    exact ⟨rfl, B0.out.trans (hb1.mono B0.out.size)⟩
  have T1 := Lib.hid (T0.out.later hb1)
  have B1 : Hid (Below w.heap.size w w1) := Lib.hid (B0.out.trans (hb1.mono B0.out.size))
  have HF : Hid (FitRec R nR 2000000) := Lib.hid (fun j hj => Nat.le_trans (hf2 j hj) (by decide))
  have HF' : Hid (FitEntry E nE 2000000) := Lib.hid (fun j hj => Nat.le_trans (hf3 j hj) (by decide))
  have hr : ¬ (r < 0) := by omega
  have c0 := T1.out.cell (j := 0) rfl
  have c1 := T1.out.cell (j := 1) rfl
  have c2 := T1.out.cell (j := 2) rfl
  have c3 := T1.out.cell (j := 3) rfl
  have c4 := T1.out.cell (j := 4) rfl
  have c5 := T1.out.cell (j := 5) rfl
  clear hb1 hf2 hf3 h0
  go_wp2_with fail
  clear c0 c1 c2 c3 c4 c5
  refine (toIno_any kd sz gn key aR nR cR aE nE cE R E _ (HS.out.later B1.out) hn2 (HS'.out.later B1.out) hn3).mono ?_
  rintro e w2 ⟨gR, gE, rfl, hg1, hg2, hg3, hoR, hoE, hb2⟩
  have T2 := Lib.hid (T1.out.later hb2)
  have B2 : Hid (Below w.heap.size w w2) := Lib.hid (B1.out.trans (hb2.mono B1.out.size))
  have S2 := Lib.hid (srcRec_of_own hoR)
  have V2 := Lib.hid (srcEntry_of_own hoE)
  clear hoR hoE hb2 hg1 hg2 hg3
  go_wp2_with fail
  refine (specIno_any kd sz gn key _ nR nR _ nE nE _ R E HZ.out S2.out HF.out V2.out HF'.out).mono ?_
  rw [HB.out]
  rintro e w3 ⟨rfl, hb3⟩
  have T3 := Lib.hid (T2.out.later hb3)
  have B3 : Hid (Below w.heap.size w w3) := Lib.hid (B2.out.trans (hb3.mono B2.out.size))
  clear hb3
  have c0 := T3.out.cell (j := 0) rfl
  have c1 := T3.out.cell (j := 1) rfl
  have c2 := T3.out.cell (j := 2) rfl
  have c3 := T3.out.cell (j := 3) rfl
  have c4 := T3.out.cell (j := 4) rfl
  have c5 := T3.out.cell (j := 5) rfl
  go_wp2_with fail
  clear c0 c1 c2 c3 c4 c5
  refine (toIno_any kd sz gn key aR nR cR aE nE cE R E _ (HS.out.later B3.out) hn2 (HS'.out.later B3.out) hn3).mono ?_
  rintro e w4 ⟨gR, gE, rfl, hg1, hg2, hg3, hoR, hoE, hb4⟩
  have hba := below_bk w4 (.cells #[.int .i64 kd, .int .i64 sz, .int .i64 gn, .string key, .slice (some ⟨gR, 0, none⟩) nR nR, .slice (some ⟨gE, 0, none⟩) nE nE] 51)
  have T5 := Lib.hid ((T3.out.later hb4).later hba)
  have X5 := Lib.hid (Bk.alloc w4 #[.int .i64 kd, .int .i64 sz, .int .i64 gn, .string key, .slice (some ⟨gR, 0, none⟩) nR nR, .slice (some ⟨gE, 0, none⟩) nE nE] 51)
  have OR5 := Lib.hid (own_below hoR hba)
  have OE5 := Lib.hid (own_below hoE hba)
  have B5 : Hid (Below w.heap.size w (w4.alloc (.cells #[.int .i64 kd, .int .i64 sz, .int .i64 gn, .string key, .slice (some ⟨gR, 0, none⟩) nR nR, .slice (some ⟨gE, 0, none⟩) nE nE] 51))) := Lib.hid (B3.out.trans ((hb4.trans (hba.mono hb4.size)).mono B3.out.size))
  have L3 : Hid (w.heap.size < w3.heap.size) := Lib.hid T3.out.lt
  have G4 : Hid (w3.heap.size ≤ gR ∧ gR < gE ∧ gE < w4.heap.size) := Lib.hid ⟨hg1, hg2, hg3⟩
  obtain ⟨bx, hbx⟩ : ∃ b, w4.heap.size = b := ⟨_, rfl⟩
  have HBX := Lib.hid hbx
  clear hg1 hg2 hg3 hoR hoE hb4 hba
  go_wp2_with fail
  rw [hbx] at X5
  clear hbx
  obtain ⟨w5, h5⟩ : ∃ x, x = w4.alloc (.cells #[.int .i64 kd, .int .i64 sz, .int .i64 gn, .string key, .slice (some ⟨gR, 0, none⟩) nR nR, .slice (some ⟨gE, 0, none⟩) nE nE] 51) := ⟨_, rfl⟩
  rw [← h5] at T5 X5 OR5 OE5 B5 ⊢
  clear h5
  refine (implIno_any kd sz gn key _ nR nR _ nE nE _ R E HZ.out (by omega) (srcRec_of_own OR5.out) HF.out (srcEntry_of_own OE5.out) HF'.out).mono ?_
  rw [HB.out]
  rintro e w6 ⟨rfl, hb6⟩
  have T6 := Lib.hid (T5.out.later hb6)
  have X6 := Lib.hid (X5.out.later hb6)
  have OR6 := Lib.hid (own_below OR5.out hb6)
  have OE6 := Lib.hid (own_below OE5.out hb6)
  have B6 : Hid (Below w.heap.size w w6) := Lib.hid (B5.out.trans (hb6.mono B5.out.size))
  clear hb6 T5 X5 OR5 OE5
  go_wp2
  have X6d := Lib.hid X6.out.drew
  have T6d := Lib.hid T6.out.drew
  have B6d := Lib.hid B6.out.drew
  have OR6d : Hid (w6.drew.ownsRow w3.heap.size 27 3 (.slice (some ⟨gR, 0, none⟩) nR nR) nR (cellsE encRec R)) := OR6
  have OE6d : Hid (w6.drew.ownsRow w3.heap.size 37 2 (.slice (some ⟨gE, 0, none⟩) nE nE) nE (cellsE encEntry E)) := OE6
  go_region_held3 (fun w' => w'.cell? ⟨bx, 0, none⟩ = some (.int .i64 kd) ∧ w'.cell? ⟨bx, 1, none⟩ = some (.int .i64 sz) ∧ w'.cell? ⟨bx, 2, none⟩ = some (.int .i64 gn) ∧ w'.cell? ⟨bx, 3, none⟩ = some (.string key) ∧ w'.cell? ⟨bx, 4, none⟩ = some (.slice (some ⟨gR, 0, none⟩) nR nR) ∧ w'.cell? ⟨bx, 5, none⟩ = some (.slice (some ⟨gE, 0, none⟩) nE nE) ∧ w'.cell? ⟨w.heap.size, 0, none⟩ = some (.int .i64 kd) ∧ w'.cell? ⟨w.heap.size, 1, none⟩ = some (.int .i64 sz) ∧ w'.cell? ⟨w.heap.size, 2, none⟩ = some (.int .i64 gn) ∧ w'.cell? ⟨w.heap.size, 3, none⟩ = some (.string key) ∧ w'.cell? ⟨w.heap.size, 4, none⟩ = some (.slice aR nR cR) ∧ w'.cell? ⟨w.heap.size, 5, none⟩ = some (.slice aE nE cE))
    (first
      | exact ⟨X6d.out.cell rfl, X6d.out.cell rfl, X6d.out.cell rfl, X6d.out.cell rfl, X6d.out.cell rfl, X6d.out.cell rfl, T6d.out.cell rfl, T6d.out.cell rfl, T6d.out.cell rfl, T6d.out.cell rfl, T6d.out.cell rfl, T6d.out.cell rfl⟩
      | exact ⟨X7.out.cell rfl, X7.out.cell rfl, X7.out.cell rfl, X7.out.cell rfl, X7.out.cell rfl, X7.out.cell rfl, T7.out.cell rfl, T7.out.cell rfl, T7.out.cell rfl, T7.out.cell rfl, T7.out.cell rfl, T7.out.cell rfl⟩
      | exact ⟨X8.out.cell rfl, X8.out.cell rfl, X8.out.cell rfl, X8.out.cell rfl, X8.out.cell rfl, X8.out.cell rfl, T8.out.cell rfl, T8.out.cell rfl, T8.out.cell rfl, T8.out.cell rfl, T8.out.cell rfl, T8.out.cell rfl⟩
      | go_keep)
    (first
      | (go_at_call 27; (with_reducible refine (toIno_any kd sz gn key aR nR cR aE nE cE R E _ (HS.out.later B6d.out) hn2 (HS'.out.later B6d.out) hn3).mono ?_); rintro e w7 ⟨hR7, hE7, rfl, _, _, _, hoR, hoE, hb⟩; have X7 := Lib.hid (X6d.out.later hb); have T7 := Lib.hid (T6d.out.later hb); have B7 : Hid (Below w.heap.size w w7) := Lib.hid (B6d.out.trans (hb.mono B6d.out.size)); have S7 := Lib.hid (srcRec_of_own hoR); have V7 := Lib.hid (srcEntry_of_own hoE); have OR7 := Lib.hid (own_below OR6d.out hb); have OE7 := Lib.hid (own_below OE6d.out hb); have E7 : Hid (Below w6.heap.size w6 w7) := Lib.hid ((Below.refl w6.heap.size w6).drew.trans hb); clear hb hoR hoE)
      | (go_at_call 29; (with_reducible refine (eqIno_any kd sz gn key _ nR _ _ nE _ _ _ _ _ R E _ (by omega) (by omega) (srcRec_of_own OR7.out) S7.out (srcEntry_of_own OE7.out) V7.out).mono ?_); rintro e w8 ⟨rfl, hb⟩; have X8 := Lib.hid (X7.out.later hb); have T8 := Lib.hid (T7.out.later hb); have B8 : Hid (Below w.heap.size w w8) := Lib.hid (B7.out.trans (hb.mono B7.out.size)); have OR8 := Lib.hid (own_below OR7.out hb); have OE8 := Lib.hid (own_below OE7.out hb); have E8 : Hid (Below w6.heap.size w6 w8) := Lib.hid (E7.out.trans (hb.mono E7.out.size)); clear hb))
  go_wp2
  go_ret
  exact ⟨rfl, B8.out⟩
end Go.Proofs.Ytcckhkihhhchbaa
