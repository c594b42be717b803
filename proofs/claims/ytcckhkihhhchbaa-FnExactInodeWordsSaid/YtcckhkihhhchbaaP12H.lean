/- Merged texts: InoWordsLaw, InoRow. -/
import Derived.Test.YtcckhkihhhchbaaP12G
import Derived.Deep.Strs
import Derived.Deep.Fields
import Derived.ProofKit
import Derived.OpenShut

namespace Go.Proofs.Ytcckhkihhhchbaa
open Go.RowKit Go.Proofs.Ytcckhkihhhchbaa.Parts Go.Proofs.Ytcckhkihhhchbaa.Hexa Go.Proofs.Ytcckhkihhhchbaa.Byt

theorem inoWords_le (n : InoR) : (inoWordsB n).length ≤ 8 := by
  by_cases h : InoOk n
  · rw [inoWords_length h]; exact Nat.le_refl _
  · rw [inoWords_no h]; exact Nat.zero_le _
set_option maxRecDepth 100000 in
set_option maxHeartbeats 4000000 in
theorem inoWords_law (kd sz gn : Int) (key : ByteArray) (aR : Option Addr) (nR cR : Nat) (aE : Option Addr) (nE cE : Nat) (R : List RecR) (E : List EntryR) (w : World) (hz : -9223372036854775808 ≤ sz ∧ sz ≤ 9223372036854775807) (hk : key.size ≤ maxLen) (hs : SrcRec w aR nR R) (hm : FitRec R nR maxLen) (hn : nR ≤ 9223372036854775807) (hs' : SrcEntry w aE nE E) (hm' : FitEntry E nE maxLen) (hn' : nE ≤ 9223372036854775807) :
    Calls Try.prog 9 #[.agg #[.int .i64 kd, .int .i64 sz, .int .i64 gn, .string key, .slice aR nR cR, .slice aE nE cE]] w fun e w' => e = .returned (.bool true) ∧ Below w.heap.size w w' := by
  have HZ := Lib.hid hz
  have HK := Lib.hid hk
  have HS := Lib.hid hs
  have HM := Lib.hid hm
  have HN := Lib.hid hn
  have HS' := Lib.hid hs'
  have HM' := Lib.hid hm'
  have HN' := Lib.hid hn'
  have T0 := Lib.hid (Bk.alloc w #[.int .i64 kd, .int .i64 sz, .int .i64 gn, .string key, .slice aR nR cR, .slice aE nE cE] 45)
  have B0 := Lib.hid (below_bk w (.cells #[.int .i64 kd, .int .i64 sz, .int .i64 gn, .string key, .slice aR nR cR, .slice aE nE cE] 45))
  obtain ⟨P, hP⟩ : ∃ P, inoWordsB ⟨kd, sz, gn, key, R, E⟩ = P := ⟨_, rfl⟩
  have hP8 : P.length ≤ 8 := by rw [← hP]; exact inoWords_le _
  have HP := Lib.hid hP
  clear hP
  clear hz hk hs hm hn hs' hm' hn'
  go_enter Try.func9, Try.ntmps9
  go_wp2_with fail
  refine (szIno_any kd sz gn key aR nR cR aE nE cE R E _ HK.out (HS.out.later B0.out) HN.out HM.out (HS'.out.later B0.out) HN'.out HM'.out).mono ?_
  rintro e w1 ⟨r, rfl, hr | ⟨h0, _, hn2, hf2, hn3, hf3⟩, hb1⟩
  · go_wp2
    go_ret
    exact ⟨rfl, B0.out.trans (hb1.mono B0.out.size)⟩
  have T1 := Lib.hid (T0.out.later hb1)
  have B1 : Hid (Below w.heap.size w w1) := Lib.hid (B0.out.trans (hb1.mono B0.out.size))
  have HF : Hid (FitRec R nR 2000000) := Lib.hid (fun j hj => Nat.le_trans (hf2 j hj) (by decide))
  have HF' : Hid (FitEntry E nE 2000000) := Lib.hid (fun j hj => Nat.le_trans (hf3 j hj) (by decide))
  have hr : ¬ (r < 0) := by omega
  have c0 := T1.out.cell (j := 0) rfl
  have c1 := T1.out.cell (j := 1) rfl
  have c2 := T1.out.cell (j := 2) rfl
  have c3 := T1.out.cell (j := 3) rfl
  have c4 := T1.out.cell (j := 4) rfl
  have c5 := T1.out.cell (j := 5) rfl
  clear hb1 hf2 hf3 h0
  go_wp2_with fail
  clear c0 c1 c2 c3 c4 c5
  refine (toIno_any kd sz gn key aR nR cR aE nE cE R E _ (HS.out.later B1.out) hn2 (HS'.out.later B1.out) hn3).mono ?_
  rintro e w2 ⟨gR, gE, rfl, hg1, hg2, hg3, hoR, hoE, hb2⟩
  have T2 := Lib.hid (T1.out.later hb2)
  have B2 : Hid (Below w.heap.size w w2) := Lib.hid (B1.out.trans (hb2.mono B1.out.size))
  have S2 := Lib.hid (srcRec_of_own hoR)
  have V2 := Lib.hid (srcEntry_of_own hoE)
  clear hoR hoE hb2 hg1 hg2 hg3
  go_wp2_with fail
  refine (specInoWords_any kd sz gn key _ nR nR _ nE nE _ R E HZ.out S2.out HF.out V2.out HF'.out).mono ?_
  rw [HP.out]
  rintro e w3 ⟨v3, rfl, ho3, hb3⟩
  obtain ⟨ad3, cp3, rfl, _, _, _⟩ := own_form ho3
  have T3 := Lib.hid (T2.out.later hb3)
  have B3 : Hid (Below w.heap.size w w3) := Lib.hid (B2.out.trans (hb3.mono B2.out.size))
  have L9 : Hid (∀ g, (Value.slice ad3 P.length cp3).ownBlock = some g → g < w3.heap.size) := Lib.hid (fun g hg => (ho3.lt g hg).2)
  have O3 := Lib.hid ho3
  clear hb3 ho3
  have c0 := T3.out.cell (j := 0) rfl
  have c1 := T3.out.cell (j := 1) rfl
  have c2 := T3.out.cell (j := 2) rfl
  have c3 := T3.out.cell (j := 3) rfl
  have c4 := T3.out.cell (j := 4) rfl
  have c5 := T3.out.cell (j := 5) rfl
  go_wp2_with fail
  clear c0 c1 c2 c3 c4 c5
  refine (toIno_any kd sz gn key aR nR cR aE nE cE R E _ (HS.out.later B3.out) hn2 (HS'.out.later B3.out) hn3).mono ?_
  rintro e w4 ⟨gR, gE, rfl, hg1, hg2, hg3, hoR, hoE, hb4⟩
  have hba := below_bk w4 (.cells #[.int .i64 kd, .int .i64 sz, .int .i64 gn, .string key, .slice (some ⟨gR, 0, none⟩) nR nR, .slice (some ⟨gE, 0, none⟩) nE nE] 51)
  have T5 := Lib.hid ((T3.out.later hb4).later hba)
  have X5 := Lib.hid (Bk.alloc w4 #[.int .i64 kd, .int .i64 sz, .int .i64 gn, .string key, .slice (some ⟨gR, 0, none⟩) nR nR, .slice (some ⟨gE, 0, none⟩) nE nE] 51)
  have OR5 := Lib.hid (own_below hoR hba)
  have OE5 := Lib.hid (own_below hoE hba)
  have B5 : Hid (Below w.heap.size w (w4.alloc (.cells #[.int .i64 kd, .int .i64 sz, .int .i64 gn, .string key, .slice (some ⟨gR, 0, none⟩) nR nR, .slice (some ⟨gE, 0, none⟩) nE nE] 51))) := Lib.hid (B3.out.trans ((hb4.trans (hba.mono hb4.size)).mono B3.out.size))
  have L3 : Hid (w.heap.size < w3.heap.size) := Lib.hid T3.out.lt
  have G4 : Hid (w3.heap.size ≤ gR ∧ gR < gE ∧ gE < w4.heap.size) := Lib.hid ⟨hg1, hg2, hg3⟩
  obtain ⟨bx, hbx⟩ : ∃ b, w4.heap.size = b := ⟨_, rfl⟩
  have HBX := Lib.hid hbx
  have O5 := Lib.hid (own_below (own_below O3.out hb4) hba)
  clear hg1 hg2 hg3 hoR hoE hb4 hba
  go_wp2_with fail
  rw [hbx] at X5
  obtain ⟨w5, h5⟩ : ∃ x, x = w4.alloc (.cells #[.int .i64 kd, .int .i64 sz, .int .i64 gn, .string key, .slice (some ⟨gR, 0, none⟩) nR nR, .slice (some ⟨gE, 0, none⟩) nE nE] 51) := ⟨_, rfl⟩
  have S5 : Hid (w5.heap.size = bx + 1) := Lib.hid (by rw [h5, ← hbx]; simp)
  clear hbx
  rw [← h5] at T5 X5 OR5 OE5 B5 O5 ⊢
  clear h5
  refine (implInoWords_any sz gn key _ nR nR _ nE nE _ R E kd HZ.out (by omega) (srcRec_of_own OR5.out) HF.out (srcEntry_of_own OE5.out) HF'.out).mono ?_
  rw [HP.out]
  rintro e w6 ⟨v6, rfl, ho6, hb6⟩
  obtain ⟨ad6, cp6, rfl, _, _, _⟩ := own_form ho6
  have L6 : Hid (∀ g, (Value.slice ad6 P.length cp6).ownBlock = some g → bx + 1 ≤ g ∧ g < w6.heap.size) := Lib.hid (fun g hg => by have h9 := ho6.lt g hg; have := S5.out; omega)
  have L56 : Hid (bx + 1 ≤ w6.heap.size) := Lib.hid (by have := hb6.size; have := S5.out; omega)
  have T6 := Lib.hid (T5.out.later hb6)
  have X6 := Lib.hid (X5.out.later hb6)
  have OR6 := Lib.hid (own_below OR5.out hb6)
  have OE6 := Lib.hid (own_below OE5.out hb6)
  have O6 := Lib.hid (own_below O5.out hb6)
  have Q6 := Lib.hid ho6
  have B6 : Hid (Below w.heap.size w w6) := Lib.hid (B5.out.trans (hb6.mono B5.out.size))
  clear hb6 ho6 T5 X5 OR5 OE5 O5
  go_wp2_with fail
  refine (eqStrings_any ad6 ad3 P.length cp6 cp3 P _ rfl (by omega) (own_reads Q6.out) (own_reads O6.out)).mono ?_
  rintro e w7 ⟨rfl, m7, hm7⟩
  have T7 : Hid (Bk w7 w.heap.size #[.int .i64 kd, .int .i64 sz, .int .i64 gn, .string key, .slice aR nR cR, .slice aE nE cE] 45) := Lib.hid (by rw [hm7]; exact T6.out)
  have X7 : Hid (Bk w7 bx #[.int .i64 kd, .int .i64 sz, .int .i64 gn, .string key, .slice (some ⟨gR, 0, none⟩) nR nR, .slice (some ⟨gE, 0, none⟩) nE nE] 51) := Lib.hid (by rw [hm7]; exact X6.out)
  have OR7 : Hid (w7.ownsRow w3.heap.size 27 3 (.slice (some ⟨gR, 0, none⟩) nR nR) nR (cellsE encRec R)) := Lib.hid (by rw [hm7]; exact OR6.out)
  have OE7 : Hid (w7.ownsRow w3.heap.size 37 2 (.slice (some ⟨gE, 0, none⟩) nE nE) nE (cellsE encEntry E)) := Lib.hid (by rw [hm7]; exact OE6.out)
  have O7 : Hid (w7.ownsRow w2.heap.size 9 1 (.slice ad3 P.length cp3) P.length (scells P)) := Lib.hid (by rw [hm7]; exact O6.out)
  have Q7 : Hid (w7.ownsRow w5.heap.size 9 1 (.slice ad6 P.length cp6) P.length (scells P)) := Lib.hid (by rw [hm7]; exact Q6.out)
  have B7 : Hid (Below w.heap.size w w7) := Lib.hid (by rw [hm7]; exact below_drewsN B6.out m7)
  have L7 : Hid (bx + 1 ≤ w7.heap.size) := Lib.hid (by rw [hm7]; exact L56.out)
  have L67 : Hid (w6.heap.size = w7.heap.size) := Lib.hid (by rw [hm7]; rfl)
  clear hm7 T6 X6 OR6 OE6 O6 Q6
  go_wp2
  have X7d := Lib.hid X7.out.drew
  have T7d := Lib.hid T7.out.drew
  have B7d := Lib.hid B7.out.drew
  have OR7d : Hid (w7.drew.ownsRow w3.heap.size 27 3 (.slice (some ⟨gR, 0, none⟩) nR nR) nR (cellsE encRec R)) := OR7
  have OE7d : Hid (w7.drew.ownsRow w3.heap.size 37 2 (.slice (some ⟨gE, 0, none⟩) nE nE) nE (cellsE encEntry E)) := OE7
  go_region_held3 (fun w' => w'.cell? ⟨bx, 0, none⟩ = some (.int .i64 kd) ∧ w'.cell? ⟨bx, 1, none⟩ = some (.int .i64 sz) ∧ w'.cell? ⟨bx, 2, none⟩ = some (.int .i64 gn) ∧ w'.cell? ⟨bx, 3, none⟩ = some (.string key) ∧ w'.cell? ⟨bx, 4, none⟩ = some (.slice (some ⟨gR, 0, none⟩) nR nR) ∧ w'.cell? ⟨bx, 5, none⟩ = some (.slice (some ⟨gE, 0, none⟩) nE nE) ∧ w'.cell? ⟨w.heap.size, 0, none⟩ = some (.int .i64 kd) ∧ w'.cell? ⟨w.heap.size, 1, none⟩ = some (.int .i64 sz) ∧ w'.cell? ⟨w.heap.size, 2, none⟩ = some (.int .i64 gn) ∧ w'.cell? ⟨w.heap.size, 3, none⟩ = some (.string key) ∧ w'.cell? ⟨w.heap.size, 4, none⟩ = some (.slice aR nR cR) ∧ w'.cell? ⟨w.heap.size, 5, none⟩ = some (.slice aE nE cE))
    (first
      | exact ⟨X7d.out.cell rfl, X7d.out.cell rfl, X7d.out.cell rfl, X7d.out.cell rfl, X7d.out.cell rfl, X7d.out.cell rfl, T7d.out.cell rfl, T7d.out.cell rfl, T7d.out.cell rfl, T7d.out.cell rfl, T7d.out.cell rfl, T7d.out.cell rfl⟩
      | exact ⟨X8.out.cell rfl, X8.out.cell rfl, X8.out.cell rfl, X8.out.cell rfl, X8.out.cell rfl, X8.out.cell rfl, T8.out.cell rfl, T8.out.cell rfl, T8.out.cell rfl, T8.out.cell rfl, T8.out.cell rfl, T8.out.cell rfl⟩
      | exact ⟨X9.out.cell rfl, X9.out.cell rfl, X9.out.cell rfl, X9.out.cell rfl, X9.out.cell rfl, X9.out.cell rfl, T9.out.cell rfl, T9.out.cell rfl, T9.out.cell rfl, T9.out.cell rfl, T9.out.cell rfl, T9.out.cell rfl⟩
      | go_keep)
    (first
      | (go_at_call 27; (with_reducible refine (toIno_any kd sz gn key aR nR cR aE nE cE R E _ (HS.out.later B7d.out) hn2 (HS'.out.later B7d.out) hn3).mono ?_); rintro e w8 ⟨hR8, hE8, rfl, _, _, _, hoR, hoE, hb⟩; have X8 := Lib.hid (X7d.out.later hb); have T8 := Lib.hid (T7d.out.later hb); have B8 : Hid (Below w.heap.size w w8) := Lib.hid (B7d.out.trans (hb.mono B7d.out.size)); have S8 := Lib.hid (srcRec_of_own hoR); have V8 := Lib.hid (srcEntry_of_own hoE); have OR8 := Lib.hid (own_below OR7d.out hb); have OE8 := Lib.hid (own_below OE7d.out hb); have E8 : Hid (Below w7.heap.size w7 w8) := Lib.hid ((Below.refl w7.heap.size w7).drew.trans hb); clear hb hoR hoE)
      | (go_at_call 29; (with_reducible refine (eqIno_any kd sz gn key _ nR _ _ nE _ _ _ _ _ R E _ (by omega) (by omega) (srcRec_of_own OR8.out) S8.out (srcEntry_of_own OE8.out) V8.out).mono ?_); rintro e w9 ⟨rfl, hb⟩; have X9 := Lib.hid (X8.out.later hb); have T9 := Lib.hid (T8.out.later hb); have B9 : Hid (Below w.heap.size w w9) := Lib.hid (B8.out.trans (hb.mono B8.out.size)); have OR9 := Lib.hid (own_below OR8.out hb); have OE9 := Lib.hid (own_below OE8.out hb); have E9 : Hid (Below w7.heap.size w7 w9) := Lib.hid (E8.out.trans (hb.mono E8.out.size)); clear hb))
  have O9 := Lib.hid (own_below O7.out E9.out)
  have Q9 := Lib.hid (own_below Q7.out E9.out)
  have L79 : Hid (w6.heap.size ≤ w9.heap.size) := Lib.hid (by have := E9.out.size; have := L67.out; omega)
  have M9 : Hid (w3.heap.size ≤ w9.heap.size) := Lib.hid (by have := L79.out; have := L56.out; have := G4.out; have := HBX.out; omega)
  have HNE : Hid (∀ g, (Value.slice (some (⟨gR, 0, none⟩ : Addr)) nR nR).ownBlock = some g → (Value.slice (some (⟨gE, 0, none⟩ : Addr)) nE nE).ownBlock ≠ some g) := Lib.hid (fun g h1 h2 => by
    have e1 : gR = g := Option.some.inj h1
    have e2 : gE = g := Option.some.inj h2
    have := G4.out; omega)
  have vRn : ∀ g, g ≠ gR → (Value.slice (some (⟨gR, 0, none⟩ : Addr)) nR nR).ownBlock ≠ some g := fun g hg h => hg (Option.some.inj h).symm
  have vEn : ∀ g, g ≠ gE → (Value.slice (some (⟨gE, 0, none⟩ : Addr)) nE nE).ownBlock ≠ some g := fun g hg h => hg (Option.some.inj h).symm
  have VR := Lib.hid vRn
  have VE := Lib.hid vEn
  clear vRn vEn
  have c0 := X9.out.cell (j := 0) rfl
  have c1 := X9.out.cell (j := 1) rfl
  have c2 := X9.out.cell (j := 2) rfl
  have c3 := X9.out.cell (j := 3) rfl
  have c4 := X9.out.cell (j := 4) rfl
  have c5 := X9.out.cell (j := 5) rfl
  go_wp2_with fail
  clear c0 c1 c2 c3 c4 c5
  obtain ⟨k1, hk1⟩ : ∃ k1, 1 + 3 * nR + 2 * nE = k1 := ⟨_, rfl⟩
  have HMI := Lib.hid (markIno_any kd sz gn key w3.heap.size (.slice (some ⟨gR, 0, none⟩) nR nR) (.slice (some ⟨gE, 0, none⟩) nE nE) nR nE 1 _ _ w9 M9.out (by decide) (by omega) OR9.out OE9.out HNE.out)
  refine HMI.out.mono ?_
  unfold MarksIno
  rw [hk1]
  rintro e w10 ⟨rfl, hb10, ha10, _, _⟩
  have T10 := Lib.hid (ha10.bk T9.out (VR.out _ (by have := L3.out; have := G4.out; omega)) (VE.out _ (by have := L3.out; have := G4.out; omega)))
  have O10 := Lib.hid (ha10.own O9.out (fun g hg => VR.out g (by have := L9.out g hg; have := G4.out; omega)) (fun g hg => VE.out g (by have := L9.out g hg; have := G4.out; omega)))
  have Q10 := Lib.hid (ha10.own Q9.out (fun g hg => VR.out g (by have := (L6.out g hg).1; have := G4.out; have := HBX.out; omega)) (fun g hg => VE.out g (by have := (L6.out g hg).1; have := G4.out; have := HBX.out; omega)))
  have B10 : Hid (Below w.heap.size w w10) := Lib.hid (B9.out.trans (hb10.mono (by have := L3.out; omega)))
  have L10 : Hid (w6.heap.size ≤ w10.heap.size) := Lib.hid (Nat.le_trans L79.out hb10.size)
  have hk1p : ¬ ((k1 : Int) < 0) := by omega
  clear hk1 hb10 ha10
  go_wp2_with fail
  refine (eqStrings_any ad6 ad3 P.length cp6 cp3 P _ rfl (by omega) (own_reads Q10.out) (own_reads O10.out)).mono ?_
  rintro e w11 ⟨rfl, m11, hm11⟩
  have T11 : Hid (Bk w11 w.heap.size #[.int .i64 kd, .int .i64 sz, .int .i64 gn, .string key, .slice aR nR cR, .slice aE nE cE] 45) := Lib.hid (by rw [hm11]; exact T10.out)
  have O11 : Hid (w11.ownsRow w2.heap.size 9 1 (.slice ad3 P.length cp3) P.length (scells P)) := Lib.hid (by rw [hm11]; exact O10.out)
  have Q11 : Hid (w11.ownsRow w5.heap.size 9 1 (.slice ad6 P.length cp6) P.length (scells P)) := Lib.hid (by rw [hm11]; exact Q10.out)
  have B11 : Hid (Below w.heap.size w w11) := Lib.hid (by rw [hm11]; exact below_drewsN B10.out m11)
  have L11 : Hid (w5.heap.size ≤ w11.heap.size) := Lib.hid (by rw [hm11]; have h9 := L10.out; have := L56.out; have := S5.out; show w5.heap.size ≤ w10.heap.size; omega)
  clear hm11 T10 O10 Q10
  go_wp2_with fail
  refine (markStrings_any w5.heap.size _ P.length 1 (scells P) w11 (by decide) (by omega) L11.out Q11.out).mono ?_
  rintro e w12 ⟨ys, rfl, hq12, hm12, hb12⟩
  have T12 := Lib.hid (T11.out.under hb12 (by have := S5.out; have := HBX.out; have := L3.out; have := G4.out; omega))
  have O12 := Lib.hid (ownE_left O11.out hb12 (fun g hg => by have := L9.out g hg; have := S5.out; have := HBX.out; have := G4.out; omega))
  have Q12 := Lib.hid hq12
  have M12 := Lib.hid hm12
  have B12 : Hid (Below w.heap.size w w12) := Lib.hid (B11.out.trans (hb12.mono (by have := S5.out; have := HBX.out; have := L3.out; have := G4.out; omega)))
  have hpos : ¬ ((1 : Int) + (P.length : Int) < 0) := by omega
  clear hq12 hm12 hb12 T11 O11 Q11
  go_wp2_with fail
  refine (heldStrings_any w5.heap.size _ P.length 1 ys _ (by decide) (by omega) Q12.out M12.out).mono ?_
  rintro e w13 ⟨rfl, hb13⟩
  have T13 := Lib.hid (T12.out.later hb13)
  have O13 := Lib.hid (own_below O12.out hb13)
  have Q13 := Lib.hid (own_below Q12.out hb13)
  have B13 : Hid (Below w.heap.size w w13) := Lib.hid (B12.out.trans (hb13.mono B12.out.size))
  clear hb13 T12 O12 Q12
  have c0 := T13.out.cell (j := 0) rfl
  have c1 := T13.out.cell (j := 1) rfl
  have c2 := T13.out.cell (j := 2) rfl
  have c3 := T13.out.cell (j := 3) rfl
  have c4 := T13.out.cell (j := 4) rfl
  have c5 := T13.out.cell (j := 5) rfl
  go_wp2_with fail
  clear c0 c1 c2 c3 c4 c5
  refine (toIno_any kd sz gn key aR nR cR aE nE cE R E _ (HS.out.later B13.out) hn2 (HS'.out.later B13.out) hn3).mono ?_
  rintro e w14 ⟨gR2, gE2, rfl, _, _, _, hoR, hoE, hb14⟩
  have S14 := Lib.hid (srcRec_of_own hoR)
  have V14 := Lib.hid (srcEntry_of_own hoE)
  have O14 := Lib.hid (own_below O13.out hb14)
  have Q14 := Lib.hid (own_below Q13.out hb14)
  have B14 : Hid (Below w.heap.size w w14) := Lib.hid (B13.out.trans (hb14.mono B13.out.size))
  clear hoR hoE hb14 T13 O13 Q13
  go_wp2_with fail
  refine (implInoWords_any sz gn key _ nR nR _ nE nE _ R E kd HZ.out (by omega) S14.out HF.out V14.out HF'.out).mono ?_
  rw [HP.out]
  rintro e w15 ⟨v15, rfl, ho15, hb15⟩
  obtain ⟨ad15, cp15, rfl, _, _, _⟩ := own_form ho15
  have O15 := Lib.hid (own_below O14.out hb15)
  have Q15 := Lib.hid (own_below Q14.out hb15)
  have P15 := Lib.hid ho15
  have B15 : Hid (Below w.heap.size w w15) := Lib.hid (B14.out.trans (hb15.mono B14.out.size))
  clear ho15 hb15 O14 Q14
  go_wp2_with fail
  refine (eqStrings_any ad15 ad3 P.length cp15 cp3 P _ rfl (by omega) (own_reads P15.out) (own_reads O15.out)).mono ?_
  rintro e w16 ⟨rfl, m16, hm16⟩
  have Q16 : Hid (w16.ownsRow w5.heap.size 9 1 (.slice ad6 P.length cp6) P.length ys) := Lib.hid (by rw [hm16]; exact Q15.out)
  have B16 : Hid (Below w.heap.size w w16) := Lib.hid (by rw [hm16]; exact below_drewsN B15.out m16)
  clear hm16 O15 Q15 P15
  go_wp2_with fail
  refine (heldStrings_any w5.heap.size _ P.length 1 ys _ (by decide) (by omega) Q16.out M12.out).mono ?_
  rintro e w17 ⟨rfl, hb17⟩
  have B17 : Hid (Below w.heap.size w w17) := Lib.hid (B16.out.trans (hb17.mono B16.out.size))
  clear hb17
  go_wp2
  go_ret
  exact ⟨rfl, B17.out⟩
end Go.Proofs.Ytcckhkihhhchbaa
namespace Go.Proofs.Ytcckhkihhhchbaa
open Go.Deep Go.ChangeShapes Go.WideShapes Go.RowKit

theorem cellsRecT' : Try.prog.cellsOf 24 = 3 := by kernel_rfl
theorem cellsEntryT' : Try.prog.cellsOf 34 = 2 := by kernel_rfl
theorem cellsInodeT : Try.prog.cellsOf 45 = 6 := by kernel_rfl
theorem cellsRecsT : Try.prog.cellsOf 42 = 1 := by kernel_rfl
theorem cellsEntriesT : Try.prog.cellsOf 43 = 1 := by kernel_rfl
theorem cellsTextT' : Try.prog.cellsOf 9 = 1 := by kernel_rfl
theorem cellsIntT' : Try.prog.cellsOf 3 = 1 := by kernel_rfl

theorem rec_cells {H : Type} {enc : TypeId × Value → H} {W : World} {base fuel : Nat} {sp : Nat → Bool} {held : Bool} {cs : List Value} {x : DataW H × List MemPlace}
    (h : DataW.trod enc Try.prog W base sp held fuel 24 cs = some x) : ∃ s : RecR, cs = [.int .i64 s.f0, .int .i64 s.f1, .string s.f2] ∧ s.f2.size ≤ maxLen := by
  obtain ⟨y0, y1, y2, n, _, hl, h0, h1, h2⟩ := trod_struct3 Try.underlying24 h
  rw [cellsRecT'] at hl
  match cs, hl with
  | [a, b, c], _ =>
    simp only [cellsTextT', cellsIntT', List.drop_zero, List.drop_succ_cons, List.take_succ_cons, List.take_zero] at h0 h1 h2
    obtain ⟨s0, e0, _, _⟩ := DataW.trod_int Try.underlying3 h0
    obtain ⟨s1, e1, _, _⟩ := DataW.trod_int Try.underlying3 h1
    obtain ⟨s2, e2, _, z2⟩ := DataW.trod_string Try.underlying9 h2
    exact ⟨⟨s0, s1, s2⟩, by simp at e0 e1 e2; rw [e0, e1, e2], z2⟩
theorem entry_cells {H : Type} {enc : TypeId × Value → H} {W : World} {base fuel : Nat} {sp : Nat → Bool} {held : Bool} {cs : List Value} {x : DataW H × List MemPlace}
    (h : DataW.trod enc Try.prog W base sp held fuel 34 cs = some x) : ∃ s : EntryR, cs = [.int .i64 s.f0, .string s.f1] ∧ s.f1.size ≤ maxLen := by
  obtain ⟨y0, y1, n, _, hl, h0, h1⟩ := trod_struct2 Try.underlying34 h
  rw [cellsEntryT'] at hl
  match cs, hl with
  | [a, b], _ =>
    simp only [cellsTextT', cellsIntT', List.drop_zero, List.drop_succ_cons, List.take_succ_cons, List.take_zero] at h0 h1
    obtain ⟨s0, e0, _, _⟩ := DataW.trod_int Try.underlying3 h0
    obtain ⟨s1, e1, _, z1⟩ := DataW.trod_string Try.underlying9 h1
    exact ⟨⟨s0, s1⟩, by simp at e0 e1; rw [e0, e1], z1⟩
theorem add_at1 (a : Addr) (k : Nat) (h : a.spot = none) : a.add k = ⟨a.block, a.off + k, none⟩ := by
  obtain ⟨b, o, s⟩ := a
  simp only at h
  subst h
  unfold Addr.add
  split <;> simp_all
/-- A row of elements that came in, for whatever element. -/
theorem row_of_cells {α : Type} [Inhabited α] (E : Enc α) {W : World} {ad : Addr} {len : Nat} (h0 : 0 < E.k) (each : ∀ i, i < len → ∃ s : α, W.cells? 0 (ad.add (i * E.k)) E.k = some (E.cells s)) :
    ∃ L : List α, SrcE E W (some ad) len L ∧ (∀ i, i < len → W.cells? 0 (ad.add (i * E.k)) E.k = some (E.cells (L.getD i default))) := by
  obtain ⟨S, hS⟩ := choose_lt each
  have hget : ∀ i, i < len → ((List.range len).map S).getD i default = S i := fun i hi => by simp [List.getD, hi]
  refine ⟨(List.range len).map S, ⟨by simp, fun j hj => ?_⟩, fun i hi => by rw [hget i hi]; exact hS i hi⟩
  rw [hget j hj]
  have hj3 := (World.cells?_some (hS j hj)).2.2
  have e0 := hj3 0 h0
  have hlen := E.len (S j)
  rw [show (E.cells (S j))[0]? = some ((E.cells (S j))[0]'(by omega)) from List.getElem?_eq_getElem _] at e0
  have h00 := (World.cells?_some (hS 0 (by omega))).2.2 0 h0
  have hlen0 := E.len (S 0)
  rw [show (E.cells (S 0))[0]? = some ((E.cells (S 0))[0]'(by omega)) from List.getElem?_eq_getElem _] at h00
  have hspot : ad.spot = none := by
    have := World.cell?_spot h00
    simpa [Addr.add] using this
  simp only [add_add] at e0 hj3
  rw [add_at1 ad _ hspot] at e0
  have hb : ad.block < W.heap.size := by
    rcases Nat.lt_or_ge ad.block W.heap.size with hlt | hge
    · exact hlt
    · simp [World.cell?, Array.getElem?_eq_none hge] at e0
  refine ⟨ad.block, ad.off, by obtain ⟨b, o, s⟩ := ad; simp only at hspot; rw [hspot], hb, fun o v hv => ?_⟩
  have ho : o < E.k := by
    rcases Nat.lt_or_ge o E.k with h | h
    · exact h
    · rw [List.getElem?_eq_none (by omega)] at hv; cases hv
  have e1 := hj3 o ho
  rw [add_at1 ad _ hspot, hv] at e1
  rw [Nat.add_assoc]
  exact e1
theorem recs_of_trod {H : Type} {enc : TypeId × Value → H} {W : World} {fuel : Nat} {a : Option Addr} {len cap : Nat} {x : DataW H × List MemPlace}
    (h : DataW.trod enc Try.prog W 0 (fun _ => true) true fuel 42 [.slice a len cap] = some x) : ∃ L, SrcRec W a len L ∧ FitRec L len maxLen ∧ len ≤ 9223372036854775807 := by
  rcases open_slice Try.underlying42 h with ⟨hcs, _⟩ | ⟨ad, l, c, m, n, D, Pl, hcs, _, hl, hm, hmm, _, hx⟩
  · simp at hcs
    obtain ⟨rfl, rfl, rfl⟩ := hcs
    exact ⟨[], SrcE.nil _ _ _, fun j hj => by omega, by omega⟩
  · simp at hcs hmm
    obtain ⟨rfl, rfl, rfl⟩ := hcs
    subst hmm
    rw [cellsRecT'] at hx
    have each : ∀ i, i < len → ∃ s : RecR, W.cells? 0 (ad.add (i * encRec.k)) encRec.k = some (encRec.cells s) ∧ s.f2.size ≤ maxLen := fun i hi => by
      obtain ⟨cs, h1, h2⟩ := hx i (by omega)
      obtain ⟨s, rfl, z⟩ := rec_cells h2
      exact ⟨s, h1, z⟩
    obtain ⟨L, hL, hc⟩ := row_of_cells encRec (by decide) (fun i hi => by obtain ⟨s, h1, _⟩ := each i hi; exact ⟨s, h1⟩)
    refine ⟨L, hL, fun j hj => ?_, Nat.le_trans hl (Nat.le_trans hm (by decide))⟩
    obtain ⟨s, h1, z⟩ := each j hj
    have h2 := hc j hj
    rw [h1] at h2
    have h3 := Option.some.inj h2
    simp only [encRec_cells, List.cons.injEq, Value.string.injEq] at h3
    rw [← h3.2.2.1]
    exact z
theorem entries_of_trod {H : Type} {enc : TypeId × Value → H} {W : World} {fuel : Nat} {a : Option Addr} {len cap : Nat} {x : DataW H × List MemPlace}
    (h : DataW.trod enc Try.prog W 0 (fun _ => true) true fuel 43 [.slice a len cap] = some x) : ∃ L, SrcEntry W a len L ∧ FitEntry L len maxLen ∧ len ≤ 9223372036854775807 := by
  rcases open_slice Try.underlying43 h with ⟨hcs, _⟩ | ⟨ad, l, c, m, n, D, Pl, hcs, _, hl, hm, hmm, _, hx⟩
  · simp at hcs
    obtain ⟨rfl, rfl, rfl⟩ := hcs
    exact ⟨[], SrcE.nil _ _ _, fun j hj => by omega, by omega⟩
  · simp at hcs hmm
    obtain ⟨rfl, rfl, rfl⟩ := hcs
    subst hmm
    rw [cellsEntryT'] at hx
    have each : ∀ i, i < len → ∃ s : EntryR, W.cells? 0 (ad.add (i * encEntry.k)) encEntry.k = some (encEntry.cells s) ∧ s.f1.size ≤ maxLen := fun i hi => by
      obtain ⟨cs, h1, h2⟩ := hx i (by omega)
      obtain ⟨s, rfl, z⟩ := entry_cells h2
      exact ⟨s, h1, z⟩
    obtain ⟨L, hL, hc⟩ := row_of_cells encEntry (by decide) (fun i hi => by obtain ⟨s, h1, _⟩ := each i hi; exact ⟨s, h1⟩)
    refine ⟨L, hL, fun j hj => ?_, Nat.le_trans hl (Nat.le_trans hm (by decide))⟩
    obtain ⟨s, h1, z⟩ := each j hj
    have h2 := hc j hj
    rw [h1] at h2
    have h3 := Option.some.inj h2
    simp only [encEntry_cells, List.cons.injEq, Value.string.injEq] at h3
    rw [← h3.2.1]
    exact z
/-- An inode that came in. -/
theorem ino_of_trod {H : Type} {enc : TypeId × Value → H} {W : World} {r : Reach} {b0 : Nat} {v : Value} {d : DataW H} {p : List MemPlace}
    (hv : Value.okWide Try.prog W r b0 45 v) (h : DataW.Trod enc Try.prog W 0 (fun _ => true) true 45 v d p) :
    ∃ (kd sz gn : Int) (key : ByteArray) (aR : Option Addr) (nR cR : Nat) (aE : Option Addr) (nE cE : Nat) (R : List RecR) (E : List EntryR), v = .agg #[.int .i64 kd, .int .i64 sz, .int .i64 gn, .string key, .slice aR nR cR, .slice aE nE cE]
      ∧ (-9223372036854775808 ≤ sz ∧ sz ≤ 9223372036854775807) ∧ key.size ≤ maxLen ∧ SrcRec W aR nR R ∧ FitRec R nR maxLen ∧ nR ≤ 9223372036854775807 ∧ SrcEntry W aE nE E ∧ FitEntry E nE maxLen ∧ nE ≤ 9223372036854775807 := by
  obtain ⟨cs, rfl, hsz⟩ := okWide_struct Try.underlying45 hv
  obtain ⟨l⟩ := cs
  obtain ⟨fuel, hf⟩ := h
  obtain ⟨xs, n, _, _, hl, hlen, hg⟩ := DataW.trod_struct Try.underlying45 hf
  match l, hsz.trans cellsInodeT with
  | [c0, c1, c2, c3, c4, c5], _ =>
    match xs, hlen with
    | [y0, y1, y2, y3, y4, y5], _ =>
      have g0 : DataW.trod enc Try.prog W 0 (fun _ => true) true n 3 [c0] = some y0 := by have h := hg 0 _ rfl; simpa [cellsIntT', Value.cells] using h
      have g1 : DataW.trod enc Try.prog W 0 (fun _ => true) true n 3 [c1] = some y1 := by have h := hg 1 _ rfl; simpa [cellsIntT', Value.cells] using h
      have g2 : DataW.trod enc Try.prog W 0 (fun _ => true) true n 3 [c2] = some y2 := by have h := hg 2 _ rfl; simpa [cellsIntT', Value.cells] using h
      have g3 : DataW.trod enc Try.prog W 0 (fun _ => true) true n 9 [c3] = some y3 := by have h := hg 3 _ rfl; simpa [cellsTextT', Value.cells] using h
      have g4 : DataW.trod enc Try.prog W 0 (fun _ => true) true n 42 [c4] = some y4 := by have h := hg 4 _ rfl; simpa [cellsRecsT, Value.cells] using h
      have g5 : DataW.trod enc Try.prog W 0 (fun _ => true) true n 43 [c5] = some y5 := by have h := hg 5 _ rfl; simpa [cellsEntriesT, Value.cells] using h
      obtain ⟨s0, e0, _, _⟩ := DataW.trod_int Try.underlying3 g0
      obtain ⟨s1, e1, _, w1⟩ := DataW.trod_int Try.underlying3 g1
      obtain ⟨s2, e2, _, _⟩ := DataW.trod_int Try.underlying3 g2
      obtain ⟨s3, e3, _, z3⟩ := DataW.trod_string Try.underlying9 g3
      obtain ⟨a4, n4, k4, e4⟩ : ∃ a n k, c4 = .slice a n k := by
        rcases open_slice Try.underlying42 g4 with ⟨hcs, _⟩ | ⟨ad, l, c, m, n, D, Pl, hcs, _⟩
        · simp at hcs; exact ⟨_, _, _, hcs⟩
        · simp at hcs; exact ⟨_, _, _, hcs⟩
      obtain ⟨a5, n5, k5, e5⟩ : ∃ a n k, c5 = .slice a n k := by
        rcases open_slice Try.underlying43 g5 with ⟨hcs, _⟩ | ⟨ad, l, c, m, n, D, Pl, hcs, _⟩
        · simp at hcs; exact ⟨_, _, _, hcs⟩
        · simp at hcs; exact ⟨_, _, _, hcs⟩
      subst e4 e5
      obtain ⟨R, r1, r2, r3⟩ := recs_of_trod g4
      obtain ⟨E, t1, t2, t3⟩ := entries_of_trod g5
      simp at e0 e1 e2 e3
      exact ⟨s0, s1, s2, s3, a4, n4, k4, a5, n5, k5, R, E, by rw [e0, e1, e2, e3], bounds_i64 w1, z3, r1, r2, r3, t1, t2, t3⟩
end Go.Proofs.Ytcckhkihhhchbaa
