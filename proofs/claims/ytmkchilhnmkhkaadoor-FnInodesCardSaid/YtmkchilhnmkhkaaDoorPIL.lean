/- Merged texts: InoWordsI. -/
import Derived.Test.YtmkchilhnmkhkaaDoorPIK
namespace Go.Proofs.YtmkchilhnmkhkaaDoor
open Go.RowKit Go.Proofs.YtmkchilhnmkhkaaDoor.Parts Go.Proofs.YtmkchilhnmkhkaaDoor.Hexa Go.Proofs.YtmkchilhnmkhkaaDoor.Byt

theorem file_fill {M : InoR} {R : List RecR} (hR : M.R = R) (hE : M.E.length = 0) : scells (recsTo M 0) ++ scells (R.map recWordB) = scells (fillTo M 0) := by
  have h : M.E = [] := List.eq_nil_of_length_eq_zero hE
  unfold recsTo fillTo wordsI
  rw [hR, h]
  simp [scells]
theorem dir_fill {M : InoR} {E : List EntryR} (hE : M.E = E) (hR : M.R.length = 0) : scells (recsTo M 0) ++ scells (E.map entryWordB) = scells (fillTo M 0) := by
  have h : M.R = [] := List.eq_nil_of_length_eq_zero hR
  unfold recsTo fillTo wordsI
  rw [hE, h]
  simp [scells]

section
variable (sz gn : Int) (key : ByteArray) (aR : Option Addr) (nR cR : Nat) (aE : Option Addr) (nE cE : Nat) (w : World) (R : List RecR) (E : List EntryR)

set_option maxRecDepth 100000 in
set_option maxHeartbeats 4000000 in
theorem implInoWords_file (hz : -9223372036854775808 ≤ sz ∧ sz ≤ 9223372036854775807) (hs : SrcRec w aR nR R) (hf : FitRec R nR 2000000) (hs' : SrcEntry w aE nE E) (hf' : FitEntry E nE 2000000) (h : InoOk ⟨1, sz, gn, key, R, E⟩) :
    Calls Tryd.prog 43 #[.agg #[.int .i64 1, .int .i64 sz, .int .i64 gn, .string key, .slice aR nR cR, .slice aE nE cE]] w (GivesT (inoWordsB ⟨1, sz, gn, key, R, E⟩) w) := by
  obtain ⟨i0, hi, hz0, hz1, hz2⟩ := info_parts infoText
  obtain ⟨M, hM⟩ : ∃ M : InoR, (⟨1, sz, gn, key, R, E⟩ : InoR) = M := ⟨_, rfl⟩
  have hlR : M.R.length = nR := by rw [← hM]; exact hs.len
  have hlE : M.E.length = nE := by rw [← hM]; exact hs'.len
  have hMR : M.R = R := by rw [← hM]
  have hME : M.E = E := by rw [← hM]
  have hl8 : (wordsI M).length ≤ 8 := wordsI_le (by rw [← hM]; exact h)
  have hlW : (wordsI M).length = 2 + nR + nE := by unfold wordsI; simp [hlR, hlE]; omega
  have HN := Lib.hid (inoB_yes h)
  have HR : Hid (inoWordsB M = fillTo M (8 - (2 + nR + nE))) := Lib.hid (by rw [← hlW]; exact inoWords_yes (by rw [← hM]; exact h))
  have HL8 : Hid ((inoWordsB M).length = 8) := Lib.hid (inoWords_length (by rw [← hM]; exact h))
  have HZ := Lib.hid hz
  have HF := Lib.hid hf
  have HF' := Lib.hid hf'
  have hgn := h.1
  have HGN : Hid (0 ≤ gn ∧ gn ≤ 65535) := Lib.hid hgn
  have hl8' : nR + nE ≤ 6 := by omega
  have hkind : Hid (nE = 0) := Lib.hid (by
    have x := (inoOk_file (show 0 ≤ gn ∧ gn ≤ 65535 from h.1)).1 h
    have e1 := hs.len
    have e2 := hs'.len
    rw [← e2]; exact x.2.2.2.1)
  have B0 := Lib.hid (below_bk w (inoObj 1 sz gn key aR nR cR aE nE cE))
  have K0 := Lib.hid (Bk.alloc w (inoCs 1 sz gn key aR nR cR aE nE cE) 54)
  have N0 : Hid ((w.alloc (inoObj 1 sz gn key aR nR cR aE nE cE)).heap.size = w.heap.size + 1) := Lib.hid (by simp)
  have HS := Lib.hid (hs.below B0.out (Nat.le_refl _))
  have HS' := Lib.hid (hs'.below B0.out (Nat.le_refl _))
  have HLR := Lib.hid hlR
  have HLE := Lib.hid hlE
  have HMR := Lib.hid hMR
  have HME := Lib.hid hME
  have HE0 : Hid (headB M = wordB (numTextB 1 1 ++ numTextB sz 2 ++ numTextB gn 2)) := Lib.hid (by rw [← hM]; rfl)
  have HE1 : Hid (wordB M.key = wordB key) := Lib.hid (by rw [← hM])
  have HC : Hid (∀ W : World, Calls Tryd.prog 79 #[.agg #[.int .i64 1, .int .i64 sz, .int .i64 gn, .string key, .slice aR nR cR, .slice aE nE cE]] W fun e w' => e = .returned (.iface 100 (.agg #[.int .i64 sz, .string key, .slice aR nR cR])) ∧ Below W.heap.size W w') := Lib.hid (fun W => implBody_any 1 sz gn key aR nR cR aE nE cE W)
  obtain ⟨A, hA⟩ : ∃ A, numTextB 1 1 = A := ⟨_, rfl⟩
  obtain ⟨D, hD⟩ : ∃ D, numTextB sz 2 = D := ⟨_, rfl⟩
  obtain ⟨G, hG⟩ : ∃ G, numTextB gn 2 = G := ⟨_, rfl⟩
  have hA1 : A.size ≤ 1 := by rw [← hA]; rcases numTextB_size 1 1 with e | e <;> rw [e] <;> decide
  have hD1 : D.size ≤ 2 := by rw [← hD]; rcases numTextB_size sz 2 with e | e <;> rw [e] <;> decide
  have hG1 : G.size ≤ 2 := by rw [← hG]; rcases numTextB_size gn 2 with e | e <;> rw [e] <;> decide
  have hAD : ¬ (9223372036854775807 < A.size + D.size) := by omega
  have hADG : ¬ (9223372036854775807 < A.size + D.size + G.size) := by omega
  rw [hA, hD, hG] at HE0
  have HA := Lib.hid hA
  have HD := Lib.hid hD
  have HG := Lib.hid hG
  rw [hM]
  clear hz hs hf hs' hf' h hA hD hG hM hMR hME hl8 hlW hlR hlE hgn
  go_enter Tryd.func43, Tryd.ntmps43
  go_wp2_with fail
  refine (implIno_any 1 sz gn key aR nR cR aE nE cE _ R E HZ.out (by omega) HS.out HF.out HS'.out HF'.out).mono ?_
  rw [HN.out]
  rintro e w1 ⟨rfl, hb1⟩
  have T0 := Lib.hid (K0.out.later hb1)
  have B1 : Hid (Below (w.heap.size + 1) (w.alloc (inoObj 1 sz gn key aR nR cR aE nE cE)) w1) := Lib.hid (by rw [N0.out] at hb1; exact hb1)
  clear hb1
  go_wp2
  have T0d := Lib.hid T0.out.drew
  have B1d := Lib.hid B1.out.drew
  go_region_held3 (fun w' => w'.cell? ⟨w.heap.size, 0, none⟩ = some (.int .i64 1) ∧ w'.cell? ⟨w.heap.size, 1, none⟩ = some (.int .i64 sz) ∧ w'.cell? ⟨w.heap.size, 2, none⟩ = some (.int .i64 gn))
    (first
      | exact ⟨T0d.out.cell rfl, T0d.out.cell rfl, T0d.out.cell rfl⟩
      | exact ⟨T2.out.cell rfl, T2.out.cell rfl, T2.out.cell rfl⟩
      | exact ⟨T3.out.cell rfl, T3.out.cell rfl, T3.out.cell rfl⟩
      | exact ⟨T4.out.cell rfl, T4.out.cell rfl, T4.out.cell rfl⟩
      | go_keep)
    (first
      | (go_at_call 89; (with_reducible refine (implNum_any 1 1 _ (by omega)).mono ?_); rw [HA.out]; rintro e w2 ⟨rfl, hb⟩; have T2 := Lib.hid (T0d.out.later hb); have B2 := Lib.hid (below_on B1d.out (by rw [N0.out]; exact Nat.le_refl _) hb); clear hb)
      | (go_at_call 89; (with_reducible refine (implNum_any sz 2 _ HZ.out.2).mono ?_); rw [HD.out]; rintro e w3 ⟨rfl, hb⟩; have T3 := Lib.hid (T2.out.later hb); have B3 := Lib.hid (below_on B2.out (by rw [N0.out]; exact Nat.le_refl _) hb); clear hb)
      | (go_at_call 89; (with_reducible refine (implNum_any gn 2 _ (by have := HGN.out.2; omega)).mono ?_); rw [HG.out]; rintro e w4 ⟨rfl, hb⟩; have T4 := Lib.hid (T3.out.later hb); have B4 := Lib.hid (below_on B3.out (by rw [N0.out]; exact Nat.le_refl _) hb); clear hb))
  go_wp2
  have T4d := Lib.hid T4.out.drew
  have B4d := Lib.hid B4.out.drew
  go_region_held3 (fun w' => w'.cell? ⟨w.heap.size, 3, none⟩ = some (.string key))
    (first
      | exact T4d.out.cell rfl
      | exact T5.out.cell rfl
      | exact T6.out.cell rfl
      | go_keep)
    (first
      | (go_at_call 90; (with_reducible refine (implWord_any (A ++ D ++ G) _).mono ?_); rw [← HE0.out]; rintro e w5 ⟨rfl, hb⟩; have T5 := Lib.hid (T4d.out.later hb); have B5 := Lib.hid (below_on B4d.out (by rw [N0.out]; exact Nat.le_refl _) hb); clear hb)
      | (go_at_call 90; (with_reducible refine (implWord_any key _).mono ?_); rintro e w6 ⟨rfl, hb⟩; have T6 := Lib.hid (T5.out.later hb); have B6 := Lib.hid (below_on B5.out (by rw [N0.out]; exact Nat.le_refl _) hb); clear hb))
  have S6 : Hid (w.heap.size + 1 ≤ w6.heap.size) := Lib.hid (by have := B6.out.size; rw [N0.out] at this; exact this)
  have H01 : Hid (scells (recsTo M 0) = [.string (headB M), .string (wordB key)]) := Lib.hid (by rw [recsTo_zero, HE1.out]; rfl)
  have HW0 : Hid ((w6.alloc (.cells #[.string (headB M), .string (wordB key)] 9)).ownsRow (w.heap.size + 1) 9 1 (.slice (some ⟨w6.heap.size, 0, none⟩) 2 2) 2 (scells (recsTo M 0))) := Lib.hid (by rw [H01.out]; exact World.ownsRow_lit w6 #[.string (headB M), .string (wordB key)] 2 S6.out (by decide) rfl)
  have B7 : Hid (Below (w.heap.size + 1) (w.alloc (inoObj 1 sz gn key aR nR cR aE nE cE)) (w6.alloc (.cells #[.string (headB M), .string (wordB key)] 9))) := Lib.hid (B6.out.alloc S6.out _)
  have T7 := Lib.hid (T6.out.later (below_bk w6 (.cells #[.string (headB M), .string (wordB key)] 9)))
  have c0 := T7.out.cell (j := 0) rfl
  have c1 := T7.out.cell (j := 1) rfl
  have c2 := T7.out.cell (j := 2) rfl
  have c3 := T7.out.cell (j := 3) rfl
  have c4 := T7.out.cell (j := 4) rfl
  have c5 := T7.out.cell (j := 5) rfl
  clear hAD hADG
  go_wp2_with fail
  refine (HC.out _).mono ?_
  rintro e w8 ⟨rfl, hb8⟩
  have B8 : Hid (Below (w.heap.size + 1) (w.alloc (inoObj 1 sz gn key aR nR cR aE nE cE)) w8) := Lib.hid (B7.out.trans (hb8.mono (by have := S6.out; simp; omega)))
  have S8 : Hid (w.heap.size + 1 ≤ w8.heap.size) := Lib.hid (by have h9 := hb8.size; have := S6.out; simp at h9; omega)
  have HW8 := Lib.hid (own_below HW0.out hb8)
  clear hb8 c0 c1 c2 c3 c4 c5
  have a1 := as_file (.agg #[.int .i64 sz, .string key, .slice aR nR cR]) w8
  have B9 : Hid (Below (w.heap.size + 1) (w.alloc (inoObj 1 sz gn key aR nR cR aE nE cE)) (w8.alloc (.cells #[.int .i64 sz, .string key, .slice aR nR cR] 100))) := Lib.hid (B8.out.alloc S8.out _)
  have S9 : Hid (w.heap.size + 1 ≤ (w8.alloc (.cells #[.int .i64 sz, .string key, .slice aR nR cR] 100)).heap.size) := Lib.hid (by have := S8.out; simp; omega)
  have HW9 := Lib.hid (HW8.out.alloc (.cells #[.int .i64 sz, .string key, .slice aR nR cR] 100))
  have HFL : Hid (scells (recsTo M 0) ++ scells (R.map recWordB) = scells (fillTo M 0)) := Lib.hid (by
    exact file_fill HMR.out (by rw [HLE.out]; exact hkind.out))
  go_wp2_with fail
  refine (appendRecs_any (w.alloc (inoObj 1 sz gn key aR nR cR aE nE cE)) (w.heap.size + 1) _ 2 (scells (recsTo M 0)) aR nR cR R _ (by rw [N0.out]; exact Nat.le_refl _) B9.out S9.out HS.out HF.out (by omega) HW9.out).mono ?_
  rintro e w9 ⟨v9, rfl, hown9, hb9, hs9⟩
  rw [HFL.out] at hown9
  obtain ⟨n2, hn2⟩ : ∃ n2, 2 + nR = n2 := ⟨_, rfl⟩
  have HN2 : Hid (2 + nR + nE = n2) := Lib.hid (by rw [hkind.out]; exact hn2)
  have hn8 : n2 ≤ 8 := by omega
  rw [hn2] at hown9
  have HWF := Lib.hid hown9
  have BF := Lib.hid hb9
  clear hown9 hb9 hs9 hn2
  go_wp2
  go_loopw [4] (fun v wr => ∃ k3, n2 + k3 ≤ 8 ∧ Hid (wr.ownsRow (w.heap.size + 1) 9 1 v (n2 + k3) (scells (fillTo M k3))) ∧ Hid (Below (w.heap.size + 1) (w.alloc (inoObj 1 sz gn key aR nR cR aE nE cE)) wr)) (fun v _ => 8 - rowLen v)
  case atStart => exact ⟨0, by omega, HWF, BF⟩
  case round =>
    obtain ⟨k3, hk3, HW, HB⟩ := hrel
    obtain ⟨ad, cap, rfl, hcap, hn, _⟩ := own_form HW.out
    by_cases hlt3 : n2 + k3 < 8
    · obtain ⟨T, hT⟩ : ∃ T, zeroB 8 = T := ⟨_, rfl⟩
      have HT := Lib.hid hT
      have HWN : Hid (scells (fillTo M k3) ++ [.string T] = scells (fillTo M (k3 + 1))) := Lib.hid (by rw [← fillTo_next, ← HT.out]; rfl)
      clear hT
      go_wp2_with (first
        | (go_at_call 93; (with_reducible refine (implZero_any 8 _).mono ?_); rw [HT.out]; rintro e wa ⟨rfl, hb1⟩
           have HW1 := Lib.hid (own_below HW.out hb1)
           have BG := Lib.hid (below_on HB.out (by rw [N0.out]; exact Nat.le_refl _) hb1)
           have BS : Hid (w.heap.size + 1 ≤ wa.heap.size) := Lib.hid (by have := BG.out.size; rw [N0.out] at this; exact this))
        | (at_builtin; refine wpList_append_own _ rfl (.tmp 46) (.tmp 48) 25 rfl (w.heap.size + 1) 9 i0 (.string ⟨#[]⟩) 1 16 Tryd.underlying25 hi hz0 hz1 hz2 rfl (by decide) _ _ _ rfl (HW1.out.alloc _) ⟨wa.heap.size, 0, none⟩ 1 1 [.string T] rfl rfl (World.news_of_block (heap_alloc_new _ _)) (by simp [Value.oneCell']) (by unfold maxLen; omega) (by omega) (by have := BS.out; simp; omega) ?_; intro v2 wb hown2 hgrow2 hn2))
      have BG3 := Lib.hid ((BG.out.alloc BS.out _).grown hgrow2 (by have := BS.out; simp; omega) (own_block_ge HW1.out))
      rw [HWN.out] at hown2
      have HO2 := Lib.hid hown2
      clear hown2 hgrow2 hn2 HW1 BG BS HB HW
      obtain ⟨ad2, cap2, rfl, hcap2, hn9, _⟩ := own_form HO2.out
      go_roundw
      case rel => exact ⟨k3 + 1, by omega, HO2, BG3⟩
      case measure => (simp [rowLen]; try omega)
    · have HW9 : Hid (wr.ownsRow w.heap.size 9 1 (.slice ad (n2 + k3) cap) (inoWordsB M).length (scells (inoWordsB M))) := Lib.hid (by
        have h9 := HW.out
        rw [HL8.out, HR.out, HN2.out, show 8 - n2 = k3 by omega, show 8 = n2 + k3 by omega]
        exact ownE_mono h9 (by omega))
      clear HW
      go_wp2
      go_ret
      exact ⟨_, rfl, HW9.out, B0.out.trans (HB.out.mono (by omega))⟩

set_option maxRecDepth 100000 in
set_option maxHeartbeats 4000000 in
theorem implInoWords_dir (hz : -9223372036854775808 ≤ sz ∧ sz ≤ 9223372036854775807) (hs : SrcRec w aR nR R) (hf : FitRec R nR 2000000) (hs' : SrcEntry w aE nE E) (hf' : FitEntry E nE 2000000) (h : InoOk ⟨2, sz, gn, key, R, E⟩) :
    Calls Tryd.prog 43 #[.agg #[.int .i64 2, .int .i64 sz, .int .i64 gn, .string key, .slice aR nR cR, .slice aE nE cE]] w (GivesT (inoWordsB ⟨2, sz, gn, key, R, E⟩) w) := by
  obtain ⟨i0, hi, hz0, hz1, hz2⟩ := info_parts infoText
  obtain ⟨M, hM⟩ : ∃ M : InoR, (⟨2, sz, gn, key, R, E⟩ : InoR) = M := ⟨_, rfl⟩
  have hlR : M.R.length = nR := by rw [← hM]; exact hs.len
  have hlE : M.E.length = nE := by rw [← hM]; exact hs'.len
  have hMR : M.R = R := by rw [← hM]
  have hME : M.E = E := by rw [← hM]
  have hl8 : (wordsI M).length ≤ 8 := wordsI_le (by rw [← hM]; exact h)
  have hlW : (wordsI M).length = 2 + nR + nE := by unfold wordsI; simp [hlR, hlE]; omega
  have HN := Lib.hid (inoB_yes h)
  have HR : Hid (inoWordsB M = fillTo M (8 - (2 + nR + nE))) := Lib.hid (by rw [← hlW]; exact inoWords_yes (by rw [← hM]; exact h))
  have HL8 : Hid ((inoWordsB M).length = 8) := Lib.hid (inoWords_length (by rw [← hM]; exact h))
  have HZ := Lib.hid hz
  have HF := Lib.hid hf
  have HF' := Lib.hid hf'
  have hgn := h.1
  have HGN : Hid (0 ≤ gn ∧ gn ≤ 65535) := Lib.hid hgn
  have hl8' : nR + nE ≤ 6 := by omega
  have hkind : Hid (nR = 0) := Lib.hid (by
    have x := (inoOk_dir (show 0 ≤ gn ∧ gn ≤ 65535 from h.1)).1 h
    have e1 := hs.len
    have e2 := hs'.len
    rw [← e1]; exact x.2.2.1)
  have B0 := Lib.hid (below_bk w (inoObj 2 sz gn key aR nR cR aE nE cE))
  have K0 := Lib.hid (Bk.alloc w (inoCs 2 sz gn key aR nR cR aE nE cE) 54)
  have N0 : Hid ((w.alloc (inoObj 2 sz gn key aR nR cR aE nE cE)).heap.size = w.heap.size + 1) := Lib.hid (by simp)
  have HS := Lib.hid (hs.below B0.out (Nat.le_refl _))
  have HS' := Lib.hid (hs'.below B0.out (Nat.le_refl _))
  have HLR := Lib.hid hlR
  have HLE := Lib.hid hlE
  have HMR := Lib.hid hMR
  have HME := Lib.hid hME
  have HE0 : Hid (headB M = wordB (numTextB 2 1 ++ numTextB sz 2 ++ numTextB gn 2)) := Lib.hid (by rw [← hM]; rfl)
  have HE1 : Hid (wordB M.key = wordB key) := Lib.hid (by rw [← hM])
  have HC : Hid (∀ W : World, Calls Tryd.prog 79 #[.agg #[.int .i64 2, .int .i64 sz, .int .i64 gn, .string key, .slice aR nR cR, .slice aE nE cE]] W fun e w' => e = .returned (.iface 103 (.agg #[.slice aE nE cE])) ∧ Below W.heap.size W w') := Lib.hid (fun W => implBody_any 2 sz gn key aR nR cR aE nE cE W)
  obtain ⟨A, hA⟩ : ∃ A, numTextB 2 1 = A := ⟨_, rfl⟩
  obtain ⟨D, hD⟩ : ∃ D, numTextB sz 2 = D := ⟨_, rfl⟩
  obtain ⟨G, hG⟩ : ∃ G, numTextB gn 2 = G := ⟨_, rfl⟩
  have hA1 : A.size ≤ 1 := by rw [← hA]; rcases numTextB_size 2 1 with e | e <;> rw [e] <;> decide
  have hD1 : D.size ≤ 2 := by rw [← hD]; rcases numTextB_size sz 2 with e | e <;> rw [e] <;> decide
  have hG1 : G.size ≤ 2 := by rw [← hG]; rcases numTextB_size gn 2 with e | e <;> rw [e] <;> decide
  have hAD : ¬ (9223372036854775807 < A.size + D.size) := by omega
  have hADG : ¬ (9223372036854775807 < A.size + D.size + G.size) := by omega
  rw [hA, hD, hG] at HE0
  have HA := Lib.hid hA
  have HD := Lib.hid hD
  have HG := Lib.hid hG
  rw [hM]
  clear hz hs hf hs' hf' h hA hD hG hM hMR hME hl8 hlW hlR hlE hgn
  go_enter Tryd.func43, Tryd.ntmps43
  go_wp2_with fail
  refine (implIno_any 2 sz gn key aR nR cR aE nE cE _ R E HZ.out (by omega) HS.out HF.out HS'.out HF'.out).mono ?_
  rw [HN.out]
  rintro e w1 ⟨rfl, hb1⟩
  have T0 := Lib.hid (K0.out.later hb1)
  have B1 : Hid (Below (w.heap.size + 1) (w.alloc (inoObj 2 sz gn key aR nR cR aE nE cE)) w1) := Lib.hid (by rw [N0.out] at hb1; exact hb1)
  clear hb1
  go_wp2
  have T0d := Lib.hid T0.out.drew
  have B1d := Lib.hid B1.out.drew
  go_region_held3 (fun w' => w'.cell? ⟨w.heap.size, 0, none⟩ = some (.int .i64 2) ∧ w'.cell? ⟨w.heap.size, 1, none⟩ = some (.int .i64 sz) ∧ w'.cell? ⟨w.heap.size, 2, none⟩ = some (.int .i64 gn))
    (first
      | exact ⟨T0d.out.cell rfl, T0d.out.cell rfl, T0d.out.cell rfl⟩
      | exact ⟨T2.out.cell rfl, T2.out.cell rfl, T2.out.cell rfl⟩
      | exact ⟨T3.out.cell rfl, T3.out.cell rfl, T3.out.cell rfl⟩
      | exact ⟨T4.out.cell rfl, T4.out.cell rfl, T4.out.cell rfl⟩
      | go_keep)
    (first
      | (go_at_call 89; (with_reducible refine (implNum_any 2 1 _ (by omega)).mono ?_); rw [HA.out]; rintro e w2 ⟨rfl, hb⟩; have T2 := Lib.hid (T0d.out.later hb); have B2 := Lib.hid (below_on B1d.out (by rw [N0.out]; exact Nat.le_refl _) hb); clear hb)
      | (go_at_call 89; (with_reducible refine (implNum_any sz 2 _ HZ.out.2).mono ?_); rw [HD.out]; rintro e w3 ⟨rfl, hb⟩; have T3 := Lib.hid (T2.out.later hb); have B3 := Lib.hid (below_on B2.out (by rw [N0.out]; exact Nat.le_refl _) hb); clear hb)
      | (go_at_call 89; (with_reducible refine (implNum_any gn 2 _ (by have := HGN.out.2; omega)).mono ?_); rw [HG.out]; rintro e w4 ⟨rfl, hb⟩; have T4 := Lib.hid (T3.out.later hb); have B4 := Lib.hid (below_on B3.out (by rw [N0.out]; exact Nat.le_refl _) hb); clear hb))
  go_wp2
  have T4d := Lib.hid T4.out.drew
  have B4d := Lib.hid B4.out.drew
  go_region_held3 (fun w' => w'.cell? ⟨w.heap.size, 3, none⟩ = some (.string key))
    (first
      | exact T4d.out.cell rfl
      | exact T5.out.cell rfl
      | exact T6.out.cell rfl
      | go_keep)
    (first
      | (go_at_call 90; (with_reducible refine (implWord_any (A ++ D ++ G) _).mono ?_); rw [← HE0.out]; rintro e w5 ⟨rfl, hb⟩; have T5 := Lib.hid (T4d.out.later hb); have B5 := Lib.hid (below_on B4d.out (by rw [N0.out]; exact Nat.le_refl _) hb); clear hb)
      | (go_at_call 90; (with_reducible refine (implWord_any key _).mono ?_); rintro e w6 ⟨rfl, hb⟩; have T6 := Lib.hid (T5.out.later hb); have B6 := Lib.hid (below_on B5.out (by rw [N0.out]; exact Nat.le_refl _) hb); clear hb))
  have S6 : Hid (w.heap.size + 1 ≤ w6.heap.size) := Lib.hid (by have := B6.out.size; rw [N0.out] at this; exact this)
  have H01 : Hid (scells (recsTo M 0) = [.string (headB M), .string (wordB key)]) := Lib.hid (by rw [recsTo_zero, HE1.out]; rfl)
  have HW0 : Hid ((w6.alloc (.cells #[.string (headB M), .string (wordB key)] 9)).ownsRow (w.heap.size + 1) 9 1 (.slice (some ⟨w6.heap.size, 0, none⟩) 2 2) 2 (scells (recsTo M 0))) := Lib.hid (by rw [H01.out]; exact World.ownsRow_lit w6 #[.string (headB M), .string (wordB key)] 2 S6.out (by decide) rfl)
  have B7 : Hid (Below (w.heap.size + 1) (w.alloc (inoObj 2 sz gn key aR nR cR aE nE cE)) (w6.alloc (.cells #[.string (headB M), .string (wordB key)] 9))) := Lib.hid (B6.out.alloc S6.out _)
  have T7 := Lib.hid (T6.out.later (below_bk w6 (.cells #[.string (headB M), .string (wordB key)] 9)))
  have c0 := T7.out.cell (j := 0) rfl
  have c1 := T7.out.cell (j := 1) rfl
  have c2 := T7.out.cell (j := 2) rfl
  have c3 := T7.out.cell (j := 3) rfl
  have c4 := T7.out.cell (j := 4) rfl
  have c5 := T7.out.cell (j := 5) rfl
  clear hAD hADG
  go_wp2_with fail
  refine (HC.out _).mono ?_
  rintro e w8 ⟨rfl, hb8⟩
  have B8 : Hid (Below (w.heap.size + 1) (w.alloc (inoObj 2 sz gn key aR nR cR aE nE cE)) w8) := Lib.hid (B7.out.trans (hb8.mono (by have := S6.out; simp; omega)))
  have S8 : Hid (w.heap.size + 1 ≤ w8.heap.size) := Lib.hid (by have h9 := hb8.size; have := S6.out; simp at h9; omega)
  have HW8 := Lib.hid (own_below HW0.out hb8)
  clear hb8 c0 c1 c2 c3 c4 c5
  have a1 := dir_no_file (.agg #[.slice aE nE cE]) w8
  have a2 := as_dir (.agg #[.slice aE nE cE]) w8
  have B9 : Hid (Below (w.heap.size + 1) (w.alloc (inoObj 2 sz gn key aR nR cR aE nE cE)) (w8.alloc (.cells #[.slice aE nE cE] 103))) := Lib.hid (B8.out.alloc S8.out _)
  have S9 : Hid (w.heap.size + 1 ≤ (w8.alloc (.cells #[.slice aE nE cE] 103)).heap.size) := Lib.hid (by have := S8.out; simp; omega)
  have HW9 := Lib.hid (HW8.out.alloc (.cells #[.slice aE nE cE] 103))
  have HFL : Hid (scells (recsTo M 0) ++ scells (E.map entryWordB) = scells (fillTo M 0)) := Lib.hid (by
    exact dir_fill HME.out (by rw [HLR.out]; exact hkind.out))
  go_wp2_with fail
  refine (appendEntrys_any (w.alloc (inoObj 2 sz gn key aR nR cR aE nE cE)) (w.heap.size + 1) _ 2 (scells (recsTo M 0)) aE nE cE E _ (by rw [N0.out]; exact Nat.le_refl _) B9.out S9.out HS'.out HF'.out (by omega) HW9.out).mono ?_
  rintro e w9 ⟨v9, rfl, hown9, hb9, hs9⟩
  rw [HFL.out] at hown9
  obtain ⟨n2, hn2⟩ : ∃ n2, 2 + nE = n2 := ⟨_, rfl⟩
  have HN2 : Hid (2 + nR + nE = n2) := Lib.hid (by rw [hkind.out]; omega)
  have hn8 : n2 ≤ 8 := by omega
  rw [hn2] at hown9
  have HWF := Lib.hid hown9
  have BF := Lib.hid hb9
  clear hown9 hb9 hs9 hn2
  go_wp2
  go_loopw [4] (fun v wr => ∃ k3, n2 + k3 ≤ 8 ∧ Hid (wr.ownsRow (w.heap.size + 1) 9 1 v (n2 + k3) (scells (fillTo M k3))) ∧ Hid (Below (w.heap.size + 1) (w.alloc (inoObj 2 sz gn key aR nR cR aE nE cE)) wr)) (fun v _ => 8 - rowLen v)
  case atStart => exact ⟨0, by omega, HWF, BF⟩
  case round =>
    obtain ⟨k3, hk3, HW, HB⟩ := hrel
    obtain ⟨ad, cap, rfl, hcap, hn, _⟩ := own_form HW.out
    by_cases hlt3 : n2 + k3 < 8
    · obtain ⟨T, hT⟩ : ∃ T, zeroB 8 = T := ⟨_, rfl⟩
      have HT := Lib.hid hT
      have HWN : Hid (scells (fillTo M k3) ++ [.string T] = scells (fillTo M (k3 + 1))) := Lib.hid (by rw [← fillTo_next, ← HT.out]; rfl)
      clear hT
      go_wp2_with (first
        | (go_at_call 93; (with_reducible refine (implZero_any 8 _).mono ?_); rw [HT.out]; rintro e wa ⟨rfl, hb1⟩
           have HW1 := Lib.hid (own_below HW.out hb1)
           have BG := Lib.hid (below_on HB.out (by rw [N0.out]; exact Nat.le_refl _) hb1)
           have BS : Hid (w.heap.size + 1 ≤ wa.heap.size) := Lib.hid (by have := BG.out.size; rw [N0.out] at this; exact this))
        | (at_builtin; refine wpList_append_own _ rfl (.tmp 46) (.tmp 48) 25 rfl (w.heap.size + 1) 9 i0 (.string ⟨#[]⟩) 1 16 Tryd.underlying25 hi hz0 hz1 hz2 rfl (by decide) _ _ _ rfl (HW1.out.alloc _) ⟨wa.heap.size, 0, none⟩ 1 1 [.string T] rfl rfl (World.news_of_block (heap_alloc_new _ _)) (by simp [Value.oneCell']) (by unfold maxLen; omega) (by omega) (by have := BS.out; simp; omega) ?_; intro v2 wb hown2 hgrow2 hn2))
      have BG3 := Lib.hid ((BG.out.alloc BS.out _).grown hgrow2 (by have := BS.out; simp; omega) (own_block_ge HW1.out))
      rw [HWN.out] at hown2
      have HO2 := Lib.hid hown2
      clear hown2 hgrow2 hn2 HW1 BG BS HB HW
      obtain ⟨ad2, cap2, rfl, hcap2, hn9, _⟩ := own_form HO2.out
      go_roundw
      case rel => exact ⟨k3 + 1, by omega, HO2, BG3⟩
      case measure => (simp [rowLen]; try omega)
    · have HW9 : Hid (wr.ownsRow w.heap.size 9 1 (.slice ad (n2 + k3) cap) (inoWordsB M).length (scells (inoWordsB M))) := Lib.hid (by
        have h9 := HW.out
        rw [HL8.out, HR.out, HN2.out, show 8 - n2 = k3 by omega, show 8 = n2 + k3 by omega]
        exact ownE_mono h9 (by omega))
      clear HW
      go_wp2
      go_ret
      exact ⟨_, rfl, HW9.out, B0.out.trans (HB.out.mono (by omega))⟩

set_option maxRecDepth 100000 in
set_option maxHeartbeats 4000000 in
theorem implInoWords_free (hz : -9223372036854775808 ≤ sz ∧ sz ≤ 9223372036854775807) (hs : SrcRec w aR nR R) (hf : FitRec R nR 2000000) (hs' : SrcEntry w aE nE E) (hf' : FitEntry E nE 2000000) (h : InoOk ⟨0, sz, gn, key, R, E⟩) :
    Calls Tryd.prog 43 #[.agg #[.int .i64 0, .int .i64 sz, .int .i64 gn, .string key, .slice aR nR cR, .slice aE nE cE]] w (GivesT (inoWordsB ⟨0, sz, gn, key, R, E⟩) w) := by
  obtain ⟨i0, hi, hz0, hz1, hz2⟩ := info_parts infoText
  obtain ⟨M, hM⟩ : ∃ M : InoR, (⟨0, sz, gn, key, R, E⟩ : InoR) = M := ⟨_, rfl⟩
  have hlR : M.R.length = nR := by rw [← hM]; exact hs.len
  have hlE : M.E.length = nE := by rw [← hM]; exact hs'.len
  have hMR : M.R = R := by rw [← hM]
  have hME : M.E = E := by rw [← hM]
  have hl8 : (wordsI M).length ≤ 8 := wordsI_le (by rw [← hM]; exact h)
  have hlW : (wordsI M).length = 2 + nR + nE := by unfold wordsI; simp [hlR, hlE]; omega
  have HN := Lib.hid (inoB_yes h)
  have HR : Hid (inoWordsB M = fillTo M (8 - (2 + nR + nE))) := Lib.hid (by rw [← hlW]; exact inoWords_yes (by rw [← hM]; exact h))
  have HL8 : Hid ((inoWordsB M).length = 8) := Lib.hid (inoWords_length (by rw [← hM]; exact h))
  have HZ := Lib.hid hz
  have HF := Lib.hid hf
  have HF' := Lib.hid hf'
  have hgn := h.1
  have HGN : Hid (0 ≤ gn ∧ gn ≤ 65535) := Lib.hid hgn
  have hl8' : nR + nE ≤ 6 := by omega
  have hkind : Hid (nR = 0 ∧ nE = 0) := Lib.hid (by
    have x := (inoOk_free (show 0 ≤ gn ∧ gn ≤ 65535 from h.1)).1 h
    have e1 := hs.len
    have e2 := hs'.len
    exact ⟨by rw [← e1]; exact x.2.2.1, by rw [← e2]; exact x.2.2.2⟩)
  have B0 := Lib.hid (below_bk w (inoObj 0 sz gn key aR nR cR aE nE cE))
  have K0 := Lib.hid (Bk.alloc w (inoCs 0 sz gn key aR nR cR aE nE cE) 54)
  have N0 : Hid ((w.alloc (inoObj 0 sz gn key aR nR cR aE nE cE)).heap.size = w.heap.size + 1) := Lib.hid (by simp)
  have HS := Lib.hid (hs.below B0.out (Nat.le_refl _))
  have HS' := Lib.hid (hs'.below B0.out (Nat.le_refl _))
  have HLR := Lib.hid hlR
  have HLE := Lib.hid hlE
  have HMR := Lib.hid hMR
  have HME := Lib.hid hME
  have HE0 : Hid (headB M = wordB (numTextB 0 1 ++ numTextB sz 2 ++ numTextB gn 2)) := Lib.hid (by rw [← hM]; rfl)
  have HE1 : Hid (wordB M.key = wordB key) := Lib.hid (by rw [← hM])
  have HC : Hid (∀ W : World, Calls Tryd.prog 79 #[.agg #[.int .i64 0, .int .i64 sz, .int .i64 gn, .string key, .slice aR nR cR, .slice aE nE cE]] W fun e w' => e = .returned (.iface 115 (.agg #[])) ∧ Below W.heap.size W w') := Lib.hid (fun W => implBody_any 0 sz gn key aR nR cR aE nE cE W)
  obtain ⟨A, hA⟩ : ∃ A, numTextB 0 1 = A := ⟨_, rfl⟩
  obtain ⟨D, hD⟩ : ∃ D, numTextB sz 2 = D := ⟨_, rfl⟩
  obtain ⟨G, hG⟩ : ∃ G, numTextB gn 2 = G := ⟨_, rfl⟩
  have hA1 : A.size ≤ 1 := by rw [← hA]; rcases numTextB_size 0 1 with e | e <;> rw [e] <;> decide
  have hD1 : D.size ≤ 2 := by rw [← hD]; rcases numTextB_size sz 2 with e | e <;> rw [e] <;> decide
  have hG1 : G.size ≤ 2 := by rw [← hG]; rcases numTextB_size gn 2 with e | e <;> rw [e] <;> decide
  have hAD : ¬ (9223372036854775807 < A.size + D.size) := by omega
  have hADG : ¬ (9223372036854775807 < A.size + D.size + G.size) := by omega
  rw [hA, hD, hG] at HE0
  have HA := Lib.hid hA
  have HD := Lib.hid hD
  have HG := Lib.hid hG
  rw [hM]
  clear hz hs hf hs' hf' h hA hD hG hM hMR hME hl8 hlW hlR hlE hgn
  go_enter Tryd.func43, Tryd.ntmps43
  go_wp2_with fail
  refine (implIno_any 0 sz gn key aR nR cR aE nE cE _ R E HZ.out (by omega) HS.out HF.out HS'.out HF'.out).mono ?_
  rw [HN.out]
  rintro e w1 ⟨rfl, hb1⟩
  have T0 := Lib.hid (K0.out.later hb1)
  have B1 : Hid (Below (w.heap.size + 1) (w.alloc (inoObj 0 sz gn key aR nR cR aE nE cE)) w1) := Lib.hid (by rw [N0.out] at hb1; exact hb1)
  clear hb1
  go_wp2
  have T0d := Lib.hid T0.out.drew
  have B1d := Lib.hid B1.out.drew
  go_region_held3 (fun w' => w'.cell? ⟨w.heap.size, 0, none⟩ = some (.int .i64 0) ∧ w'.cell? ⟨w.heap.size, 1, none⟩ = some (.int .i64 sz) ∧ w'.cell? ⟨w.heap.size, 2, none⟩ = some (.int .i64 gn))
    (first
      | exact ⟨T0d.out.cell rfl, T0d.out.cell rfl, T0d.out.cell rfl⟩
      | exact ⟨T2.out.cell rfl, T2.out.cell rfl, T2.out.cell rfl⟩
      | exact ⟨T3.out.cell rfl, T3.out.cell rfl, T3.out.cell rfl⟩
      | exact ⟨T4.out.cell rfl, T4.out.cell rfl, T4.out.cell rfl⟩
      | go_keep)
    (first
      | (go_at_call 89; (with_reducible refine (implNum_any 0 1 _ (by omega)).mono ?_); rw [HA.out]; rintro e w2 ⟨rfl, hb⟩; have T2 := Lib.hid (T0d.out.later hb); have B2 := Lib.hid (below_on B1d.out (by rw [N0.out]; exact Nat.le_refl _) hb); clear hb)
      | (go_at_call 89; (with_reducible refine (implNum_any sz 2 _ HZ.out.2).mono ?_); rw [HD.out]; rintro e w3 ⟨rfl, hb⟩; have T3 := Lib.hid (T2.out.later hb); have B3 := Lib.hid (below_on B2.out (by rw [N0.out]; exact Nat.le_refl _) hb); clear hb)
      | (go_at_call 89; (with_reducible refine (implNum_any gn 2 _ (by have := HGN.out.2; omega)).mono ?_); rw [HG.out]; rintro e w4 ⟨rfl, hb⟩; have T4 := Lib.hid (T3.out.later hb); have B4 := Lib.hid (below_on B3.out (by rw [N0.out]; exact Nat.le_refl _) hb); clear hb))
  go_wp2
  have T4d := Lib.hid T4.out.drew
  have B4d := Lib.hid B4.out.drew
  go_region_held3 (fun w' => w'.cell? ⟨w.heap.size, 3, none⟩ = some (.string key))
    (first
      | exact T4d.out.cell rfl
      | exact T5.out.cell rfl
      | exact T6.out.cell rfl
      | go_keep)
    (first
      | (go_at_call 90; (with_reducible refine (implWord_any (A ++ D ++ G) _).mono ?_); rw [← HE0.out]; rintro e w5 ⟨rfl, hb⟩; have T5 := Lib.hid (T4d.out.later hb); have B5 := Lib.hid (below_on B4d.out (by rw [N0.out]; exact Nat.le_refl _) hb); clear hb)
      | (go_at_call 90; (with_reducible refine (implWord_any key _).mono ?_); rintro e w6 ⟨rfl, hb⟩; have T6 := Lib.hid (T5.out.later hb); have B6 := Lib.hid (below_on B5.out (by rw [N0.out]; exact Nat.le_refl _) hb); clear hb))
  have S6 : Hid (w.heap.size + 1 ≤ w6.heap.size) := Lib.hid (by have := B6.out.size; rw [N0.out] at this; exact this)
  have H01 : Hid (scells (recsTo M 0) = [.string (headB M), .string (wordB key)]) := Lib.hid (by rw [recsTo_zero, HE1.out]; rfl)
  have HW0 : Hid ((w6.alloc (.cells #[.string (headB M), .string (wordB key)] 9)).ownsRow (w.heap.size + 1) 9 1 (.slice (some ⟨w6.heap.size, 0, none⟩) 2 2) 2 (scells (recsTo M 0))) := Lib.hid (by rw [H01.out]; exact World.ownsRow_lit w6 #[.string (headB M), .string (wordB key)] 2 S6.out (by decide) rfl)
  have B7 : Hid (Below (w.heap.size + 1) (w.alloc (inoObj 0 sz gn key aR nR cR aE nE cE)) (w6.alloc (.cells #[.string (headB M), .string (wordB key)] 9))) := Lib.hid (B6.out.alloc S6.out _)
  have T7 := Lib.hid (T6.out.later (below_bk w6 (.cells #[.string (headB M), .string (wordB key)] 9)))
  have c0 := T7.out.cell (j := 0) rfl
  have c1 := T7.out.cell (j := 1) rfl
  have c2 := T7.out.cell (j := 2) rfl
  have c3 := T7.out.cell (j := 3) rfl
  have c4 := T7.out.cell (j := 4) rfl
  have c5 := T7.out.cell (j := 5) rfl
  clear hAD hADG
  go_wp2_with fail
  refine (HC.out _).mono ?_
  rintro e w8 ⟨rfl, hb8⟩
  have B8 : Hid (Below (w.heap.size + 1) (w.alloc (inoObj 0 sz gn key aR nR cR aE nE cE)) w8) := Lib.hid (B7.out.trans (hb8.mono (by have := S6.out; simp; omega)))
  have S8 : Hid (w.heap.size + 1 ≤ w8.heap.size) := Lib.hid (by have h9 := hb8.size; have := S6.out; simp at h9; omega)
  have HW8 := Lib.hid (own_below HW0.out hb8)
  clear hb8 c0 c1 c2 c3 c4 c5
  have a1 := free_no_file (.agg #[]) w8
  have a2 := free_no_dir (.agg #[]) w8
  have HFL : Hid (scells (recsTo M 0) = scells (fillTo M 0)) := Lib.hid (by
    have h9 : recsTo M 0 = entsTo M 0 := by rw [← recsTo_all M, HLR.out, hkind.out.1]
    have h8 : entsTo M 0 = fillTo M 0 := by rw [← entsTo_all M, HLE.out, hkind.out.2]
    rw [h9, h8])
  obtain ⟨n2, hn2⟩ : ∃ n2, 2 = n2 := ⟨_, rfl⟩
  have HN2 : Hid (2 + nR + nE = n2) := Lib.hid (by rw [hkind.out.1, hkind.out.2]; exact hn2)
  have hn8 : n2 ≤ 8 := by omega
  have hown9 := HW8.out
  rw [HFL.out] at hown9
  have HWF : Hid (w8.ownsRow (w.heap.size + 1) 9 1 (.slice (some ⟨w6.heap.size, 0, none⟩) 2 2) (n2 + 0) (scells (fillTo M 0))) := Lib.hid (by rw [← hn2]; exact hown9)
  have BF := B8
  clear hown9 hn2
  go_wp2
  go_loopw [4] (fun v wr => ∃ k3, n2 + k3 ≤ 8 ∧ Hid (wr.ownsRow (w.heap.size + 1) 9 1 v (n2 + k3) (scells (fillTo M k3))) ∧ Hid (Below (w.heap.size + 1) (w.alloc (inoObj 0 sz gn key aR nR cR aE nE cE)) wr)) (fun v _ => 8 - rowLen v)
  case atStart => exact ⟨0, by omega, HWF, BF⟩
  case round =>
    obtain ⟨k3, hk3, HW, HB⟩ := hrel
    obtain ⟨ad, cap, rfl, hcap, hn, _⟩ := own_form HW.out
    by_cases hlt3 : n2 + k3 < 8
    · obtain ⟨T, hT⟩ : ∃ T, zeroB 8 = T := ⟨_, rfl⟩
      have HT := Lib.hid hT
      have HWN : Hid (scells (fillTo M k3) ++ [.string T] = scells (fillTo M (k3 + 1))) := Lib.hid (by rw [← fillTo_next, ← HT.out]; rfl)
      clear hT
      go_wp2_with (first
        | (go_at_call 93; (with_reducible refine (implZero_any 8 _).mono ?_); rw [HT.out]; rintro e wa ⟨rfl, hb1⟩
           have HW1 := Lib.hid (own_below HW.out hb1)
           have BG := Lib.hid (below_on HB.out (by rw [N0.out]; exact Nat.le_refl _) hb1)
           have BS : Hid (w.heap.size + 1 ≤ wa.heap.size) := Lib.hid (by have := BG.out.size; rw [N0.out] at this; exact this))
        | (at_builtin; refine wpList_append_own _ rfl (.tmp 46) (.tmp 48) 25 rfl (w.heap.size + 1) 9 i0 (.string ⟨#[]⟩) 1 16 Tryd.underlying25 hi hz0 hz1 hz2 rfl (by decide) _ _ _ rfl (HW1.out.alloc _) ⟨wa.heap.size, 0, none⟩ 1 1 [.string T] rfl rfl (World.news_of_block (heap_alloc_new _ _)) (by simp [Value.oneCell']) (by unfold maxLen; omega) (by omega) (by have := BS.out; simp; omega) ?_; intro v2 wb hown2 hgrow2 hn2))
      have BG3 := Lib.hid ((BG.out.alloc BS.out _).grown hgrow2 (by have := BS.out; simp; omega) (own_block_ge HW1.out))
      rw [HWN.out] at hown2
      have HO2 := Lib.hid hown2
      clear hown2 hgrow2 hn2 HW1 BG BS HB HW
      obtain ⟨ad2, cap2, rfl, hcap2, hn9, _⟩ := own_form HO2.out
      go_roundw
      case rel => exact ⟨k3 + 1, by omega, HO2, BG3⟩
      case measure => (simp [rowLen]; try omega)
    · have HW9 : Hid (wr.ownsRow w.heap.size 9 1 (.slice ad (n2 + k3) cap) (inoWordsB M).length (scells (inoWordsB M))) := Lib.hid (by
        have h9 := HW.out
        rw [HL8.out, HR.out, HN2.out, show 8 - n2 = k3 by omega, show 8 = n2 + k3 by omega]
        exact ownE_mono h9 (by omega))
      clear HW
      go_wp2
      go_ret
      exact ⟨_, rfl, HW9.out, B0.out.trans (HB.out.mono (by omega))⟩


set_option maxRecDepth 100000 in
set_option maxHeartbeats 1000000 in
theorem implInoWords_no (kd : Int) (hz : -9223372036854775808 ≤ sz ∧ sz ≤ 9223372036854775807) (hn : nE ≤ 9223372036854775807) (hs : SrcRec w aR nR R) (hf : FitRec R nR 2000000) (hs' : SrcEntry w aE nE E) (hf' : FitEntry E nE 2000000) (h : ¬ InoOk ⟨kd, sz, gn, key, R, E⟩) :
    Calls Tryd.prog 43 #[.agg #[.int .i64 kd, .int .i64 sz, .int .i64 gn, .string key, .slice aR nR cR, .slice aE nE cE]] w (GivesT [] w) := by
  have HN := Lib.hid (inoB_no h)
  have HZ := Lib.hid hz
  have HNE := Lib.hid hn
  have HF := Lib.hid hf
  have HF' := Lib.hid hf'
  have B0 := Lib.hid (below_bk w (inoObj kd sz gn key aR nR cR aE nE cE))
  have HS := Lib.hid (hs.below B0.out (Nat.le_refl _))
  have HS' := Lib.hid (hs'.below B0.out (Nat.le_refl _))
  clear hz hs hf hs' hf' h hn
  go_enter Tryd.func43, Tryd.ntmps43
  go_wp2_with fail
  refine (implIno_any kd sz gn key aR nR cR aE nE cE _ R E HZ.out HNE.out HS.out HF.out HS'.out HF'.out).mono ?_
  rw [HN.out]
  rintro e w1 ⟨rfl, hb1⟩
  have B1 : Hid (Below w.heap.size w w1) := Lib.hid (below_on B0.out (Nat.le_refl _) hb1)
  clear hb1
  go_wp2
  go_ret
  exact ⟨_, rfl, World.ownsRow_nil _ _ _ _, B1.out⟩

theorem implInoWords_any (kd : Int) (hz : -9223372036854775808 ≤ sz ∧ sz ≤ 9223372036854775807) (hn : nE ≤ 9223372036854775807) (hs : SrcRec w aR nR R) (hf : FitRec R nR 2000000) (hs' : SrcEntry w aE nE E) (hf' : FitEntry E nE 2000000) :
    Calls Tryd.prog 43 #[.agg #[.int .i64 kd, .int .i64 sz, .int .i64 gn, .string key, .slice aR nR cR, .slice aE nE cE]] w (GivesT (inoWordsB ⟨kd, sz, gn, key, R, E⟩) w) := by
  by_cases h : InoOk ⟨kd, sz, gn, key, R, E⟩
  · have h9 := h
    rcases h9 with ⟨_, ⟨e, _⟩ | ⟨e, _⟩ | ⟨e, _⟩⟩
    · obtain rfl : kd = 0 := e
      exact implInoWords_free sz gn key aR nR cR aE nE cE w R E hz hs hf hs' hf' h
    · obtain rfl : kd = 1 := e
      exact implInoWords_file sz gn key aR nR cR aE nE cE w R E hz hs hf hs' hf' h
    · obtain rfl : kd = 2 := e
      exact implInoWords_dir sz gn key aR nR cR aE nE cE w R E hz hs hf hs' hf' h
  · rw [inoWords_no h]
    exact implInoWords_no sz gn key aR nR cR aE nE cE w R E kd hz hn hs hf hs' hf' h
end
end Go.Proofs.YtmkchilhnmkhkaaDoor
