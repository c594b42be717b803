/- Merged texts: InoWordsI, WordsImpl, StImplC, WordsI, AtI, PlAt, CutImport, PwImpl, PwSt, WLoop, GeoS, WordsS, AtS, PlSAt. -/
import Derived.Test.YtmkchilhnmkhkabGreatP15ZE
import Derived.Test.YtmkchilhnmkhkabGreatRows
import Derived.Deep.RegionHeld3
import Derived.Deep.DeepCutAuto
namespace Go.Proofs.YtmkchilhnmkhkabGreat
open Go.RowKit Go.Proofs.YtmkchilhnmkhkabGreat.Parts Go.Proofs.YtmkchilhnmkhkabGreat.Hexa Go.Proofs.YtmkchilhnmkhkabGreat.Byt

theorem file_fill {M : InoR} {R : List RecR} (hR : M.R = R) (hE : M.E.length = 0) : scells (recsTo M 0) ++ scells (R.map recWordB) = scells (fillTo M 0) := by
  have h : M.E = [] := List.eq_nil_of_length_eq_zero hE
  unfold recsTo fillTo wordsI
  rw [hR, h]
  simp [scells]
theorem dir_fill {M : InoR} {E : List EntryR} (hE : M.E = E) (hR : M.R.length = 0) : scells (recsTo M 0) ++ scells (E.map entryWordB) = scells (fillTo M 0) := by
  have h : M.R = [] := List.eq_nil_of_length_eq_zero hR
  unfold recsTo fillTo wordsI
  rw [hE, h]
  simp [scells]

section
variable (sz gn : Int) (key : ByteArray) (aR : Option Addr) (nR cR : Nat) (aE : Option Addr) (nE cE : Nat) (w : World) (R : List RecR) (E : List EntryR)

set_option maxRecDepth 100000 in
set_option maxHeartbeats 4000000 in
theorem implInoWords_file (hz : -9223372036854775808 ≤ sz ∧ sz ≤ 9223372036854775807) (hs : SrcRec w aR nR R) (hf : FitRec R nR 2000000) (hs' : SrcEntry w aE nE E) (hf' : FitEntry E nE 2000000) (h : InoOk ⟨1, sz, gn, key, R, E⟩) :
    Calls Tryz.prog 30 #[.agg #[.int .i64 1, .int .i64 sz, .int .i64 gn, .string key, .slice aR nR cR, .slice aE nE cE]] w (GivesT (inoWordsB ⟨1, sz, gn, key, R, E⟩) w) := by
  obtain ⟨i0, hi, hz0, hz1, hz2⟩ := info_parts infoText
  obtain ⟨M, hM⟩ : ∃ M : InoR, (⟨1, sz, gn, key, R, E⟩ : InoR) = M := ⟨_, rfl⟩
  have hlR : M.R.length = nR := by rw [← hM]; exact hs.len
  have hlE : M.E.length = nE := by rw [← hM]; exact hs'.len
  have hMR : M.R = R := by rw [← hM]
  have hME : M.E = E := by rw [← hM]
  have hl8 : (wordsI M).length ≤ 8 := wordsI_le (by rw [← hM]; exact h)
  have hlW : (wordsI M).length = 2 + nR + nE := by unfold wordsI; simp [hlR, hlE]; omega
  have HN := Lib.hid (inoB_yes h)
  have HR : Hid (inoWordsB M = fillTo M (8 - (2 + nR + nE))) := Lib.hid (by rw [← hlW]; exact inoWords_yes (by rw [← hM]; exact h))
  have HL8 : Hid ((inoWordsB M).length = 8) := Lib.hid (inoWords_length (by rw [← hM]; exact h))
  have HZ := Lib.hid hz
  have HF := Lib.hid hf
  have HF' := Lib.hid hf'
  have hgn := h.1
  have HGN : Hid (0 ≤ gn ∧ gn ≤ 65535) := Lib.hid hgn
  have hl8' : nR + nE ≤ 6 := by omega
  have hkind : Hid (nE = 0) := Lib.hid (by
    have x := (inoOk_file (show 0 ≤ gn ∧ gn ≤ 65535 from h.1)).1 h
    have e1 := hs.len
    have e2 := hs'.len
    rw [← e2]; exact x.2.2.2.1)
  have B0 := Lib.hid (below_bk w (inoObj 1 sz gn key aR nR cR aE nE cE))
  have K0 := Lib.hid (Bk.alloc w (inoCs 1 sz gn key aR nR cR aE nE cE) 57)
  have N0 : Hid ((w.alloc (inoObj 1 sz gn key aR nR cR aE nE cE)).heap.size = w.heap.size + 1) := Lib.hid (by simp)
  have HS := Lib.hid (hs.below B0.out (Nat.le_refl _))
  have HS' := Lib.hid (hs'.below B0.out (Nat.le_refl _))
  have HLR := Lib.hid hlR
  have HLE := Lib.hid hlE
  have HMR := Lib.hid hMR
  have HME := Lib.hid hME
  have HE0 : Hid (headB M = wordB (numTextB 1 1 ++ numTextB sz 2 ++ numTextB gn 2)) := Lib.hid (by rw [← hM]; rfl)
  have HE1 : Hid (wordB M.key = wordB key) := Lib.hid (by rw [← hM])
  have HC : Hid (∀ W : World, Calls Tryz.prog 64 #[.agg #[.int .i64 1, .int .i64 sz, .int .i64 gn, .string key, .slice aR nR cR, .slice aE nE cE]] W fun e w' => e = .returned (.iface 91 (.agg #[.int .i64 sz, .string key, .slice aR nR cR])) ∧ Below W.heap.size W w') := Lib.hid (fun W => implBody_any 1 sz gn key aR nR cR aE nE cE W)
  obtain ⟨A, hA⟩ : ∃ A, numTextB 1 1 = A := ⟨_, rfl⟩
  obtain ⟨D, hD⟩ : ∃ D, numTextB sz 2 = D := ⟨_, rfl⟩
  obtain ⟨G, hG⟩ : ∃ G, numTextB gn 2 = G := ⟨_, rfl⟩
  have hA1 : A.size ≤ 1 := by rw [← hA]; rcases numTextB_size 1 1 with e | e <;> rw [e] <;> decide
  have hD1 : D.size ≤ 2 := by rw [← hD]; rcases numTextB_size sz 2 with e | e <;> rw [e] <;> decide
  have hG1 : G.size ≤ 2 := by rw [← hG]; rcases numTextB_size gn 2 with e | e <;> rw [e] <;> decide
  have hAD : ¬ (9223372036854775807 < A.size + D.size) := by omega
  have hADG : ¬ (9223372036854775807 < A.size + D.size + G.size) := by omega
  rw [hA, hD, hG] at HE0
  have HA := Lib.hid hA
  have HD := Lib.hid hD
  have HG := Lib.hid hG
  rw [hM]
  clear hz hs hf hs' hf' h hA hD hG hM hMR hME hl8 hlW hlR hlE hgn
  go_enter Tryz.func30, Tryz.ntmps30
  go_wp2_with fail
  refine (implIno_any 1 sz gn key aR nR cR aE nE cE _ R E HZ.out (by omega) HS.out HF.out HS'.out HF'.out).mono ?_
  rw [HN.out]
  rintro e w1 ⟨rfl, hb1⟩
  have T0 := Lib.hid (K0.out.later hb1)
  have B1 : Hid (Below (w.heap.size + 1) (w.alloc (inoObj 1 sz gn key aR nR cR aE nE cE)) w1) := Lib.hid (by rw [N0.out] at hb1; exact hb1)
  clear hb1
  go_wp2
  have T0d := Lib.hid T0.out.drew
  have B1d := Lib.hid B1.out.drew
  go_region_held3 (fun w' => w'.cell? ⟨w.heap.size, 0, none⟩ = some (.int .i64 1) ∧ w'.cell? ⟨w.heap.size, 1, none⟩ = some (.int .i64 sz) ∧ w'.cell? ⟨w.heap.size, 2, none⟩ = some (.int .i64 gn))
    (first
      | exact ⟨T0d.out.cell rfl, T0d.out.cell rfl, T0d.out.cell rfl⟩
      | exact ⟨T2.out.cell rfl, T2.out.cell rfl, T2.out.cell rfl⟩
      | exact ⟨T3.out.cell rfl, T3.out.cell rfl, T3.out.cell rfl⟩
      | exact ⟨T4.out.cell rfl, T4.out.cell rfl, T4.out.cell rfl⟩
      | go_keep)
    (first
      | (go_at_call 62; (with_reducible refine (implNum_any 1 1 _ (by omega)).mono ?_); rw [HA.out]; rintro e w2 ⟨rfl, hb⟩; have T2 := Lib.hid (T0d.out.later hb); have B2 := Lib.hid (below_on B1d.out (by rw [N0.out]; exact Nat.le_refl _) hb); clear hb)
      | (go_at_call 62; (with_reducible refine (implNum_any sz 2 _ HZ.out.2).mono ?_); rw [HD.out]; rintro e w3 ⟨rfl, hb⟩; have T3 := Lib.hid (T2.out.later hb); have B3 := Lib.hid (below_on B2.out (by rw [N0.out]; exact Nat.le_refl _) hb); clear hb)
      | (go_at_call 62; (with_reducible refine (implNum_any gn 2 _ (by have := HGN.out.2; omega)).mono ?_); rw [HG.out]; rintro e w4 ⟨rfl, hb⟩; have T4 := Lib.hid (T3.out.later hb); have B4 := Lib.hid (below_on B3.out (by rw [N0.out]; exact Nat.le_refl _) hb); clear hb))
  go_wp2
  have T4d := Lib.hid T4.out.drew
  have B4d := Lib.hid B4.out.drew
  go_region_held3 (fun w' => w'.cell? ⟨w.heap.size, 3, none⟩ = some (.string key))
    (first
      | exact T4d.out.cell rfl
      | exact T5.out.cell rfl
      | exact T6.out.cell rfl
      | go_keep)
    (first
      | (go_at_call 63; (with_reducible refine (implWord_any (A ++ D ++ G) _).mono ?_); rw [← HE0.out]; rintro e w5 ⟨rfl, hb⟩; have T5 := Lib.hid (T4d.out.later hb); have B5 := Lib.hid (below_on B4d.out (by rw [N0.out]; exact Nat.le_refl _) hb); clear hb)
      | (go_at_call 63; (with_reducible refine (implWord_any key _).mono ?_); rintro e w6 ⟨rfl, hb⟩; have T6 := Lib.hid (T5.out.later hb); have B6 := Lib.hid (below_on B5.out (by rw [N0.out]; exact Nat.le_refl _) hb); clear hb))
  have S6 : Hid (w.heap.size + 1 ≤ w6.heap.size) := Lib.hid (by have := B6.out.size; rw [N0.out] at this; exact this)
  have H01 : Hid (scells (recsTo M 0) = [.string (headB M), .string (wordB key)]) := Lib.hid (by rw [recsTo_zero, HE1.out]; rfl)
  have HW0 : Hid ((w6.alloc (.cells #[.string (headB M), .string (wordB key)] 9)).ownsRow (w.heap.size + 1) 9 1 (.slice (some ⟨w6.heap.size, 0, none⟩) 2 2) 2 (scells (recsTo M 0))) := Lib.hid (by rw [H01.out]; exact World.ownsRow_lit w6 #[.string (headB M), .string (wordB key)] 2 S6.out (by decide) rfl)
  have B7 : Hid (Below (w.heap.size + 1) (w.alloc (inoObj 1 sz gn key aR nR cR aE nE cE)) (w6.alloc (.cells #[.string (headB M), .string (wordB key)] 9))) := Lib.hid (B6.out.alloc S6.out _)
  have T7 := Lib.hid (T6.out.later (below_bk w6 (.cells #[.string (headB M), .string (wordB key)] 9)))
  have c0 := T7.out.cell (j := 0) rfl
  have c1 := T7.out.cell (j := 1) rfl
  have c2 := T7.out.cell (j := 2) rfl
  have c3 := T7.out.cell (j := 3) rfl
  have c4 := T7.out.cell (j := 4) rfl
  have c5 := T7.out.cell (j := 5) rfl
  clear hAD hADG
  go_wp2_with fail
  refine (HC.out _).mono ?_
  rintro e w8 ⟨rfl, hb8⟩
  have B8 : Hid (Below (w.heap.size + 1) (w.alloc (inoObj 1 sz gn key aR nR cR aE nE cE)) w8) := Lib.hid (B7.out.trans (hb8.mono (by have := S6.out; simp; omega)))
  have S8 : Hid (w.heap.size + 1 ≤ w8.heap.size) := Lib.hid (by have h9 := hb8.size; have := S6.out; simp at h9; omega)
  have HW8 := Lib.hid (own_below HW0.out hb8)
  clear hb8 c0 c1 c2 c3 c4 c5
  have a1 := as_file (.agg #[.int .i64 sz, .string key, .slice aR nR cR]) w8
  have B9 : Hid (Below (w.heap.size + 1) (w.alloc (inoObj 1 sz gn key aR nR cR aE nE cE)) (w8.alloc (.cells #[.int .i64 sz, .string key, .slice aR nR cR] 91))) := Lib.hid (B8.out.alloc S8.out _)
  have S9 : Hid (w.heap.size + 1 ≤ (w8.alloc (.cells #[.int .i64 sz, .string key, .slice aR nR cR] 91)).heap.size) := Lib.hid (by have := S8.out; simp; omega)
  have HW9 := Lib.hid (HW8.out.alloc (.cells #[.int .i64 sz, .string key, .slice aR nR cR] 91))
  have HFL : Hid (scells (recsTo M 0) ++ scells (R.map recWordB) = scells (fillTo M 0)) := Lib.hid (by
    exact file_fill HMR.out (by rw [HLE.out]; exact hkind.out))
  go_wp2_with fail
  refine (appendRecs_any (w.alloc (inoObj 1 sz gn key aR nR cR aE nE cE)) (w.heap.size + 1) _ 2 (scells (recsTo M 0)) aR nR cR R _ (by rw [N0.out]; exact Nat.le_refl _) B9.out S9.out HS.out HF.out (by omega) HW9.out).mono ?_
  rintro e w9 ⟨v9, rfl, hown9, hb9, hs9⟩
  rw [HFL.out] at hown9
  obtain ⟨n2, hn2⟩ : ∃ n2, 2 + nR = n2 := ⟨_, rfl⟩
  have HN2 : Hid (2 + nR + nE = n2) := Lib.hid (by rw [hkind.out]; exact hn2)
  have hn8 : n2 ≤ 8 := by omega
  rw [hn2] at hown9
  have HWF := Lib.hid hown9
  have BF := Lib.hid hb9
  clear hown9 hb9 hs9 hn2
  go_wp2
  go_loopw [4] (fun v wr => ∃ k3, n2 + k3 ≤ 8 ∧ Hid (wr.ownsRow (w.heap.size + 1) 9 1 v (n2 + k3) (scells (fillTo M k3))) ∧ Hid (Below (w.heap.size + 1) (w.alloc (inoObj 1 sz gn key aR nR cR aE nE cE)) wr)) (fun v _ => 8 - rowLen v)
  case atStart => exact ⟨0, by omega, HWF, BF⟩
  case round =>
    obtain ⟨k3, hk3, HW, HB⟩ := hrel
    obtain ⟨ad, cap, rfl, hcap, hn, _⟩ := own_form HW.out
    by_cases hlt3 : n2 + k3 < 8
    · obtain ⟨T, hT⟩ : ∃ T, zeroB 8 = T := ⟨_, rfl⟩
      have HT := Lib.hid hT
      have HWN : Hid (scells (fillTo M k3) ++ [.string T] = scells (fillTo M (k3 + 1))) := Lib.hid (by rw [← fillTo_next, ← HT.out]; rfl)
      clear hT
      go_wp2_with (first
        | (go_at_call 69; (with_reducible refine (implZero_any 8 _).mono ?_); rw [HT.out]; rintro e wa ⟨rfl, hb1⟩
           have HW1 := Lib.hid (own_below HW.out hb1)
           have BG := Lib.hid (below_on HB.out (by rw [N0.out]; exact Nat.le_refl _) hb1)
           have BS : Hid (w.heap.size + 1 ≤ wa.heap.size) := Lib.hid (by have := BG.out.size; rw [N0.out] at this; exact this))
        | (at_builtin; refine wpList_append_own _ rfl (.tmp 46) (.tmp 48) 52 rfl (w.heap.size + 1) 9 i0 (.string ⟨#[]⟩) 1 16 Tryz.underlying52 hi hz0 hz1 hz2 rfl (by decide) _ _ _ rfl (HW1.out.alloc _) ⟨wa.heap.size, 0, none⟩ 1 1 [.string T] rfl rfl (World.news_of_block (heap_alloc_new _ _)) (by simp [Value.oneCell']) (by unfold maxLen; omega) (by omega) (by have := BS.out; simp; omega) ?_; intro v2 wb hown2 hgrow2 hn2))
      have BG3 := Lib.hid ((BG.out.alloc BS.out _).grown hgrow2 (by have := BS.out; simp; omega) (own_block_ge HW1.out))
      rw [HWN.out] at hown2
      have HO2 := Lib.hid hown2
      clear hown2 hgrow2 hn2 HW1 BG BS HB HW
      obtain ⟨ad2, cap2, rfl, hcap2, hn9, _⟩ := own_form HO2.out
      go_roundw
      case rel => exact ⟨k3 + 1, by omega, HO2, BG3⟩
      case measure => (simp [rowLen]; try omega)
    · have HW9 : Hid (wr.ownsRow w.heap.size 9 1 (.slice ad (n2 + k3) cap) (inoWordsB M).length (scells (inoWordsB M))) := Lib.hid (by
        have h9 := HW.out
        rw [HL8.out, HR.out, HN2.out, show 8 - n2 = k3 by omega, show 8 = n2 + k3 by omega]
        exact ownE_mono h9 (by omega))
      clear HW
      go_wp2
      go_ret
      exact ⟨_, rfl, HW9.out, B0.out.trans (HB.out.mono (by omega))⟩

set_option maxRecDepth 100000 in
set_option maxHeartbeats 4000000 in
theorem implInoWords_dir (hz : -9223372036854775808 ≤ sz ∧ sz ≤ 9223372036854775807) (hs : SrcRec w aR nR R) (hf : FitRec R nR 2000000) (hs' : SrcEntry w aE nE E) (hf' : FitEntry E nE 2000000) (h : InoOk ⟨2, sz, gn, key, R, E⟩) :
    Calls Tryz.prog 30 #[.agg #[.int .i64 2, .int .i64 sz, .int .i64 gn, .string key, .slice aR nR cR, .slice aE nE cE]] w (GivesT (inoWordsB ⟨2, sz, gn, key, R, E⟩) w) := by
  obtain ⟨i0, hi, hz0, hz1, hz2⟩ := info_parts infoText
  obtain ⟨M, hM⟩ : ∃ M : InoR, (⟨2, sz, gn, key, R, E⟩ : InoR) = M := ⟨_, rfl⟩
  have hlR : M.R.length = nR := by rw [← hM]; exact hs.len
  have hlE : M.E.length = nE := by rw [← hM]; exact hs'.len
  have hMR : M.R = R := by rw [← hM]
  have hME : M.E = E := by rw [← hM]
  have hl8 : (wordsI M).length ≤ 8 := wordsI_le (by rw [← hM]; exact h)
  have hlW : (wordsI M).length = 2 + nR + nE := by unfold wordsI; simp [hlR, hlE]; omega
  have HN := Lib.hid (inoB_yes h)
  have HR : Hid (inoWordsB M = fillTo M (8 - (2 + nR + nE))) := Lib.hid (by rw [← hlW]; exact inoWords_yes (by rw [← hM]; exact h))
  have HL8 : Hid ((inoWordsB M).length = 8) := Lib.hid (inoWords_length (by rw [← hM]; exact h))
  have HZ := Lib.hid hz
  have HF := Lib.hid hf
  have HF' := Lib.hid hf'
  have hgn := h.1
  have HGN : Hid (0 ≤ gn ∧ gn ≤ 65535) := Lib.hid hgn
  have hl8' : nR + nE ≤ 6 := by omega
  have hkind : Hid (nR = 0) := Lib.hid (by
    have x := (inoOk_dir (show 0 ≤ gn ∧ gn ≤ 65535 from h.1)).1 h
    have e1 := hs.len
    have e2 := hs'.len
    rw [← e1]; exact x.2.2.1)
  have B0 := Lib.hid (below_bk w (inoObj 2 sz gn key aR nR cR aE nE cE))
  have K0 := Lib.hid (Bk.alloc w (inoCs 2 sz gn key aR nR cR aE nE cE) 57)
  have N0 : Hid ((w.alloc (inoObj 2 sz gn key aR nR cR aE nE cE)).heap.size = w.heap.size + 1) := Lib.hid (by simp)
  have HS := Lib.hid (hs.below B0.out (Nat.le_refl _))
  have HS' := Lib.hid (hs'.below B0.out (Nat.le_refl _))
  have HLR := Lib.hid hlR
  have HLE := Lib.hid hlE
  have HMR := Lib.hid hMR
  have HME := Lib.hid hME
  have HE0 : Hid (headB M = wordB (numTextB 2 1 ++ numTextB sz 2 ++ numTextB gn 2)) := Lib.hid (by rw [← hM]; rfl)
  have HE1 : Hid (wordB M.key = wordB key) := Lib.hid (by rw [← hM])
  have HC : Hid (∀ W : World, Calls Tryz.prog 64 #[.agg #[.int .i64 2, .int .i64 sz, .int .i64 gn, .string key, .slice aR nR cR, .slice aE nE cE]] W fun e w' => e = .returned (.iface 97 (.agg #[.slice aE nE cE])) ∧ Below W.heap.size W w') := Lib.hid (fun W => implBody_any 2 sz gn key aR nR cR aE nE cE W)
  obtain ⟨A, hA⟩ : ∃ A, numTextB 2 1 = A := ⟨_, rfl⟩
  obtain ⟨D, hD⟩ : ∃ D, numTextB sz 2 = D := ⟨_, rfl⟩
  obtain ⟨G, hG⟩ : ∃ G, numTextB gn 2 = G := ⟨_, rfl⟩
  have hA1 : A.size ≤ 1 := by rw [← hA]; rcases numTextB_size 2 1 with e | e <;> rw [e] <;> decide
  have hD1 : D.size ≤ 2 := by rw [← hD]; rcases numTextB_size sz 2 with e | e <;> rw [e] <;> decide
  have hG1 : G.size ≤ 2 := by rw [← hG]; rcases numTextB_size gn 2 with e | e <;> rw [e] <;> decide
  have hAD : ¬ (9223372036854775807 < A.size + D.size) := by omega
  have hADG : ¬ (9223372036854775807 < A.size + D.size + G.size) := by omega
  rw [hA, hD, hG] at HE0
  have HA := Lib.hid hA
  have HD := Lib.hid hD
  have HG := Lib.hid hG
  rw [hM]
  clear hz hs hf hs' hf' h hA hD hG hM hMR hME hl8 hlW hlR hlE hgn
  go_enter Tryz.func30, Tryz.ntmps30
  go_wp2_with fail
  refine (implIno_any 2 sz gn key aR nR cR aE nE cE _ R E HZ.out (by omega) HS.out HF.out HS'.out HF'.out).mono ?_
  rw [HN.out]
  rintro e w1 ⟨rfl, hb1⟩
  have T0 := Lib.hid (K0.out.later hb1)
  have B1 : Hid (Below (w.heap.size + 1) (w.alloc (inoObj 2 sz gn key aR nR cR aE nE cE)) w1) := Lib.hid (by rw [N0.out] at hb1; exact hb1)
  clear hb1
  go_wp2
  have T0d := Lib.hid T0.out.drew
  have B1d := Lib.hid B1.out.drew
  go_region_held3 (fun w' => w'.cell? ⟨w.heap.size, 0, none⟩ = some (.int .i64 2) ∧ w'.cell? ⟨w.heap.size, 1, none⟩ = some (.int .i64 sz) ∧ w'.cell? ⟨w.heap.size, 2, none⟩ = some (.int .i64 gn))
    (first
      | exact ⟨T0d.out.cell rfl, T0d.out.cell rfl, T0d.out.cell rfl⟩
      | exact ⟨T2.out.cell rfl, T2.out.cell rfl, T2.out.cell rfl⟩
      | exact ⟨T3.out.cell rfl, T3.out.cell rfl, T3.out.cell rfl⟩
      | exact ⟨T4.out.cell rfl, T4.out.cell rfl, T4.out.cell rfl⟩
      | go_keep)
    (first
      | (go_at_call 62; (with_reducible refine (implNum_any 2 1 _ (by omega)).mono ?_); rw [HA.out]; rintro e w2 ⟨rfl, hb⟩; have T2 := Lib.hid (T0d.out.later hb); have B2 := Lib.hid (below_on B1d.out (by rw [N0.out]; exact Nat.le_refl _) hb); clear hb)
      | (go_at_call 62; (with_reducible refine (implNum_any sz 2 _ HZ.out.2).mono ?_); rw [HD.out]; rintro e w3 ⟨rfl, hb⟩; have T3 := Lib.hid (T2.out.later hb); have B3 := Lib.hid (below_on B2.out (by rw [N0.out]; exact Nat.le_refl _) hb); clear hb)
      | (go_at_call 62; (with_reducible refine (implNum_any gn 2 _ (by have := HGN.out.2; omega)).mono ?_); rw [HG.out]; rintro e w4 ⟨rfl, hb⟩; have T4 := Lib.hid (T3.out.later hb); have B4 := Lib.hid (below_on B3.out (by rw [N0.out]; exact Nat.le_refl _) hb); clear hb))
  go_wp2
  have T4d := Lib.hid T4.out.drew
  have B4d := Lib.hid B4.out.drew
  go_region_held3 (fun w' => w'.cell? ⟨w.heap.size, 3, none⟩ = some (.string key))
    (first
      | exact T4d.out.cell rfl
      | exact T5.out.cell rfl
      | exact T6.out.cell rfl
      | go_keep)
    (first
      | (go_at_call 63; (with_reducible refine (implWord_any (A ++ D ++ G) _).mono ?_); rw [← HE0.out]; rintro e w5 ⟨rfl, hb⟩; have T5 := Lib.hid (T4d.out.later hb); have B5 := Lib.hid (below_on B4d.out (by rw [N0.out]; exact Nat.le_refl _) hb); clear hb)
      | (go_at_call 63; (with_reducible refine (implWord_any key _).mono ?_); rintro e w6 ⟨rfl, hb⟩; have T6 := Lib.hid (T5.out.later hb); have B6 := Lib.hid (below_on B5.out (by rw [N0.out]; exact Nat.le_refl _) hb); clear hb))
  have S6 : Hid (w.heap.size + 1 ≤ w6.heap.size) := Lib.hid (by have := B6.out.size; rw [N0.out] at this; exact this)
  have H01 : Hid (scells (recsTo M 0) = [.string (headB M), .string (wordB key)]) := Lib.hid (by rw [recsTo_zero, HE1.out]; rfl)
  have HW0 : Hid ((w6.alloc (.cells #[.string (headB M), .string (wordB key)] 9)).ownsRow (w.heap.size + 1) 9 1 (.slice (some ⟨w6.heap.size, 0, none⟩) 2 2) 2 (scells (recsTo M 0))) := Lib.hid (by rw [H01.out]; exact World.ownsRow_lit w6 #[.string (headB M), .string (wordB key)] 2 S6.out (by decide) rfl)
  have B7 : Hid (Below (w.heap.size + 1) (w.alloc (inoObj 2 sz gn key aR nR cR aE nE cE)) (w6.alloc (.cells #[.string (headB M), .string (wordB key)] 9))) := Lib.hid (B6.out.alloc S6.out _)
  have T7 := Lib.hid (T6.out.later (below_bk w6 (.cells #[.string (headB M), .string (wordB key)] 9)))
  have c0 := T7.out.cell (j := 0) rfl
  have c1 := T7.out.cell (j := 1) rfl
  have c2 := T7.out.cell (j := 2) rfl
  have c3 := T7.out.cell (j := 3) rfl
  have c4 := T7.out.cell (j := 4) rfl
  have c5 := T7.out.cell (j := 5) rfl
  clear hAD hADG
  go_wp2_with fail
  refine (HC.out _).mono ?_
  rintro e w8 ⟨rfl, hb8⟩
  have B8 : Hid (Below (w.heap.size + 1) (w.alloc (inoObj 2 sz gn key aR nR cR aE nE cE)) w8) := Lib.hid (B7.out.trans (hb8.mono (by have := S6.out; simp; omega)))
  have S8 : Hid (w.heap.size + 1 ≤ w8.heap.size) := Lib.hid (by have h9 := hb8.size; have := S6.out; simp at h9; omega)
  have HW8 := Lib.hid (own_below HW0.out hb8)
  clear hb8 c0 c1 c2 c3 c4 c5
  have a1 := dir_no_file (.agg #[.slice aE nE cE]) w8
  have a2 := as_dir (.agg #[.slice aE nE cE]) w8
  have B9 : Hid (Below (w.heap.size + 1) (w.alloc (inoObj 2 sz gn key aR nR cR aE nE cE)) (w8.alloc (.cells #[.slice aE nE cE] 97))) := Lib.hid (B8.out.alloc S8.out _)
  have S9 : Hid (w.heap.size + 1 ≤ (w8.alloc (.cells #[.slice aE nE cE] 97)).heap.size) := Lib.hid (by have := S8.out; simp; omega)
  have HW9 := Lib.hid (HW8.out.alloc (.cells #[.slice aE nE cE] 97))
  have HFL : Hid (scells (recsTo M 0) ++ scells (E.map entryWordB) = scells (fillTo M 0)) := Lib.hid (by
    exact dir_fill HME.out (by rw [HLR.out]; exact hkind.out))
  go_wp2_with fail
  refine (appendEntrys_any (w.alloc (inoObj 2 sz gn key aR nR cR aE nE cE)) (w.heap.size + 1) _ 2 (scells (recsTo M 0)) aE nE cE E _ (by rw [N0.out]; exact Nat.le_refl _) B9.out S9.out HS'.out HF'.out (by omega) HW9.out).mono ?_
  rintro e w9 ⟨v9, rfl, hown9, hb9, hs9⟩
  rw [HFL.out] at hown9
  obtain ⟨n2, hn2⟩ : ∃ n2, 2 + nE = n2 := ⟨_, rfl⟩
  have HN2 : Hid (2 + nR + nE = n2) := Lib.hid (by rw [hkind.out]; omega)
  have hn8 : n2 ≤ 8 := by omega
  rw [hn2] at hown9
  have HWF := Lib.hid hown9
  have BF := Lib.hid hb9
  clear hown9 hb9 hs9 hn2
  go_wp2
  go_loopw [4] (fun v wr => ∃ k3, n2 + k3 ≤ 8 ∧ Hid (wr.ownsRow (w.heap.size + 1) 9 1 v (n2 + k3) (scells (fillTo M k3))) ∧ Hid (Below (w.heap.size + 1) (w.alloc (inoObj 2 sz gn key aR nR cR aE nE cE)) wr)) (fun v _ => 8 - rowLen v)
  case atStart => exact ⟨0, by omega, HWF, BF⟩
  case round =>
    obtain ⟨k3, hk3, HW, HB⟩ := hrel
    obtain ⟨ad, cap, rfl, hcap, hn, _⟩ := own_form HW.out
    by_cases hlt3 : n2 + k3 < 8
    · obtain ⟨T, hT⟩ : ∃ T, zeroB 8 = T := ⟨_, rfl⟩
      have HT := Lib.hid hT
      have HWN : Hid (scells (fillTo M k3) ++ [.string T] = scells (fillTo M (k3 + 1))) := Lib.hid (by rw [← fillTo_next, ← HT.out]; rfl)
      clear hT
      go_wp2_with (first
        | (go_at_call 69; (with_reducible refine (implZero_any 8 _).mono ?_); rw [HT.out]; rintro e wa ⟨rfl, hb1⟩
           have HW1 := Lib.hid (own_below HW.out hb1)
           have BG := Lib.hid (below_on HB.out (by rw [N0.out]; exact Nat.le_refl _) hb1)
           have BS : Hid (w.heap.size + 1 ≤ wa.heap.size) := Lib.hid (by have := BG.out.size; rw [N0.out] at this; exact this))
        | (at_builtin; refine wpList_append_own _ rfl (.tmp 46) (.tmp 48) 52 rfl (w.heap.size + 1) 9 i0 (.string ⟨#[]⟩) 1 16 Tryz.underlying52 hi hz0 hz1 hz2 rfl (by decide) _ _ _ rfl (HW1.out.alloc _) ⟨wa.heap.size, 0, none⟩ 1 1 [.string T] rfl rfl (World.news_of_block (heap_alloc_new _ _)) (by simp [Value.oneCell']) (by unfold maxLen; omega) (by omega) (by have := BS.out; simp; omega) ?_; intro v2 wb hown2 hgrow2 hn2))
      have BG3 := Lib.hid ((BG.out.alloc BS.out _).grown hgrow2 (by have := BS.out; simp; omega) (own_block_ge HW1.out))
      rw [HWN.out] at hown2
      have HO2 := Lib.hid hown2
      clear hown2 hgrow2 hn2 HW1 BG BS HB HW
      obtain ⟨ad2, cap2, rfl, hcap2, hn9, _⟩ := own_form HO2.out
      go_roundw
      case rel => exact ⟨k3 + 1, by omega, HO2, BG3⟩
      case measure => (simp [rowLen]; try omega)
    · have HW9 : Hid (wr.ownsRow w.heap.size 9 1 (.slice ad (n2 + k3) cap) (inoWordsB M).length (scells (inoWordsB M))) := Lib.hid (by
        have h9 := HW.out
        rw [HL8.out, HR.out, HN2.out, show 8 - n2 = k3 by omega, show 8 = n2 + k3 by omega]
        exact ownE_mono h9 (by omega))
      clear HW
      go_wp2
      go_ret
      exact ⟨_, rfl, HW9.out, B0.out.trans (HB.out.mono (by omega))⟩

set_option maxRecDepth 100000 in
set_option maxHeartbeats 4000000 in
theorem implInoWords_free (hz : -9223372036854775808 ≤ sz ∧ sz ≤ 9223372036854775807) (hs : SrcRec w aR nR R) (hf : FitRec R nR 2000000) (hs' : SrcEntry w aE nE E) (hf' : FitEntry E nE 2000000) (h : InoOk ⟨0, sz, gn, key, R, E⟩) :
    Calls Tryz.prog 30 #[.agg #[.int .i64 0, .int .i64 sz, .int .i64 gn, .string key, .slice aR nR cR, .slice aE nE cE]] w (GivesT (inoWordsB ⟨0, sz, gn, key, R, E⟩) w) := by
  obtain ⟨i0, hi, hz0, hz1, hz2⟩ := info_parts infoText
  obtain ⟨M, hM⟩ : ∃ M : InoR, (⟨0, sz, gn, key, R, E⟩ : InoR) = M := ⟨_, rfl⟩
  have hlR : M.R.length = nR := by rw [← hM]; exact hs.len
  have hlE : M.E.length = nE := by rw [← hM]; exact hs'.len
  have hMR : M.R = R := by rw [← hM]
  have hME : M.E = E := by rw [← hM]
  have hl8 : (wordsI M).length ≤ 8 := wordsI_le (by rw [← hM]; exact h)
  have hlW : (wordsI M).length = 2 + nR + nE := by unfold wordsI; simp [hlR, hlE]; omega
  have HN := Lib.hid (inoB_yes h)
  have HR : Hid (inoWordsB M = fillTo M (8 - (2 + nR + nE))) := Lib.hid (by rw [← hlW]; exact inoWords_yes (by rw [← hM]; exact h))
  have HL8 : Hid ((inoWordsB M).length = 8) := Lib.hid (inoWords_length (by rw [← hM]; exact h))
  have HZ := Lib.hid hz
  have HF := Lib.hid hf
  have HF' := Lib.hid hf'
  have hgn := h.1
  have HGN : Hid (0 ≤ gn ∧ gn ≤ 65535) := Lib.hid hgn
  have hl8' : nR + nE ≤ 6 := by omega
  have hkind : Hid (nR = 0 ∧ nE = 0) := Lib.hid (by
    have x := (inoOk_free (show 0 ≤ gn ∧ gn ≤ 65535 from h.1)).1 h
    have e1 := hs.len
    have e2 := hs'.len
    exact ⟨by rw [← e1]; exact x.2.2.1, by rw [← e2]; exact x.2.2.2⟩)
  have B0 := Lib.hid (below_bk w (inoObj 0 sz gn key aR nR cR aE nE cE))
  have K0 := Lib.hid (Bk.alloc w (inoCs 0 sz gn key aR nR cR aE nE cE) 57)
  have N0 : Hid ((w.alloc (inoObj 0 sz gn key aR nR cR aE nE cE)).heap.size = w.heap.size + 1) := Lib.hid (by simp)
  have HS := Lib.hid (hs.below B0.out (Nat.le_refl _))
  have HS' := Lib.hid (hs'.below B0.out (Nat.le_refl _))
  have HLR := Lib.hid hlR
  have HLE := Lib.hid hlE
  have HMR := Lib.hid hMR
  have HME := Lib.hid hME
  have HE0 : Hid (headB M = wordB (numTextB 0 1 ++ numTextB sz 2 ++ numTextB gn 2)) := Lib.hid (by rw [← hM]; rfl)
  have HE1 : Hid (wordB M.key = wordB key) := Lib.hid (by rw [← hM])
  have HC : Hid (∀ W : World, Calls Tryz.prog 64 #[.agg #[.int .i64 0, .int .i64 sz, .int .i64 gn, .string key, .slice aR nR cR, .slice aE nE cE]] W fun e w' => e = .returned (.iface 114 (.agg #[])) ∧ Below W.heap.size W w') := Lib.hid (fun W => implBody_any 0 sz gn key aR nR cR aE nE cE W)
  obtain ⟨A, hA⟩ : ∃ A, numTextB 0 1 = A := ⟨_, rfl⟩
  obtain ⟨D, hD⟩ : ∃ D, numTextB sz 2 = D := ⟨_, rfl⟩
  obtain ⟨G, hG⟩ : ∃ G, numTextB gn 2 = G := ⟨_, rfl⟩
  have hA1 : A.size ≤ 1 := by rw [← hA]; rcases numTextB_size 0 1 with e | e <;> rw [e] <;> decide
  have hD1 : D.size ≤ 2 := by rw [← hD]; rcases numTextB_size sz 2 with e | e <;> rw [e] <;> decide
  have hG1 : G.size ≤ 2 := by rw [← hG]; rcases numTextB_size gn 2 with e | e <;> rw [e] <;> decide
  have hAD : ¬ (9223372036854775807 < A.size + D.size) := by omega
  have hADG : ¬ (9223372036854775807 < A.size + D.size + G.size) := by omega
  rw [hA, hD, hG] at HE0
  have HA := Lib.hid hA
  have HD := Lib.hid hD
  have HG := Lib.hid hG
  rw [hM]
  clear hz hs hf hs' hf' h hA hD hG hM hMR hME hl8 hlW hlR hlE hgn
  go_enter Tryz.func30, Tryz.ntmps30
  go_wp2_with fail
  refine (implIno_any 0 sz gn key aR nR cR aE nE cE _ R E HZ.out (by omega) HS.out HF.out HS'.out HF'.out).mono ?_
  rw [HN.out]
  rintro e w1 ⟨rfl, hb1⟩
  have T0 := Lib.hid (K0.out.later hb1)
  have B1 : Hid (Below (w.heap.size + 1) (w.alloc (inoObj 0 sz gn key aR nR cR aE nE cE)) w1) := Lib.hid (by rw [N0.out] at hb1; exact hb1)
  clear hb1
  go_wp2
  have T0d := Lib.hid T0.out.drew
  have B1d := Lib.hid B1.out.drew
  go_region_held3 (fun w' => w'.cell? ⟨w.heap.size, 0, none⟩ = some (.int .i64 0) ∧ w'.cell? ⟨w.heap.size, 1, none⟩ = some (.int .i64 sz) ∧ w'.cell? ⟨w.heap.size, 2, none⟩ = some (.int .i64 gn))
    (first
      | exact ⟨T0d.out.cell rfl, T0d.out.cell rfl, T0d.out.cell rfl⟩
      | exact ⟨T2.out.cell rfl, T2.out.cell rfl, T2.out.cell rfl⟩
      | exact ⟨T3.out.cell rfl, T3.out.cell rfl, T3.out.cell rfl⟩
      | exact ⟨T4.out.cell rfl, T4.out.cell rfl, T4.out.cell rfl⟩
      | go_keep)
    (first
      | (go_at_call 62; (with_reducible refine (implNum_any 0 1 _ (by omega)).mono ?_); rw [HA.out]; rintro e w2 ⟨rfl, hb⟩; have T2 := Lib.hid (T0d.out.later hb); have B2 := Lib.hid (below_on B1d.out (by rw [N0.out]; exact Nat.le_refl _) hb); clear hb)
      | (go_at_call 62; (with_reducible refine (implNum_any sz 2 _ HZ.out.2).mono ?_); rw [HD.out]; rintro e w3 ⟨rfl, hb⟩; have T3 := Lib.hid (T2.out.later hb); have B3 := Lib.hid (below_on B2.out (by rw [N0.out]; exact Nat.le_refl _) hb); clear hb)
      | (go_at_call 62; (with_reducible refine (implNum_any gn 2 _ (by have := HGN.out.2; omega)).mono ?_); rw [HG.out]; rintro e w4 ⟨rfl, hb⟩; have T4 := Lib.hid (T3.out.later hb); have B4 := Lib.hid (below_on B3.out (by rw [N0.out]; exact Nat.le_refl _) hb); clear hb))
  go_wp2
  have T4d := Lib.hid T4.out.drew
  have B4d := Lib.hid B4.out.drew
  go_region_held3 (fun w' => w'.cell? ⟨w.heap.size, 3, none⟩ = some (.string key))
    (first
      | exact T4d.out.cell rfl
      | exact T5.out.cell rfl
      | exact T6.out.cell rfl
      | go_keep)
    (first
      | (go_at_call 63; (with_reducible refine (implWord_any (A ++ D ++ G) _).mono ?_); rw [← HE0.out]; rintro e w5 ⟨rfl, hb⟩; have T5 := Lib.hid (T4d.out.later hb); have B5 := Lib.hid (below_on B4d.out (by rw [N0.out]; exact Nat.le_refl _) hb); clear hb)
      | (go_at_call 63; (with_reducible refine (implWord_any key _).mono ?_); rintro e w6 ⟨rfl, hb⟩; have T6 := Lib.hid (T5.out.later hb); have B6 := Lib.hid (below_on B5.out (by rw [N0.out]; exact Nat.le_refl _) hb); clear hb))
  have S6 : Hid (w.heap.size + 1 ≤ w6.heap.size) := Lib.hid (by have := B6.out.size; rw [N0.out] at this; exact this)
  have H01 : Hid (scells (recsTo M 0) = [.string (headB M), .string (wordB key)]) := Lib.hid (by rw [recsTo_zero, HE1.out]; rfl)
  have HW0 : Hid ((w6.alloc (.cells #[.string (headB M), .string (wordB key)] 9)).ownsRow (w.heap.size + 1) 9 1 (.slice (some ⟨w6.heap.size, 0, none⟩) 2 2) 2 (scells (recsTo M 0))) := Lib.hid (by rw [H01.out]; exact World.ownsRow_lit w6 #[.string (headB M), .string (wordB key)] 2 S6.out (by decide) rfl)
  have B7 : Hid (Below (w.heap.size + 1) (w.alloc (inoObj 0 sz gn key aR nR cR aE nE cE)) (w6.alloc (.cells #[.string (headB M), .string (wordB key)] 9))) := Lib.hid (B6.out.alloc S6.out _)
  have T7 := Lib.hid (T6.out.later (below_bk w6 (.cells #[.string (headB M), .string (wordB key)] 9)))
  have c0 := T7.out.cell (j := 0) rfl
  have c1 := T7.out.cell (j := 1) rfl
  have c2 := T7.out.cell (j := 2) rfl
  have c3 := T7.out.cell (j := 3) rfl
  have c4 := T7.out.cell (j := 4) rfl
  have c5 := T7.out.cell (j := 5) rfl
  clear hAD hADG
  go_wp2_with fail
  refine (HC.out _).mono ?_
  rintro e w8 ⟨rfl, hb8⟩
  have B8 : Hid (Below (w.heap.size + 1) (w.alloc (inoObj 0 sz gn key aR nR cR aE nE cE)) w8) := Lib.hid (B7.out.trans (hb8.mono (by have := S6.out; simp; omega)))
  have S8 : Hid (w.heap.size + 1 ≤ w8.heap.size) := Lib.hid (by have h9 := hb8.size; have := S6.out; simp at h9; omega)
  have HW8 := Lib.hid (own_below HW0.out hb8)
  clear hb8 c0 c1 c2 c3 c4 c5
  have a1 := free_no_file (.agg #[]) w8
  have a2 := free_no_dir (.agg #[]) w8
  have HFL : Hid (scells (recsTo M 0) = scells (fillTo M 0)) := Lib.hid (by
    have h9 : recsTo M 0 = entsTo M 0 := by rw [← recsTo_all M, HLR.out, hkind.out.1]
    have h8 : entsTo M 0 = fillTo M 0 := by rw [← entsTo_all M, HLE.out, hkind.out.2]
    rw [h9, h8])
  obtain ⟨n2, hn2⟩ : ∃ n2, 2 = n2 := ⟨_, rfl⟩
  have HN2 : Hid (2 + nR + nE = n2) := Lib.hid (by rw [hkind.out.1, hkind.out.2]; exact hn2)
  have hn8 : n2 ≤ 8 := by omega
  have hown9 := HW8.out
  rw [HFL.out] at hown9
  have HWF : Hid (w8.ownsRow (w.heap.size + 1) 9 1 (.slice (some ⟨w6.heap.size, 0, none⟩) 2 2) (n2 + 0) (scells (fillTo M 0))) := Lib.hid (by rw [← hn2]; exact hown9)
  have BF := B8
  clear hown9 hn2
  go_wp2
  go_loopw [4] (fun v wr => ∃ k3, n2 + k3 ≤ 8 ∧ Hid (wr.ownsRow (w.heap.size + 1) 9 1 v (n2 + k3) (scells (fillTo M k3))) ∧ Hid (Below (w.heap.size + 1) (w.alloc (inoObj 0 sz gn key aR nR cR aE nE cE)) wr)) (fun v _ => 8 - rowLen v)
  case atStart => exact ⟨0, by omega, HWF, BF⟩
  case round =>
    obtain ⟨k3, hk3, HW, HB⟩ := hrel
    obtain ⟨ad, cap, rfl, hcap, hn, _⟩ := own_form HW.out
    by_cases hlt3 : n2 + k3 < 8
    · obtain ⟨T, hT⟩ : ∃ T, zeroB 8 = T := ⟨_, rfl⟩
      have HT := Lib.hid hT
      have HWN : Hid (scells (fillTo M k3) ++ [.string T] = scells (fillTo M (k3 + 1))) := Lib.hid (by rw [← fillTo_next, ← HT.out]; rfl)
      clear hT
      go_wp2_with (first
        | (go_at_call 69; (with_reducible refine (implZero_any 8 _).mono ?_); rw [HT.out]; rintro e wa ⟨rfl, hb1⟩
           have HW1 := Lib.hid (own_below HW.out hb1)
           have BG := Lib.hid (below_on HB.out (by rw [N0.out]; exact Nat.le_refl _) hb1)
           have BS : Hid (w.heap.size + 1 ≤ wa.heap.size) := Lib.hid (by have := BG.out.size; rw [N0.out] at this; exact this))
        | (at_builtin; refine wpList_append_own _ rfl (.tmp 46) (.tmp 48) 52 rfl (w.heap.size + 1) 9 i0 (.string ⟨#[]⟩) 1 16 Tryz.underlying52 hi hz0 hz1 hz2 rfl (by decide) _ _ _ rfl (HW1.out.alloc _) ⟨wa.heap.size, 0, none⟩ 1 1 [.string T] rfl rfl (World.news_of_block (heap_alloc_new _ _)) (by simp [Value.oneCell']) (by unfold maxLen; omega) (by omega) (by have := BS.out; simp; omega) ?_; intro v2 wb hown2 hgrow2 hn2))
      have BG3 := Lib.hid ((BG.out.alloc BS.out _).grown hgrow2 (by have := BS.out; simp; omega) (own_block_ge HW1.out))
      rw [HWN.out] at hown2
      have HO2 := Lib.hid hown2
      clear hown2 hgrow2 hn2 HW1 BG BS HB HW
      obtain ⟨ad2, cap2, rfl, hcap2, hn9, _⟩ := own_form HO2.out
      go_roundw
      case rel => exact ⟨k3 + 1, by omega, HO2, BG3⟩
      case measure => (simp [rowLen]; try omega)
    · have HW9 : Hid (wr.ownsRow w.heap.size 9 1 (.slice ad (n2 + k3) cap) (inoWordsB M).length (scells (inoWordsB M))) := Lib.hid (by
        have h9 := HW.out
        rw [HL8.out, HR.out, HN2.out, show 8 - n2 = k3 by omega, show 8 = n2 + k3 by omega]
        exact ownE_mono h9 (by omega))
      clear HW
      go_wp2
      go_ret
      exact ⟨_, rfl, HW9.out, B0.out.trans (HB.out.mono (by omega))⟩


set_option maxRecDepth 100000 in
set_option maxHeartbeats 1000000 in
theorem implInoWords_no (kd : Int) (hz : -9223372036854775808 ≤ sz ∧ sz ≤ 9223372036854775807) (hn : nE ≤ 9223372036854775807) (hs : SrcRec w aR nR R) (hf : FitRec R nR 2000000) (hs' : SrcEntry w aE nE E) (hf' : FitEntry E nE 2000000) (h : ¬ InoOk ⟨kd, sz, gn, key, R, E⟩) :
    Calls Tryz.prog 30 #[.agg #[.int .i64 kd, .int .i64 sz, .int .i64 gn, .string key, .slice aR nR cR, .slice aE nE cE]] w (GivesT [] w) := by
  have HN := Lib.hid (inoB_no h)
  have HZ := Lib.hid hz
  have HNE := Lib.hid hn
  have HF := Lib.hid hf
  have HF' := Lib.hid hf'
  have B0 := Lib.hid (below_bk w (inoObj kd sz gn key aR nR cR aE nE cE))
  have HS := Lib.hid (hs.below B0.out (Nat.le_refl _))
  have HS' := Lib.hid (hs'.below B0.out (Nat.le_refl _))
  clear hz hs hf hs' hf' h hn
  go_enter Tryz.func30, Tryz.ntmps30
  go_wp2_with fail
  refine (implIno_any kd sz gn key aR nR cR aE nE cE _ R E HZ.out HNE.out HS.out HF.out HS'.out HF'.out).mono ?_
  rw [HN.out]
  rintro e w1 ⟨rfl, hb1⟩
  have B1 : Hid (Below w.heap.size w w1) := Lib.hid (below_on B0.out (Nat.le_refl _) hb1)
  clear hb1
  go_wp2
  go_ret
  exact ⟨_, rfl, World.ownsRow_nil _ _ _ _, B1.out⟩

theorem implInoWords_any (kd : Int) (hz : -9223372036854775808 ≤ sz ∧ sz ≤ 9223372036854775807) (hn : nE ≤ 9223372036854775807) (hs : SrcRec w aR nR R) (hf : FitRec R nR 2000000) (hs' : SrcEntry w aE nE E) (hf' : FitEntry E nE 2000000) :
    Calls Tryz.prog 30 #[.agg #[.int .i64 kd, .int .i64 sz, .int .i64 gn, .string key, .slice aR nR cR, .slice aE nE cE]] w (GivesT (inoWordsB ⟨kd, sz, gn, key, R, E⟩) w) := by
  by_cases h : InoOk ⟨kd, sz, gn, key, R, E⟩
  · have h9 := h
    rcases h9 with ⟨_, ⟨e, _⟩ | ⟨e, _⟩ | ⟨e, _⟩⟩
    · obtain rfl : kd = 0 := e
      exact implInoWords_free sz gn key aR nR cR aE nE cE w R E hz hs hf hs' hf' h
    · obtain rfl : kd = 1 := e
      exact implInoWords_file sz gn key aR nR cR aE nE cE w R E hz hs hf hs' hf' h
    · obtain rfl : kd = 2 := e
      exact implInoWords_dir sz gn key aR nR cR aE nE cE w R E hz hs hf hs' hf' h
  · rw [inoWords_no h]
    exact implInoWords_no sz gn key aR nR cR aE nE cE w R E kd hz hn hs hf hs' hf' h
end
end Go.Proofs.YtmkchilhnmkhkabGreat
namespace Go.Proofs.YtmkchilhnmkhkabGreat
open Go.RowKit Go.Proofs.YtmkchilhnmkhkabGreat.Hexa Go.Proofs.YtmkchilhnmkhkabGreat.Byt Go.Proofs.YtmkchilhnmkhkabGreat.BitsM Go.Proofs.YtmkchilhnmkhkabGreat.Parts

set_option maxRecDepth 100000 in
set_option maxHeartbeats 1000000 in
theorem implWords_any (s : ByteArray) (w : World) (hs : s.size ≤ 20000) :
    Calls Tryz.prog 60 #[.string s] w (GivesT (wordsL s) w) := by
  obtain ⟨i0, hi, hz0, hz1, hz2⟩ := info_parts infoText
  unfold GivesT
  rw [wordsL_length]
  have hN : wordsN s = (s.size + 7) / 8 := rfl
  generalize hNN : wordsN s = N at hN
  have HNN := Lib.hid hNN
  have hN2 : 8 * N ≤ s.size + 7 := by omega
  have hN3 : s.size ≤ 8 * N := by omega
  have hC : ((s.size : Int) + 8 - 1) / 8 = (N : Int) := by omega
  clear hNN hN
  go_enter Tryz.func60, Tryz.ntmps60
  go_wp2_with (at_make; refine wpList_make_own _ rfl _ _ 52 rfl w.heap.size 9 i0 (.string ⟨#[]⟩) 1 Tryz.underlying52 hi hz0 hz1 .i64 .i64 _ N rfl rfl (by omega) (by rw [hz2]; omega) (by unfold maxLen; omega) (Nat.le_refl _) ?_; intro w0 hown0 hgrow0)
  have hg0 : Below w.heap.size w w0 := (Below.refl _ _).grown hgrow0 (Nat.le_refl _) (fun k h => by cases h)
  have HO0 := Lib.hid hown0
  clear hown0 hgrow0 hC
  go_loopw [3, 4] (fun v iv wr => ∃ k : Nat, k ≤ N ∧ iv = .int .i64 (8 * (k : Int)) ∧ Hid (wr.ownsRow w.heap.size 9 1 v k (scells (wordsTo s k))) ∧ Below w.heap.size w wr)
    (fun _ iv _ => (8 * (N : Int) - intOf iv).toNat)
  case atStart => exact ⟨0, Nat.zero_le _, by go_num, HO0, hg0⟩
  case round =>
    clear HO0 hg0
    obtain ⟨k, hk, rfl, HW, hbel⟩ := hrel
    by_cases hlt : 8 * k < s.size
    · have hN1 : k < N := by omega
      have HWN := Lib.hid (wordsTo_next s k)
      by_cases hend : 8 * k + 8 ≤ s.size
      · have HE : Hid (wordAt s k = wordB (s.extract (8 * k) (8 * k + 8))) := Lib.hid (by unfold wordAt; rw [Nat.min_eq_left hend])
        have n1 : (8 * (k : Int)).toNat = 8 * k := by omega
        have n2 : (8 * (k : Int) + 8).toNat = 8 * k + 8 := by omega
        have n3 : min (8 * (k : Int) + 8) (s.size : Int) = 8 * (k : Int) + 8 := by omega
        go_wp2_with (first
          | (go_at_call 63; refine (implWord_any _ _).mono ?_; rintro e w1 ⟨rfl, hb1⟩; rw [← HE.out]; have hb2 : Below w.heap.size w w1 := hbel.trans (hb1.mono hbel.size); have HW1 := Lib.hid (own_below HW.out hb1))
          | (at_builtin; refine wpList_append_own _ rfl (.tmp 20) (.tmp 30) 52 rfl w.heap.size 9 i0 (.string ⟨#[]⟩) 1 16 Tryz.underlying52 hi hz0 hz1 hz2 rfl (by decide) _ _ _ rfl (HW1.out.alloc _) ⟨w1.heap.size, 0, none⟩ 1 1 [.string (wordAt s k)] rfl rfl (World.news_of_block (heap_alloc_new _ _)) (by simp [Value.oneCell']) (by unfold maxLen; omega) (by omega) (by have := hb2.size; simp; omega) ?_; intro v2 w2 hown2 hgrow2 hn2))
        have hb3 : Below w.heap.size w w2 := (hb2.alloc hb2.size _).grown hgrow2 (by have := hb2.size; simp; omega) (own_block_ge HW1.out)
        rw [HWN.out] at hown2
        have HO2 := Lib.hid hown2
        clear hown2 hgrow2 hn2
        go_roundw
        case rel => exact ⟨k + 1, by omega, by go_num, HO2, hb3⟩
        case measure => (simp [intOf]; try omega)
      · have HE : Hid (wordAt s k = wordB (s.extract (8 * k) s.size)) := Lib.hid (by unfold wordAt; rw [Nat.min_eq_right (by omega)])
        have n1 : (8 * (k : Int)).toNat = 8 * k := by omega
        have n3 : min (8 * (k : Int) + 8) (s.size : Int) = (s.size : Int) := by omega
        go_wp2_with (first
          | (go_at_call 63; refine (implWord_any _ _).mono ?_; rintro e w1 ⟨rfl, hb1⟩; rw [← HE.out]; have hb2 : Below w.heap.size w w1 := hbel.trans (hb1.mono hbel.size); have HW1 := Lib.hid (own_below HW.out hb1))
          | (at_builtin; refine wpList_append_own _ rfl (.tmp 20) (.tmp 30) 52 rfl w.heap.size 9 i0 (.string ⟨#[]⟩) 1 16 Tryz.underlying52 hi hz0 hz1 hz2 rfl (by decide) _ _ _ rfl (HW1.out.alloc _) ⟨w1.heap.size, 0, none⟩ 1 1 [.string (wordAt s k)] rfl rfl (World.news_of_block (heap_alloc_new _ _)) (by simp [Value.oneCell']) (by unfold maxLen; omega) (by omega) (by have := hb2.size; simp; omega) ?_; intro v2 w2 hown2 hgrow2 hn2))
        have hb3 : Below w.heap.size w w2 := (hb2.alloc hb2.size _).grown hgrow2 (by have := hb2.size; simp; omega) (own_block_ge HW1.out)
        rw [HWN.out] at hown2
        have HO2 := Lib.hid hown2
        clear hown2 hgrow2 hn2
        go_roundw
        case rel => exact ⟨k + 1, by omega, by go_num, HO2, hb3⟩
        case measure => (simp [intOf]; try omega)
    · obtain rfl : k = N := by omega
      go_wp2
      go_ret
      have ho := HW.out
      rw [← HNN.out] at ho
      exact ⟨_, rfl, by rw [← HNN.out]; exact ho, hbel⟩

set_option maxRecDepth 100000 in
set_option maxHeartbeats 400000 in
theorem implWords_long (s : ByteArray) (w : World) (hs : 20000 < s.size) :
    Calls Tryz.prog 60 #[.string s] w (GivesT [] w) := by
  go_enter Tryz.func60, Tryz.ntmps60
  go_wp2
  go_ret
  exact ⟨_, rfl, World.ownsRow_nil _ _ _ 1, Below.refl _ _⟩
end Go.Proofs.YtmkchilhnmkhkabGreat
namespace Go.Proofs.YtmkchilhnmkhkabGreat
open Go.RowKit Go.Lib Go.Proofs.YtmkchilhnmkhkabGreat.Parts Go.Proofs.YtmkchilhnmkhkabGreat.Hexa Go.Proofs.YtmkchilhnmkhkabGreat.Byt

theorem own_mono1 {w : World} {B B' e : Nat} {v : Value} {n : Nat} {xs : List Value} (h : w.ownsRow B e 1 v n xs) (hb : B' ≤ B) : w.ownsRow B' e 1 v n xs := by
  refine ⟨h.1, ?_⟩
  rcases h.2 with h2 | ⟨g, cap, cur, h1, h2, h3⟩
  · exact .inl h2
  · exact .inr ⟨g, cap, cur, h1, Nat.le_trans hb h2, h3⟩
/-- A text copied over some bytes from place o on, over m bytes at most. -/
def ovT (l : List UInt8) (o m : Nat) (s : ByteArray) : List UInt8 := l.take o ++ (s.extract 0 (min s.size m)).data.toList ++ l.drop (o + min s.size m)
theorem ex_len (s : ByteArray) (m : Nat) : (s.extract 0 (min s.size m)).size = min s.size m := by simp
theorem ovT_len (l : List UInt8) (o m : Nat) (s : ByteArray) (h : o + m ≤ l.length) : (ovT l o m s).length = l.length := by
  have h1 := ex_len s m
  have h2 : (s.extract 0 (min s.size m)).data.toList.length = min s.size m := by rw [Array.length_toList]; exact h1
  unfold ovT
  rw [List.length_append, List.length_append, h2, List.length_take, List.length_drop]
  omega
theorem bytes_copy_at {P : Program} {t e e' u ty : TypeId} {i : TypeInfo} (ht : P.underlying t = some (.slice e')) (hi : P.info? e' = some i) (hs1 : i.size = 1)
    {w : World} {B g c n : Nat} {l : List UInt8} (hn : l.length = n) (h : Bytes w B e (.slice (some ⟨g, 0, none⟩) n c) l) (o m c' : Nat) (hom : o + m ≤ n) (s : ByteArray) :
    ∃ r w', (Builtin.copy_ #[t, u] ty #[.slice (some ⟨g, o, none⟩) m c', .string s]).run P w = .ok r w' ∧ Bytes w' B e (.slice (some ⟨g, 0, none⟩) n c) (ovT l o m s) ∧ Below B w w' := by
  subst hn
  have hln := ovT_len l o m s hom
  obtain ⟨x, hx⟩ : ∃ x, s.extract 0 (min s.size m) = x := ⟨_, rfl⟩
  have hxs : x.size = min s.size m := by rw [← hx]; exact ex_len s m
  rcases h with ⟨h, _⟩ | ⟨g', cap, cur, fz, hv, hb, hg, hfz, hlc, hm, hcs, htk⟩
  · cases h
  · simp at hv
    obtain ⟨rfl, rfl⟩ := hv
    have hst := Byt.run_store P g o e fz (strCells x) 0 cur w hg hfz (by rw [strCells_length]; omega) (strCells_oneCell x)
    have hf : (Builtin.firstCells 1 (min s.size m) (.string s)).run P w = .ok (strCells x).toArray w := by
      simp [Builtin.firstCells, strCells, hx]
      apply Array.ext'
      simp
    simp only [Nat.add_zero, strCells_length] at hst
    refine ⟨goInt ((min s.size m : Nat) : Int), w.setRow g (List.take o cur.toList ++ strCells x ++ List.drop (o + x.size) cur.toList).toArray, ?_, .inr ⟨g, c, (List.take o cur.toList ++ strCells x ++ List.drop (o + x.size) cur.toList).toArray, fz, by rw [hln], hb, setRow_heap w g cur _ e fz hg, ?_, by rw [hln]; exact hlc, hm, ?_, ?_⟩, Byt.below_setRow w hb _⟩
    · have hmm : ∀ a b : Nat, Nat.min a b = min a b := fun _ _ => rfl
      simp [Builtin.copy_, run_underlying ht, Builtin.lenOf, sizeOf, typeInfo, hi, hs1, hmm, hf, hst]
    · have hz : (List.take o cur.toList ++ strCells x ++ List.drop (o + x.size) cur.toList).toArray.size = cur.size := by simp [strCells_length]; omega
      rw [hz]; exact hfz
    · simp [strCells_length]; omega
    · rw [hln]
      have e1 : strCells x = bcells x.data.toList := rfl
      have e2 : List.take o cur.toList = bcells (l.take o) := by
        have : bcells (l.take o) = (bcells l).take o := by simp [bcells]
        rw [this, ← htk, List.take_take, Nat.min_eq_left (by omega)]
      have e3 : bcells (l.drop (o + x.size)) = (List.drop (o + x.size) cur.toList).take (l.length - (o + x.size)) := by
        have : bcells (l.drop (o + x.size)) = (bcells l).drop (o + x.size) := by simp [bcells]
        rw [this, ← htk, List.drop_take]
      unfold ovT
      rw [hx, ← hxs, bcells_append, bcells_append, e1, e2, e3]
      have e4 : l.length = (bcells (l.take o) ++ bcells x.data.toList).length + (l.length - (o + x.size)) := by
        rw [List.length_append, bcells_length, bcells_length, List.length_take]; simp; omega
      show List.take l.length _ = _
      conv => lhs; rw [e4]
      rw [List.take_length_add_append]

theorem bytes_all_text {P : Program} {w : World} {B e e' g c : Nat} {l : List UInt8} (src dst : TypeId)
    (hs : P.underlying src = some (.slice e')) (he : P.underlying e' = some (.int .u8)) (hd : P.underlying dst = some .string) {n : Nat} (hn : l.length = n)
    (h : Bytes w B e (.slice (some ⟨g, 0, none⟩) n c) l) (c' : Nat) :
    (convert src dst (.slice (some ⟨g, 0, none⟩) n c')).run P w = .ok (.string ⟨l.toArray⟩) w := by
  subst hn
  exact run_convert_bytes_back (P := P) w src dst e' ⟨g, 0, none⟩ c' l hs he hd (fun j hj => by
    have h1 := (bytes_at h j hj).1
    have hadd : (⟨g, 0, none⟩ : Addr).add j = ⟨g, j, none⟩ := by unfold Addr.add; split <;> simp_all
    rw [hadd, h1])

/-- A fresh array of sixteen bytes. -/
theorem zero16 (w : World) {B : Nat} (hB : B ≤ w.heap.size) (T : TypeId) :
    Bytes (w.alloc (.cells #[.int .u8 0, .int .u8 0, .int .u8 0, .int .u8 0, .int .u8 0, .int .u8 0, .int .u8 0, .int .u8 0, .int .u8 0, .int .u8 0, .int .u8 0, .int .u8 0, .int .u8 0, .int .u8 0, .int .u8 0, .int .u8 0] T)) B T (.slice (some ⟨w.heap.size, 0, none⟩) 16 16) (partB [] 16) :=
  bytes_of_own (l := partB [] 16) (World.ownsRow_lit (e := T) (size := 1) (base := B) w #[.int .u8 0, .int .u8 0, .int .u8 0, .int .u8 0, .int .u8 0, .int .u8 0, .int .u8 0, .int .u8 0, .int .u8 0, .int .u8 0, .int .u8 0, .int .u8 0, .int .u8 0, .int .u8 0, .int .u8 0, .int .u8 0] 16 hB (by decide) rfl)

theorem words16 {l : List UInt8} (h : l.length = 16) : wordsL ⟨l.toArray⟩ = [cutSt l 0, cutSt l 8] := by
  have hs : (⟨l.toArray⟩ : ByteArray).size = 16 := by show l.toArray.size = 16; simp [h]
  have hw : ∀ o, o + 8 ≤ 16 → wordB ((⟨l.toArray⟩ : ByteArray).extract o (o + 8)) = cutSt l o := by
    intro o ho
    have h8 : ((⟨l.toArray⟩ : ByteArray).extract o (o + 8)).size = 8 := by simp [hs]; omega
    unfold wordB
    rw [if_pos (by omega), h8]
    apply ByteArray.ext
    apply Array.ext'
    simp [longB, cutSt]
  unfold wordsL wordsN
  rw [hs]
  show [wordAt _ 0, wordAt _ 1] = _
  unfold wordAt
  rw [hs]
  rw [show min (8 * 0 + 8) 16 = 0 + 8 from rfl, show min (8 * 1 + 8) 16 = 8 + 8 from rfl, show 8 * 0 = 0 from rfl, show 8 * 1 = 8 from rfl, hw 0 (by omega), hw 8 (by omega)]

set_option maxRecDepth 100000 in
set_option maxHeartbeats 1000000 in
theorem implStWords_any (a : Option Addr) (n c : Nat) (zs : List Int) (w : World) (hs : SrcI w a n zs) (hn : n ≤ 2000000) :
    Calls Tryz.prog 28 #[.slice a n c] w (GivesT (stWords zs) w) := by
  have HL := Lib.hid hs.len
  have HS := Lib.hid hs
  clear hs
  by_cases hok : StOk zs n
  · have HB := Lib.hid (stB_yes hok)
    have HW : Hid (stWords zs = [cutSt (partB (stT zs) 16) 0, cutSt (partB (stT zs) 16) 8]) := Lib.hid (stWords_yes (by rw [HL.out]; exact hok))
    have h12 : n ≤ 12 := by have := hok.2.2.2; omega
    have HR : Hid (StR zs n) := Lib.hid (by rw [← HL.out]; exact hok.1)
    clear hok
    go_enter Tryz.func28, Tryz.ntmps28
    go_wp2_with fail
    refine (implStOk_any a n c zs n _ HS.out hn).mono ?_
    rw [HB.out]
    rintro e w1 ⟨rfl, rfl⟩
    have HG0 : Hid (Below w1.heap.size w1 (w1.alloc (.cells #[.int .u8 0, .int .u8 0, .int .u8 0, .int .u8 0, .int .u8 0, .int .u8 0, .int .u8 0, .int .u8 0, .int .u8 0, .int .u8 0, .int .u8 0, .int .u8 0, .int .u8 0, .int .u8 0, .int .u8 0, .int .u8 0] 83))) := Lib.hid ((Below.refl _ _).alloc (Nat.le_refl _) _)
    have HO0 := Lib.hid (zero16 w1 (B := w1.heap.size) (Nat.le_refl _) 83)
    go_wp2
    go_loopw [13] (fun iv wr => ∃ k : Nat, k ≤ n ∧ iv = .int .i64 k ∧ Hid (Bytes wr w1.heap.size 83 (.slice (some ⟨w1.heap.size, 0, none⟩) 16 16) (partB (stT (zs.take k)) 16)) ∧ Hid (Below w1.heap.size w1 wr)) (fun iv _ => n - (intOf iv).toNat)
    case atStart => exact ⟨0, Nat.zero_le _, rfl, HO0, HG0⟩
    case round =>
      obtain ⟨k, hk, rfl, HO, HG⟩ := hrel
      clear HO0 HG0
      have hl : (stT (zs.take k)).length = k := by rw [stT_len, List.length_take, HL.out]; omega
      by_cases hlt : k < n
      · obtain ⟨g, off, rfl, hg, d⟩ := HS.out.cell k hlt
        have d0 : wr.cell? ⟨g, off + k, none⟩ = some (.int .i64 (zs.getD k 0)) := by rw [HG.out.cell hg]; exact d
        have HX := Lib.hid (HR.out k hlt)
        have HE := Lib.hid (stT_succ (zs := zs) (k := k) (by rw [HL.out]; exact hlt))
        have hby := st_byte HX.out
        obtain ⟨⟨u, c3⟩, z3, _⟩ := part_at HO.out (by omega)
        have N3 := part_next HO.out (UInt8.ofNat (zs.getD k 0).toNat) (by omega)
        rw [hl] at c3 z3 N3
        rw [← HE.out] at N3
        obtain ⟨x, hx⟩ : ∃ x, zs.getD k 0 = x := ⟨_, rfl⟩
        rw [hx] at d0 hby N3
        clear hx d
        generalize UInt8.ofNat x.toNat = z at hby N3
        have N4 := Lib.hid N3
        have HG2 : Hid (Below w1.heap.size w1 (wr.setCell ⟨w1.heap.size, k, none⟩ (.int .u8 (z.toNat : Int)))) := Lib.hid (HG.out.setCell (Nat.le_refl _) _)
        have hb1 : ¬ g = w1.heap.size := by omega
        have hk16 : (k : Int) < 16 := by omega
        clear N3 hl HX HE
        go_wp2
        go_roundw
        case rel => exact ⟨k + 1, by omega, by go_num, N4, HG2⟩
        case measure => (simp [intOf]; try omega)
      · obtain rfl : n = k := by omega
        rw [show zs.take n = zs by rw [← HL.out, List.take_length]] at HO hl
        have hpl := partB_length (stT zs) 16 (by omega)
        have HC := bytes_all_text (P := Tryz.prog) 85 9 Tryz.underlying85 Tryz.underlying5 Tryz.underlying9 hpl HO.out 16
        have HWL := Lib.hid (words16 hpl)
        have HSZ : Hid ((⟨(partB (stT zs) 16).toArray⟩ : ByteArray).size = 16) := Lib.hid (by show (partB (stT zs) 16).toArray.size = 16; rw [List.size_toArray, hpl])
        obtain ⟨S, hS⟩ : ∃ S, (⟨(partB (stT zs) 16).toArray⟩ : ByteArray) = S := ⟨_, rfl⟩
        rw [hS] at HC HWL HSZ
        clear hS hpl hl
        go_wp2_with fail
        refine (implWords_any S _ (by have := HSZ.out; omega)).mono ?_
        rw [HWL.out, ← HW.out]
        rintro e w4 ⟨v4, rfl, ho4, hb4⟩
        have HO4 := Lib.hid (own_mono1 ho4 HG.out.size)
        have HB4 : Hid (Below w1.heap.size w1 w4) := Lib.hid (HG.out.trans (hb4.mono HG.out.size))
        clear ho4 hb4 HC
        go_wp2
        go_ret
        exact ⟨_, rfl, HO4.out, HB4.out⟩
  · have HB := Lib.hid (stB_no hok)
    have HW : Hid (stWords zs = []) := Lib.hid (stWords_no (by rw [HL.out]; exact hok))
    clear hok
    go_enter Tryz.func28, Tryz.ntmps28
    go_wp2_with fail
    refine (implStOk_any a n c zs n _ HS.out hn).mono ?_
    rw [HB.out]
    rintro e w1 ⟨rfl, rfl⟩
    go_wp2
    go_ret
    rw [HW.out]
    exact ⟨_, rfl, World.ownsRow_nil _ _ _ 1, Below.refl _ _⟩
end Go.Proofs.YtmkchilhnmkhkabGreat
namespace Go.Proofs.YtmkchilhnmkhkabGreat
open Go.RowKit

/-- Where the pages begin: some number, whatever the layout. -/
def SaysAny (w : World) (e : Ending) (w' : World) : Prop := ∃ n : Int, e = .returned (.int .i64 n) ∧ Below w.heap.size w w'
set_option maxRecDepth 100000 in
set_option maxHeartbeats 1000000 in
theorem implPages_yes (T P I Q : Int) (h : GeoR T P I Q) (w : World) : Calls Tryz.prog 103 #[.agg #[.int .i64 T, .int .i64 P, .int .i64 I, .int .i64 Q]] w (SaysI (38 + 8 * I) w) := by
  have T0 := Lib.hid (Four.alloc w T P I Q 31)
  have B0 := Lib.hid (below_al w (.cells #[.int .i64 T, .int .i64 P, .int .i64 I, .int .i64 Q] 31))
  have HG := Lib.hid h
  obtain ⟨g1, g2, g3, g4, g5, g6, g7, g8⟩ := h
  go_enter Tryz.func103, Tryz.ntmps103
  go_wp2
  go_ret
  exact ⟨rfl, B0.out⟩
set_option maxRecDepth 100000 in
set_option maxHeartbeats 1000000 in
theorem implPagesPl_any (T P I Q : Int) (w : World) : Calls Tryz.prog 103 #[.agg #[.int .i64 T, .int .i64 P, .int .i64 I, .int .i64 Q]] w (SaysAny w) := by
  have T0 := Lib.hid (Four.alloc w T P I Q 31)
  have B0 := Lib.hid (below_al w (.cells #[.int .i64 T, .int .i64 P, .int .i64 I, .int .i64 Q] 31))
  go_enter Tryz.func103, Tryz.ntmps103
  go_wp2
  go_ret
  exact ⟨_, rfl, B0.out⟩
set_option maxRecDepth 100000 in
set_option maxHeartbeats 1000000 in
theorem implPW_no (T P I Q : Int) (h : ¬ GeoR T P I Q) (w : World) : Calls Tryz.prog 89 #[.agg #[.int .i64 T, .int .i64 P, .int .i64 I, .int .i64 Q]] w (SaysI 0 w) := by
  have T0 := Lib.hid (Four.alloc w T P I Q 31)
  have B0 := Lib.hid (below_al w (.cells #[.int .i64 T, .int .i64 P, .int .i64 I, .int .i64 Q] 31))
  have HG := Lib.hid h
  clear h
  go_enter Tryz.func89, Tryz.ntmps89
  go_wp2_with fail
  refine (implGeo_no T P I Q _ HG.out).mono ?_
  rintro e w1 ⟨rfl, hb⟩
  have T1 := Lib.hid (T0.out.later hb)
  have B1 : Hid (Below w.heap.size w w1) := Lib.hid (B0.out.trans (hb.mono B0.out.size))
  clear hb
  have c0 := T1.out.c0
  have c1 := T1.out.c1
  have c2 := T1.out.c2
  have c3 := T1.out.c3
  go_wp2
  go_ret
  exact ⟨rfl, B1.out⟩
set_option maxRecDepth 100000 in
set_option maxHeartbeats 1000000 in
theorem implPW_yes (T P I Q : Int) (h : GeoR T P I Q) (w : World) : Calls Tryz.prog 89 #[.agg #[.int .i64 T, .int .i64 P, .int .i64 I, .int .i64 Q]] w (SaysI (wordsOf P I) w) := by
  have T0 := Lib.hid (Four.alloc w T P I Q 31)
  have B0 := Lib.hid (below_al w (.cells #[.int .i64 T, .int .i64 P, .int .i64 I, .int .i64 Q] 31))
  have HG := Lib.hid h
  obtain ⟨g1, g2, g3, g4, g5, g6, g7, g8⟩ := h
  go_enter Tryz.func89, Tryz.ntmps89
  go_wp2_with fail
  refine (implGeo_yes T P I Q _ HG.out).mono ?_
  rintro e w1 ⟨rfl, hb⟩
  have T1 := Lib.hid (T0.out.later hb)
  have B1 : Hid (Below w.heap.size w w1) := Lib.hid (B0.out.trans (hb.mono B0.out.size))
  clear hb
  have c0 := T1.out.c0
  have c1 := T1.out.c1
  have c2 := T1.out.c2
  have c3 := T1.out.c3
  have e1 : IntKind.i64.wrap (4 * P) = 4 * P := IntWalk.i64_in _ (by omega)
  have e2 : IntKind.i64.wrap (38 + 8 * I + 4 * P) = 38 + 8 * I + 4 * P := IntWalk.i64_in _ (by omega)
  go_wp2_with fail
  go_region_with (go_at_call 103; refine (implPages_yes T P I Q HG.out _).mono ?_; rintro e w2 ⟨rfl, hb⟩; have T2 := Lib.hid (T1.out.drew.later hb); have y0 := T2.out.c0; have y1 := T2.out.c1; have y2 := T2.out.c2; have y3 := T2.out.c3; have B2 : Hid (Below w.heap.size w w2) := Lib.hid (B1.out.drew.trans (hb.mono B1.out.size)); clear hb)
  all_goals
    go_wp2
    go_ret
    exact ⟨rfl, B2.out⟩
end Go.Proofs.YtmkchilhnmkhkabGreat
namespace Go.Proofs.YtmkchilhnmkhkabGreat
open Go.RowKit

set_option maxRecDepth 100000 in
set_option maxHeartbeats 1000000 in
theorem implTen_yes (T P I Q : Int) (t : Int) (h : GeoR T P I Q) (ht : 0 ≤ t ∧ t ≤ T - 1) (w : World) : Calls Tryz.prog 24 #[.agg #[.int .i64 T, .int .i64 P, .int .i64 I, .int .i64 Q], .int .i64 t] w (SaysB true w) := by
  have T0 := Lib.hid (Four.alloc w T P I Q 31)
  have B0 := Lib.hid (below_al w (.cells #[.int .i64 T, .int .i64 P, .int .i64 I, .int .i64 Q] 31))
  have HG := Lib.hid h
  have HT := Lib.hid ht
  obtain ⟨g1, g2, g3, g4, g5, g6, g7, g8⟩ := h
  clear ht
  go_enter Tryz.func24, Tryz.ntmps24
  go_wp2_with fail
  refine (implGeo_yes T P I Q _ HG.out).mono ?_
  rintro e w1 ⟨rfl, hb⟩
  have T1 := Lib.hid (T0.out.later hb)
  have B1 : Hid (Below w.heap.size w w1) := Lib.hid (B0.out.trans (hb.mono B0.out.size))
  clear hb
  have c0 := T1.out.c0
  have c1 := T1.out.c1
  have c2 := T1.out.c2
  have c3 := T1.out.c3
  go_wp2_with fail
  refine (implIdx_yes _ ⟨HT.out.1, by have := HT.out.2; omega⟩).mono ?_
  rintro e w9 ⟨rfl, rfl⟩
  go_wp2
  go_ret
  exact ⟨rfl, B1.out⟩
set_option maxRecDepth 100000 in
set_option maxHeartbeats 1000000 in
theorem implTen_nogeo (T P I Q : Int) (t : Int) (h : ¬ GeoR T P I Q) (w : World) : Calls Tryz.prog 24 #[.agg #[.int .i64 T, .int .i64 P, .int .i64 I, .int .i64 Q], .int .i64 t] w (SaysB false w) := by
  have T0 := Lib.hid (Four.alloc w T P I Q 31)
  have B0 := Lib.hid (below_al w (.cells #[.int .i64 T, .int .i64 P, .int .i64 I, .int .i64 Q] 31))
  have HG := Lib.hid h
  clear h
  go_enter Tryz.func24, Tryz.ntmps24
  go_wp2_with fail
  refine (implGeo_no T P I Q _ HG.out).mono ?_
  rintro e w1 ⟨rfl, hb⟩
  have T1 := Lib.hid (T0.out.later hb)
  have B1 : Hid (Below w.heap.size w w1) := Lib.hid (B0.out.trans (hb.mono B0.out.size))
  clear hb
  have c0 := T1.out.c0
  have c1 := T1.out.c1
  have c2 := T1.out.c2
  have c3 := T1.out.c3
  go_wp2
  go_ret
  exact ⟨rfl, B1.out⟩
set_option maxRecDepth 100000 in
set_option maxHeartbeats 1000000 in
theorem implTen_noten (T P I Q : Int) (t : Int) (h : GeoR T P I Q) (ht : ¬ (0 ≤ t ∧ t ≤ T - 1)) (w : World) : Calls Tryz.prog 24 #[.agg #[.int .i64 T, .int .i64 P, .int .i64 I, .int .i64 Q], .int .i64 t] w (SaysB false w) := by
  have T0 := Lib.hid (Four.alloc w T P I Q 31)
  have B0 := Lib.hid (below_al w (.cells #[.int .i64 T, .int .i64 P, .int .i64 I, .int .i64 Q] 31))
  have HG := Lib.hid h
  obtain ⟨g1, g2, g3, g4, g5, g6, g7, g8⟩ := h
  have HT := Lib.hid ht
  clear ht
  go_enter Tryz.func24, Tryz.ntmps24
  go_wp2_with fail
  refine (implGeo_yes T P I Q _ HG.out).mono ?_
  rintro e w1 ⟨rfl, hb⟩
  have T1 := Lib.hid (T0.out.later hb)
  have B1 : Hid (Below w.heap.size w w1) := Lib.hid (B0.out.trans (hb.mono B0.out.size))
  clear hb
  have c0 := T1.out.c0
  have c1 := T1.out.c1
  have c2 := T1.out.c2
  have c3 := T1.out.c3
  go_wp2_with fail
  refine (implIdx_no _ (fun e => HT.out ⟨e.1, by omega⟩)).mono ?_
  rintro e w9 ⟨rfl, rfl⟩
  go_wp2
  go_ret
  exact ⟨rfl, B1.out⟩
theorem implTen_no (T P I Q t : Int) (h : ¬ (GeoR T P I Q ∧ 0 ≤ t ∧ t ≤ T - 1)) (w : World) : Calls Tryz.prog 24 #[.agg #[.int .i64 T, .int .i64 P, .int .i64 I, .int .i64 Q], .int .i64 t] w (SaysB false w) := by
  by_cases hg : GeoR T P I Q
  · exact implTen_noten T P I Q t hg (fun e => h ⟨hg, e⟩) w
  · exact implTen_nogeo T P I Q t hg w
set_option maxRecDepth 100000 in
set_option maxHeartbeats 1000000 in
theorem implAt_yes (T P I Q : Int) (t a : Int) (h : GeoR T P I Q) (ht : 0 ≤ t ∧ t ≤ T - 1) (ha : 0 ≤ a ∧ a ≤ 1000) (w : World) : Calls Tryz.prog 59 #[.agg #[.int .i64 T, .int .i64 P, .int .i64 I, .int .i64 Q], .int .i64 t, .int .i64 a] w (SaysI (t * wordsOf P I + a) w) := by
  have T0 := Lib.hid (Four.alloc w T P I Q 31)
  have B0 := Lib.hid (below_al w (.cells #[.int .i64 T, .int .i64 P, .int .i64 I, .int .i64 Q] 31))
  obtain ⟨W, hW⟩ : ∃ W, wordsOf P I = W := ⟨_, rfl⟩
  have HG := Lib.hid h
  obtain ⟨g1, g2, g3, g4, g5, g6, g7, g8⟩ := h
  have hw0 : 0 ≤ W ∧ W ≤ 134 := by unfold wordsOf at hW; omega
  have hm := Plc.mul_bd ht.1 (by omega) hw0.1 hw0.2
  obtain ⟨m1, m2⟩ := hm
  obtain ⟨W1, W2⟩ := hw0
  have HW := Lib.hid hW
  have HT := Lib.hid ht
  obtain ⟨t1, t2⟩ := ht
  obtain ⟨a1, a2⟩ := ha
  rw [hW]
  clear hW
  go_enter Tryz.func59, Tryz.ntmps59
  go_wp2_with fail
  refine (implTen_yes T P I Q t HG.out HT.out _).mono ?_
  rintro e w1 ⟨rfl, hb⟩
  have T1 := Lib.hid (T0.out.later hb)
  have B1 : Hid (Below w.heap.size w w1) := Lib.hid (B0.out.trans (hb.mono B0.out.size))
  clear hb
  have c0 := T1.out.c0
  have c1 := T1.out.c1
  have c2 := T1.out.c2
  have c3 := T1.out.c3
  go_wp2_with fail
  refine (implPW_yes T P I Q HG.out _).mono ?_
  rintro e w2 ⟨rfl, hb⟩
  clear c0 c1 c2 c3
  have T2 := Lib.hid (T1.out.later hb)
  have B2 : Hid (Below w.heap.size w w2) := Lib.hid (B1.out.trans (hb.mono B1.out.size))
  clear hb
  have c0 := T2.out.c0
  have c1 := T2.out.c1
  have c2 := T2.out.c2
  have c3 := T2.out.c3
  rw [HW.out]
  go_wp2
  go_ret
  exact ⟨rfl, B2.out⟩
set_option maxRecDepth 100000 in
set_option maxHeartbeats 1000000 in
theorem implAt_no (T P I Q t a : Int) (h : ¬ (GeoR T P I Q ∧ 0 ≤ t ∧ t ≤ T - 1)) (w : World) : Calls Tryz.prog 59 #[.agg #[.int .i64 T, .int .i64 P, .int .i64 I, .int .i64 Q], .int .i64 t, .int .i64 a] w (SaysI (-1) w) := by
  have T0 := Lib.hid (Four.alloc w T P I Q 31)
  have B0 := Lib.hid (below_al w (.cells #[.int .i64 T, .int .i64 P, .int .i64 I, .int .i64 Q] 31))
  have HG := Lib.hid h
  clear h
  go_enter Tryz.func59, Tryz.ntmps59
  go_wp2_with fail
  refine (implTen_no T P I Q t HG.out _).mono ?_
  rintro e w1 ⟨rfl, hb⟩
  have T1 := Lib.hid (T0.out.later hb)
  have B1 : Hid (Below w.heap.size w w1) := Lib.hid (B0.out.trans (hb.mono B0.out.size))
  clear hb
  have c0 := T1.out.c0
  have c1 := T1.out.c1
  have c2 := T1.out.c2
  have c3 := T1.out.c3
  go_wp2
  go_ret
  exact ⟨rfl, B1.out⟩
theorem implAt_nogeo (T P I Q : Int) (t a : Int) (h : ¬ GeoR T P I Q) (w : World) : Calls Tryz.prog 59 #[.agg #[.int .i64 T, .int .i64 P, .int .i64 I, .int .i64 Q], .int .i64 t, .int .i64 a] w (SaysI (-1) w) := implAt_no T P I Q t a (fun e => h e.1) w
end Go.Proofs.YtmkchilhnmkhkabGreat
namespace Go.Proofs.YtmkchilhnmkhkabGreat
open Go.RowKit

theorem implAt_any (T P I Q t a : Int) (ha : GeoR T P I Q → 0 ≤ a ∧ a ≤ 1000) (w : World) : Calls Tryz.prog 59 #[.agg #[.int .i64 T, .int .i64 P, .int .i64 I, .int .i64 Q], .int .i64 t, .int .i64 a] w (SaysI (placeV T P I Q t a) w) := by
  by_cases h : GeoR T P I Q ∧ 0 ≤ t ∧ t ≤ T - 1
  · rw [placeV_yes h]; exact implAt_yes T P I Q t a h.1 h.2 (ha h.1) w
  · rw [placeV_no h]; exact implAt_no T P I Q t a h w

set_option maxRecDepth 100000 in
set_option maxHeartbeats 1000000 in
theorem implInode_yes (T P I Q : Int) (t i : Int) (h : GeoR T P I Q) (hi : 0 ≤ i ∧ i ≤ I - 1) (w : World) : Calls Tryz.prog 29 #[.agg #[.int .i64 T, .int .i64 P, .int .i64 I, .int .i64 Q], .int .i64 t, .int .i64 i] w (SaysI (inodV T P I Q t i) w) := by
  have T0 := Lib.hid (Four.alloc w T P I Q 31)
  have B0 := Lib.hid (below_al w (.cells #[.int .i64 T, .int .i64 P, .int .i64 I, .int .i64 Q] 31))
  have HJ : Hid (inodV T P I Q t i = placeV T P I Q t (38 + 8 * i)) := Lib.hid (if_pos ⟨h, hi⟩)
  have HR := Lib.hid hi
  obtain ⟨i0, i1⟩ := hi
  have HG := Lib.hid h
  obtain ⟨g1, g2, g3, g4, g5, g6, g7, g8⟩ := h
  go_enter Tryz.func29, Tryz.ntmps29
  have c0 := T0.out.c0
  have c1 := T0.out.c1
  have c2 := T0.out.c2
  have c3 := T0.out.c3
  go_wp2_with fail
  refine (implIdx_yes _ ⟨HR.out.1, by have := HR.out.2; omega⟩).mono ?_
  rintro e w9 ⟨rfl, rfl⟩
  go_wp2_with fail
  refine (implAt_any T P I Q t (38 + 8 * i) (fun _ => by omega) _).mono ?_
  rintro e w8 ⟨rfl, hb⟩
  have B8 : Hid (Below w.heap.size w w8) := Lib.hid (B0.out.trans (hb.mono B0.out.size))
  clear hb
  obtain ⟨v, hv⟩ : ∃ v, placeV T P I Q t (38 + 8 * i) = v := ⟨_, rfl⟩
  rw [hv]
  have HV := Lib.hid hv
  clear hv
  go_wp2
  go_ret
  exact ⟨by rw [HJ.out, HV.out]; rfl, B8.out⟩
set_option maxRecDepth 100000 in
set_option maxHeartbeats 1000000 in
theorem implInode_noi (T P I Q : Int) (t i : Int) (h : GeoR T P I Q) (hi : ¬ (0 ≤ i ∧ i ≤ I - 1)) (w : World) : Calls Tryz.prog 29 #[.agg #[.int .i64 T, .int .i64 P, .int .i64 I, .int .i64 Q], .int .i64 t, .int .i64 i] w (SaysI (inodV T P I Q t i) w) := by
  have T0 := Lib.hid (Four.alloc w T P I Q 31)
  have B0 := Lib.hid (below_al w (.cells #[.int .i64 T, .int .i64 P, .int .i64 I, .int .i64 Q] 31))
  have HJ : Hid (inodV T P I Q t i = -1) := Lib.hid (if_neg (fun e => hi e.2))
  have HR := Lib.hid hi
  clear hi
  have HG := Lib.hid h
  obtain ⟨g1, g2, g3, g4, g5, g6, g7, g8⟩ := h
  go_enter Tryz.func29, Tryz.ntmps29
  have c0 := T0.out.c0
  have c1 := T0.out.c1
  have c2 := T0.out.c2
  have c3 := T0.out.c3
  go_wp2_with fail
  refine (implIdx_no _ (fun e => HR.out ⟨e.1, by omega⟩)).mono ?_
  rintro e w9 ⟨rfl, rfl⟩
  go_wp2
  go_ret
  exact ⟨by rw [HJ.out]; rfl, B0.out⟩
set_option maxRecDepth 100000 in
set_option maxHeartbeats 1000000 in
theorem implInode_nogy (T P I Q : Int) (t i : Int) (h : ¬ GeoR T P I Q) (hi : (0 ≤ i ∧ i < I)) (w : World) : Calls Tryz.prog 29 #[.agg #[.int .i64 T, .int .i64 P, .int .i64 I, .int .i64 Q], .int .i64 t, .int .i64 i] w (SaysI (inodV T P I Q t i) w) := by
  have T0 := Lib.hid (Four.alloc w T P I Q 31)
  have B0 := Lib.hid (below_al w (.cells #[.int .i64 T, .int .i64 P, .int .i64 I, .int .i64 Q] 31))
  have HJ : Hid (inodV T P I Q t i = -1) := Lib.hid (if_neg (fun e => h e.1))
  have HR := Lib.hid hi
  clear hi
  have HG := Lib.hid h
  clear h
  go_enter Tryz.func29, Tryz.ntmps29
  have c0 := T0.out.c0
  have c1 := T0.out.c1
  have c2 := T0.out.c2
  have c3 := T0.out.c3
  go_wp2_with fail
  refine (implIdx_yes _ HR.out).mono ?_
  rintro e w9 ⟨rfl, rfl⟩
  go_wp2_with fail
  refine (implAt_nogeo T P I Q t _ HG.out _).mono ?_
  rintro e w8 ⟨rfl, hb⟩
  have B8 : Hid (Below w.heap.size w w8) := Lib.hid (B0.out.trans (hb.mono B0.out.size))
  clear hb
  go_wp2
  go_ret
  exact ⟨by rw [HJ.out]; rfl, B8.out⟩
set_option maxRecDepth 100000 in
set_option maxHeartbeats 1000000 in
theorem implInode_nogn (T P I Q : Int) (t i : Int) (h : ¬ GeoR T P I Q) (hi : ¬ (0 ≤ i ∧ i < I)) (w : World) : Calls Tryz.prog 29 #[.agg #[.int .i64 T, .int .i64 P, .int .i64 I, .int .i64 Q], .int .i64 t, .int .i64 i] w (SaysI (inodV T P I Q t i) w) := by
  have T0 := Lib.hid (Four.alloc w T P I Q 31)
  have B0 := Lib.hid (below_al w (.cells #[.int .i64 T, .int .i64 P, .int .i64 I, .int .i64 Q] 31))
  have HJ : Hid (inodV T P I Q t i = -1) := Lib.hid (if_neg (fun e => h e.1))
  have HR := Lib.hid hi
  clear hi
  have HG := Lib.hid h
  clear h
  go_enter Tryz.func29, Tryz.ntmps29
  have c0 := T0.out.c0
  have c1 := T0.out.c1
  have c2 := T0.out.c2
  have c3 := T0.out.c3
  go_wp2_with fail
  refine (implIdx_no _ HR.out).mono ?_
  rintro e w9 ⟨rfl, rfl⟩
  go_wp2
  go_ret
  exact ⟨by rw [HJ.out]; rfl, B0.out⟩
theorem implInode_nog (T P I Q t i : Int) (h : ¬ GeoR T P I Q) (w : World) : Calls Tryz.prog 29 #[.agg #[.int .i64 T, .int .i64 P, .int .i64 I, .int .i64 Q], .int .i64 t, .int .i64 i] w (SaysI (inodV T P I Q t i) w) := by
  by_cases hi : 0 ≤ i ∧ i < I
  · exact implInode_nogy T P I Q t i h hi w
  · exact implInode_nogn T P I Q t i h hi w
theorem implInode_any (T P I Q t i : Int) (w : World) : Calls Tryz.prog 29 #[.agg #[.int .i64 T, .int .i64 P, .int .i64 I, .int .i64 Q], .int .i64 t, .int .i64 i] w (SaysI (inodV T P I Q t i) w) := by
  by_cases hg : GeoR T P I Q
  · by_cases hi : 0 ≤ i ∧ i ≤ I - 1
    · exact implInode_yes T P I Q t i hg hi w
    · exact implInode_noi T P I Q t i hg hi w
  · exact implInode_nog T P I Q t i hg w
end Go.Proofs.YtmkchilhnmkhkabGreat

namespace Go.Proofs.YtmkchilhnmkhkabGreat
open Go.RowKit Go.Proofs.YtmkchilhnmkhkabGreat.Parts Go.Proofs.YtmkchilhnmkhkabGreat.Hexa Go.Proofs.YtmkchilhnmkhkabGreat.Byt

theorem implTen_dec (T P I Q t : Int) (w : World) : Calls Tryz.prog 24 #[.agg #[.int .i64 T, .int .i64 P, .int .i64 I, .int .i64 Q], .int .i64 t] w (SaysB (decB (GeoR T P I Q ∧ TenR T t)) w) := by
  by_cases h : GeoR T P I Q ∧ TenR T t
  · rw [decB_yes h]; exact implTen_yes T P I Q t h.1 h.2 w
  · rw [decB_no h]; exact implTen_no T P I Q t h w
set_option maxRecDepth 100000 in
set_option maxHeartbeats 4000000 in
theorem implStatesAt_any (T P I Q t : Int) (w : World) : Calls Tryz.prog 27 #[.agg #[.int .i64 T, .int .i64 P, .int .i64 I, .int .i64 Q], .int .i64 t] w (SaysI (placeV T P I Q t 36) w) := by
  have G0 := Lib.hid (Four.alloc w T P I Q 31)
  have B0 := Lib.hid (below_bk w (.cells #[.int .i64 T, .int .i64 P, .int .i64 I, .int .i64 Q] 31))
  have c0 := G0.out.c0
  have c1 := G0.out.c1
  have c2 := G0.out.c2
  have c3 := G0.out.c3
  obtain ⟨z, hz⟩ : ∃ z, placeV T P I Q t 36 = z := ⟨_, rfl⟩
  have HZ := Lib.hid hz
  rw [hz]
  clear hz
  go_enter Tryz.func27, Tryz.ntmps27
  go_wp2_with fail
  refine (implAt_any T P I Q t 36 (fun _ => by omega) _).mono ?_
  rw [HZ.out]
  rintro e w1 ⟨rfl, hb⟩
  go_wp2
  go_ret
  exact ⟨rfl, B0.out.trans (hb.mono B0.out.size)⟩

/-- What PartWrites gives. -/
def GivesPW (L : List WriteR) (w : World) (e : Ending) (w' : World) : Prop :=
  ∃ v, e = .returned v ∧ w'.ownsRow w.heap.size 62 2 v L.length (cellsE encW L) ∧ Below w.heap.size w w'
set_option maxRecDepth 100000 in
set_option maxHeartbeats 4000000 in
theorem implPWr_no (T P I Q t : Int) (p : PartR) (a1 : Option Addr) (c1 : Nat) (a2 : Option Addr) (c2 : Nat) (w : World) (h1 : (celRow cInt p.st).Rd w (.slice a1 p.st.length c1)) (h2 : (celRow cIno p.ino).Rd w (.slice a2 p.ino.length c2)) (hz : szL (cPart.cels p) ≤ 1048576) (ht : TyL (celsE cIno p.ino)) (hno : ¬ (PartOkR T P I Q p ∧ TenR T t)) :
    Calls Tryz.prog 9 #[.agg #[.int .i64 T, .int .i64 P, .int .i64 I, .int .i64 Q], .int .i64 t, .agg #[.int .i64 p.ser, .slice a1 p.st.length c1, .slice a2 p.ino.length c2]] w fun e w' => e = .returned (.slice none 0 0) ∧ Below w.heap.size w w' := by
  have hb1 := below_bk w (.cells #[.int .i64 T, .int .i64 P, .int .i64 I, .int .i64 Q] 31)
  have hb2 := below_bk (w.alloc (.cells #[.int .i64 T, .int .i64 P, .int .i64 I, .int .i64 Q] 31)) (.cells #[.int .i64 p.ser, .slice a1 p.st.length c1, .slice a2 p.ino.length c2] 35)
  have B0 := Lib.hid (hb1.trans (hb2.mono hb1.size))
  have G0 := Lib.hid ((Four.alloc w T P I Q 31).later hb2)
  have X0 : Hid (Bk ((w.alloc (.cells #[.int .i64 T, .int .i64 P, .int .i64 I, .int .i64 Q] 31)).alloc (.cells #[.int .i64 p.ser, .slice a1 p.st.length c1, .slice a2 p.ino.length c2] 35)) (w.heap.size + 1) #[.int .i64 p.ser, .slice a1 p.st.length c1, .slice a2 p.ino.length c2] 35) := Lib.hid (by
    have h := (Bk.alloc (w.alloc (.cells #[.int .i64 T, .int .i64 P, .int .i64 I, .int .i64 Q] 31)) #[.int .i64 p.ser, .slice a1 p.st.length c1, .slice a2 p.ino.length c2] 35)
    simpa using h)
  have HS1 := Lib.hid h1
  have HS2 := Lib.hid h2
  have HZ := Lib.hid hz
  have HT := Lib.hid ht
  have HNO := Lib.hid hno
  clear h1 h2 hz ht hb1 hb2 hno
  have k0 := G0.out.c0
  have k1 := G0.out.c1
  have k2 := G0.out.c2
  have k3 := G0.out.c3
  have y0 := X0.out.cell (j := 0) rfl
  have y1 := X0.out.cell (j := 1) rfl
  have y2 := X0.out.cell (j := 2) rfl
  obtain ⟨b1, e1⟩ : ∃ b, decB (GeoR T P I Q ∧ TenR T t) = b := ⟨_, rfl⟩
  obtain ⟨b2, e2⟩ : ∃ b, ptB T P I Q p = b := ⟨_, rfl⟩
  have E1 := Lib.hid e1
  have E2 := Lib.hid e2
  clear e1 e2
  go_enter Tryz.func9, Tryz.ntmps9
  go_wp2_with fail
  refine (implTen_dec T P I Q t _).mono ?_
  rw [E1.out]
  rintro e w1 ⟨rfl, hb⟩
  have G1 := Lib.hid (G0.out.later hb)
  have X1 := Lib.hid (X0.out.later hb)
  have B1 : Hid (Below w.heap.size w w1) := Lib.hid (B0.out.trans (hb.mono B0.out.size))
  clear hb k0 k1 k2 k3 y0 y1 y2
  cases b1 with
  | false =>
    go_wp2
    go_ret
    exact ⟨rfl, B1.out⟩
  | true =>
    have k0 := G1.out.c0
    have k1 := G1.out.c1
    have k2 := G1.out.c2
    have k3 := G1.out.c3
    have y0 := X1.out.cell (j := 0) rfl
    have y1 := X1.out.cell (j := 1) rfl
    have y2 := X1.out.cell (j := 2) rfl
    go_wp2_with fail
    refine (implPartOk_any T P I Q p a1 c1 a2 c2 _ (Cel.Rd.later B1.out _ _ HS1.out) (Cel.Rd.later B1.out _ _ HS2.out) HZ.out HT.out).mono ?_
    rw [E2.out]
    rintro e w2 ⟨rfl, hb⟩
    have B2 : Below w.heap.size w w2 := B1.out.trans (hb.mono B1.out.size)
    obtain rfl : b2 = false := by
      cases b2 with
      | false => rfl
      | true => exact absurd ⟨decB_iff.1 E2.out, (decB_iff.1 E1.out).2⟩ HNO.out
    clear hb k0 k1 k2 k3 y0 y1 y2
    go_wp2
    go_ret
    exact ⟨rfl, B2⟩

end Go.Proofs.YtmkchilhnmkhkabGreat
namespace Go.Proofs.YtmkchilhnmkhkabGreat
open Go.RowKit Go.Proofs.YtmkchilhnmkhkabGreat.Parts Go.Proofs.YtmkchilhnmkhkabGreat.Hexa Go.Proofs.YtmkchilhnmkhkabGreat.Byt

theorem Four.under {w w' : World} {b B : Nat} {T P I Q : Int} {t : TypeId} (h : Four w b T P I Q t) (hb : Below B w w') (hB : b < B) : Four w' b T P I Q t := (hb.block b hB).trans h
theorem Bk.under' {w w' : World} {b B : Nat} {cs : Array Value} {t : TypeId} (h : Bk w b cs t) (hb : Below B w w') (hB : b < B) : Bk w' b cs t := (hb.block b hB).trans h
theorem Bk.apart {v : Value} {w w' : World} {b : Nat} {cs : Array Value} {t : TypeId} (h : Bk w b cs t) (ha : Apart v w w') (hv : v.ownBlock ≠ some b) : Bk w' b cs t := (ha.block b h.lt hv).trans h
theorem own_nilW (w : World) (B : Nat) : w.ownsRow B 62 2 (.slice none 0 0) ([] : List WriteR).length (cellsE encW []) := World.ownsRow_nil w B _ _
/-- The boxes of PartWrites, and what it has. -/
structure PwSt (w W : World) (T P I Q ser : Int) (v1 v2 : Value) (u : Value) (L : List WriteR) : Prop where
  geo : Four W w.heap.size T P I Q 31
  part : Bk W (w.heap.size + 1) #[.int .i64 ser, v1, v2] 35
  row : W.ownsRow (w.heap.size + 2) 62 2 u L.length (cellsE encW L)
  below : Below w.heap.size w W
end Go.Proofs.YtmkchilhnmkhkabGreat
namespace Go.Proofs.YtmkchilhnmkhkabGreat
open Go.RowKit Go.Proofs.YtmkchilhnmkhkabGreat.Parts Go.Proofs.YtmkchilhnmkhkabGreat.Hexa Go.Proofs.YtmkchilhnmkhkabGreat.Byt

structure WLoop (B : Nat) (v0 : Value) (W1 wr : World) (uv : Value) (L : List WriteR) (a0 : Int) (ws : List ByteArray) (k : Nat) : Prop where
  row : wr.ownsRow B 62 2 uv (L.length + k) (cellsE encW (L ++ wrsN a0 ws k))
  apart : Apart v0 W1 wr
  own : ∀ g, uv.ownBlock = some g → v0.ownBlock = some g ∨ W1.heap.size ≤ g
  below : Below B W1 wr
theorem WLoop.start {B : Nat} {v0 : Value} {W1 : World} {L : List WriteR} (a0 : Int) (ws : List ByteArray) (h : W1.ownsRow B 62 2 v0 L.length (cellsE encW L)) : WLoop B v0 W1 W1 v0 L a0 ws 0 :=
  ⟨by rw [show wrsN a0 ws 0 = [] from rfl, List.append_nil]; exact h, Apart.of_below (Below.refl _ _), fun g hg => .inl hg, Below.refl _ _⟩
theorem WLoop.later {B : Nat} {v0 : Value} {W1 wr wm : World} {uv : Value} {L : List WriteR} {a0 : Int} {ws : List ByteArray} {k : Nat} (h : WLoop B v0 W1 wr uv L a0 ws k) (hB : B ≤ W1.heap.size) (hb : Below wr.heap.size wr wm) : WLoop B v0 W1 wm uv L a0 ws k :=
  ⟨own_below h.row hb, ⟨Nat.le_trans h.apart.size hb.size, fun q hq hne => (hb.block q (Nat.lt_of_lt_of_le hq h.apart.size)).trans (h.apart.block q hq hne)⟩, h.own, h.below.trans (hb.mono (Nat.le_trans hB h.below.size))⟩
theorem WLoop.step {B : Nat} {v0 : Value} {W1 wr w2 : World} {uv v' : Value} {L : List WriteR} {a0 : Int} {ws : List ByteArray} {k : Nat} {o : Obj} (h : WLoop B v0 W1 wr uv L a0 ws k) (hB : B ≤ W1.heap.size) {s : ByteArray} (hs : ws.getD k default = s)
    (h1 : w2.ownsRow B 62 2 v' (L.length + k + 1) (cellsE encW (L ++ wrsN a0 ws k ++ [⟨a0 + (k : Int), s⟩]))) (h2 : (wr.alloc o).grownBy w2 uv.ownBlock) (h3 : v'.ownBlock = uv.ownBlock ∨ v'.ownBlock = some (wr.alloc o).heap.size) :
    WLoop B v0 W1 w2 v' L a0 ws (k + 1) := by
  have hba := below_bk wr o
  have h0 := h.apart.size
  have h9 := hba.size
  refine ⟨by rw [wrsN_succ, hs, ← List.append_assoc, ← Nat.add_assoc]; exact h1, ⟨Nat.le_trans h0 (Nat.le_trans h9 h2.size), fun q hq hne => ?_⟩, fun q hq => ?_, (h.below.trans (hba.mono (Nat.le_trans hB h0))).grown h2 (by omega) (fun q hq => (h.row.lt q hq).1)⟩
  · rw [h2.block q (by omega) (fun e => by
      rcases h.own q e.symm with h | h
      · exact hne h
      · omega), hba.block q (by omega)]
    exact h.apart.block q hq hne
  · rcases h3 with h3 | h3
    · exact h.own q (h3.symm.trans hq)
    · rw [h3] at hq
      have e : (wr.alloc o).heap.size = q := Option.some.inj hq
      exact .inr (by omega)
theorem WLoop.full {B : Nat} {v0 : Value} {W1 wr : World} {uv : Value} {L : List WriteR} {a0 : Int} {ws : List ByteArray} (h : WLoop B v0 W1 wr uv L a0 ws ws.length) : wr.ownsRow B 62 2 uv (L ++ wrs a0 ws).length (cellsE encW (L ++ wrs a0 ws)) := by
  have h9 := h.row
  unfold wrs
  rw [List.length_append, wrsN_len]
  exact h9
theorem PwSt.later {w W W' : World} {T P I Q ser : Int} {v1 v2 u : Value} {L : List WriteR} (h : PwSt w W T P I Q ser v1 v2 u L) (hb : Below W.heap.size W W') : PwSt w W' T P I Q ser v1 v2 u L :=
  ⟨h.geo.later hb, h.part.later hb, own_below h.row hb, h.below.trans (hb.mono h.below.size)⟩
theorem PwSt.full {w W wr : World} {T P I Q ser : Int} {v1 v2 u uv : Value} {L : List WriteR} {a0 : Int} {ws : List ByteArray} (h : PwSt w W T P I Q ser v1 v2 u L) (hl : WLoop (w.heap.size + 2) u W wr uv L a0 ws ws.length) : PwSt w wr T P I Q ser v1 v2 uv (L ++ wrs a0 ws) :=
  ⟨h.geo.under hl.below (by omega), h.part.under' hl.below (by omega), hl.full, h.below.trans (hl.below.mono (by omega))⟩
theorem PwSt.low {w W : World} {T P I Q ser : Int} {v1 v2 u : Value} {L : List WriteR} (h : PwSt w W T P I Q ser v1 v2 u L) : w.heap.size + 2 ≤ W.heap.size := h.part.lt
theorem nil_own (b : Nat) : (Value.slice none 0 0).ownBlock ≠ some b := fun h => nomatch (show (none : Option Nat) = some b from h)
theorem place_nn {T P I Q t : Int} (a : Int) (h : GeoR T P I Q ∧ 0 ≤ t ∧ t ≤ T - 1) (ha : 0 ≤ a ∧ a ≤ 1000) : 0 ≤ placeV T P I Q t a := by
  rw [placeV_yes h]
  obtain ⟨⟨_, t3, _, p2, _, i2, _, _⟩, h0, h1⟩ := h
  have hw : 0 ≤ wordsOf P I ∧ wordsOf P I ≤ 134 := by unfold wordsOf; omega
  have hm := Plc.mul_bd h0 (show t ≤ 3 by omega) hw.1 hw.2
  generalize t * wordsOf P I = z at hm ⊢
  omega
end Go.Proofs.YtmkchilhnmkhkabGreat
namespace Go.Proofs.YtmkchilhnmkhkabGreat
open Go.RowKit

set_option maxRecDepth 100000 in
set_option maxHeartbeats 400000 in
theorem specIn_any (n a b : Int) (w : World) : Calls Tryz.prog 39 #[.int .i64 n, .int .i64 a, .int .i64 b] w fun e w' => e = .returned (.bool (decide (a ≤ n ∧ n ≤ b))) ∧ w' = w := by
  by_cases h1 : a ≤ n <;> by_cases h2 : n ≤ b
  all_goals
    go_enter Tryz.func39, Tryz.ntmps39
    go_wp2
    all_goals go_ret
    all_goals exact ⟨by simp [h1, h2], rfl⟩
theorem specIn_yes {n a b : Int} (w : World) (h : a ≤ n ∧ n ≤ b) : Calls Tryz.prog 39 #[.int .i64 n, .int .i64 a, .int .i64 b] w fun e w' => e = .returned (.bool true) ∧ w' = w :=
  (specIn_any n a b w).mono fun _ _ ⟨he, hw⟩ => ⟨by rw [he, decide_eq_true h], hw⟩
theorem specIn_no {n a b : Int} (w : World) (h : ¬ (a ≤ n ∧ n ≤ b)) : Calls Tryz.prog 39 #[.int .i64 n, .int .i64 a, .int .i64 b] w fun e w' => e = .returned (.bool false) ∧ w' = w :=
  (specIn_any n a b w).mono fun _ _ ⟨he, hw⟩ => ⟨by rw [he, decide_eq_false h], hw⟩

set_option maxRecDepth 100000 in
set_option maxHeartbeats 1000000 in
theorem specGeo_yes (T P I Q : Int) (w : World) (h : GeoR T P I Q) : Calls Tryz.prog 38 #[.agg #[.int .i64 T, .int .i64 P, .int .i64 I, .int .i64 Q]] w (SaysB true w) := by
  obtain ⟨a1, a2, b1, b2, c1, c2, d1, d2⟩ := h
  have H1 : (1 : Int) ≤ T ∧ T ≤ 3 := ⟨a1, a2⟩
  have H2 : (5 : Int) ≤ P ∧ P ≤ 12 := ⟨b1, b2⟩
  have H3 : (2 : Int) ≤ I ∧ I ≤ 6 := ⟨c1, c2⟩
  have H4 : (1 : Int) ≤ Q ∧ Q ≤ P - 4 := ⟨d1, d2⟩
  go_enter Tryz.func38, Tryz.ntmps38
  go_wp2_with (first | ((with_reducible refine (specIn_yes _ H1).mono ?_); rintro e w1 ⟨rfl, rfl⟩) | ((with_reducible refine (specIn_yes _ H2).mono ?_); rintro e w1 ⟨rfl, rfl⟩) | ((with_reducible refine (specIn_yes _ H3).mono ?_); rintro e w1 ⟨rfl, rfl⟩) | ((with_reducible refine (specIn_yes _ H4).mono ?_); rintro e w1 ⟨rfl, rfl⟩))
  go_ret
  exact ⟨rfl, below_al w _⟩
set_option maxRecDepth 100000 in
set_option maxHeartbeats 1000000 in
theorem specGeo_no (T P I Q : Int) (w : World) (h : ¬ GeoR T P I Q) : Calls Tryz.prog 38 #[.agg #[.int .i64 T, .int .i64 P, .int .i64 I, .int .i64 Q]] w (SaysB false w) := by
  rcases geo_cases h with H1 | ⟨H1, H2⟩ | ⟨H1, H2, H3⟩ | ⟨H1, H2, H3, H4⟩
  · go_enter Tryz.func38, Tryz.ntmps38
    go_wp2_with ((with_reducible refine (specIn_no _ H1).mono ?_); rintro e w1 ⟨rfl, rfl⟩)
    go_ret
    exact ⟨rfl, below_al w _⟩
  · go_enter Tryz.func38, Tryz.ntmps38
    go_wp2_with (first | ((with_reducible refine (specIn_yes _ H1).mono ?_); rintro e w1 ⟨rfl, rfl⟩) | ((with_reducible refine (specIn_no _ H2).mono ?_); rintro e w1 ⟨rfl, rfl⟩))
    go_ret
    exact ⟨rfl, below_al w _⟩
  · go_enter Tryz.func38, Tryz.ntmps38
    go_wp2_with (first | ((with_reducible refine (specIn_yes _ H1).mono ?_); rintro e w1 ⟨rfl, rfl⟩) | ((with_reducible refine (specIn_yes _ H2).mono ?_); rintro e w1 ⟨rfl, rfl⟩) | ((with_reducible refine (specIn_no _ H3).mono ?_); rintro e w1 ⟨rfl, rfl⟩))
    go_ret
    exact ⟨rfl, below_al w _⟩
  · obtain ⟨b1, b2⟩ := H2
    have H2 : (5 : Int) ≤ P ∧ P ≤ 12 := ⟨b1, b2⟩
    go_enter Tryz.func38, Tryz.ntmps38
    go_wp2_with (first | ((with_reducible refine (specIn_yes _ H1).mono ?_); rintro e w1 ⟨rfl, rfl⟩) | ((with_reducible refine (specIn_yes _ H2).mono ?_); rintro e w1 ⟨rfl, rfl⟩) | ((with_reducible refine (specIn_yes _ H3).mono ?_); rintro e w1 ⟨rfl, rfl⟩) | ((with_reducible refine (specIn_no _ H4).mono ?_); rintro e w1 ⟨rfl, rfl⟩))
    go_ret
    exact ⟨rfl, below_al w _⟩
end Go.Proofs.YtmkchilhnmkhkabGreat
namespace Go.Proofs.YtmkchilhnmkhkabGreat
open Go.RowKit

set_option maxRecDepth 100000 in
set_option maxHeartbeats 1000000 in
theorem specPW_yes (T P I Q : Int) (h : GeoR T P I Q) (w : World) : Calls Tryz.prog 79 #[.agg #[.int .i64 T, .int .i64 P, .int .i64 I, .int .i64 Q]] w (SaysI (wordsOf P I) w) := by
  have T0 := Lib.hid (Four.alloc w T P I Q 31)
  have B0 := Lib.hid (below_al w (.cells #[.int .i64 T, .int .i64 P, .int .i64 I, .int .i64 Q] 31))
  have HG := Lib.hid h
  obtain ⟨g1, g2, g3, g4, g5, g6, g7, g8⟩ := h
  go_enter Tryz.func79, Tryz.ntmps79
  go_wp2_with fail
  refine (specGeo_yes T P I Q _ HG.out).mono ?_
  rintro e w1 ⟨rfl, hb⟩
  have T1 := Lib.hid (T0.out.later hb)
  have B1 : Hid (Below w.heap.size w w1) := Lib.hid (B0.out.trans (hb.mono B0.out.size))
  clear hb
  have c0 := T1.out.c0
  have c1 := T1.out.c1
  have c2 := T1.out.c2
  have c3 := T1.out.c3
  go_wp2
  go_ret
  exact ⟨rfl, B1.out⟩
set_option maxRecDepth 100000 in
set_option maxHeartbeats 1000000 in
theorem specPW_no (T P I Q : Int) (h : ¬ GeoR T P I Q) (w : World) : Calls Tryz.prog 79 #[.agg #[.int .i64 T, .int .i64 P, .int .i64 I, .int .i64 Q]] w (SaysI 0 w) := by
  have T0 := Lib.hid (Four.alloc w T P I Q 31)
  have B0 := Lib.hid (below_al w (.cells #[.int .i64 T, .int .i64 P, .int .i64 I, .int .i64 Q] 31))
  have HG := Lib.hid h
  clear h
  go_enter Tryz.func79, Tryz.ntmps79
  go_wp2_with fail
  refine (specGeo_no T P I Q _ HG.out).mono ?_
  rintro e w1 ⟨rfl, hb⟩
  have T1 := Lib.hid (T0.out.later hb)
  have B1 : Hid (Below w.heap.size w w1) := Lib.hid (B0.out.trans (hb.mono B0.out.size))
  clear hb
  have c0 := T1.out.c0
  have c1 := T1.out.c1
  have c2 := T1.out.c2
  have c3 := T1.out.c3
  go_wp2
  go_ret
  exact ⟨rfl, B1.out⟩
end Go.Proofs.YtmkchilhnmkhkabGreat
namespace Go.Proofs.YtmkchilhnmkhkabGreat
open Go.RowKit

set_option maxRecDepth 100000 in
set_option maxHeartbeats 1000000 in
theorem specAt_yes (T P I Q : Int) (t a : Int) (h : GeoR T P I Q) (ht : 0 ≤ t ∧ t ≤ T - 1) (ha : 0 ≤ a ∧ a ≤ 1000) (w : World) : Calls Tryz.prog 46 #[.agg #[.int .i64 T, .int .i64 P, .int .i64 I, .int .i64 Q], .int .i64 t, .int .i64 a] w (SaysI (t * wordsOf P I + a) w) := by
  have T0 := Lib.hid (Four.alloc w T P I Q 31)
  have B0 := Lib.hid (below_al w (.cells #[.int .i64 T, .int .i64 P, .int .i64 I, .int .i64 Q] 31))
  obtain ⟨W, hW⟩ : ∃ W, wordsOf P I = W := ⟨_, rfl⟩
  have HG := Lib.hid h
  obtain ⟨g1, g2, g3, g4, g5, g6, g7, g8⟩ := h
  have hw0 : 0 ≤ W ∧ W ≤ 134 := by unfold wordsOf at hW; omega
  have hm := Plc.mul_bd ht.1 (by omega) hw0.1 hw0.2
  obtain ⟨m1, m2⟩ := hm
  obtain ⟨W1, W2⟩ := hw0
  have HW := Lib.hid hW
  have HT := Lib.hid ht
  obtain ⟨t1, t2⟩ := ht
  obtain ⟨a1, a2⟩ := ha
  rw [hW]
  clear hW
  go_enter Tryz.func46, Tryz.ntmps46
  go_wp2_with fail
  refine (specGeo_yes T P I Q _ HG.out).mono ?_
  rintro e w1 ⟨rfl, hb⟩
  have T1 := Lib.hid (T0.out.later hb)
  have B1 : Hid (Below w.heap.size w w1) := Lib.hid (B0.out.trans (hb.mono B0.out.size))
  clear hb
  have c0 := T1.out.c0
  have c1 := T1.out.c1
  have c2 := T1.out.c2
  have c3 := T1.out.c3
  go_wp2_with fail
  refine (specIn_yes _ HT.out).mono ?_
  rintro e w9 ⟨rfl, rfl⟩
  go_wp2_with fail
  refine (specPW_yes T P I Q HG.out _).mono ?_
  rintro e w2 ⟨rfl, hb⟩
  clear c0 c1 c2 c3
  have T2 := Lib.hid (T1.out.later hb)
  have B2 : Hid (Below w.heap.size w w2) := Lib.hid (B1.out.trans (hb.mono B1.out.size))
  clear hb
  have c0 := T2.out.c0
  have c1 := T2.out.c1
  have c2 := T2.out.c2
  have c3 := T2.out.c3
  rw [HW.out]
  go_wp2
  go_ret
  exact ⟨rfl, B2.out⟩
set_option maxRecDepth 100000 in
set_option maxHeartbeats 1000000 in
theorem specAt_nogeo (T P I Q : Int) (t a : Int) (h : ¬ GeoR T P I Q) (w : World) : Calls Tryz.prog 46 #[.agg #[.int .i64 T, .int .i64 P, .int .i64 I, .int .i64 Q], .int .i64 t, .int .i64 a] w (SaysI (-1) w) := by
  have T0 := Lib.hid (Four.alloc w T P I Q 31)
  have B0 := Lib.hid (below_al w (.cells #[.int .i64 T, .int .i64 P, .int .i64 I, .int .i64 Q] 31))
  have HG := Lib.hid h
  clear h
  go_enter Tryz.func46, Tryz.ntmps46
  go_wp2_with fail
  refine (specGeo_no T P I Q _ HG.out).mono ?_
  rintro e w1 ⟨rfl, hb⟩
  have T1 := Lib.hid (T0.out.later hb)
  have B1 : Hid (Below w.heap.size w w1) := Lib.hid (B0.out.trans (hb.mono B0.out.size))
  clear hb
  have c0 := T1.out.c0
  have c1 := T1.out.c1
  have c2 := T1.out.c2
  have c3 := T1.out.c3
  go_wp2
  go_ret
  exact ⟨rfl, B1.out⟩
set_option maxRecDepth 100000 in
set_option maxHeartbeats 1000000 in
theorem specAt_noten (T P I Q : Int) (t a : Int) (h : GeoR T P I Q) (ht : ¬ (0 ≤ t ∧ t ≤ T - 1)) (w : World) : Calls Tryz.prog 46 #[.agg #[.int .i64 T, .int .i64 P, .int .i64 I, .int .i64 Q], .int .i64 t, .int .i64 a] w (SaysI (-1) w) := by
  have T0 := Lib.hid (Four.alloc w T P I Q 31)
  have B0 := Lib.hid (below_al w (.cells #[.int .i64 T, .int .i64 P, .int .i64 I, .int .i64 Q] 31))
  have HG := Lib.hid h
  obtain ⟨g1, g2, g3, g4, g5, g6, g7, g8⟩ := h
  have HT := Lib.hid ht
  clear ht
  go_enter Tryz.func46, Tryz.ntmps46
  go_wp2_with fail
  refine (specGeo_yes T P I Q _ HG.out).mono ?_
  rintro e w1 ⟨rfl, hb⟩
  have T1 := Lib.hid (T0.out.later hb)
  have B1 : Hid (Below w.heap.size w w1) := Lib.hid (B0.out.trans (hb.mono B0.out.size))
  clear hb
  have c0 := T1.out.c0
  have c1 := T1.out.c1
  have c2 := T1.out.c2
  have c3 := T1.out.c3
  go_wp2_with fail
  refine (specIn_no _ HT.out).mono ?_
  rintro e w9 ⟨rfl, rfl⟩
  go_wp2
  go_ret
  exact ⟨rfl, B1.out⟩
theorem specAt_no (T P I Q t a : Int) (h : ¬ (GeoR T P I Q ∧ 0 ≤ t ∧ t ≤ T - 1)) (w : World) : Calls Tryz.prog 46 #[.agg #[.int .i64 T, .int .i64 P, .int .i64 I, .int .i64 Q], .int .i64 t, .int .i64 a] w (SaysI (-1) w) := by
  by_cases hg : GeoR T P I Q
  · exact specAt_noten T P I Q t a hg (fun e => h ⟨hg, e⟩) w
  · exact specAt_nogeo T P I Q t a hg w
end Go.Proofs.YtmkchilhnmkhkabGreat
namespace Go.Proofs.YtmkchilhnmkhkabGreat
open Go.RowKit

theorem specAt_any (T P I Q t a : Int) (ha : GeoR T P I Q → 0 ≤ a ∧ a ≤ 1000) (w : World) : Calls Tryz.prog 46 #[.agg #[.int .i64 T, .int .i64 P, .int .i64 I, .int .i64 Q], .int .i64 t, .int .i64 a] w (SaysI (placeV T P I Q t a) w) := by
  by_cases h : GeoR T P I Q ∧ 0 ≤ t ∧ t ≤ T - 1
  · rw [placeV_yes h]; exact specAt_yes T P I Q t a h.1 h.2 (ha h.1) w
  · rw [placeV_no h]; exact specAt_no T P I Q t a h w

set_option maxRecDepth 100000 in
set_option maxHeartbeats 1000000 in
theorem specInode_yes (T P I Q : Int) (t i : Int) (h : GeoR T P I Q) (hi : 0 ≤ i ∧ i ≤ I - 1) (w : World) : Calls Tryz.prog 49 #[.agg #[.int .i64 T, .int .i64 P, .int .i64 I, .int .i64 Q], .int .i64 t, .int .i64 i] w (SaysI (inodV T P I Q t i) w) := by
  have T0 := Lib.hid (Four.alloc w T P I Q 31)
  have B0 := Lib.hid (below_al w (.cells #[.int .i64 T, .int .i64 P, .int .i64 I, .int .i64 Q] 31))
  have HJ : Hid (inodV T P I Q t i = placeV T P I Q t (38 + 8 * i)) := Lib.hid (if_pos ⟨h, hi⟩)
  have HR := Lib.hid hi
  obtain ⟨i0, i1⟩ := hi
  have HG := Lib.hid h
  obtain ⟨g1, g2, g3, g4, g5, g6, g7, g8⟩ := h
  go_enter Tryz.func49, Tryz.ntmps49
  go_wp2_with fail
  refine (specGeo_yes T P I Q _ HG.out).mono ?_
  rintro e w1 ⟨rfl, hb⟩
  have T1 := Lib.hid (T0.out.later hb)
  have B1 : Hid (Below w.heap.size w w1) := Lib.hid (B0.out.trans (hb.mono B0.out.size))
  clear hb
  have c0 := T1.out.c0
  have c1 := T1.out.c1
  have c2 := T1.out.c2
  have c3 := T1.out.c3
  go_wp2_with fail
  refine (specIn_yes _ HR.out).mono ?_
  rintro e w9 ⟨rfl, rfl⟩
  go_wp2_with fail
  refine (specAt_any T P I Q t (38 + 8 * i) (fun _ => by omega) _).mono ?_
  rintro e w8 ⟨rfl, hb⟩
  have B8 : Hid (Below w.heap.size w w8) := Lib.hid (B1.out.trans (hb.mono B1.out.size))
  clear hb
  obtain ⟨v, hv⟩ : ∃ v, placeV T P I Q t (38 + 8 * i) = v := ⟨_, rfl⟩
  rw [hv]
  have HV := Lib.hid hv
  clear hv
  go_wp2
  go_ret
  exact ⟨by rw [HJ.out, HV.out]; rfl, B8.out⟩
set_option maxRecDepth 100000 in
set_option maxHeartbeats 1000000 in
theorem specInode_noi (T P I Q : Int) (t i : Int) (h : GeoR T P I Q) (hi : ¬ (0 ≤ i ∧ i ≤ I - 1)) (w : World) : Calls Tryz.prog 49 #[.agg #[.int .i64 T, .int .i64 P, .int .i64 I, .int .i64 Q], .int .i64 t, .int .i64 i] w (SaysI (inodV T P I Q t i) w) := by
  have T0 := Lib.hid (Four.alloc w T P I Q 31)
  have B0 := Lib.hid (below_al w (.cells #[.int .i64 T, .int .i64 P, .int .i64 I, .int .i64 Q] 31))
  have HJ : Hid (inodV T P I Q t i = -1) := Lib.hid (if_neg (fun e => hi e.2))
  have HR := Lib.hid hi
  clear hi
  have HG := Lib.hid h
  obtain ⟨g1, g2, g3, g4, g5, g6, g7, g8⟩ := h
  go_enter Tryz.func49, Tryz.ntmps49
  go_wp2_with fail
  refine (specGeo_yes T P I Q _ HG.out).mono ?_
  rintro e w1 ⟨rfl, hb⟩
  have T1 := Lib.hid (T0.out.later hb)
  have B1 : Hid (Below w.heap.size w w1) := Lib.hid (B0.out.trans (hb.mono B0.out.size))
  clear hb
  have c0 := T1.out.c0
  have c1 := T1.out.c1
  have c2 := T1.out.c2
  have c3 := T1.out.c3
  go_wp2_with fail
  refine (specIn_no _ HR.out).mono ?_
  rintro e w9 ⟨rfl, rfl⟩
  go_wp2
  go_ret
  exact ⟨by rw [HJ.out]; rfl, B1.out⟩
set_option maxRecDepth 100000 in
set_option maxHeartbeats 1000000 in
theorem specInode_nog (T P I Q : Int) (t i : Int) (h : ¬ GeoR T P I Q) (w : World) : Calls Tryz.prog 49 #[.agg #[.int .i64 T, .int .i64 P, .int .i64 I, .int .i64 Q], .int .i64 t, .int .i64 i] w (SaysI (inodV T P I Q t i) w) := by
  have T0 := Lib.hid (Four.alloc w T P I Q 31)
  have B0 := Lib.hid (below_al w (.cells #[.int .i64 T, .int .i64 P, .int .i64 I, .int .i64 Q] 31))
  have HJ : Hid (inodV T P I Q t i = -1) := Lib.hid (if_neg (fun e => h e.1))
  have HG := Lib.hid h
  clear h
  go_enter Tryz.func49, Tryz.ntmps49
  go_wp2_with fail
  refine (specGeo_no T P I Q _ HG.out).mono ?_
  rintro e w1 ⟨rfl, hb⟩
  have T1 := Lib.hid (T0.out.later hb)
  have B1 : Hid (Below w.heap.size w w1) := Lib.hid (B0.out.trans (hb.mono B0.out.size))
  clear hb
  have c0 := T1.out.c0
  have c1 := T1.out.c1
  have c2 := T1.out.c2
  have c3 := T1.out.c3
  go_wp2
  go_ret
  exact ⟨by rw [HJ.out]; rfl, B1.out⟩
theorem specInode_any (T P I Q t i : Int) (w : World) : Calls Tryz.prog 49 #[.agg #[.int .i64 T, .int .i64 P, .int .i64 I, .int .i64 Q], .int .i64 t, .int .i64 i] w (SaysI (inodV T P I Q t i) w) := by
  by_cases hg : GeoR T P I Q
  · by_cases hi : 0 ≤ i ∧ i ≤ I - 1
    · exact specInode_yes T P I Q t i hg hi w
    · exact specInode_noi T P I Q t i hg hi w
  · exact specInode_nog T P I Q t i hg w
end Go.Proofs.YtmkchilhnmkhkabGreat
