/- Merged texts: InoWordsI, ReadInoImpl, StAtI, RpGrow. -/
import Derived.Test.YtkfkjcadmdcbnaaGreatDoorPZG
namespace Go.Proofs.YtkfkjcadmdcbnaaGreatDoor
open Go.RowKit Go.Proofs.YtkfkjcadmdcbnaaGreatDoor.Parts Go.Proofs.YtkfkjcadmdcbnaaGreatDoor.Hexa Go.Proofs.YtkfkjcadmdcbnaaGreatDoor.Byt

theorem file_fill {M : InoR} {R : List RecR} (hR : M.R = R) (hE : M.E.length = 0) : scells (recsTo M 0) ++ scells (R.map recWordB) = scells (fillTo M 0) := by
  have h : M.E = [] := List.eq_nil_of_length_eq_zero hE
  unfold recsTo fillTo wordsI
  rw [hR, h]
  simp [scells]
theorem dir_fill {M : InoR} {E : List EntryR} (hE : M.E = E) (hR : M.R.length = 0) : scells (recsTo M 0) ++ scells (E.map entryWordB) = scells (fillTo M 0) := by
  have h : M.R = [] := List.eq_nil_of_length_eq_zero hR
  unfold recsTo fillTo wordsI
  rw [hE, h]
  simp [scells]

section
variable (sz gn : Int) (key : ByteArray) (aR : Option Addr) (nR cR : Nat) (aE : Option Addr) (nE cE : Nat) (w : World) (R : List RecR) (E : List EntryR)

set_option maxRecDepth 100000 in
set_option maxHeartbeats 4000000 in
theorem implInoWords_file (hz : -9223372036854775808 ≤ sz ∧ sz ≤ 9223372036854775807) (hs : SrcRec w aR nR R) (hf : FitRec R nR 2000000) (hs' : SrcEntry w aE nE E) (hf' : FitEntry E nE 2000000) (h : InoOk ⟨1, sz, gn, key, R, E⟩) :
    Calls Tryz.prog 145 #[.agg #[.int .i64 1, .int .i64 sz, .int .i64 gn, .string key, .slice aR nR cR, .slice aE nE cE]] w (GivesT (inoWordsB ⟨1, sz, gn, key, R, E⟩) w) := by
  obtain ⟨i0, hi, hz0, hz1, hz2⟩ := info_parts infoText
  obtain ⟨M, hM⟩ : ∃ M : InoR, (⟨1, sz, gn, key, R, E⟩ : InoR) = M := ⟨_, rfl⟩
  have hlR : M.R.length = nR := by rw [← hM]; exact hs.len
  have hlE : M.E.length = nE := by rw [← hM]; exact hs'.len
  have hMR : M.R = R := by rw [← hM]
  have hME : M.E = E := by rw [← hM]
  have hl8 : (wordsI M).length ≤ 8 := wordsI_le (by rw [← hM]; exact h)
  have hlW : (wordsI M).length = 2 + nR + nE := by unfold wordsI; simp [hlR, hlE]; omega
  have HN := Lib.hid (inoB_yes h)
  have HR : Hid (inoWordsB M = fillTo M (8 - (2 + nR + nE))) := Lib.hid (by rw [← hlW]; exact inoWords_yes (by rw [← hM]; exact h))
  have HL8 : Hid ((inoWordsB M).length = 8) := Lib.hid (inoWords_length (by rw [← hM]; exact h))
  have HZ := Lib.hid hz
  have HF := Lib.hid hf
  have HF' := Lib.hid hf'
  have hgn := h.1
  have HGN : Hid (0 ≤ gn ∧ gn ≤ 65535) := Lib.hid hgn
  have hl8' : nR + nE ≤ 6 := by omega
  have hkind : Hid (nE = 0) := Lib.hid (by
    have x := (inoOk_file (show 0 ≤ gn ∧ gn ≤ 65535 from h.1)).1 h
    have e1 := hs.len
    have e2 := hs'.len
    rw [← e2]; exact x.2.2.2.1)
  have B0 := Lib.hid (below_bk w (inoObj 1 sz gn key aR nR cR aE nE cE))
  have K0 := Lib.hid (Bk.alloc w (inoCs 1 sz gn key aR nR cR aE nE cE) 102)
  have N0 : Hid ((w.alloc (inoObj 1 sz gn key aR nR cR aE nE cE)).heap.size = w.heap.size + 1) := Lib.hid (by simp)
  have HS := Lib.hid (hs.below B0.out (Nat.le_refl _))
  have HS' := Lib.hid (hs'.below B0.out (Nat.le_refl _))
  have HLR := Lib.hid hlR
  have HLE := Lib.hid hlE
  have HMR := Lib.hid hMR
  have HME := Lib.hid hME
  have HE0 : Hid (headB M = wordB (numTextB 1 1 ++ numTextB sz 2 ++ numTextB gn 2)) := Lib.hid (by rw [← hM]; rfl)
  have HE1 : Hid (wordB M.key = wordB key) := Lib.hid (by rw [← hM])
  have HC : Hid (∀ W : World, Calls Tryz.prog 140 #[.agg #[.int .i64 1, .int .i64 sz, .int .i64 gn, .string key, .slice aR nR cR, .slice aE nE cE]] W fun e w' => e = .returned (.iface 156 (.agg #[.int .i64 sz, .string key, .slice aR nR cR])) ∧ Below W.heap.size W w') := Lib.hid (fun W => implBody_any 1 sz gn key aR nR cR aE nE cE W)
  obtain ⟨A, hA⟩ : ∃ A, numTextB 1 1 = A := ⟨_, rfl⟩
  obtain ⟨D, hD⟩ : ∃ D, numTextB sz 2 = D := ⟨_, rfl⟩
  obtain ⟨G, hG⟩ : ∃ G, numTextB gn 2 = G := ⟨_, rfl⟩
  have hA1 : A.size ≤ 1 := by rw [← hA]; rcases numTextB_size 1 1 with e | e <;> rw [e] <;> decide
  have hD1 : D.size ≤ 2 := by rw [← hD]; rcases numTextB_size sz 2 with e | e <;> rw [e] <;> decide
  have hG1 : G.size ≤ 2 := by rw [← hG]; rcases numTextB_size gn 2 with e | e <;> rw [e] <;> decide
  have hAD : ¬ (9223372036854775807 < A.size + D.size) := by omega
  have hADG : ¬ (9223372036854775807 < A.size + D.size + G.size) := by omega
  rw [hA, hD, hG] at HE0
  have HA := Lib.hid hA
  have HD := Lib.hid hD
  have HG := Lib.hid hG
  rw [hM]
  clear hz hs hf hs' hf' h hA hD hG hM hMR hME hl8 hlW hlR hlE hgn
  go_enter Tryz.func145, Tryz.ntmps145
  go_wp2_with fail
  refine (implIno_any 1 sz gn key aR nR cR aE nE cE _ R E HZ.out (by omega) HS.out HF.out HS'.out HF'.out).mono ?_
  rw [HN.out]
  rintro e w1 ⟨rfl, hb1⟩
  have T0 := Lib.hid (K0.out.later hb1)
  have B1 : Hid (Below (w.heap.size + 1) (w.alloc (inoObj 1 sz gn key aR nR cR aE nE cE)) w1) := Lib.hid (by rw [N0.out] at hb1; exact hb1)
  clear hb1
  go_wp2
  have T0d := Lib.hid T0.out.drew
  have B1d := Lib.hid B1.out.drew
  go_region_held3 (fun w' => w'.cell? ⟨w.heap.size, 0, none⟩ = some (.int .i64 1) ∧ w'.cell? ⟨w.heap.size, 1, none⟩ = some (.int .i64 sz) ∧ w'.cell? ⟨w.heap.size, 2, none⟩ = some (.int .i64 gn))
    (first
      | exact ⟨T0d.out.cell rfl, T0d.out.cell rfl, T0d.out.cell rfl⟩
      | exact ⟨T2.out.cell rfl, T2.out.cell rfl, T2.out.cell rfl⟩
      | exact ⟨T3.out.cell rfl, T3.out.cell rfl, T3.out.cell rfl⟩
      | exact ⟨T4.out.cell rfl, T4.out.cell rfl, T4.out.cell rfl⟩
      | go_keep)
    (first
      | (go_at_call 180; (with_reducible refine (implNum_any 1 1 _ (by omega)).mono ?_); rw [HA.out]; rintro e w2 ⟨rfl, hb⟩; have T2 := Lib.hid (T0d.out.later hb); have B2 := Lib.hid (below_on B1d.out (by rw [N0.out]; exact Nat.le_refl _) hb); clear hb)
      | (go_at_call 180; (with_reducible refine (implNum_any sz 2 _ HZ.out.2).mono ?_); rw [HD.out]; rintro e w3 ⟨rfl, hb⟩; have T3 := Lib.hid (T2.out.later hb); have B3 := Lib.hid (below_on B2.out (by rw [N0.out]; exact Nat.le_refl _) hb); clear hb)
      | (go_at_call 180; (with_reducible refine (implNum_any gn 2 _ (by have := HGN.out.2; omega)).mono ?_); rw [HG.out]; rintro e w4 ⟨rfl, hb⟩; have T4 := Lib.hid (T3.out.later hb); have B4 := Lib.hid (below_on B3.out (by rw [N0.out]; exact Nat.le_refl _) hb); clear hb))
  go_wp2
  have T4d := Lib.hid T4.out.drew
  have B4d := Lib.hid B4.out.drew
  go_region_held3 (fun w' => w'.cell? ⟨w.heap.size, 3, none⟩ = some (.string key))
    (first
      | exact T4d.out.cell rfl
      | exact T5.out.cell rfl
      | exact T6.out.cell rfl
      | go_keep)
    (first
      | (go_at_call 179; (with_reducible refine (implWord_any (A ++ D ++ G) _).mono ?_); rw [← HE0.out]; rintro e w5 ⟨rfl, hb⟩; have T5 := Lib.hid (T4d.out.later hb); have B5 := Lib.hid (below_on B4d.out (by rw [N0.out]; exact Nat.le_refl _) hb); clear hb)
      | (go_at_call 179; (with_reducible refine (implWord_any key _).mono ?_); rintro e w6 ⟨rfl, hb⟩; have T6 := Lib.hid (T5.out.later hb); have B6 := Lib.hid (below_on B5.out (by rw [N0.out]; exact Nat.le_refl _) hb); clear hb))
  have S6 : Hid (w.heap.size + 1 ≤ w6.heap.size) := Lib.hid (by have := B6.out.size; rw [N0.out] at this; exact this)
  have H01 : Hid (scells (recsTo M 0) = [.string (headB M), .string (wordB key)]) := Lib.hid (by rw [recsTo_zero, HE1.out]; rfl)
  have HW0 : Hid ((w6.alloc (.cells #[.string (headB M), .string (wordB key)] 9)).ownsRow (w.heap.size + 1) 9 1 (.slice (some ⟨w6.heap.size, 0, none⟩) 2 2) 2 (scells (recsTo M 0))) := Lib.hid (by rw [H01.out]; exact World.ownsRow_lit w6 #[.string (headB M), .string (wordB key)] 2 S6.out (by decide) rfl)
  have B7 : Hid (Below (w.heap.size + 1) (w.alloc (inoObj 1 sz gn key aR nR cR aE nE cE)) (w6.alloc (.cells #[.string (headB M), .string (wordB key)] 9))) := Lib.hid (B6.out.alloc S6.out _)
  have T7 := Lib.hid (T6.out.later (below_bk w6 (.cells #[.string (headB M), .string (wordB key)] 9)))
  have c0 := T7.out.cell (j := 0) rfl
  have c1 := T7.out.cell (j := 1) rfl
  have c2 := T7.out.cell (j := 2) rfl
  have c3 := T7.out.cell (j := 3) rfl
  have c4 := T7.out.cell (j := 4) rfl
  have c5 := T7.out.cell (j := 5) rfl
  clear hAD hADG
  go_wp2_with fail
  refine (HC.out _).mono ?_
  rintro e w8 ⟨rfl, hb8⟩
  have B8 : Hid (Below (w.heap.size + 1) (w.alloc (inoObj 1 sz gn key aR nR cR aE nE cE)) w8) := Lib.hid (B7.out.trans (hb8.mono (by have := S6.out; simp; omega)))
  have S8 : Hid (w.heap.size + 1 ≤ w8.heap.size) := Lib.hid (by have h9 := hb8.size; have := S6.out; simp at h9; omega)
  have HW8 := Lib.hid (own_below HW0.out hb8)
  clear hb8 c0 c1 c2 c3 c4 c5
  have a1 := as_file (.agg #[.int .i64 sz, .string key, .slice aR nR cR]) w8
  have B9 : Hid (Below (w.heap.size + 1) (w.alloc (inoObj 1 sz gn key aR nR cR aE nE cE)) (w8.alloc (.cells #[.int .i64 sz, .string key, .slice aR nR cR] 156))) := Lib.hid (B8.out.alloc S8.out _)
  have S9 : Hid (w.heap.size + 1 ≤ (w8.alloc (.cells #[.int .i64 sz, .string key, .slice aR nR cR] 156)).heap.size) := Lib.hid (by have := S8.out; simp; omega)
  have HW9 := Lib.hid (HW8.out.alloc (.cells #[.int .i64 sz, .string key, .slice aR nR cR] 156))
  have HFL : Hid (scells (recsTo M 0) ++ scells (R.map recWordB) = scells (fillTo M 0)) := Lib.hid (by
    exact file_fill HMR.out (by rw [HLE.out]; exact hkind.out))
  go_wp2_with fail
  refine (appendRecs_any (w.alloc (inoObj 1 sz gn key aR nR cR aE nE cE)) (w.heap.size + 1) _ 2 (scells (recsTo M 0)) aR nR cR R _ (by rw [N0.out]; exact Nat.le_refl _) B9.out S9.out HS.out HF.out (by omega) HW9.out).mono ?_
  rintro e w9 ⟨v9, rfl, hown9, hb9, hs9⟩
  rw [HFL.out] at hown9
  obtain ⟨n2, hn2⟩ : ∃ n2, 2 + nR = n2 := ⟨_, rfl⟩
  have HN2 : Hid (2 + nR + nE = n2) := Lib.hid (by rw [hkind.out]; exact hn2)
  have hn8 : n2 ≤ 8 := by omega
  rw [hn2] at hown9
  have HWF := Lib.hid hown9
  have BF := Lib.hid hb9
  clear hown9 hb9 hs9 hn2
  go_wp2
  go_loopw [4] (fun v wr => ∃ k3, n2 + k3 ≤ 8 ∧ Hid (wr.ownsRow (w.heap.size + 1) 9 1 v (n2 + k3) (scells (fillTo M k3))) ∧ Hid (Below (w.heap.size + 1) (w.alloc (inoObj 1 sz gn key aR nR cR aE nE cE)) wr)) (fun v _ => 8 - rowLen v)
  case atStart => exact ⟨0, by omega, HWF, BF⟩
  case round =>
    obtain ⟨k3, hk3, HW, HB⟩ := hrel
    obtain ⟨ad, cap, rfl, hcap, hn, _⟩ := own_form HW.out
    by_cases hlt3 : n2 + k3 < 8
    · obtain ⟨T, hT⟩ : ∃ T, zeroB 8 = T := ⟨_, rfl⟩
      have HT := Lib.hid hT
      have HWN : Hid (scells (fillTo M k3) ++ [.string T] = scells (fillTo M (k3 + 1))) := Lib.hid (by rw [← fillTo_next, ← HT.out]; rfl)
      clear hT
      go_wp2_with (first
        | (go_at_call 190; (with_reducible refine (implZero_any 8 _).mono ?_); rw [HT.out]; rintro e wa ⟨rfl, hb1⟩
           have HW1 := Lib.hid (own_below HW.out hb1)
           have BG := Lib.hid (below_on HB.out (by rw [N0.out]; exact Nat.le_refl _) hb1)
           have BS : Hid (w.heap.size + 1 ≤ wa.heap.size) := Lib.hid (by have := BG.out.size; rw [N0.out] at this; exact this))
        | (at_builtin; refine wpList_append_own _ rfl (.tmp 46) (.tmp 48) 38 rfl (w.heap.size + 1) 9 i0 (.string ⟨#[]⟩) 1 16 Tryz.underlying38 hi hz0 hz1 hz2 rfl (by decide) _ _ _ rfl (HW1.out.alloc _) ⟨wa.heap.size, 0, none⟩ 1 1 [.string T] rfl rfl (World.news_of_block (heap_alloc_new _ _)) (by simp [Value.oneCell']) (by unfold maxLen; omega) (by omega) (by have := BS.out; simp; omega) ?_; intro v2 wb hown2 hgrow2 hn2))
      have BG3 := Lib.hid ((BG.out.alloc BS.out _).grown hgrow2 (by have := BS.out; simp; omega) (own_block_ge HW1.out))
      rw [HWN.out] at hown2
      have HO2 := Lib.hid hown2
      clear hown2 hgrow2 hn2 HW1 BG BS HB HW
      obtain ⟨ad2, cap2, rfl, hcap2, hn9, _⟩ := own_form HO2.out
      go_roundw
      case rel => exact ⟨k3 + 1, by omega, HO2, BG3⟩
      case measure => (simp [rowLen]; try omega)
    · have HW9 : Hid (wr.ownsRow w.heap.size 9 1 (.slice ad (n2 + k3) cap) (inoWordsB M).length (scells (inoWordsB M))) := Lib.hid (by
        have h9 := HW.out
        rw [HL8.out, HR.out, HN2.out, show 8 - n2 = k3 by omega, show 8 = n2 + k3 by omega]
        exact ownE_mono h9 (by omega))
      clear HW
      go_wp2
      go_ret
      exact ⟨_, rfl, HW9.out, B0.out.trans (HB.out.mono (by omega))⟩

set_option maxRecDepth 100000 in
set_option maxHeartbeats 4000000 in
theorem implInoWords_dir (hz : -9223372036854775808 ≤ sz ∧ sz ≤ 9223372036854775807) (hs : SrcRec w aR nR R) (hf : FitRec R nR 2000000) (hs' : SrcEntry w aE nE E) (hf' : FitEntry E nE 2000000) (h : InoOk ⟨2, sz, gn, key, R, E⟩) :
    Calls Tryz.prog 145 #[.agg #[.int .i64 2, .int .i64 sz, .int .i64 gn, .string key, .slice aR nR cR, .slice aE nE cE]] w (GivesT (inoWordsB ⟨2, sz, gn, key, R, E⟩) w) := by
  obtain ⟨i0, hi, hz0, hz1, hz2⟩ := info_parts infoText
  obtain ⟨M, hM⟩ : ∃ M : InoR, (⟨2, sz, gn, key, R, E⟩ : InoR) = M := ⟨_, rfl⟩
  have hlR : M.R.length = nR := by rw [← hM]; exact hs.len
  have hlE : M.E.length = nE := by rw [← hM]; exact hs'.len
  have hMR : M.R = R := by rw [← hM]
  have hME : M.E = E := by rw [← hM]
  have hl8 : (wordsI M).length ≤ 8 := wordsI_le (by rw [← hM]; exact h)
  have hlW : (wordsI M).length = 2 + nR + nE := by unfold wordsI; simp [hlR, hlE]; omega
  have HN := Lib.hid (inoB_yes h)
  have HR : Hid (inoWordsB M = fillTo M (8 - (2 + nR + nE))) := Lib.hid (by rw [← hlW]; exact inoWords_yes (by rw [← hM]; exact h))
  have HL8 : Hid ((inoWordsB M).length = 8) := Lib.hid (inoWords_length (by rw [← hM]; exact h))
  have HZ := Lib.hid hz
  have HF := Lib.hid hf
  have HF' := Lib.hid hf'
  have hgn := h.1
  have HGN : Hid (0 ≤ gn ∧ gn ≤ 65535) := Lib.hid hgn
  have hl8' : nR + nE ≤ 6 := by omega
  have hkind : Hid (nR = 0) := Lib.hid (by
    have x := (inoOk_dir (show 0 ≤ gn ∧ gn ≤ 65535 from h.1)).1 h
    have e1 := hs.len
    have e2 := hs'.len
    rw [← e1]; exact x.2.2.1)
  have B0 := Lib.hid (below_bk w (inoObj 2 sz gn key aR nR cR aE nE cE))
  have K0 := Lib.hid (Bk.alloc w (inoCs 2 sz gn key aR nR cR aE nE cE) 102)
  have N0 : Hid ((w.alloc (inoObj 2 sz gn key aR nR cR aE nE cE)).heap.size = w.heap.size + 1) := Lib.hid (by simp)
  have HS := Lib.hid (hs.below B0.out (Nat.le_refl _))
  have HS' := Lib.hid (hs'.below B0.out (Nat.le_refl _))
  have HLR := Lib.hid hlR
  have HLE := Lib.hid hlE
  have HMR := Lib.hid hMR
  have HME := Lib.hid hME
  have HE0 : Hid (headB M = wordB (numTextB 2 1 ++ numTextB sz 2 ++ numTextB gn 2)) := Lib.hid (by rw [← hM]; rfl)
  have HE1 : Hid (wordB M.key = wordB key) := Lib.hid (by rw [← hM])
  have HC : Hid (∀ W : World, Calls Tryz.prog 140 #[.agg #[.int .i64 2, .int .i64 sz, .int .i64 gn, .string key, .slice aR nR cR, .slice aE nE cE]] W fun e w' => e = .returned (.iface 159 (.agg #[.slice aE nE cE])) ∧ Below W.heap.size W w') := Lib.hid (fun W => implBody_any 2 sz gn key aR nR cR aE nE cE W)
  obtain ⟨A, hA⟩ : ∃ A, numTextB 2 1 = A := ⟨_, rfl⟩
  obtain ⟨D, hD⟩ : ∃ D, numTextB sz 2 = D := ⟨_, rfl⟩
  obtain ⟨G, hG⟩ : ∃ G, numTextB gn 2 = G := ⟨_, rfl⟩
  have hA1 : A.size ≤ 1 := by rw [← hA]; rcases numTextB_size 2 1 with e | e <;> rw [e] <;> decide
  have hD1 : D.size ≤ 2 := by rw [← hD]; rcases numTextB_size sz 2 with e | e <;> rw [e] <;> decide
  have hG1 : G.size ≤ 2 := by rw [← hG]; rcases numTextB_size gn 2 with e | e <;> rw [e] <;> decide
  have hAD : ¬ (9223372036854775807 < A.size + D.size) := by omega
  have hADG : ¬ (9223372036854775807 < A.size + D.size + G.size) := by omega
  rw [hA, hD, hG] at HE0
  have HA := Lib.hid hA
  have HD := Lib.hid hD
  have HG := Lib.hid hG
  rw [hM]
  clear hz hs hf hs' hf' h hA hD hG hM hMR hME hl8 hlW hlR hlE hgn
  go_enter Tryz.func145, Tryz.ntmps145
  go_wp2_with fail
  refine (implIno_any 2 sz gn key aR nR cR aE nE cE _ R E HZ.out (by omega) HS.out HF.out HS'.out HF'.out).mono ?_
  rw [HN.out]
  rintro e w1 ⟨rfl, hb1⟩
  have T0 := Lib.hid (K0.out.later hb1)
  have B1 : Hid (Below (w.heap.size + 1) (w.alloc (inoObj 2 sz gn key aR nR cR aE nE cE)) w1) := Lib.hid (by rw [N0.out] at hb1; exact hb1)
  clear hb1
  go_wp2
  have T0d := Lib.hid T0.out.drew
  have B1d := Lib.hid B1.out.drew
  go_region_held3 (fun w' => w'.cell? ⟨w.heap.size, 0, none⟩ = some (.int .i64 2) ∧ w'.cell? ⟨w.heap.size, 1, none⟩ = some (.int .i64 sz) ∧ w'.cell? ⟨w.heap.size, 2, none⟩ = some (.int .i64 gn))
    (first
      | exact ⟨T0d.out.cell rfl, T0d.out.cell rfl, T0d.out.cell rfl⟩
      | exact ⟨T2.out.cell rfl, T2.out.cell rfl, T2.out.cell rfl⟩
      | exact ⟨T3.out.cell rfl, T3.out.cell rfl, T3.out.cell rfl⟩
      | exact ⟨T4.out.cell rfl, T4.out.cell rfl, T4.out.cell rfl⟩
      | go_keep)
    (first
      | (go_at_call 180; (with_reducible refine (implNum_any 2 1 _ (by omega)).mono ?_); rw [HA.out]; rintro e w2 ⟨rfl, hb⟩; have T2 := Lib.hid (T0d.out.later hb); have B2 := Lib.hid (below_on B1d.out (by rw [N0.out]; exact Nat.le_refl _) hb); clear hb)
      | (go_at_call 180; (with_reducible refine (implNum_any sz 2 _ HZ.out.2).mono ?_); rw [HD.out]; rintro e w3 ⟨rfl, hb⟩; have T3 := Lib.hid (T2.out.later hb); have B3 := Lib.hid (below_on B2.out (by rw [N0.out]; exact Nat.le_refl _) hb); clear hb)
      | (go_at_call 180; (with_reducible refine (implNum_any gn 2 _ (by have := HGN.out.2; omega)).mono ?_); rw [HG.out]; rintro e w4 ⟨rfl, hb⟩; have T4 := Lib.hid (T3.out.later hb); have B4 := Lib.hid (below_on B3.out (by rw [N0.out]; exact Nat.le_refl _) hb); clear hb))
  go_wp2
  have T4d := Lib.hid T4.out.drew
  have B4d := Lib.hid B4.out.drew
  go_region_held3 (fun w' => w'.cell? ⟨w.heap.size, 3, none⟩ = some (.string key))
    (first
      | exact T4d.out.cell rfl
      | exact T5.out.cell rfl
      | exact T6.out.cell rfl
      | go_keep)
    (first
      | (go_at_call 179; (with_reducible refine (implWord_any (A ++ D ++ G) _).mono ?_); rw [← HE0.out]; rintro e w5 ⟨rfl, hb⟩; have T5 := Lib.hid (T4d.out.later hb); have B5 := Lib.hid (below_on B4d.out (by rw [N0.out]; exact Nat.le_refl _) hb); clear hb)
      | (go_at_call 179; (with_reducible refine (implWord_any key _).mono ?_); rintro e w6 ⟨rfl, hb⟩; have T6 := Lib.hid (T5.out.later hb); have B6 := Lib.hid (below_on B5.out (by rw [N0.out]; exact Nat.le_refl _) hb); clear hb))
  have S6 : Hid (w.heap.size + 1 ≤ w6.heap.size) := Lib.hid (by have := B6.out.size; rw [N0.out] at this; exact this)
  have H01 : Hid (scells (recsTo M 0) = [.string (headB M), .string (wordB key)]) := Lib.hid (by rw [recsTo_zero, HE1.out]; rfl)
  have HW0 : Hid ((w6.alloc (.cells #[.string (headB M), .string (wordB key)] 9)).ownsRow (w.heap.size + 1) 9 1 (.slice (some ⟨w6.heap.size, 0, none⟩) 2 2) 2 (scells (recsTo M 0))) := Lib.hid (by rw [H01.out]; exact World.ownsRow_lit w6 #[.string (headB M), .string (wordB key)] 2 S6.out (by decide) rfl)
  have B7 : Hid (Below (w.heap.size + 1) (w.alloc (inoObj 2 sz gn key aR nR cR aE nE cE)) (w6.alloc (.cells #[.string (headB M), .string (wordB key)] 9))) := Lib.hid (B6.out.alloc S6.out _)
  have T7 := Lib.hid (T6.out.later (below_bk w6 (.cells #[.string (headB M), .string (wordB key)] 9)))
  have c0 := T7.out.cell (j := 0) rfl
  have c1 := T7.out.cell (j := 1) rfl
  have c2 := T7.out.cell (j := 2) rfl
  have c3 := T7.out.cell (j := 3) rfl
  have c4 := T7.out.cell (j := 4) rfl
  have c5 := T7.out.cell (j := 5) rfl
  clear hAD hADG
  go_wp2_with fail
  refine (HC.out _).mono ?_
  rintro e w8 ⟨rfl, hb8⟩
  have B8 : Hid (Below (w.heap.size + 1) (w.alloc (inoObj 2 sz gn key aR nR cR aE nE cE)) w8) := Lib.hid (B7.out.trans (hb8.mono (by have := S6.out; simp; omega)))
  have S8 : Hid (w.heap.size + 1 ≤ w8.heap.size) := Lib.hid (by have h9 := hb8.size; have := S6.out; simp at h9; omega)
  have HW8 := Lib.hid (own_below HW0.out hb8)
  clear hb8 c0 c1 c2 c3 c4 c5
  have a1 := dir_no_file (.agg #[.slice aE nE cE]) w8
  have a2 := as_dir (.agg #[.slice aE nE cE]) w8
  have B9 : Hid (Below (w.heap.size + 1) (w.alloc (inoObj 2 sz gn key aR nR cR aE nE cE)) (w8.alloc (.cells #[.slice aE nE cE] 159))) := Lib.hid (B8.out.alloc S8.out _)
  have S9 : Hid (w.heap.size + 1 ≤ (w8.alloc (.cells #[.slice aE nE cE] 159)).heap.size) := Lib.hid (by have := S8.out; simp; omega)
  have HW9 := Lib.hid (HW8.out.alloc (.cells #[.slice aE nE cE] 159))
  have HFL : Hid (scells (recsTo M 0) ++ scells (E.map entryWordB) = scells (fillTo M 0)) := Lib.hid (by
    exact dir_fill HME.out (by rw [HLR.out]; exact hkind.out))
  go_wp2_with fail
  refine (appendEntrys_any (w.alloc (inoObj 2 sz gn key aR nR cR aE nE cE)) (w.heap.size + 1) _ 2 (scells (recsTo M 0)) aE nE cE E _ (by rw [N0.out]; exact Nat.le_refl _) B9.out S9.out HS'.out HF'.out (by omega) HW9.out).mono ?_
  rintro e w9 ⟨v9, rfl, hown9, hb9, hs9⟩
  rw [HFL.out] at hown9
  obtain ⟨n2, hn2⟩ : ∃ n2, 2 + nE = n2 := ⟨_, rfl⟩
  have HN2 : Hid (2 + nR + nE = n2) := Lib.hid (by rw [hkind.out]; omega)
  have hn8 : n2 ≤ 8 := by omega
  rw [hn2] at hown9
  have HWF := Lib.hid hown9
  have BF := Lib.hid hb9
  clear hown9 hb9 hs9 hn2
  go_wp2
  go_loopw [4] (fun v wr => ∃ k3, n2 + k3 ≤ 8 ∧ Hid (wr.ownsRow (w.heap.size + 1) 9 1 v (n2 + k3) (scells (fillTo M k3))) ∧ Hid (Below (w.heap.size + 1) (w.alloc (inoObj 2 sz gn key aR nR cR aE nE cE)) wr)) (fun v _ => 8 - rowLen v)
  case atStart => exact ⟨0, by omega, HWF, BF⟩
  case round =>
    obtain ⟨k3, hk3, HW, HB⟩ := hrel
    obtain ⟨ad, cap, rfl, hcap, hn, _⟩ := own_form HW.out
    by_cases hlt3 : n2 + k3 < 8
    · obtain ⟨T, hT⟩ : ∃ T, zeroB 8 = T := ⟨_, rfl⟩
      have HT := Lib.hid hT
      have HWN : Hid (scells (fillTo M k3) ++ [.string T] = scells (fillTo M (k3 + 1))) := Lib.hid (by rw [← fillTo_next, ← HT.out]; rfl)
      clear hT
      go_wp2_with (first
        | (go_at_call 190; (with_reducible refine (implZero_any 8 _).mono ?_); rw [HT.out]; rintro e wa ⟨rfl, hb1⟩
           have HW1 := Lib.hid (own_below HW.out hb1)
           have BG := Lib.hid (below_on HB.out (by rw [N0.out]; exact Nat.le_refl _) hb1)
           have BS : Hid (w.heap.size + 1 ≤ wa.heap.size) := Lib.hid (by have := BG.out.size; rw [N0.out] at this; exact this))
        | (at_builtin; refine wpList_append_own _ rfl (.tmp 46) (.tmp 48) 38 rfl (w.heap.size + 1) 9 i0 (.string ⟨#[]⟩) 1 16 Tryz.underlying38 hi hz0 hz1 hz2 rfl (by decide) _ _ _ rfl (HW1.out.alloc _) ⟨wa.heap.size, 0, none⟩ 1 1 [.string T] rfl rfl (World.news_of_block (heap_alloc_new _ _)) (by simp [Value.oneCell']) (by unfold maxLen; omega) (by omega) (by have := BS.out; simp; omega) ?_; intro v2 wb hown2 hgrow2 hn2))
      have BG3 := Lib.hid ((BG.out.alloc BS.out _).grown hgrow2 (by have := BS.out; simp; omega) (own_block_ge HW1.out))
      rw [HWN.out] at hown2
      have HO2 := Lib.hid hown2
      clear hown2 hgrow2 hn2 HW1 BG BS HB HW
      obtain ⟨ad2, cap2, rfl, hcap2, hn9, _⟩ := own_form HO2.out
      go_roundw
      case rel => exact ⟨k3 + 1, by omega, HO2, BG3⟩
      case measure => (simp [rowLen]; try omega)
    · have HW9 : Hid (wr.ownsRow w.heap.size 9 1 (.slice ad (n2 + k3) cap) (inoWordsB M).length (scells (inoWordsB M))) := Lib.hid (by
        have h9 := HW.out
        rw [HL8.out, HR.out, HN2.out, show 8 - n2 = k3 by omega, show 8 = n2 + k3 by omega]
        exact ownE_mono h9 (by omega))
      clear HW
      go_wp2
      go_ret
      exact ⟨_, rfl, HW9.out, B0.out.trans (HB.out.mono (by omega))⟩

set_option maxRecDepth 100000 in
set_option maxHeartbeats 4000000 in
theorem implInoWords_free (hz : -9223372036854775808 ≤ sz ∧ sz ≤ 9223372036854775807) (hs : SrcRec w aR nR R) (hf : FitRec R nR 2000000) (hs' : SrcEntry w aE nE E) (hf' : FitEntry E nE 2000000) (h : InoOk ⟨0, sz, gn, key, R, E⟩) :
    Calls Tryz.prog 145 #[.agg #[.int .i64 0, .int .i64 sz, .int .i64 gn, .string key, .slice aR nR cR, .slice aE nE cE]] w (GivesT (inoWordsB ⟨0, sz, gn, key, R, E⟩) w) := by
  obtain ⟨i0, hi, hz0, hz1, hz2⟩ := info_parts infoText
  obtain ⟨M, hM⟩ : ∃ M : InoR, (⟨0, sz, gn, key, R, E⟩ : InoR) = M := ⟨_, rfl⟩
  have hlR : M.R.length = nR := by rw [← hM]; exact hs.len
  have hlE : M.E.length = nE := by rw [← hM]; exact hs'.len
  have hMR : M.R = R := by rw [← hM]
  have hME : M.E = E := by rw [← hM]
  have hl8 : (wordsI M).length ≤ 8 := wordsI_le (by rw [← hM]; exact h)
  have hlW : (wordsI M).length = 2 + nR + nE := by unfold wordsI; simp [hlR, hlE]; omega
  have HN := Lib.hid (inoB_yes h)
  have HR : Hid (inoWordsB M = fillTo M (8 - (2 + nR + nE))) := Lib.hid (by rw [← hlW]; exact inoWords_yes (by rw [← hM]; exact h))
  have HL8 : Hid ((inoWordsB M).length = 8) := Lib.hid (inoWords_length (by rw [← hM]; exact h))
  have HZ := Lib.hid hz
  have HF := Lib.hid hf
  have HF' := Lib.hid hf'
  have hgn := h.1
  have HGN : Hid (0 ≤ gn ∧ gn ≤ 65535) := Lib.hid hgn
  have hl8' : nR + nE ≤ 6 := by omega
  have hkind : Hid (nR = 0 ∧ nE = 0) := Lib.hid (by
    have x := (inoOk_free (show 0 ≤ gn ∧ gn ≤ 65535 from h.1)).1 h
    have e1 := hs.len
    have e2 := hs'.len
    exact ⟨by rw [← e1]; exact x.2.2.1, by rw [← e2]; exact x.2.2.2⟩)
  have B0 := Lib.hid (below_bk w (inoObj 0 sz gn key aR nR cR aE nE cE))
  have K0 := Lib.hid (Bk.alloc w (inoCs 0 sz gn key aR nR cR aE nE cE) 102)
  have N0 : Hid ((w.alloc (inoObj 0 sz gn key aR nR cR aE nE cE)).heap.size = w.heap.size + 1) := Lib.hid (by simp)
  have HS := Lib.hid (hs.below B0.out (Nat.le_refl _))
  have HS' := Lib.hid (hs'.below B0.out (Nat.le_refl _))
  have HLR := Lib.hid hlR
  have HLE := Lib.hid hlE
  have HMR := Lib.hid hMR
  have HME := Lib.hid hME
  have HE0 : Hid (headB M = wordB (numTextB 0 1 ++ numTextB sz 2 ++ numTextB gn 2)) := Lib.hid (by rw [← hM]; rfl)
  have HE1 : Hid (wordB M.key = wordB key) := Lib.hid (by rw [← hM])
  have HC : Hid (∀ W : World, Calls Tryz.prog 140 #[.agg #[.int .i64 0, .int .i64 sz, .int .i64 gn, .string key, .slice aR nR cR, .slice aE nE cE]] W fun e w' => e = .returned (.iface 204 (.agg #[])) ∧ Below W.heap.size W w') := Lib.hid (fun W => implBody_any 0 sz gn key aR nR cR aE nE cE W)
  obtain ⟨A, hA⟩ : ∃ A, numTextB 0 1 = A := ⟨_, rfl⟩
  obtain ⟨D, hD⟩ : ∃ D, numTextB sz 2 = D := ⟨_, rfl⟩
  obtain ⟨G, hG⟩ : ∃ G, numTextB gn 2 = G := ⟨_, rfl⟩
  have hA1 : A.size ≤ 1 := by rw [← hA]; rcases numTextB_size 0 1 with e | e <;> rw [e] <;> decide
  have hD1 : D.size ≤ 2 := by rw [← hD]; rcases numTextB_size sz 2 with e | e <;> rw [e] <;> decide
  have hG1 : G.size ≤ 2 := by rw [← hG]; rcases numTextB_size gn 2 with e | e <;> rw [e] <;> decide
  have hAD : ¬ (9223372036854775807 < A.size + D.size) := by omega
  have hADG : ¬ (9223372036854775807 < A.size + D.size + G.size) := by omega
  rw [hA, hD, hG] at HE0
  have HA := Lib.hid hA
  have HD := Lib.hid hD
  have HG := Lib.hid hG
  rw [hM]
  clear hz hs hf hs' hf' h hA hD hG hM hMR hME hl8 hlW hlR hlE hgn
  go_enter Tryz.func145, Tryz.ntmps145
  go_wp2_with fail
  refine (implIno_any 0 sz gn key aR nR cR aE nE cE _ R E HZ.out (by omega) HS.out HF.out HS'.out HF'.out).mono ?_
  rw [HN.out]
  rintro e w1 ⟨rfl, hb1⟩
  have T0 := Lib.hid (K0.out.later hb1)
  have B1 : Hid (Below (w.heap.size + 1) (w.alloc (inoObj 0 sz gn key aR nR cR aE nE cE)) w1) := Lib.hid (by rw [N0.out] at hb1; exact hb1)
  clear hb1
  go_wp2
  have T0d := Lib.hid T0.out.drew
  have B1d := Lib.hid B1.out.drew
  go_region_held3 (fun w' => w'.cell? ⟨w.heap.size, 0, none⟩ = some (.int .i64 0) ∧ w'.cell? ⟨w.heap.size, 1, none⟩ = some (.int .i64 sz) ∧ w'.cell? ⟨w.heap.size, 2, none⟩ = some (.int .i64 gn))
    (first
      | exact ⟨T0d.out.cell rfl, T0d.out.cell rfl, T0d.out.cell rfl⟩
      | exact ⟨T2.out.cell rfl, T2.out.cell rfl, T2.out.cell rfl⟩
      | exact ⟨T3.out.cell rfl, T3.out.cell rfl, T3.out.cell rfl⟩
      | exact ⟨T4.out.cell rfl, T4.out.cell rfl, T4.out.cell rfl⟩
      | go_keep)
    (first
      | (go_at_call 180; (with_reducible refine (implNum_any 0 1 _ (by omega)).mono ?_); rw [HA.out]; rintro e w2 ⟨rfl, hb⟩; have T2 := Lib.hid (T0d.out.later hb); have B2 := Lib.hid (below_on B1d.out (by rw [N0.out]; exact Nat.le_refl _) hb); clear hb)
      | (go_at_call 180; (with_reducible refine (implNum_any sz 2 _ HZ.out.2).mono ?_); rw [HD.out]; rintro e w3 ⟨rfl, hb⟩; have T3 := Lib.hid (T2.out.later hb); have B3 := Lib.hid (below_on B2.out (by rw [N0.out]; exact Nat.le_refl _) hb); clear hb)
      | (go_at_call 180; (with_reducible refine (implNum_any gn 2 _ (by have := HGN.out.2; omega)).mono ?_); rw [HG.out]; rintro e w4 ⟨rfl, hb⟩; have T4 := Lib.hid (T3.out.later hb); have B4 := Lib.hid (below_on B3.out (by rw [N0.out]; exact Nat.le_refl _) hb); clear hb))
  go_wp2
  have T4d := Lib.hid T4.out.drew
  have B4d := Lib.hid B4.out.drew
  go_region_held3 (fun w' => w'.cell? ⟨w.heap.size, 3, none⟩ = some (.string key))
    (first
      | exact T4d.out.cell rfl
      | exact T5.out.cell rfl
      | exact T6.out.cell rfl
      | go_keep)
    (first
      | (go_at_call 179; (with_reducible refine (implWord_any (A ++ D ++ G) _).mono ?_); rw [← HE0.out]; rintro e w5 ⟨rfl, hb⟩; have T5 := Lib.hid (T4d.out.later hb); have B5 := Lib.hid (below_on B4d.out (by rw [N0.out]; exact Nat.le_refl _) hb); clear hb)
      | (go_at_call 179; (with_reducible refine (implWord_any key _).mono ?_); rintro e w6 ⟨rfl, hb⟩; have T6 := Lib.hid (T5.out.later hb); have B6 := Lib.hid (below_on B5.out (by rw [N0.out]; exact Nat.le_refl _) hb); clear hb))
  have S6 : Hid (w.heap.size + 1 ≤ w6.heap.size) := Lib.hid (by have := B6.out.size; rw [N0.out] at this; exact this)
  have H01 : Hid (scells (recsTo M 0) = [.string (headB M), .string (wordB key)]) := Lib.hid (by rw [recsTo_zero, HE1.out]; rfl)
  have HW0 : Hid ((w6.alloc (.cells #[.string (headB M), .string (wordB key)] 9)).ownsRow (w.heap.size + 1) 9 1 (.slice (some ⟨w6.heap.size, 0, none⟩) 2 2) 2 (scells (recsTo M 0))) := Lib.hid (by rw [H01.out]; exact World.ownsRow_lit w6 #[.string (headB M), .string (wordB key)] 2 S6.out (by decide) rfl)
  have B7 : Hid (Below (w.heap.size + 1) (w.alloc (inoObj 0 sz gn key aR nR cR aE nE cE)) (w6.alloc (.cells #[.string (headB M), .string (wordB key)] 9))) := Lib.hid (B6.out.alloc S6.out _)
  have T7 := Lib.hid (T6.out.later (below_bk w6 (.cells #[.string (headB M), .string (wordB key)] 9)))
  have c0 := T7.out.cell (j := 0) rfl
  have c1 := T7.out.cell (j := 1) rfl
  have c2 := T7.out.cell (j := 2) rfl
  have c3 := T7.out.cell (j := 3) rfl
  have c4 := T7.out.cell (j := 4) rfl
  have c5 := T7.out.cell (j := 5) rfl
  clear hAD hADG
  go_wp2_with fail
  refine (HC.out _).mono ?_
  rintro e w8 ⟨rfl, hb8⟩
  have B8 : Hid (Below (w.heap.size + 1) (w.alloc (inoObj 0 sz gn key aR nR cR aE nE cE)) w8) := Lib.hid (B7.out.trans (hb8.mono (by have := S6.out; simp; omega)))
  have S8 : Hid (w.heap.size + 1 ≤ w8.heap.size) := Lib.hid (by have h9 := hb8.size; have := S6.out; simp at h9; omega)
  have HW8 := Lib.hid (own_below HW0.out hb8)
  clear hb8 c0 c1 c2 c3 c4 c5
  have a1 := free_no_file (.agg #[]) w8
  have a2 := free_no_dir (.agg #[]) w8
  have HFL : Hid (scells (recsTo M 0) = scells (fillTo M 0)) := Lib.hid (by
    have h9 : recsTo M 0 = entsTo M 0 := by rw [← recsTo_all M, HLR.out, hkind.out.1]
    have h8 : entsTo M 0 = fillTo M 0 := by rw [← entsTo_all M, HLE.out, hkind.out.2]
    rw [h9, h8])
  obtain ⟨n2, hn2⟩ : ∃ n2, 2 = n2 := ⟨_, rfl⟩
  have HN2 : Hid (2 + nR + nE = n2) := Lib.hid (by rw [hkind.out.1, hkind.out.2]; exact hn2)
  have hn8 : n2 ≤ 8 := by omega
  have hown9 := HW8.out
  rw [HFL.out] at hown9
  have HWF : Hid (w8.ownsRow (w.heap.size + 1) 9 1 (.slice (some ⟨w6.heap.size, 0, none⟩) 2 2) (n2 + 0) (scells (fillTo M 0))) := Lib.hid (by rw [← hn2]; exact hown9)
  have BF := B8
  clear hown9 hn2
  go_wp2
  go_loopw [4] (fun v wr => ∃ k3, n2 + k3 ≤ 8 ∧ Hid (wr.ownsRow (w.heap.size + 1) 9 1 v (n2 + k3) (scells (fillTo M k3))) ∧ Hid (Below (w.heap.size + 1) (w.alloc (inoObj 0 sz gn key aR nR cR aE nE cE)) wr)) (fun v _ => 8 - rowLen v)
  case atStart => exact ⟨0, by omega, HWF, BF⟩
  case round =>
    obtain ⟨k3, hk3, HW, HB⟩ := hrel
    obtain ⟨ad, cap, rfl, hcap, hn, _⟩ := own_form HW.out
    by_cases hlt3 : n2 + k3 < 8
    · obtain ⟨T, hT⟩ : ∃ T, zeroB 8 = T := ⟨_, rfl⟩
      have HT := Lib.hid hT
      have HWN : Hid (scells (fillTo M k3) ++ [.string T] = scells (fillTo M (k3 + 1))) := Lib.hid (by rw [← fillTo_next, ← HT.out]; rfl)
      clear hT
      go_wp2_with (first
        | (go_at_call 190; (with_reducible refine (implZero_any 8 _).mono ?_); rw [HT.out]; rintro e wa ⟨rfl, hb1⟩
           have HW1 := Lib.hid (own_below HW.out hb1)
           have BG := Lib.hid (below_on HB.out (by rw [N0.out]; exact Nat.le_refl _) hb1)
           have BS : Hid (w.heap.size + 1 ≤ wa.heap.size) := Lib.hid (by have := BG.out.size; rw [N0.out] at this; exact this))
        | (at_builtin; refine wpList_append_own _ rfl (.tmp 46) (.tmp 48) 38 rfl (w.heap.size + 1) 9 i0 (.string ⟨#[]⟩) 1 16 Tryz.underlying38 hi hz0 hz1 hz2 rfl (by decide) _ _ _ rfl (HW1.out.alloc _) ⟨wa.heap.size, 0, none⟩ 1 1 [.string T] rfl rfl (World.news_of_block (heap_alloc_new _ _)) (by simp [Value.oneCell']) (by unfold maxLen; omega) (by omega) (by have := BS.out; simp; omega) ?_; intro v2 wb hown2 hgrow2 hn2))
      have BG3 := Lib.hid ((BG.out.alloc BS.out _).grown hgrow2 (by have := BS.out; simp; omega) (own_block_ge HW1.out))
      rw [HWN.out] at hown2
      have HO2 := Lib.hid hown2
      clear hown2 hgrow2 hn2 HW1 BG BS HB HW
      obtain ⟨ad2, cap2, rfl, hcap2, hn9, _⟩ := own_form HO2.out
      go_roundw
      case rel => exact ⟨k3 + 1, by omega, HO2, BG3⟩
      case measure => (simp [rowLen]; try omega)
    · have HW9 : Hid (wr.ownsRow w.heap.size 9 1 (.slice ad (n2 + k3) cap) (inoWordsB M).length (scells (inoWordsB M))) := Lib.hid (by
        have h9 := HW.out
        rw [HL8.out, HR.out, HN2.out, show 8 - n2 = k3 by omega, show 8 = n2 + k3 by omega]
        exact ownE_mono h9 (by omega))
      clear HW
      go_wp2
      go_ret
      exact ⟨_, rfl, HW9.out, B0.out.trans (HB.out.mono (by omega))⟩


set_option maxRecDepth 100000 in
set_option maxHeartbeats 1000000 in
theorem implInoWords_no (kd : Int) (hz : -9223372036854775808 ≤ sz ∧ sz ≤ 9223372036854775807) (hn : nE ≤ 9223372036854775807) (hs : SrcRec w aR nR R) (hf : FitRec R nR 2000000) (hs' : SrcEntry w aE nE E) (hf' : FitEntry E nE 2000000) (h : ¬ InoOk ⟨kd, sz, gn, key, R, E⟩) :
    Calls Tryz.prog 145 #[.agg #[.int .i64 kd, .int .i64 sz, .int .i64 gn, .string key, .slice aR nR cR, .slice aE nE cE]] w (GivesT [] w) := by
  have HN := Lib.hid (inoB_no h)
  have HZ := Lib.hid hz
  have HNE := Lib.hid hn
  have HF := Lib.hid hf
  have HF' := Lib.hid hf'
  have B0 := Lib.hid (below_bk w (inoObj kd sz gn key aR nR cR aE nE cE))
  have HS := Lib.hid (hs.below B0.out (Nat.le_refl _))
  have HS' := Lib.hid (hs'.below B0.out (Nat.le_refl _))
  clear hz hs hf hs' hf' h hn
  go_enter Tryz.func145, Tryz.ntmps145
  go_wp2_with fail
  refine (implIno_any kd sz gn key aR nR cR aE nE cE _ R E HZ.out HNE.out HS.out HF.out HS'.out HF'.out).mono ?_
  rw [HN.out]
  rintro e w1 ⟨rfl, hb1⟩
  have B1 : Hid (Below w.heap.size w w1) := Lib.hid (below_on B0.out (Nat.le_refl _) hb1)
  clear hb1
  go_wp2
  go_ret
  exact ⟨_, rfl, World.ownsRow_nil _ _ _ _, B1.out⟩

theorem implInoWords_any (kd : Int) (hz : -9223372036854775808 ≤ sz ∧ sz ≤ 9223372036854775807) (hn : nE ≤ 9223372036854775807) (hs : SrcRec w aR nR R) (hf : FitRec R nR 2000000) (hs' : SrcEntry w aE nE E) (hf' : FitEntry E nE 2000000) :
    Calls Tryz.prog 145 #[.agg #[.int .i64 kd, .int .i64 sz, .int .i64 gn, .string key, .slice aR nR cR, .slice aE nE cE]] w (GivesT (inoWordsB ⟨kd, sz, gn, key, R, E⟩) w) := by
  by_cases h : InoOk ⟨kd, sz, gn, key, R, E⟩
  · have h9 := h
    rcases h9 with ⟨_, ⟨e, _⟩ | ⟨e, _⟩ | ⟨e, _⟩⟩
    · obtain rfl : kd = 0 := e
      exact implInoWords_free sz gn key aR nR cR aE nE cE w R E hz hs hf hs' hf' h
    · obtain rfl : kd = 1 := e
      exact implInoWords_file sz gn key aR nR cR aE nE cE w R E hz hs hf hs' hf' h
    · obtain rfl : kd = 2 := e
      exact implInoWords_dir sz gn key aR nR cR aE nE cE w R E hz hs hf hs' hf' h
  · rw [inoWords_no h]
    exact implInoWords_no sz gn key aR nR cR aE nE cE w R E kd hz hn hs hf hs' hf' h
end
end Go.Proofs.YtkfkjcadmdcbnaaGreatDoor
namespace Go.Proofs.YtkfkjcadmdcbnaaGreatDoor
open Go.RowKit Go.Proofs.YtkfkjcadmdcbnaaGreatDoor.Parts Go.Proofs.YtkfkjcadmdcbnaaGreatDoor.Hexa Go.Proofs.YtkfkjcadmdcbnaaGreatDoor.Byt

/-- The result's box, the inode's box, and nothing else of the old world written. -/
structure PSt (w : World) (bx : Nat) (cs : Array Value) (wr : World) : Prop where
  res : Bk wr w.heap.size zeroCs 102
  box : Bk wr bx cs 102
  lt : w.heap.size < bx
  below : Below w.heap.size w wr
section
variable {w wr w' : World} {bx : Nat} {cs : Array Value}
theorem PSt.call (h : PSt w bx cs wr) (hb : Below wr.heap.size wr w') : PSt w bx cs w' := ⟨h.res.later hb, h.box.later hb, h.lt, below_on h.below (Nat.le_refl _) hb⟩
theorem PSt.drewN (h : PSt w bx cs wr) (n : Nat) : PSt w bx cs (wr.drewN n) := ⟨h.res, h.box, h.lt, below_drewsN h.below n⟩
theorem PSt.set (h : PSt w bx cs wr) (j : Nat) (v : Value) : PSt w bx (cs.setIfInBounds j v) (wr.setCell ⟨bx, j, none⟩ v) :=
  ⟨h.res.other (Nat.ne_of_lt h.lt) v, h.box.set j v, h.lt, h.below.setCell (Nat.le_of_lt h.lt) v⟩
theorem PSt.start {w w0 w1 : World} (hr : Bk w0 w.heap.size zeroCs 102) (hb0 : Below w.heap.size w w0) (hb : Below w0.heap.size w0 w1) (cs : Array Value) : PSt w w1.heap.size cs (w1.alloc (.cells cs 102)) :=
  ⟨(hr.later hb).later (below_bk _ _), Bk.alloc _ _ _, Nat.lt_of_lt_of_le hr.lt hb.size, below_on (below_on hb0 (Nat.le_refl _) hb) (Nat.le_refl _) (below_bk _ _)⟩
end
theorem while_le {α : Type} (p : α → Bool) : ∀ L : List α, (L.takeWhile p).length ≤ L.length
  | [] => Nat.le_refl _
  | x :: r => by
    rw [List.takeWhile]
    have := while_le p r
    split
    · simpa using this
    · exact Nat.zero_le _
theorem numAtV_two (s : ByteArray) (a : Int) : -9223372036854775808 ≤ numAtV s a 2 ∧ numAtV s a 2 ≤ 9223372036854775807 := by
  by_cases h : 0 ≤ a ∧ a ≤ (s.size : Int) - 2
  · obtain ⟨n, rfl⟩ : ∃ n : Nat, a = n := ⟨a.toNat, by omega⟩
    have h9 := numAtV_lt s n 2 (by omega) (by omega)
    have h10 : ((256 : Int) ^ 2) = 65536 := by decide
    rw [h10] at h9
    have h1 : 0 ≤ numAtV s n 2 := h9.1
    have h2 : numAtV s n 2 < 65536 := h9.2
    omega
  · have e : numAtV s a 2 = 0 := by unfold numAtV; rw [if_neg (fun x => h x.2)]
    rw [e]; omega
theorem gives_got {L : List ByteArray} {w w' : World} {kd sz gn : Int} {key : ByteArray} {R : List RecR} {E : List EntryR} {aR aE : Option Addr} {nR cR nE cE : Nat} (h8 : L.length = 8) (hok : readInoB L = true) (hG : inoGot L = ⟨kd, sz, gn, key, R, E⟩) (hn : R.length = nR) (hn' : E.length = nE)
    (hR : w'.ownsRow w.heap.size 139 3 (.slice aR nR cR) nR (cellsE encRec R)) (hE : w'.ownsRow w.heap.size 143 2 (.slice aE nE cE) nE (cellsE encEntry E)) (hx : aR = none ∨ aE = none) (hb : Below w.heap.size w w') {e : Ending}
    (he : e = .returned (.tuple #[.agg #[.int .i64 kd, .int .i64 sz, .int .i64 gn, .string key, .slice aR nR cR, .slice aE nE cE], .bool true])) : GivesIno (readInoR L) (readInoB L) w e w' := by
  subst hn hn'
  rw [got_eq h8 hok, hG, hok]
  exact ⟨aR, cR, aE, cE, he, hR, hE, hx, hb⟩
theorem drop_two {L : List ByteArray} {w w' : World} {g off : Nat} (h8 : L.length = 8) (hg : g < w.heap.size) (hb : Below w.heap.size w w') (h : ∀ j, j < 8 → w'.cell? ⟨g, off + j, none⟩ = some (.string (L.getD j default))) : SrcT w' (some ⟨g, off + 2, none⟩) 6 (L.drop 2) :=
  ⟨by rw [List.length_drop, h8], fun j hj => ⟨g, off + 2, rfl, Nat.lt_of_lt_of_le hg hb.size, fun o v hv => by
    match o, hv with
    | 0, hv =>
      have e : (L.drop 2).getD j default = L.getD (j + 2) default := by simp only [List.getD, List.getElem?_drop, Nat.add_comm]
      rw [e] at hv
      cases hv
      have := h (j + 2) (by omega)
      rw [show off + 2 + j * encT.k + 0 = off + (j + 2) from by show off + 2 + j * 1 + 0 = _; omega]
      exact this
    | o + 1, hv => simp [encT] at hv⟩⟩
theorem drop_fit {L : List ByteArray} {b : Nat} (hf : ∀ j, j < 8 → (L.getD j default).size ≤ b) : ∀ j, j < 6 → ((L.drop 2).getD j default).size ≤ b := fun j hj => by
  have e : (L.drop 2).getD j default = L.getD (j + 2) default := by simp only [List.getD, List.getElem?_drop, Nat.add_comm]
  rw [e]; exact hf _ (by omega)

set_option maxRecDepth 100000 in
set_option maxHeartbeats 4000000 in
theorem implReadIno_file (a : Option Addr) (c : Nat) (L : List ByteArray) (w : World) (hc : 8 ≤ c) (hcm : c ≤ 9223372036854775807) (hs : SrcT w a 8 L) (hf : ∀ j, j < 8 → (L.getD j default).size ≤ 1048576) (hk : gotKind L = 1) : Calls Tryz.prog 82 #[.slice a 8 c] w (GivesIno (readInoR L) (readInoB L) w) := by
  have HLn : Hid (L.length = 8) := Lib.hid hs.len
  have HS := Lib.hid hs
  have HF := Lib.hid hf
  have B0 := Lib.hid (below_bk w (inoObj 0 0 0 ⟨#[]⟩ none 0 0 none 0 0))
  have R0 := Lib.hid (Bk.alloc w zeroCs 102)
  obtain ⟨g, off, ha, hg, _⟩ := srcT_at hs 0 (by omega)
  have HC : Hid (∀ {w' : World}, Below w.heap.size w w' → ∀ j, j < 8 → w'.cell? ⟨g, off + j, none⟩ = some (.string (L.getD j default))) := Lib.hid (fun hb j hj => by
    obtain ⟨g', off', ha', _, d⟩ := srcT_later HS.out hb (Nat.le_refl _) j hj
    rw [ha] at ha'; cases ha'
    exact d)
  obtain ⟨x0, hx0⟩ : ∃ x, L.getD 0 default = x := ⟨_, rfl⟩
  obtain ⟨x1, hx1⟩ : ∃ x, L.getD 1 default = x := ⟨_, rfl⟩
  have hx0s : Hid (x0.size ≤ 1048576) := Lib.hid (by rw [← hx0]; exact hf 0 (by omega))
  have hx1s : Hid (x1.size ≤ 1048576) := Lib.hid (by rw [← hx1]; exact hf 1 (by omega))
  obtain ⟨sz, hsz⟩ : ∃ z : Int, numAtV x0 1 2 = z := ⟨_, rfl⟩
  obtain ⟨gn, hgn⟩ : ∃ z : Int, numAtV x0 3 2 = z := ⟨_, rfl⟩
  have HZB : Hid (-9223372036854775808 ≤ sz ∧ sz ≤ 9223372036854775807) := Lib.hid (by rw [← hsz]; exact numAtV_two x0 1)
  have HKD : Hid (numAtV x0 0 1 = 1) := Lib.hid (by rw [← hx0]; exact hk)
  have HGot : Hid (inoGot L = ⟨1, sz, gn, x1, (leadRecs (L.drop 2)), []⟩) := Lib.hid (by
    unfold inoGot
    rw [hk, hx0, hx1, hsz, hgn]
    rfl)
  have HX0 := Lib.hid hx0
  have HX1 := Lib.hid hx1
  have HSZ := Lib.hid hsz
  have HGN := Lib.hid hgn
  have HCB : Hid (∀ W : World, Calls Tryz.prog 140 #[.agg #[.int .i64 1, .int .i64 sz, .int .i64 gn, .string ⟨#[]⟩, .slice none 0 0, .slice none 0 0]] W fun e w' => e = .returned (.iface 156 (.agg #[.int .i64 sz, .string ⟨#[]⟩, .slice none 0 0])) ∧ Below W.heap.size W w') := Lib.hid (fun W => implBody_any 1 sz gn ⟨#[]⟩ none 0 0 none 0 0 W)
  have hgne : ¬ g = w.heap.size := by omega
  subst ha
  clear hs hf hx0 hx1 hsz hgn hk
  go_enter Tryz.func82, Tryz.ntmps82
  have d0 := HC.out B0.out 0 (by omega)
  rw [HX0.out, Nat.add_zero] at d0
  go_wp2_with fail
  refine (implHead_any x0 _ (by have := hx0s.out; omega)).mono ?_
  rw [HKD.out, HSZ.out, HGN.out]
  rintro e w1 ⟨rfl, hb1⟩
  obtain ⟨bx, hbx⟩ : ∃ b, w1.heap.size = b := ⟨_, rfl⟩
  have S2 : Hid (PSt w bx (inoCs 1 sz gn ⟨#[]⟩ none 0 0 none 0 0) (w1.alloc (inoObj 1 sz gn ⟨#[]⟩ none 0 0 none 0 0))) := Lib.hid (by rw [← hbx]; exact PSt.start R0.out B0.out hb1 _)
  have hbg : w.heap.size < bx := S2.out.lt
  have hgb : ¬ g = bx := by omega
  have hgb2 : ¬ bx = g := by omega
  have BX := Lib.hid hbx
  clear hb1 d0
  go_wp2_with fail
  obtain ⟨w2, h2w⟩ : ∃ x, x = w1.alloc (inoObj 1 sz gn ⟨#[]⟩ none 0 0 none 0 0) := ⟨_, rfl⟩
  rw [← h2w] at S2 ⊢
  clear h2w hbx
  refine (HCB.out _).mono ?_
  rintro e w3 ⟨rfl, hb3⟩
  have S3 := Lib.hid (S2.out.call hb3)
  clear hb3 S2
  have a1 := as_file (.agg #[.int .i64 sz, .string ⟨#[]⟩, .slice none 0 0]) w3
  have d1 := HC.out S3.out.below 1 (by omega)
  rw [HX1.out] at d1
  go_wp2_with fail
  refine (cloneText_any x1 _ (by have := hx1s.out; omega)).mono ?_
  rintro e w4 ⟨rfl, hb4⟩
  have S4 := Lib.hid (S3.out.call hb4)
  have y3 := S4.out.box.cell (j := 3) rfl
  have z3 := S4.out.box.fr (o := 3)
  have S5 := Lib.hid (S4.out.set 3 (.string x1))
  clear hb4 d1
  go_wp2_with fail
  clear y3 z3
  obtain ⟨W5, h5⟩ : ∃ x, x = w4.setCell ⟨bx, 3, none⟩ (.string x1) := ⟨_, rfl⟩
  rw [← h5] at S5 ⊢
  clear h5
  refine (implLeadRecs_any (some ⟨g, off + 2, none⟩) 6 (c - 2) (L.drop 2) _ (drop_two HLn.out hg S5.out.below (fun j hj => HC.out S5.out.below j hj)) (drop_fit HF.out) (by decide)).mono ?_
  rintro e w6 ⟨aX, cX, rfl, hown6, hb6⟩
  obtain ⟨nX, hnX⟩ : ∃ n, (leadRecs (L.drop 2)).length = n := ⟨_, rfl⟩
  rw [hnX] at hown6 ⊢
  have HNX := Lib.hid hnX
  have L5 : Hid (bx < W5.heap.size) := Lib.hid S5.out.box.lt
  have S6 := Lib.hid (S5.out.call hb6)
  have HNX9 : Hid (nX ≤ 6) := Lib.hid (by rw [← hnX]; unfold leadRecs; rw [List.length_map]; exact Nat.le_trans (while_le _ _) (by rw [List.length_drop, HLn.out]; omega))
  have y4 := S6.out.box.cell (j := 4) rfl
  have z4 := S6.out.box.fr (o := 4)
  have S7 := Lib.hid (S6.out.set 4 (.slice aX nX cX))
  have O7 := Lib.hid (ownE_but hown6 ((ButE.refl bx w6).then_set 4 (.slice aX nX cX)) (fun g hg => by have := (hown6.lt g hg).1; have := L5.out; omega))
  clear hb6 hown6 hnX
  have y0 := S7.out.box.cell (j := 0) rfl
  have y1 := S7.out.box.cell (j := 1) rfl
  have y2 := S7.out.box.cell (j := 2) rfl
  have y3 := S7.out.box.cell (j := 3) rfl
  have y4 := S7.out.box.cell (j := 4) rfl
  have y5 := S7.out.box.cell (j := 5) rfl
  go_wp2_with fail
  refine (implInoWords_any sz gn x1 aX nX cX none 0 0 _ (leadRecs (L.drop 2)) [] 1 HZB.out (by omega) (srcRec_of_own O7.out) (leadRecs_fit _ _) (SrcE.nil _ _ _) (fun j hj => absurd hj (Nat.not_lt_zero _))).mono ?_
  rintro e w8 ⟨v8, rfl, hown8, hb8⟩
  obtain ⟨a8, c8, rfl, _, _, _⟩ := own_form hown8
  have R8 := Lib.hid (srcT_of_own hown8)
  have S8 := Lib.hid (S7.out.call hb8)
  have O8 := Lib.hid (own_below O7.out hb8)
  have L8 : Hid ((inoWordsB ⟨1, sz, gn, x1, (leadRecs (L.drop 2)), []⟩).length ≤ 8) := Lib.hid (inoWords_le _)
  clear hown8 hb8 y0 y1 y2 y3 y4 y5
  go_wp2_with fail
  refine (implEqual_any _ _ _ 8 _ _ _ L _ (by have := L8.out; omega) R8.out (HS.out.below S8.out.below (Nat.le_refl _)) (readInoB L) (by rw [got_iff HLn.out, HGot.out])).mono ?_
  rintro e w9 ⟨rfl, q9, hq9⟩
  have S9 : Hid (PSt w bx #[.int .i64 1, .int .i64 sz, .int .i64 gn, .string x1, .slice aX nX cX, .slice none 0 0] w9) := Lib.hid (by rw [hq9]; exact S8.out.drewN q9)
  have O9 : Hid (w9.ownsRow W5.heap.size 139 3 (.slice aX nX cX) nX (cellsE encRec (leadRecs (L.drop 2)))) := Lib.hid (by rw [hq9]; exact O8.out)
  clear hq9
  have y0 := S9.out.box.cell (j := 0) rfl
  have r0 := S9.out.res.cell (j := 0) rfl
  have f0 := S9.out.res.fr (o := 0)
  have y1 := S9.out.box.cell (j := 1) rfl
  have r1 := S9.out.res.cell (j := 1) rfl
  have f1 := S9.out.res.fr (o := 1)
  have y2 := S9.out.box.cell (j := 2) rfl
  have r2 := S9.out.res.cell (j := 2) rfl
  have f2 := S9.out.res.fr (o := 2)
  have y3 := S9.out.box.cell (j := 3) rfl
  have r3 := S9.out.res.cell (j := 3) rfl
  have f3 := S9.out.res.fr (o := 3)
  have y4 := S9.out.box.cell (j := 4) rfl
  have r4 := S9.out.res.cell (j := 4) rfl
  have f4 := S9.out.res.fr (o := 4)
  have y5 := S9.out.box.cell (j := 5) rfl
  have r5 := S9.out.res.cell (j := 5) rfl
  have f5 := S9.out.res.fr (o := 5)
  have hbw : ¬ bx = w.heap.size := by omega
  have hbw2 : ¬ w.heap.size = bx := by omega
  by_cases hok : readInoB L = true
  · have HOK := Lib.hid hok
    rw [hok]
    clear hok
    have qf := ((((((S9.out.res.set 0 (.int .i64 1)).set 1 (.int .i64 sz)).set 2 (.int .i64 gn)).set 3 (.string x1)).set 4 (.slice aX nX cX)).set 5 (.slice none 0 0))
    have q0 := qf.cell (j := 0) (v := .int .i64 1) rfl
    have q1 := qf.cell (j := 1) (v := .int .i64 sz) rfl
    have q2 := qf.cell (j := 2) (v := .int .i64 gn) rfl
    have q3 := qf.cell (j := 3) (v := .string x1) rfl
    have q4 := qf.cell (j := 4) (v := .slice aX nX cX) rfl
    have q5 := qf.cell (j := 5) (v := .slice none 0 0) rfl
    clear qf
    go_wp2
    refine bodyPost_ret (v := .tuple #[.agg #[.int .i64 1, .int .i64 sz, .int .i64 gn, .string x1, .slice aX nX cX, .slice none 0 0], .bool true]) ?_ rfl (gives_got HLn.out HOK.out HGot.out HNX.out rfl (ownE_mono (ownE_but O9.out (((((((ButE.refl w.heap.size _).then_set _ _).then_set _ _).then_set _ _).then_set _ _).then_set _ _).then_set _ _) (fun g hg => by have := (O9.out.lt g hg).1; have := L5.out; omega)) (by have := L5.out; omega)) ⟨rfl, .inl ⟨rfl, rfl⟩⟩ (.inr rfl) ((((((S9.out.below.setCell (Nat.le_refl _) _).setCell (Nat.le_refl _) _).setCell (Nat.le_refl _) _).setCell (Nat.le_refl _) _).setCell (Nat.le_refl _) _).setCell (Nat.le_refl _) _) rfl)
    simp [results, Tryz.results82, go_sem, q0, q1, q2, q3, q4, q5]
  · have HOK : Hid (¬ ReadOk L) := Lib.hid (fun h => hok (readInoB_yes h))
    rw [show readInoB L = false by simpa using hok]
    clear hok
    have qf := ((((((S9.out.res.set 0 (.int .i64 0)).set 1 (.int .i64 0)).set 2 (.int .i64 0)).set 3 (.string ⟨#[]⟩)).set 4 (.slice none 0 0)).set 5 (.slice none 0 0))
    have q0 := qf.cell (j := 0) (v := .int .i64 0) rfl
    have q1 := qf.cell (j := 1) (v := .int .i64 0) rfl
    have q2 := qf.cell (j := 2) (v := .int .i64 0) rfl
    have q3 := qf.cell (j := 3) (v := .string ⟨#[]⟩) rfl
    have q4 := qf.cell (j := 4) (v := .slice none 0 0) rfl
    have q5 := qf.cell (j := 5) (v := .slice none 0 0) rfl
    clear qf
    go_wp2
    refine bodyPost_ret (v := .tuple #[.agg #[.int .i64 0, .int .i64 0, .int .i64 0, .string ⟨#[]⟩, .slice none 0 0, .slice none 0 0], .bool false]) ?_ rfl (gives_zero L w ((((((S9.out.below.setCell (Nat.le_refl _) _).setCell (Nat.le_refl _) _).setCell (Nat.le_refl _) _).setCell (Nat.le_refl _) _).setCell (Nat.le_refl _) _).setCell (Nat.le_refl _) _) HOK.out rfl)
    simp [results, Tryz.results82, go_sem, q0, q1, q2, q3, q4, q5]

set_option maxRecDepth 100000 in
set_option maxHeartbeats 4000000 in
theorem implReadIno_dir (a : Option Addr) (c : Nat) (L : List ByteArray) (w : World) (hc : 8 ≤ c) (hcm : c ≤ 9223372036854775807) (hs : SrcT w a 8 L) (hf : ∀ j, j < 8 → (L.getD j default).size ≤ 1048576) (hk : gotKind L = 2) : Calls Tryz.prog 82 #[.slice a 8 c] w (GivesIno (readInoR L) (readInoB L) w) := by
  have HLn : Hid (L.length = 8) := Lib.hid hs.len
  have HS := Lib.hid hs
  have HF := Lib.hid hf
  have B0 := Lib.hid (below_bk w (inoObj 0 0 0 ⟨#[]⟩ none 0 0 none 0 0))
  have R0 := Lib.hid (Bk.alloc w zeroCs 102)
  obtain ⟨g, off, ha, hg, _⟩ := srcT_at hs 0 (by omega)
  have HC : Hid (∀ {w' : World}, Below w.heap.size w w' → ∀ j, j < 8 → w'.cell? ⟨g, off + j, none⟩ = some (.string (L.getD j default))) := Lib.hid (fun hb j hj => by
    obtain ⟨g', off', ha', _, d⟩ := srcT_later HS.out hb (Nat.le_refl _) j hj
    rw [ha] at ha'; cases ha'
    exact d)
  obtain ⟨x0, hx0⟩ : ∃ x, L.getD 0 default = x := ⟨_, rfl⟩
  obtain ⟨x1, hx1⟩ : ∃ x, L.getD 1 default = x := ⟨_, rfl⟩
  have hx0s : Hid (x0.size ≤ 1048576) := Lib.hid (by rw [← hx0]; exact hf 0 (by omega))
  have hx1s : Hid (x1.size ≤ 1048576) := Lib.hid (by rw [← hx1]; exact hf 1 (by omega))
  obtain ⟨sz, hsz⟩ : ∃ z : Int, numAtV x0 1 2 = z := ⟨_, rfl⟩
  obtain ⟨gn, hgn⟩ : ∃ z : Int, numAtV x0 3 2 = z := ⟨_, rfl⟩
  have HZB : Hid (-9223372036854775808 ≤ sz ∧ sz ≤ 9223372036854775807) := Lib.hid (by rw [← hsz]; exact numAtV_two x0 1)
  have HKD : Hid (numAtV x0 0 1 = 2) := Lib.hid (by rw [← hx0]; exact hk)
  have HGot : Hid (inoGot L = ⟨2, sz, gn, ⟨#[]⟩, [], (leadEnts (L.drop 2))⟩) := Lib.hid (by
    unfold inoGot
    rw [hk, hx0, hx1, hsz, hgn]
    rfl)
  have HX0 := Lib.hid hx0
  have HX1 := Lib.hid hx1
  have HSZ := Lib.hid hsz
  have HGN := Lib.hid hgn
  have HCB : Hid (∀ W : World, Calls Tryz.prog 140 #[.agg #[.int .i64 2, .int .i64 sz, .int .i64 gn, .string ⟨#[]⟩, .slice none 0 0, .slice none 0 0]] W fun e w' => e = .returned (.iface 159 (.agg #[.slice none 0 0])) ∧ Below W.heap.size W w') := Lib.hid (fun W => implBody_any 2 sz gn ⟨#[]⟩ none 0 0 none 0 0 W)
  have hgne : ¬ g = w.heap.size := by omega
  subst ha
  clear hs hf hx0 hx1 hsz hgn hk
  go_enter Tryz.func82, Tryz.ntmps82
  have d0 := HC.out B0.out 0 (by omega)
  rw [HX0.out, Nat.add_zero] at d0
  go_wp2_with fail
  refine (implHead_any x0 _ (by have := hx0s.out; omega)).mono ?_
  rw [HKD.out, HSZ.out, HGN.out]
  rintro e w1 ⟨rfl, hb1⟩
  obtain ⟨bx, hbx⟩ : ∃ b, w1.heap.size = b := ⟨_, rfl⟩
  have S2 : Hid (PSt w bx (inoCs 2 sz gn ⟨#[]⟩ none 0 0 none 0 0) (w1.alloc (inoObj 2 sz gn ⟨#[]⟩ none 0 0 none 0 0))) := Lib.hid (by rw [← hbx]; exact PSt.start R0.out B0.out hb1 _)
  have hbg : w.heap.size < bx := S2.out.lt
  have hgb : ¬ g = bx := by omega
  have hgb2 : ¬ bx = g := by omega
  have BX := Lib.hid hbx
  clear hb1 d0
  go_wp2_with fail
  obtain ⟨w2, h2w⟩ : ∃ x, x = w1.alloc (inoObj 2 sz gn ⟨#[]⟩ none 0 0 none 0 0) := ⟨_, rfl⟩
  rw [← h2w] at S2 ⊢
  clear h2w hbx
  refine (HCB.out _).mono ?_
  rintro e w3 ⟨rfl, hb3⟩
  have S3 := Lib.hid (S2.out.call hb3)
  clear hb3 S2
  have a1 := dir_no_file (.agg #[.slice none 0 0]) w3
  have a2 := as_dir (.agg #[.slice none 0 0]) w3
  have S5 := S3
  go_wp2_with fail
  obtain ⟨W5, h5⟩ : ∃ x, x = w3 := ⟨_, rfl⟩
  rw [← h5] at S5 ⊢
  clear h5
  refine (implLeadEnts_any (some ⟨g, off + 2, none⟩) 6 (c - 2) (L.drop 2) _ (drop_two HLn.out hg S5.out.below (fun j hj => HC.out S5.out.below j hj)) (drop_fit HF.out) (by decide)).mono ?_
  rintro e w6 ⟨aX, cX, rfl, hown6, hb6⟩
  obtain ⟨nX, hnX⟩ : ∃ n, (leadEnts (L.drop 2)).length = n := ⟨_, rfl⟩
  rw [hnX] at hown6 ⊢
  have HNX := Lib.hid hnX
  have L5 : Hid (bx < W5.heap.size) := Lib.hid S5.out.box.lt
  have S6 := Lib.hid (S5.out.call hb6)
  have HNX9 : Hid (nX ≤ 6) := Lib.hid (by rw [← hnX]; unfold leadEnts; rw [List.length_map]; exact Nat.le_trans (while_le _ _) (by rw [List.length_drop, HLn.out]; omega))
  have y5 := S6.out.box.cell (j := 5) rfl
  have z5 := S6.out.box.fr (o := 5)
  have S7 := Lib.hid (S6.out.set 5 (.slice aX nX cX))
  have O7 := Lib.hid (ownE_but hown6 ((ButE.refl bx w6).then_set 5 (.slice aX nX cX)) (fun g hg => by have := (hown6.lt g hg).1; have := L5.out; omega))
  clear hb6 hown6 hnX
  have y0 := S7.out.box.cell (j := 0) rfl
  have y1 := S7.out.box.cell (j := 1) rfl
  have y2 := S7.out.box.cell (j := 2) rfl
  have y3 := S7.out.box.cell (j := 3) rfl
  have y4 := S7.out.box.cell (j := 4) rfl
  have y5 := S7.out.box.cell (j := 5) rfl
  go_wp2_with fail
  refine (implInoWords_any sz gn ⟨#[]⟩ none 0 0 aX nX cX _ [] (leadEnts (L.drop 2)) 2 HZB.out (by have := HNX9.out; omega) (SrcE.nil _ _ _) (fun j hj => absurd hj (Nat.not_lt_zero _)) (srcEntry_of_own O7.out) (leadEnts_fit _ _)).mono ?_
  rintro e w8 ⟨v8, rfl, hown8, hb8⟩
  obtain ⟨a8, c8, rfl, _, _, _⟩ := own_form hown8
  have R8 := Lib.hid (srcT_of_own hown8)
  have S8 := Lib.hid (S7.out.call hb8)
  have O8 := Lib.hid (own_below O7.out hb8)
  have L8 : Hid ((inoWordsB ⟨2, sz, gn, ⟨#[]⟩, [], (leadEnts (L.drop 2))⟩).length ≤ 8) := Lib.hid (inoWords_le _)
  clear hown8 hb8 y0 y1 y2 y3 y4 y5
  go_wp2_with fail
  refine (implEqual_any _ _ _ 8 _ _ _ L _ (by have := L8.out; omega) R8.out (HS.out.below S8.out.below (Nat.le_refl _)) (readInoB L) (by rw [got_iff HLn.out, HGot.out])).mono ?_
  rintro e w9 ⟨rfl, q9, hq9⟩
  have S9 : Hid (PSt w bx #[.int .i64 2, .int .i64 sz, .int .i64 gn, .string ⟨#[]⟩, .slice none 0 0, .slice aX nX cX] w9) := Lib.hid (by rw [hq9]; exact S8.out.drewN q9)
  have O9 : Hid (w9.ownsRow W5.heap.size 143 2 (.slice aX nX cX) nX (cellsE encEntry (leadEnts (L.drop 2)))) := Lib.hid (by rw [hq9]; exact O8.out)
  clear hq9
  have y0 := S9.out.box.cell (j := 0) rfl
  have r0 := S9.out.res.cell (j := 0) rfl
  have f0 := S9.out.res.fr (o := 0)
  have y1 := S9.out.box.cell (j := 1) rfl
  have r1 := S9.out.res.cell (j := 1) rfl
  have f1 := S9.out.res.fr (o := 1)
  have y2 := S9.out.box.cell (j := 2) rfl
  have r2 := S9.out.res.cell (j := 2) rfl
  have f2 := S9.out.res.fr (o := 2)
  have y3 := S9.out.box.cell (j := 3) rfl
  have r3 := S9.out.res.cell (j := 3) rfl
  have f3 := S9.out.res.fr (o := 3)
  have y4 := S9.out.box.cell (j := 4) rfl
  have r4 := S9.out.res.cell (j := 4) rfl
  have f4 := S9.out.res.fr (o := 4)
  have y5 := S9.out.box.cell (j := 5) rfl
  have r5 := S9.out.res.cell (j := 5) rfl
  have f5 := S9.out.res.fr (o := 5)
  have hbw : ¬ bx = w.heap.size := by omega
  have hbw2 : ¬ w.heap.size = bx := by omega
  by_cases hok : readInoB L = true
  · have HOK := Lib.hid hok
    rw [hok]
    clear hok
    have qf := ((((((S9.out.res.set 0 (.int .i64 2)).set 1 (.int .i64 sz)).set 2 (.int .i64 gn)).set 3 (.string ⟨#[]⟩)).set 4 (.slice none 0 0)).set 5 (.slice aX nX cX))
    have q0 := qf.cell (j := 0) (v := .int .i64 2) rfl
    have q1 := qf.cell (j := 1) (v := .int .i64 sz) rfl
    have q2 := qf.cell (j := 2) (v := .int .i64 gn) rfl
    have q3 := qf.cell (j := 3) (v := .string ⟨#[]⟩) rfl
    have q4 := qf.cell (j := 4) (v := .slice none 0 0) rfl
    have q5 := qf.cell (j := 5) (v := .slice aX nX cX) rfl
    clear qf
    go_wp2
    refine bodyPost_ret (v := .tuple #[.agg #[.int .i64 2, .int .i64 sz, .int .i64 gn, .string ⟨#[]⟩, .slice none 0 0, .slice aX nX cX], .bool true]) ?_ rfl (gives_got HLn.out HOK.out HGot.out rfl HNX.out ⟨rfl, .inl ⟨rfl, rfl⟩⟩ (ownE_mono (ownE_but O9.out (((((((ButE.refl w.heap.size _).then_set _ _).then_set _ _).then_set _ _).then_set _ _).then_set _ _).then_set _ _) (fun g hg => by have := (O9.out.lt g hg).1; have := L5.out; omega)) (by have := L5.out; omega)) (.inl rfl) ((((((S9.out.below.setCell (Nat.le_refl _) _).setCell (Nat.le_refl _) _).setCell (Nat.le_refl _) _).setCell (Nat.le_refl _) _).setCell (Nat.le_refl _) _).setCell (Nat.le_refl _) _) rfl)
    simp [results, Tryz.results82, go_sem, q0, q1, q2, q3, q4, q5]
  · have HOK : Hid (¬ ReadOk L) := Lib.hid (fun h => hok (readInoB_yes h))
    rw [show readInoB L = false by simpa using hok]
    clear hok
    have qf := ((((((S9.out.res.set 0 (.int .i64 0)).set 1 (.int .i64 0)).set 2 (.int .i64 0)).set 3 (.string ⟨#[]⟩)).set 4 (.slice none 0 0)).set 5 (.slice none 0 0))
    have q0 := qf.cell (j := 0) (v := .int .i64 0) rfl
    have q1 := qf.cell (j := 1) (v := .int .i64 0) rfl
    have q2 := qf.cell (j := 2) (v := .int .i64 0) rfl
    have q3 := qf.cell (j := 3) (v := .string ⟨#[]⟩) rfl
    have q4 := qf.cell (j := 4) (v := .slice none 0 0) rfl
    have q5 := qf.cell (j := 5) (v := .slice none 0 0) rfl
    clear qf
    go_wp2
    refine bodyPost_ret (v := .tuple #[.agg #[.int .i64 0, .int .i64 0, .int .i64 0, .string ⟨#[]⟩, .slice none 0 0, .slice none 0 0], .bool false]) ?_ rfl (gives_zero L w ((((((S9.out.below.setCell (Nat.le_refl _) _).setCell (Nat.le_refl _) _).setCell (Nat.le_refl _) _).setCell (Nat.le_refl _) _).setCell (Nat.le_refl _) _).setCell (Nat.le_refl _) _) HOK.out rfl)
    simp [results, Tryz.results82, go_sem, q0, q1, q2, q3, q4, q5]

set_option maxRecDepth 100000 in
set_option maxHeartbeats 4000000 in
theorem implReadIno_free (a : Option Addr) (c : Nat) (L : List ByteArray) (w : World) (_hc : 8 ≤ c) (_hcm : c ≤ 9223372036854775807) (hs : SrcT w a 8 L) (hf : ∀ j, j < 8 → (L.getD j default).size ≤ 1048576) (hk : gotKind L = 0) : Calls Tryz.prog 82 #[.slice a 8 c] w (GivesIno (readInoR L) (readInoB L) w) := by
  have HLn : Hid (L.length = 8) := Lib.hid hs.len
  have HS := Lib.hid hs
  have HF := Lib.hid hf
  have B0 := Lib.hid (below_bk w (inoObj 0 0 0 ⟨#[]⟩ none 0 0 none 0 0))
  have R0 := Lib.hid (Bk.alloc w zeroCs 102)
  obtain ⟨g, off, ha, hg, _⟩ := srcT_at hs 0 (by omega)
  have HC : Hid (∀ {w' : World}, Below w.heap.size w w' → ∀ j, j < 8 → w'.cell? ⟨g, off + j, none⟩ = some (.string (L.getD j default))) := Lib.hid (fun hb j hj => by
    obtain ⟨g', off', ha', _, d⟩ := srcT_later HS.out hb (Nat.le_refl _) j hj
    rw [ha] at ha'; cases ha'
    exact d)
  obtain ⟨x0, hx0⟩ : ∃ x, L.getD 0 default = x := ⟨_, rfl⟩
  obtain ⟨x1, hx1⟩ : ∃ x, L.getD 1 default = x := ⟨_, rfl⟩
  have hx0s : Hid (x0.size ≤ 1048576) := Lib.hid (by rw [← hx0]; exact hf 0 (by omega))
  have hx1s : Hid (x1.size ≤ 1048576) := Lib.hid (by rw [← hx1]; exact hf 1 (by omega))
  obtain ⟨sz, hsz⟩ : ∃ z : Int, numAtV x0 1 2 = z := ⟨_, rfl⟩
  obtain ⟨gn, hgn⟩ : ∃ z : Int, numAtV x0 3 2 = z := ⟨_, rfl⟩
  have HZB : Hid (-9223372036854775808 ≤ sz ∧ sz ≤ 9223372036854775807) := Lib.hid (by rw [← hsz]; exact numAtV_two x0 1)
  have HKD : Hid (numAtV x0 0 1 = 0) := Lib.hid (by rw [← hx0]; exact hk)
  have HGot : Hid (inoGot L = ⟨0, sz, gn, ⟨#[]⟩, [], []⟩) := Lib.hid (by
    unfold inoGot
    rw [hk, hx0, hx1, hsz, hgn]
    rfl)
  have HX0 := Lib.hid hx0
  have HX1 := Lib.hid hx1
  have HSZ := Lib.hid hsz
  have HGN := Lib.hid hgn
  have HCB : Hid (∀ W : World, Calls Tryz.prog 140 #[.agg #[.int .i64 0, .int .i64 sz, .int .i64 gn, .string ⟨#[]⟩, .slice none 0 0, .slice none 0 0]] W fun e w' => e = .returned (.iface 204 (.agg #[])) ∧ Below W.heap.size W w') := Lib.hid (fun W => implBody_any 0 sz gn ⟨#[]⟩ none 0 0 none 0 0 W)
  have hgne : ¬ g = w.heap.size := by omega
  subst ha
  clear hs hf hx0 hx1 hsz hgn hk
  go_enter Tryz.func82, Tryz.ntmps82
  have d0 := HC.out B0.out 0 (by omega)
  rw [HX0.out, Nat.add_zero] at d0
  go_wp2_with fail
  refine (implHead_any x0 _ (by have := hx0s.out; omega)).mono ?_
  rw [HKD.out, HSZ.out, HGN.out]
  rintro e w1 ⟨rfl, hb1⟩
  obtain ⟨bx, hbx⟩ : ∃ b, w1.heap.size = b := ⟨_, rfl⟩
  have S2 : Hid (PSt w bx (inoCs 0 sz gn ⟨#[]⟩ none 0 0 none 0 0) (w1.alloc (inoObj 0 sz gn ⟨#[]⟩ none 0 0 none 0 0))) := Lib.hid (by rw [← hbx]; exact PSt.start R0.out B0.out hb1 _)
  have hbg : w.heap.size < bx := S2.out.lt
  have hgb : ¬ g = bx := by omega
  have hgb2 : ¬ bx = g := by omega
  have BX := Lib.hid hbx
  clear hb1 d0
  go_wp2_with fail
  obtain ⟨w2, h2w⟩ : ∃ x, x = w1.alloc (inoObj 0 sz gn ⟨#[]⟩ none 0 0 none 0 0) := ⟨_, rfl⟩
  rw [← h2w] at S2 ⊢
  clear h2w hbx
  refine (HCB.out _).mono ?_
  rintro e w3 ⟨rfl, hb3⟩
  have S3 := Lib.hid (S2.out.call hb3)
  clear hb3 S2
  have a1 := free_no_file (.agg #[]) w3
  have a2 := free_no_dir (.agg #[]) w3
  have S7 := S3
  have y0 := S7.out.box.cell (j := 0) rfl
  have y1 := S7.out.box.cell (j := 1) rfl
  have y2 := S7.out.box.cell (j := 2) rfl
  have y3 := S7.out.box.cell (j := 3) rfl
  have y4 := S7.out.box.cell (j := 4) rfl
  have y5 := S7.out.box.cell (j := 5) rfl
  go_wp2_with fail
  refine (implInoWords_any sz gn ⟨#[]⟩ none 0 0 none 0 0 _ [] [] 0 HZB.out (by omega) (SrcE.nil _ _ _) (fun j hj => absurd hj (Nat.not_lt_zero _)) (SrcE.nil _ _ _) (fun j hj => absurd hj (Nat.not_lt_zero _))).mono ?_
  rintro e w8 ⟨v8, rfl, hown8, hb8⟩
  obtain ⟨a8, c8, rfl, _, _, _⟩ := own_form hown8
  have R8 := Lib.hid (srcT_of_own hown8)
  have S8 := Lib.hid (S7.out.call hb8)
  have L8 : Hid ((inoWordsB ⟨0, sz, gn, ⟨#[]⟩, [], []⟩).length ≤ 8) := Lib.hid (inoWords_le _)
  clear hown8 hb8 y0 y1 y2 y3 y4 y5
  go_wp2_with fail
  refine (implEqual_any _ _ _ 8 _ _ _ L _ (by have := L8.out; omega) R8.out (HS.out.below S8.out.below (Nat.le_refl _)) (readInoB L) (by rw [got_iff HLn.out, HGot.out])).mono ?_
  rintro e w9 ⟨rfl, q9, hq9⟩
  have S9 : Hid (PSt w bx #[.int .i64 0, .int .i64 sz, .int .i64 gn, .string ⟨#[]⟩, .slice none 0 0, .slice none 0 0] w9) := Lib.hid (by rw [hq9]; exact S8.out.drewN q9)
  clear hq9
  have y0 := S9.out.box.cell (j := 0) rfl
  have r0 := S9.out.res.cell (j := 0) rfl
  have f0 := S9.out.res.fr (o := 0)
  have y1 := S9.out.box.cell (j := 1) rfl
  have r1 := S9.out.res.cell (j := 1) rfl
  have f1 := S9.out.res.fr (o := 1)
  have y2 := S9.out.box.cell (j := 2) rfl
  have r2 := S9.out.res.cell (j := 2) rfl
  have f2 := S9.out.res.fr (o := 2)
  have y3 := S9.out.box.cell (j := 3) rfl
  have r3 := S9.out.res.cell (j := 3) rfl
  have f3 := S9.out.res.fr (o := 3)
  have y4 := S9.out.box.cell (j := 4) rfl
  have r4 := S9.out.res.cell (j := 4) rfl
  have f4 := S9.out.res.fr (o := 4)
  have y5 := S9.out.box.cell (j := 5) rfl
  have r5 := S9.out.res.cell (j := 5) rfl
  have f5 := S9.out.res.fr (o := 5)
  have hbw : ¬ bx = w.heap.size := by omega
  have hbw2 : ¬ w.heap.size = bx := by omega
  by_cases hok : readInoB L = true
  · have HOK := Lib.hid hok
    rw [hok]
    clear hok
    have qf := ((((((S9.out.res.set 0 (.int .i64 0)).set 1 (.int .i64 sz)).set 2 (.int .i64 gn)).set 3 (.string ⟨#[]⟩)).set 4 (.slice none 0 0)).set 5 (.slice none 0 0))
    have q0 := qf.cell (j := 0) (v := .int .i64 0) rfl
    have q1 := qf.cell (j := 1) (v := .int .i64 sz) rfl
    have q2 := qf.cell (j := 2) (v := .int .i64 gn) rfl
    have q3 := qf.cell (j := 3) (v := .string ⟨#[]⟩) rfl
    have q4 := qf.cell (j := 4) (v := .slice none 0 0) rfl
    have q5 := qf.cell (j := 5) (v := .slice none 0 0) rfl
    clear qf
    go_wp2
    refine bodyPost_ret (v := .tuple #[.agg #[.int .i64 0, .int .i64 sz, .int .i64 gn, .string ⟨#[]⟩, .slice none 0 0, .slice none 0 0], .bool true]) ?_ rfl (gives_got HLn.out HOK.out HGot.out rfl rfl ⟨rfl, .inl ⟨rfl, rfl⟩⟩ ⟨rfl, .inl ⟨rfl, rfl⟩⟩ (.inl rfl) ((((((S9.out.below.setCell (Nat.le_refl _) _).setCell (Nat.le_refl _) _).setCell (Nat.le_refl _) _).setCell (Nat.le_refl _) _).setCell (Nat.le_refl _) _).setCell (Nat.le_refl _) _) rfl)
    simp [results, Tryz.results82, go_sem, q0, q1, q2, q3, q4, q5]
  · have HOK : Hid (¬ ReadOk L) := Lib.hid (fun h => hok (readInoB_yes h))
    rw [show readInoB L = false by simpa using hok]
    clear hok
    have qf := ((((((S9.out.res.set 0 (.int .i64 0)).set 1 (.int .i64 0)).set 2 (.int .i64 0)).set 3 (.string ⟨#[]⟩)).set 4 (.slice none 0 0)).set 5 (.slice none 0 0))
    have q0 := qf.cell (j := 0) (v := .int .i64 0) rfl
    have q1 := qf.cell (j := 1) (v := .int .i64 0) rfl
    have q2 := qf.cell (j := 2) (v := .int .i64 0) rfl
    have q3 := qf.cell (j := 3) (v := .string ⟨#[]⟩) rfl
    have q4 := qf.cell (j := 4) (v := .slice none 0 0) rfl
    have q5 := qf.cell (j := 5) (v := .slice none 0 0) rfl
    clear qf
    go_wp2
    refine bodyPost_ret (v := .tuple #[.agg #[.int .i64 0, .int .i64 0, .int .i64 0, .string ⟨#[]⟩, .slice none 0 0, .slice none 0 0], .bool false]) ?_ rfl (gives_zero L w ((((((S9.out.below.setCell (Nat.le_refl _) _).setCell (Nat.le_refl _) _).setCell (Nat.le_refl _) _).setCell (Nat.le_refl _) _).setCell (Nat.le_refl _) _).setCell (Nat.le_refl _) _) HOK.out rfl)
    simp [results, Tryz.results82, go_sem, q0, q1, q2, q3, q4, q5]

set_option maxRecDepth 100000 in
set_option maxHeartbeats 4000000 in
theorem implReadIno_other (a : Option Addr) (c : Nat) (L : List ByteArray) (w : World) (_hc : 8 ≤ c) (_hcm : c ≤ 9223372036854775807) (hs : SrcT w a 8 L) (hf : ∀ j, j < 8 → (L.getD j default).size ≤ 1048576) (kd : Int) (hk : gotKind L = kd) (h0 : ¬ kd = 0) (h1 : ¬ kd = 1) (h2 : ¬ kd = 2) : Calls Tryz.prog 82 #[.slice a 8 c] w (GivesIno (readInoR L) (readInoB L) w) := by
  have HLn : Hid (L.length = 8) := Lib.hid hs.len
  have HS := Lib.hid hs
  have HF := Lib.hid hf
  have B0 := Lib.hid (below_bk w (inoObj 0 0 0 ⟨#[]⟩ none 0 0 none 0 0))
  have R0 := Lib.hid (Bk.alloc w zeroCs 102)
  obtain ⟨g, off, ha, hg, _⟩ := srcT_at hs 0 (by omega)
  have HC : Hid (∀ {w' : World}, Below w.heap.size w w' → ∀ j, j < 8 → w'.cell? ⟨g, off + j, none⟩ = some (.string (L.getD j default))) := Lib.hid (fun hb j hj => by
    obtain ⟨g', off', ha', _, d⟩ := srcT_later HS.out hb (Nat.le_refl _) j hj
    rw [ha] at ha'; cases ha'
    exact d)
  obtain ⟨x0, hx0⟩ : ∃ x, L.getD 0 default = x := ⟨_, rfl⟩
  obtain ⟨x1, hx1⟩ : ∃ x, L.getD 1 default = x := ⟨_, rfl⟩
  have hx0s : Hid (x0.size ≤ 1048576) := Lib.hid (by rw [← hx0]; exact hf 0 (by omega))
  have hx1s : Hid (x1.size ≤ 1048576) := Lib.hid (by rw [← hx1]; exact hf 1 (by omega))
  obtain ⟨sz, hsz⟩ : ∃ z : Int, numAtV x0 1 2 = z := ⟨_, rfl⟩
  obtain ⟨gn, hgn⟩ : ∃ z : Int, numAtV x0 3 2 = z := ⟨_, rfl⟩
  have HZB : Hid (-9223372036854775808 ≤ sz ∧ sz ≤ 9223372036854775807) := Lib.hid (by rw [← hsz]; exact numAtV_two x0 1)
  have HKD : Hid (numAtV x0 0 1 = kd) := Lib.hid (by rw [← hx0]; exact hk)
  have HGot : Hid (inoGot L = ⟨kd, sz, gn, ⟨#[]⟩, [], []⟩) := Lib.hid (by
    unfold inoGot
    rw [hk, hx0, hx1, hsz, hgn]
    rw [if_neg h1, if_neg h1, if_neg h2])
  have HX0 := Lib.hid hx0
  have HX1 := Lib.hid hx1
  have HSZ := Lib.hid hsz
  have HGN := Lib.hid hgn
  have HCB : Hid (∀ W : World, Calls Tryz.prog 140 #[.agg #[.int .i64 kd, .int .i64 sz, .int .i64 gn, .string ⟨#[]⟩, .slice none 0 0, .slice none 0 0]] W fun e w' => e = .returned (.nilIface) ∧ Below W.heap.size W w') := Lib.hid (fun W => by have h9 := implBody_any kd sz gn ⟨#[]⟩ none 0 0 none 0 0 W; unfold bodyV at h9; rw [if_neg h0, if_neg h1, if_neg h2] at h9; exact h9)
  have hgne : ¬ g = w.heap.size := by omega
  subst ha
  clear hs hf hx0 hx1 hsz hgn hk h0 h1 h2
  go_enter Tryz.func82, Tryz.ntmps82
  have d0 := HC.out B0.out 0 (by omega)
  rw [HX0.out, Nat.add_zero] at d0
  go_wp2_with fail
  refine (implHead_any x0 _ (by have := hx0s.out; omega)).mono ?_
  rw [HKD.out, HSZ.out, HGN.out]
  rintro e w1 ⟨rfl, hb1⟩
  obtain ⟨bx, hbx⟩ : ∃ b, w1.heap.size = b := ⟨_, rfl⟩
  have S2 : Hid (PSt w bx (inoCs kd sz gn ⟨#[]⟩ none 0 0 none 0 0) (w1.alloc (inoObj kd sz gn ⟨#[]⟩ none 0 0 none 0 0))) := Lib.hid (by rw [← hbx]; exact PSt.start R0.out B0.out hb1 _)
  have hbg : w.heap.size < bx := S2.out.lt
  have hgb : ¬ g = bx := by omega
  have hgb2 : ¬ bx = g := by omega
  have BX := Lib.hid hbx
  clear hb1 d0
  go_wp2_with fail
  obtain ⟨w2, h2w⟩ : ∃ x, x = w1.alloc (inoObj kd sz gn ⟨#[]⟩ none 0 0 none 0 0) := ⟨_, rfl⟩
  rw [← h2w] at S2 ⊢
  clear h2w hbx
  refine (HCB.out _).mono ?_
  rintro e w3 ⟨rfl, hb3⟩
  have S3 := Lib.hid (S2.out.call hb3)
  clear hb3 S2
  have a1 := nil_no_file w3
  have a2 := nil_no_dir w3
  have S7 := S3
  have y0 := S7.out.box.cell (j := 0) rfl
  have y1 := S7.out.box.cell (j := 1) rfl
  have y2 := S7.out.box.cell (j := 2) rfl
  have y3 := S7.out.box.cell (j := 3) rfl
  have y4 := S7.out.box.cell (j := 4) rfl
  have y5 := S7.out.box.cell (j := 5) rfl
  go_wp2_with fail
  refine (implInoWords_any sz gn ⟨#[]⟩ none 0 0 none 0 0 _ [] [] kd HZB.out (by omega) (SrcE.nil _ _ _) (fun j hj => absurd hj (Nat.not_lt_zero _)) (SrcE.nil _ _ _) (fun j hj => absurd hj (Nat.not_lt_zero _))).mono ?_
  rintro e w8 ⟨v8, rfl, hown8, hb8⟩
  obtain ⟨a8, c8, rfl, _, _, _⟩ := own_form hown8
  have R8 := Lib.hid (srcT_of_own hown8)
  have S8 := Lib.hid (S7.out.call hb8)
  have L8 : Hid ((inoWordsB ⟨kd, sz, gn, ⟨#[]⟩, [], []⟩).length ≤ 8) := Lib.hid (inoWords_le _)
  clear hown8 hb8 y0 y1 y2 y3 y4 y5
  go_wp2_with fail
  refine (implEqual_any _ _ _ 8 _ _ _ L _ (by have := L8.out; omega) R8.out (HS.out.below S8.out.below (Nat.le_refl _)) (readInoB L) (by rw [got_iff HLn.out, HGot.out])).mono ?_
  rintro e w9 ⟨rfl, q9, hq9⟩
  have S9 : Hid (PSt w bx #[.int .i64 kd, .int .i64 sz, .int .i64 gn, .string ⟨#[]⟩, .slice none 0 0, .slice none 0 0] w9) := Lib.hid (by rw [hq9]; exact S8.out.drewN q9)
  clear hq9
  have y0 := S9.out.box.cell (j := 0) rfl
  have r0 := S9.out.res.cell (j := 0) rfl
  have f0 := S9.out.res.fr (o := 0)
  have y1 := S9.out.box.cell (j := 1) rfl
  have r1 := S9.out.res.cell (j := 1) rfl
  have f1 := S9.out.res.fr (o := 1)
  have y2 := S9.out.box.cell (j := 2) rfl
  have r2 := S9.out.res.cell (j := 2) rfl
  have f2 := S9.out.res.fr (o := 2)
  have y3 := S9.out.box.cell (j := 3) rfl
  have r3 := S9.out.res.cell (j := 3) rfl
  have f3 := S9.out.res.fr (o := 3)
  have y4 := S9.out.box.cell (j := 4) rfl
  have r4 := S9.out.res.cell (j := 4) rfl
  have f4 := S9.out.res.fr (o := 4)
  have y5 := S9.out.box.cell (j := 5) rfl
  have r5 := S9.out.res.cell (j := 5) rfl
  have f5 := S9.out.res.fr (o := 5)
  have hbw : ¬ bx = w.heap.size := by omega
  have hbw2 : ¬ w.heap.size = bx := by omega
  by_cases hok : readInoB L = true
  · have HOK := Lib.hid hok
    rw [hok]
    clear hok
    have qf := ((((((S9.out.res.set 0 (.int .i64 kd)).set 1 (.int .i64 sz)).set 2 (.int .i64 gn)).set 3 (.string ⟨#[]⟩)).set 4 (.slice none 0 0)).set 5 (.slice none 0 0))
    have q0 := qf.cell (j := 0) (v := .int .i64 kd) rfl
    have q1 := qf.cell (j := 1) (v := .int .i64 sz) rfl
    have q2 := qf.cell (j := 2) (v := .int .i64 gn) rfl
    have q3 := qf.cell (j := 3) (v := .string ⟨#[]⟩) rfl
    have q4 := qf.cell (j := 4) (v := .slice none 0 0) rfl
    have q5 := qf.cell (j := 5) (v := .slice none 0 0) rfl
    clear qf
    go_wp2
    refine bodyPost_ret (v := .tuple #[.agg #[.int .i64 kd, .int .i64 sz, .int .i64 gn, .string ⟨#[]⟩, .slice none 0 0, .slice none 0 0], .bool true]) ?_ rfl (gives_got HLn.out HOK.out HGot.out rfl rfl ⟨rfl, .inl ⟨rfl, rfl⟩⟩ ⟨rfl, .inl ⟨rfl, rfl⟩⟩ (.inl rfl) ((((((S9.out.below.setCell (Nat.le_refl _) _).setCell (Nat.le_refl _) _).setCell (Nat.le_refl _) _).setCell (Nat.le_refl _) _).setCell (Nat.le_refl _) _).setCell (Nat.le_refl _) _) rfl)
    simp [results, Tryz.results82, go_sem, q0, q1, q2, q3, q4, q5]
  · have HOK : Hid (¬ ReadOk L) := Lib.hid (fun h => hok (readInoB_yes h))
    rw [show readInoB L = false by simpa using hok]
    clear hok
    have qf := ((((((S9.out.res.set 0 (.int .i64 0)).set 1 (.int .i64 0)).set 2 (.int .i64 0)).set 3 (.string ⟨#[]⟩)).set 4 (.slice none 0 0)).set 5 (.slice none 0 0))
    have q0 := qf.cell (j := 0) (v := .int .i64 0) rfl
    have q1 := qf.cell (j := 1) (v := .int .i64 0) rfl
    have q2 := qf.cell (j := 2) (v := .int .i64 0) rfl
    have q3 := qf.cell (j := 3) (v := .string ⟨#[]⟩) rfl
    have q4 := qf.cell (j := 4) (v := .slice none 0 0) rfl
    have q5 := qf.cell (j := 5) (v := .slice none 0 0) rfl
    clear qf
    go_wp2
    refine bodyPost_ret (v := .tuple #[.agg #[.int .i64 0, .int .i64 0, .int .i64 0, .string ⟨#[]⟩, .slice none 0 0, .slice none 0 0], .bool false]) ?_ rfl (gives_zero L w ((((((S9.out.below.setCell (Nat.le_refl _) _).setCell (Nat.le_refl _) _).setCell (Nat.le_refl _) _).setCell (Nat.le_refl _) _).setCell (Nat.le_refl _) _).setCell (Nat.le_refl _) _) HOK.out rfl)
    simp [results, Tryz.results82, go_sem, q0, q1, q2, q3, q4, q5]

set_option maxRecDepth 100000 in
set_option maxHeartbeats 4000000 in
theorem implReadIno_len (a : Option Addr) (n c : Nat) (L : List ByteArray) (w : World) (hs : SrcT w a n L) (h : ¬ n = 8) : Calls Tryz.prog 82 #[.slice a n c] w (GivesIno (readInoR L) (readInoB L) w) := by
  have HL : Hid (¬ ReadOk L) := Lib.hid (fun x => h (by rw [← hs.len]; exact x.1))
  have B0 := Lib.hid (below_bk w (inoObj 0 0 0 ⟨#[]⟩ none 0 0 none 0 0))
  have e8 : ((n : Int) == 8) = false := by simp; omega
  have e9 : ((n : Int) != 8) = true := by simp only [bne, e8]; rfl
  clear hs
  go_enter Tryz.func82, Tryz.ntmps82
  go_wp2
  refine bodyPost_ret (v := .tuple #[.agg #[.int .i64 0, .int .i64 0, .int .i64 0, .string ⟨#[]⟩, .slice none 0 0, .slice none 0 0], .bool false]) ?_ rfl (gives_zero L w B0.out HL.out rfl)
  simp [results, Tryz.results82, go_sem]
theorem implReadIno_any (a : Option Addr) (n c : Nat) (L : List ByteArray) (w : World) (hc : n ≤ c) (hcm : c ≤ 9223372036854775807) (hs : SrcT w a n L) (hf : ∀ j, j < n → (L.getD j default).size ≤ 1048576) : Calls Tryz.prog 82 #[.slice a n c] w (GivesIno (readInoR L) (readInoB L) w) := by
  by_cases h : n = 8
  · subst h
    by_cases h0 : gotKind L = 0
    · exact implReadIno_free a c L w hc hcm hs hf h0
    · by_cases h1 : gotKind L = 1
      · exact implReadIno_file a c L w hc hcm hs hf h1
      · by_cases h2 : gotKind L = 2
        · exact implReadIno_dir a c L w hc hcm hs hf h2
        · exact implReadIno_other a c L w hc hcm hs hf _ rfl h0 h1 h2
  · exact implReadIno_len a n c L w hs h
end Go.Proofs.YtkfkjcadmdcbnaaGreatDoor
namespace Go.Proofs.YtkfkjcadmdcbnaaGreatDoor
open Go.RowKit Go.Proofs.YtkfkjcadmdcbnaaGreatDoor.Parts Go.Proofs.YtkfkjcadmdcbnaaGreatDoor.Hexa Go.Proofs.YtkfkjcadmdcbnaaGreatDoor.Byt

set_option maxRecDepth 100000 in
set_option maxHeartbeats 4000000 in
theorem implStatesAt_any (T P I Q t : Int) (w : World) : Calls Tryz.prog 81 #[.agg #[.int .i64 T, .int .i64 P, .int .i64 I, .int .i64 Q], .int .i64 t] w (SaysI (placeV T P I Q t 36) w) := by
  have G0 := Lib.hid (Four.alloc w T P I Q 25)
  have B0 := Lib.hid (below_bk w (.cells #[.int .i64 T, .int .i64 P, .int .i64 I, .int .i64 Q] 25))
  have c0 := G0.out.c0
  have c1 := G0.out.c1
  have c2 := G0.out.c2
  have c3 := G0.out.c3
  obtain ⟨z, hz⟩ : ∃ z, placeV T P I Q t 36 = z := ⟨_, rfl⟩
  have HZ := Lib.hid hz
  rw [hz]
  clear hz
  go_enter Tryz.func81, Tryz.ntmps81
  go_wp2_with fail
  refine (implAt_any T P I Q t 36 (fun _ => by omega) _).mono ?_
  rw [HZ.out]
  rintro e w1 ⟨rfl, hb⟩
  go_wp2
  go_ret
  exact ⟨rfl, B0.out.trans (hb.mono B0.out.size)⟩
end Go.Proofs.YtkfkjcadmdcbnaaGreatDoor
namespace Go.Proofs.YtkfkjcadmdcbnaaGreatDoor
open Go.RowKit Go.Proofs.YtkfkjcadmdcbnaaGreatDoor.Parts Go.Proofs.YtkfkjcadmdcbnaaGreatDoor.Hexa Go.Proofs.YtkfkjcadmdcbnaaGreatDoor.Byt

theorem obj_cap {w : World} {lo hi e k n q c : Nat} {a : Option Addr} {cs : List Cel} (h : Obj1 w lo hi (.sl e k n cs) (.slice a n q)) (h1 : n ≤ c) (h2 : c ≤ maxLen) : Obj1 w lo hi (.sl e k n cs) (.slice a n c) := by
  obtain ⟨F, f1, f2, hl, a', c', e', _, _, h⟩ := h
  cases e'
  exact ⟨F, f1, f2, hl, a, c, rfl, h1, h2, h⟩
theorem obj_intsC {w : World} {B : Nat} {v : Value} {L : List Int} (h : OwnC w B v L.length (icells L)) : Obj1 w B w.heap.size (celRow cInt L) v := by
  obtain ⟨a, c, q, rfl, hl, h1, h2, h⟩ := h
  rcases h with h0 | h
  · obtain rfl : L = [] := List.length_eq_zero_iff.1 h0
    exact ⟨[], List.nodup_nil, fun g hg => (by cases hg), rfl, a, c, rfl, h1, h2, .inl ⟨rfl, rfl⟩⟩
  · exact obj_cap (q := q) (obj_ints h (Nat.le_refl _) (Nat.le_refl _)) h1 h2
theorem ownC_mono {w : World} {B B' n : Nat} {v : Value} {xs : List Value} (h : OwnC w B v n xs) (hb : B' ≤ B) : OwnC w B' v n xs := by
  obtain ⟨a, c, q, rfl, hl, h1, h2, h⟩ := h
  exact ⟨a, c, q, rfl, hl, h1, h2, h.imp id fun h => ownE_mono h hb⟩
theorem below_alB {w0 W : World} (h : Below w0.heap.size w0 W) (o : Obj) : Below w0.heap.size w0 (W.alloc o) := h.trans ((below_bk W o).mono h.size)
theorem nb_lt {W w' : World} {cs : Array Value} {t : TypeId} (_ : Below (W.alloc (.cells cs t)).heap.size (W.alloc (.cells cs t)) w') : W.heap.size < (W.alloc (.cells cs t)).heap.size := (Bk.alloc W cs t).lt
theorem nb_bk {W w' : World} {cs : Array Value} {t : TypeId} (hb : Below (W.alloc (.cells cs t)).heap.size (W.alloc (.cells cs t)) w') : Bk w' W.heap.size cs t := (Bk.alloc W cs t).later hb
theorem nb_le {w0 W w' : World} {o : Obj} (h : Below w0.heap.size w0 W) (_ : Below (W.alloc o).heap.size (W.alloc o) w') : w0.heap.size ≤ (W.alloc o).heap.size := (below_alB h o).size
theorem nb_be {w0 W w' : World} {o : Obj} (h : Below w0.heap.size w0 W) (hb : Below (W.alloc o).heap.size (W.alloc o) w') : Below w0.heap.size w0 w' := (below_alB h o).trans (hb.mono (below_alB h o).size)
theorem be6 {w0 W : World} {g : Nat} {v0 v1 v2 v3 v4 v5 : Value} (h : Below w0.heap.size w0 W) (hg : w0.heap.size ≤ g) : Below w0.heap.size w0 ((((((W.setCell ⟨g, 0, none⟩ v0).setCell ⟨g, 1, none⟩ v1).setCell ⟨g, 2, none⟩ v2).setCell ⟨g, 3, none⟩ v3).setCell ⟨g, 4, none⟩ v4).setCell ⟨g, 5, none⟩ v5) :=
  (((((h.setCell (p := ⟨g, 0, none⟩) hg _).setCell (p := ⟨g, 1, none⟩) hg _).setCell (p := ⟨g, 2, none⟩) hg _).setCell (p := ⟨g, 3, none⟩) hg _).setCell (p := ⟨g, 4, none⟩) hg _).setCell (p := ⟨g, 5, none⟩) hg _
theorem place_bd {T P I Q t a : Int} (ha : 0 ≤ a ∧ a ≤ 1000) : -1 ≤ placeV T P I Q t a ∧ placeV T P I Q t a ≤ 100000 := by
  unfold placeV
  split
  · next h =>
    obtain ⟨⟨_, t3, p1, p2, i1, i2, _, _⟩, h0, h1⟩ := h
    have ht : t = 0 ∨ t = 1 ∨ t = 2 := by omega
    unfold wordsOf
    rcases ht with rfl | rfl | rfl <;> omega
  · omega
theorem inod_bd {T P I Q t i : Int} : -1 ≤ inodV T P I Q t i ∧ inodV T P I Q t i ≤ 100000 := by
  unfold inodV
  split
  · next h =>
    obtain ⟨⟨_, t3, p1, p2, i1, i2, _, _⟩, h0, h1⟩ := h
    exact place_bd (by omega)
  · omega
theorem GrowE.but {α : Type} {E : EncC α} {L : List α} {w w' : World} {M B T : Nat} {v : Value} (h : GrowE E L w B T v) (hb : ButE M w w') (hM : M < B) : GrowE E L w' B T v := by
  obtain ⟨⟨xs, G, h1, h2, h3, h4, h5⟩, h6⟩ := h
  exact ⟨⟨xs, G, ownE_but h1 hb (fun g hg => by have := (h1.lt g hg).1; omega), OwnL.kept _ _ _ (fun g hg => hb.block g (by have := (h4 g hg).1; omega) (by have := (h4 g hg).2; omega)) h2, h3, h4, h5⟩, Nat.le_trans h6 hb.size⟩
theorem GrowE.app {w : World} {B T lo : Nat} {L : List InoR} {v : Value} {kd sz gn : Int} {key : ByteArray} {aR aE : Option Addr} {nR cR nE cE : Nat} {x : InoR} (h : GrowE cIno L w B T v) (ho : Objs w lo w.heap.size (cIno.cels x) [.int .i64 kd, .int .i64 sz, .int .i64 gn, .string key, .slice aR nR cR, .slice aE nE cE]) (hlo : T ≤ lo) (hB : B ≤ lo) (hw : lo ≤ w.heap.size) (hn : L.length ≤ 100000) (ty : TypeId) :
    ∃ xs, AppE Tryz.prog #[50, 50] ty #[v, .slice (some ⟨w.heap.size, 0, none⟩) 1 1] (w.alloc (.cells #[.int .i64 kd, .int .i64 sz, .int .i64 gn, .string key, .slice aR nR cR, .slice aE nE cE] 102)) B 102 6 (L.length + 1) xs v
      ∧ ∀ v2 w2, w2.ownsRow B 102 6 v2 (L.length + 1) xs → (w.alloc (.cells #[.int .i64 kd, .int .i64 sz, .int .i64 gn, .string key, .slice aR nR cR, .slice aE nE cE] 102)).grownBy w2 v.ownBlock → (v2.ownBlock = v.ownBlock ∨ v2.ownBlock = some (w.alloc (.cells #[.int .i64 kd, .int .i64 sz, .int .i64 gn, .string key, .slice aR nR cR, .slice aE nE cE] 102)).heap.size) → GrowE cIno (L ++ [x]) w2 B w2.heap.size v2 ∧ Below B w w2 := by
  obtain ⟨⟨xs, G, h1, h2, h3, h4, h5⟩, h6⟩ := h
  have hba := below_bk w (.cells #[.int .i64 kd, .int .i64 sz, .int .i64 gn, .string key, .slice aR nR cR, .slice aE nE cE] 102)
  refine ⟨_, appIno1 w ty B v L.length xs h1 (by omega) kd sz gn key aR aE nR cR nE cE hn, fun v2 w2 k1 k2 k3 => ⟨?_, ?_⟩⟩
  · exact GrowE.step (own_below h1 hba) (OwnL.kept _ _ _ (fun g hg => hba.block g (by have := (h4 g hg).2; omega)) h2) h3 h4 h5 (ho.later hba) hlo hB hba.size k1 k2 k3 (Nat.le_trans h6 hba.size)
  · exact (hba.mono (by omega)).grown k2 (by have := hba.size; omega) (fun q hq => (h1.lt q hq).1)
/-- An inode read into a box of its own. -/
def InoCut (wr : World) (x : InoR) (b : Bool) (pv fv : Value) (wx : World) : Prop :=
  fv = .bool b ∧ ∃ gN aR cR aE cE, pv = .pointer (some ⟨gN, 0, none⟩) ∧ Bk wx gN #[.int .i64 x.kd, .int .i64 x.sz, .int .i64 x.gn, .string x.key, .slice aR x.R.length cR, .slice aE x.E.length cE] 102
    ∧ Objs wx wr.heap.size wx.heap.size (cIno.cels x) [.int .i64 x.kd, .int .i64 x.sz, .int .i64 x.gn, .string x.key, .slice aR x.R.length cR, .slice aE x.E.length cE] ∧ Below wr.heap.size wr wx
theorem inoCut_new {wr wd : World} {x : InoR} {b : Bool} {lo : Nat} {aR aE : Option Addr} {cR cE : Nat} (hb : Below wr.heap.size wr wd) (ho : Objs wd lo wd.heap.size (cIno.cels x) [.int .i64 x.kd, .int .i64 x.sz, .int .i64 x.gn, .string x.key, .slice aR x.R.length cR, .slice aE x.E.length cE]) (hlo : wr.heap.size ≤ lo) :
    InoCut wr x b (.pointer (some ⟨wd.heap.size, 0, none⟩)) (.bool b) (wd.alloc (.cells #[.int .i64 x.kd, .int .i64 x.sz, .int .i64 x.gn, .string x.key, .slice aR x.R.length cR, .slice aE x.E.length cE] 102)) := by
  have hba := below_bk wd (.cells #[.int .i64 x.kd, .int .i64 x.sz, .int .i64 x.gn, .string x.key, .slice aR x.R.length cR, .slice aE x.E.length cE] 102)
  exact ⟨rfl, _, aR, cR, aE, cE, rfl, Bk.alloc _ _ _, (ho.later hba).mono hlo hba.size, hb.trans (hba.mono hb.size)⟩
theorem inoCut_old {wr wd : World} {x : InoR} {b : Bool} {lo gN : Nat} {aR aE : Option Addr} {cR cE : Nat} (hn : Bk wd gN #[.int .i64 0, .int .i64 0, .int .i64 0, .string ⟨#[]⟩, .slice none 0 0, .slice none 0 0] 102) (hg : wr.heap.size ≤ gN) (hl : gN < lo) (ho : Objs wd lo wd.heap.size (cIno.cels x) [.int .i64 x.kd, .int .i64 x.sz, .int .i64 x.gn, .string x.key, .slice aR x.R.length cR, .slice aE x.E.length cE]) (hb : Below wr.heap.size wr wd) :
    InoCut wr x b (.pointer (some ⟨gN, 0, none⟩)) (.bool b) ((((((wd.setCell ⟨gN, 0, none⟩ (.int .i64 x.kd)).setCell ⟨gN, 1, none⟩ (.int .i64 x.sz)).setCell ⟨gN, 2, none⟩ (.int .i64 x.gn)).setCell ⟨gN, 3, none⟩ (.string x.key)).setCell ⟨gN, 4, none⟩ (.slice aR x.R.length cR)).setCell ⟨gN, 5, none⟩ (.slice aE x.E.length cE)) := by
  have K := ((((((ButE.refl gN wd).then_set 0 (.int .i64 x.kd)).then_set 1 (.int .i64 x.sz)).then_set 2 (.int .i64 x.gn)).then_set 3 (.string x.key)).then_set 4 (.slice aR x.R.length cR)).then_set 5 (.slice aE x.E.length cE)
  have S := (((((hn.set 0 (.int .i64 x.kd)).set 1 (.int .i64 x.sz)).set 2 (.int .i64 x.gn)).set 3 (.string x.key)).set 4 (.slice aR x.R.length cR)).set 5 (.slice aE x.E.length cE)
  refine ⟨rfl, gN, aR, cR, aE, cE, rfl, S, ((ho.kept fun g h1 h2 => K.block g (by omega) h2).mono (by omega) K.size), ?_⟩
  exact (((((hb.setCell (p := ⟨gN, 0, none⟩) hg _).setCell (p := ⟨gN, 1, none⟩) hg _).setCell (p := ⟨gN, 2, none⟩) hg _).setCell (p := ⟨gN, 3, none⟩) hg _).setCell (p := ⟨gN, 4, none⟩) hg _).setCell (p := ⟨gN, 5, none⟩) hg _
theorem GrowE.form {α : Type} {E : EncC α} {L : List α} {w : World} {B T : Nat} {v : Value} (h : GrowE E L w B T v) : ∃ a c, v = .slice a L.length c := by
  obtain ⟨⟨xs, G, h1, _⟩, _⟩ := h
  obtain ⟨a, c, e, _⟩ := ownE_form h1
  exact ⟨a, c, e⟩
theorem gives_part {w w' : World} {K : ByteArray} {L : List C3} {T P I Q t : Int} {lo bp Tt : Nat} {v1 v2 : Value} (h : rpB K L T P I Q t = true) (h1 : Obj1 w' lo bp (celRow cInt (rpSt K L T P I Q t)) v1) (h2 : GrowE cIno (rpInos K L T P I Q t I.toNat) w' (bp + 1) Tt v2) (hlo : w.heap.size ≤ lo) (hl : lo ≤ bp) (hp : bp < w'.heap.size) (hb : Below w.heap.size w w') :
    GivesPart (rpR K L T P I Q t) (rpB K L T P I Q t) w (.returned (.tuple #[.agg #[.int .i64 (rpSer K L T P I Q t), v1, v2], .bool true])) w' := by
  have hr : rpR K L T P I Q t = ⟨rpSer K L T P I Q t, rpSt K L T P I Q t, rpInos K L T P I Q t I.toNat⟩ := by unfold rpR; rw [if_pos h]
  refine ⟨_, by rw [h], ?_, hb⟩
  rw [hr]
  exact (Objs.val (Objs.cons (mid := bp) (mid' := bp + 1) h1 (Objs.one h2.done) (by omega) (by omega) (by omega)) _).mono hlo (Nat.le_refl _)
theorem gives_part2 {w w' : World} {K : ByteArray} {L : List C3} {T P I Q t : Int} {lo m Tt : Nat} {v1 v2 : Value} (h : rpB K L T P I Q t = true) (h1 : Obj1 w' lo m (celRow cInt (rpSt K L T P I Q t)) v1) (h2 : GrowE cIno (rpInos K L T P I Q t I.toNat) w' m Tt v2) (hlo : w.heap.size ≤ lo) (hl : lo ≤ m) (hp : m ≤ w'.heap.size) (hb : Below w.heap.size w w') :
    GivesPart (rpR K L T P I Q t) (rpB K L T P I Q t) w (.returned (.tuple #[.agg #[.int .i64 (rpSer K L T P I Q t), v1, v2], .bool true])) w' := by
  have hr : rpR K L T P I Q t = ⟨rpSer K L T P I Q t, rpSt K L T P I Q t, rpInos K L T P I Q t I.toNat⟩ := by unfold rpR; rw [if_pos h]
  refine ⟨_, by rw [h], ?_, hb⟩
  rw [hr]
  exact (Objs.val (Objs.cons (mid := m) (mid' := m) h1 (Objs.one h2.done) (by omega) (by omega) (by omega)) _).mono hlo (Nat.le_refl _)
end Go.Proofs.YtkfkjcadmdcbnaaGreatDoor
