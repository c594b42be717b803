/- Merged texts: InoWords, AppendImpl, ZeroImpl, InoWordsI, EqTexts, IntsBase, MarkStr, PartsLawA, InoWordsLaw, RecRow. -/
import Derived.Test.YtmkchilhnmkhkaaP15NC
import Derived.Test.YtmkchilhnmkhkaaRows
import Derived.WalkKit
import Derived.WalkSpells
import Derived.WalkLawsBesides
import Derived.Lib.Hide
import Derived.Deep.QuietTactic
import Derived.BigQuiet
import Derived.Deep.RegionHeld3
import Derived.Lib.SmallJoins
import Derived.ProofKit
namespace Go.Proofs.Ytmkchilhnmkhkaa
open Go.RowKit Go.Proofs.Ytmkchilhnmkhkaa.Parts Go.Proofs.Ytmkchilhnmkhkaa.Hexa Go.Proofs.Ytmkchilhnmkhkaa.Byt

def recsTo (n : InoR) (k : Nat) : List ByteArray := [headB n, wordB n.key] ++ (n.R.take k).map recWordB
def entsTo (n : InoR) (k : Nat) : List ByteArray := [headB n, wordB n.key] ++ n.R.map recWordB ++ (n.E.take k).map entryWordB
def rowLen : Value → Nat
  | .slice _ n _ => n
  | _ => 0
def fillTo (n : InoR) (k : Nat) : List ByteArray := wordsI n ++ List.replicate k zero8
theorem take_more {α β : Type} [Inhabited α] (f : α → β) (L : List α) (k : Nat) (h : k < L.length) : (L.take (k + 1)).map f = (L.take k).map f ++ [f (L.getD k default)] := by
  have e : L.getD k default = L[k] := by simp [List.getD, h]
  rw [List.take_add_one, List.getElem?_eq_getElem h, List.map_append, e]
  rfl
theorem recsTo_next (n : InoR) (k : Nat) (h : k < n.R.length) : scells (recsTo n k) ++ [.string (recWordB (n.R.getD k default))] = scells (recsTo n (k + 1)) := by
  unfold recsTo
  rw [take_more _ _ _ h]
  simp [scells]
theorem entsTo_next (n : InoR) (k : Nat) (h : k < n.E.length) : scells (entsTo n k) ++ [.string (entryWordB (n.E.getD k default))] = scells (entsTo n (k + 1)) := by
  unfold entsTo
  rw [take_more _ _ _ h]
  simp [scells]
theorem fillTo_next (n : InoR) (k : Nat) : scells (fillTo n k) ++ [.string zero8] = scells (fillTo n (k + 1)) := by
  unfold fillTo
  rw [List.replicate_succ']
  simp [scells]
theorem recsTo_all (n : InoR) : recsTo n n.R.length = entsTo n 0 := by unfold recsTo entsTo; simp
theorem entsTo_all (n : InoR) : entsTo n n.E.length = fillTo n 0 := by unfold entsTo fillTo wordsI; simp
theorem recsTo_zero (n : InoR) : recsTo n 0 = [headB n, wordB n.key] := by unfold recsTo; simp
theorem inoWords_yes {n : InoR} (h : InoOk n) : inoWordsB n = fillTo n (8 - (wordsI n).length) := by unfold inoWordsB fillTo; rw [if_pos (inoB_yes h)]
theorem inoWords_no {n : InoR} (h : ¬ InoOk n) : inoWordsB n = [] := by unfold inoWordsB; rw [inoB_no h]; rfl
theorem inoWords_length {n : InoR} (h : InoOk n) : (inoWordsB n).length = 8 := by
  have := wordsI_le h
  rw [inoWords_yes h]
  unfold fillTo
  rw [List.length_append, List.length_replicate]
  omega

section
variable (kd sz gn : Int) (key : ByteArray) (aR : Option Addr) (nR cR : Nat) (aE : Option Addr) (nE cE : Nat) (w : World) (R : List RecR) (E : List EntryR)

set_option maxRecDepth 100000 in
set_option maxHeartbeats 1000000 in
theorem specInoWords_no (hz : -9223372036854775808 ≤ sz ∧ sz ≤ 9223372036854775807) (hs : SrcRec w aR nR R) (hf : FitRec R nR 2000000) (hs' : SrcEntry w aE nE E) (hf' : FitEntry E nE 2000000) (h : ¬ InoOk ⟨kd, sz, gn, key, R, E⟩) :
    Calls Try.prog 30 #[.agg #[.int .i64 kd, .int .i64 sz, .int .i64 gn, .string key, .slice aR nR cR, .slice aE nE cE]] w (GivesT [] w) := by
  have HN := Lib.hid (inoB_no h)
  have HZ := Lib.hid hz
  have HF := Lib.hid hf
  have HF' := Lib.hid hf'
  have B0 := Lib.hid (below_bk w (inoObj kd sz gn key aR nR cR aE nE cE))
  have HS := Lib.hid (hs.below B0.out (Nat.le_refl _))
  have HS' := Lib.hid (hs'.below B0.out (Nat.le_refl _))
  clear hz hs hf hs' hf' h
  go_enter Try.func30, Try.ntmps30
  go_wp2_with fail
  refine (specIno_any kd sz gn key aR nR cR aE nE cE _ R E HZ.out HS.out HF.out HS'.out HF'.out).mono ?_
  rw [HN.out]
  rintro e w1 ⟨rfl, hb1⟩
  have B1 : Hid (Below w.heap.size w w1) := Lib.hid (below_on B0.out (Nat.le_refl _) hb1)
  clear hb1
  go_wp2
  go_ret
  exact ⟨_, rfl, World.ownsRow_lit w1 #[] 0 B1.out.size (by decide) rfl, B1.out.alloc B1.out.size _⟩
set_option maxRecDepth 100000 in
set_option maxHeartbeats 4000000 in
theorem specInoWords_yes (hk : 0 ≤ kd ∧ kd ≤ 2) (hz : -9223372036854775808 ≤ sz ∧ sz ≤ 9223372036854775807) (hs : SrcRec w aR nR R) (hf : FitRec R nR 2000000) (hs' : SrcEntry w aE nE E) (hf' : FitEntry E nE 2000000) (h : InoOk ⟨kd, sz, gn, key, R, E⟩) :
    Calls Try.prog 30 #[.agg #[.int .i64 kd, .int .i64 sz, .int .i64 gn, .string key, .slice aR nR cR, .slice aE nE cE]] w (GivesT (inoWordsB ⟨kd, sz, gn, key, R, E⟩) w) := by
  obtain ⟨i0, hi, hz0, hz1, hz2⟩ := info_parts infoText
  obtain ⟨M, hM⟩ : ∃ M : InoR, (⟨kd, sz, gn, key, R, E⟩ : InoR) = M := ⟨_, rfl⟩
  have hlR : M.R.length = nR := by rw [← hM]; exact hs.len
  have hlE : M.E.length = nE := by rw [← hM]; exact hs'.len
  have hMR : M.R = R := by rw [← hM]
  have hME : M.E = E := by rw [← hM]
  have hl8 : (wordsI M).length ≤ 8 := wordsI_le (by rw [← hM]; exact h)
  have hlW : (wordsI M).length = 2 + nR + nE := by unfold wordsI; simp [hlR, hlE]; omega
  have HN := Lib.hid (inoB_yes h)
  have HR : Hid (inoWordsB M = fillTo M (8 - (2 + nR + nE))) := Lib.hid (by rw [← hlW]; exact inoWords_yes (by rw [← hM]; exact h))
  have HL8 : Hid ((inoWordsB M).length = 8) := Lib.hid (inoWords_length (by rw [← hM]; exact h))
  have HZ := Lib.hid hz
  have HF := Lib.hid hf
  have HF' := Lib.hid hf'
  have hgn := h.1
  have HGN : Hid (0 ≤ gn ∧ gn ≤ 65535) := Lib.hid hgn
  have hl8' : nR + nE ≤ 6 := by omega
  have B0 := Lib.hid (below_bk w (inoObj kd sz gn key aR nR cR aE nE cE))
  have K0 := Lib.hid (Bk.alloc w (inoCs kd sz gn key aR nR cR aE nE cE) 57)
  have N0 : Hid ((w.alloc (inoObj kd sz gn key aR nR cR aE nE cE)).heap.size = w.heap.size + 1) := Lib.hid (by simp)
  have HS := Lib.hid (hs.below B0.out (Nat.le_refl _))
  have HS' := Lib.hid (hs'.below B0.out (Nat.le_refl _))
  have HS0 := Lib.hid hs
  have HS0' := Lib.hid hs'
  have HE0 : Hid (headB M = wordB (numTextB kd 1 ++ numTextB sz 2 ++ numTextB gn 2)) := Lib.hid (by rw [← hM]; rfl)
  have HE1 : Hid (M.key = key) := Lib.hid (by rw [← hM])
  have HM := Lib.hid hM
  have HMR := Lib.hid hMR
  have HME := Lib.hid hME
  have HLR := Lib.hid hlR
  have HLE := Lib.hid hlE
  obtain ⟨A, hA⟩ : ∃ A, numTextB kd 1 = A := ⟨_, rfl⟩
  obtain ⟨D, hD⟩ : ∃ D, numTextB sz 2 = D := ⟨_, rfl⟩
  obtain ⟨G, hG⟩ : ∃ G, numTextB gn 2 = G := ⟨_, rfl⟩
  have hA1 : A.size ≤ 1 := by rw [← hA]; rcases numTextB_size kd 1 with e | e <;> rw [e] <;> decide
  have hD1 : D.size ≤ 2 := by rw [← hD]; rcases numTextB_size sz 2 with e | e <;> rw [e] <;> decide
  have hG1 : G.size ≤ 2 := by rw [← hG]; rcases numTextB_size gn 2 with e | e <;> rw [e] <;> decide
  have hAD : ¬ (9223372036854775807 < A.size + D.size) := by omega
  have hADG : ¬ (9223372036854775807 < A.size + D.size + G.size) := by omega
  rw [hA, hD, hG] at HE0
  have HA := Lib.hid hA
  have HD := Lib.hid hD
  have HG := Lib.hid hG
  rw [hM]
  clear hz hs hf hs' hf' h hA hD hG hM hMR hME hl8 hlW hlR hlE hgn
  go_enter Try.func30, Try.ntmps30
  go_wp2_with fail
  refine (specIno_any kd sz gn key aR nR cR aE nE cE _ R E HZ.out HS.out HF.out HS'.out HF'.out).mono ?_
  rw [HN.out]
  rintro e w1 ⟨rfl, hb1⟩
  have T0 := Lib.hid (K0.out.later hb1)
  have B1 : Hid (Below (w.heap.size + 1) (w.alloc (inoObj kd sz gn key aR nR cR aE nE cE)) w1) := Lib.hid (by rw [N0.out] at hb1; exact hb1)
  clear hb1
  go_wp2
  have T0d := Lib.hid T0.out.drew
  have B1d := Lib.hid B1.out.drew
  go_region_held3 (fun w' => w'.cell? ⟨w.heap.size, 0, none⟩ = some (.int .i64 kd) ∧ w'.cell? ⟨w.heap.size, 1, none⟩ = some (.int .i64 sz) ∧ w'.cell? ⟨w.heap.size, 2, none⟩ = some (.int .i64 gn) ∧ w'.cell? ⟨w.heap.size, 3, none⟩ = some (.string key))
    (first
      | exact ⟨T0d.out.cell rfl, T0d.out.cell rfl, T0d.out.cell rfl, T0d.out.cell rfl⟩
      | exact ⟨T2.out.cell rfl, T2.out.cell rfl, T2.out.cell rfl, T2.out.cell rfl⟩
      | exact ⟨T3.out.cell rfl, T3.out.cell rfl, T3.out.cell rfl, T3.out.cell rfl⟩
      | exact ⟨T4.out.cell rfl, T4.out.cell rfl, T4.out.cell rfl, T4.out.cell rfl⟩
      | exact ⟨T5.out.cell rfl, T5.out.cell rfl, T5.out.cell rfl, T5.out.cell rfl⟩
      | exact ⟨T6.out.cell rfl, T6.out.cell rfl, T6.out.cell rfl, T6.out.cell rfl⟩
      | go_keep)
    (first
      | (go_at_call 52; (with_reducible refine (specNum_any kd 1 _ (by omega)).mono ?_); rw [HA.out]; rintro e w2 ⟨rfl, hb⟩; have T2 := Lib.hid (T0d.out.later hb); have B2 := Lib.hid (below_on B1d.out (by rw [N0.out]; exact Nat.le_refl _) hb); clear hb)
      | (go_at_call 52; (with_reducible refine (specNum_any sz 2 _ HZ.out.2).mono ?_); rw [HD.out]; rintro e w3 ⟨rfl, hb⟩; have T3 := Lib.hid (T2.out.later hb); have B3 := Lib.hid (below_on B2.out (by rw [N0.out]; exact Nat.le_refl _) hb); clear hb)
      | (go_at_call 52; (with_reducible refine (specNum_any gn 2 _ (by have := HGN.out.2; omega)).mono ?_); rw [HG.out]; rintro e w4 ⟨rfl, hb⟩; have T4 := Lib.hid (T3.out.later hb); have B4 := Lib.hid (below_on B3.out (by rw [N0.out]; exact Nat.le_refl _) hb); clear hb)
      | (go_at_call 51; (with_reducible refine (specWord_any (A ++ D ++ G) _).mono ?_); rw [← HE0.out]; rintro e w5 ⟨rfl, hb⟩; have T5 := Lib.hid (T4.out.later hb); have B5 := Lib.hid (below_on B4.out (by rw [N0.out]; exact Nat.le_refl _) hb); clear hb)
      | (go_at_call 51; (with_reducible refine (specWord_any key _).mono ?_); rintro e w6 ⟨rfl, hb⟩; have T6 := Lib.hid (T5.out.later hb); have B6 := Lib.hid (below_on B5.out (by rw [N0.out]; exact Nat.le_refl _) hb); clear hb))
  all_goals
    have S6 : Hid (w.heap.size + 1 ≤ w6.heap.size) := Lib.hid (by have := B6.out.size; rw [N0.out] at this; exact this)
    have H01 : Hid (scells (recsTo M 0) = [.string (headB M), .string (wordB key)]) := Lib.hid (by rw [recsTo_zero, HE1.out]; rfl)
    go_wp2
    go_loopw [3, 4] (fun v iv wr => ∃ k : Nat, k ≤ nR ∧ iv = .int .i64 k ∧ Hid (wr.ownsRow (w.heap.size + 1) 9 1 v (2 + k) (scells (recsTo M k))) ∧ Hid (Below (w.heap.size + 1) (w.alloc (inoObj kd sz gn key aR nR cR aE nE cE)) wr)) (fun _ iv _ => nR - (intOf iv).toNat)
    case atStart => exact ⟨0, Nat.zero_le _, rfl, Lib.hid (by rw [H01.out]; exact World.ownsRow_lit w6 #[.string (headB M), .string (wordB key)] 2 S6.out (by decide) rfl), Lib.hid (B6.out.alloc S6.out _)⟩
    case round =>
      obtain ⟨k, hk, rfl, HW, HB⟩ := hrel
      have q4 := (K0.out.under HB.out (Nat.lt_succ_self _)).cell (j := 4) rfl
      by_cases hlt : k < nR
      · obtain ⟨g, off, ha, hg, d0, d1, d2⟩ := srcRec_later HS.out HB.out (by rw [N0.out]; exact Nat.le_refl _) k hlt
        obtain ⟨⟨p, q, m⟩, hx⟩ : ∃ x, R.getD k default = x := ⟨_, rfl⟩
        have hm := HF.out k hlt
        rw [hx] at d0 d1 d2 hm
        simp only at d0 d1 d2 hm
        rw [ha] at q4
        have HX := Lib.hid hx
        have HMm := Lib.hid hm
        obtain ⟨T, hT⟩ : ∃ T, recWordB ⟨p, q, m⟩ = T := ⟨_, rfl⟩
        have HT := Lib.hid hT
        have HWN : Hid (scells (recsTo M k) ++ [.string T] = scells (recsTo M (k + 1))) := Lib.hid (by
          rw [← recsTo_next M k (by rw [HLR.out]; exact hlt), HMR.out, HX.out, HT.out])
        clear hx hm ha hT
        go_wp2_with (first
          | (go_at_call 58; (with_reducible refine (specRecWord_any p q m _ HMm.out).mono ?_); rw [HT.out]; rintro e wa ⟨rfl, hb1⟩
             have HW1 := Lib.hid (own_below HW.out hb1)
             have BG := Lib.hid (below_on HB.out (by rw [N0.out]; exact Nat.le_refl _) hb1)
             have BS : Hid (w.heap.size + 1 ≤ wa.heap.size) := Lib.hid (by have := BG.out.size; rw [N0.out] at this; exact this))
          | (at_builtin; refine wpList_append_own _ rfl (.tmp 33) (.tmp 40) 22 rfl (w.heap.size + 1) 9 i0 (.string ⟨#[]⟩) 1 16 Try.underlying22 hi hz0 hz1 hz2 rfl (by decide) _ _ _ rfl (HW1.out.alloc _) ⟨wa.heap.size, 0, none⟩ 1 1 [.string T] rfl rfl (World.news_of_block (heap_alloc_new _ _)) (by simp [Value.oneCell']) (by unfold maxLen; omega) (by omega) (by have := BS.out; simp; omega) ?_; intro v2 wb hown2 hgrow2 hn2))
        have BG3 := Lib.hid ((BG.out.alloc BS.out _).grown hgrow2 (by have := BS.out; simp; omega) (own_block_ge HW1.out))
        rw [HWN.out] at hown2
        have HO2 := Lib.hid hown2
        clear hown2 hgrow2 hn2 HW1 BG BS HB HW
        go_roundw
        case rel => exact ⟨k + 1, by omega, by go_num, HO2, BG3⟩
        case measure => (simp [intOf]; try omega)
      · obtain rfl : k = nR := by omega
        have H9 : Hid (recsTo M k = entsTo M 0) := Lib.hid (by rw [← HLR.out]; exact recsTo_all M)
        have h9 := HW.out
        rw [H9.out] at h9
        have HW2 := Lib.hid h9
        clear h9
        clear HW
        go_wp2
        go_loopw [3, 5] (fun v iv wr => ∃ k2 : Nat, k2 ≤ nE ∧ iv = .int .i64 k2 ∧ Hid (wr.ownsRow (w.heap.size + 1) 9 1 v (2 + k + k2) (scells (entsTo M k2))) ∧ Hid (Below (w.heap.size + 1) (w.alloc (inoObj kd sz gn key aR k cR aE nE cE)) wr)) (fun _ iv _ => nE - (intOf iv).toNat)
        case atStart => exact ⟨0, Nat.zero_le _, rfl, HW2, HB⟩
        case round =>
          clear HW2 HB
          obtain ⟨k2, hk2, rfl, HW, HB⟩ := hrel
          have q5 := (K0.out.under HB.out (Nat.lt_succ_self _)).cell (j := 5) rfl
          by_cases hlt2 : k2 < nE
          · obtain ⟨g, off, ha, hg, d0, d1⟩ := srcEntry_later HS'.out HB.out (by rw [N0.out]; exact Nat.le_refl _) k2 hlt2
            obtain ⟨⟨p, m⟩, hx⟩ : ∃ x, E.getD k2 default = x := ⟨_, rfl⟩
            have hm := HF'.out k2 hlt2
            rw [hx] at d0 d1 hm
            simp only at d0 d1 hm
            rw [ha] at q5
            have HX := Lib.hid hx
            have HMm := Lib.hid hm
            obtain ⟨T, hT⟩ : ∃ T, entryWordB ⟨p, m⟩ = T := ⟨_, rfl⟩
            have HT := Lib.hid hT
            have HWN : Hid (scells (entsTo M k2) ++ [.string T] = scells (entsTo M (k2 + 1))) := Lib.hid (by
              rw [← entsTo_next M k2 (by rw [HLE.out]; exact hlt2), HME.out, HX.out, HT.out])
            clear hx hm ha hT
            go_wp2_with (first
              | (go_at_call 22; (with_reducible refine (specEntryWord_any p m _ HMm.out).mono ?_); rw [HT.out]; rintro e wa ⟨rfl, hb1⟩
                 have HW1 := Lib.hid (own_below HW.out hb1)
                 have BG := Lib.hid (below_on HB.out (by rw [N0.out]; exact Nat.le_refl _) hb1)
                 have BS : Hid (w.heap.size + 1 ≤ wa.heap.size) := Lib.hid (by have := BG.out.size; rw [N0.out] at this; exact this))
              | (at_builtin; refine wpList_append_own _ rfl (.tmp 49) (.tmp 56) 22 rfl (w.heap.size + 1) 9 i0 (.string ⟨#[]⟩) 1 16 Try.underlying22 hi hz0 hz1 hz2 rfl (by decide) _ _ _ rfl (HW1.out.alloc _) ⟨wa.heap.size, 0, none⟩ 1 1 [.string T] rfl rfl (World.news_of_block (heap_alloc_new _ _)) (by simp [Value.oneCell']) (by unfold maxLen; omega) (by omega) (by have := BS.out; simp; omega) ?_; intro v2 wb hown2 hgrow2 hn2))
            have BG3 := Lib.hid ((BG.out.alloc BS.out _).grown hgrow2 (by have := BS.out; simp; omega) (own_block_ge HW1.out))
            rw [HWN.out] at hown2
            have HO2 := Lib.hid hown2
            clear hown2 hgrow2 hn2 HW1 BG BS HB HW
            go_roundw
            case rel => exact ⟨k2 + 1, by omega, by go_num, HO2, BG3⟩
            case measure => (simp [intOf]; try omega)
          · obtain rfl : k2 = nE := by omega
            have H9 : Hid (entsTo M k2 = fillTo M 0) := Lib.hid (by rw [← HLE.out]; exact entsTo_all M)
            have h9 := HW.out
            rw [H9.out] at h9
            have HW3 := Lib.hid h9
            clear h9
            clear HW
            go_wp2
            go_loopw [3] (fun v wr => ∃ k3 : Nat, 2 + k + k2 + k3 ≤ 8 ∧ Hid (wr.ownsRow (w.heap.size + 1) 9 1 v (2 + k + k2 + k3) (scells (fillTo M k3))) ∧ Hid (Below (w.heap.size + 1) (w.alloc (inoObj kd sz gn key aR k cR aE k2 cE)) wr)) (fun v _ => 8 - rowLen v)
            case atStart => exact ⟨0, by omega, HW3, HB⟩
            case round =>
              obtain ⟨k3, hk3, HW, HB⟩ := hrel
              obtain ⟨ad, cap, rfl, hcap, hn, _⟩ := own_form HW.out
              by_cases hlt3 : 2 + k + k2 + k3 < 8
              · obtain ⟨T, hT⟩ : ∃ T, zeroB 8 = T := ⟨_, rfl⟩
                have HT := Lib.hid hT
                have HWN : Hid (scells (fillTo M k3) ++ [.string T] = scells (fillTo M (k3 + 1))) := Lib.hid (by rw [← fillTo_next, ← HT.out]; rfl)
                clear hT
                go_wp2_with (first
                  | (go_at_call 66; (with_reducible refine (specZero_any 8 _).mono ?_); rw [HT.out]; rintro e wa ⟨rfl, hb1⟩
                     have HW1 := Lib.hid (own_below HW.out hb1)
                     have BG := Lib.hid (below_on HB.out (by rw [N0.out]; exact Nat.le_refl _) hb1)
                     have BS : Hid (w.heap.size + 1 ≤ wa.heap.size) := Lib.hid (by have := BG.out.size; rw [N0.out] at this; exact this))
                  | (at_builtin; refine wpList_append_own _ rfl (.tmp 61) (.tmp 63) 22 rfl (w.heap.size + 1) 9 i0 (.string ⟨#[]⟩) 1 16 Try.underlying22 hi hz0 hz1 hz2 rfl (by decide) _ _ _ rfl (HW1.out.alloc _) ⟨wa.heap.size, 0, none⟩ 1 1 [.string T] rfl rfl (World.news_of_block (heap_alloc_new _ _)) (by simp [Value.oneCell']) (by unfold maxLen; omega) (by omega) (by have := BS.out; simp; omega) ?_; intro v2 wb hown2 hgrow2 hn2))
                have BG3 := Lib.hid ((BG.out.alloc BS.out _).grown hgrow2 (by have := BS.out; simp; omega) (own_block_ge HW1.out))
                rw [HWN.out] at hown2
                have HO2 := Lib.hid hown2
                clear hown2 hgrow2 hn2 HW1 BG BS HB HW
                obtain ⟨ad2, cap2, rfl, hcap2, hn9, _⟩ := own_form HO2.out
                go_roundw
                case rel => exact ⟨k3 + 1, by omega, HO2, BG3⟩
                case measure => (simp [rowLen]; try omega)
              · have HW9 : Hid (wr.ownsRow w.heap.size 9 1 (.slice ad (2 + k + k2 + k3) cap) (inoWordsB M).length (scells (inoWordsB M))) := Lib.hid (by
                  have h9 := HW.out
                  rw [HL8.out, HR.out, show 8 - (2 + k + k2) = k3 by omega, show 8 = 2 + k + k2 + k3 by omega]
                  exact ownE_mono h9 (by omega))
                clear HW
                go_wp2
                go_ret
                exact ⟨_, rfl, HW9.out, B0.out.trans (HB.out.mono (by omega))⟩

theorem specInoWords_any (hz : -9223372036854775808 ≤ sz ∧ sz ≤ 9223372036854775807) (hs : SrcRec w aR nR R) (hf : FitRec R nR 2000000) (hs' : SrcEntry w aE nE E) (hf' : FitEntry E nE 2000000) :
    Calls Try.prog 30 #[.agg #[.int .i64 kd, .int .i64 sz, .int .i64 gn, .string key, .slice aR nR cR, .slice aE nE cE]] w (GivesT (inoWordsB ⟨kd, sz, gn, key, R, E⟩) w) := by
  by_cases h : InoOk ⟨kd, sz, gn, key, R, E⟩
  · have hk : 0 ≤ kd ∧ kd ≤ 2 := by
      obtain ⟨_, ⟨e, _⟩ | ⟨e, _⟩ | ⟨e, _⟩⟩ := h
      · have e : kd = 0 := e
        omega
      · have e : kd = 1 := e
        omega
      · have e : kd = 2 := e
        omega
    exact specInoWords_yes kd sz gn key aR nR cR aE nE cE w R E hk hz hs hf hs' hf' h
  · rw [inoWords_no h]
    exact specInoWords_no kd sz gn key aR nR cR aE nE cE w R E hz hs hf hs' hf' h
end
end Go.Proofs.Ytmkchilhnmkhkaa
namespace Go.Proofs.Ytmkchilhnmkhkaa
open Go.RowKit Go.Proofs.Ytmkchilhnmkhkaa.Parts Go.Proofs.Ytmkchilhnmkhkaa.Hexa Go.Proofs.Ytmkchilhnmkhkaa.Byt

/-- What is returned owns these texts; nothing else of before is written. -/
def AppPost (base : Nat) (W0 : World) (n : Nat) (xs : List Value) (e : Ending) (w' : World) : Prop :=
  ∃ v, e = .returned v ∧ w'.ownsRow base 9 1 v n xs ∧ Below base W0 w' ∧ base ≤ w'.heap.size

set_option maxRecDepth 100000 in
set_option maxHeartbeats 2000000 in
theorem appendRecs_any (W0 : World) (base : Nat) (v : Value) (n0 : Nat) (xs : List Value) (a : Option Addr) (n c : Nat) (L : List RecR) (w : World) (hB0 : W0.heap.size ≤ base) (hb0 : Below base W0 w) (hbs : base ≤ w.heap.size)
    (hs : SrcRec W0 a n L) (hf : FitRec L n 2000000) (hn : n0 + n ≤ 1000) (hown : w.ownsRow base 9 1 v n0 xs) :
    Calls Try.prog 67 #[v, .slice a n c, .func (.func 68) #[] #[]] w (AppPost base W0 (n0 + n) (xs ++ scells (L.map recWordB))) := by
  obtain ⟨i0, hi, hz0, hz1, hz2⟩ := info_parts infoText
  have HS := Lib.hid hs
  have HL := Lib.hid hs.len
  have HF := Lib.hid hf
  have HN := Lib.hid hn
  have HO := Lib.hid hown
  have HB0 := Lib.hid hb0
  have HBS := Lib.hid hbs
  have HBW := Lib.hid hB0
  have hn1 : n ≤ 1000 := by omega
  have hn0 : n0 ≤ 1000 := by omega
  clear hs hf hown hb0 hbs hB0 hn
  go_enter Try.func67, Try.ntmps67
  go_wp2
  go_loopw [0, 11] (fun u iv wr => ∃ k : Nat, k ≤ n ∧ iv = .int .i64 k ∧ Hid (wr.ownsRow base 9 1 u (n0 + k) (xs ++ scells ((L.take k).map recWordB))) ∧ Hid (Below base W0 wr) ∧ Hid (base ≤ wr.heap.size)) (fun _ iv _ => n - (intOf iv).toNat)
  case atStart => exact ⟨0, Nat.zero_le _, rfl, Lib.hid (by simpa [scells] using HO.out), HB0, HBS⟩
  case round =>
    clear HO HB0 HBS
    obtain ⟨k, hk, rfl, HW, HB, HSZ⟩ := hrel
    by_cases hlt : k < n
    · obtain ⟨g, off, ha, hg, d0, d1, d2⟩ := srcRec_later HS.out HB.out HBW.out k hlt
      obtain ⟨⟨p, q, m⟩, hx⟩ : ∃ x, L.getD k default = x := ⟨_, rfl⟩
      have hm := HF.out k hlt
      rw [hx] at d0 d1 d2 hm
      simp only at d0 d1 d2 hm
      have HX := Lib.hid hx
      have HM := Lib.hid hm
      obtain ⟨T, hT⟩ : ∃ T, recWordB ⟨p, q, m⟩ = T := ⟨_, rfl⟩
      have HT := Lib.hid hT
      have HWN : Hid ((xs ++ scells ((L.take k).map recWordB)) ++ [.string T] = xs ++ scells ((L.take (k + 1)).map recWordB)) := Lib.hid (by
        rw [take_more _ _ _ (by rw [HL.out]; exact hlt), HX.out, HT.out]
        simp [scells])
      have HBX : Hid (Below base W0 (wr.alloc (.cells #[.int .i64 p, .int .i64 q, .string m] 83))) := Lib.hid (HB.out.alloc HSZ.out _)
      have HWX := Lib.hid (HW.out.alloc (.cells #[.int .i64 p, .int .i64 q, .string m] 83))
      have HSX : Hid (base ≤ (wr.alloc (.cells #[.int .i64 p, .int .i64 q, .string m] 83)).heap.size) := Lib.hid (by have := HSZ.out; simp; omega)
      have HN2 : Hid (n0 + k + 1 ≤ 1000) := Lib.hid (by have := HN.out; omega)
      subst ha
      clear hx hm hT
      go_wp2_with (first
        | (go_at_call 68; (with_reducible refine (implRecWord_any p q m _ HM.out).mono ?_); rw [HT.out]; rintro e wa ⟨rfl, hb1⟩
           have HW1 := Lib.hid (own_below HWX.out hb1)
           have BG := Lib.hid (HBX.out.trans (hb1.mono HSX.out))
           have BS : Hid (base ≤ wa.heap.size) := Lib.hid (Nat.le_trans HSX.out hb1.size))
        | (at_builtin; refine wpList_append_own _ rfl (.tmp 15) (.tmp 19) 22 rfl base 9 i0 (.string ⟨#[]⟩) 1 16 Try.underlying22 hi hz0 hz1 hz2 rfl (by decide) _ _ _ rfl (HW1.out.alloc _) ⟨wa.heap.size, 0, none⟩ 1 1 [.string T] rfl rfl (World.news_of_block (heap_alloc_new _ _)) (by simp [Value.oneCell']) (by have := HN2.out; unfold maxLen; omega) (by have := HN2.out; omega) (by have := BS.out; simp; omega) ?_; intro v2 wb hown2 hgrow2 hn2))
      have BG3 := Lib.hid ((BG.out.alloc BS.out _).grown hgrow2 (by have := BS.out; simp; omega) (own_block_ge HW1.out))
      have BS3 : Hid (base ≤ wb.heap.size) := Lib.hid (by have h9 := hgrow2.size; have := BS.out; simp at h9; omega)
      rw [HWN.out] at hown2
      have HO2 := Lib.hid hown2
      clear hown2 hgrow2 hn2 HW1 BG BS HB HW
      go_roundw
      case rel => exact ⟨k + 1, by omega, by go_num, HO2, BG3, BS3⟩
      case measure => (simp [intOf]; try omega)
    · obtain rfl : k = n := by omega
      have h9 := HW.out
      rw [List.take_of_length_le (by rw [HL.out]; exact Nat.le_refl _)] at h9
      have HW2 := Lib.hid h9
      clear h9
      go_wp2
      go_ret
      exact ⟨_, rfl, HW2.out, HB.out, HSZ.out⟩

set_option maxRecDepth 100000 in
set_option maxHeartbeats 2000000 in
theorem appendEntrys_any (W0 : World) (base : Nat) (v : Value) (n0 : Nat) (xs : List Value) (a : Option Addr) (n c : Nat) (L : List EntryR) (w : World) (hB0 : W0.heap.size ≤ base) (hb0 : Below base W0 w) (hbs : base ≤ w.heap.size)
    (hs : SrcEntry W0 a n L) (hf : FitEntry L n 2000000) (hn : n0 + n ≤ 1000) (hown : w.ownsRow base 9 1 v n0 xs) :
    Calls Try.prog 69 #[v, .slice a n c, .func (.func 24) #[] #[]] w (AppPost base W0 (n0 + n) (xs ++ scells (L.map entryWordB))) := by
  obtain ⟨i0, hi, hz0, hz1, hz2⟩ := info_parts infoText
  have HS := Lib.hid hs
  have HL := Lib.hid hs.len
  have HF := Lib.hid hf
  have HN := Lib.hid hn
  have HO := Lib.hid hown
  have HB0 := Lib.hid hb0
  have HBS := Lib.hid hbs
  have HBW := Lib.hid hB0
  have hn1 : n ≤ 1000 := by omega
  have hn0 : n0 ≤ 1000 := by omega
  clear hs hf hown hb0 hbs hB0 hn
  go_enter Try.func69, Try.ntmps69
  go_wp2
  go_loopw [0, 11] (fun u iv wr => ∃ k : Nat, k ≤ n ∧ iv = .int .i64 k ∧ Hid (wr.ownsRow base 9 1 u (n0 + k) (xs ++ scells ((L.take k).map entryWordB))) ∧ Hid (Below base W0 wr) ∧ Hid (base ≤ wr.heap.size)) (fun _ iv _ => n - (intOf iv).toNat)
  case atStart => exact ⟨0, Nat.zero_le _, rfl, Lib.hid (by simpa [scells] using HO.out), HB0, HBS⟩
  case round =>
    clear HO HB0 HBS
    obtain ⟨k, hk, rfl, HW, HB, HSZ⟩ := hrel
    by_cases hlt : k < n
    · obtain ⟨g, off, ha, hg, d0, d1⟩ := srcEntry_later HS.out HB.out HBW.out k hlt
      obtain ⟨⟨p, m⟩, hx⟩ : ∃ x, L.getD k default = x := ⟨_, rfl⟩
      have hm := HF.out k hlt
      rw [hx] at d0 d1 hm
      simp only at d0 d1 hm
      have HX := Lib.hid hx
      have HM := Lib.hid hm
      obtain ⟨T, hT⟩ : ∃ T, entryWordB ⟨p, m⟩ = T := ⟨_, rfl⟩
      have HT := Lib.hid hT
      have HWN : Hid ((xs ++ scells ((L.take k).map entryWordB)) ++ [.string T] = xs ++ scells ((L.take (k + 1)).map entryWordB)) := Lib.hid (by
        rw [take_more _ _ _ (by rw [HL.out]; exact hlt), HX.out, HT.out]
        simp [scells])
      have HBX : Hid (Below base W0 (wr.alloc (.cells #[.int .i64 p, .string m] 45))) := Lib.hid (HB.out.alloc HSZ.out _)
      have HWX := Lib.hid (HW.out.alloc (.cells #[.int .i64 p, .string m] 45))
      have HSX : Hid (base ≤ (wr.alloc (.cells #[.int .i64 p, .string m] 45)).heap.size) := Lib.hid (by have := HSZ.out; simp; omega)
      have HN2 : Hid (n0 + k + 1 ≤ 1000) := Lib.hid (by have := HN.out; omega)
      subst ha
      clear hx hm hT
      go_wp2_with (first
        | (go_at_call 24; (with_reducible refine (implEntryWord_any p m _ HM.out).mono ?_); rw [HT.out]; rintro e wa ⟨rfl, hb1⟩
           have HW1 := Lib.hid (own_below HWX.out hb1)
           have BG := Lib.hid (HBX.out.trans (hb1.mono HSX.out))
           have BS : Hid (base ≤ wa.heap.size) := Lib.hid (Nat.le_trans HSX.out hb1.size))
        | (at_builtin; refine wpList_append_own _ rfl (.tmp 15) (.tmp 19) 22 rfl base 9 i0 (.string ⟨#[]⟩) 1 16 Try.underlying22 hi hz0 hz1 hz2 rfl (by decide) _ _ _ rfl (HW1.out.alloc _) ⟨wa.heap.size, 0, none⟩ 1 1 [.string T] rfl rfl (World.news_of_block (heap_alloc_new _ _)) (by simp [Value.oneCell']) (by have := HN2.out; unfold maxLen; omega) (by have := HN2.out; omega) (by have := BS.out; simp; omega) ?_; intro v2 wb hown2 hgrow2 hn2))
      have BG3 := Lib.hid ((BG.out.alloc BS.out _).grown hgrow2 (by have := BS.out; simp; omega) (own_block_ge HW1.out))
      have BS3 : Hid (base ≤ wb.heap.size) := Lib.hid (by have h9 := hgrow2.size; have := BS.out; simp at h9; omega)
      rw [HWN.out] at hown2
      have HO2 := Lib.hid hown2
      clear hown2 hgrow2 hn2 HW1 BG BS HB HW
      go_roundw
      case rel => exact ⟨k + 1, by omega, by go_num, HO2, BG3, BS3⟩
      case measure => (simp [intOf]; try omega)
    · obtain rfl : k = n := by omega
      have h9 := HW.out
      rw [List.take_of_length_le (by rw [HL.out]; exact Nat.le_refl _)] at h9
      have HW2 := Lib.hid h9
      clear h9
      go_wp2
      go_ret
      exact ⟨_, rfl, HW2.out, HB.out, HSZ.out⟩

end Go.Proofs.Ytmkchilhnmkhkaa
namespace Go.Proofs.Ytmkchilhnmkhkaa
open Go.RowKit Go.Proofs.Ytmkchilhnmkhkaa.Hexa Go.Proofs.Ytmkchilhnmkhkaa.Byt Go.Proofs.Ytmkchilhnmkhkaa.BitsM

set_option maxRecDepth 100000 in
set_option maxHeartbeats 1000000 in
theorem implZero_any (n : Int) (w : World) :
    Calls Try.prog 70 #[.int .i64 n] w fun e w' => e = .returned (.string (zeroB n)) ∧ Below w.heap.size w w' := by
  by_cases h : 0 ≤ n ∧ n ≤ 20000
  · obtain ⟨i0, hi, hz0, hz1, hz2⟩ := info_parts infoByte
    have HE : Hid (zeroB n = longB n.toNat 0) := Lib.hid (if_pos h)
    obtain ⟨k, rfl⟩ : ∃ k : Nat, n = k := ⟨n.toNat, by omega⟩
    have hk : k ≤ 20000 := by omega
    clear h
    go_enter Try.func70, Try.ntmps70
    go_wp2_with (at_make; refine wpList_make_full _ rfl _ _ 103 rfl w.heap.size 5 i0 (.int .u8 0) 1 Try.underlying103 hi hz0 hz1 .i64 .i64 _ _ k rfl rfl rfl rfl (by rw [hz2]; omega) (by unfold maxLen; omega) (Nat.le_refl _) ?_; intro w0 hown0 hgrow0; rw [made_zero] at hown0; have hconv := own_string (P := Try.prog) 103 9 Try.underlying103 Try.underlying5 Try.underlying9 hown0)
    have hg0 : Below w.heap.size w w0 := (Below.refl _ _).grown hgrow0 (Nat.le_refl _) (fun k h => by cases h)
    go_ret
    exact ⟨by rw [HE.out]; rfl, hg0⟩
  · have HE : Hid (zeroB n = ⟨#[]⟩) := Lib.hid (if_neg h)
    by_cases h0 : n < 0
    · go_enter Try.func70, Try.ntmps70
      go_wp2
      go_ret
      exact ⟨by rw [HE.out]; rfl, Below.refl _ _⟩
    · have h1 : 20000 < n := by omega
      clear h
      go_enter Try.func70, Try.ntmps70
      go_wp2
      go_ret
      exact ⟨by rw [HE.out]; rfl, Below.refl _ _⟩

end Go.Proofs.Ytmkchilhnmkhkaa
namespace Go.Proofs.Ytmkchilhnmkhkaa
open Go.RowKit Go.Proofs.Ytmkchilhnmkhkaa.Parts Go.Proofs.Ytmkchilhnmkhkaa.Hexa Go.Proofs.Ytmkchilhnmkhkaa.Byt

theorem file_fill {M : InoR} {R : List RecR} (hR : M.R = R) (hE : M.E.length = 0) : scells (recsTo M 0) ++ scells (R.map recWordB) = scells (fillTo M 0) := by
  have h : M.E = [] := List.eq_nil_of_length_eq_zero hE
  unfold recsTo fillTo wordsI
  rw [hR, h]
  simp [scells]
theorem dir_fill {M : InoR} {E : List EntryR} (hE : M.E = E) (hR : M.R.length = 0) : scells (recsTo M 0) ++ scells (E.map entryWordB) = scells (fillTo M 0) := by
  have h : M.R = [] := List.eq_nil_of_length_eq_zero hR
  unfold recsTo fillTo wordsI
  rw [hE, h]
  simp [scells]

section
variable (sz gn : Int) (key : ByteArray) (aR : Option Addr) (nR cR : Nat) (aE : Option Addr) (nE cE : Nat) (w : World) (R : List RecR) (E : List EntryR)

set_option maxRecDepth 100000 in
set_option maxHeartbeats 4000000 in
theorem implInoWords_file (hz : -9223372036854775808 ≤ sz ∧ sz ≤ 9223372036854775807) (hs : SrcRec w aR nR R) (hf : FitRec R nR 2000000) (hs' : SrcEntry w aE nE E) (hf' : FitEntry E nE 2000000) (h : InoOk ⟨1, sz, gn, key, R, E⟩) :
    Calls Try.prog 31 #[.agg #[.int .i64 1, .int .i64 sz, .int .i64 gn, .string key, .slice aR nR cR, .slice aE nE cE]] w (GivesT (inoWordsB ⟨1, sz, gn, key, R, E⟩) w) := by
  obtain ⟨i0, hi, hz0, hz1, hz2⟩ := info_parts infoText
  obtain ⟨M, hM⟩ : ∃ M : InoR, (⟨1, sz, gn, key, R, E⟩ : InoR) = M := ⟨_, rfl⟩
  have hlR : M.R.length = nR := by rw [← hM]; exact hs.len
  have hlE : M.E.length = nE := by rw [← hM]; exact hs'.len
  have hMR : M.R = R := by rw [← hM]
  have hME : M.E = E := by rw [← hM]
  have hl8 : (wordsI M).length ≤ 8 := wordsI_le (by rw [← hM]; exact h)
  have hlW : (wordsI M).length = 2 + nR + nE := by unfold wordsI; simp [hlR, hlE]; omega
  have HN := Lib.hid (inoB_yes h)
  have HR : Hid (inoWordsB M = fillTo M (8 - (2 + nR + nE))) := Lib.hid (by rw [← hlW]; exact inoWords_yes (by rw [← hM]; exact h))
  have HL8 : Hid ((inoWordsB M).length = 8) := Lib.hid (inoWords_length (by rw [← hM]; exact h))
  have HZ := Lib.hid hz
  have HF := Lib.hid hf
  have HF' := Lib.hid hf'
  have hgn := h.1
  have HGN : Hid (0 ≤ gn ∧ gn ≤ 65535) := Lib.hid hgn
  have hl8' : nR + nE ≤ 6 := by omega
  have hkind : Hid (nE = 0) := Lib.hid (by
    have x := (inoOk_file (show 0 ≤ gn ∧ gn ≤ 65535 from h.1)).1 h
    have e1 := hs.len
    have e2 := hs'.len
    rw [← e2]; exact x.2.2.2.1)
  have B0 := Lib.hid (below_bk w (inoObj 1 sz gn key aR nR cR aE nE cE))
  have K0 := Lib.hid (Bk.alloc w (inoCs 1 sz gn key aR nR cR aE nE cE) 57)
  have N0 : Hid ((w.alloc (inoObj 1 sz gn key aR nR cR aE nE cE)).heap.size = w.heap.size + 1) := Lib.hid (by simp)
  have HS := Lib.hid (hs.below B0.out (Nat.le_refl _))
  have HS' := Lib.hid (hs'.below B0.out (Nat.le_refl _))
  have HLR := Lib.hid hlR
  have HLE := Lib.hid hlE
  have HMR := Lib.hid hMR
  have HME := Lib.hid hME
  have HE0 : Hid (headB M = wordB (numTextB 1 1 ++ numTextB sz 2 ++ numTextB gn 2)) := Lib.hid (by rw [← hM]; rfl)
  have HE1 : Hid (wordB M.key = wordB key) := Lib.hid (by rw [← hM])
  have HC : Hid (∀ W : World, Calls Try.prog 61 #[.agg #[.int .i64 1, .int .i64 sz, .int .i64 gn, .string key, .slice aR nR cR, .slice aE nE cE]] W fun e w' => e = .returned (.iface 89 (.agg #[.int .i64 sz, .string key, .slice aR nR cR])) ∧ Below W.heap.size W w') := Lib.hid (fun W => implBody_any 1 sz gn key aR nR cR aE nE cE W)
  obtain ⟨A, hA⟩ : ∃ A, numTextB 1 1 = A := ⟨_, rfl⟩
  obtain ⟨D, hD⟩ : ∃ D, numTextB sz 2 = D := ⟨_, rfl⟩
  obtain ⟨G, hG⟩ : ∃ G, numTextB gn 2 = G := ⟨_, rfl⟩
  have hA1 : A.size ≤ 1 := by rw [← hA]; rcases numTextB_size 1 1 with e | e <;> rw [e] <;> decide
  have hD1 : D.size ≤ 2 := by rw [← hD]; rcases numTextB_size sz 2 with e | e <;> rw [e] <;> decide
  have hG1 : G.size ≤ 2 := by rw [← hG]; rcases numTextB_size gn 2 with e | e <;> rw [e] <;> decide
  have hAD : ¬ (9223372036854775807 < A.size + D.size) := by omega
  have hADG : ¬ (9223372036854775807 < A.size + D.size + G.size) := by omega
  rw [hA, hD, hG] at HE0
  have HA := Lib.hid hA
  have HD := Lib.hid hD
  have HG := Lib.hid hG
  rw [hM]
  clear hz hs hf hs' hf' h hA hD hG hM hMR hME hl8 hlW hlR hlE hgn
  go_enter Try.func31, Try.ntmps31
  go_wp2_with fail
  refine (implIno_any 1 sz gn key aR nR cR aE nE cE _ R E HZ.out (by omega) HS.out HF.out HS'.out HF'.out).mono ?_
  rw [HN.out]
  rintro e w1 ⟨rfl, hb1⟩
  have T0 := Lib.hid (K0.out.later hb1)
  have B1 : Hid (Below (w.heap.size + 1) (w.alloc (inoObj 1 sz gn key aR nR cR aE nE cE)) w1) := Lib.hid (by rw [N0.out] at hb1; exact hb1)
  clear hb1
  go_wp2
  have T0d := Lib.hid T0.out.drew
  have B1d := Lib.hid B1.out.drew
  go_region_held3 (fun w' => w'.cell? ⟨w.heap.size, 0, none⟩ = some (.int .i64 1) ∧ w'.cell? ⟨w.heap.size, 1, none⟩ = some (.int .i64 sz) ∧ w'.cell? ⟨w.heap.size, 2, none⟩ = some (.int .i64 gn))
    (first
      | exact ⟨T0d.out.cell rfl, T0d.out.cell rfl, T0d.out.cell rfl⟩
      | exact ⟨T2.out.cell rfl, T2.out.cell rfl, T2.out.cell rfl⟩
      | exact ⟨T3.out.cell rfl, T3.out.cell rfl, T3.out.cell rfl⟩
      | exact ⟨T4.out.cell rfl, T4.out.cell rfl, T4.out.cell rfl⟩
      | go_keep)
    (first
      | (go_at_call 54; (with_reducible refine (implNum_any 1 1 _ (by omega)).mono ?_); rw [HA.out]; rintro e w2 ⟨rfl, hb⟩; have T2 := Lib.hid (T0d.out.later hb); have B2 := Lib.hid (below_on B1d.out (by rw [N0.out]; exact Nat.le_refl _) hb); clear hb)
      | (go_at_call 54; (with_reducible refine (implNum_any sz 2 _ HZ.out.2).mono ?_); rw [HD.out]; rintro e w3 ⟨rfl, hb⟩; have T3 := Lib.hid (T2.out.later hb); have B3 := Lib.hid (below_on B2.out (by rw [N0.out]; exact Nat.le_refl _) hb); clear hb)
      | (go_at_call 54; (with_reducible refine (implNum_any gn 2 _ (by have := HGN.out.2; omega)).mono ?_); rw [HG.out]; rintro e w4 ⟨rfl, hb⟩; have T4 := Lib.hid (T3.out.later hb); have B4 := Lib.hid (below_on B3.out (by rw [N0.out]; exact Nat.le_refl _) hb); clear hb))
  go_wp2
  have T4d := Lib.hid T4.out.drew
  have B4d := Lib.hid B4.out.drew
  go_region_held3 (fun w' => w'.cell? ⟨w.heap.size, 3, none⟩ = some (.string key))
    (first
      | exact T4d.out.cell rfl
      | exact T5.out.cell rfl
      | exact T6.out.cell rfl
      | go_keep)
    (first
      | (go_at_call 53; (with_reducible refine (implWord_any (A ++ D ++ G) _).mono ?_); rw [← HE0.out]; rintro e w5 ⟨rfl, hb⟩; have T5 := Lib.hid (T4d.out.later hb); have B5 := Lib.hid (below_on B4d.out (by rw [N0.out]; exact Nat.le_refl _) hb); clear hb)
      | (go_at_call 53; (with_reducible refine (implWord_any key _).mono ?_); rintro e w6 ⟨rfl, hb⟩; have T6 := Lib.hid (T5.out.later hb); have B6 := Lib.hid (below_on B5.out (by rw [N0.out]; exact Nat.le_refl _) hb); clear hb))
  have S6 : Hid (w.heap.size + 1 ≤ w6.heap.size) := Lib.hid (by have := B6.out.size; rw [N0.out] at this; exact this)
  have H01 : Hid (scells (recsTo M 0) = [.string (headB M), .string (wordB key)]) := Lib.hid (by rw [recsTo_zero, HE1.out]; rfl)
  have HW0 : Hid ((w6.alloc (.cells #[.string (headB M), .string (wordB key)] 9)).ownsRow (w.heap.size + 1) 9 1 (.slice (some ⟨w6.heap.size, 0, none⟩) 2 2) 2 (scells (recsTo M 0))) := Lib.hid (by rw [H01.out]; exact World.ownsRow_lit w6 #[.string (headB M), .string (wordB key)] 2 S6.out (by decide) rfl)
  have B7 : Hid (Below (w.heap.size + 1) (w.alloc (inoObj 1 sz gn key aR nR cR aE nE cE)) (w6.alloc (.cells #[.string (headB M), .string (wordB key)] 9))) := Lib.hid (B6.out.alloc S6.out _)
  have T7 := Lib.hid (T6.out.later (below_bk w6 (.cells #[.string (headB M), .string (wordB key)] 9)))
  have c0 := T7.out.cell (j := 0) rfl
  have c1 := T7.out.cell (j := 1) rfl
  have c2 := T7.out.cell (j := 2) rfl
  have c3 := T7.out.cell (j := 3) rfl
  have c4 := T7.out.cell (j := 4) rfl
  have c5 := T7.out.cell (j := 5) rfl
  clear hAD hADG
  go_wp2_with fail
  refine (HC.out _).mono ?_
  rintro e w8 ⟨rfl, hb8⟩
  have B8 : Hid (Below (w.heap.size + 1) (w.alloc (inoObj 1 sz gn key aR nR cR aE nE cE)) w8) := Lib.hid (B7.out.trans (hb8.mono (by have := S6.out; simp; omega)))
  have S8 : Hid (w.heap.size + 1 ≤ w8.heap.size) := Lib.hid (by have h9 := hb8.size; have := S6.out; simp at h9; omega)
  have HW8 := Lib.hid (own_below HW0.out hb8)
  clear hb8 c0 c1 c2 c3 c4 c5
  have a1 := as_file (.agg #[.int .i64 sz, .string key, .slice aR nR cR]) w8
  have B9 : Hid (Below (w.heap.size + 1) (w.alloc (inoObj 1 sz gn key aR nR cR aE nE cE)) (w8.alloc (.cells #[.int .i64 sz, .string key, .slice aR nR cR] 89))) := Lib.hid (B8.out.alloc S8.out _)
  have S9 : Hid (w.heap.size + 1 ≤ (w8.alloc (.cells #[.int .i64 sz, .string key, .slice aR nR cR] 89)).heap.size) := Lib.hid (by have := S8.out; simp; omega)
  have HW9 := Lib.hid (HW8.out.alloc (.cells #[.int .i64 sz, .string key, .slice aR nR cR] 89))
  have HFL : Hid (scells (recsTo M 0) ++ scells (R.map recWordB) = scells (fillTo M 0)) := Lib.hid (by
    exact file_fill HMR.out (by rw [HLE.out]; exact hkind.out))
  go_wp2_with fail
  refine (appendRecs_any (w.alloc (inoObj 1 sz gn key aR nR cR aE nE cE)) (w.heap.size + 1) _ 2 (scells (recsTo M 0)) aR nR cR R _ (by rw [N0.out]; exact Nat.le_refl _) B9.out S9.out HS.out HF.out (by omega) HW9.out).mono ?_
  rintro e w9 ⟨v9, rfl, hown9, hb9, hs9⟩
  rw [HFL.out] at hown9
  obtain ⟨n2, hn2⟩ : ∃ n2, 2 + nR = n2 := ⟨_, rfl⟩
  have HN2 : Hid (2 + nR + nE = n2) := Lib.hid (by rw [hkind.out]; exact hn2)
  have hn8 : n2 ≤ 8 := by omega
  rw [hn2] at hown9
  have HWF := Lib.hid hown9
  have BF := Lib.hid hb9
  clear hown9 hb9 hs9 hn2
  go_wp2
  go_loopw [4] (fun v wr => ∃ k3, n2 + k3 ≤ 8 ∧ Hid (wr.ownsRow (w.heap.size + 1) 9 1 v (n2 + k3) (scells (fillTo M k3))) ∧ Hid (Below (w.heap.size + 1) (w.alloc (inoObj 1 sz gn key aR nR cR aE nE cE)) wr)) (fun v _ => 8 - rowLen v)
  case atStart => exact ⟨0, by omega, HWF, BF⟩
  case round =>
    obtain ⟨k3, hk3, HW, HB⟩ := hrel
    obtain ⟨ad, cap, rfl, hcap, hn, _⟩ := own_form HW.out
    by_cases hlt3 : n2 + k3 < 8
    · obtain ⟨T, hT⟩ : ∃ T, zeroB 8 = T := ⟨_, rfl⟩
      have HT := Lib.hid hT
      have HWN : Hid (scells (fillTo M k3) ++ [.string T] = scells (fillTo M (k3 + 1))) := Lib.hid (by rw [← fillTo_next, ← HT.out]; rfl)
      clear hT
      go_wp2_with (first
        | (go_at_call 70; (with_reducible refine (implZero_any 8 _).mono ?_); rw [HT.out]; rintro e wa ⟨rfl, hb1⟩
           have HW1 := Lib.hid (own_below HW.out hb1)
           have BG := Lib.hid (below_on HB.out (by rw [N0.out]; exact Nat.le_refl _) hb1)
           have BS : Hid (w.heap.size + 1 ≤ wa.heap.size) := Lib.hid (by have := BG.out.size; rw [N0.out] at this; exact this))
        | (at_builtin; refine wpList_append_own _ rfl (.tmp 46) (.tmp 48) 22 rfl (w.heap.size + 1) 9 i0 (.string ⟨#[]⟩) 1 16 Try.underlying22 hi hz0 hz1 hz2 rfl (by decide) _ _ _ rfl (HW1.out.alloc _) ⟨wa.heap.size, 0, none⟩ 1 1 [.string T] rfl rfl (World.news_of_block (heap_alloc_new _ _)) (by simp [Value.oneCell']) (by unfold maxLen; omega) (by omega) (by have := BS.out; simp; omega) ?_; intro v2 wb hown2 hgrow2 hn2))
      have BG3 := Lib.hid ((BG.out.alloc BS.out _).grown hgrow2 (by have := BS.out; simp; omega) (own_block_ge HW1.out))
      rw [HWN.out] at hown2
      have HO2 := Lib.hid hown2
      clear hown2 hgrow2 hn2 HW1 BG BS HB HW
      obtain ⟨ad2, cap2, rfl, hcap2, hn9, _⟩ := own_form HO2.out
      go_roundw
      case rel => exact ⟨k3 + 1, by omega, HO2, BG3⟩
      case measure => (simp [rowLen]; try omega)
    · have HW9 : Hid (wr.ownsRow w.heap.size 9 1 (.slice ad (n2 + k3) cap) (inoWordsB M).length (scells (inoWordsB M))) := Lib.hid (by
        have h9 := HW.out
        rw [HL8.out, HR.out, HN2.out, show 8 - n2 = k3 by omega, show 8 = n2 + k3 by omega]
        exact ownE_mono h9 (by omega))
      clear HW
      go_wp2
      go_ret
      exact ⟨_, rfl, HW9.out, B0.out.trans (HB.out.mono (by omega))⟩

set_option maxRecDepth 100000 in
set_option maxHeartbeats 4000000 in
theorem implInoWords_dir (hz : -9223372036854775808 ≤ sz ∧ sz ≤ 9223372036854775807) (hs : SrcRec w aR nR R) (hf : FitRec R nR 2000000) (hs' : SrcEntry w aE nE E) (hf' : FitEntry E nE 2000000) (h : InoOk ⟨2, sz, gn, key, R, E⟩) :
    Calls Try.prog 31 #[.agg #[.int .i64 2, .int .i64 sz, .int .i64 gn, .string key, .slice aR nR cR, .slice aE nE cE]] w (GivesT (inoWordsB ⟨2, sz, gn, key, R, E⟩) w) := by
  obtain ⟨i0, hi, hz0, hz1, hz2⟩ := info_parts infoText
  obtain ⟨M, hM⟩ : ∃ M : InoR, (⟨2, sz, gn, key, R, E⟩ : InoR) = M := ⟨_, rfl⟩
  have hlR : M.R.length = nR := by rw [← hM]; exact hs.len
  have hlE : M.E.length = nE := by rw [← hM]; exact hs'.len
  have hMR : M.R = R := by rw [← hM]
  have hME : M.E = E := by rw [← hM]
  have hl8 : (wordsI M).length ≤ 8 := wordsI_le (by rw [← hM]; exact h)
  have hlW : (wordsI M).length = 2 + nR + nE := by unfold wordsI; simp [hlR, hlE]; omega
  have HN := Lib.hid (inoB_yes h)
  have HR : Hid (inoWordsB M = fillTo M (8 - (2 + nR + nE))) := Lib.hid (by rw [← hlW]; exact inoWords_yes (by rw [← hM]; exact h))
  have HL8 : Hid ((inoWordsB M).length = 8) := Lib.hid (inoWords_length (by rw [← hM]; exact h))
  have HZ := Lib.hid hz
  have HF := Lib.hid hf
  have HF' := Lib.hid hf'
  have hgn := h.1
  have HGN : Hid (0 ≤ gn ∧ gn ≤ 65535) := Lib.hid hgn
  have hl8' : nR + nE ≤ 6 := by omega
  have hkind : Hid (nR = 0) := Lib.hid (by
    have x := (inoOk_dir (show 0 ≤ gn ∧ gn ≤ 65535 from h.1)).1 h
    have e1 := hs.len
    have e2 := hs'.len
    rw [← e1]; exact x.2.2.1)
  have B0 := Lib.hid (below_bk w (inoObj 2 sz gn key aR nR cR aE nE cE))
  have K0 := Lib.hid (Bk.alloc w (inoCs 2 sz gn key aR nR cR aE nE cE) 57)
  have N0 : Hid ((w.alloc (inoObj 2 sz gn key aR nR cR aE nE cE)).heap.size = w.heap.size + 1) := Lib.hid (by simp)
  have HS := Lib.hid (hs.below B0.out (Nat.le_refl _))
  have HS' := Lib.hid (hs'.below B0.out (Nat.le_refl _))
  have HLR := Lib.hid hlR
  have HLE := Lib.hid hlE
  have HMR := Lib.hid hMR
  have HME := Lib.hid hME
  have HE0 : Hid (headB M = wordB (numTextB 2 1 ++ numTextB sz 2 ++ numTextB gn 2)) := Lib.hid (by rw [← hM]; rfl)
  have HE1 : Hid (wordB M.key = wordB key) := Lib.hid (by rw [← hM])
  have HC : Hid (∀ W : World, Calls Try.prog 61 #[.agg #[.int .i64 2, .int .i64 sz, .int .i64 gn, .string key, .slice aR nR cR, .slice aE nE cE]] W fun e w' => e = .returned (.iface 92 (.agg #[.slice aE nE cE])) ∧ Below W.heap.size W w') := Lib.hid (fun W => implBody_any 2 sz gn key aR nR cR aE nE cE W)
  obtain ⟨A, hA⟩ : ∃ A, numTextB 2 1 = A := ⟨_, rfl⟩
  obtain ⟨D, hD⟩ : ∃ D, numTextB sz 2 = D := ⟨_, rfl⟩
  obtain ⟨G, hG⟩ : ∃ G, numTextB gn 2 = G := ⟨_, rfl⟩
  have hA1 : A.size ≤ 1 := by rw [← hA]; rcases numTextB_size 2 1 with e | e <;> rw [e] <;> decide
  have hD1 : D.size ≤ 2 := by rw [← hD]; rcases numTextB_size sz 2 with e | e <;> rw [e] <;> decide
  have hG1 : G.size ≤ 2 := by rw [← hG]; rcases numTextB_size gn 2 with e | e <;> rw [e] <;> decide
  have hAD : ¬ (9223372036854775807 < A.size + D.size) := by omega
  have hADG : ¬ (9223372036854775807 < A.size + D.size + G.size) := by omega
  rw [hA, hD, hG] at HE0
  have HA := Lib.hid hA
  have HD := Lib.hid hD
  have HG := Lib.hid hG
  rw [hM]
  clear hz hs hf hs' hf' h hA hD hG hM hMR hME hl8 hlW hlR hlE hgn
  go_enter Try.func31, Try.ntmps31
  go_wp2_with fail
  refine (implIno_any 2 sz gn key aR nR cR aE nE cE _ R E HZ.out (by omega) HS.out HF.out HS'.out HF'.out).mono ?_
  rw [HN.out]
  rintro e w1 ⟨rfl, hb1⟩
  have T0 := Lib.hid (K0.out.later hb1)
  have B1 : Hid (Below (w.heap.size + 1) (w.alloc (inoObj 2 sz gn key aR nR cR aE nE cE)) w1) := Lib.hid (by rw [N0.out] at hb1; exact hb1)
  clear hb1
  go_wp2
  have T0d := Lib.hid T0.out.drew
  have B1d := Lib.hid B1.out.drew
  go_region_held3 (fun w' => w'.cell? ⟨w.heap.size, 0, none⟩ = some (.int .i64 2) ∧ w'.cell? ⟨w.heap.size, 1, none⟩ = some (.int .i64 sz) ∧ w'.cell? ⟨w.heap.size, 2, none⟩ = some (.int .i64 gn))
    (first
      | exact ⟨T0d.out.cell rfl, T0d.out.cell rfl, T0d.out.cell rfl⟩
      | exact ⟨T2.out.cell rfl, T2.out.cell rfl, T2.out.cell rfl⟩
      | exact ⟨T3.out.cell rfl, T3.out.cell rfl, T3.out.cell rfl⟩
      | exact ⟨T4.out.cell rfl, T4.out.cell rfl, T4.out.cell rfl⟩
      | go_keep)
    (first
      | (go_at_call 54; (with_reducible refine (implNum_any 2 1 _ (by omega)).mono ?_); rw [HA.out]; rintro e w2 ⟨rfl, hb⟩; have T2 := Lib.hid (T0d.out.later hb); have B2 := Lib.hid (below_on B1d.out (by rw [N0.out]; exact Nat.le_refl _) hb); clear hb)
      | (go_at_call 54; (with_reducible refine (implNum_any sz 2 _ HZ.out.2).mono ?_); rw [HD.out]; rintro e w3 ⟨rfl, hb⟩; have T3 := Lib.hid (T2.out.later hb); have B3 := Lib.hid (below_on B2.out (by rw [N0.out]; exact Nat.le_refl _) hb); clear hb)
      | (go_at_call 54; (with_reducible refine (implNum_any gn 2 _ (by have := HGN.out.2; omega)).mono ?_); rw [HG.out]; rintro e w4 ⟨rfl, hb⟩; have T4 := Lib.hid (T3.out.later hb); have B4 := Lib.hid (below_on B3.out (by rw [N0.out]; exact Nat.le_refl _) hb); clear hb))
  go_wp2
  have T4d := Lib.hid T4.out.drew
  have B4d := Lib.hid B4.out.drew
  go_region_held3 (fun w' => w'.cell? ⟨w.heap.size, 3, none⟩ = some (.string key))
    (first
      | exact T4d.out.cell rfl
      | exact T5.out.cell rfl
      | exact T6.out.cell rfl
      | go_keep)
    (first
      | (go_at_call 53; (with_reducible refine (implWord_any (A ++ D ++ G) _).mono ?_); rw [← HE0.out]; rintro e w5 ⟨rfl, hb⟩; have T5 := Lib.hid (T4d.out.later hb); have B5 := Lib.hid (below_on B4d.out (by rw [N0.out]; exact Nat.le_refl _) hb); clear hb)
      | (go_at_call 53; (with_reducible refine (implWord_any key _).mono ?_); rintro e w6 ⟨rfl, hb⟩; have T6 := Lib.hid (T5.out.later hb); have B6 := Lib.hid (below_on B5.out (by rw [N0.out]; exact Nat.le_refl _) hb); clear hb))
  have S6 : Hid (w.heap.size + 1 ≤ w6.heap.size) := Lib.hid (by have := B6.out.size; rw [N0.out] at this; exact this)
  have H01 : Hid (scells (recsTo M 0) = [.string (headB M), .string (wordB key)]) := Lib.hid (by rw [recsTo_zero, HE1.out]; rfl)
  have HW0 : Hid ((w6.alloc (.cells #[.string (headB M), .string (wordB key)] 9)).ownsRow (w.heap.size + 1) 9 1 (.slice (some ⟨w6.heap.size, 0, none⟩) 2 2) 2 (scells (recsTo M 0))) := Lib.hid (by rw [H01.out]; exact World.ownsRow_lit w6 #[.string (headB M), .string (wordB key)] 2 S6.out (by decide) rfl)
  have B7 : Hid (Below (w.heap.size + 1) (w.alloc (inoObj 2 sz gn key aR nR cR aE nE cE)) (w6.alloc (.cells #[.string (headB M), .string (wordB key)] 9))) := Lib.hid (B6.out.alloc S6.out _)
  have T7 := Lib.hid (T6.out.later (below_bk w6 (.cells #[.string (headB M), .string (wordB key)] 9)))
  have c0 := T7.out.cell (j := 0) rfl
  have c1 := T7.out.cell (j := 1) rfl
  have c2 := T7.out.cell (j := 2) rfl
  have c3 := T7.out.cell (j := 3) rfl
  have c4 := T7.out.cell (j := 4) rfl
  have c5 := T7.out.cell (j := 5) rfl
  clear hAD hADG
  go_wp2_with fail
  refine (HC.out _).mono ?_
  rintro e w8 ⟨rfl, hb8⟩
  have B8 : Hid (Below (w.heap.size + 1) (w.alloc (inoObj 2 sz gn key aR nR cR aE nE cE)) w8) := Lib.hid (B7.out.trans (hb8.mono (by have := S6.out; simp; omega)))
  have S8 : Hid (w.heap.size + 1 ≤ w8.heap.size) := Lib.hid (by have h9 := hb8.size; have := S6.out; simp at h9; omega)
  have HW8 := Lib.hid (own_below HW0.out hb8)
  clear hb8 c0 c1 c2 c3 c4 c5
  have a1 := dir_no_file (.agg #[.slice aE nE cE]) w8
  have a2 := as_dir (.agg #[.slice aE nE cE]) w8
  have B9 : Hid (Below (w.heap.size + 1) (w.alloc (inoObj 2 sz gn key aR nR cR aE nE cE)) (w8.alloc (.cells #[.slice aE nE cE] 92))) := Lib.hid (B8.out.alloc S8.out _)
  have S9 : Hid (w.heap.size + 1 ≤ (w8.alloc (.cells #[.slice aE nE cE] 92)).heap.size) := Lib.hid (by have := S8.out; simp; omega)
  have HW9 := Lib.hid (HW8.out.alloc (.cells #[.slice aE nE cE] 92))
  have HFL : Hid (scells (recsTo M 0) ++ scells (E.map entryWordB) = scells (fillTo M 0)) := Lib.hid (by
    exact dir_fill HME.out (by rw [HLR.out]; exact hkind.out))
  go_wp2_with fail
  refine (appendEntrys_any (w.alloc (inoObj 2 sz gn key aR nR cR aE nE cE)) (w.heap.size + 1) _ 2 (scells (recsTo M 0)) aE nE cE E _ (by rw [N0.out]; exact Nat.le_refl _) B9.out S9.out HS'.out HF'.out (by omega) HW9.out).mono ?_
  rintro e w9 ⟨v9, rfl, hown9, hb9, hs9⟩
  rw [HFL.out] at hown9
  obtain ⟨n2, hn2⟩ : ∃ n2, 2 + nE = n2 := ⟨_, rfl⟩
  have HN2 : Hid (2 + nR + nE = n2) := Lib.hid (by rw [hkind.out]; omega)
  have hn8 : n2 ≤ 8 := by omega
  rw [hn2] at hown9
  have HWF := Lib.hid hown9
  have BF := Lib.hid hb9
  clear hown9 hb9 hs9 hn2
  go_wp2
  go_loopw [4] (fun v wr => ∃ k3, n2 + k3 ≤ 8 ∧ Hid (wr.ownsRow (w.heap.size + 1) 9 1 v (n2 + k3) (scells (fillTo M k3))) ∧ Hid (Below (w.heap.size + 1) (w.alloc (inoObj 2 sz gn key aR nR cR aE nE cE)) wr)) (fun v _ => 8 - rowLen v)
  case atStart => exact ⟨0, by omega, HWF, BF⟩
  case round =>
    obtain ⟨k3, hk3, HW, HB⟩ := hrel
    obtain ⟨ad, cap, rfl, hcap, hn, _⟩ := own_form HW.out
    by_cases hlt3 : n2 + k3 < 8
    · obtain ⟨T, hT⟩ : ∃ T, zeroB 8 = T := ⟨_, rfl⟩
      have HT := Lib.hid hT
      have HWN : Hid (scells (fillTo M k3) ++ [.string T] = scells (fillTo M (k3 + 1))) := Lib.hid (by rw [← fillTo_next, ← HT.out]; rfl)
      clear hT
      go_wp2_with (first
        | (go_at_call 70; (with_reducible refine (implZero_any 8 _).mono ?_); rw [HT.out]; rintro e wa ⟨rfl, hb1⟩
           have HW1 := Lib.hid (own_below HW.out hb1)
           have BG := Lib.hid (below_on HB.out (by rw [N0.out]; exact Nat.le_refl _) hb1)
           have BS : Hid (w.heap.size + 1 ≤ wa.heap.size) := Lib.hid (by have := BG.out.size; rw [N0.out] at this; exact this))
        | (at_builtin; refine wpList_append_own _ rfl (.tmp 46) (.tmp 48) 22 rfl (w.heap.size + 1) 9 i0 (.string ⟨#[]⟩) 1 16 Try.underlying22 hi hz0 hz1 hz2 rfl (by decide) _ _ _ rfl (HW1.out.alloc _) ⟨wa.heap.size, 0, none⟩ 1 1 [.string T] rfl rfl (World.news_of_block (heap_alloc_new _ _)) (by simp [Value.oneCell']) (by unfold maxLen; omega) (by omega) (by have := BS.out; simp; omega) ?_; intro v2 wb hown2 hgrow2 hn2))
      have BG3 := Lib.hid ((BG.out.alloc BS.out _).grown hgrow2 (by have := BS.out; simp; omega) (own_block_ge HW1.out))
      rw [HWN.out] at hown2
      have HO2 := Lib.hid hown2
      clear hown2 hgrow2 hn2 HW1 BG BS HB HW
      obtain ⟨ad2, cap2, rfl, hcap2, hn9, _⟩ := own_form HO2.out
      go_roundw
      case rel => exact ⟨k3 + 1, by omega, HO2, BG3⟩
      case measure => (simp [rowLen]; try omega)
    · have HW9 : Hid (wr.ownsRow w.heap.size 9 1 (.slice ad (n2 + k3) cap) (inoWordsB M).length (scells (inoWordsB M))) := Lib.hid (by
        have h9 := HW.out
        rw [HL8.out, HR.out, HN2.out, show 8 - n2 = k3 by omega, show 8 = n2 + k3 by omega]
        exact ownE_mono h9 (by omega))
      clear HW
      go_wp2
      go_ret
      exact ⟨_, rfl, HW9.out, B0.out.trans (HB.out.mono (by omega))⟩

set_option maxRecDepth 100000 in
set_option maxHeartbeats 4000000 in
theorem implInoWords_free (hz : -9223372036854775808 ≤ sz ∧ sz ≤ 9223372036854775807) (hs : SrcRec w aR nR R) (hf : FitRec R nR 2000000) (hs' : SrcEntry w aE nE E) (hf' : FitEntry E nE 2000000) (h : InoOk ⟨0, sz, gn, key, R, E⟩) :
    Calls Try.prog 31 #[.agg #[.int .i64 0, .int .i64 sz, .int .i64 gn, .string key, .slice aR nR cR, .slice aE nE cE]] w (GivesT (inoWordsB ⟨0, sz, gn, key, R, E⟩) w) := by
  obtain ⟨i0, hi, hz0, hz1, hz2⟩ := info_parts infoText
  obtain ⟨M, hM⟩ : ∃ M : InoR, (⟨0, sz, gn, key, R, E⟩ : InoR) = M := ⟨_, rfl⟩
  have hlR : M.R.length = nR := by rw [← hM]; exact hs.len
  have hlE : M.E.length = nE := by rw [← hM]; exact hs'.len
  have hMR : M.R = R := by rw [← hM]
  have hME : M.E = E := by rw [← hM]
  have hl8 : (wordsI M).length ≤ 8 := wordsI_le (by rw [← hM]; exact h)
  have hlW : (wordsI M).length = 2 + nR + nE := by unfold wordsI; simp [hlR, hlE]; omega
  have HN := Lib.hid (inoB_yes h)
  have HR : Hid (inoWordsB M = fillTo M (8 - (2 + nR + nE))) := Lib.hid (by rw [← hlW]; exact inoWords_yes (by rw [← hM]; exact h))
  have HL8 : Hid ((inoWordsB M).length = 8) := Lib.hid (inoWords_length (by rw [← hM]; exact h))
  have HZ := Lib.hid hz
  have HF := Lib.hid hf
  have HF' := Lib.hid hf'
  have hgn := h.1
  have HGN : Hid (0 ≤ gn ∧ gn ≤ 65535) := Lib.hid hgn
  have hl8' : nR + nE ≤ 6 := by omega
  have hkind : Hid (nR = 0 ∧ nE = 0) := Lib.hid (by
    have x := (inoOk_free (show 0 ≤ gn ∧ gn ≤ 65535 from h.1)).1 h
    have e1 := hs.len
    have e2 := hs'.len
    exact ⟨by rw [← e1]; exact x.2.2.1, by rw [← e2]; exact x.2.2.2⟩)
  have B0 := Lib.hid (below_bk w (inoObj 0 sz gn key aR nR cR aE nE cE))
  have K0 := Lib.hid (Bk.alloc w (inoCs 0 sz gn key aR nR cR aE nE cE) 57)
  have N0 : Hid ((w.alloc (inoObj 0 sz gn key aR nR cR aE nE cE)).heap.size = w.heap.size + 1) := Lib.hid (by simp)
  have HS := Lib.hid (hs.below B0.out (Nat.le_refl _))
  have HS' := Lib.hid (hs'.below B0.out (Nat.le_refl _))
  have HLR := Lib.hid hlR
  have HLE := Lib.hid hlE
  have HMR := Lib.hid hMR
  have HME := Lib.hid hME
  have HE0 : Hid (headB M = wordB (numTextB 0 1 ++ numTextB sz 2 ++ numTextB gn 2)) := Lib.hid (by rw [← hM]; rfl)
  have HE1 : Hid (wordB M.key = wordB key) := Lib.hid (by rw [← hM])
  have HC : Hid (∀ W : World, Calls Try.prog 61 #[.agg #[.int .i64 0, .int .i64 sz, .int .i64 gn, .string key, .slice aR nR cR, .slice aE nE cE]] W fun e w' => e = .returned (.iface 94 (.agg #[])) ∧ Below W.heap.size W w') := Lib.hid (fun W => implBody_any 0 sz gn key aR nR cR aE nE cE W)
  obtain ⟨A, hA⟩ : ∃ A, numTextB 0 1 = A := ⟨_, rfl⟩
  obtain ⟨D, hD⟩ : ∃ D, numTextB sz 2 = D := ⟨_, rfl⟩
  obtain ⟨G, hG⟩ : ∃ G, numTextB gn 2 = G := ⟨_, rfl⟩
  have hA1 : A.size ≤ 1 := by rw [← hA]; rcases numTextB_size 0 1 with e | e <;> rw [e] <;> decide
  have hD1 : D.size ≤ 2 := by rw [← hD]; rcases numTextB_size sz 2 with e | e <;> rw [e] <;> decide
  have hG1 : G.size ≤ 2 := by rw [← hG]; rcases numTextB_size gn 2 with e | e <;> rw [e] <;> decide
  have hAD : ¬ (9223372036854775807 < A.size + D.size) := by omega
  have hADG : ¬ (9223372036854775807 < A.size + D.size + G.size) := by omega
  rw [hA, hD, hG] at HE0
  have HA := Lib.hid hA
  have HD := Lib.hid hD
  have HG := Lib.hid hG
  rw [hM]
  clear hz hs hf hs' hf' h hA hD hG hM hMR hME hl8 hlW hlR hlE hgn
  go_enter Try.func31, Try.ntmps31
  go_wp2_with fail
  refine (implIno_any 0 sz gn key aR nR cR aE nE cE _ R E HZ.out (by omega) HS.out HF.out HS'.out HF'.out).mono ?_
  rw [HN.out]
  rintro e w1 ⟨rfl, hb1⟩
  have T0 := Lib.hid (K0.out.later hb1)
  have B1 : Hid (Below (w.heap.size + 1) (w.alloc (inoObj 0 sz gn key aR nR cR aE nE cE)) w1) := Lib.hid (by rw [N0.out] at hb1; exact hb1)
  clear hb1
  go_wp2
  have T0d := Lib.hid T0.out.drew
  have B1d := Lib.hid B1.out.drew
  go_region_held3 (fun w' => w'.cell? ⟨w.heap.size, 0, none⟩ = some (.int .i64 0) ∧ w'.cell? ⟨w.heap.size, 1, none⟩ = some (.int .i64 sz) ∧ w'.cell? ⟨w.heap.size, 2, none⟩ = some (.int .i64 gn))
    (first
      | exact ⟨T0d.out.cell rfl, T0d.out.cell rfl, T0d.out.cell rfl⟩
      | exact ⟨T2.out.cell rfl, T2.out.cell rfl, T2.out.cell rfl⟩
      | exact ⟨T3.out.cell rfl, T3.out.cell rfl, T3.out.cell rfl⟩
      | exact ⟨T4.out.cell rfl, T4.out.cell rfl, T4.out.cell rfl⟩
      | go_keep)
    (first
      | (go_at_call 54; (with_reducible refine (implNum_any 0 1 _ (by omega)).mono ?_); rw [HA.out]; rintro e w2 ⟨rfl, hb⟩; have T2 := Lib.hid (T0d.out.later hb); have B2 := Lib.hid (below_on B1d.out (by rw [N0.out]; exact Nat.le_refl _) hb); clear hb)
      | (go_at_call 54; (with_reducible refine (implNum_any sz 2 _ HZ.out.2).mono ?_); rw [HD.out]; rintro e w3 ⟨rfl, hb⟩; have T3 := Lib.hid (T2.out.later hb); have B3 := Lib.hid (below_on B2.out (by rw [N0.out]; exact Nat.le_refl _) hb); clear hb)
      | (go_at_call 54; (with_reducible refine (implNum_any gn 2 _ (by have := HGN.out.2; omega)).mono ?_); rw [HG.out]; rintro e w4 ⟨rfl, hb⟩; have T4 := Lib.hid (T3.out.later hb); have B4 := Lib.hid (below_on B3.out (by rw [N0.out]; exact Nat.le_refl _) hb); clear hb))
  go_wp2
  have T4d := Lib.hid T4.out.drew
  have B4d := Lib.hid B4.out.drew
  go_region_held3 (fun w' => w'.cell? ⟨w.heap.size, 3, none⟩ = some (.string key))
    (first
      | exact T4d.out.cell rfl
      | exact T5.out.cell rfl
      | exact T6.out.cell rfl
      | go_keep)
    (first
      | (go_at_call 53; (with_reducible refine (implWord_any (A ++ D ++ G) _).mono ?_); rw [← HE0.out]; rintro e w5 ⟨rfl, hb⟩; have T5 := Lib.hid (T4d.out.later hb); have B5 := Lib.hid (below_on B4d.out (by rw [N0.out]; exact Nat.le_refl _) hb); clear hb)
      | (go_at_call 53; (with_reducible refine (implWord_any key _).mono ?_); rintro e w6 ⟨rfl, hb⟩; have T6 := Lib.hid (T5.out.later hb); have B6 := Lib.hid (below_on B5.out (by rw [N0.out]; exact Nat.le_refl _) hb); clear hb))
  have S6 : Hid (w.heap.size + 1 ≤ w6.heap.size) := Lib.hid (by have := B6.out.size; rw [N0.out] at this; exact this)
  have H01 : Hid (scells (recsTo M 0) = [.string (headB M), .string (wordB key)]) := Lib.hid (by rw [recsTo_zero, HE1.out]; rfl)
  have HW0 : Hid ((w6.alloc (.cells #[.string (headB M), .string (wordB key)] 9)).ownsRow (w.heap.size + 1) 9 1 (.slice (some ⟨w6.heap.size, 0, none⟩) 2 2) 2 (scells (recsTo M 0))) := Lib.hid (by rw [H01.out]; exact World.ownsRow_lit w6 #[.string (headB M), .string (wordB key)] 2 S6.out (by decide) rfl)
  have B7 : Hid (Below (w.heap.size + 1) (w.alloc (inoObj 0 sz gn key aR nR cR aE nE cE)) (w6.alloc (.cells #[.string (headB M), .string (wordB key)] 9))) := Lib.hid (B6.out.alloc S6.out _)
  have T7 := Lib.hid (T6.out.later (below_bk w6 (.cells #[.string (headB M), .string (wordB key)] 9)))
  have c0 := T7.out.cell (j := 0) rfl
  have c1 := T7.out.cell (j := 1) rfl
  have c2 := T7.out.cell (j := 2) rfl
  have c3 := T7.out.cell (j := 3) rfl
  have c4 := T7.out.cell (j := 4) rfl
  have c5 := T7.out.cell (j := 5) rfl
  clear hAD hADG
  go_wp2_with fail
  refine (HC.out _).mono ?_
  rintro e w8 ⟨rfl, hb8⟩
  have B8 : Hid (Below (w.heap.size + 1) (w.alloc (inoObj 0 sz gn key aR nR cR aE nE cE)) w8) := Lib.hid (B7.out.trans (hb8.mono (by have := S6.out; simp; omega)))
  have S8 : Hid (w.heap.size + 1 ≤ w8.heap.size) := Lib.hid (by have h9 := hb8.size; have := S6.out; simp at h9; omega)
  have HW8 := Lib.hid (own_below HW0.out hb8)
  clear hb8 c0 c1 c2 c3 c4 c5
  have a1 := free_no_file (.agg #[]) w8
  have a2 := free_no_dir (.agg #[]) w8
  have HFL : Hid (scells (recsTo M 0) = scells (fillTo M 0)) := Lib.hid (by
    have h9 : recsTo M 0 = entsTo M 0 := by rw [← recsTo_all M, HLR.out, hkind.out.1]
    have h8 : entsTo M 0 = fillTo M 0 := by rw [← entsTo_all M, HLE.out, hkind.out.2]
    rw [h9, h8])
  obtain ⟨n2, hn2⟩ : ∃ n2, 2 = n2 := ⟨_, rfl⟩
  have HN2 : Hid (2 + nR + nE = n2) := Lib.hid (by rw [hkind.out.1, hkind.out.2]; exact hn2)
  have hn8 : n2 ≤ 8 := by omega
  have hown9 := HW8.out
  rw [HFL.out] at hown9
  have HWF : Hid (w8.ownsRow (w.heap.size + 1) 9 1 (.slice (some ⟨w6.heap.size, 0, none⟩) 2 2) (n2 + 0) (scells (fillTo M 0))) := Lib.hid (by rw [← hn2]; exact hown9)
  have BF := B8
  clear hown9 hn2
  go_wp2
  go_loopw [4] (fun v wr => ∃ k3, n2 + k3 ≤ 8 ∧ Hid (wr.ownsRow (w.heap.size + 1) 9 1 v (n2 + k3) (scells (fillTo M k3))) ∧ Hid (Below (w.heap.size + 1) (w.alloc (inoObj 0 sz gn key aR nR cR aE nE cE)) wr)) (fun v _ => 8 - rowLen v)
  case atStart => exact ⟨0, by omega, HWF, BF⟩
  case round =>
    obtain ⟨k3, hk3, HW, HB⟩ := hrel
    obtain ⟨ad, cap, rfl, hcap, hn, _⟩ := own_form HW.out
    by_cases hlt3 : n2 + k3 < 8
    · obtain ⟨T, hT⟩ : ∃ T, zeroB 8 = T := ⟨_, rfl⟩
      have HT := Lib.hid hT
      have HWN : Hid (scells (fillTo M k3) ++ [.string T] = scells (fillTo M (k3 + 1))) := Lib.hid (by rw [← fillTo_next, ← HT.out]; rfl)
      clear hT
      go_wp2_with (first
        | (go_at_call 70; (with_reducible refine (implZero_any 8 _).mono ?_); rw [HT.out]; rintro e wa ⟨rfl, hb1⟩
           have HW1 := Lib.hid (own_below HW.out hb1)
           have BG := Lib.hid (below_on HB.out (by rw [N0.out]; exact Nat.le_refl _) hb1)
           have BS : Hid (w.heap.size + 1 ≤ wa.heap.size) := Lib.hid (by have := BG.out.size; rw [N0.out] at this; exact this))
        | (at_builtin; refine wpList_append_own _ rfl (.tmp 46) (.tmp 48) 22 rfl (w.heap.size + 1) 9 i0 (.string ⟨#[]⟩) 1 16 Try.underlying22 hi hz0 hz1 hz2 rfl (by decide) _ _ _ rfl (HW1.out.alloc _) ⟨wa.heap.size, 0, none⟩ 1 1 [.string T] rfl rfl (World.news_of_block (heap_alloc_new _ _)) (by simp [Value.oneCell']) (by unfold maxLen; omega) (by omega) (by have := BS.out; simp; omega) ?_; intro v2 wb hown2 hgrow2 hn2))
      have BG3 := Lib.hid ((BG.out.alloc BS.out _).grown hgrow2 (by have := BS.out; simp; omega) (own_block_ge HW1.out))
      rw [HWN.out] at hown2
      have HO2 := Lib.hid hown2
      clear hown2 hgrow2 hn2 HW1 BG BS HB HW
      obtain ⟨ad2, cap2, rfl, hcap2, hn9, _⟩ := own_form HO2.out
      go_roundw
      case rel => exact ⟨k3 + 1, by omega, HO2, BG3⟩
      case measure => (simp [rowLen]; try omega)
    · have HW9 : Hid (wr.ownsRow w.heap.size 9 1 (.slice ad (n2 + k3) cap) (inoWordsB M).length (scells (inoWordsB M))) := Lib.hid (by
        have h9 := HW.out
        rw [HL8.out, HR.out, HN2.out, show 8 - n2 = k3 by omega, show 8 = n2 + k3 by omega]
        exact ownE_mono h9 (by omega))
      clear HW
      go_wp2
      go_ret
      exact ⟨_, rfl, HW9.out, B0.out.trans (HB.out.mono (by omega))⟩


set_option maxRecDepth 100000 in
set_option maxHeartbeats 1000000 in
theorem implInoWords_no (kd : Int) (hz : -9223372036854775808 ≤ sz ∧ sz ≤ 9223372036854775807) (hn : nE ≤ 9223372036854775807) (hs : SrcRec w aR nR R) (hf : FitRec R nR 2000000) (hs' : SrcEntry w aE nE E) (hf' : FitEntry E nE 2000000) (h : ¬ InoOk ⟨kd, sz, gn, key, R, E⟩) :
    Calls Try.prog 31 #[.agg #[.int .i64 kd, .int .i64 sz, .int .i64 gn, .string key, .slice aR nR cR, .slice aE nE cE]] w (GivesT [] w) := by
  have HN := Lib.hid (inoB_no h)
  have HZ := Lib.hid hz
  have HNE := Lib.hid hn
  have HF := Lib.hid hf
  have HF' := Lib.hid hf'
  have B0 := Lib.hid (below_bk w (inoObj kd sz gn key aR nR cR aE nE cE))
  have HS := Lib.hid (hs.below B0.out (Nat.le_refl _))
  have HS' := Lib.hid (hs'.below B0.out (Nat.le_refl _))
  clear hz hs hf hs' hf' h hn
  go_enter Try.func31, Try.ntmps31
  go_wp2_with fail
  refine (implIno_any kd sz gn key aR nR cR aE nE cE _ R E HZ.out HNE.out HS.out HF.out HS'.out HF'.out).mono ?_
  rw [HN.out]
  rintro e w1 ⟨rfl, hb1⟩
  have B1 : Hid (Below w.heap.size w w1) := Lib.hid (below_on B0.out (Nat.le_refl _) hb1)
  clear hb1
  go_wp2
  go_ret
  exact ⟨_, rfl, World.ownsRow_nil _ _ _ _, B1.out⟩

theorem implInoWords_any (kd : Int) (hz : -9223372036854775808 ≤ sz ∧ sz ≤ 9223372036854775807) (hn : nE ≤ 9223372036854775807) (hs : SrcRec w aR nR R) (hf : FitRec R nR 2000000) (hs' : SrcEntry w aE nE E) (hf' : FitEntry E nE 2000000) :
    Calls Try.prog 31 #[.agg #[.int .i64 kd, .int .i64 sz, .int .i64 gn, .string key, .slice aR nR cR, .slice aE nE cE]] w (GivesT (inoWordsB ⟨kd, sz, gn, key, R, E⟩) w) := by
  by_cases h : InoOk ⟨kd, sz, gn, key, R, E⟩
  · have h9 := h
    rcases h9 with ⟨_, ⟨e, _⟩ | ⟨e, _⟩ | ⟨e, _⟩⟩
    · obtain rfl : kd = 0 := e
      exact implInoWords_free sz gn key aR nR cR aE nE cE w R E hz hs hf hs' hf' h
    · obtain rfl : kd = 1 := e
      exact implInoWords_file sz gn key aR nR cR aE nE cE w R E hz hs hf hs' hf' h
    · obtain rfl : kd = 2 := e
      exact implInoWords_dir sz gn key aR nR cR aE nE cE w R E hz hs hf hs' hf' h
  · rw [inoWords_no h]
    exact implInoWords_no sz gn key aR nR cR aE nE cE w R E kd hz hn hs hf hs' hf' h
end
end Go.Proofs.Ytmkchilhnmkhkaa
namespace Go.Proofs.Ytmkchilhnmkhkaa
open Go.RowKit Go.Proofs.Ytmkchilhnmkhkaa.Parts Go.Proofs.Ytmkchilhnmkhkaa.Hexa

theorem cell_text {w : World} {a : Addr} {P : List ByteArray} {k : Nat} (hk : k < P.length) (h : w.cell? a = (scells P)[k]?) : w.cell? a = some (.string P[k]) := by
  rw [h]; simp [scells, hk]

set_option maxRecDepth 100000 in
set_option maxHeartbeats 1000000 in
theorem eqStrings_any (a1 a2 : Option Addr) (n c1 c2 : Nat) (P : List ByteArray) (w : World) (hP : P.length = n) (hn : n ≤ 100000000) (r1 : Reads w a1 (scells P)) (r2 : Reads w a2 (scells P)) :
    Calls Try.prog 13 #[.slice a1 n c1, .slice a2 n c2] w fun e w' => e = .returned (.bool true) ∧ ∃ m, w' = w.drewN m := by
  have HP := Lib.hid hP
  clear hP
  have R1 := Lib.hid r1
  have R2 := Lib.hid r2
  clear r1 r2
  go_enter Try.func13, Try.ntmps13
  go_wp2
  go_loopw [5] (fun iv wr => ∃ k m : Nat, k ≤ n ∧ iv = .int .i64 k ∧ wr = w.drewN m) (fun iv _ => n - (intOf iv).toNat)
  case atStart => exact ⟨0, 0, Nat.zero_le _, rfl, rfl⟩
  case round =>
    obtain ⟨k, m, hk, rfl, rfl⟩ := hrel
    by_cases hlt : k < n
    · obtain ⟨g1, rfl, e1⟩ := R1.out k (by have := HP.out; simp [scells]; omega)
      obtain ⟨g2, rfl, e2⟩ := R2.out k (by have := HP.out; simp [scells]; omega)
      have d1 := cell_text (by have := HP.out; omega) e1
      have d2 := cell_text (by have := HP.out; omega) e2
      obtain ⟨x, hx⟩ : ∃ x, P[k]'(by have := HP.out; omega) = x := ⟨_, rfl⟩
      rw [hx] at d1 d2
      clear e1 e2 hx
      go_wp2
      go_quiet (fail)
      go_wp2
      go_roundw
      case rel => exact ⟨k + 1, _, by omega, by go_num, rfl⟩
      case measure => (simp [intOf]; try omega)
    · obtain rfl : k = n := by omega
      go_wp2
      go_ret
      exact ⟨rfl, _, rfl⟩

end Go.Proofs.Ytmkchilhnmkhkaa
namespace Go.Proofs.Ytmkchilhnmkhkaa
open Go.RowKit Go.Proofs.Ytmkchilhnmkhkaa.Parts Go.Proofs.Ytmkchilhnmkhkaa.Hexa

theorem ret_i64' {a b : Int} (h : a = b) : Ending.returned (.int .i64 a) = .returned (.int .i64 b) := by rw [h]

/-- A row of ints as cells. -/
def icells (xs : List Int) : List Value := xs.map fun x => Value.int .i64 x
theorem icells_length (xs : List Int) : (icells xs).length = xs.length := by simp [icells]
theorem cell_int {w : World} {a : Addr} {P : List Int} {k : Nat} (hk : k < P.length) (h : w.cell? a = (icells P)[k]?) : w.cell? a = some (.int .i64 P[k]) := by
  rw [h]; simp [icells, hk]
end Go.Proofs.Ytmkchilhnmkhkaa
namespace Go.Proofs.Ytmkchilhnmkhkaa
open Go.RowKit Go.Proofs.Ytmkchilhnmkhkaa.Parts Go.Proofs.Ytmkchilhnmkhkaa.Hexa


/-- The first j texts are the marks from k on. -/
def Marked (xs : List Value) (k j : Nat) : Prop := ∀ t, t < j → xs[t]? = some (.string (markT (k + t)))
theorem Marked.step {xs : List Value} {k j : Nat} (h : Marked xs k j) (hj : j < xs.length) : Marked (xs.set j (.string (markT (k + j)))) k (j + 1) := by
  intro t ht
  by_cases e : t = j
  · subst e; simp [hj]
  · rw [List.getElem?_set_ne (by omega)]; exact h t (by omega)

def MarkPostS (base : Nat) (v : Value) (n k : Nat) (w : World) (e : Ending) (w' : World) : Prop :=
  ∃ ys, e = .returned (.int .i64 (k + n)) ∧ w'.ownsRow base 9 1 v n ys ∧ Marked ys k n ∧ Below base w w'

set_option maxRecDepth 100000 in
set_option maxHeartbeats 1000000 in
theorem markStrings_any (base : Nat) (v : Value) (n k : Nat) (xs : List Value) (w : World) (h0 : 0 < k) (hk : k + n ≤ 100000000) (hbase : base ≤ w.heap.size) (hown : w.ownsRow base 9 1 v n xs) :
    Calls Try.prog 33 #[v, .int .i64 k] w (MarkPostS base v n k w) := by
  obtain ⟨ad, cap, rfl, hcap, hnc, hr⟩ := own_form hown
  have HO := Lib.hid hown
  clear hown hr
  unfold maxLen at hcap
  go_enter Try.func33, Try.ntmps33
  go_wp2
  go_loopw [1, 5] (fun kv iv wr => ∃ (j q : Nat) (ys : List Value), j ≤ n ∧ q ≤ k + n ∧ 0 < q ∧ Hid (q = k + j) ∧ Hid (Marked ys k j) ∧ iv = .int .i64 j ∧ kv = .int .i64 q ∧ Hid (wr.ownsRow base 9 1 (.slice ad n cap) n ys) ∧ Below base w wr) (fun _ iv _ => n - (intOf iv).toNat)
  case atStart => exact ⟨0, k, xs, Nat.zero_le _, by omega, h0, Lib.hid rfl, Lib.hid (fun t ht => by omega), rfl, rfl, HO, Below.refl _ _⟩
  case round =>
    obtain ⟨j, q, ys, hj, hq, hq0, HQ, HM, rfl, rfl, HW, hbel⟩ := hrel
    by_cases hlt : j < n
    · have hl : ys.length = n := own_length HW.out
      obtain ⟨ad', cap', hv, _, _, hr⟩ := own_form HW.out
      obtain ⟨g, hg, hc⟩ := hr j (by omega)
      have hv' : ad = ad' := by simp at hv; exact hv.1
      subst hv'
      subst hg
      have hgb : base ≤ g := own_block_ge HW.out g rfl
      have hM1 := Lib.hid (HM.out.step (by omega))
      have HQ1 : Hid (markT q = markT (k + j)) := Lib.hid (by rw [HQ.out])
      clear hr hc hv HO
      go_wp2_with (go_at_call 73; refine (markText_any q _ hq0 (by omega)).mono ?_; rintro e w1 ⟨rfl, hb1⟩; have HW1 := Lib.hid (own_below HW.out hb1); obtain ⟨x, hx⟩ : ∃ x, w1.cell? ⟨g, j, none⟩ = some x := ⟨ys[j]'(by omega), by rw [HW1.out.cellAt j (by omega)]; simp [hl, hlt]⟩; have hfz := HW1.out.frozenAt j)
      have HS := Lib.hid (HW1.out.stored j (.string (markT q))).1
      have hb2 : Below base w (w1.setCell ⟨g, j, none⟩ (.string (markT q))) := (hbel.trans (hb1.mono (by have := hbel.size; omega))).setCell hgb _
      clear hx hfz hl
      go_roundw
      case rel => exact ⟨j + 1, q + 1, ys.set j (.string (markT q)), by omega, by have := HQ.out; omega, by omega, Lib.hid (by have := HQ.out; omega), by rw [HQ1.out]; exact hM1, by go_num, by go_num, HS, hb2⟩
      case measure => (simp [intOf]; try omega)
    · obtain rfl : j = n := by omega
      go_wp2
      go_ret
      exact ⟨ys, ret_i64' (by have := HQ.out; omega), HW.out, HM.out, hbel⟩

set_option maxRecDepth 100000 in
set_option maxHeartbeats 1000000 in
theorem heldStrings_any (base : Nat) (v : Value) (n k : Nat) (ys : List Value) (w : World) (h0 : 0 < k) (hk : k + n ≤ 100000000) (hown : w.ownsRow base 9 1 v n ys) (hm : Marked ys k n) :
    Calls Try.prog 34 #[v, .int .i64 k] w fun e w' => e = .returned (.int .i64 (k + n)) ∧ Below w.heap.size w w' := by
  obtain ⟨ad, cap, rfl, hcap, hnc, hr⟩ := own_form hown
  have hl := own_length hown
  have HR := Lib.hid hr
  have HM := Lib.hid hm
  have HL := Lib.hid hl
  clear hown hr hm hl
  unfold maxLen at hcap
  go_enter Try.func34, Try.ntmps34
  go_wp2
  go_loopw [1, 5] (fun kv iv wr => ∃ (j q : Nat), j ≤ n ∧ q ≤ k + n ∧ 0 < q ∧ Hid (q = k + j) ∧ iv = .int .i64 j ∧ kv = .int .i64 q ∧ Below w.heap.size w wr) (fun _ iv _ => n - (intOf iv).toNat)
  case atStart => exact ⟨0, k, Nat.zero_le _, by omega, h0, Lib.hid rfl, rfl, rfl, Below.refl _ _⟩
  case round =>
    obtain ⟨j, q, hj, hq, hq0, HQ, rfl, rfl, hbel⟩ := hrel
    by_cases hlt : j < n
    · obtain ⟨g, rfl, hc⟩ := HR.out j (by have := HL.out; omega)
      have hgb : g < w.heap.size := by
        have e : ∃ x, w.cell? ⟨g, j, none⟩ = some x := ⟨_, by rw [hc, HM.out j hlt]⟩
        obtain ⟨x, hx⟩ := e
        rcases Nat.lt_or_ge g w.heap.size with h | h
        · exact h
        · simp [World.cell?, Array.getElem?_eq_none h] at hx
      have hc0 : wr.cell? ⟨g, j, none⟩ = some (.string (markT q)) := by rw [hbel.cell (by exact hgb), hc, HM.out j hlt, HQ.out]
      clear hc
      go_wp2
      go_region_with (go_at_call 73; refine (markText_any q _ hq0 (by omega)).mono ?_; rintro e w1 ⟨rfl, hb1⟩; have hc1 : w1.cell? ⟨g, j, none⟩ = some (.string (markT q)) := (hb1.cell (by have := hbel.size; simp; omega)).trans hc0)
      all_goals
        have hb2 : Below w.heap.size w w1 := hbel.drew.trans (hb1.mono hbel.size)
        clear hc1 hc0
        go_wp2
        go_roundw
        case rel => exact ⟨j + 1, q + 1, by omega, by have := HQ.out; omega, by omega, Lib.hid (by have := HQ.out; omega), by go_num, by go_num, hb2⟩
        case measure => (simp [intOf]; try omega)
    · obtain rfl : j = n := by omega
      go_wp2
      go_ret
      exact ⟨ret_i64' (by have := HQ.out; omega), hbel⟩
end Go.Proofs.Ytmkchilhnmkhkaa


namespace Go.Proofs.Ytmkchilhnmkhkaa
open Go.RowKit Go.Proofs.Ytmkchilhnmkhkaa.Parts Go.Proofs.Ytmkchilhnmkhkaa.Hexa Go.Proofs.Ytmkchilhnmkhkaa.Byt

theorem inoWords_le (n : InoR) : (inoWordsB n).length ≤ 8 := by
  by_cases h : InoOk n
  · rw [inoWords_length h]; exact Nat.le_refl _
  · rw [inoWords_no h]; exact Nat.zero_le _
set_option maxRecDepth 100000 in
set_option maxHeartbeats 4000000 in
theorem inoWords_law (kd sz gn : Int) (key : ByteArray) (aR : Option Addr) (nR cR : Nat) (aE : Option Addr) (nE cE : Nat) (R : List RecR) (E : List EntryR) (w : World) (hz : -9223372036854775808 ≤ sz ∧ sz ≤ 9223372036854775807) (hk : key.size ≤ maxLen) (hs : SrcRec w aR nR R) (hm : FitRec R nR maxLen) (hn : nR ≤ 9223372036854775807) (hs' : SrcEntry w aE nE E) (hm' : FitEntry E nE maxLen) (hn' : nE ≤ 9223372036854775807) :
    Calls Try.prog 8 #[.agg #[.int .i64 kd, .int .i64 sz, .int .i64 gn, .string key, .slice aR nR cR, .slice aE nE cE]] w fun e w' => e = .returned (.bool true) ∧ Below w.heap.size w w' := by
  have HZ := Lib.hid hz
  have HK := Lib.hid hk
  have HS := Lib.hid hs
  have HM := Lib.hid hm
  have HN := Lib.hid hn
  have HS' := Lib.hid hs'
  have HM' := Lib.hid hm'
  have HN' := Lib.hid hn'
  have T0 := Lib.hid (Bk.alloc w #[.int .i64 kd, .int .i64 sz, .int .i64 gn, .string key, .slice aR nR cR, .slice aE nE cE] 51)
  have B0 := Lib.hid (below_bk w (.cells #[.int .i64 kd, .int .i64 sz, .int .i64 gn, .string key, .slice aR nR cR, .slice aE nE cE] 51))
  obtain ⟨P, hP⟩ : ∃ P, inoWordsB ⟨kd, sz, gn, key, R, E⟩ = P := ⟨_, rfl⟩
  have hP8 : P.length ≤ 8 := by rw [← hP]; exact inoWords_le _
  have HP := Lib.hid hP
  clear hP
  clear hz hk hs hm hn hs' hm' hn'
  go_enter Try.func8, Try.ntmps8
  go_wp2_with fail
  refine (szIno_any kd sz gn key aR nR cR aE nE cE R E _ HK.out (HS.out.later B0.out) HN.out HM.out (HS'.out.later B0.out) HN'.out HM'.out).mono ?_
  rintro e w1 ⟨r, rfl, hr | ⟨h0, _, hn2, hf2, hn3, hf3⟩, hb1⟩
  · go_wp2
    go_ret
    exact ⟨rfl, B0.out.trans (hb1.mono B0.out.size)⟩
  have T1 := Lib.hid (T0.out.later hb1)
  have B1 : Hid (Below w.heap.size w w1) := Lib.hid (B0.out.trans (hb1.mono B0.out.size))
  have HF : Hid (FitRec R nR 2000000) := Lib.hid (fun j hj => Nat.le_trans (hf2 j hj) (by decide))
  have HF' : Hid (FitEntry E nE 2000000) := Lib.hid (fun j hj => Nat.le_trans (hf3 j hj) (by decide))
  have hr : ¬ (r < 0) := by omega
  have c0 := T1.out.cell (j := 0) rfl
  have c1 := T1.out.cell (j := 1) rfl
  have c2 := T1.out.cell (j := 2) rfl
  have c3 := T1.out.cell (j := 3) rfl
  have c4 := T1.out.cell (j := 4) rfl
  have c5 := T1.out.cell (j := 5) rfl
  clear hb1 hf2 hf3 h0
  go_wp2_with fail
  clear c0 c1 c2 c3 c4 c5
  refine (toIno_any kd sz gn key aR nR cR aE nE cE R E _ (HS.out.later B1.out) hn2 (HS'.out.later B1.out) hn3).mono ?_
  rintro e w2 ⟨gR, gE, rfl, hg1, hg2, hg3, hoR, hoE, hb2⟩
  have T2 := Lib.hid (T1.out.later hb2)
  have B2 : Hid (Below w.heap.size w w2) := Lib.hid (B1.out.trans (hb2.mono B1.out.size))
  have S2 := Lib.hid (srcRec_of_own hoR)
  have V2 := Lib.hid (srcEntry_of_own hoE)
  clear hoR hoE hb2 hg1 hg2 hg3
  go_wp2_with fail
  refine (specInoWords_any kd sz gn key _ nR nR _ nE nE _ R E HZ.out S2.out HF.out V2.out HF'.out).mono ?_
  rw [HP.out]
  rintro e w3 ⟨v3, rfl, ho3, hb3⟩
  obtain ⟨ad3, cp3, rfl, _, _, _⟩ := own_form ho3
  have T3 := Lib.hid (T2.out.later hb3)
  have B3 : Hid (Below w.heap.size w w3) := Lib.hid (B2.out.trans (hb3.mono B2.out.size))
  have L9 : Hid (∀ g, (Value.slice ad3 P.length cp3).ownBlock = some g → g < w3.heap.size) := Lib.hid (fun g hg => (ho3.lt g hg).2)
  have O3 := Lib.hid ho3
  clear hb3 ho3
  have c0 := T3.out.cell (j := 0) rfl
  have c1 := T3.out.cell (j := 1) rfl
  have c2 := T3.out.cell (j := 2) rfl
  have c3 := T3.out.cell (j := 3) rfl
  have c4 := T3.out.cell (j := 4) rfl
  have c5 := T3.out.cell (j := 5) rfl
  go_wp2_with fail
  clear c0 c1 c2 c3 c4 c5
  refine (toIno_any kd sz gn key aR nR cR aE nE cE R E _ (HS.out.later B3.out) hn2 (HS'.out.later B3.out) hn3).mono ?_
  rintro e w4 ⟨gR, gE, rfl, hg1, hg2, hg3, hoR, hoE, hb4⟩
  have hba := below_bk w4 (.cells #[.int .i64 kd, .int .i64 sz, .int .i64 gn, .string key, .slice (some ⟨gR, 0, none⟩) nR nR, .slice (some ⟨gE, 0, none⟩) nE nE] 57)
  have T5 := Lib.hid ((T3.out.later hb4).later hba)
  have X5 := Lib.hid (Bk.alloc w4 #[.int .i64 kd, .int .i64 sz, .int .i64 gn, .string key, .slice (some ⟨gR, 0, none⟩) nR nR, .slice (some ⟨gE, 0, none⟩) nE nE] 57)
  have OR5 := Lib.hid (own_below hoR hba)
  have OE5 := Lib.hid (own_below hoE hba)
  have B5 : Hid (Below w.heap.size w (w4.alloc (.cells #[.int .i64 kd, .int .i64 sz, .int .i64 gn, .string key, .slice (some ⟨gR, 0, none⟩) nR nR, .slice (some ⟨gE, 0, none⟩) nE nE] 57))) := Lib.hid (B3.out.trans ((hb4.trans (hba.mono hb4.size)).mono B3.out.size))
  have L3 : Hid (w.heap.size < w3.heap.size) := Lib.hid T3.out.lt
  have G4 : Hid (w3.heap.size ≤ gR ∧ gR < gE ∧ gE < w4.heap.size) := Lib.hid ⟨hg1, hg2, hg3⟩
  obtain ⟨bx, hbx⟩ : ∃ b, w4.heap.size = b := ⟨_, rfl⟩
  have HBX := Lib.hid hbx
  have O5 := Lib.hid (own_below (own_below O3.out hb4) hba)
  clear hg1 hg2 hg3 hoR hoE hb4 hba
  go_wp2_with fail
  rw [hbx] at X5
  obtain ⟨w5, h5⟩ : ∃ x, x = w4.alloc (.cells #[.int .i64 kd, .int .i64 sz, .int .i64 gn, .string key, .slice (some ⟨gR, 0, none⟩) nR nR, .slice (some ⟨gE, 0, none⟩) nE nE] 57) := ⟨_, rfl⟩
  have S5 : Hid (w5.heap.size = bx + 1) := Lib.hid (by rw [h5, ← hbx]; simp)
  clear hbx
  rw [← h5] at T5 X5 OR5 OE5 B5 O5 ⊢
  clear h5
  refine (implInoWords_any sz gn key _ nR nR _ nE nE _ R E kd HZ.out (by omega) (srcRec_of_own OR5.out) HF.out (srcEntry_of_own OE5.out) HF'.out).mono ?_
  rw [HP.out]
  rintro e w6 ⟨v6, rfl, ho6, hb6⟩
  obtain ⟨ad6, cp6, rfl, _, _, _⟩ := own_form ho6
  have L6 : Hid (∀ g, (Value.slice ad6 P.length cp6).ownBlock = some g → bx + 1 ≤ g ∧ g < w6.heap.size) := Lib.hid (fun g hg => by have h9 := ho6.lt g hg; have := S5.out; omega)
  have L56 : Hid (bx + 1 ≤ w6.heap.size) := Lib.hid (by have := hb6.size; have := S5.out; omega)
  have T6 := Lib.hid (T5.out.later hb6)
  have X6 := Lib.hid (X5.out.later hb6)
  have OR6 := Lib.hid (own_below OR5.out hb6)
  have OE6 := Lib.hid (own_below OE5.out hb6)
  have O6 := Lib.hid (own_below O5.out hb6)
  have Q6 := Lib.hid ho6
  have B6 : Hid (Below w.heap.size w w6) := Lib.hid (B5.out.trans (hb6.mono B5.out.size))
  clear hb6 ho6 T5 X5 OR5 OE5 O5
  go_wp2_with fail
  refine (eqStrings_any ad6 ad3 P.length cp6 cp3 P _ rfl (by omega) (own_reads Q6.out) (own_reads O6.out)).mono ?_
  rintro e w7 ⟨rfl, m7, hm7⟩
  have T7 : Hid (Bk w7 w.heap.size #[.int .i64 kd, .int .i64 sz, .int .i64 gn, .string key, .slice aR nR cR, .slice aE nE cE] 51) := Lib.hid (by rw [hm7]; exact T6.out)
  have X7 : Hid (Bk w7 bx #[.int .i64 kd, .int .i64 sz, .int .i64 gn, .string key, .slice (some ⟨gR, 0, none⟩) nR nR, .slice (some ⟨gE, 0, none⟩) nE nE] 57) := Lib.hid (by rw [hm7]; exact X6.out)
  have OR7 : Hid (w7.ownsRow w3.heap.size 83 3 (.slice (some ⟨gR, 0, none⟩) nR nR) nR (cellsE encRec R)) := Lib.hid (by rw [hm7]; exact OR6.out)
  have OE7 : Hid (w7.ownsRow w3.heap.size 45 2 (.slice (some ⟨gE, 0, none⟩) nE nE) nE (cellsE encEntry E)) := Lib.hid (by rw [hm7]; exact OE6.out)
  have O7 : Hid (w7.ownsRow w2.heap.size 9 1 (.slice ad3 P.length cp3) P.length (scells P)) := Lib.hid (by rw [hm7]; exact O6.out)
  have Q7 : Hid (w7.ownsRow w5.heap.size 9 1 (.slice ad6 P.length cp6) P.length (scells P)) := Lib.hid (by rw [hm7]; exact Q6.out)
  have B7 : Hid (Below w.heap.size w w7) := Lib.hid (by rw [hm7]; exact below_drewsN B6.out m7)
  have L7 : Hid (bx + 1 ≤ w7.heap.size) := Lib.hid (by rw [hm7]; exact L56.out)
  have L67 : Hid (w6.heap.size = w7.heap.size) := Lib.hid (by rw [hm7]; rfl)
  clear hm7 T6 X6 OR6 OE6 O6 Q6
  go_wp2
  have X7d := Lib.hid X7.out.drew
  have T7d := Lib.hid T7.out.drew
  have B7d := Lib.hid B7.out.drew
  have OR7d : Hid (w7.drew.ownsRow w3.heap.size 83 3 (.slice (some ⟨gR, 0, none⟩) nR nR) nR (cellsE encRec R)) := OR7
  have OE7d : Hid (w7.drew.ownsRow w3.heap.size 45 2 (.slice (some ⟨gE, 0, none⟩) nE nE) nE (cellsE encEntry E)) := OE7
  go_region_held3 (fun w' => w'.cell? ⟨bx, 0, none⟩ = some (.int .i64 kd) ∧ w'.cell? ⟨bx, 1, none⟩ = some (.int .i64 sz) ∧ w'.cell? ⟨bx, 2, none⟩ = some (.int .i64 gn) ∧ w'.cell? ⟨bx, 3, none⟩ = some (.string key) ∧ w'.cell? ⟨bx, 4, none⟩ = some (.slice (some ⟨gR, 0, none⟩) nR nR) ∧ w'.cell? ⟨bx, 5, none⟩ = some (.slice (some ⟨gE, 0, none⟩) nE nE) ∧ w'.cell? ⟨w.heap.size, 0, none⟩ = some (.int .i64 kd) ∧ w'.cell? ⟨w.heap.size, 1, none⟩ = some (.int .i64 sz) ∧ w'.cell? ⟨w.heap.size, 2, none⟩ = some (.int .i64 gn) ∧ w'.cell? ⟨w.heap.size, 3, none⟩ = some (.string key) ∧ w'.cell? ⟨w.heap.size, 4, none⟩ = some (.slice aR nR cR) ∧ w'.cell? ⟨w.heap.size, 5, none⟩ = some (.slice aE nE cE))
    (first
      | exact ⟨X7d.out.cell rfl, X7d.out.cell rfl, X7d.out.cell rfl, X7d.out.cell rfl, X7d.out.cell rfl, X7d.out.cell rfl, T7d.out.cell rfl, T7d.out.cell rfl, T7d.out.cell rfl, T7d.out.cell rfl, T7d.out.cell rfl, T7d.out.cell rfl⟩
      | exact ⟨X8.out.cell rfl, X8.out.cell rfl, X8.out.cell rfl, X8.out.cell rfl, X8.out.cell rfl, X8.out.cell rfl, T8.out.cell rfl, T8.out.cell rfl, T8.out.cell rfl, T8.out.cell rfl, T8.out.cell rfl, T8.out.cell rfl⟩
      | exact ⟨X9.out.cell rfl, X9.out.cell rfl, X9.out.cell rfl, X9.out.cell rfl, X9.out.cell rfl, X9.out.cell rfl, T9.out.cell rfl, T9.out.cell rfl, T9.out.cell rfl, T9.out.cell rfl, T9.out.cell rfl, T9.out.cell rfl⟩
      | go_keep)
    (first
      | (go_at_call 27; (with_reducible refine (toIno_any kd sz gn key aR nR cR aE nE cE R E _ (HS.out.later B7d.out) hn2 (HS'.out.later B7d.out) hn3).mono ?_); rintro e w8 ⟨hR8, hE8, rfl, _, _, _, hoR, hoE, hb⟩; have X8 := Lib.hid (X7d.out.later hb); have T8 := Lib.hid (T7d.out.later hb); have B8 : Hid (Below w.heap.size w w8) := Lib.hid (B7d.out.trans (hb.mono B7d.out.size)); have S8 := Lib.hid (srcRec_of_own hoR); have V8 := Lib.hid (srcEntry_of_own hoE); have OR8 := Lib.hid (own_below OR7d.out hb); have OE8 := Lib.hid (own_below OE7d.out hb); have E8 : Hid (Below w7.heap.size w7 w8) := Lib.hid ((Below.refl w7.heap.size w7).drew.trans hb); clear hb hoR hoE)
      | (go_at_call 29; (with_reducible refine (eqIno_any kd sz gn key _ nR _ _ nE _ _ _ _ _ R E _ (by omega) (by omega) (srcRec_of_own OR8.out) S8.out (srcEntry_of_own OE8.out) V8.out).mono ?_); rintro e w9 ⟨rfl, hb⟩; have X9 := Lib.hid (X8.out.later hb); have T9 := Lib.hid (T8.out.later hb); have B9 : Hid (Below w.heap.size w w9) := Lib.hid (B8.out.trans (hb.mono B8.out.size)); have OR9 := Lib.hid (own_below OR8.out hb); have OE9 := Lib.hid (own_below OE8.out hb); have E9 : Hid (Below w7.heap.size w7 w9) := Lib.hid (E8.out.trans (hb.mono E8.out.size)); clear hb))
  have O9 := Lib.hid (own_below O7.out E9.out)
  have Q9 := Lib.hid (own_below Q7.out E9.out)
  have L79 : Hid (w6.heap.size ≤ w9.heap.size) := Lib.hid (by have := E9.out.size; have := L67.out; omega)
  have M9 : Hid (w3.heap.size ≤ w9.heap.size) := Lib.hid (by have := L79.out; have := L56.out; have := G4.out; have := HBX.out; omega)
  have HNE : Hid (∀ g, (Value.slice (some (⟨gR, 0, none⟩ : Addr)) nR nR).ownBlock = some g → (Value.slice (some (⟨gE, 0, none⟩ : Addr)) nE nE).ownBlock ≠ some g) := Lib.hid (fun g h1 h2 => by
    have e1 : gR = g := Option.some.inj h1
    have e2 : gE = g := Option.some.inj h2
    have := G4.out; omega)
  have vRn : ∀ g, g ≠ gR → (Value.slice (some (⟨gR, 0, none⟩ : Addr)) nR nR).ownBlock ≠ some g := fun g hg h => hg (Option.some.inj h).symm
  have vEn : ∀ g, g ≠ gE → (Value.slice (some (⟨gE, 0, none⟩ : Addr)) nE nE).ownBlock ≠ some g := fun g hg h => hg (Option.some.inj h).symm
  have VR := Lib.hid vRn
  have VE := Lib.hid vEn
  clear vRn vEn
  have c0 := X9.out.cell (j := 0) rfl
  have c1 := X9.out.cell (j := 1) rfl
  have c2 := X9.out.cell (j := 2) rfl
  have c3 := X9.out.cell (j := 3) rfl
  have c4 := X9.out.cell (j := 4) rfl
  have c5 := X9.out.cell (j := 5) rfl
  go_wp2_with fail
  clear c0 c1 c2 c3 c4 c5
  obtain ⟨k1, hk1⟩ : ∃ k1, 1 + 3 * nR + 2 * nE = k1 := ⟨_, rfl⟩
  have HMI := Lib.hid (markIno_any kd sz gn key w3.heap.size (.slice (some ⟨gR, 0, none⟩) nR nR) (.slice (some ⟨gE, 0, none⟩) nE nE) nR nE 1 _ _ w9 M9.out (by decide) (by omega) OR9.out OE9.out HNE.out)
  refine HMI.out.mono ?_
  unfold MarksIno
  rw [hk1]
  rintro e w10 ⟨rfl, hb10, ha10, _, _⟩
  have T10 := Lib.hid (ha10.bk T9.out (VR.out _ (by have := L3.out; have := G4.out; omega)) (VE.out _ (by have := L3.out; have := G4.out; omega)))
  have O10 := Lib.hid (ha10.own O9.out (fun g hg => VR.out g (by have := L9.out g hg; have := G4.out; omega)) (fun g hg => VE.out g (by have := L9.out g hg; have := G4.out; omega)))
  have Q10 := Lib.hid (ha10.own Q9.out (fun g hg => VR.out g (by have := (L6.out g hg).1; have := G4.out; have := HBX.out; omega)) (fun g hg => VE.out g (by have := (L6.out g hg).1; have := G4.out; have := HBX.out; omega)))
  have B10 : Hid (Below w.heap.size w w10) := Lib.hid (B9.out.trans (hb10.mono (by have := L3.out; omega)))
  have L10 : Hid (w6.heap.size ≤ w10.heap.size) := Lib.hid (Nat.le_trans L79.out hb10.size)
  have hk1p : ¬ ((k1 : Int) < 0) := by omega
  clear hk1 hb10 ha10
  go_wp2_with fail
  refine (eqStrings_any ad6 ad3 P.length cp6 cp3 P _ rfl (by omega) (own_reads Q10.out) (own_reads O10.out)).mono ?_
  rintro e w11 ⟨rfl, m11, hm11⟩
  have T11 : Hid (Bk w11 w.heap.size #[.int .i64 kd, .int .i64 sz, .int .i64 gn, .string key, .slice aR nR cR, .slice aE nE cE] 51) := Lib.hid (by rw [hm11]; exact T10.out)
  have O11 : Hid (w11.ownsRow w2.heap.size 9 1 (.slice ad3 P.length cp3) P.length (scells P)) := Lib.hid (by rw [hm11]; exact O10.out)
  have Q11 : Hid (w11.ownsRow w5.heap.size 9 1 (.slice ad6 P.length cp6) P.length (scells P)) := Lib.hid (by rw [hm11]; exact Q10.out)
  have B11 : Hid (Below w.heap.size w w11) := Lib.hid (by rw [hm11]; exact below_drewsN B10.out m11)
  have L11 : Hid (w5.heap.size ≤ w11.heap.size) := Lib.hid (by rw [hm11]; have h9 := L10.out; have := L56.out; have := S5.out; show w5.heap.size ≤ w10.heap.size; omega)
  clear hm11 T10 O10 Q10
  go_wp2_with fail
  refine (markStrings_any w5.heap.size _ P.length 1 (scells P) w11 (by decide) (by omega) L11.out Q11.out).mono ?_
  rintro e w12 ⟨ys, rfl, hq12, hm12, hb12⟩
  have T12 := Lib.hid (T11.out.under hb12 (by have := S5.out; have := HBX.out; have := L3.out; have := G4.out; omega))
  have O12 := Lib.hid (ownE_left O11.out hb12 (fun g hg => by have := L9.out g hg; have := S5.out; have := HBX.out; have := G4.out; omega))
  have Q12 := Lib.hid hq12
  have M12 := Lib.hid hm12
  have B12 : Hid (Below w.heap.size w w12) := Lib.hid (B11.out.trans (hb12.mono (by have := S5.out; have := HBX.out; have := L3.out; have := G4.out; omega)))
  have hpos : ¬ ((1 : Int) + (P.length : Int) < 0) := by omega
  clear hq12 hm12 hb12 T11 O11 Q11
  go_wp2_with fail
  refine (heldStrings_any w5.heap.size _ P.length 1 ys _ (by decide) (by omega) Q12.out M12.out).mono ?_
  rintro e w13 ⟨rfl, hb13⟩
  have T13 := Lib.hid (T12.out.later hb13)
  have O13 := Lib.hid (own_below O12.out hb13)
  have Q13 := Lib.hid (own_below Q12.out hb13)
  have B13 : Hid (Below w.heap.size w w13) := Lib.hid (B12.out.trans (hb13.mono B12.out.size))
  clear hb13 T12 O12 Q12
  have c0 := T13.out.cell (j := 0) rfl
  have c1 := T13.out.cell (j := 1) rfl
  have c2 := T13.out.cell (j := 2) rfl
  have c3 := T13.out.cell (j := 3) rfl
  have c4 := T13.out.cell (j := 4) rfl
  have c5 := T13.out.cell (j := 5) rfl
  go_wp2_with fail
  clear c0 c1 c2 c3 c4 c5
  refine (toIno_any kd sz gn key aR nR cR aE nE cE R E _ (HS.out.later B13.out) hn2 (HS'.out.later B13.out) hn3).mono ?_
  rintro e w14 ⟨gR2, gE2, rfl, _, _, _, hoR, hoE, hb14⟩
  have S14 := Lib.hid (srcRec_of_own hoR)
  have V14 := Lib.hid (srcEntry_of_own hoE)
  have O14 := Lib.hid (own_below O13.out hb14)
  have Q14 := Lib.hid (own_below Q13.out hb14)
  have B14 : Hid (Below w.heap.size w w14) := Lib.hid (B13.out.trans (hb14.mono B13.out.size))
  clear hoR hoE hb14 T13 O13 Q13
  go_wp2_with fail
  refine (implInoWords_any sz gn key _ nR nR _ nE nE _ R E kd HZ.out (by omega) S14.out HF.out V14.out HF'.out).mono ?_
  rw [HP.out]
  rintro e w15 ⟨v15, rfl, ho15, hb15⟩
  obtain ⟨ad15, cp15, rfl, _, _, _⟩ := own_form ho15
  have O15 := Lib.hid (own_below O14.out hb15)
  have Q15 := Lib.hid (own_below Q14.out hb15)
  have P15 := Lib.hid ho15
  have B15 : Hid (Below w.heap.size w w15) := Lib.hid (B14.out.trans (hb15.mono B14.out.size))
  clear ho15 hb15 O14 Q14
  go_wp2_with fail
  refine (eqStrings_any ad15 ad3 P.length cp15 cp3 P _ rfl (by omega) (own_reads P15.out) (own_reads O15.out)).mono ?_
  rintro e w16 ⟨rfl, m16, hm16⟩
  have Q16 : Hid (w16.ownsRow w5.heap.size 9 1 (.slice ad6 P.length cp6) P.length ys) := Lib.hid (by rw [hm16]; exact Q15.out)
  have B16 : Hid (Below w.heap.size w w16) := Lib.hid (by rw [hm16]; exact below_drewsN B15.out m16)
  clear hm16 O15 Q15 P15
  go_wp2_with fail
  refine (heldStrings_any w5.heap.size _ P.length 1 ys _ (by decide) (by omega) Q16.out M12.out).mono ?_
  rintro e w17 ⟨rfl, hb17⟩
  have B17 : Hid (Below w.heap.size w w17) := Lib.hid (B16.out.trans (hb17.mono B16.out.size))
  clear hb17
  go_wp2
  go_ret
  exact ⟨rfl, B17.out⟩
end Go.Proofs.Ytmkchilhnmkhkaa
namespace Go.Proofs.Ytmkchilhnmkhkaa
open Go.Joins Go.ChangeShapes Go.WideShapes

set_option maxRecDepth 100000 in
theorem cellsRecT : Try.prog.cellsOf 115 = 3 := by kernel_rfl
set_option maxRecDepth 100000 in
theorem cellsEntryT : Try.prog.cellsOf 42 = 2 := by kernel_rfl
set_option maxRecDepth 100000 in
theorem rec_of_trod {H : Type} {enc : TypeId × Value → H} {W : World} {sp : Nat → Bool} {held : Bool} {r : Reach} {b0 base : Nat} {v : Value} {d : DataW H} {p : List MemPlace}
    (hv : Value.okWide Try.prog W r b0 115 v) (h : DataW.Trod enc Try.prog W base sp held 115 v d p) : ∃ (p q : Int) (m : ByteArray), v = .agg #[.int .i64 p, .int .i64 q, .string m] ∧ m.size ≤ maxLen := by
  obtain ⟨v0, v1, v2, y0, y1, y2, n, rfl, _, _, h0, h1, h2⟩ := open_agg3 Try.underlying115 (by kernel_rfl) cellsRecT hv h
  obtain ⟨s0, e0, _⟩ := DataW.trod_int Try.underlying3 h0
  obtain ⟨s1, e1, _⟩ := DataW.trod_int Try.underlying3 h1
  obtain ⟨s2, e2, _, z2⟩ := DataW.trod_string Try.underlying9 h2
  simp at e0 e1 e2
  exact ⟨s0, s1, s2, by rw [e0, e1, e2], z2⟩
set_option maxRecDepth 100000 in
theorem entry_of_trod {H : Type} {enc : TypeId × Value → H} {W : World} {sp : Nat → Bool} {held : Bool} {r : Reach} {b0 base : Nat} {v : Value} {d : DataW H} {p : List MemPlace}
    (hv : Value.okWide Try.prog W r b0 42 v) (h : DataW.Trod enc Try.prog W base sp held 42 v d p) : ∃ (p : Int) (m : ByteArray), v = .agg #[.int .i64 p, .string m] ∧ m.size ≤ maxLen := by
  obtain ⟨v0, v1, y0, y1, n, rfl, _, _, h0, h1⟩ := open_agg2 Try.underlying42 (by kernel_rfl) cellsEntryT hv h
  obtain ⟨s0, e0, _⟩ := DataW.trod_int Try.underlying3 h0
  obtain ⟨s1, e1, _, z1⟩ := DataW.trod_string Try.underlying9 h1
  simp at e0 e1
  exact ⟨s0, s1, by rw [e0, e1], z1⟩
end Go.Proofs.Ytmkchilhnmkhkaa
