/- Merged texts: InoOkLaw, WordsMath, NonceMath, InoWords, AppendImpl, ZeroImpl. -/
import Derived.Test.YtcckhkihhhchbaaP12E
namespace Go.Proofs.Ytcckhkihhhchbaa
open Go.RowKit Go.Proofs.Ytcckhkihhhchbaa.Parts Go.Proofs.Ytcckhkihhhchbaa.Hexa Go.Proofs.Ytcckhkihhhchbaa.Byt

set_option maxRecDepth 100000 in
set_option maxHeartbeats 4000000 in
theorem inoOk_law (kd sz gn : Int) (key : ByteArray) (aR : Option Addr) (nR cR : Nat) (aE : Option Addr) (nE cE : Nat) (R : List RecR) (E : List EntryR) (w : World) (hz : -9223372036854775808 ≤ sz ∧ sz ≤ 9223372036854775807) (hk : key.size ≤ maxLen) (hs : SrcRec w aR nR R) (hm : FitRec R nR maxLen) (hn : nR ≤ 9223372036854775807) (hs' : SrcEntry w aE nE E) (hm' : FitEntry E nE maxLen) (hn' : nE ≤ 9223372036854775807) :
    Calls Try.prog 8 #[.agg #[.int .i64 kd, .int .i64 sz, .int .i64 gn, .string key, .slice aR nR cR, .slice aE nE cE]] w fun e w' => e = .returned (.bool true) ∧ Below w.heap.size w w' := by
  have HZ := Lib.hid hz
  have HK := Lib.hid hk
  have HS := Lib.hid hs
  have HM := Lib.hid hm
  have HN := Lib.hid hn
  have HS' := Lib.hid hs'
  have HM' := Lib.hid hm'
  have HN' := Lib.hid hn'
  have T0 := Lib.hid (Bk.alloc w #[.int .i64 kd, .int .i64 sz, .int .i64 gn, .string key, .slice aR nR cR, .slice aE nE cE] 45)
  have B0 := Lib.hid (below_bk w (.cells #[.int .i64 kd, .int .i64 sz, .int .i64 gn, .string key, .slice aR nR cR, .slice aE nE cE] 45))
  obtain ⟨b, hb⟩ : ∃ b, inoB ⟨kd, sz, gn, key, R, E⟩ = b := ⟨_, rfl⟩
  have HB := Lib.hid hb
  clear hb
  clear hz hk hs hm hn hs' hm' hn'
  go_enter Try.func8, Try.ntmps8
  go_wp2_with fail
  refine (szIno_any kd sz gn key aR nR cR aE nE cE R E _ HK.out (HS.out.later B0.out) HN.out HM.out (HS'.out.later B0.out) HN'.out HM'.out).mono ?_
  rintro e w1 ⟨r, rfl, hr | ⟨h0, _, hn2, hf2, hn3, hf3⟩, hb1⟩
  · go_wp2
    go_ret
    exact ⟨rfl, B0.out.trans (hb1.mono B0.out.size)⟩
  have T1 := Lib.hid (T0.out.later hb1)
  have B1 : Hid (Below w.heap.size w w1) := Lib.hid (B0.out.trans (hb1.mono B0.out.size))
  have HF : Hid (FitRec R nR 2000000) := Lib.hid (fun j hj => Nat.le_trans (hf2 j hj) (by decide))
  have HF' : Hid (FitEntry E nE 2000000) := Lib.hid (fun j hj => Nat.le_trans (hf3 j hj) (by decide))
  have hr : ¬ (r < 0) := by omega
  have c0 := T1.out.cell (j := 0) rfl
  have c1 := T1.out.cell (j := 1) rfl
  have c2 := T1.out.cell (j := 2) rfl
  have c3 := T1.out.cell (j := 3) rfl
  have c4 := T1.out.cell (j := 4) rfl
  have c5 := T1.out.cell (j := 5) rfl
  clear hb1 hf2 hf3 h0
  go_wp2_with fail
  clear c0 c1 c2 c3 c4 c5
  refine (toIno_any kd sz gn key aR nR cR aE nE cE R E _ (HS.out.later B1.out) hn2 (HS'.out.later B1.out) hn3).mono ?_
  rintro e w2 ⟨gR, gE, rfl, hg1, hg2, hg3, hoR, hoE, hb2⟩
  have T2 := Lib.hid (T1.out.later hb2)
  have B2 : Hid (Below w.heap.size w w2) := Lib.hid (B1.out.trans (hb2.mono B1.out.size))
  have S2 := Lib.hid (srcRec_of_own hoR)
  have V2 := Lib.hid (srcEntry_of_own hoE)
  clear hoR hoE hb2 hg1 hg2 hg3
  go_wp2_with fail
  refine (specIno_any kd sz gn key _ nR nR _ nE nE _ R E HZ.out S2.out HF.out V2.out HF'.out).mono ?_
  rw [HB.out]
  rintro e w3 ⟨rfl, hb3⟩
  have T3 := Lib.hid (T2.out.later hb3)
  have B3 : Hid (Below w.heap.size w w3) := Lib.hid (B2.out.trans (hb3.mono B2.out.size))
  clear hb3
  have c0 := T3.out.cell (j := 0) rfl
  have c1 := T3.out.cell (j := 1) rfl
  have c2 := T3.out.cell (j := 2) rfl
  have c3 := T3.out.cell (j := 3) rfl
  have c4 := T3.out.cell (j := 4) rfl
  have c5 := T3.out.cell (j := 5) rfl
  go_wp2_with fail
  clear c0 c1 c2 c3 c4 c5
  refine (toIno_any kd sz gn key aR nR cR aE nE cE R E _ (HS.out.later B3.out) hn2 (HS'.out.later B3.out) hn3).mono ?_
  rintro e w4 ⟨gR, gE, rfl, hg1, hg2, hg3, hoR, hoE, hb4⟩
  have hba := below_bk w4 (.cells #[.int .i64 kd, .int .i64 sz, .int .i64 gn, .string key, .slice (some ⟨gR, 0, none⟩) nR nR, .slice (some ⟨gE, 0, none⟩) nE nE] 51)
  have T5 := Lib.hid ((T3.out.later hb4).later hba)
  have X5 := Lib.hid (Bk.alloc w4 #[.int .i64 kd, .int .i64 sz, .int .i64 gn, .string key, .slice (some ⟨gR, 0, none⟩) nR nR, .slice (some ⟨gE, 0, none⟩) nE nE] 51)
  have OR5 := Lib.hid (own_below hoR hba)
  have OE5 := Lib.hid (own_below hoE hba)
  have B5 : Hid (Below w.heap.size w (w4.alloc (.cells #[.int .i64 kd, .int .i64 sz, .int .i64 gn, .string key, .slice (some ⟨gR, 0, none⟩) nR nR, .slice (some ⟨gE, 0, none⟩) nE nE] 51))) := Lib.hid (B3.out.trans ((hb4.trans (hba.mono hb4.size)).mono B3.out.size))
  have L3 : Hid (w.heap.size < w3.heap.size) := Lib.hid T3.out.lt
  have G4 : Hid (w3.heap.size ≤ gR ∧ gR < gE ∧ gE < w4.heap.size) := Lib.hid ⟨hg1, hg2, hg3⟩
  obtain ⟨bx, hbx⟩ : ∃ b, w4.heap.size = b := ⟨_, rfl⟩
  have HBX := Lib.hid hbx
  clear hg1 hg2 hg3 hoR hoE hb4 hba
  go_wp2_with fail
  rw [hbx] at X5
  clear hbx
  obtain ⟨w5, h5⟩ : ∃ x, x = w4.alloc (.cells #[.int .i64 kd, .int .i64 sz, .int .i64 gn, .string key, .slice (some ⟨gR, 0, none⟩) nR nR, .slice (some ⟨gE, 0, none⟩) nE nE] 51) := ⟨_, rfl⟩
  rw [← h5] at T5 X5 OR5 OE5 B5 ⊢
  clear h5
  refine (implIno_any kd sz gn key _ nR nR _ nE nE _ R E HZ.out (by omega) (srcRec_of_own OR5.out) HF.out (srcEntry_of_own OE5.out) HF'.out).mono ?_
  rw [HB.out]
  rintro e w6 ⟨rfl, hb6⟩
  have T6 := Lib.hid (T5.out.later hb6)
  have X6 := Lib.hid (X5.out.later hb6)
  have OR6 := Lib.hid (own_below OR5.out hb6)
  have OE6 := Lib.hid (own_below OE5.out hb6)
  have B6 : Hid (Below w.heap.size w w6) := Lib.hid (B5.out.trans (hb6.mono B5.out.size))
  clear hb6 T5 X5 OR5 OE5
  go_wp2
  have X6d := Lib.hid X6.out.drew
  have T6d := Lib.hid T6.out.drew
  have B6d := Lib.hid B6.out.drew
  have OR6d : Hid (w6.drew.ownsRow w3.heap.size 27 3 (.slice (some ⟨gR, 0, none⟩) nR nR) nR (cellsE encRec R)) := OR6
  have OE6d : Hid (w6.drew.ownsRow w3.heap.size 37 2 (.slice (some ⟨gE, 0, none⟩) nE nE) nE (cellsE encEntry E)) := OE6
  go_region_held3 (fun w' => w'.cell? ⟨bx, 0, none⟩ = some (.int .i64 kd) ∧ w'.cell? ⟨bx, 1, none⟩ = some (.int .i64 sz) ∧ w'.cell? ⟨bx, 2, none⟩ = some (.int .i64 gn) ∧ w'.cell? ⟨bx, 3, none⟩ = some (.string key) ∧ w'.cell? ⟨bx, 4, none⟩ = some (.slice (some ⟨gR, 0, none⟩) nR nR) ∧ w'.cell? ⟨bx, 5, none⟩ = some (.slice (some ⟨gE, 0, none⟩) nE nE) ∧ w'.cell? ⟨w.heap.size, 0, none⟩ = some (.int .i64 kd) ∧ w'.cell? ⟨w.heap.size, 1, none⟩ = some (.int .i64 sz) ∧ w'.cell? ⟨w.heap.size, 2, none⟩ = some (.int .i64 gn) ∧ w'.cell? ⟨w.heap.size, 3, none⟩ = some (.string key) ∧ w'.cell? ⟨w.heap.size, 4, none⟩ = some (.slice aR nR cR) ∧ w'.cell? ⟨w.heap.size, 5, none⟩ = some (.slice aE nE cE))
    (first
      | exact ⟨X6d.out.cell rfl, X6d.out.cell rfl, X6d.out.cell rfl, X6d.out.cell rfl, X6d.out.cell rfl, X6d.out.cell rfl, T6d.out.cell rfl, T6d.out.cell rfl, T6d.out.cell rfl, T6d.out.cell rfl, T6d.out.cell rfl, T6d.out.cell rfl⟩
      | exact ⟨X7.out.cell rfl, X7.out.cell rfl, X7.out.cell rfl, X7.out.cell rfl, X7.out.cell rfl, X7.out.cell rfl, T7.out.cell rfl, T7.out.cell rfl, T7.out.cell rfl, T7.out.cell rfl, T7.out.cell rfl, T7.out.cell rfl⟩
      | exact ⟨X8.out.cell rfl, X8.out.cell rfl, X8.out.cell rfl, X8.out.cell rfl, X8.out.cell rfl, X8.out.cell rfl, T8.out.cell rfl, T8.out.cell rfl, T8.out.cell rfl, T8.out.cell rfl, T8.out.cell rfl, T8.out.cell rfl⟩
      | go_keep)
    (first
      | (go_at_call 27; (with_reducible refine (toIno_any kd sz gn key aR nR cR aE nE cE R E _ (HS.out.later B6d.out) hn2 (HS'.out.later B6d.out) hn3).mono ?_); rintro e w7 ⟨hR7, hE7, rfl, _, _, _, hoR, hoE, hb⟩; have X7 := Lib.hid (X6d.out.later hb); have T7 := Lib.hid (T6d.out.later hb); have B7 : Hid (Below w.heap.size w w7) := Lib.hid (B6d.out.trans (hb.mono B6d.out.size)); have S7 := Lib.hid (srcRec_of_own hoR); have V7 := Lib.hid (srcEntry_of_own hoE); have OR7 := Lib.hid (own_below OR6d.out hb); have OE7 := Lib.hid (own_below OE6d.out hb); have E7 : Hid (Below w6.heap.size w6 w7) := Lib.hid ((Below.refl w6.heap.size w6).drew.trans hb); clear hb hoR hoE)
      | (go_at_call 29; (with_reducible refine (eqIno_any kd sz gn key _ nR _ _ nE _ _ _ _ _ R E _ (by omega) (by omega) (srcRec_of_own OR7.out) S7.out (srcEntry_of_own OE7.out) V7.out).mono ?_); rintro e w8 ⟨rfl, hb⟩; have X8 := Lib.hid (X7.out.later hb); have T8 := Lib.hid (T7.out.later hb); have B8 : Hid (Below w.heap.size w w8) := Lib.hid (B7.out.trans (hb.mono B7.out.size)); have OR8 := Lib.hid (own_below OR7.out hb); have OE8 := Lib.hid (own_below OE7.out hb); have E8 : Hid (Below w6.heap.size w6 w8) := Lib.hid (E7.out.trans (hb.mono E7.out.size)); clear hb))
  go_wp2
  go_ret
  exact ⟨rfl, B8.out⟩
end Go.Proofs.Ytcckhkihhhchbaa
namespace Go.Proofs.Ytcckhkihhhchbaa
open Go.RowKit Go.Proofs.Ytcckhkihhhchbaa.Hexa Go.Proofs.Ytcckhkihhhchbaa.Byt Go.Proofs.Ytcckhkihhhchbaa.BitsM Go.Proofs.Ytcckhkihhhchbaa.Parts

theorem infoText : (Try.prog.info? 9).map (fun i => (i.zero, i.size, i.bytes)) = some (some (.string ⟨#[]⟩), 1, 16) := by kernel_rfl
def wordsN (s : ByteArray) : Nat := (s.size + 7) / 8
/-- Word k of a text. -/
def wordAt (s : ByteArray) (k : Nat) : ByteArray := wordB (s.extract (8 * k) (min (8 * k + 8) s.size))
/-- The words of a text. -/
def wordsL (s : ByteArray) : List ByteArray := (List.range (wordsN s)).map (wordAt s)
theorem wordsL_length (s : ByteArray) : (wordsL s).length = wordsN s := by simp [wordsL]
def wordsTo (s : ByteArray) (k : Nat) : List ByteArray := (List.range k).map (wordAt s)
theorem wordsTo_next (s : ByteArray) (k : Nat) : scells (wordsTo s k) ++ [.string (wordAt s k)] = scells (wordsTo s (k + 1)) := by simp [wordsTo, scells, List.range_succ]
theorem wordsTo_all (s : ByteArray) : wordsTo s (wordsN s) = wordsL s := rfl

/-- Some slice of the call's own that holds these texts. -/
def GivesT (P : List ByteArray) (w : World) (e : Ending) (w' : World) : Prop :=
  ∃ v, e = .returned v ∧ w'.ownsRow w.heap.size 9 1 v P.length (scells P) ∧ Below w.heap.size w w'

end Go.Proofs.Ytcckhkihhhchbaa
namespace Go.Proofs.Ytcckhkihhhchbaa
open Go.RowKit Go.Proofs.Ytcckhkihhhchbaa.Hexa Go.Proofs.Ytcckhkihhhchbaa.Byt

/-- What NonceOf returns. -/
def nonceT (f p s : Int) : ByteArray := if (numTextB f 4).size + (numTextB p 2).size + (numTextB s 6).size = 12 then numTextB f 4 ++ numTextB p 2 ++ numTextB s 6 else ⟨#[]⟩
theorem nonceT_eq (f p s : Int) : nonceT f p s = if (numTextB f 4).size + (numTextB p 2).size + (numTextB s 6).size = 12 then numTextB f 4 ++ numTextB p 2 ++ numTextB s 6 else ⟨#[]⟩ := rfl
theorem numTextB_yes (n width : Int) (h : NumFits n width) : (numTextB n width).size = width.toNat := by
  have e : numTextB n width = numB n.toNat width.toNat := by unfold numTextB; exact if_pos h
  rw [e]
  show (numL _ _ _).toArray.size = _
  rw [List.size_toArray, numL_length]
theorem numTextB_no (n width : Int) (h : ¬ NumFits n width) : numTextB n width = ⟨#[]⟩ := by unfold numTextB; exact if_neg h
theorem numTextB_size (n width : Int) : (numTextB n width).size = 0 ∨ (numTextB n width).size = width.toNat := by
  by_cases h : NumFits n width
  · exact .inr (numTextB_yes n width h)
  · rw [numTextB_no n width h]; exact .inl rfl
theorem nonceT_sizes (f p s : Int) : ((numTextB f 4).size = 0 ∨ (numTextB f 4).size = 4) ∧ ((numTextB p 2).size = 0 ∨ (numTextB p 2).size = 2) ∧ ((numTextB s 6).size = 0 ∨ (numTextB s 6).size = 6) ∧ (numTextB f 4).size + (numTextB p 2).size + (numTextB s 6).size ≤ 12 := by
  have h1 : (numTextB f 4).size = 0 ∨ (numTextB f 4).size = 4 := numTextB_size f 4
  have h2 : (numTextB p 2).size = 0 ∨ (numTextB p 2).size = 2 := numTextB_size p 2
  have h3 : (numTextB s 6).size = 0 ∨ (numTextB s 6).size = 6 := numTextB_size s 6
  exact ⟨h1, h2, h3, by omega⟩
end Go.Proofs.Ytcckhkihhhchbaa
namespace Go.Proofs.Ytcckhkihhhchbaa
open Go.RowKit Go.Proofs.Ytcckhkihhhchbaa.Parts Go.Proofs.Ytcckhkihhhchbaa.Hexa Go.Proofs.Ytcckhkihhhchbaa.Byt

def recsTo (n : InoR) (k : Nat) : List ByteArray := [headB n, wordB n.key] ++ (n.R.take k).map recWordB
def entsTo (n : InoR) (k : Nat) : List ByteArray := [headB n, wordB n.key] ++ n.R.map recWordB ++ (n.E.take k).map entryWordB
def rowLen : Value → Nat
  | .slice _ n _ => n
  | _ => 0
def fillTo (n : InoR) (k : Nat) : List ByteArray := wordsI n ++ List.replicate k zero8
theorem take_more {α β : Type} [Inhabited α] (f : α → β) (L : List α) (k : Nat) (h : k < L.length) : (L.take (k + 1)).map f = (L.take k).map f ++ [f (L.getD k default)] := by
  have e : L.getD k default = L[k] := by simp [List.getD, h]
  rw [List.take_add_one, List.getElem?_eq_getElem h, List.map_append, e]
  rfl
theorem recsTo_next (n : InoR) (k : Nat) (h : k < n.R.length) : scells (recsTo n k) ++ [.string (recWordB (n.R.getD k default))] = scells (recsTo n (k + 1)) := by
  unfold recsTo
  rw [take_more _ _ _ h]
  simp [scells]
theorem entsTo_next (n : InoR) (k : Nat) (h : k < n.E.length) : scells (entsTo n k) ++ [.string (entryWordB (n.E.getD k default))] = scells (entsTo n (k + 1)) := by
  unfold entsTo
  rw [take_more _ _ _ h]
  simp [scells]
theorem fillTo_next (n : InoR) (k : Nat) : scells (fillTo n k) ++ [.string zero8] = scells (fillTo n (k + 1)) := by
  unfold fillTo
  rw [List.replicate_succ']
  simp [scells]
theorem recsTo_all (n : InoR) : recsTo n n.R.length = entsTo n 0 := by unfold recsTo entsTo; simp
theorem entsTo_all (n : InoR) : entsTo n n.E.length = fillTo n 0 := by unfold entsTo fillTo wordsI; simp
theorem recsTo_zero (n : InoR) : recsTo n 0 = [headB n, wordB n.key] := by unfold recsTo; simp
theorem inoWords_yes {n : InoR} (h : InoOk n) : inoWordsB n = fillTo n (8 - (wordsI n).length) := by unfold inoWordsB fillTo; rw [if_pos (inoB_yes h)]
theorem inoWords_no {n : InoR} (h : ¬ InoOk n) : inoWordsB n = [] := by unfold inoWordsB; rw [inoB_no h]; rfl
theorem inoWords_length {n : InoR} (h : InoOk n) : (inoWordsB n).length = 8 := by
  have := wordsI_le h
  rw [inoWords_yes h]
  unfold fillTo
  rw [List.length_append, List.length_replicate]
  omega

section
variable (kd sz gn : Int) (key : ByteArray) (aR : Option Addr) (nR cR : Nat) (aE : Option Addr) (nE cE : Nat) (w : World) (R : List RecR) (E : List EntryR)

set_option maxRecDepth 100000 in
set_option maxHeartbeats 1000000 in
theorem specInoWords_no (hz : -9223372036854775808 ≤ sz ∧ sz ≤ 9223372036854775807) (hs : SrcRec w aR nR R) (hf : FitRec R nR 2000000) (hs' : SrcEntry w aE nE E) (hf' : FitEntry E nE 2000000) (h : ¬ InoOk ⟨kd, sz, gn, key, R, E⟩) :
    Calls Try.prog 30 #[.agg #[.int .i64 kd, .int .i64 sz, .int .i64 gn, .string key, .slice aR nR cR, .slice aE nE cE]] w (GivesT [] w) := by
  have HN := Lib.hid (inoB_no h)
  have HZ := Lib.hid hz
  have HF := Lib.hid hf
  have HF' := Lib.hid hf'
  have B0 := Lib.hid (below_bk w (inoObj kd sz gn key aR nR cR aE nE cE))
  have HS := Lib.hid (hs.below B0.out (Nat.le_refl _))
  have HS' := Lib.hid (hs'.below B0.out (Nat.le_refl _))
  clear hz hs hf hs' hf' h
  go_enter Try.func30, Try.ntmps30
  go_wp2_with fail
  refine (specIno_any kd sz gn key aR nR cR aE nE cE _ R E HZ.out HS.out HF.out HS'.out HF'.out).mono ?_
  rw [HN.out]
  rintro e w1 ⟨rfl, hb1⟩
  have B1 : Hid (Below w.heap.size w w1) := Lib.hid (below_on B0.out (Nat.le_refl _) hb1)
  clear hb1
  go_wp2
  go_ret
  exact ⟨_, rfl, World.ownsRow_lit w1 #[] 0 B1.out.size (by decide) rfl, B1.out.alloc B1.out.size _⟩
set_option maxRecDepth 100000 in
set_option maxHeartbeats 4000000 in
theorem specInoWords_yes (hk : 0 ≤ kd ∧ kd ≤ 2) (hz : -9223372036854775808 ≤ sz ∧ sz ≤ 9223372036854775807) (hs : SrcRec w aR nR R) (hf : FitRec R nR 2000000) (hs' : SrcEntry w aE nE E) (hf' : FitEntry E nE 2000000) (h : InoOk ⟨kd, sz, gn, key, R, E⟩) :
    Calls Try.prog 30 #[.agg #[.int .i64 kd, .int .i64 sz, .int .i64 gn, .string key, .slice aR nR cR, .slice aE nE cE]] w (GivesT (inoWordsB ⟨kd, sz, gn, key, R, E⟩) w) := by
  obtain ⟨i0, hi, hz0, hz1, hz2⟩ := info_parts infoText
  obtain ⟨M, hM⟩ : ∃ M : InoR, (⟨kd, sz, gn, key, R, E⟩ : InoR) = M := ⟨_, rfl⟩
  have hlR : M.R.length = nR := by rw [← hM]; exact hs.len
  have hlE : M.E.length = nE := by rw [← hM]; exact hs'.len
  have hMR : M.R = R := by rw [← hM]
  have hME : M.E = E := by rw [← hM]
  have hl8 : (wordsI M).length ≤ 8 := wordsI_le (by rw [← hM]; exact h)
  have hlW : (wordsI M).length = 2 + nR + nE := by unfold wordsI; simp [hlR, hlE]; omega
  have HN := Lib.hid (inoB_yes h)
  have HR : Hid (inoWordsB M = fillTo M (8 - (2 + nR + nE))) := Lib.hid (by rw [← hlW]; exact inoWords_yes (by rw [← hM]; exact h))
  have HL8 : Hid ((inoWordsB M).length = 8) := Lib.hid (inoWords_length (by rw [← hM]; exact h))
  have HZ := Lib.hid hz
  have HF := Lib.hid hf
  have HF' := Lib.hid hf'
  have hgn := h.1
  have HGN : Hid (0 ≤ gn ∧ gn ≤ 65535) := Lib.hid hgn
  have hl8' : nR + nE ≤ 6 := by omega
  have B0 := Lib.hid (below_bk w (inoObj kd sz gn key aR nR cR aE nE cE))
  have K0 := Lib.hid (Bk.alloc w (inoCs kd sz gn key aR nR cR aE nE cE) 51)
  have N0 : Hid ((w.alloc (inoObj kd sz gn key aR nR cR aE nE cE)).heap.size = w.heap.size + 1) := Lib.hid (by simp)
  have HS := Lib.hid (hs.below B0.out (Nat.le_refl _))
  have HS' := Lib.hid (hs'.below B0.out (Nat.le_refl _))
  have HS0 := Lib.hid hs
  have HS0' := Lib.hid hs'
  have HE0 : Hid (headB M = wordB (numTextB kd 1 ++ numTextB sz 2 ++ numTextB gn 2)) := Lib.hid (by rw [← hM]; rfl)
  have HE1 : Hid (M.key = key) := Lib.hid (by rw [← hM])
  have HM := Lib.hid hM
  have HMR := Lib.hid hMR
  have HME := Lib.hid hME
  have HLR := Lib.hid hlR
  have HLE := Lib.hid hlE
  obtain ⟨A, hA⟩ : ∃ A, numTextB kd 1 = A := ⟨_, rfl⟩
  obtain ⟨D, hD⟩ : ∃ D, numTextB sz 2 = D := ⟨_, rfl⟩
  obtain ⟨G, hG⟩ : ∃ G, numTextB gn 2 = G := ⟨_, rfl⟩
  have hA1 : A.size ≤ 1 := by rw [← hA]; rcases numTextB_size kd 1 with e | e <;> rw [e] <;> decide
  have hD1 : D.size ≤ 2 := by rw [← hD]; rcases numTextB_size sz 2 with e | e <;> rw [e] <;> decide
  have hG1 : G.size ≤ 2 := by rw [← hG]; rcases numTextB_size gn 2 with e | e <;> rw [e] <;> decide
  have hAD : ¬ (9223372036854775807 < A.size + D.size) := by omega
  have hADG : ¬ (9223372036854775807 < A.size + D.size + G.size) := by omega
  rw [hA, hD, hG] at HE0
  have HA := Lib.hid hA
  have HD := Lib.hid hD
  have HG := Lib.hid hG
  rw [hM]
  clear hz hs hf hs' hf' h hA hD hG hM hMR hME hl8 hlW hlR hlE hgn
  go_enter Try.func30, Try.ntmps30
  go_wp2_with fail
  refine (specIno_any kd sz gn key aR nR cR aE nE cE _ R E HZ.out HS.out HF.out HS'.out HF'.out).mono ?_
  rw [HN.out]
  rintro e w1 ⟨rfl, hb1⟩
  have T0 := Lib.hid (K0.out.later hb1)
  have B1 : Hid (Below (w.heap.size + 1) (w.alloc (inoObj kd sz gn key aR nR cR aE nE cE)) w1) := Lib.hid (by rw [N0.out] at hb1; exact hb1)
  clear hb1
  go_wp2
  have T0d := Lib.hid T0.out.drew
  have B1d := Lib.hid B1.out.drew
  go_region_held3 (fun w' => w'.cell? ⟨w.heap.size, 0, none⟩ = some (.int .i64 kd) ∧ w'.cell? ⟨w.heap.size, 1, none⟩ = some (.int .i64 sz) ∧ w'.cell? ⟨w.heap.size, 2, none⟩ = some (.int .i64 gn) ∧ w'.cell? ⟨w.heap.size, 3, none⟩ = some (.string key))
    (first
      | exact ⟨T0d.out.cell rfl, T0d.out.cell rfl, T0d.out.cell rfl, T0d.out.cell rfl⟩
      | exact ⟨T2.out.cell rfl, T2.out.cell rfl, T2.out.cell rfl, T2.out.cell rfl⟩
      | exact ⟨T3.out.cell rfl, T3.out.cell rfl, T3.out.cell rfl, T3.out.cell rfl⟩
      | exact ⟨T4.out.cell rfl, T4.out.cell rfl, T4.out.cell rfl, T4.out.cell rfl⟩
      | exact ⟨T5.out.cell rfl, T5.out.cell rfl, T5.out.cell rfl, T5.out.cell rfl⟩
      | exact ⟨T6.out.cell rfl, T6.out.cell rfl, T6.out.cell rfl, T6.out.cell rfl⟩
      | go_keep)
    (first
      | (go_at_call 39; (with_reducible refine (specNum_any kd 1 _ (by omega)).mono ?_); rw [HA.out]; rintro e w2 ⟨rfl, hb⟩; have T2 := Lib.hid (T0d.out.later hb); have B2 := Lib.hid (below_on B1d.out (by rw [N0.out]; exact Nat.le_refl _) hb); clear hb)
      | (go_at_call 39; (with_reducible refine (specNum_any sz 2 _ HZ.out.2).mono ?_); rw [HD.out]; rintro e w3 ⟨rfl, hb⟩; have T3 := Lib.hid (T2.out.later hb); have B3 := Lib.hid (below_on B2.out (by rw [N0.out]; exact Nat.le_refl _) hb); clear hb)
      | (go_at_call 39; (with_reducible refine (specNum_any gn 2 _ (by have := HGN.out.2; omega)).mono ?_); rw [HG.out]; rintro e w4 ⟨rfl, hb⟩; have T4 := Lib.hid (T3.out.later hb); have B4 := Lib.hid (below_on B3.out (by rw [N0.out]; exact Nat.le_refl _) hb); clear hb)
      | (go_at_call 44; (with_reducible refine (specWord_any (A ++ D ++ G) _).mono ?_); rw [← HE0.out]; rintro e w5 ⟨rfl, hb⟩; have T5 := Lib.hid (T4.out.later hb); have B5 := Lib.hid (below_on B4.out (by rw [N0.out]; exact Nat.le_refl _) hb); clear hb)
      | (go_at_call 44; (with_reducible refine (specWord_any key _).mono ?_); rintro e w6 ⟨rfl, hb⟩; have T6 := Lib.hid (T5.out.later hb); have B6 := Lib.hid (below_on B5.out (by rw [N0.out]; exact Nat.le_refl _) hb); clear hb))
  all_goals
    have S6 : Hid (w.heap.size + 1 ≤ w6.heap.size) := Lib.hid (by have := B6.out.size; rw [N0.out] at this; exact this)
    have H01 : Hid (scells (recsTo M 0) = [.string (headB M), .string (wordB key)]) := Lib.hid (by rw [recsTo_zero, HE1.out]; rfl)
    go_wp2
    go_loopw [3, 4] (fun v iv wr => ∃ k : Nat, k ≤ nR ∧ iv = .int .i64 k ∧ Hid (wr.ownsRow (w.heap.size + 1) 9 1 v (2 + k) (scells (recsTo M k))) ∧ Hid (Below (w.heap.size + 1) (w.alloc (inoObj kd sz gn key aR nR cR aE nE cE)) wr)) (fun _ iv _ => nR - (intOf iv).toNat)
    case atStart => exact ⟨0, Nat.zero_le _, rfl, Lib.hid (by rw [H01.out]; exact World.ownsRow_lit w6 #[.string (headB M), .string (wordB key)] 2 S6.out (by decide) rfl), Lib.hid (B6.out.alloc S6.out _)⟩
    case round =>
      obtain ⟨k, hk, rfl, HW, HB⟩ := hrel
      have q4 := (K0.out.under HB.out (Nat.lt_succ_self _)).cell (j := 4) rfl
      by_cases hlt : k < nR
      · obtain ⟨g, off, ha, hg, d0, d1, d2⟩ := srcRec_later HS.out HB.out (by rw [N0.out]; exact Nat.le_refl _) k hlt
        obtain ⟨⟨p, q, m⟩, hx⟩ : ∃ x, R.getD k default = x := ⟨_, rfl⟩
        have hm := HF.out k hlt
        rw [hx] at d0 d1 d2 hm
        simp only at d0 d1 d2 hm
        rw [ha] at q4
        have HX := Lib.hid hx
        have HMm := Lib.hid hm
        obtain ⟨T, hT⟩ : ∃ T, recWordB ⟨p, q, m⟩ = T := ⟨_, rfl⟩
        have HT := Lib.hid hT
        have HWN : Hid (scells (recsTo M k) ++ [.string T] = scells (recsTo M (k + 1))) := Lib.hid (by
          rw [← recsTo_next M k (by rw [HLR.out]; exact hlt), HMR.out, HX.out, HT.out])
        clear hx hm ha hT
        go_wp2_with (first
          | (go_at_call 13; (with_reducible refine (specRecWord_any p q m _ HMm.out).mono ?_); rw [HT.out]; rintro e wa ⟨rfl, hb1⟩
             have HW1 := Lib.hid (own_below HW.out hb1)
             have BG := Lib.hid (below_on HB.out (by rw [N0.out]; exact Nat.le_refl _) hb1)
             have BS : Hid (w.heap.size + 1 ≤ wa.heap.size) := Lib.hid (by have := BG.out.size; rw [N0.out] at this; exact this))
          | (at_builtin; refine wpList_append_own _ rfl (.tmp 33) (.tmp 40) 55 rfl (w.heap.size + 1) 9 i0 (.string ⟨#[]⟩) 1 16 Try.underlying55 hi hz0 hz1 hz2 rfl (by decide) _ _ _ rfl (HW1.out.alloc _) ⟨wa.heap.size, 0, none⟩ 1 1 [.string T] rfl rfl (World.news_of_block (heap_alloc_new _ _)) (by simp [Value.oneCell']) (by unfold maxLen; omega) (by omega) (by have := BS.out; simp; omega) ?_; intro v2 wb hown2 hgrow2 hn2))
        have BG3 := Lib.hid ((BG.out.alloc BS.out _).grown hgrow2 (by have := BS.out; simp; omega) (own_block_ge HW1.out))
        rw [HWN.out] at hown2
        have HO2 := Lib.hid hown2
        clear hown2 hgrow2 hn2 HW1 BG BS HB HW
        go_roundw
        case rel => exact ⟨k + 1, by omega, by go_num, HO2, BG3⟩
        case measure => (simp [intOf]; try omega)
      · obtain rfl : k = nR := by omega
        have H9 : Hid (recsTo M k = entsTo M 0) := Lib.hid (by rw [← HLR.out]; exact recsTo_all M)
        have h9 := HW.out
        rw [H9.out] at h9
        have HW2 := Lib.hid h9
        clear h9
        clear HW
        go_wp2
        go_loopw [3, 5] (fun v iv wr => ∃ k2 : Nat, k2 ≤ nE ∧ iv = .int .i64 k2 ∧ Hid (wr.ownsRow (w.heap.size + 1) 9 1 v (2 + k + k2) (scells (entsTo M k2))) ∧ Hid (Below (w.heap.size + 1) (w.alloc (inoObj kd sz gn key aR k cR aE nE cE)) wr)) (fun _ iv _ => nE - (intOf iv).toNat)
        case atStart => exact ⟨0, Nat.zero_le _, rfl, HW2, HB⟩
        case round =>
          clear HW2 HB
          obtain ⟨k2, hk2, rfl, HW, HB⟩ := hrel
          have q5 := (K0.out.under HB.out (Nat.lt_succ_self _)).cell (j := 5) rfl
          by_cases hlt2 : k2 < nE
          · obtain ⟨g, off, ha, hg, d0, d1⟩ := srcEntry_later HS'.out HB.out (by rw [N0.out]; exact Nat.le_refl _) k2 hlt2
            obtain ⟨⟨p, m⟩, hx⟩ : ∃ x, E.getD k2 default = x := ⟨_, rfl⟩
            have hm := HF'.out k2 hlt2
            rw [hx] at d0 d1 hm
            simp only at d0 d1 hm
            rw [ha] at q5
            have HX := Lib.hid hx
            have HMm := Lib.hid hm
            obtain ⟨T, hT⟩ : ∃ T, entryWordB ⟨p, m⟩ = T := ⟨_, rfl⟩
            have HT := Lib.hid hT
            have HWN : Hid (scells (entsTo M k2) ++ [.string T] = scells (entsTo M (k2 + 1))) := Lib.hid (by
              rw [← entsTo_next M k2 (by rw [HLE.out]; exact hlt2), HME.out, HX.out, HT.out])
            clear hx hm ha hT
            go_wp2_with (first
              | (go_at_call 20; (with_reducible refine (specEntryWord_any p m _ HMm.out).mono ?_); rw [HT.out]; rintro e wa ⟨rfl, hb1⟩
                 have HW1 := Lib.hid (own_below HW.out hb1)
                 have BG := Lib.hid (below_on HB.out (by rw [N0.out]; exact Nat.le_refl _) hb1)
                 have BS : Hid (w.heap.size + 1 ≤ wa.heap.size) := Lib.hid (by have := BG.out.size; rw [N0.out] at this; exact this))
              | (at_builtin; refine wpList_append_own _ rfl (.tmp 49) (.tmp 56) 55 rfl (w.heap.size + 1) 9 i0 (.string ⟨#[]⟩) 1 16 Try.underlying55 hi hz0 hz1 hz2 rfl (by decide) _ _ _ rfl (HW1.out.alloc _) ⟨wa.heap.size, 0, none⟩ 1 1 [.string T] rfl rfl (World.news_of_block (heap_alloc_new _ _)) (by simp [Value.oneCell']) (by unfold maxLen; omega) (by omega) (by have := BS.out; simp; omega) ?_; intro v2 wb hown2 hgrow2 hn2))
            have BG3 := Lib.hid ((BG.out.alloc BS.out _).grown hgrow2 (by have := BS.out; simp; omega) (own_block_ge HW1.out))
            rw [HWN.out] at hown2
            have HO2 := Lib.hid hown2
            clear hown2 hgrow2 hn2 HW1 BG BS HB HW
            go_roundw
            case rel => exact ⟨k2 + 1, by omega, by go_num, HO2, BG3⟩
            case measure => (simp [intOf]; try omega)
          · obtain rfl : k2 = nE := by omega
            have H9 : Hid (entsTo M k2 = fillTo M 0) := Lib.hid (by rw [← HLE.out]; exact entsTo_all M)
            have h9 := HW.out
            rw [H9.out] at h9
            have HW3 := Lib.hid h9
            clear h9
            clear HW
            go_wp2
            go_loopw [3] (fun v wr => ∃ k3 : Nat, 2 + k + k2 + k3 ≤ 8 ∧ Hid (wr.ownsRow (w.heap.size + 1) 9 1 v (2 + k + k2 + k3) (scells (fillTo M k3))) ∧ Hid (Below (w.heap.size + 1) (w.alloc (inoObj kd sz gn key aR k cR aE k2 cE)) wr)) (fun v _ => 8 - rowLen v)
            case atStart => exact ⟨0, by omega, HW3, HB⟩
            case round =>
              obtain ⟨k3, hk3, HW, HB⟩ := hrel
              obtain ⟨ad, cap, rfl, hcap, hn, _⟩ := own_form HW.out
              by_cases hlt3 : 2 + k + k2 + k3 < 8
              · obtain ⟨T, hT⟩ : ∃ T, zeroB 8 = T := ⟨_, rfl⟩
                have HT := Lib.hid hT
                have HWN : Hid (scells (fillTo M k3) ++ [.string T] = scells (fillTo M (k3 + 1))) := Lib.hid (by rw [← fillTo_next, ← HT.out]; rfl)
                clear hT
                go_wp2_with (first
                  | (go_at_call 55; (with_reducible refine (specZero_any 8 _).mono ?_); rw [HT.out]; rintro e wa ⟨rfl, hb1⟩
                     have HW1 := Lib.hid (own_below HW.out hb1)
                     have BG := Lib.hid (below_on HB.out (by rw [N0.out]; exact Nat.le_refl _) hb1)
                     have BS : Hid (w.heap.size + 1 ≤ wa.heap.size) := Lib.hid (by have := BG.out.size; rw [N0.out] at this; exact this))
                  | (at_builtin; refine wpList_append_own _ rfl (.tmp 61) (.tmp 63) 55 rfl (w.heap.size + 1) 9 i0 (.string ⟨#[]⟩) 1 16 Try.underlying55 hi hz0 hz1 hz2 rfl (by decide) _ _ _ rfl (HW1.out.alloc _) ⟨wa.heap.size, 0, none⟩ 1 1 [.string T] rfl rfl (World.news_of_block (heap_alloc_new _ _)) (by simp [Value.oneCell']) (by unfold maxLen; omega) (by omega) (by have := BS.out; simp; omega) ?_; intro v2 wb hown2 hgrow2 hn2))
                have BG3 := Lib.hid ((BG.out.alloc BS.out _).grown hgrow2 (by have := BS.out; simp; omega) (own_block_ge HW1.out))
                rw [HWN.out] at hown2
                have HO2 := Lib.hid hown2
                clear hown2 hgrow2 hn2 HW1 BG BS HB HW
                obtain ⟨ad2, cap2, rfl, hcap2, hn9, _⟩ := own_form HO2.out
                go_roundw
                case rel => exact ⟨k3 + 1, by omega, HO2, BG3⟩
                case measure => (simp [rowLen]; try omega)
              · have HW9 : Hid (wr.ownsRow w.heap.size 9 1 (.slice ad (2 + k + k2 + k3) cap) (inoWordsB M).length (scells (inoWordsB M))) := Lib.hid (by
                  have h9 := HW.out
                  rw [HL8.out, HR.out, show 8 - (2 + k + k2) = k3 by omega, show 8 = 2 + k + k2 + k3 by omega]
                  exact ownE_mono h9 (by omega))
                clear HW
                go_wp2
                go_ret
                exact ⟨_, rfl, HW9.out, B0.out.trans (HB.out.mono (by omega))⟩

theorem specInoWords_any (hz : -9223372036854775808 ≤ sz ∧ sz ≤ 9223372036854775807) (hs : SrcRec w aR nR R) (hf : FitRec R nR 2000000) (hs' : SrcEntry w aE nE E) (hf' : FitEntry E nE 2000000) :
    Calls Try.prog 30 #[.agg #[.int .i64 kd, .int .i64 sz, .int .i64 gn, .string key, .slice aR nR cR, .slice aE nE cE]] w (GivesT (inoWordsB ⟨kd, sz, gn, key, R, E⟩) w) := by
  by_cases h : InoOk ⟨kd, sz, gn, key, R, E⟩
  · have hk : 0 ≤ kd ∧ kd ≤ 2 := by
      obtain ⟨_, ⟨e, _⟩ | ⟨e, _⟩ | ⟨e, _⟩⟩ := h
      · have e : kd = 0 := e
        omega
      · have e : kd = 1 := e
        omega
      · have e : kd = 2 := e
        omega
    exact specInoWords_yes kd sz gn key aR nR cR aE nE cE w R E hk hz hs hf hs' hf' h
  · rw [inoWords_no h]
    exact specInoWords_no kd sz gn key aR nR cR aE nE cE w R E hz hs hf hs' hf' h
end
end Go.Proofs.Ytcckhkihhhchbaa
namespace Go.Proofs.Ytcckhkihhhchbaa
open Go.RowKit Go.Proofs.Ytcckhkihhhchbaa.Parts Go.Proofs.Ytcckhkihhhchbaa.Hexa Go.Proofs.Ytcckhkihhhchbaa.Byt

/-- What is returned owns these texts; nothing else of before is written. -/
def AppPost (base : Nat) (W0 : World) (n : Nat) (xs : List Value) (e : Ending) (w' : World) : Prop :=
  ∃ v, e = .returned v ∧ w'.ownsRow base 9 1 v n xs ∧ Below base W0 w' ∧ base ≤ w'.heap.size

set_option maxRecDepth 100000 in
set_option maxHeartbeats 2000000 in
theorem appendRecs_any (W0 : World) (base : Nat) (v : Value) (n0 : Nat) (xs : List Value) (a : Option Addr) (n c : Nat) (L : List RecR) (w : World) (hB0 : W0.heap.size ≤ base) (hb0 : Below base W0 w) (hbs : base ≤ w.heap.size)
    (hs : SrcRec W0 a n L) (hf : FitRec L n 2000000) (hn : n0 + n ≤ 1000) (hown : w.ownsRow base 9 1 v n0 xs) :
    Calls Try.prog 56 #[v, .slice a n c, .func (.func 15) #[] #[]] w (AppPost base W0 (n0 + n) (xs ++ scells (L.map recWordB))) := by
  obtain ⟨i0, hi, hz0, hz1, hz2⟩ := info_parts infoText
  have HS := Lib.hid hs
  have HL := Lib.hid hs.len
  have HF := Lib.hid hf
  have HN := Lib.hid hn
  have HO := Lib.hid hown
  have HB0 := Lib.hid hb0
  have HBS := Lib.hid hbs
  have HBW := Lib.hid hB0
  have hn1 : n ≤ 1000 := by omega
  have hn0 : n0 ≤ 1000 := by omega
  clear hs hf hown hb0 hbs hB0 hn
  go_enter Try.func56, Try.ntmps56
  go_wp2
  go_loopw [0, 11] (fun u iv wr => ∃ k : Nat, k ≤ n ∧ iv = .int .i64 k ∧ Hid (wr.ownsRow base 9 1 u (n0 + k) (xs ++ scells ((L.take k).map recWordB))) ∧ Hid (Below base W0 wr) ∧ Hid (base ≤ wr.heap.size)) (fun _ iv _ => n - (intOf iv).toNat)
  case atStart => exact ⟨0, Nat.zero_le _, rfl, Lib.hid (by simpa [scells] using HO.out), HB0, HBS⟩
  case round =>
    clear HO HB0 HBS
    obtain ⟨k, hk, rfl, HW, HB, HSZ⟩ := hrel
    by_cases hlt : k < n
    · obtain ⟨g, off, ha, hg, d0, d1, d2⟩ := srcRec_later HS.out HB.out HBW.out k hlt
      obtain ⟨⟨p, q, m⟩, hx⟩ : ∃ x, L.getD k default = x := ⟨_, rfl⟩
      have hm := HF.out k hlt
      rw [hx] at d0 d1 d2 hm
      simp only at d0 d1 d2 hm
      have HX := Lib.hid hx
      have HM := Lib.hid hm
      obtain ⟨T, hT⟩ : ∃ T, recWordB ⟨p, q, m⟩ = T := ⟨_, rfl⟩
      have HT := Lib.hid hT
      have HWN : Hid ((xs ++ scells ((L.take k).map recWordB)) ++ [.string T] = xs ++ scells ((L.take (k + 1)).map recWordB)) := Lib.hid (by
        rw [take_more _ _ _ (by rw [HL.out]; exact hlt), HX.out, HT.out]
        simp [scells])
      have HBX : Hid (Below base W0 (wr.alloc (.cells #[.int .i64 p, .int .i64 q, .string m] 27))) := Lib.hid (HB.out.alloc HSZ.out _)
      have HWX := Lib.hid (HW.out.alloc (.cells #[.int .i64 p, .int .i64 q, .string m] 27))
      have HSX : Hid (base ≤ (wr.alloc (.cells #[.int .i64 p, .int .i64 q, .string m] 27)).heap.size) := Lib.hid (by have := HSZ.out; simp; omega)
      have HN2 : Hid (n0 + k + 1 ≤ 1000) := Lib.hid (by have := HN.out; omega)
      subst ha
      clear hx hm hT
      go_wp2_with (first
        | (go_at_call 15; (with_reducible refine (implRecWord_any p q m _ HM.out).mono ?_); rw [HT.out]; rintro e wa ⟨rfl, hb1⟩
           have HW1 := Lib.hid (own_below HWX.out hb1)
           have BG := Lib.hid (HBX.out.trans (hb1.mono HSX.out))
           have BS : Hid (base ≤ wa.heap.size) := Lib.hid (Nat.le_trans HSX.out hb1.size))
        | (at_builtin; refine wpList_append_own _ rfl (.tmp 15) (.tmp 19) 55 rfl base 9 i0 (.string ⟨#[]⟩) 1 16 Try.underlying55 hi hz0 hz1 hz2 rfl (by decide) _ _ _ rfl (HW1.out.alloc _) ⟨wa.heap.size, 0, none⟩ 1 1 [.string T] rfl rfl (World.news_of_block (heap_alloc_new _ _)) (by simp [Value.oneCell']) (by have := HN2.out; unfold maxLen; omega) (by have := HN2.out; omega) (by have := BS.out; simp; omega) ?_; intro v2 wb hown2 hgrow2 hn2))
      have BG3 := Lib.hid ((BG.out.alloc BS.out _).grown hgrow2 (by have := BS.out; simp; omega) (own_block_ge HW1.out))
      have BS3 : Hid (base ≤ wb.heap.size) := Lib.hid (by have h9 := hgrow2.size; have := BS.out; simp at h9; omega)
      rw [HWN.out] at hown2
      have HO2 := Lib.hid hown2
      clear hown2 hgrow2 hn2 HW1 BG BS HB HW
      go_roundw
      case rel => exact ⟨k + 1, by omega, by go_num, HO2, BG3, BS3⟩
      case measure => (simp [intOf]; try omega)
    · obtain rfl : k = n := by omega
      have h9 := HW.out
      rw [List.take_of_length_le (by rw [HL.out]; exact Nat.le_refl _)] at h9
      have HW2 := Lib.hid h9
      clear h9
      go_wp2
      go_ret
      exact ⟨_, rfl, HW2.out, HB.out, HSZ.out⟩

set_option maxRecDepth 100000 in
set_option maxHeartbeats 2000000 in
theorem appendEntrys_any (W0 : World) (base : Nat) (v : Value) (n0 : Nat) (xs : List Value) (a : Option Addr) (n c : Nat) (L : List EntryR) (w : World) (hB0 : W0.heap.size ≤ base) (hb0 : Below base W0 w) (hbs : base ≤ w.heap.size)
    (hs : SrcEntry W0 a n L) (hf : FitEntry L n 2000000) (hn : n0 + n ≤ 1000) (hown : w.ownsRow base 9 1 v n0 xs) :
    Calls Try.prog 57 #[v, .slice a n c, .func (.func 22) #[] #[]] w (AppPost base W0 (n0 + n) (xs ++ scells (L.map entryWordB))) := by
  obtain ⟨i0, hi, hz0, hz1, hz2⟩ := info_parts infoText
  have HS := Lib.hid hs
  have HL := Lib.hid hs.len
  have HF := Lib.hid hf
  have HN := Lib.hid hn
  have HO := Lib.hid hown
  have HB0 := Lib.hid hb0
  have HBS := Lib.hid hbs
  have HBW := Lib.hid hB0
  have hn1 : n ≤ 1000 := by omega
  have hn0 : n0 ≤ 1000 := by omega
  clear hs hf hown hb0 hbs hB0 hn
  go_enter Try.func57, Try.ntmps57
  go_wp2
  go_loopw [0, 11] (fun u iv wr => ∃ k : Nat, k ≤ n ∧ iv = .int .i64 k ∧ Hid (wr.ownsRow base 9 1 u (n0 + k) (xs ++ scells ((L.take k).map entryWordB))) ∧ Hid (Below base W0 wr) ∧ Hid (base ≤ wr.heap.size)) (fun _ iv _ => n - (intOf iv).toNat)
  case atStart => exact ⟨0, Nat.zero_le _, rfl, Lib.hid (by simpa [scells] using HO.out), HB0, HBS⟩
  case round =>
    clear HO HB0 HBS
    obtain ⟨k, hk, rfl, HW, HB, HSZ⟩ := hrel
    by_cases hlt : k < n
    · obtain ⟨g, off, ha, hg, d0, d1⟩ := srcEntry_later HS.out HB.out HBW.out k hlt
      obtain ⟨⟨p, m⟩, hx⟩ : ∃ x, L.getD k default = x := ⟨_, rfl⟩
      have hm := HF.out k hlt
      rw [hx] at d0 d1 hm
      simp only at d0 d1 hm
      have HX := Lib.hid hx
      have HM := Lib.hid hm
      obtain ⟨T, hT⟩ : ∃ T, entryWordB ⟨p, m⟩ = T := ⟨_, rfl⟩
      have HT := Lib.hid hT
      have HWN : Hid ((xs ++ scells ((L.take k).map entryWordB)) ++ [.string T] = xs ++ scells ((L.take (k + 1)).map entryWordB)) := Lib.hid (by
        rw [take_more _ _ _ (by rw [HL.out]; exact hlt), HX.out, HT.out]
        simp [scells])
      have HBX : Hid (Below base W0 (wr.alloc (.cells #[.int .i64 p, .string m] 37))) := Lib.hid (HB.out.alloc HSZ.out _)
      have HWX := Lib.hid (HW.out.alloc (.cells #[.int .i64 p, .string m] 37))
      have HSX : Hid (base ≤ (wr.alloc (.cells #[.int .i64 p, .string m] 37)).heap.size) := Lib.hid (by have := HSZ.out; simp; omega)
      have HN2 : Hid (n0 + k + 1 ≤ 1000) := Lib.hid (by have := HN.out; omega)
      subst ha
      clear hx hm hT
      go_wp2_with (first
        | (go_at_call 22; (with_reducible refine (implEntryWord_any p m _ HM.out).mono ?_); rw [HT.out]; rintro e wa ⟨rfl, hb1⟩
           have HW1 := Lib.hid (own_below HWX.out hb1)
           have BG := Lib.hid (HBX.out.trans (hb1.mono HSX.out))
           have BS : Hid (base ≤ wa.heap.size) := Lib.hid (Nat.le_trans HSX.out hb1.size))
        | (at_builtin; refine wpList_append_own _ rfl (.tmp 15) (.tmp 19) 55 rfl base 9 i0 (.string ⟨#[]⟩) 1 16 Try.underlying55 hi hz0 hz1 hz2 rfl (by decide) _ _ _ rfl (HW1.out.alloc _) ⟨wa.heap.size, 0, none⟩ 1 1 [.string T] rfl rfl (World.news_of_block (heap_alloc_new _ _)) (by simp [Value.oneCell']) (by have := HN2.out; unfold maxLen; omega) (by have := HN2.out; omega) (by have := BS.out; simp; omega) ?_; intro v2 wb hown2 hgrow2 hn2))
      have BG3 := Lib.hid ((BG.out.alloc BS.out _).grown hgrow2 (by have := BS.out; simp; omega) (own_block_ge HW1.out))
      have BS3 : Hid (base ≤ wb.heap.size) := Lib.hid (by have h9 := hgrow2.size; have := BS.out; simp at h9; omega)
      rw [HWN.out] at hown2
      have HO2 := Lib.hid hown2
      clear hown2 hgrow2 hn2 HW1 BG BS HB HW
      go_roundw
      case rel => exact ⟨k + 1, by omega, by go_num, HO2, BG3, BS3⟩
      case measure => (simp [intOf]; try omega)
    · obtain rfl : k = n := by omega
      have h9 := HW.out
      rw [List.take_of_length_le (by rw [HL.out]; exact Nat.le_refl _)] at h9
      have HW2 := Lib.hid h9
      clear h9
      go_wp2
      go_ret
      exact ⟨_, rfl, HW2.out, HB.out, HSZ.out⟩

end Go.Proofs.Ytcckhkihhhchbaa
namespace Go.Proofs.Ytcckhkihhhchbaa
open Go.RowKit Go.Proofs.Ytcckhkihhhchbaa.Hexa Go.Proofs.Ytcckhkihhhchbaa.Byt Go.Proofs.Ytcckhkihhhchbaa.BitsM

set_option maxRecDepth 100000 in
set_option maxHeartbeats 1000000 in
theorem implZero_any (n : Int) (w : World) :
    Calls Try.prog 58 #[.int .i64 n] w fun e w' => e = .returned (.string (zeroB n)) ∧ Below w.heap.size w w' := by
  by_cases h : 0 ≤ n ∧ n ≤ 20000
  · obtain ⟨i0, hi, hz0, hz1, hz2⟩ := info_parts infoByte
    have HE : Hid (zeroB n = longB n.toNat 0) := Lib.hid (if_pos h)
    obtain ⟨k, rfl⟩ : ∃ k : Nat, n = k := ⟨n.toNat, by omega⟩
    have hk : k ≤ 20000 := by omega
    clear h
    go_enter Try.func58, Try.ntmps58
    go_wp2_with (at_make; refine wpList_make_full _ rfl _ _ 87 rfl w.heap.size 5 i0 (.int .u8 0) 1 Try.underlying87 hi hz0 hz1 .i64 .i64 _ _ k rfl rfl rfl rfl (by rw [hz2]; omega) (by unfold maxLen; omega) (Nat.le_refl _) ?_; intro w0 hown0 hgrow0; rw [made_zero] at hown0; have hconv := own_string (P := Try.prog) 87 9 Try.underlying87 Try.underlying5 Try.underlying9 hown0)
    have hg0 : Below w.heap.size w w0 := (Below.refl _ _).grown hgrow0 (Nat.le_refl _) (fun k h => by cases h)
    go_ret
    exact ⟨by rw [HE.out]; rfl, hg0⟩
  · have HE : Hid (zeroB n = ⟨#[]⟩) := Lib.hid (if_neg h)
    by_cases h0 : n < 0
    · go_enter Try.func58, Try.ntmps58
      go_wp2
      go_ret
      exact ⟨by rw [HE.out]; rfl, Below.refl _ _⟩
    · have h1 : 20000 < n := by omega
      clear h
      go_enter Try.func58, Try.ntmps58
      go_wp2
      go_ret
      exact ⟨by rw [HE.out]; rfl, Below.refl _ _⟩

end Go.Proofs.Ytcckhkihhhchbaa
