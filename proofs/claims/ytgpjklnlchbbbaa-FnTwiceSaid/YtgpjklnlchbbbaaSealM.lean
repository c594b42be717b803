/- The nonces of sealings, each once; sealings under one key and nonce that differ. -/
import Derived.Test.YtgpjklnlchbbbaaSealC
namespace Go.Proofs.Ytgpjklnlchbbbaa
open Go.RowKit Go.Proofs.Ytgpjklnlchbbbaa.Parts Go.Proofs.Ytgpjklnlchbbbaa.Hexa

noncomputable instance memText (x : ByteArray) (l : List ByteArray) : Decidable (x ∈ l) := Classical.propDecidable _
/-- One more nonce. -/
noncomputable def addN (acc : List ByteArray) (x : ByteArray) : List ByteArray := if x ∈ acc then acc else acc ++ [x]
noncomputable def noncesB (L : List S3) : List ByteArray := L.foldl (fun acc s => addN acc s.n) []
/-- .. of the first k. -/
noncomputable def noncesTo (L : List S3) (k : Nat) : List ByteArray := noncesB (L.take k)

theorem noncesTo_zero (L : List S3) : noncesTo L 0 = [] := rfl
theorem noncesTo_all (L : List S3) : noncesTo L L.length = noncesB L := by unfold noncesTo; rw [List.take_length]
theorem noncesTo_step {L : List S3} {k : Nat} (hk : k < L.length) : noncesTo L (k + 1) = addN (noncesTo L k) (L.getD k default).n := by
  unfold noncesTo noncesB
  rw [List.take_add_one, List.getElem?_eq_getElem hk, List.foldl_append]
  simp [List.getD, hk]
theorem addN_length (acc : List ByteArray) (x : ByteArray) : (addN acc x).length ≤ acc.length + 1 := by unfold addN; split <;> simp
theorem noncesTo_length {L : List S3} : ∀ {k : Nat}, k ≤ L.length → (noncesTo L k).length ≤ k
  | 0, _ => by simp [noncesTo_zero]
  | k + 1, h => by
    rw [noncesTo_step (by omega)]
    have := addN_length (noncesTo L k) (L.getD k default).n
    have := noncesTo_length (L := L) (k := k) (by omega)
    omega
theorem addN_yes {acc : List ByteArray} {x : ByteArray} (h : x ∈ acc) : addN acc x = acc := if_pos h
theorem addN_no {acc : List ByteArray} {x : ByteArray} (h : x ∉ acc) : addN acc x = acc ++ [x] := if_neg h

/-- Two of the first k under one key and nonce differ. -/
def Clash (L : List S3) (k : Nat) : Prop := ∃ i j, i < k ∧ j < k ∧ (L.getD i default).k = (L.getD j default).k ∧ (L.getD i default).n = (L.getD j default).n ∧ (L.getD i default).t ≠ (L.getD j default).t
theorem clash_zero (L : List S3) : ¬ Clash L 0 := fun ⟨_, _, h, _⟩ => by omega
theorem clash_step {L : List S3} {k : Nat} (h : ¬ Clash L k) (hn : ∀ j, j < k → (L.getD k default).k = (L.getD j default).k → (L.getD k default).n = (L.getD j default).n → (L.getD k default).t = (L.getD j default).t) : ¬ Clash L (k + 1) := by
  rintro ⟨i, j, hi, hj, e1, e2, hne⟩
  by_cases a : i = k
  · subst a
    by_cases b : j = i
    · subst b; exact hne rfl
    · exact hne (hn j (by omega) e1 e2)
  · by_cases b : j = k
    · subst b; exact hne (hn i (by omega) e1.symm e2.symm).symm
    · exact h ⟨i, j, by omega, by omega, e1, e2, hne⟩
theorem clash_mono {L : List S3} {k m : Nat} (hk : k ≤ m) (h : Clash L k) : Clash L m := by
  obtain ⟨i, j, hi, hj, h⟩ := h
  exact ⟨i, j, by omega, by omega, h⟩
noncomputable def clashB (L : List S3) (n : Nat) : Bool := @decide (Clash L n) (Classical.propDecidable _)
theorem clashB_yes {L : List S3} {n : Nat} (h : Clash L n) : clashB L n = true := by unfold clashB; exact @decide_eq_true _ (Classical.propDecidable _) h
theorem clashB_no {L : List S3} {n : Nat} (h : ¬ Clash L n) : clashB L n = false := by unfold clashB; exact @decide_eq_false _ (Classical.propDecidable _) h

theorem data_inj {a b : ByteArray} (h : a.data.toList = b.data.toList) : a = b := by cases a; cases b; simp at h; subst h; rfl
theorem toList_data (a : ByteArray) : a.toList = a.data.toList := by
  rw [Go.ByteArray.toList_eq]
theorem text_ne {a b : ByteArray} (h : a ≠ b) : (a.toList == b.toList) = false := by
  have h2 : ¬ a.toList = b.toList := fun e => h (data_inj (by simpa [toList_data] using e))
  simpa using h2
theorem text_ne' {a b : ByteArray} (h : a ≠ b) : ¬ a.toList = b.toList := by
  have := text_ne h
  simpa using this
end Go.Proofs.Ytgpjklnlchbbbaa
