/- Records and entries: their words, and what words say. -/
import Derived.Test.YtcckhkihhhchbaaDoorNumBack
import Derived.Test.YtcckhkihhhchbaaDoorRecBase
import Derived.Test.YtcckhkihhhchbaaDoorEntryBase
namespace Go.Proofs.YtcckhkihhhchbaaDoor
open Go.RowKit Go.Proofs.YtcckhkihhhchbaaDoor.Parts Go.Proofs.YtcckhkihhhchbaaDoor.Hexa Go.Proofs.YtcckhkihhhchbaaDoor.Byt

def NameC (b : UInt8) : Prop := (97 ≤ b.toNat ∧ b.toNat ≤ 122) ∨ (48 ≤ b.toNat ∧ b.toNat ≤ 57)
instance (b : UInt8) : Decidable (NameC b) := by unfold NameC; infer_instance
def NameR (s : ByteArray) : Prop := (1 ≤ s.size ∧ s.size ≤ 7) ∧ ∀ b ∈ s.data.toList, NameC b
instance (s : ByteArray) : Decidable (NameR s) := by unfold NameR; infer_instance
def nameB (s : ByteArray) : Bool := decide (NameR s)
theorem nameB_yes {s : ByteArray} (h : NameR s) : nameB s = true := decide_eq_true h
theorem nameB_no {s : ByteArray} (h : ¬ NameR s) : nameB s = false := decide_eq_false h

def RecOk (r : RecR) : Prop := (1 ≤ r.f0 ∧ r.f0 ≤ 12) ∧ (1 ≤ r.f1 ∧ r.f1 ≤ 16777215) ∧ r.f2.size = 4
instance (r : RecR) : Decidable (RecOk r) := by unfold RecOk; infer_instance
def recWordB (r : RecR) : ByteArray := if RecOk r then numTextB r.f0 1 ++ numTextB r.f1 3 ++ r.f2 else ⟨#[]⟩
theorem recWordB_yes {r : RecR} (h : RecOk r) : recWordB r = numTextB r.f0 1 ++ numTextB r.f1 3 ++ r.f2 := if_pos h
theorem recWordB_no {r : RecR} (h : ¬ RecOk r) : recWordB r = ⟨#[]⟩ := if_neg h
def recOf (s : ByteArray) : RecR := ⟨numAtV s 0 1, numAtV s 1 3, s.extract 4 8⟩
def recReadB (s : ByteArray) : Bool := decide (s.size = 8 ∧ RecOk (recOf s))
def recReadR (s : ByteArray) : RecR := if s.size = 8 ∧ RecOk (recOf s) then recOf s else ⟨0, 0, ⟨#[]⟩⟩

def EntryOk (e : EntryR) : Prop := (1 ≤ e.f0 ∧ e.f0 ≤ 5) ∧ NameR e.f1
instance (e : EntryR) : Decidable (EntryOk e) := by unfold EntryOk; infer_instance
def entryWordB (e : EntryR) : ByteArray := if EntryOk e then wordB (numTextB e.f0 1 ++ e.f1) else ⟨#[]⟩
theorem entryWordB_yes {e : EntryR} (h : EntryOk e) : entryWordB e = wordB (numTextB e.f0 1 ++ e.f1) := if_pos h
theorem entryWordB_no {e : EntryR} (h : ¬ EntryOk e) : entryWordB e = ⟨#[]⟩ := if_neg h
def pagesZ (n : Int) : Int := if n ≤ 0 then 0 else (n - 1) / 32 + 1

theorem numText_size {n : Int} {k : Nat} (hk : 1 ≤ k ∧ k ≤ 7) (h0 : 0 ≤ n) (h1 : n < 256 ^ k) : (numTextB n k).size = k := by
  have e : numTextB n k = numB n.toNat k := by
    unfold numTextB
    rw [if_pos ⟨h0, by omega, by simpa using h1⟩]
    simp
  rw [e]
  show (numL n.toNat k k).toArray.size = k
  simp [numL_length]
theorem recWord_size {r : RecR} (h : RecOk r) : (recWordB r).size = 8 := by
  obtain ⟨⟨h0, h1⟩, ⟨h2, h3⟩, h4⟩ := h
  rw [recWordB_yes ⟨⟨h0, h1⟩, ⟨h2, h3⟩, h4⟩]
  have e1 : (numTextB r.f0 1).size = 1 := numText_size (k := 1) (by omega) (by omega) (by omega)
  have e2 : (numTextB r.f1 3).size = 3 := numText_size (k := 3) (by omega) (by omega) (by omega)
  rw [ByteArray.size_append, ByteArray.size_append, h4, e1, e2]
theorem recWord_empty {r : RecR} : recWordB r = ⟨#[]⟩ ↔ ¬ RecOk r := by
  refine ⟨fun h hr => ?_, recWordB_no⟩
  have := recWord_size hr
  rw [h] at this
  exact absurd this (by decide)
theorem cut_extract (s : ByteArray) (a k : Nat) : (s.extract a (a + k)).data.toList = cutL s a k := by
  unfold cutL
  simp [List.take_drop]
theorem rec_back {s : ByteArray} (h8 : s.size = 8) (h : RecOk (recOf s)) : recWordB (recOf s) = s := by
  rw [recWordB_yes h]
  have e1 := numText_back s 0 1 (by omega) (by omega)
  have e2 := numText_back s 1 3 (by omega) (by omega)
  have e3 : (s.extract 4 8).data.toList = cutL s 4 4 := cut_extract s 4 4
  have hl : s.data.toList.length = 8 := by simpa using h8
  cases s with
  | mk d =>
    apply ByteArray.ext
    apply Array.toList_inj.1
    simp only [ByteArray.data_append, Array.toList_append, recOf]
    rw [show ((0 : Int)) = ((0 : Nat) : Int) from rfl, show ((1 : Int)) = ((1 : Nat) : Int) from rfl, show ((3 : Int)) = ((3 : Nat) : Int) from rfl, e1, e2, e3]
    unfold cutL
    simp only at hl ⊢
    match d.toList, hl with
    | [b0, b1, b2, b3, b4, b5, b6, b7], _ => rfl
end Go.Proofs.YtcckhkihhhchbaaDoor
