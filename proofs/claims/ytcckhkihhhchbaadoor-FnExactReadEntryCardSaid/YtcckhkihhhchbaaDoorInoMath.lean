/- Inodes: which are valid, and their words. -/
import Derived.Test.YtcckhkihhhchbaaDoorRecMath
namespace Go.Proofs.YtcckhkihhhchbaaDoor
open Go.RowKit Go.Proofs.YtcckhkihhhchbaaDoor.Parts Go.Proofs.YtcckhkihhhchbaaDoor.Hexa Go.Proofs.YtcckhkihhhchbaaDoor.Byt

structure InoR where
  kd : Int
  sz : Int
  gn : Int
  key : ByteArray
  R : List RecR
  E : List EntryR
def textLt (a b : ByteArray) : Bool := Op.bytesLess a.toList b.toList
def RecsOk (R : List RecR) (m : Nat) : Prop := ∀ j, j < m → RecOk (R.getD j default) ∧ ∀ k, k < j → (R.getD k default).f0 ≠ (R.getD j default).f0
def EntsOk (E : List EntryR) (m : Nat) : Prop := ∀ j, j < m → EntryOk (E.getD j default) ∧ (0 < j → textLt (E.getD (j - 1) default).f1 (E.getD j default).f1 = true)
def FreeOk (n : InoR) : Prop := n.sz = 0 ∧ n.key.size = 0 ∧ n.R.length = 0 ∧ n.E.length = 0
def FileOk (n : InoR) : Prop := (0 ≤ n.sz ∧ n.sz ≤ 128) ∧ n.key.size = 8 ∧ (n.R.length : Int) = pagesZ n.sz ∧ n.E.length = 0 ∧ RecsOk n.R n.R.length
def DirOk (n : InoR) : Prop := n.sz = 0 ∧ n.key.size = 0 ∧ n.R.length = 0 ∧ n.E.length ≤ 6 ∧ EntsOk n.E n.E.length
def InoOk (n : InoR) : Prop := (0 ≤ n.gn ∧ n.gn ≤ 65535) ∧ ((n.kd = 0 ∧ FreeOk n) ∨ (n.kd = 1 ∧ FileOk n) ∨ (n.kd = 2 ∧ DirOk n))
noncomputable def inoB (n : InoR) : Bool := @decide (InoOk n) (Classical.propDecidable _)
theorem inoB_yes {n : InoR} (h : InoOk n) : inoB n = true := by unfold inoB; exact @decide_eq_true _ (Classical.propDecidable _) h
theorem inoB_no {n : InoR} (h : ¬ InoOk n) : inoB n = false := by unfold inoB; exact @decide_eq_false _ (Classical.propDecidable _) h
theorem recsOk_step {R : List RecR} {m : Nat} (h : RecsOk R m) (h1 : RecOk (R.getD m default)) (h2 : ∀ k, k < m → (R.getD k default).f0 ≠ (R.getD m default).f0) : RecsOk R (m + 1) := fun j hj => by
  by_cases e : j = m
  · subst e; exact ⟨h1, h2⟩
  · exact h j (by omega)
theorem entsOk_step {E : List EntryR} {m : Nat} (h : EntsOk E m) (h1 : EntryOk (E.getD m default)) (h2 : 0 < m → textLt (E.getD (m - 1) default).f1 (E.getD m default).f1 = true) : EntsOk E (m + 1) := fun j hj => by
  by_cases e : j = m
  · subst e; exact ⟨h1, h2⟩
  · exact h j (by omega)

/-- The words of an inode. -/
def headB (n : InoR) : ByteArray := wordB (numTextB n.kd 1 ++ numTextB n.sz 2 ++ numTextB n.gn 2)
def zero8 : ByteArray := zeroB 8
def wordsI (n : InoR) : List ByteArray := [headB n, wordB n.key] ++ n.R.map recWordB ++ n.E.map entryWordB
noncomputable def inoWordsB (n : InoR) : List ByteArray := if inoB n = true then wordsI n ++ List.replicate (8 - (wordsI n).length) zero8 else []
theorem wordsI_le {n : InoR} (h : InoOk n) : (wordsI n).length ≤ 8 := by
  unfold wordsI
  simp only [List.length_append, List.length_map, List.length_cons, List.length_nil]
  obtain ⟨_, ⟨_, h0⟩ | ⟨_, h0⟩ | ⟨_, h0⟩⟩ := h
  · obtain ⟨_, _, h1, h2⟩ := h0; omega
  · obtain ⟨h1, _, h2, h3, _⟩ := h0
    have : pagesZ n.sz ≤ 4 := by unfold pagesZ; split <;> omega
    omega
  · obtain ⟨_, _, h1, h2, _⟩ := h0; omega
theorem entryWord_size {r : EntryR} (h : EntryOk r) : (entryWordB r).size = 8 := by
  obtain ⟨⟨h0, h1⟩, h2⟩ := h
  rw [entryWordB_yes ⟨⟨h0, h1⟩, h2⟩]
  have e1 : (numTextB r.f0 1).size = 1 := numText_size (k := 1) (by omega) (by omega) (by omega)
  have e2 : (numTextB r.f0 1 ++ r.f1).size ≤ 8 := by rw [ByteArray.size_append, e1]; have := h2.1.2; omega
  unfold wordB
  rw [if_pos e2, ByteArray.size_append, longB_size]
  omega
end Go.Proofs.YtcckhkihhhchbaaDoor
