/- Slices of texts, as elements of one cell. -/
import Derived.Test.YtppdjhchangikaaElem
import Derived.Test.YtppdjhchangikaaPartsMath
namespace Go.Proofs.Ytppdjhchangikaa
open Go.RowKit Go.Proofs.Ytppdjhchangikaa.Parts Go.Proofs.Ytppdjhchangikaa.Hexa

def encT : Enc ByteArray := ⟨1, fun s => [.string s], fun _ => rfl⟩
theorem encT_cells (s : ByteArray) : encT.cells s = [.string s] := rfl
theorem cellsT_eq : ∀ L : List ByteArray, cellsE encT L = scells L
  | [] => rfl
  | x :: r => by rw [cellsE, cellsT_eq r]; rfl
abbrev SrcT (w : World) (a : Option Addr) (n : Nat) (L : List ByteArray) : Prop := SrcE encT w a n L
theorem srcT_at {w : World} {a : Option Addr} {n : Nat} {L : List ByteArray} (h : SrcT w a n L) (j : Nat) (hj : j < n) : ∃ g off, a = some ⟨g, off, none⟩ ∧ g < w.heap.size ∧ w.cell? ⟨g, off + j, none⟩ = some (.string (L.getD j default)) := by
  obtain ⟨g, off, e, hg, c⟩ := h.cell j hj
  refine ⟨g, off, e, hg, ?_⟩
  have h9 := c 0 _ rfl
  rw [show off + j * encT.k + 0 = off + j from by show off + j * 1 + 0 = off + j; omega] at h9
  exact h9
theorem srcT_of_own {w : World} {B e n cap : Nat} {a : Option Addr} {L : List ByteArray} (h : w.ownsRow B e 1 (.slice a n cap) n (scells L)) : SrcT w a n L := srcE_of_own (E := encT) (by rw [cellsT_eq]; exact h) (by decide)
theorem srcT_later {w w' : World} {a : Option Addr} {n : Nat} {L : List ByteArray} {B : Nat} (h : SrcT w a n L) (hb : Below B w w') (hB : w.heap.size ≤ B) (j : Nat) (hj : j < n) : ∃ g off, a = some ⟨g, off, none⟩ ∧ g < w.heap.size ∧ w'.cell? ⟨g, off + j, none⟩ = some (.string (L.getD j default)) := by
  obtain ⟨g, off, e, hg, _⟩ := srcT_at h j hj
  obtain ⟨g', off', e', _, c⟩ := srcT_at (h.below hb hB) j hj
  rw [e] at e'
  cases e'
  exact ⟨g, off, e, hg, c⟩
theorem texts_eq {P Q : List ByteArray} {n : Nat} (hP : P.length = n) (hQ : Q.length = n) (h : ∀ j, j < n → P.getD j default = Q.getD j default) : P = Q := by
  apply List.ext_getElem (by omega)
  intro i h1 h2
  have h9 := h i (by omega)
  simpa [List.getD, h1, h2] using h9
end Go.Proofs.Ytppdjhchangikaa
