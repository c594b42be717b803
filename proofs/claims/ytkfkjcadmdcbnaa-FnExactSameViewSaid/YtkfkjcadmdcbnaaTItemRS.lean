/- What came in: slices of Item. -/
import Derived.Test.YtkfkjcadmdcbnaaTItemR
namespace Go.Proofs.Ytkfkjcadmdcbnaa
open Go.Deep Go.ChangeShapes Go.WideShapes Go.RowKit

theorem cellsItemST : Try.prog.cellsOf 37 = 1 := by kernel_rfl
theorem ItemS_trod {H : Type} {enc : TypeId × Value → H} {W : World} {fuel : Nat} {v : Value} {x : DataW H × List MemPlace} (h : DataW.trod enc Try.prog W 0 (fun _ => true) true fuel 37 [v] = some x) : ∃ L, (celRow cItem L).Rd W v ∧ (celRow cItem L).Ty := by
  rcases open_slice Try.underlying37 h with ⟨hcs, _⟩ | ⟨ad, l, c, m, n, D, Pl, hcs, _, hl, hm, hmm, _, hx⟩
  · simp only [List.cons.injEq, and_true] at hcs
    subst hcs
    exact ⟨[], ⟨rfl, none, 0, [], rfl, rfl, .inl rfl⟩, by show (0 ≤ _) ∧ True; exact ⟨by omega, trivial⟩⟩
  · simp only [List.cons.injEq, and_true] at hcs
    subst hcs
    simp at hmm
    rw [cellsItemT] at hx
    exact rowC_of_cells cItem (by decide) (Nat.le_trans hl (Nat.le_trans hm (by decide))) (fun i hi => by
      obtain ⟨cs, h1, h2⟩ := hx i (by omega)
      obtain ⟨s, h3, h4⟩ := Item_trod h2
      exact ⟨(s, cs), h1, h3, h4⟩)
end Go.Proofs.Ytkfkjcadmdcbnaa
