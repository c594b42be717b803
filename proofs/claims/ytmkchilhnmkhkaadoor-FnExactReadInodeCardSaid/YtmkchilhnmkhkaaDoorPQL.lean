/- Merged texts: TextsRow. -/
import Derived.Test.YtmkchilhnmkhkaaDoorPQK
import Derived.Deep.Strs
import Derived.ProofKit
namespace Go.Proofs.YtmkchilhnmkhkaaDoor
open Go.Deep Go.ChangeShapes Go.WideShapes Go.RowKit

theorem cellsTextT9 : Tryd.prog.cellsOf 9 = 1 := by kernel_rfl
theorem texts_of_trod {H : Type} {enc : TypeId × Value → H} {W : World} {fuel : Nat} {a : Option Addr} {len cap : Nat} {x : DataW H × List MemPlace}
    (h : DataW.trod enc Tryd.prog W 0 (fun _ => true) true fuel 25 (Value.slice a len cap).cells.toList = some x) : ∃ L, SrcT W a len L ∧ FitT2 L len maxLen ∧ len ≤ 9223372036854775807 := by
  rcases open_slice Tryd.underlying25 h with ⟨hcs, _⟩ | ⟨ad, l, c, m, n, D, Pl, hcs, _, hl, hm, hmm, _, hx⟩
  · simp [Value.cells] at hcs
    obtain ⟨rfl, rfl, rfl⟩ := hcs
    exact ⟨[], SrcE.nil _ _ _, fun j hj => by omega, by omega⟩
  · simp [Value.cells] at hcs hmm
    obtain ⟨rfl, rfl, rfl⟩ := hcs
    subst hmm
    rw [cellsTextT9] at hx
    have each : ∀ i, i < len → ∃ s : ByteArray, W.cells? 0 (ad.add (i * encT.k)) encT.k = some (encT.cells s) ∧ s.size ≤ maxLen := fun i hi => by
      obtain ⟨cs, h1, h2⟩ := hx i (by omega)
      obtain ⟨s, e, _, z⟩ := DataW.trod_string Tryd.underlying9 h2
      subst e
      exact ⟨s, h1, z⟩
    obtain ⟨L, hL, hc⟩ := row_of_cells encT (by decide) (fun i hi => by obtain ⟨s, h1, _⟩ := each i hi; exact ⟨s, h1⟩)
    refine ⟨L, hL, fun j hj => ?_, Nat.le_trans hl (Nat.le_trans hm (by decide))⟩
    obtain ⟨s, h1, z⟩ := each j hj
    have h2 := hc j hj
    rw [h1] at h2
    have h3 := Option.some.inj h2
    simp only [encT_cells, List.cons.injEq, Value.string.injEq] at h3
    rw [← h3.1]
    exact z
end Go.Proofs.YtmkchilhnmkhkaaDoor
