/- Merged texts: TPartRT, TextsRow. -/
import Derived.Test.YtmkchilhnmkhkaaP15AD
import Derived.Deep.Strs
import Derived.ProofKit
namespace Go.Proofs.Ytmkchilhnmkhkaa
open Go.Deep Go.ChangeShapes Go.WideShapes Go.RowKit

set_option maxRecDepth 100000 in
/-- One that came in. -/
theorem Part_of_trod {H : Type} {enc : TypeId × Value → H} {W : World} {r : Reach} {b0 : Nat} {v : Value} {d : DataW H} {p : List MemPlace} (hv : Value.okWide Try.prog W r b0 31 v) (h : DataW.Trod enc Try.prog W 0 (fun _ => true) true 31 v d p) :
    ∃ (s : PartR) (a1 : Option Addr) (c1 : Nat) (a2 : Option Addr) (c2 : Nat), v = .agg #[.int .i64 s.ser, .slice a1 s.st.length c1, .slice a2 s.ino.length c2] ∧ TyL (cPart.cels s) ∧ (celRow cInt s.st).Rd W (.slice a1 s.st.length c1) ∧ (celRow cIno s.ino).Rd W (.slice a2 s.ino.length c2) := by
  obtain ⟨cs, rfl, hsz⟩ := okWide_struct Try.underlying31 hv
  obtain ⟨l⟩ := cs
  obtain ⟨fuel, hf⟩ := h
  obtain ⟨s, h1, h2⟩ := Part_trod hf
  obtain ⟨a1, c1, a2, c2, hv, h1x, h2x⟩ := cPart_form h1
  have hv2 : l = _ := hv
  subst hv2
  exact ⟨s, a1, c1, a2, c2, rfl, h2, h1x, h2x⟩
end Go.Proofs.Ytmkchilhnmkhkaa
namespace Go.Proofs.Ytmkchilhnmkhkaa
open Go.Deep Go.ChangeShapes Go.WideShapes Go.RowKit

theorem cellsTextT9 : Try.prog.cellsOf 9 = 1 := by kernel_rfl
theorem texts_of_trod {H : Type} {enc : TypeId × Value → H} {W : World} {fuel : Nat} {a : Option Addr} {len cap : Nat} {x : DataW H × List MemPlace}
    (h : DataW.trod enc Try.prog W 0 (fun _ => true) true fuel 22 (Value.slice a len cap).cells.toList = some x) : ∃ L, SrcT W a len L ∧ FitT2 L len maxLen ∧ len ≤ 9223372036854775807 := by
  rcases open_slice Try.underlying22 h with ⟨hcs, _⟩ | ⟨ad, l, c, m, n, D, Pl, hcs, _, hl, hm, hmm, _, hx⟩
  · simp [Value.cells] at hcs
    obtain ⟨rfl, rfl, rfl⟩ := hcs
    exact ⟨[], SrcE.nil _ _ _, fun j hj => by omega, by omega⟩
  · simp [Value.cells] at hcs hmm
    obtain ⟨rfl, rfl, rfl⟩ := hcs
    subst hmm
    rw [cellsTextT9] at hx
    have each : ∀ i, i < len → ∃ s : ByteArray, W.cells? 0 (ad.add (i * encT.k)) encT.k = some (encT.cells s) ∧ s.size ≤ maxLen := fun i hi => by
      obtain ⟨cs, h1, h2⟩ := hx i (by omega)
      obtain ⟨s, e, _, z⟩ := DataW.trod_string Try.underlying9 h2
      subst e
      exact ⟨s, h1, z⟩
    obtain ⟨L, hL, hc⟩ := row_of_cells encT (by decide) (fun i hi => by obtain ⟨s, h1, _⟩ := each i hi; exact ⟨s, h1⟩)
    refine ⟨L, hL, fun j hj => ?_, Nat.le_trans hl (Nat.le_trans hm (by decide))⟩
    obtain ⟨s, h1, z⟩ := each j hj
    have h2 := hc j hj
    rw [h1] at h2
    have h3 := Option.some.inj h2
    simp only [encT_cells, List.cons.injEq, Value.string.injEq] at h3
    rw [← h3.1]
    exact z
end Go.Proofs.Ytmkchilhnmkhkaa
