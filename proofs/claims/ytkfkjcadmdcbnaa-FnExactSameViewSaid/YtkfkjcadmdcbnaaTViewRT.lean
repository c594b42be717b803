/- What came in: an argument of type View. -/
import Derived.Test.YtkfkjcadmdcbnaaTViewR
namespace Go.Proofs.Ytkfkjcadmdcbnaa
open Go.Deep Go.ChangeShapes Go.WideShapes Go.RowKit

set_option maxRecDepth 100000 in
/-- One that came in. -/
theorem View_of_trod {H : Type} {enc : TypeId × Value → H} {W : World} {r : Reach} {b0 : Nat} {v : Value} {d : DataW H} {p : List MemPlace} (hv : Value.okWide Try.prog W r b0 39 v) (h : DataW.Trod enc Try.prog W 0 (fun _ => true) true 39 v d p) :
    ∃ (s : ViewR) (a0 : Option Addr) (c0 : Nat), v = .agg #[.slice a0 s.items.length c0] ∧ TyL (cView.cels s) ∧ (celRow cItem s.items).Rd W (.slice a0 s.items.length c0) := by
  obtain ⟨cs, rfl, hsz⟩ := okWide_struct Try.underlying39 hv
  obtain ⟨l⟩ := cs
  obtain ⟨fuel, hf⟩ := h
  obtain ⟨s, h1, h2⟩ := View_trod hf
  obtain ⟨a0, c0, hv, h0x⟩ := cView_form h1
  have hv2 : l = _ := hv
  subst hv2
  exact ⟨s, a0, c0, rfl, h2, h0x⟩
end Go.Proofs.Ytkfkjcadmdcbnaa
