/- What came in: Bool. -/
import Derived.Test.YtkfkjcadmdcbnaaRowTree
import Derived.Test.YtkfkjcadmdcbnaaTBoolE
namespace Go.Proofs.Ytkfkjcadmdcbnaa
open Go.Deep Go.ChangeShapes Go.WideShapes Go.RowKit

theorem cellsBoolT : Try.prog.cellsOf 4 = 1 := by kernel_rfl
theorem Bool_trod {H : Type} {enc : TypeId × Value → H} {W : World} {base fuel : Nat} {sp : Nat → Bool} {held : Bool} {cs : List Value} {x : DataW H × List MemPlace} (h : DataW.trod enc Try.prog W base sp held fuel 4 cs = some x) : ∃ s : Bool, RdL W (cBool.cels s) cs ∧ TyL (cBool.cels s) := by
  obtain ⟨s, e, _⟩ := DataW.trod_bool Try.underlying4 h
  subst e
  exact ⟨s, ⟨_, _, rfl, rfl, rfl⟩, trivial, trivial⟩
end Go.Proofs.Ytkfkjcadmdcbnaa
