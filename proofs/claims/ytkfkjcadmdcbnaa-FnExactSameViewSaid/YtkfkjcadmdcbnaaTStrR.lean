/- What came in: Str. -/
import Derived.Test.YtkfkjcadmdcbnaaRowTree
import Derived.Test.YtkfkjcadmdcbnaaTStrE
namespace Go.Proofs.Ytkfkjcadmdcbnaa
open Go.Deep Go.ChangeShapes Go.WideShapes Go.RowKit

theorem cellsStrT : Try.prog.cellsOf 9 = 1 := by kernel_rfl
theorem Str_trod {H : Type} {enc : TypeId × Value → H} {W : World} {base fuel : Nat} {sp : Nat → Bool} {held : Bool} {cs : List Value} {x : DataW H × List MemPlace} (h : DataW.trod enc Try.prog W base sp held fuel 9 cs = some x) : ∃ s : ByteArray, RdL W (cStr.cels s) cs ∧ TyL (cStr.cels s) := by
  obtain ⟨s, e, _, b⟩ := DataW.trod_string Try.underlying9 h
  subst e
  exact ⟨s, ⟨_, _, rfl, rfl, rfl⟩, b, trivial⟩
end Go.Proofs.Ytkfkjcadmdcbnaa
