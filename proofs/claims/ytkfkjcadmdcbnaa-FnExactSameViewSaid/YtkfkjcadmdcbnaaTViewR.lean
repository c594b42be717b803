/- What came in: View. -/
import Derived.Test.YtkfkjcadmdcbnaaRowTree
import Derived.Test.YtkfkjcadmdcbnaaTViewE
import Derived.Test.YtkfkjcadmdcbnaaTItemRS
namespace Go.Proofs.Ytkfkjcadmdcbnaa
open Go.Deep Go.ChangeShapes Go.WideShapes Go.RowKit

theorem cellsViewT : Try.prog.cellsOf 39 = 1 := by kernel_rfl
set_option maxRecDepth 100000 in
theorem View_trod {H : Type} {enc : TypeId × Value → H} {W : World} {fuel : Nat} {cs : List Value} {x : DataW H × List MemPlace} (h : DataW.trod enc Try.prog W 0 (fun _ => true) true fuel 39 cs = some x) : ∃ s : ViewR, RdL W (cView.cels s) cs ∧ TyL (cView.cels s) := by
  obtain ⟨xs, n, _, _, hl, hlen, hg⟩ := DataW.trod_struct Try.underlying39 h
  have hl' : cs.length = 1 := hl.trans cellsViewT
  clear hl h
  match cs, hl' with
  | [c0], _ =>
    match xs, hlen with
    | [y0], _ =>
      have g0 : DataW.trod enc Try.prog W 0 (fun _ => true) true n 37 [c0] = some y0 := by have h := hg 0 _ rfl; simpa [cellsItemST, Value.cells] using h
      obtain ⟨s0, r0, t0⟩ := ItemS_trod g0
      exact ⟨⟨s0⟩, ⟨_, _, rfl, r0, rfl⟩, t0, trivial⟩
end Go.Proofs.Ytkfkjcadmdcbnaa
