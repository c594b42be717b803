/- Rows of bools as trees. -/
import Derived.Test.YtkfkjcadmdcbnaaTree
namespace Go.Proofs.Ytkfkjcadmdcbnaa
open Go.RowKit Go.Proofs.Ytkfkjcadmdcbnaa.Parts Go.Proofs.Ytkfkjcadmdcbnaa.Hexa

def cBool : EncC Bool := ⟨4, 1, fun x => [.val (.bool x)], fun _ => rfl⟩
end Go.Proofs.Ytkfkjcadmdcbnaa
