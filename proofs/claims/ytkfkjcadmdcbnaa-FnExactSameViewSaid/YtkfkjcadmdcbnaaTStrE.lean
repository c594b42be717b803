/- Rows of texts as trees. -/
import Derived.Test.YtkfkjcadmdcbnaaTree
namespace Go.Proofs.Ytkfkjcadmdcbnaa
open Go.RowKit Go.Proofs.Ytkfkjcadmdcbnaa.Parts Go.Proofs.Ytkfkjcadmdcbnaa.Hexa

def cStr : EncC ByteArray := ⟨9, 1, fun x => [.val (.string x)], fun _ => rfl⟩
end Go.Proofs.Ytkfkjcadmdcbnaa
