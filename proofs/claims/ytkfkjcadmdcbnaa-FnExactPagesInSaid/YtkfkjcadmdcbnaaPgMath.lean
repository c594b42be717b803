/- Pages for a size. -/
import Derived.Test.YtkfkjcadmdcbnaaRows
namespace Go.Proofs.Ytkfkjcadmdcbnaa
def pagesZ (n : Int) : Int := if n ≤ 0 then 0 else (n - 1) / 32 + 1
end Go.Proofs.Ytkfkjcadmdcbnaa
