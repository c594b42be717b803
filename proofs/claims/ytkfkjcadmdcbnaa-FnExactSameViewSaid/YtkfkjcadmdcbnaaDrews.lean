/- What lies below, behind a region that drew its order. -/
import Derived.Test.YtkfkjcadmdcbnaaBk
namespace Go.Proofs.Ytkfkjcadmdcbnaa
open Go.RowKit

theorem below_drewsN {B : Nat} {a w : World} (h : Below B a w) (m : Nat) : Below B a (w.drewN m) := ⟨h.os, h.tape, h.output, h.size, h.block⟩
end Go.Proofs.Ytkfkjcadmdcbnaa
