/- The type Item: compared. -/
import Derived.Test.YtkfkjcadmdcbnaaTItemE
namespace Go.Proofs.Ytkfkjcadmdcbnaa
open Go.RowKit Go.Proofs.Ytkfkjcadmdcbnaa.Parts Go.Proofs.Ytkfkjcadmdcbnaa.Hexa

set_option maxRecDepth 100000 in
set_option maxHeartbeats 1000000 in
theorem eqItem_st (x : ItemR) (w : World) :
    Calls Try.prog 60 #[.agg #[.string x.path, .bool x.dir, .string x.text], .agg #[.string x.path, .bool x.dir, .string x.text]] w fun e w' => e = .returned (.bool true) ∧ Below w.heap.size w w' := by
  go_enter Try.func60, Try.ntmps60
  go_wp2
  go_ret
  exact ⟨rfl, ((Below.refl _ _).alloc (Nat.le_refl _) _).alloc (by simp) _⟩

end Go.Proofs.Ytkfkjcadmdcbnaa
