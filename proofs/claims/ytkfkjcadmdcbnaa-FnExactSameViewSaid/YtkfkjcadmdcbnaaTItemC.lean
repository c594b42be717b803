/- The type Item: copied. -/
import Derived.Test.YtkfkjcadmdcbnaaTItemE
namespace Go.Proofs.Ytkfkjcadmdcbnaa
open Go.RowKit Go.Proofs.Ytkfkjcadmdcbnaa.Parts Go.Proofs.Ytkfkjcadmdcbnaa.Hexa

set_option maxRecDepth 100000 in
set_option maxHeartbeats 1000000 in
theorem toItem_st (x : ItemR) (w : World) (_ : szL (cItem.cels x) ≤ 1048576) :
    Calls Try.prog 26 #[.agg #[.string x.path, .bool x.dir, .string x.text]] w (ToPostS (cItem.cels x) w) := by
  go_enter Try.func26, Try.ntmps26
  go_wp2
  refine bodyPost_ret (v := .agg #[.string x.path, .bool x.dir, .string x.text]) ?_ rfl ⟨_, rfl, (((Objs.nil _ _ _).val _).val _).val _, (((Below.refl _ _).alloc (Nat.le_refl _) _).alloc (by simp) _).alloc (by simp; omega) _⟩
  simp [results, Try.results26, go_sem]

end Go.Proofs.Ytkfkjcadmdcbnaa
