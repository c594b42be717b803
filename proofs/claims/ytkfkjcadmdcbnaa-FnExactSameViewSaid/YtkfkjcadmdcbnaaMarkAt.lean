/- The laws' mark of a number. -/
import Derived.Test.YtkfkjcadmdcbnaaMarkText
namespace Go.Proofs.Ytkfkjcadmdcbnaa
open Go.RowKit Go.Proofs.Ytkfkjcadmdcbnaa.Parts Go.Proofs.Ytkfkjcadmdcbnaa.Hexa

theorem ret_i64m {a b : Int} (h : a = b) : Ending.returned (.int .i64 a) = .returned (.int .i64 b) := by rw [h]
theorem markText_n (i : Int) (k : Nat) (w : World) (h : i = k) (h0 : 0 < k) (hk : k ≤ 100000000) :
    Calls Try.prog 61 #[.int .i64 i] w fun e w' => e = .returned (.string (markT k)) ∧ Below w.heap.size w w' := by
  subst h; exact markText_any k w h0 hk
end Go.Proofs.Ytkfkjcadmdcbnaa
