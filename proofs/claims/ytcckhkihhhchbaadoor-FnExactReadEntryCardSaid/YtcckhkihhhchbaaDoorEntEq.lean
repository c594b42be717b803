/- Elements of the type Entry: compared. -/
import Derived.Test.YtcckhkihhhchbaaDoorEntryBase
namespace Go.Proofs.YtcckhkihhhchbaaDoor
open Go.RowKit Go.Proofs.YtcckhkihhhchbaaDoor.Parts Go.Proofs.YtcckhkihhhchbaaDoor.Hexa

set_option maxRecDepth 100000 in
set_option maxHeartbeats 400000 in
theorem eqEntry_any (x0 : Int) (x1 : ByteArray) (w : World) :
    Calls Tryd.prog 24 #[.agg #[.int .i64 x0, .string x1], .agg #[.int .i64 x0, .string x1]] w fun e w' => e = .returned (.bool true) ∧ Below w.heap.size w w' := by
  go_enter Tryd.func24, Tryd.ntmps24
  go_wp2
  go_ret
  exact ⟨rfl, ((Below.refl _ _).alloc (Nat.le_refl _) _).alloc (by simp) _⟩

end Go.Proofs.YtcckhkihhhchbaaDoor
