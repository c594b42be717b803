/- The laws' layout as the program's. -/
import Derived.Test.YtmcelfiljnlmoaaGeo
namespace Go.Proofs.Ytmcelfiljnlmoaa
open Go.RowKit

set_option maxRecDepth 100000 in
set_option maxHeartbeats 1000000 in
theorem toGeo_any (T P I Q : Int) (w : World) : Calls Try.prog 16 #[.agg #[.int .i64 T, .int .i64 P, .int .i64 I, .int .i64 Q]] w fun e w' => e = .returned (.agg #[.int .i64 T, .int .i64 P, .int .i64 I, .int .i64 Q]) ∧ Below w.heap.size w w' := by
  go_enter Try.func16, Try.ntmps16
  go_wp2
  refine bodyPost_ret (v := .agg #[.int .i64 T, .int .i64 P, .int .i64 I, .int .i64 Q]) ?_ rfl ⟨rfl, ?_⟩
  · simp [results, Try.results16, go_sem]
  · exact (((Below.refl _ _).alloc (Nat.le_refl _) _).alloc (by simp) _).alloc (by simp; omega) _
end Go.Proofs.Ytmcelfiljnlmoaa
