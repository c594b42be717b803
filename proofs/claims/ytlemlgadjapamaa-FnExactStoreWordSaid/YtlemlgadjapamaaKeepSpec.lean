/- The model's l10Keep. -/
import Derived.Test.YtlemlgadjapamaaFenceMath
import Derived.Test.YtlemlgadjapamaaMemOkSpec
namespace Go.Proofs.Ytlemlgadjapamaa
open Go.RowKit Go.Proofs.Ytlemlgadjapamaa.Parts Go.Proofs.Ytlemlgadjapamaa.Hexa

theorem below_alloc' (w : World) (o : Obj) : Below w.heap.size w (w.alloc o) := (Below.refl _ _).alloc (Nat.le_refl _) _
theorem ret_strk {a b : ByteArray} (h : a = b) : Ending.returned (.string a) = .returned (.string b) := by rw [h]

set_option maxRecDepth 100000 in
set_option maxHeartbeats 1000000 in
theorem specKeep_any (K : ByteArray) (x : C3) (xl : Nat) (w : World) (hx : x.l = xl) (hl : xl * 16 + 16 ≤ K.size) (hK : K.size ≤ 16000) (ht : x.t.size = 16) :
    Calls Try.prog 65 #[.string K, .agg #[.int .i64 x.l, .string x.t, .bool x.f]] w fun e w' => e = .returned (.string (keepB K x)) ∧ Below w.heap.size w w' := by
  have HE : Hid (keepB K x = K.extract 0 (xl * 16) ++ x.t ++ K.extract (xl * 16 + 16) K.size) := Lib.hid (by unfold keepB; rw [hx, show 16 * (xl : Int).toNat = xl * 16 by omega])
  rw [hx]
  clear hx
  have B0 := Lib.hid (below_alloc' w (.cells #[.int .i64 xl, .string x.t, .bool x.f] 68))
  go_enter Try.func65, Try.ntmps65
  go_wp2
  go_quiet ((go_at_call 66; first | exact Calls.quiet_of_same (size_any _) | exact quiet_anew size_any))
  go_wp2
  go_quiet ((go_at_call 66; first | exact Calls.quiet_of_same (size_any _) | exact quiet_anew size_any))
  go_wp2
  trace_state
  go_ret
  exact ⟨ret_strk HE.out.symm, by first | exact below_drewsN (below_drewsN B0.out _) _ | exact below_drewsN B0.out _⟩
end Go.Proofs.Ytlemlgadjapamaa
