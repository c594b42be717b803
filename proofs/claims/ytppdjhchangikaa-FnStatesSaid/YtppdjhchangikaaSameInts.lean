/- laws.sameInts. -/
import Derived.Test.YtppdjhchangikaaInts
namespace Go.Proofs.Ytppdjhchangikaa
open Go.RowKit Go.Proofs.Ytppdjhchangikaa.Parts Go.Proofs.Ytppdjhchangikaa.Hexa

set_option maxRecDepth 100000 in
set_option maxHeartbeats 1000000 in
theorem sameInts_any (a1 a2 : Option Addr) (n c1 c2 : Nat) (P : List Int) (w : World) (hP : P.length = n) (hn : n ≤ 100000000) (r1 : Reads w a1 (icells P)) (r2 : Reads w a2 (icells P)) :
    Calls Try.prog 13 #[.slice a1 n c1, .slice a2 n c2] w fun e w' => e = .returned (.bool true) ∧ ∃ m, w' = w.drewN m := by
  have HP := Lib.hid hP
  clear hP
  have R1 := Lib.hid r1
  have R2 := Lib.hid r2
  clear r1 r2
  go_enter Try.func13, Try.ntmps13
  go_wp2
  go_loopw [5] (fun iv wr => ∃ k m : Nat, k ≤ n ∧ iv = .int .i64 k ∧ wr = w.drewN m) (fun iv _ => n - (intOf iv).toNat)
  case atStart => exact ⟨0, 0, Nat.zero_le _, rfl, rfl⟩
  case round =>
    obtain ⟨k, m, hk, rfl, rfl⟩ := hrel
    by_cases hlt : k < n
    · obtain ⟨g1, rfl, e1⟩ := R1.out k (by have := HP.out; simp [icells]; omega)
      obtain ⟨g2, rfl, e2⟩ := R2.out k (by have := HP.out; simp [icells]; omega)
      have d1 := cell_int (by have := HP.out; omega) e1
      have d2 := cell_int (by have := HP.out; omega) e2
      obtain ⟨x, hx⟩ : ∃ x, P[k]'(by have := HP.out; omega) = x := ⟨_, rfl⟩
      rw [hx] at d1 d2
      clear e1 e2 hx
      go_wp2
      go_quiet (fail)
      go_wp2
      go_roundw
      case rel => exact ⟨k + 1, _, by omega, by go_num, rfl⟩
      case measure => (simp [intOf]; try omega)
    · obtain rfl : k = n := by omega
      go_wp2
      go_ret
      exact ⟨rfl, _, rfl⟩

end Go.Proofs.Ytppdjhchangikaa
