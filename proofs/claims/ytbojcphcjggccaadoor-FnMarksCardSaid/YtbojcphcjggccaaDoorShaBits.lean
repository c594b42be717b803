/- The program's rotations and its round of SHA-256. -/
import Derived.Test.YtbojcphcjggccaaDoorShaTurn
namespace Go.Proofs.YtbojcphcjggccaaDoor
open Go.RowKit Go.Proofs.YtbojcphcjggccaaDoor.Sha

theorem and31_all : ∀ n : Fin 32, 1 ≤ n.val → bits .and .u64 (IntKind.u64.wrap (-(n.val : Int))) 31 = ((32 - n.val : Nat) : Int) := by decide +kernel
theorem and31 (n : Nat) (h : 1 ≤ n) (h' : n ≤ 31) : bits .and .u64 (IntKind.u64.wrap (-(n : Int))) 31 = ((32 - n : Nat) : Int) := and31_all ⟨n, by omega⟩ h
theorem turn_v (x : UInt32) (n : Nat) (h' : n ≤ 31) : bits .or .u32 (u x * 2 ^ (32 - n) % 4294967296) (u x / 2 ^ (32 - (32 - n))) = u (turn x n) := by
  rw [show 32 - (32 - n) = n by omega]
  have e1 : u x / 2 ^ n = u (sr x n) := by rw [← sr_u]; simp
  have e2 : u x * 2 ^ (32 - n) % 4294967296 = u (sl x (32 - n)) := by rw [← sl_u]; simp
  rw [e1, e2, or_u, turn, UInt32.or_comm]

set_option maxRecDepth 100000 in
set_option maxHeartbeats 400000 in
theorem rot_any (x : UInt32) (n : Nat) (w : World) (h : 1 ≤ n) (h' : n ≤ 31) :
    Calls Tryd.prog 60 #[.int .u32 (u x), .int .i64 (-(n : Int))] w fun e w' => e = .returned (.int .u32 (u (turn x n))) ∧ w' = w := by
  have hb := u_bd x
  have hc := and31 n h h'
  have h32 : ((32 - n : Nat) : Int) = 32 - (n : Int) := by omega
  rw [h32] at hc
  go_enter Tryd.func60, Tryd.ntmps60
  go_wp2
  go_ret
  exact ⟨congrArg (fun z => Ending.returned (Value.int .u32 z)) (turn_v x n h'), rfl⟩

theorem rot_int (x : UInt32) (k : Int) (w : World) (h : -31 ≤ k) (h' : k ≤ -1) :
    Calls Tryd.prog 60 #[.int .u32 (u x), .int .i64 k] w fun e w' => e = .returned (.int .u32 (u (turn x (-k).toNat))) ∧ w' = w := by
  obtain ⟨n, rfl⟩ : ∃ n : Nat, k = -(n : Int) := ⟨(-k).toNat, by omega⟩
  rw [show (-(-(n : Int))).toNat = n by omega]
  exact rot_any x n w (by omega) (by omega)

set_option maxRecDepth 100000 in
set_option maxHeartbeats 400000 in
theorem spread_any (x : UInt32) (a b c : Int) (w : World) (ha : 1 ≤ a) (ha' : a ≤ 31) (hb : 1 ≤ b) (hb' : b ≤ 31) (hc : 1 ≤ c) (hc' : c ≤ 31) :
    Calls Tryd.prog 61 #[.int .u32 (u x), .int .i64 a, .int .i64 b, .int .i64 c] w fun e w' => e = .returned (.int .u32 (u (turn x a.toNat ^^^ turn x b.toNat ^^^ turn x c.toNat))) ∧ w' = w := by
  have xo := xor_u
  have na : (- -a).toNat = a.toNat := by omega
  have nb : (- -b).toNat = b.toNat := by omega
  have nc : (- -c).toNat = c.toNat := by omega
  go_enter Tryd.func61, Tryd.ntmps61
  go_wp2_with (first
    | (go_at_call 60; refine (rot_int _ _ _ (by omega) (by omega)).mono ?_; rintro e w1 ⟨rfl, rfl⟩))

  go_ret
  exact ⟨rfl, rfl⟩
end Go.Proofs.YtbojcphcjggccaaDoor
