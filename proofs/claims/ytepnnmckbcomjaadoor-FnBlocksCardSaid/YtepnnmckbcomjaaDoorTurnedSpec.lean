/- The model's turned byte. -/
import Derived.Test.YtepnnmckbcomjaaDoorFieldSpec
namespace Go.Proofs.YtepnnmckbcomjaaDoor
open Go.RowKit Go.Proofs.YtepnnmckbcomjaaDoor.Fld Go.Proofs.YtepnnmckbcomjaaDoor.BitsM

theorem box_bits (out b k : Nat) (ho : out < 256) (hb : b < 256) (hk : k < 5) :
    bits .xor .i64 (out : Int) (bits .and .i64 (bits .or .i64 ((b : Int) * 2 ^ k) ((b : Int) / 2 ^ (8 - k))) 255) = ((out ^^^ (((b * 2 ^ k) ||| (b / 2 ^ (8 - k))) &&& 255) : Nat) : Int) := by
  have h1 : (b : Int) * 2 ^ k = ((b * 2 ^ k : Nat) : Int) := by simp
  have h2 : (b : Int) / 2 ^ (8 - k) = ((b / 2 ^ (8 - k) : Nat) : Int) := by simp
  have hp : 2 ^ k ≤ 16 := by
    have : 2 ^ k ≤ 2 ^ 4 := Nat.pow_le_pow_right (by omega) (by omega)
    exact this
  have b1 : b * 2 ^ k < 4096 := by
    have : b * 2 ^ k ≤ b * 16 := Nat.mul_le_mul_left _ hp
    omega
  have b2 : b / 2 ^ (8 - k) < 4096 := Nat.lt_of_le_of_lt (Nat.div_le_self _ _) (by omega)
  rw [h1, h2, or64 _ _ (by omega) (by omega)]
  have b3 : (b * 2 ^ k ||| b / 2 ^ (8 - k)) < 4096 := Nat.or_lt_two_pow (n := 12) b1 b2
  have e255 : (255 : Int) = ((255 : Nat) : Int) := rfl
  rw [e255, and64 _ _ (by omega) (by omega)]
  have b4 : ((b * 2 ^ k ||| b / 2 ^ (8 - k)) &&& 255) < 256 := Nat.lt_of_le_of_lt Nat.and_le_right (by omega)
  rw [xor64 _ _ (by omega) (by omega)]

theorem box_wrap (b k : Nat) (hb : b < 256) (hk : k < 5) : RowKit.wrap64 ((b : Int) * 2 ^ k) = (b : Int) * 2 ^ k := by
  have h1 : (b : Int) * 2 ^ k = ((b * 2 ^ k : Nat) : Int) := by simp
  have hp : 2 ^ k ≤ 16 := by
    have : 2 ^ k ≤ 2 ^ 4 := Nat.pow_le_pow_right (by omega) (by omega)
    exact this
  have b1 : b * 2 ^ k < 4096 := by
    have : b * 2 ^ k ≤ b * 16 := Nat.mul_le_mul_left _ hp
    omega
  rw [h1]
  unfold RowKit.wrap64
  omega

set_option maxHeartbeats 1000000 in
theorem specTurned_any (b : Nat) (w : World) (hb : b < 256) : Calls Tryd.prog 34 #[.int .i64 b] w fun e w' => e = .returned (.int .i64 (turnF b 5)) ∧ w' = w := by
  go_enter Tryd.func34, Tryd.ntmps34
  go_wp2
  go_loopw [3, 4] (fun ov iv wr => ∃ k out : Nat, k ≤ 5 ∧ iv = .int .i64 k ∧ ov = .int .i64 out ∧ out < 256 ∧ Hid (out = turnF b k) ∧ wr = w) (fun _ iv _ => 5 - (intOf iv).toNat)
  case atStart => exact ⟨0, 99, Nat.zero_le _, rfl, rfl, by omega, Lib.hid rfl, rfl⟩
  case round =>
    obtain ⟨k, out, hk, rfl, rfl, ho, HO, rfl⟩ := hrel
    by_cases hlt : k < 5
    · have hbx := box_bits out b k ho hb hlt
      have n1 : (8 - (k : Int)).toNat = 8 - k := by omega
      have hw := box_wrap b k hb hlt
      have HN : Hid (out ^^^ (((b * 2 ^ k) ||| (b / 2 ^ (8 - k))) &&& 255) = turnF b (k + 1)) := Lib.hid (by rw [HO.out]; rfl)
      have hl : out ^^^ (((b * 2 ^ k) ||| (b / 2 ^ (8 - k))) &&& 255) < 256 := xor_lt ho (Nat.lt_of_le_of_lt Nat.and_le_right (by omega))
      have HBX := Lib.hid hbx
      clear hbx
      go_wp2
      rw [HBX.out]
      go_roundw
      case rel => exact ⟨k + 1, _, by omega, by go_num, rfl, hl, HN, by first | rfl | trivial⟩
      case measure => simp [intOf]; omega
    · obtain rfl : k = 5 := by omega
      go_wp2
      go_ret
      exact ⟨ret_int (by rw [HO.out]), rfl⟩
end Go.Proofs.YtepnnmckbcomjaaDoor
