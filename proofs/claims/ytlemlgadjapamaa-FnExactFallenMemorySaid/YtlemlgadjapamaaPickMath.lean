/- A pick's bit. -/
import Derived.Test.YtlemlgadjapamaaFenceMath
namespace Go.Proofs.Ytlemlgadjapamaa
open Go.RowKit Go.Proofs.Ytlemlgadjapamaa.Parts Go.Proofs.Ytlemlgadjapamaa.Hexa

theorem and_one_i64 (i : Nat) (hi : i < 9223372036854775808) : bits BinOp.and IntKind.i64 (i : Int) 1 = ((i % 2 : Nat) : Int) := by
  have e : bits .and .i64 (i : Int) 1 = IntKind.i64.wrap ((BitVec.ofInt 64 (i : Int) &&& BitVec.ofInt 64 1).toNat : Int) := rfl
  have h1 : (BitVec.ofInt 64 (i : Int)).toNat = i := by
    rw [BitVec.toNat_ofInt]; omega
  have h2 : (BitVec.ofInt 64 (1 : Int)).toNat = 1 := by decide
  rw [e, BitVec.toNat_and, h1, h2, Nat.and_one_is_mod, IntWalk.i64_in _ (by omega)]
theorem div_pow_cast (q j : Nat) : ((q : Int) / 2 ^ j) = ((q / 2 ^ j : Nat) : Int) := by
  rw [Int.natCast_ediv, Int.natCast_pow]; rfl
theorem pickB_nat (q k : Nat) : pickB (q : Int) k = decide (q / 2 ^ k % 2 = 1) := by
  unfold pickB
  rw [div_pow_cast]
  by_cases h : q / 2 ^ k % 2 = 1
  · rw [decide_eq_true h]; exact decide_eq_true (by omega)
  · rw [decide_eq_false h]; exact decide_eq_false (by omega)
theorem small_pow {q k : Nat} (hq : q < 9223372036854775808) (hk : 63 ≤ k) : q / 2 ^ k = 0 := by
  apply Nat.div_eq_of_lt
  exact Nat.lt_of_lt_of_le hq (Nat.le_trans (by decide) (Nat.pow_le_pow_right (by omega) hk))
theorem pickB_high {p : Int} {k : Nat} (h0 : 0 ≤ p) (h1 : p ≤ 9223372036854775807) (hk : 63 ≤ k) : pickB p k = false := by
  obtain ⟨q, rfl⟩ : ∃ q : Nat, p = q := ⟨p.toNat, by omega⟩
  rw [pickB_nat, small_pow (by omega) hk]
  rfl
theorem pick_bit {p : Int} (k : Nat) (h0 : 0 ≤ p) (h1 : p ≤ 9223372036854775807) : (bits BinOp.and IntKind.i64 (p / 2 ^ min k 64) 1 == 1) = pickB p k := by
  obtain ⟨q, rfl⟩ : ∃ q : Nat, p = q := ⟨p.toNat, by omega⟩
  have hle : q / 2 ^ min k 64 < 9223372036854775808 := Nat.lt_of_le_of_lt (Nat.div_le_self _ _) (by omega)
  rw [div_pow_cast, and_one_i64 _ hle, pickB_nat]
  have e : q / 2 ^ min k 64 = q / 2 ^ k := by
    by_cases h : k ≤ 64
    · rw [Nat.min_eq_left h]
    · rw [Nat.min_eq_right (by omega), small_pow (by omega) (by omega), small_pow (by omega) (by omega)]
  rw [e]
  by_cases h : q / 2 ^ k % 2 = 1
  · rw [h]; rfl
  · have h0 : q / 2 ^ k % 2 = 0 := by omega
    rw [h0]; rfl
end Go.Proofs.Ytlemlgadjapamaa
