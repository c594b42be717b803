/- Powers by squares: what the loop over an exponent's bits computes. -/
import Derived.Test.YtepnnmckbcomjaaDoorFieldMath
namespace Go.Proofs.YtepnnmckbcomjaaDoor.Fld

theorem pow_square (x : Nat) (hx : x < 256) : ∀ m, pow (mul x x) m = pow x (2 * m)
  | 0 => rfl
  | m + 1 => by
    have e1 : pow (mul x x) (m + 1) = mul (pow (mul x x) m) (mul x x) := rfl
    have e2 : pow x (2 * (m + 1)) = mul (mul (pow x (2 * m)) x) x := rfl
    rw [e1, e2, pow_square x hx m, mul_assoc _ _ _ (pow_lt x (2 * m)) hx]
theorem pow_odd (out x m : Nat) (ho : out < 256) (hx : x < 256) : mul (mul out x) (pow x m) = mul out (pow x (m + 1)) := by
  have e1 : pow x (m + 1) = mul (pow x m) x := rfl
  rw [mul_assoc _ _ _ ho hx, e1, mul_comm x (pow x m) hx (pow_lt x m)]
/-- The loop's round: the exponent's lowest bit, the rest with the square. -/
theorem pow_round (out x n r : Nat) (ho : out < 256) (hx : x < 256) (h : mul out (pow x n) = r) :
    mul (if n % 2 = 1 then mul out x else out) (pow (mul x x) (n / 2)) = r := by
  rw [pow_square x hx, ← h]
  split
  · have e : n = 2 * (n / 2) + 1 := by omega
    rw [pow_odd out x _ ho hx, ← e]
  · have e : 2 * (n / 2) = n := by omega
    rw [e]
theorem pow_end (out x : Nat) (ho : out < 256) : mul out (pow x 0) = out := mul_one out ho
theorem invF_pow : ∀ (f out x n : Nat), n < 2 ^ f → out < 256 → x < 256 → invF f out x n = mul out (pow x n)
  | 0, out, x, n, hn, ho, hx => by
    obtain rfl : n = 0 := by simpa using hn
    exact (pow_end out x ho).symm
  | f + 1, out, x, n, hn, ho, hx => by
    have e : invF (f + 1) out x n = invF f (if n % 2 = 1 then mul out x else out) (mul x x) (n / 2) := rfl
    have ho' : (if n % 2 = 1 then mul out x else out) < 256 := by
      split
      · exact mul_lt _ _ ho
      · exact ho
    rw [e, invF_pow f _ _ _ (by rw [Nat.pow_succ] at hn; omega) ho' (mul_lt _ _ hx)]
    exact pow_round out x n _ ho hx rfl
theorem inv_pow (a : Nat) (h : a < 256) : inv a = pow a 254 := by
  have e : inv a = mul 1 (pow a 254) := invF_pow 8 1 a 254 (by decide) (by decide) h
  rw [e, mul_comm 1 _ (by decide) (pow_lt a 254), mul_one _ (pow_lt a 254)]
end Go.Proofs.YtepnnmckbcomjaaDoor.Fld
