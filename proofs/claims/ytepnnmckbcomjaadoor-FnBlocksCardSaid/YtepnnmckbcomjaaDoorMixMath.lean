/- A mixed byte, factor by factor. -/
import Derived.Test.YtepnnmckbcomjaaDoorAesMath
namespace Go.Proofs.YtepnnmckbcomjaaDoor.Aes
open Go.Proofs.YtepnnmckbcomjaaDoor.Fld

/-- The factors of a column's bytes, counted from the row that is computed. -/
def facN : Nat → Nat
  | 0 => 2
  | 1 => 3
  | _ => 1
theorem facN_lt : ∀ k, facN k < 256
  | 0 => by decide
  | 1 => by decide
  | _ + 2 => by show 1 < 256; decide
/-- Byte p of a mixed block, when the first k factors are in. -/
def mixTo (l : List UInt8) (p : Nat) : Nat → UInt8
  | 0 => 0
  | k + 1 => mixTo l p k ^^^ UInt8.ofNat (mul (l.getD (4 * (p / 4) + (p % 4 + k) % 4) 0).toNat (facN k))
theorem mul_two (a : UInt8) : UInt8.ofNat (mul a.toNat 2) = dblU a := by rw [← dbl_two _ a.toNat_lt]; rfl
theorem mul_one8 (a : UInt8) : UInt8.ofNat (mul a.toNat 1) = a := by rw [mul_one _ a.toNat_lt]; simp
theorem mul_three (a : UInt8) : UInt8.ofNat (mul a.toNat 3) = dblU a ^^^ a := by
  have h := mul_xor a.toNat 2 1
  have l1 := dbl_lt _ a.toNat_lt
  have l2 := a.toNat_lt
  rw [show (2 ^^^ 1 : Nat) = 3 from rfl, ← dbl_two _ a.toNat_lt, mul_one _ a.toNat_lt] at h
  rw [h]
  apply UInt8.toNat_inj.1
  unfold dblU
  rw [UInt8.toNat_xor, UInt8.toNat_ofNat', UInt8.toNat_ofNat', Nat.mod_eq_of_lt l1, Nat.mod_eq_of_lt (xor_lt l1 l2)]
theorem mixTo_four (l : List UInt8) (p : Nat) : mixTo l p 4 = mixAt l p := by
  have h (x : Nat) : p % 4 % 4 = p % 4 := by omega
  simp only [mixTo, facN, mul_two, mul_three, mul_one8, Nat.add_zero]
  rw [h 0]
  unfold mixAt mixB
  simp only [UInt8.zero_xor, UInt8.xor_assoc]
end Go.Proofs.YtepnnmckbcomjaaDoor.Aes
