/- The field of 256 elements in plain numbers: doubling, product, power, inverse, the box. -/
import Derived.Test.YtepnnmckbcomjaaDoorRows
namespace Go.Proofs.YtepnnmckbcomjaaDoor.Fld

/-- The product by 2. -/
def dbl (a : Nat) : Nat := if 255 < 2 * a then (2 * a) ^^^ 283 else 2 * a
/-- The product, f bits of b. -/
def mulF : Nat → Nat → Nat → Nat
  | 0, _, _ => 0
  | f + 1, a, b => (if b % 2 = 1 then a else 0) ^^^ mulF f (dbl a) (b / 2)
def mul (a b : Nat) : Nat := mulF 8 a b

theorem all256 {p : Nat → Bool} (h : (List.range 256).all p = true) (a : Nat) (ha : a < 256) : p a = true := List.all_eq_true.1 h a (List.mem_range.2 ha)

theorem dbl_lt (a : Nat) (h : a < 256) : dbl a < 256 := by
  have := all256 (p := fun a => decide (dbl a < 256)) (by decide +kernel) a h
  simpa using this
theorem dbl_zero : dbl 0 = 0 := rfl
theorem dbl_xor (a b : Nat) (ha : a < 256) (hb : b < 256) : dbl (a ^^^ b) = dbl a ^^^ dbl b := by
  have h := all256 (p := fun a => (List.range 256).all fun b => decide (dbl (a ^^^ b) = dbl a ^^^ dbl b)) (by decide +kernel) a ha
  have := all256 h b hb
  simpa using this

theorem xor_lt {a b : Nat} (ha : a < 256) (hb : b < 256) : a ^^^ b < 256 := Nat.xor_lt_two_pow (n := 8) ha hb
theorem mulF_lt : ∀ (f a b : Nat), a < 256 → mulF f a b < 256
  | 0, _, _, _ => by simp [mulF]
  | f + 1, a, b, h => by
    unfold mulF
    refine xor_lt ?_ (mulF_lt f _ _ (dbl_lt a h))
    split <;> omega
theorem mul_lt (a b : Nat) (h : a < 256) : mul a b < 256 := mulF_lt 8 a b h

theorem xor4 (a b c d : Nat) : (a ^^^ b) ^^^ (c ^^^ d) = (a ^^^ c) ^^^ (b ^^^ d) := by
  rw [Nat.xor_assoc, Nat.xor_assoc, ← Nat.xor_assoc b c d, Nat.xor_comm b c, Nat.xor_assoc c b d]
theorem mulF_left : ∀ (f x y b : Nat), x < 256 → y < 256 → mulF f (x ^^^ y) b = mulF f x b ^^^ mulF f y b
  | 0, _, _, _, _, _ => by simp [mulF]
  | f + 1, x, y, b, hx, hy => by
    unfold mulF
    rw [dbl_xor x y hx hy, mulF_left f (dbl x) (dbl y) (b / 2) (dbl_lt x hx) (dbl_lt y hy), xor4]
    congr 1
    split <;> simp
theorem xor_half (b c : Nat) : (b ^^^ c) / 2 = b / 2 ^^^ c / 2 := by
  have := Nat.xor_div_two_pow (a := b) (b := c) (n := 1)
  simpa using this
theorem xor_odd (b c : Nat) : (b ^^^ c) % 2 = (b % 2 + c % 2) % 2 := by
  have h := Nat.xor_mod_two_pow (a := b) (b := c) (n := 1)
  simp only [Nat.pow_one] at h
  rw [h]
  have h1 : b % 2 = 0 ∨ b % 2 = 1 := by omega
  have h2 : c % 2 = 0 ∨ c % 2 = 1 := by omega
  rcases h1 with h1 | h1 <;> rcases h2 with h2 | h2 <;> rw [h1, h2] <;> rfl
theorem mulF_right : ∀ (f a b c : Nat), mulF f a (b ^^^ c) = mulF f a b ^^^ mulF f a c
  | 0, _, _, _ => by simp [mulF]
  | f + 1, a, b, c => by
    unfold mulF
    rw [xor_half, mulF_right f (dbl a) (b / 2) (c / 2), xor_odd, xor4]
    congr 1
    have h1 : b % 2 = 0 ∨ b % 2 = 1 := by omega
    have h2 : c % 2 = 0 ∨ c % 2 = 1 := by omega
    rcases h1 with h1 | h1 <;> rcases h2 with h2 | h2 <;> rw [h1, h2] <;> simp
theorem mulF_dbl : ∀ (f a b : Nat), a < 256 → mulF f (dbl a) b = dbl (mulF f a b)
  | 0, _, _, _ => by simp [mulF, dbl_zero]
  | f + 1, a, b, h => by
    unfold mulF
    rw [mulF_dbl f (dbl a) (b / 2) (dbl_lt a h), dbl_xor _ _ (by split <;> omega) (mulF_lt f _ _ (dbl_lt a h))]
    congr 1
    split <;> simp [dbl_zero]
theorem mul_comm (a b : Nat) (ha : a < 256) (hb : b < 256) : mul a b = mul b a := by
  have h := all256 (p := fun a => (List.range 256).all fun b => mul a b == mul b a) (by decide +kernel) a ha
  have := all256 h b hb
  simpa using this
theorem mulF_zero : ∀ (f a : Nat), mulF f a 0 = 0
  | 0, _ => rfl
  | f + 1, a => by unfold mulF; simp [mulF_zero f (dbl a)]
theorem dbl_mul (a b : Nat) (ha : a < 256) (hb : b < 256) : dbl (mul a b) = mul a (dbl b) := by
  rw [mul_comm a b ha hb, mul_comm a (dbl b) ha (dbl_lt b hb)]
  exact (mulF_dbl 8 b a hb).symm
theorem mulF_assoc : ∀ (f a b d : Nat), a < 256 → b < 256 → mulF f (mul a b) d = mul a (mulF f b d)
  | 0, a, _, _, _, _ => (mulF_zero 8 a).symm
  | f + 1, a, b, d, ha, hb => by
    unfold mulF
    rw [dbl_mul a b ha hb, mulF_assoc f a (dbl b) (d / 2) ha (dbl_lt b hb)]
    have h := mulF_right 8 a (if d % 2 = 1 then b else 0) (mulF f (dbl b) (d / 2))
    unfold mul
    rw [h]
    congr 1
    split
    · rfl
    · exact (mulF_zero 8 a).symm
theorem mul_assoc (a b d : Nat) (ha : a < 256) (hb : b < 256) : mul (mul a b) d = mul a (mul b d) := mulF_assoc 8 a b d ha hb
theorem mul_xor (a b c : Nat) : mul a (b ^^^ c) = mul a b ^^^ mul a c := mulF_right 8 a b c
theorem mul_one (a : Nat) (h : a < 256) : mul a 1 = a := by
  have := all256 (p := fun a => mul a 1 == a) (by decide +kernel) a h
  simpa using this
theorem dbl_two (a : Nat) (h : a < 256) : dbl a = mul a 2 := by
  have := all256 (p := fun a => dbl a == mul a 2) (by decide +kernel) a h
  simpa using this

/-- a to the power n. -/
def pow (a : Nat) : Nat → Nat
  | 0 => 1
  | n + 1 => mul (pow a n) a
theorem pow_lt (a n : Nat) : pow a n < 256 := by
  induction n with
  | zero => show (1 : Nat) < 256; omega
  | succ n ih => exact mul_lt _ _ ih
/-- The inverse, by squares. -/
def invF : Nat → Nat → Nat → Nat → Nat
  | 0, out, _, _ => out
  | f + 1, out, x, n => invF f (if n % 2 = 1 then mul out x else out) (mul x x) (n / 2)
def inv (a : Nat) : Nat := invF 8 1 a 254
theorem inv_lt (a : Nat) (h : a < 256) : inv a < 256 := by
  have := all256 (p := fun a => decide (inv a < 256)) (by decide +kernel) a h
  simpa using this
theorem mul_inv (a : Nat) (h0 : 0 < a) (h : a < 256) : mul a (inv a) = 1 := by
  have := all256 (p := fun a => decide (a = 0) || mul a (inv a) == 1) (by decide +kernel) a h
  simp at this
  omega
theorem inv_zero : inv 0 = 0 := by decide +kernel
/-- An inverse is the inverse. -/
theorem inv_unique (a b : Nat) (ha : a < 256) (h0 : 0 < a) (hb : b < 256) (h : mul a b = 1) : b = inv a := by
  have hi := inv_lt a ha
  have h1 : mul b (mul a (inv a)) = b := by rw [mul_inv a h0 ha, mul_one b hb]
  rw [← mul_assoc b a (inv a) hb ha, mul_comm b a hb ha, h, mul_comm 1 (inv a) (by omega) hi, mul_one _ hi] at h1
  exact h1.symm

/-- The box of a byte whose inverse this is, k turns of it. -/
def turnF (b : Nat) : Nat → Nat
  | 0 => 99
  | k + 1 => turnF b k ^^^ (((b * 2 ^ k) ||| (b / 2 ^ (8 - k))) &&& 255)
def box (a : Nat) : Nat := turnF (inv a) 5
theorem turnF_lt (b : Nat) : ∀ k, turnF b k < 256
  | 0 => by show (99 : Nat) < 256; omega
  | k + 1 => xor_lt (turnF_lt b k) (Nat.lt_of_le_of_lt Nat.and_le_right (by omega))
end Go.Proofs.YtepnnmckbcomjaaDoor.Fld
