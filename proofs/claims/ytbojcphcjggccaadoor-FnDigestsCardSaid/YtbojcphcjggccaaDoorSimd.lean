/- Many words side by side in one number: each in a lane of 64 bits. -/
import Derived.WalkKit
namespace Go.Proofs.YtbojcphcjggccaaDoor.Simd

/-- f 0, f 1, .. f (n - 1), each in a lane of its own. -/
def pn (f : Nat → Nat) : Nat → Nat
  | 0 => 0
  | n + 1 => 2 ^ (64 * n) * f n + pn f n

theorem pn_lt {f : Nat → Nat} (hf : ∀ l, f l < 18446744073709551616) : ∀ n, pn f n < 2 ^ (64 * n)
  | 0 => by show 0 < 2 ^ 0; omega
  | n + 1 => by
    have h := pn_lt hf n
    have h1 : f n + 1 ≤ 2 ^ 64 := hf n
    have h2 : 2 ^ (64 * n) * (f n + 1) ≤ 2 ^ (64 * n) * 2 ^ 64 := Nat.mul_le_mul_left _ h1
    have e : 2 ^ (64 * (n + 1)) = 2 ^ (64 * n) * 2 ^ 64 := by rw [← Nat.pow_add]; rfl
    show 2 ^ (64 * n) * f n + pn f n < _
    rw [e]
    rw [Nat.mul_add] at h2
    omega

theorem pn_testBit {f : Nat → Nat} (hf : ∀ l, f l < 18446744073709551616) : ∀ n j, (pn f n).testBit j = (decide (j < 64 * n) && (f (j / 64)).testBit (j % 64))
  | 0, j => by
    have e : pn f 0 = 0 := rfl
    rw [e, Nat.zero_testBit, decide_eq_false (by omega)]; rfl
  | n + 1, j => by
    show (2 ^ (64 * n) * f n + pn f n).testBit j = _
    rw [Nat.testBit_two_pow_mul_add (f n) (pn_lt hf n) j, pn_testBit hf n j]
    by_cases h : j < 64 * n
    · rw [if_pos h, decide_eq_true h, decide_eq_true (show j < 64 * (n + 1) by omega)]
    · rw [if_neg h]
      by_cases h2 : j < 64 * (n + 1)
      · rw [decide_eq_true h2, show j / 64 = n by omega, show j % 64 = j - 64 * n by omega]; rfl
      · rw [decide_eq_false h2, Bool.false_and]
        refine Nat.testBit_lt_two_pow (Nat.lt_of_lt_of_le (show f n < 2 ^ 64 from hf n) (Nat.pow_le_pow_right (by omega) (by omega)))

theorem pn_congr {f g : Nat → Nat} (h : ∀ l, f l = g l) (n : Nat) : pn f n = pn g n := by rw [show f = g from funext h]

theorem pn_and {f g : Nat → Nat} (hf : ∀ l, f l < 18446744073709551616) (hg : ∀ l, g l < 18446744073709551616) (n : Nat) : Nat.land (pn f n) (pn g n) = pn (fun l => f l &&& g l) n := by
  show pn f n &&& pn g n = _
  have hfg : ∀ l, (fun l => f l &&& g l) l < 18446744073709551616 := fun l => Nat.lt_of_le_of_lt Nat.and_le_left (hf l)
  refine Nat.eq_of_testBit_eq fun j => ?_
  rw [Nat.testBit_and, pn_testBit hf, pn_testBit hg, pn_testBit hfg, Nat.testBit_and]
  cases decide (j < 64 * n) <;> simp
theorem pn_xor {f g : Nat → Nat} (hf : ∀ l, f l < 18446744073709551616) (hg : ∀ l, g l < 18446744073709551616) (n : Nat) : Nat.xor (pn f n) (pn g n) = pn (fun l => f l ^^^ g l) n := by
  show pn f n ^^^ pn g n = _
  have hfg : ∀ l, (fun l => f l ^^^ g l) l < 18446744073709551616 := fun l => Nat.xor_lt_two_pow (n := 64) (hf l) (hg l)
  refine Nat.eq_of_testBit_eq fun j => ?_
  rw [Nat.testBit_xor, pn_testBit hf, pn_testBit hg, pn_testBit hfg, Nat.testBit_xor]
  cases decide (j < 64 * n) <;> simp
theorem pn_add (f g : Nat → Nat) : ∀ n, Nat.add (pn f n) (pn g n) = pn (fun l => f l + g l) n
  | 0 => rfl
  | n + 1 => by
    have h := pn_add f g n
    show 2 ^ (64 * n) * f n + pn f n + (2 ^ (64 * n) * g n + pn g n) = 2 ^ (64 * n) * (f n + g n) + pn (fun l => f l + g l) n
    rw [← h, Nat.mul_add]
    show _ = _ + (pn f n + pn g n)
    omega
theorem pn_mul (f : Nat → Nat) (c : Nat) : ∀ n, Nat.mul (pn f n) c = pn (fun l => f l * c) n
  | 0 => Nat.zero_mul c
  | n + 1 => by
    have h := pn_mul f c n
    show (2 ^ (64 * n) * f n + pn f n) * c = 2 ^ (64 * n) * (f n * c) + pn (fun l => f l * c) n
    rw [← h, Nat.add_mul, Nat.mul_assoc]; rfl
theorem and_low (x : Nat) : x &&& 4294967295 = x % 4294967296 := Nat.and_two_pow_sub_one_eq_mod x 32
theorem pn_mask {f : Nat → Nat} (hf : ∀ l, f l < 18446744073709551616) (n : Nat) : Nat.land (pn f n) (pn (fun _ => 4294967295) n) = pn (fun l => f l % 4294967296) n := by
  rw [pn_and hf (fun _ => by omega)]
  exact pn_congr (fun l => and_low (f l)) n
theorem pn_shr {f : Nat → Nat} (hf : ∀ l, f l < 18446744073709551616) (n r : Nat) (hr : r ≤ 32) : Nat.land (Nat.shiftRight (pn f n) r) (pn (fun _ => 4294967295) n) = pn (fun l => (f l / 2 ^ r) % 4294967296) n := by
  show (pn f n >>> r) &&& pn (fun _ => 4294967295) n = _
  have hm : ∀ l : Nat, (fun _ => 4294967295 : Nat → Nat) l < 18446744073709551616 := fun _ => by show 4294967295 < 18446744073709551616; omega
  have hq : ∀ l, (fun l => (f l / 2 ^ r) % 4294967296) l < 18446744073709551616 := fun l => by
    have : (f l / 2 ^ r) % 4294967296 < 4294967296 := Nat.mod_lt _ (by omega)
    show (f l / 2 ^ r) % 4294967296 < _
    omega
  refine Nat.eq_of_testBit_eq fun j => ?_
  rw [Nat.testBit_and, Nat.testBit_shiftRight, pn_testBit hf, pn_testBit hm, pn_testBit hq]
  have e1 : (4294967295 : Nat).testBit (j % 64) = decide (j % 64 < 32) := Nat.testBit_two_pow_sub_one 32 (j % 64)
  have e2 : ((f (j / 64) / 2 ^ r) % 4294967296).testBit (j % 64) = (decide (j % 64 < 32) && (f (j / 64)).testBit (j % 64 + r)) := by
    rw [show (4294967296 : Nat) = 2 ^ 32 from rfl, Nat.testBit_mod_two_pow, Nat.testBit_div_two_pow]
  show _ = (decide (j < 64 * n) && ((f (j / 64) / 2 ^ r) % 4294967296).testBit (j % 64))
  rw [e1, e2]
  by_cases h : j % 64 < 32
  · rw [show (r + j) / 64 = j / 64 by omega, show (r + j) % 64 = j % 64 + r by omega, decide_eq_true h]
    by_cases h2 : j < 64 * n
    · rw [decide_eq_true h2, decide_eq_true (show r + j < 64 * n by omega)]; simp
    · rw [decide_eq_false h2, decide_eq_false (show ¬ r + j < 64 * n by omega)]; simp
  · rw [decide_eq_false h]; simp
/-- All lanes one place down. -/
theorem pn_down {f : Nat → Nat} (hf : ∀ l, f l < 18446744073709551616) (n : Nat) : Nat.shiftRight (pn f n) 64 = pn (fun l => if l + 1 < n then f (l + 1) else 0) n := by
  show pn f n >>> 64 = _
  have hq : ∀ l, (fun l => if l + 1 < n then f (l + 1) else 0) l < 18446744073709551616 := fun l => by
    show (if l + 1 < n then f (l + 1) else 0) < _
    split
    · exact hf _
    · omega
  refine Nat.eq_of_testBit_eq fun j => ?_
  rw [Nat.testBit_shiftRight, pn_testBit hf, pn_testBit hq]
  show _ = (decide (j < 64 * n) && (if j / 64 + 1 < n then f (j / 64 + 1) else 0).testBit (j % 64))
  rw [show (64 + j) / 64 = j / 64 + 1 by omega, show (64 + j) % 64 = j % 64 by omega]
  by_cases h : j / 64 + 1 < n
  · rw [if_pos h, decide_eq_true (show 64 + j < 64 * n by omega), decide_eq_true (show j < 64 * n by omega)]
  · rw [if_neg h, decide_eq_false (show ¬ 64 + j < 64 * n by omega), Nat.zero_testBit]; simp
/-- What lies in a lane. -/
theorem pn_lane {f g : Nat → Nat} (hf : ∀ l, f l < 18446744073709551616) (hg : ∀ l, g l < 18446744073709551616) {n : Nat} (h : pn f n = pn g n) (l : Nat) (hl : l < n) : f l = g l := by
  refine Nat.eq_of_testBit_eq fun i => ?_
  by_cases hi : i < 64
  · have h1 := congrArg (fun x => x.testBit (64 * l + i)) h
    simp only [pn_testBit hf, pn_testBit hg] at h1
    rw [show (64 * l + i) / 64 = l by omega, show (64 * l + i) % 64 = i by omega, decide_eq_true (show 64 * l + i < 64 * n by omega)] at h1
    simpa using h1
  · have big : ∀ x : Nat, x < 18446744073709551616 → x.testBit i = false := fun x hx => Nat.testBit_lt_two_pow (Nat.lt_of_lt_of_le (show x < 2 ^ 64 from hx) (Nat.pow_le_pow_right (by omega) (by omega)))
    rw [big _ (hf l), big _ (hg l)]
/-- Ones, and the numbers from g on, in 2 ^ m lanes. -/
def ones : Nat → Nat
  | 0 => 1
  | m + 1 => Nat.add (ones m) (Nat.mul (ones m) (Nat.pow 2 (Nat.mul 64 (Nat.pow 2 m))))
def iota (g : Nat) : Nat → Nat
  | 0 => g
  | m + 1 => Nat.add (iota g m) (Nat.mul (Nat.add (iota g m) (Nat.mul (ones m) (Nat.pow 2 m))) (Nat.pow 2 (Nat.mul 64 (Nat.pow 2 m))))
theorem pn_append (f : Nat → Nat) (a : Nat) : ∀ b, pn f (a + b) = pn f a + pn (fun l => f (a + l)) b * 2 ^ (64 * a)
  | 0 => by show pn f a = pn f a + 0 * _; omega
  | b + 1 => by
    have h := pn_append f a b
    show 2 ^ (64 * (a + b)) * f (a + b) + pn f (a + b) = pn f a + (2 ^ (64 * b) * f (a + b) + pn (fun l => f (a + l)) b) * 2 ^ (64 * a)
    rw [h, Nat.add_mul, show 64 * (a + b) = 64 * b + 64 * a by omega, Nat.pow_add, Nat.mul_assoc (2 ^ (64 * b)) (f (a + b)), Nat.mul_comm (f (a + b)) (2 ^ (64 * a)), ← Nat.mul_assoc]
    omega
theorem ones_pn : ∀ m, ones m = pn (fun _ => 1) (2 ^ m)
  | 0 => rfl
  | m + 1 => by
    have h := ones_pn m
    rw [show 2 ^ (m + 1) = 2 ^ m + 2 ^ m by rw [Nat.pow_succ]; omega, pn_append, ← h]; rfl
theorem iota_pn (g : Nat) : ∀ m, iota g m = pn (fun l => g + l) (2 ^ m)
  | 0 => by show g = 2 ^ 0 * (g + 0) + 0; omega
  | m + 1 => by
    have h := iota_pn g m
    have h1 := ones_pn m
    have e : pn (fun l => g + (2 ^ m + l)) (2 ^ m) = iota g m + ones m * 2 ^ m := by
      have h2 := pn_mul (fun _ => 1) (2 ^ m) (2 ^ m)
      have h3 := pn_add (fun l => g + l) (fun _ => 1 * 2 ^ m) (2 ^ m)
      rw [h, h1]
      show _ = pn (fun l => g + l) (2 ^ m) + Nat.mul (pn (fun _ => 1) (2 ^ m)) (2 ^ m)
      rw [h2]
      show _ = Nat.add _ _
      rw [h3]
      exact pn_congr (fun l => by omega) _
    rw [show 2 ^ (m + 1) = 2 ^ m + 2 ^ m by rw [Nat.pow_succ]; omega, pn_append, e, ← h]; rfl
end Go.Proofs.YtbojcphcjggccaaDoor.Simd
