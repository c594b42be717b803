/- Plain facts about reading decimal numerals: what ReadDecimal returns, and how the library's Atoi ends at a numeral. -/
import Derived.Test.YtlnfbddamlhifaaDoorDecMath
import Derived.Lib.AtoiAll
namespace Go.Proofs.YtlnfbddamlhifaaDoor.Parts
open Go.RowKit Go.Lib

/-- The numeral of n. -/
def num (n : Nat) : List UInt8 := decDigits n

theorem itoa_num (n : Nat) : itoa (n : Int) = num n := by unfold itoa num; rw [if_neg (by omega), Int.toNat_natCast]
theorem num_small {n : Nat} (h : n < 10) : num n = [UInt8.ofNat (48 + n)] := by unfold num; rw [decDigits, dif_pos h]
theorem num_big {n : Nat} (h : ¬ n < 10) : num n = num (n / 10) ++ [UInt8.ofNat (48 + n % 10)] := by unfold num; rw [decDigits, dif_neg h]
theorem digit_nat (k : Nat) (h : k < 10) : (UInt8.ofNat (48 + k)).toNat = 48 + k := by rw [UInt8.toNat_ofNat']; omega

/-- Every byte of a numeral is a digit. -/
theorem num_digits (n : Nat) : ∀ c ∈ num n, 48 ≤ c.toNat ∧ c.toNat ≤ 57 := by
  induction n using Nat.strongRecOn with
  | _ n ih =>
    intro c hc
    by_cases h : n < 10
    · rw [num_small h] at hc
      obtain rfl := List.mem_singleton.1 hc
      rw [digit_nat n h]; omega
    · rw [num_big h] at hc
      rcases List.mem_append.1 hc with h1 | h1
      · exact ih (n / 10) (by omega) c h1
      · obtain rfl := List.mem_singleton.1 h1
        rw [digit_nat _ (by omega)]; omega
theorem num_ne (n : Nat) : num n ≠ [] := by
  by_cases h : n < 10
  · rw [num_small h]; simp
  · rw [num_big h]; simp
theorem num_length (k : Nat) : ∀ n, n < 10 ^ (k + 1) → (num n).length ≤ k + 1 := by
  induction k with
  | zero => intro n h; rw [num_small (by omega)]; simp
  | succ k ih =>
    intro n h
    by_cases h10 : n < 10
    · rw [num_small h10]; simp
    · rw [num_big h10]
      have := ih (n / 10) (by rw [Nat.pow_succ] at h; omega)
      simp; omega

/-- The number that digits spell. -/
def valN (l : List UInt8) : Nat := l.foldl (fun a c => 10 * a + (c.toNat - 48)) 0
theorem valN_snoc (l : List UInt8) (c : UInt8) : valN (l ++ [c]) = 10 * valN l + (c.toNat - 48) := by simp [valN, List.foldl_append]
theorem valN_num (n : Nat) : valN (num n) = n := by
  induction n using Nat.strongRecOn with
  | _ n ih =>
    by_cases h : n < 10
    · rw [num_small h]
      have := digit_nat n h
      show 10 * 0 + ((UInt8.ofNat (48 + n)).toNat - 48) = n
      omega
    · rw [num_big h, valN_snoc, ih (n / 10) (by omega), digit_nat _ (by omega)]; omega

theorem parse_snoc : ∀ (l : List UInt8) (acc u : Nat) (c : UInt8), parseUint10 acc l = .ok u → parseUint10 acc (l ++ [c]) = parseUint10 u [c]
  | [], acc, u, c, h => by
    simp only [parseUint10] at h
    injection h with h
    subst h; rfl
  | d :: r, acc, u, c, h => by
    simp only [parseUint10] at h
    rw [List.cons_append]
    split at h
    · rename_i h1
      split at h
      · cases h
      · rename_i h2
        split at h
        · cases h
        · rename_i h3
          rw [parseUint10, if_pos h1, if_neg h2, if_neg h3]
          exact parse_snoc r _ u c h
    · cases h

theorem parse_num (n : Nat) (hn : n ≤ 1000000000) : parseUint10 0 (num n) = .ok n := by
  induction n using Nat.strongRecOn with
  | _ n ih =>
    by_cases h : n < 10
    · rw [num_small h, parseUint10, digit_nat n h, if_pos (by omega), if_neg (by omega), if_neg (by omega), parseUint10]
      congr 1; omega
    · rw [num_big h, parse_snoc _ 0 (n / 10) _ (ih (n / 10) (by omega) (by omega)), parseUint10, digit_nat _ (by omega), if_pos (by omega), if_neg (by omega), if_neg (by omega), parseUint10]
      congr 1; omega

/-- How Atoi ends at a numeral. -/
theorem atoi_num (n : Nat) (hn : n ≤ 1000000000) : atoiAll (num n) = .ok (n : Int) := by
  have hd := num_digits n
  have hp := parse_num n hn
  have hne := num_ne n
  generalize num n = l at *
  cases l with
  | nil => exact absurd rfl hne
  | cons c r =>
    have hc := hd c (by simp)
    have e1 : ¬ c.toNat = 43 := by omega
    have e2 : ¬ c.toNat = 45 := by omega
    have hm : parseMag (c :: r) = .ok n := by
      unfold parseMag; rw [if_neg (by simp)]; exact hp
    unfold atoiAll
    simp only [hm, e1, e2, or_self, not_false_eq_true, true_and, false_and, if_false]
    rw [if_neg (by omega)]

/-- Is the text the numeral of a number up to 10^9? -/
def Spells (s : ByteArray) (n : Nat) : Prop := n ≤ 1000000000 ∧ s.data.toList = num n

theorem spells_atoi {s : ByteArray} {n : Nat} (h : Spells s n) : atoiAll s.data.toList = .ok (n : Int) := by rw [h.2]; exact atoi_num n h.1
theorem spells_val {s : ByteArray} {n : Nat} (h : Spells s n) : valN s.data.toList = n := by rw [h.2]; exact valN_num n
theorem spells_size {s : ByteArray} {n : Nat} (h : Spells s n) : s.size ≤ 10 := by
  have h1 : s.data.toList.length = s.size := by simp
  rw [← h1, h.2]
  exact num_length 9 n (by have := h.1; omega)
theorem spells_digits {s : ByteArray} {n : Nat} (h : Spells s n) (i : Nat) (hi : i < s.size) : (48 : Int) ≤ s[i].toNat ∧ (s[i].toNat : Int) ≤ 57 := by
  have hm : s[i] ∈ s.data.toList := by
    have : s[i] = s.data.toList[i]'(by simpa using hi) := rfl
    rw [this]; exact List.getElem_mem _
  rw [h.2] at hm
  have := num_digits n _ hm
  omega
theorem spells_text {s : ByteArray} {n : Nat} (h : Spells s n) : (⟨(itoa (n : Int)).toArray⟩ : ByteArray) = s := by
  apply ByteArray.ext
  apply Array.toList_inj.1
  rw [itoa_num, h.2]
theorem spells_of_text {s : ByteArray} {n : Nat} (hn : n ≤ 1000000000) (h : (⟨(itoa (n : Int)).toArray⟩ : ByteArray) = s) : Spells s n := ⟨hn, by rw [← h, itoa_num]⟩

open Classical in
noncomputable def rdN (s : ByteArray) : Int := if h : ∃ n, Spells s n then (h.choose : Int) else 0
open Classical in
noncomputable def rdOk (s : ByteArray) : Bool := if ∃ n, Spells s n then true else false
theorem rd_yes {s : ByteArray} {n : Nat} (h : Spells s n) : rdN s = n ∧ rdOk s = true := by
  have hx : ∃ n, Spells s n := ⟨n, h⟩
  refine ⟨?_, by unfold rdOk; rw [if_pos hx]⟩
  unfold rdN
  rw [dif_pos hx]
  have h2 := spells_val hx.choose_spec
  have h3 := spells_val h
  omega
theorem rd_no {s : ByteArray} (h : ∀ n, ¬ Spells s n) : rdN s = 0 ∧ rdOk s = false := by
  have hx : ¬ ∃ n, Spells s n := fun ⟨n, k⟩ => h n k
  exact ⟨by unfold rdN; rw [dif_neg hx], by unfold rdOk; rw [if_neg hx]⟩
theorem text_yes {l : List UInt8} {s : ByteArray} (h : (⟨l.toArray⟩ : ByteArray) = s) : (l == s.toList) = true := by
  rw [ByteArray.toList_eq, ← h]; simp
theorem text_no {l : List UInt8} {s : ByteArray} (h : ¬ (⟨l.toArray⟩ : ByteArray) = s) : (l == s.toList) = false := by
  rw [ByteArray.toList_eq, beq_eq_false_iff_ne]
  intro e
  exact h (ByteArray.ext (Array.toList_inj.1 (by rw [e])))
theorem ret_rd {a b : Int} {c d : Bool} (h : b = a ∧ d = c) : Ending.returned (.tuple #[.int .i64 a, .bool c]) = Ending.returned (.tuple #[.int .i64 b, .bool d]) := by rw [h.1, h.2]
end Go.Proofs.YtlnfbddamlhifaaDoor.Parts
