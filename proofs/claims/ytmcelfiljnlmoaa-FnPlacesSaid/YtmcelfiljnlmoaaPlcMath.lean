/- The places of a part: which words they are, and of what kind. -/
import Derived.Test.YtmcelfiljnlmoaaGeo
namespace Go.Proofs.Ytmcelfiljnlmoaa
namespace Plc

/-- The kind of the word k of a part. -/
def kindZ (I k : Int) : Int := if k = 0 then 1 else if k = 2 then 2 else if k < 4 then 0 else if k < 36 then 3 else if k < 38 then 4 else if k < 38 + 8 * I then 5 else 6
/-- The j-th place of a part, counted without the words that have no place of their own. -/
def pl (j : Nat) : Nat := if j = 0 then 0 else if j = 1 then 2 else if j < 34 then j + 2 else j + 4
def kd (I : Int) (j : Nat) : Int := if j = 0 then 1 else if j = 1 then 2 else if j < 34 then 3 else if (j : Int) < 34 + 8 * I then 5 else 6
theorem pl_mono {i j : Nat} (h : i < j) : pl i < pl j := by unfold pl; (repeat' split) <;> omega
theorem pl_le (j : Nat) : pl j ≤ j + 4 := by unfold pl; split <;> (try split) <;> (try split) <;> omega
theorem pl_journal {i : Nat} (h : i < 32) : pl (2 + i) = 4 + i := by unfold pl; rw [if_neg (by omega), if_neg (by omega), if_pos (by omega)]; omega
theorem pl_later (i : Nat) : pl (34 + i) = 38 + i := by unfold pl; rw [if_neg (by omega), if_neg (by omega), if_neg (by omega)]; omega
theorem kd_journal {I : Int} {i : Nat} (h : i < 32) : kd I (2 + i) = 3 := by unfold kd; rw [if_neg (by omega), if_neg (by omega), if_pos (by omega)]
theorem kd_inode {I : Int} {i : Nat} (h : (i : Int) < 8 * I) : kd I (34 + i) = 5 := by unfold kd; rw [if_neg (by omega), if_neg (by omega), if_neg (by omega), if_pos (by omega)]
theorem kd_page {I : Int} {i : Nat} (h : 8 * I ≤ (i : Int)) : kd I (34 + i) = 6 := by unfold kd; rw [if_neg (by omega), if_neg (by omega), if_neg (by omega), if_neg (by omega)]
theorem kindZ_pl (I : Int) (j : Nat) : kindZ I (pl j) = kd I j := by
  unfold kindZ kd pl
  by_cases h0 : j = 0
  · subst h0; simp
  by_cases h1 : j = 1
  · subst h1; simp
  rw [if_neg h0, if_neg h1, if_neg h0, if_neg h1]
  by_cases h2 : j < 34
  · rw [if_pos h2, if_pos h2, if_neg (by omega), if_neg (by omega), if_neg (by omega), if_pos (by omega)]
  · rw [if_neg h2, if_neg h2, if_neg (by omega), if_neg (by omega), if_neg (by omega), if_neg (by omega), if_neg (by omega)]
    by_cases h3 : (j : Int) < 34 + 8 * I
    · rw [if_pos h3, if_pos (by omega)]
    · rw [if_neg h3, if_neg (by omega)]

/-- The places of a tenant whose part begins at c, and their kinds. -/
def atL (c : Int) (k : Nat) : List Int := (List.range k).map fun j => c + pl j
def kdL (I : Int) (k : Nat) : List Int := (List.range k).map fun j => kd I j
theorem atL_length (c : Int) (k : Nat) : (atL c k).length = k := by simp [atL]
theorem kdL_length (I : Int) (k : Nat) : (kdL I k).length = k := by simp [kdL]
theorem atL_succ (c : Int) (k : Nat) : atL c (k + 1) = atL c k ++ [c + pl k] := by simp [atL, List.range_succ]
theorem kdL_succ (I : Int) (k : Nat) : kdL I (k + 1) = kdL I k ++ [kd I k] := by simp [kdL, List.range_succ]
theorem atL_at (c : Int) {j k : Nat} (h : j < k) : (atL c k).getD j 0 = c + pl j := by simp [atL, List.getD, h]
theorem kdL_at (I : Int) {j k : Nat} (h : j < k) : (kdL I k).getD j 0 = kd I j := by simp [kdL, List.getD, h]
theorem atL_two (c : Int) : atL c 2 = [c, c + 2] := by simp [atL, List.range_succ, pl]
theorem kdL_two (I : Int) : kdL I 2 = [1, 2] := by simp [kdL, List.range_succ, kd]

/-- A place's tenant and the word in its part. -/
theorem at_div {W t : Int} {k : Nat} (hW : (k : Int) < W) : (t * W + k) / W = t := by
  have h0 : (0 : Int) < W := by omega
  rw [Int.add_comm, Int.add_mul_ediv_right _ _ (by omega), Int.ediv_eq_zero_of_lt (by omega) hW]; omega
theorem at_mod {W t : Int} {k : Nat} (hW : (k : Int) < W) : (t * W + k) % W = k := by
  rw [Int.add_comm, Int.add_mul_emod_self_right, Int.emod_eq_of_lt (by omega) hW]
theorem three {t : Int} (h0 : 0 ≤ t) (h1 : t ≤ 2) : t = 0 ∨ t = 1 ∨ t = 2 := by omega
/-- A part's beginning: a multiple of its words, with bounds. -/
theorem mul_le {t T W : Int} (h1 : t < T) (hW : 0 ≤ W) : t * W + W ≤ T * W := by
  have h : (t + 1) * W ≤ T * W := Int.mul_le_mul_of_nonneg_right (by omega) hW
  rw [Int.add_mul, Int.one_mul] at h; exact h
theorem mul_nonneg' {t W : Int} (h0 : 0 ≤ t) (hW : 0 ≤ W) : 0 ≤ t * W := Int.mul_nonneg h0 hW
theorem mul_bd {T W : Int} (h0 : 0 ≤ T) (h1 : T ≤ 3) (hW : 0 ≤ W) (h2 : W ≤ 134) : 0 ≤ T * W ∧ T * W ≤ 402 := by
  refine ⟨Int.mul_nonneg h0 hW, ?_⟩
  have h : T * W ≤ 3 * W := Int.mul_le_mul_of_nonneg_right h1 hW
  omega
end Plc
end Go.Proofs.Ytmcelfiljnlmoaa
