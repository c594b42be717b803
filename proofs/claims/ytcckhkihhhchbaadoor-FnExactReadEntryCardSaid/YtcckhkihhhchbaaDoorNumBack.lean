/- A number's bytes come back from the number that they say. -/
import Derived.Test.YtcckhkihhhchbaaDoorNumMath
namespace Go.Proofs.YtcckhkihhhchbaaDoor
open Go.RowKit Go.Proofs.YtcckhkihhhchbaaDoor.Hexa Go.Proofs.YtcckhkihhhchbaaDoor.Byt

theorem numV_take (l : List UInt8) (i : Nat) (h : i < l.length) : numV (l.take (i + 1)) = 256 * numV (l.take i) + (l[i]'h).toNat := by
  rw [List.take_succ_eq_append_getElem h, numV_snoc]
theorem numV_div (l : List UInt8) : ∀ d i : Nat, i + d = l.length → numV l / 256 ^ d = numV (l.take i)
  | 0, i, h => by rw [List.take_of_length_le (by omega)]; simp
  | d + 1, i, h => by
    have h1 := numV_div l d (i + 1) (by omega)
    have h2 := numV_take l i (by omega)
    have hb := (l[i]'(by omega)).toNat_lt
    rw [Nat.pow_succ, ← Nat.div_div_eq_div_mul, h1, h2]
    omega
theorem numL_back (l : List UInt8) (k : Nat) (hk : l.length = k) : numL (numV l) k k = l := by
  subst hk
  apply List.ext_getElem
  · simp [numL_length]
  · intro j h1 h2
    have hd := numV_div l (l.length - 1 - j) (j + 1) (by omega)
    have ht := numV_take l j h2
    have e : (numL (numV l) l.length l.length)[j] = UInt8.ofNat (numV l / 256 ^ (l.length - 1 - j)) := by simp [numL]
    rw [e, hd, ht]
    apply UInt8.toNat_inj.1
    rw [UInt8.toNat_ofNat']
    have hb := (l[j]'h2).toNat_lt
    omega
theorem pow_cast {m k : Nat} (h : m < 256 ^ k) : (m : Int) < (256 : Int) ^ k := by
  have h2 := Int.ofNat_lt.2 h
  rw [Int.natCast_pow] at h2
  exact h2
/-- The number that a cut of a text says, written again. -/
theorem numText_back (s : ByteArray) (a k : Nat) (hk : 1 ≤ k ∧ k ≤ 7) (h : a + k ≤ s.size) : (numTextB (numAtV s a k) k).data.toList = cutL s a k := by
  have hl := cutL_length s a k h
  have hv : numAtV s a k = (numV (cutL s a k) : Int) := by
    unfold numAtV
    rw [if_pos ⟨by omega, by omega⟩]
    simp
  have hlt := numV_lt (cutL s a k)
  rw [hl] at hlt
  have hI := pow_cast hlt
  unfold numTextB
  rw [hv, if_pos ⟨by omega, by omega, by rw [Int.toNat_natCast]; exact hI⟩]
  simp only [Int.toNat_natCast, numB]
  exact numL_back _ _ hl
theorem numAtV_nat (s : ByteArray) (a k : Nat) (hk : 1 ≤ k ∧ k ≤ 7) (h : a + k ≤ s.size) : numAtV s a k = (numV (cutL s a k) : Int) := by
  unfold numAtV
  rw [if_pos ⟨by omega, by omega⟩]
  simp
theorem numAtV_lt (s : ByteArray) (a k : Nat) (hk : 1 ≤ k ∧ k ≤ 7) (h : a + k ≤ s.size) : 0 ≤ numAtV s a k ∧ numAtV s a k < 256 ^ k := by
  have hl := cutL_length s a k h
  have hlt := numV_lt (cutL s a k)
  rw [hl] at hlt
  rw [numAtV_nat s a k hk h]
  exact ⟨by omega, pow_cast hlt⟩
end Go.Proofs.YtcckhkihhhchbaaDoor
