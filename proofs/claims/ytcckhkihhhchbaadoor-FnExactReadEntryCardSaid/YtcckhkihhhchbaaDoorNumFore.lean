/- A number's text says the number. -/
import Derived.Test.YtcckhkihhhchbaaDoorNumMath
namespace Go.Proofs.YtcckhkihhhchbaaDoor
open Go.RowKit Go.Proofs.YtcckhkihhhchbaaDoor.Hexa Go.Proofs.YtcckhkihhhchbaaDoor.Byt

/-- A number's bytes say it. -/
theorem numV_num (m k : Nat) (h : m < 256 ^ k) : numV (numL m k k) = m := by
  have H : ∀ j, j ≤ k → numV (numL m k j) = m / 256 ^ (k - j) := by
    intro j
    induction j with
    | zero => intro _; rw [Nat.sub_zero, Nat.div_eq_of_lt h]; rfl
    | succ j ih =>
      intro hj
      rw [← numL_next, numV_snoc, ih (by omega), UInt8.toNat_ofNat']
      have e : k - j = (k - 1 - j) + 1 := by omega
      rw [e, Nat.pow_succ, ← Nat.div_div_eq_div_mul, show k - (j + 1) = k - 1 - j by omega]
      have := Nat.div_add_mod (m / 256 ^ (k - 1 - j)) 256
      omega
  have := H k (Nat.le_refl _)
  simpa using this
theorem numAt_fore (s : ByteArray) (a k : Nat) (n : Int) (hk : 1 ≤ k ∧ k ≤ 7) (h : a + k ≤ s.size) (h0 : 0 ≤ n) (h1 : n < 256 ^ k) (hc : cutL s a k = (numTextB n k).data.toList) : numAtV s a k = n := by
  have e : numTextB n k = numB n.toNat k := by
    unfold numTextB
    rw [if_pos ⟨h0, by omega, by simpa using h1⟩]
    simp
  have e2 : (numTextB n k).data.toList = numL n.toNat k k := by rw [e]; rfl
  have e3 : numAtV s a k = (numV (cutL s a k) : Int) := by
    unfold numAtV
    rw [if_pos ⟨by omega, by omega⟩]
    simp
  have h2 : n.toNat < 256 ^ k := by
    have h3 : ((n.toNat : Nat) : Int) < ((256 ^ k : Nat) : Int) := by rw [Int.toNat_of_nonneg h0]; simpa using h1
    exact Int.ofNat_lt.1 h3
  rw [e3, hc, e2, numV_num _ _ h2, Int.toNat_of_nonneg h0]
end Go.Proofs.YtcckhkihhhchbaaDoor
