/- Chapter 4: what its functions return, without a program. -/
import Derived.Test.YtmcelfiljnlmoaaLongMath
import Derived.Test.YtmcelfiljnlmoaaPartsMath
import Derived.Deep.QuietTactic
import Derived.BigQuiet
namespace Go.Proofs.Ytmcelfiljnlmoaa
open Go.RowKit Go.Proofs.Ytmcelfiljnlmoaa.Hexa Go.Proofs.Ytmcelfiljnlmoaa.Byt Go.Proofs.Ytmcelfiljnlmoaa.BitsM Go.Proofs.Ytmcelfiljnlmoaa.Parts

/-- n zero bytes; none where n is not from 0 to 20000. -/
def zeroB (n : Int) : ByteArray := if 0 ≤ n ∧ n ≤ 20000 then longB n.toNat 0 else ⟨#[]⟩
/-- A text with zero bytes behind it, eight in all; none for a longer one. -/
def wordB (s : ByteArray) : ByteArray := if s.size ≤ 8 then s ++ longB (8 - s.size) 0 else ⟨#[]⟩
theorem zeroB_of (s : ByteArray) (h : s.size ≤ 8) : zeroB (8 - (s.size : Int)) = longB (8 - s.size) 0 := by
  unfold zeroB
  rw [if_pos (by omega), show (8 - (s.size : Int)).toNat = 8 - s.size by omega]
/-- Two texts of one length combined, the first k bytes of them. -/
def xorL (a b : ByteArray) (k : Nat) : List UInt8 := (List.zipWith (· ^^^ ·) a.data.toList b.data.toList).take k
def xorT (a b : ByteArray) : ByteArray := if a.size = b.size then ⟨(xorL a b a.size).toArray⟩ else ⟨#[]⟩
theorem xorL_length (a b : ByteArray) (hl : a.size = b.size) (k : Nat) (hk : k ≤ a.size) : (xorL a b k).length = k := by
  have h1 : a.data.toList.length = a.size := by simp
  have h2 : b.data.toList.length = b.size := by simp
  unfold xorL
  rw [List.length_take, List.length_zipWith]
  omega
theorem xorL_next (a b : ByteArray) (k : Nat) (ha : k < a.size) (hb : k < b.size) : bcells (xorL a b k) ++ [.int .u8 (((a[k]'ha) ^^^ (b[k]'hb)).toNat : Int)] = bcells (xorL a b (k + 1)) := by
  have h1 : k < a.data.toList.length := by simpa using ha
  have h2 : k < b.data.toList.length := by simpa using hb
  have e : (List.zipWith (· ^^^ ·) a.data.toList b.data.toList)[k]'(by rw [List.length_zipWith]; omega) = (a[k]'ha) ^^^ (b[k]'hb) := by rw [List.getElem_zipWith]; rfl
  unfold xorL
  rw [List.take_succ_eq_append_getElem (by rw [List.length_zipWith]; omega), e]
  simp [bcells]
/-- The first j of the k bytes of a number. -/
def numL (m k j : Nat) : List UInt8 := (List.range j).map fun t => UInt8.ofNat (m / 256 ^ (k - 1 - t))
def numB (m k : Nat) : ByteArray := ⟨(numL m k k).toArray⟩
theorem numL_length (m k j : Nat) : (numL m k j).length = j := by simp [numL]
theorem numL_next (m k j : Nat) : numL m k j ++ [UInt8.ofNat (m / 256 ^ (k - 1 - j))] = numL m k (j + 1) := by simp [numL, List.range_succ]
/-- The number has room in width bytes. -/
def NumFits (n width : Int) : Prop := 0 ≤ n ∧ (1 ≤ width ∧ width ≤ 7) ∧ n < 256 ^ width.toNat
theorem shift_zero {m k : Nat} (h : m < 256 ^ k) : (m : Int) / 2 ^ (8 * k) = 0 := by
  have e : (2 : Int) ^ (8 * k) = ((256 ^ k : Nat) : Int) := by rw [show (256 : Nat) ^ k = 2 ^ (8 * k) by rw [Nat.pow_mul]]; simp
  rw [e, ← Int.natCast_ediv, Nat.div_eq_of_lt h]; rfl
theorem shift_pos {m k : Nat} (h : 256 ^ k ≤ m) : 0 < (m : Int) / 2 ^ (8 * k) := by
  have e : (2 : Int) ^ (8 * k) = ((256 ^ k : Nat) : Int) := by rw [show (256 : Nat) ^ k = 2 ^ (8 * k) by rw [Nat.pow_mul]]; simp
  have hp : 0 < 256 ^ k := Nat.pow_pos (by omega)
  have := Nat.div_pos h hp
  rw [e, ← Int.natCast_ediv]; omega
theorem num_byte (m e : Nat) : (m : Int) / 2 ^ (8 * e) % 256 = ((UInt8.ofNat (m / 256 ^ e)).toNat : Int) := by
  rw [UInt8.toNat_ofNat', show (256 : Nat) ^ e = 2 ^ (8 * e) by rw [Nat.pow_mul]]
  have : (2 : Int) ^ (8 * e) = ((2 ^ (8 * e) : Nat) : Int) := by simp
  rw [this, ← Int.natCast_ediv]
  rfl
/-- The number that bytes say, the greatest first. -/
def numV (l : List UInt8) : Nat := l.foldl (fun n b => 256 * n + b.toNat) 0
theorem numV_snoc (l : List UInt8) (b : UInt8) : numV (l ++ [b]) = 256 * numV l + b.toNat := by simp [numV]
theorem fold_lt : ∀ (l : List UInt8) (acc : Nat), l.foldl (fun n b => 256 * n + b.toNat) acc < (acc + 1) * 256 ^ l.length
  | [], acc => by simp
  | b :: l, acc => by
    have h := fold_lt l (256 * acc + b.toNat)
    have hb := b.toNat_lt
    have h2 : (256 * acc + b.toNat + 1) * 256 ^ l.length ≤ (acc + 1) * 256 * 256 ^ l.length := Nat.mul_le_mul_right _ (by omega)
    rw [List.foldl_cons, List.length_cons, Nat.pow_succ, Nat.mul_comm (256 ^ l.length) 256, ← Nat.mul_assoc]
    omega
theorem numV_lt (l : List UInt8) : numV l < 256 ^ l.length := by
  have := fold_lt l 0
  simpa [numV] using this
/-- The bytes from offset a on, k of them. -/
def cutL (s : ByteArray) (a k : Nat) : List UInt8 := (s.data.toList.drop a).take k
theorem cutL_length (s : ByteArray) (a k : Nat) (h : a + k ≤ s.size) : (cutL s a k).length = k := by
  have : s.data.toList.length = s.size := by simp
  unfold cutL
  rw [List.length_take, List.length_drop]
  omega
theorem cutL_next (s : ByteArray) (a k : Nat) (h : a + k < s.size) : cutL s a k ++ [s[a + k]'h] = cutL s a (k + 1) := by
  have hl : s.data.toList.length = s.size := by simp
  unfold cutL
  rw [List.take_succ_eq_append_getElem (by rw [List.length_drop]; omega), List.getElem_drop]
  rfl
/-- These bytes exist. -/
def NumThere (s : ByteArray) (a width : Int) : Prop := (1 ≤ width ∧ width ≤ 7) ∧ (0 ≤ a ∧ a ≤ (s.size : Int) - width)
theorem ret_pair {a b : Int} {v : Value} (h : a = b) : Ending.returned (.tuple #[.int .i64 a, v]) = .returned (.tuple #[.int .i64 b, v]) := by rw [h]
/-- The number in its bytes; none where it has no room. -/
def numTextB (n width : Int) : ByteArray := if 0 ≤ n ∧ (1 ≤ width ∧ width ≤ 7) ∧ n < 256 ^ width.toNat then numB n.toNat width.toNat else ⟨#[]⟩
/-- The number at an offset, and whether it is there. -/
def numAtV (s : ByteArray) (a width : Int) : Int := if (1 ≤ width ∧ width ≤ 7) ∧ (0 ≤ a ∧ a ≤ (s.size : Int) - width) then (numV (cutL s a.toNat width.toNat) : Int) else 0
def numAtB (s : ByteArray) (a width : Int) : Bool := decide ((1 ≤ width ∧ width ≤ 7) ∧ (0 ≤ a ∧ a ≤ (s.size : Int) - width))
end Go.Proofs.Ytmcelfiljnlmoaa
