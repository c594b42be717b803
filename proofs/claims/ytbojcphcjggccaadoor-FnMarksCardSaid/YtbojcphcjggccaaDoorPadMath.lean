/- The padding of SHA-256 in plain words. -/
import Derived.Test.YtbojcphcjggccaaDoorBytes
namespace Go.Proofs.YtbojcphcjggccaaDoor.Pad
open Go.Proofs.YtbojcphcjggccaaDoor.Hexa

/-- How many zero bytes. -/
def zer (n : Nat) : Nat := (64 - (n + 9) % 64) % 64
/-- The first k of the eight bytes of m. -/
def lenB (m k : Nat) : List UInt8 := (List.range k).map fun j => UInt8.ofNat (m / 256 ^ (7 - j))
def head (s : ByteArray) (j : Nat) : List UInt8 := s.data.toList ++ [128] ++ List.replicate j 0
def padK (s : ByteArray) (k : Nat) : List UInt8 := head s (zer s.size) ++ lenB (8 * s.size) k
/-- The padded text. -/
def padL (s : ByteArray) : List UInt8 := padK s 8

theorem head_length (s : ByteArray) (j : Nat) : (head s j).length = s.size + 1 + j := by simp [head]; omega
theorem head_next (s : ByteArray) (j : Nat) : head s j ++ [0] = head s (j + 1) := by
  simp [head, List.replicate_succ']
theorem lenB_next (m k : Nat) : lenB m k ++ [UInt8.ofNat (m / 256 ^ (7 - k))] = lenB m (k + 1) := by simp [lenB, List.range_succ]
theorem padK_next (s : ByteArray) (k : Nat) : padK s k ++ [UInt8.ofNat (8 * s.size / 256 ^ (7 - k))] = padK s (k + 1) := by
  unfold padK; rw [List.append_assoc, lenB_next]
theorem padK_length (s : ByteArray) (k : Nat) : (padK s k).length = s.size + 1 + zer s.size + k := by simp [padK, head_length, lenB]
theorem padL_length (s : ByteArray) : (padL s).length = s.size + 1 + zer s.size + 8 := padK_length s 8
theorem zer_lt (n : Nat) : zer n < 64 := by unfold zer; omega
theorem zer_end (n : Nat) : (n + 1 + zer n) % 64 = 56 := by unfold zer; omega
theorem zer_not (n j : Nat) (h : j < zer n) : (n + 1 + j) % 64 ≠ 56 := by unfold zer at h; omega

theorem byte_shift (n k : Nat) : 8 * (n : Int) / 2 ^ (8 * (7 - k)) % 256 = ((UInt8.ofNat (8 * n / 256 ^ (7 - k))).toNat : Int) := by
  rw [UInt8.toNat_ofNat', show (256 : Nat) ^ (7 - k) = 2 ^ (8 * (7 - k)) by rw [Nat.pow_mul]]
  generalize 8 * (7 - k) = e
  have : (2 : Int) ^ e = ((2 ^ e : Nat) : Int) := by simp
  rw [this, show (8 : Int) * (n : Int) = ((8 * n : Nat) : Int) by simp, ← Int.natCast_ediv]
  rfl
end Go.Proofs.YtbojcphcjggccaaDoor.Pad
