/- The drawn keys' words, byte by byte. -/
import Derived.Test.YtbojcphcjggccaaDoorMarksLane
namespace Go.Proofs.YtbojcphcjggccaaDoor.Simd
open Go.Proofs.YtbojcphcjggccaaDoor.Sha Go.Proofs.YtbojcphcjggccaaDoor.Hexa Go.Proofs.YtbojcphcjggccaaDoor.Byt

/-- The words of a short key. -/
def kS (n b : Nat) : List UInt32 := (List.range 16).map fun j => UInt32.ofNat (b * padW n j)
theorem kS_list : ∀ n ∈ [0, 1, 20, 32, 63, 64], ∀ b : Fin 256, (kS n b.val).flatMap be4 = List.replicate n (UInt8.ofNat b.val) ++ List.replicate (64 - n) 0 := by decide +kernel
/-- The words behind the first block of a long key. -/
def tS (n b : Nat) : List UInt32 := (List.range 16).map fun j => UInt32.ofNat (b * padW (n - 64) j + ((pack (tailP (List.replicate (n - 64) 0))).getD j 0).toNat)
theorem tS_list : ∀ n ∈ [65, 100], ∀ b : Fin 256, (tS n b.val).flatMap be4 = List.replicate (n - 64) (UInt8.ofNat b.val) ++ [128] ++ List.replicate (55 - (n - 64)) 0 ++ Pad.lenB (8 * (64 + (n - 64))) 8 := by decide +kernel
theorem tS_small : ∀ n ∈ [65, 100], ∀ j : Fin 16, 255 * padW (n - 64) j.val + ((pack (tailP (List.replicate (n - 64) 0))).getD j.val 0).toNat < 4294967296 := by decide +kernel
theorem padW_le (n j : Nat) : padW n j ≤ 16843009 := by
  unfold padW
  split <;> split <;> split <;> split <;> omega
end Go.Proofs.YtbojcphcjggccaaDoor.Simd
