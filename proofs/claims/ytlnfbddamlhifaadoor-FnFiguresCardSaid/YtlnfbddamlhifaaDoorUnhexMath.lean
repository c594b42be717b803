/- Plain facts about reading hexadecimal digits. -/
import Derived.Test.YtlnfbddamlhifaaDoorHexMath
import Derived.Shelf.Small.Strs
namespace Go.Proofs.YtlnfbddamlhifaaDoor.Hexa

/-- The value of a digit; -1 for a byte that is none. -/
def valI (c : UInt8) : Int := if 48 ≤ c.toNat ∧ c.toNat ≤ 57 then (c.toNat : Int) - 48 else if 97 ≤ c.toNat ∧ c.toNat ≤ 102 then (c.toNat : Int) - 87 else -1

theorem valI_bd (c : UInt8) : -1 ≤ valI c ∧ valI c ≤ 15 := by
  unfold valI; split
  · omega
  · split <;> omega

theorem valI_1 (c : UInt8) (h1 : (48 : Int) ≤ c.toNat) (h2 : (c.toNat : Int) ≤ 57) : (c.toNat : Int) - 48 = valI c := by unfold valI; rw [if_pos (by omega)]
theorem valI_2 (c : UInt8) (h1 : (97 : Int) ≤ c.toNat) (h2 : (c.toNat : Int) ≤ 102) : (c.toNat : Int) - 97 + 10 = valI c := by unfold valI; rw [if_neg (by omega), if_pos (by omega)]; omega
theorem valI_3 (c : UInt8) (h1 : ¬ ((48 : Int) ≤ c.toNat ∧ (c.toNat : Int) ≤ 57)) (h2 : ¬ ((97 : Int) ≤ c.toNat ∧ (c.toNat : Int) ≤ 102)) : -1 = valI c := by unfold valI; rw [if_neg (by omega), if_neg (by omega)]

/-- The byte at an index; 0 past the end. -/
def byteAt (s : ByteArray) (i : Nat) : UInt8 := s.data.toList.getD i 0

theorem byteAt_eq (s : ByteArray) (i : Nat) (h : i < s.size) : byteAt s i = s[i] := by
  have h' : i < s.data.toList.length := by simpa using h
  simp [byteAt, List.getD, List.getElem?_eq_getElem h']; rfl

/-- All bytes up to place n are digits. -/
def goodTo (s : ByteArray) (n : Nat) : Prop := ∀ j, j < n → 0 ≤ valI (byteAt s j)

def pairB (a b : UInt8) : Int := 16 * valI a + valI b
/-- The numbers that the first k pairs of digits stand for. -/
def pairsI (s : ByteArray) (k : Nat) : List Int := (List.range k).map fun j => pairB (byteAt s (2 * j)) (byteAt s (2 * j + 1))
def pairsL (s : ByteArray) (k : Nat) : List UInt8 := (pairsI s k).map fun n => UInt8.ofNat n.toNat

open Classical in
/-- What Unhex returns for a text of even length. -/
noncomputable def unhexText (s : ByteArray) : ByteArray := if goodTo s s.size then ⟨(pairsL s (s.size / 2)).toArray⟩ else ⟨#[]⟩
open Classical in
noncomputable def unhexOk (s : ByteArray) : Bool := if goodTo s s.size then true else false

theorem unhex_good {s : ByteArray} (h : goodTo s s.size) : unhexText s = ⟨(pairsL s (s.size / 2)).toArray⟩ ∧ unhexOk s = true := by
  simp [unhexText, unhexOk, h]
theorem unhex_bad {s : ByteArray} (j : Nat) (hj : j < s.size) (h : valI (byteAt s j) < 0) : unhexText s = ⟨#[]⟩ ∧ unhexOk s = false := by
  have : ¬ goodTo s s.size := fun g => by have := g j hj; omega
  simp [unhexText, unhexOk, this]

theorem goodTo_step {s : ByteArray} {j : Nat} (h : goodTo s j) (h1 : 0 ≤ valI (byteAt s j)) (h2 : 0 ≤ valI (byteAt s (j + 1))) : goodTo s (j + 2) := by
  intro i hi
  by_cases e : i < j
  · exact h i e
  · by_cases e2 : i = j
    · subst e2; exact h1
    · have : i = j + 1 := by omega
      subst this; exact h2

/-- What one round of Unhex appends. -/
theorem unhex_round (s : ByteArray) (k : Nat) (h1 : 0 ≤ valI (byteAt s (2 * k))) (h2 : 0 ≤ valI (byteAt s (2 * k + 1))) :
    bcells (pairsL s k) ++ [.int .u8 (16 * valI (byteAt s (2 * k)) + valI (byteAt s (2 * k + 1)))] = bcells (pairsL s (k + 1)) := by
  have a1 := valI_bd (byteAt s (2 * k))
  have a2 := valI_bd (byteAt s (2 * k + 1))
  simp only [bcells, pairsL, pairsI, List.range_succ, List.map_append, List.map_cons, List.map_nil, pairB]
  congr 3
  have e : (UInt8.ofNat (16 * valI (byteAt s (2 * k)) + valI (byteAt s (2 * k + 1))).toNat).toNat = (16 * valI (byteAt s (2 * k)) + valI (byteAt s (2 * k + 1))).toNat := by
    rw [UInt8.toNat_ofNat']; omega
  rw [e]; omega

/-- The same, by the bytes themselves. -/
theorem unhex_round' (s : ByteArray) (k j : Nat) (hj : j = 2 * k) (h : j < s.size) (h' : j + 1 < s.size) (h1 : 0 ≤ valI s[j]) (h2 : 0 ≤ valI s[j + 1]) :
    bcells (pairsL s k) ++ [.int .u8 (16 * valI s[j] + valI s[j + 1])] = bcells (pairsL s (k + 1)) := by
  subst hj
  rw [← byteAt_eq s _ h, ← byteAt_eq s _ h'] at *
  exact unhex_round s k h1 h2

theorem goodTo_step' {s : ByteArray} {j : Nat} (g : goodTo s j) (h : j < s.size) (h' : j + 1 < s.size) (h1 : 0 ≤ valI s[j]) (h2 : 0 ≤ valI s[j + 1]) : goodTo s (j + 2) := by
  rw [← byteAt_eq s _ h] at h1
  rw [← byteAt_eq s _ h'] at h2
  exact goodTo_step g h1 h2

theorem unhex_bad' {s : ByteArray} (j : Nat) (hj : j < s.size) (h : valI s[j] < 0) : unhexText s = ⟨#[]⟩ ∧ unhexOk s = false :=
  unhex_bad j hj (by rw [byteAt_eq s j hj]; exact h)

theorem ret_unhex {a b : ByteArray} {c d : Bool} (h : b = a ∧ d = c) : Ending.returned (.tuple #[.string a, .bool c]) = Ending.returned (.tuple #[.string b, .bool d]) := by rw [h.1, h.2]

theorem pairsL_length (s : ByteArray) (k : Nat) : (pairsL s k).length = k := by simp [pairsL, pairsI]

theorem indexDigit_all : ∀ n : Fin 256, Lib.indexByte [48, 49, 50, 51, 52, 53, 54, 55, 56, 57, 97, 98, 99, 100, 101, 102] (UInt8.ofNat n.val) = valI (UInt8.ofNat n.val) := by decide +kernel

theorem indexDigit (c : UInt8) : Lib.indexByte [48, 49, 50, 51, 52, 53, 54, 55, 56, 57, 97, 98, 99, 100, 101, 102] c = valI c := by
  have := indexDigit_all ⟨c.toNat, c.toNat_lt⟩
  simpa using this

theorem orShift_all : ∀ a b : Fin 16, bits .or .i64 ((a.val : Int) * 16) (b.val : Int) % 256 = 16 * (a.val : Int) + b.val := by decide +kernel
theorem orShift (x y : Int) (h1 : 0 ≤ x ∧ x ≤ 15) (h2 : 0 ≤ y ∧ y ≤ 15) : bits .or .i64 (x * 16) y % 256 = 16 * x + y := by
  have := orShift_all ⟨x.toNat, by omega⟩ ⟨y.toNat, by omega⟩
  simp only [Int.toNat_of_nonneg h1.1, Int.toNat_of_nonneg h2.1] at this
  exact this
end Go.Proofs.YtlnfbddamlhifaaDoor.Hexa
