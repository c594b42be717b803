/- AES without a program: what its functions return. -/
import Derived.Test.YtepnnmckbcomjaaDoorFieldMath
namespace Go.Proofs.YtepnnmckbcomjaaDoor.Aes
open Go.Proofs.YtepnnmckbcomjaaDoor.Fld

/-- The box of a byte. -/
def boxU (b : UInt8) : UInt8 := UInt8.ofNat (box b.toNat)
def boxTab : List UInt8 := (List.range 256).map fun v => UInt8.ofNat (box v)
theorem boxTab_length : boxTab.length = 256 := by simp [boxTab]
theorem boxTab_at (b : UInt8) : boxTab[b.toNat]? = some (boxU b) := by
  have := b.toNat_lt
  simp [boxTab, boxU, this]
def boxL (l : List UInt8) : List UInt8 := l.map boxU
/-- Byte p of a block whose rows are shifted. -/
def shiftAt (l : List UInt8) (p : Nat) : UInt8 := l.getD (4 * ((p / 4 + p % 4) % 4) + p % 4) 0
def shiftL (l : List UInt8) : List UInt8 := (List.range 16).map (shiftAt l)
def dblU (b : UInt8) : UInt8 := UInt8.ofNat (dbl b.toNat)
/-- 2a + 3b + c + d. -/
def mixB (a b c d : UInt8) : UInt8 := dblU a ^^^ (dblU b ^^^ b) ^^^ (c ^^^ d)
def mixAt (l : List UInt8) (p : Nat) : UInt8 :=
  mixB (l.getD (4 * (p / 4) + p % 4) 0) (l.getD (4 * (p / 4) + (p % 4 + 1) % 4) 0) (l.getD (4 * (p / 4) + (p % 4 + 2) % 4) 0) (l.getD (4 * (p / 4) + (p % 4 + 3) % 4) 0)
def mixL (l : List UInt8) : List UInt8 := (List.range 16).map (mixAt l)
def xorB (a b : List UInt8) : List UInt8 := List.zipWith (· ^^^ ·) a b
theorem boxL_length (l : List UInt8) : (boxL l).length = l.length := by simp [boxL]
theorem shiftL_length (l : List UInt8) : (shiftL l).length = 16 := by simp [shiftL]
theorem mixL_length (l : List UInt8) : (mixL l).length = 16 := by simp [mixL]
theorem xorB_length {a b : List UInt8} {n : Nat} (ha : a.length = n) (hb : b.length = n) : (xorB a b).length = n := by simp [xorB, ha, hb]

/-- The word before word i of the keys, turned where a round key begins. -/
def tmpW (w : List UInt8) (i : Nat) : List UInt8 :=
  if i % 4 = 0 then [boxU (w.getD (4 * i - 3) 0) ^^^ UInt8.ofNat (pow 2 (i / 4 - 1)), boxU (w.getD (4 * i - 2) 0), boxU (w.getD (4 * i - 1) 0), boxU (w.getD (4 * i - 4) 0)]
  else [w.getD (4 * i - 4) 0, w.getD (4 * i - 3) 0, w.getD (4 * i - 2) 0, w.getD (4 * i - 1) 0]
/-- Byte k of word i of the keys. -/
def nextB (w : List UInt8) (i k : Nat) : UInt8 := w.getD (4 * i - 16 + k) 0 ^^^ (tmpW w i).getD k 0
def nextW (w : List UInt8) (i : Nat) : List UInt8 := (List.range 4).map (nextB w i)
/-- The bytes of the first 4 + n words of the keys. -/
def keyB (key : List UInt8) : Nat → List UInt8
  | 0 => key
  | n + 1 => keyB key n ++ nextW (keyB key n) (n + 4)
theorem tmpW_length (w : List UInt8) (i : Nat) : (tmpW w i).length = 4 := by unfold tmpW; split <;> rfl
theorem nextW_length (w : List UInt8) (i : Nat) : (nextW w i).length = 4 := by simp [nextW]
theorem keyB_length (key : List UInt8) (h : key.length = 16) : ∀ n, (keyB key n).length = 16 + 4 * n
  | 0 => h
  | n + 1 => by show (keyB key n ++ nextW (keyB key n) (n + 4)).length = _; rw [List.length_append, keyB_length key h n, nextW_length]; omega
def keyAt (key : List UInt8) (i : Nat) : List UInt8 := ((keyB key 40).drop (16 * i)).take 16
def keysL (key : List UInt8) : List (List UInt8) := (List.range 11).map (keyAt key)
theorem keysL_length (key : List UInt8) : (keysL key).length = 11 := by simp [keysL]
theorem keyAt_length (key : List UInt8) (h : key.length = 16) (i : Nat) (hi : i < 11) : (keyAt key i).length = 16 := by
  have := keyB_length key h 40
  unfold keyAt
  rw [List.length_take, List.length_drop]; omega
theorem keyB_head (key : List UInt8) (h : key.length = 16) : ∀ n, (keyB key n).take 16 = key
  | 0 => by show key.take 16 = key; exact List.take_of_length_le (by omega)
  | n + 1 => by
    show (keyB key n ++ nextW (keyB key n) (n + 4)).take 16 = key
    have := keyB_length key h n
    rw [List.take_append_of_le_length (by omega)]
    exact keyB_head key h n
theorem keyAt_zero (key : List UInt8) (h : key.length = 16) : keyAt key 0 = key := by
  unfold keyAt; rw [Nat.mul_zero, List.drop_zero]; exact keyB_head key h 40

/-- A block behind the steps of round i. -/
def roundL (k s : List UInt8) (i : Nat) : List UInt8 := xorB (if i < 10 then mixL (shiftL (boxL s)) else shiftL (boxL s)) k
def roundsL (keys : Nat → List UInt8) (s : List UInt8) : Nat → List UInt8
  | 0 => xorB s (keys 0)
  | n + 1 => roundL (keys (n + 1)) (roundsL keys s n) (n + 1)
def blockL (key s : List UInt8) : List UInt8 := roundsL (keyAt key) s 10
theorem roundL_length (k s : List UInt8) (i : Nat) (hk : k.length = 16) (hs : s.length = 16) : (roundL k s i).length = 16 := by
  unfold roundL
  refine xorB_length ?_ hk
  split
  · exact mixL_length _
  · exact shiftL_length _
theorem roundsL_length (keys : Nat → List UInt8) (s : List UInt8) (hk : ∀ i, i < 11 → (keys i).length = 16) (hs : s.length = 16) : ∀ n, n < 11 → (roundsL keys s n).length = 16
  | 0, _ => xorB_length hs (hk 0 (by omega))
  | n + 1, h => roundL_length _ _ _ (hk (n + 1) h) (roundsL_length keys s hk hs n (by omega))
theorem blockL_length (key s : List UInt8) (hk : key.length = 16) (hs : s.length = 16) : (blockL key s).length = 16 :=
  roundsL_length _ s (fun i hi => keyAt_length key hk i hi) hs 10 (by omega)

/-- The known value of the standard. -/
theorem block_known : blockL (List.map UInt8.ofNat [0, 1, 2, 3, 4, 5, 6, 7, 8, 9, 10, 11, 12, 13, 14, 15]) (List.map UInt8.ofNat [0, 17, 34, 51, 68, 85, 102, 119, 136, 153, 170, 187, 204, 221, 238, 255]) =
    List.map UInt8.ofNat [105, 196, 224, 216, 106, 123, 4, 48, 216, 205, 183, 128, 112, 180, 197, 90] := by decide +kernel
end Go.Proofs.YtepnnmckbcomjaaDoor.Aes
