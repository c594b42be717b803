/- Merged texts: FieldMath, AesMath, KeyMath, HexMath, Bytes, BitsMath, LongMath, PartsMath. -/
import Derived.Test.YtgpjklnlchbbbaaGreatDoorRows
import Derived.Laws.BytesArg
import Derived.Laws.IdiomStrings
import Derived.OwnWalk
import Derived.Lib.AppendStr
import Derived.Lib.AppendZerosOnto
import Derived.Laws.CopyRow
import Derived.Below
import Derived.Laws.Bits64b
import Derived.IntWalk
import Derived.WalkKit
import Derived.WalkSpells
import Derived.WalkLawsBesides
import Derived.Deep.RegionLaw
import Derived.Deep.AppendLies
import Derived.Lib.Hide
import Derived.Laws.Strings
namespace Go.Proofs.YtgpjklnlchbbbaaGreatDoor.Fld

/-- The product by 2. -/
def dbl (a : Nat) : Nat := if 255 < 2 * a then (2 * a) ^^^ 283 else 2 * a
/-- The product, f bits of b. -/
def mulF : Nat → Nat → Nat → Nat
  | 0, _, _ => 0
  | f + 1, a, b => (if b % 2 = 1 then a else 0) ^^^ mulF f (dbl a) (b / 2)
def mul (a b : Nat) : Nat := mulF 8 a b

theorem all256 {p : Nat → Bool} (h : (List.range 256).all p = true) (a : Nat) (ha : a < 256) : p a = true := List.all_eq_true.1 h a (List.mem_range.2 ha)

theorem dbl_lt (a : Nat) (h : a < 256) : dbl a < 256 := by
  have := all256 (p := fun a => decide (dbl a < 256)) (by decide +kernel) a h
  simpa using this
theorem dbl_zero : dbl 0 = 0 := rfl
theorem dbl_xor (a b : Nat) (ha : a < 256) (hb : b < 256) : dbl (a ^^^ b) = dbl a ^^^ dbl b := by
  have h := all256 (p := fun a => (List.range 256).all fun b => decide (dbl (a ^^^ b) = dbl a ^^^ dbl b)) (by decide +kernel) a ha
  have := all256 h b hb
  simpa using this

theorem xor_lt {a b : Nat} (ha : a < 256) (hb : b < 256) : a ^^^ b < 256 := Nat.xor_lt_two_pow (n := 8) ha hb
theorem mulF_lt : ∀ (f a b : Nat), a < 256 → mulF f a b < 256
  | 0, _, _, _ => by simp [mulF]
  | f + 1, a, b, h => by
    unfold mulF
    refine xor_lt ?_ (mulF_lt f _ _ (dbl_lt a h))
    split <;> omega
theorem mul_lt (a b : Nat) (h : a < 256) : mul a b < 256 := mulF_lt 8 a b h

theorem xor4 (a b c d : Nat) : (a ^^^ b) ^^^ (c ^^^ d) = (a ^^^ c) ^^^ (b ^^^ d) := by
  rw [Nat.xor_assoc, Nat.xor_assoc, ← Nat.xor_assoc b c d, Nat.xor_comm b c, Nat.xor_assoc c b d]
theorem mulF_left : ∀ (f x y b : Nat), x < 256 → y < 256 → mulF f (x ^^^ y) b = mulF f x b ^^^ mulF f y b
  | 0, _, _, _, _, _ => by simp [mulF]
  | f + 1, x, y, b, hx, hy => by
    unfold mulF
    rw [dbl_xor x y hx hy, mulF_left f (dbl x) (dbl y) (b / 2) (dbl_lt x hx) (dbl_lt y hy), xor4]
    congr 1
    split <;> simp
theorem xor_half (b c : Nat) : (b ^^^ c) / 2 = b / 2 ^^^ c / 2 := by
  have := Nat.xor_div_two_pow (a := b) (b := c) (n := 1)
  simpa using this
theorem xor_odd (b c : Nat) : (b ^^^ c) % 2 = (b % 2 + c % 2) % 2 := by
  have h := Nat.xor_mod_two_pow (a := b) (b := c) (n := 1)
  simp only [Nat.pow_one] at h
  rw [h]
  have h1 : b % 2 = 0 ∨ b % 2 = 1 := by omega
  have h2 : c % 2 = 0 ∨ c % 2 = 1 := by omega
  rcases h1 with h1 | h1 <;> rcases h2 with h2 | h2 <;> rw [h1, h2] <;> rfl
theorem mulF_right : ∀ (f a b c : Nat), mulF f a (b ^^^ c) = mulF f a b ^^^ mulF f a c
  | 0, _, _, _ => by simp [mulF]
  | f + 1, a, b, c => by
    unfold mulF
    rw [xor_half, mulF_right f (dbl a) (b / 2) (c / 2), xor_odd, xor4]
    congr 1
    have h1 : b % 2 = 0 ∨ b % 2 = 1 := by omega
    have h2 : c % 2 = 0 ∨ c % 2 = 1 := by omega
    rcases h1 with h1 | h1 <;> rcases h2 with h2 | h2 <;> rw [h1, h2] <;> simp
theorem mulF_dbl : ∀ (f a b : Nat), a < 256 → mulF f (dbl a) b = dbl (mulF f a b)
  | 0, _, _, _ => by simp [mulF, dbl_zero]
  | f + 1, a, b, h => by
    unfold mulF
    rw [mulF_dbl f (dbl a) (b / 2) (dbl_lt a h), dbl_xor _ _ (by split <;> omega) (mulF_lt f _ _ (dbl_lt a h))]
    congr 1
    split <;> simp [dbl_zero]
theorem mul_comm (a b : Nat) (ha : a < 256) (hb : b < 256) : mul a b = mul b a := by
  have h := all256 (p := fun a => (List.range 256).all fun b => mul a b == mul b a) (by decide +kernel) a ha
  have := all256 h b hb
  simpa using this
theorem mulF_zero : ∀ (f a : Nat), mulF f a 0 = 0
  | 0, _ => rfl
  | f + 1, a => by unfold mulF; simp [mulF_zero f (dbl a)]
theorem dbl_mul (a b : Nat) (ha : a < 256) (hb : b < 256) : dbl (mul a b) = mul a (dbl b) := by
  rw [mul_comm a b ha hb, mul_comm a (dbl b) ha (dbl_lt b hb)]
  exact (mulF_dbl 8 b a hb).symm
theorem mulF_assoc : ∀ (f a b d : Nat), a < 256 → b < 256 → mulF f (mul a b) d = mul a (mulF f b d)
  | 0, a, _, _, _, _ => (mulF_zero 8 a).symm
  | f + 1, a, b, d, ha, hb => by
    unfold mulF
    rw [dbl_mul a b ha hb, mulF_assoc f a (dbl b) (d / 2) ha (dbl_lt b hb)]
    have h := mulF_right 8 a (if d % 2 = 1 then b else 0) (mulF f (dbl b) (d / 2))
    unfold mul
    rw [h]
    congr 1
    split
    · rfl
    · exact (mulF_zero 8 a).symm
theorem mul_assoc (a b d : Nat) (ha : a < 256) (hb : b < 256) : mul (mul a b) d = mul a (mul b d) := mulF_assoc 8 a b d ha hb
theorem mul_xor (a b c : Nat) : mul a (b ^^^ c) = mul a b ^^^ mul a c := mulF_right 8 a b c
theorem mul_one (a : Nat) (h : a < 256) : mul a 1 = a := by
  have := all256 (p := fun a => mul a 1 == a) (by decide +kernel) a h
  simpa using this
theorem dbl_two (a : Nat) (h : a < 256) : dbl a = mul a 2 := by
  have := all256 (p := fun a => dbl a == mul a 2) (by decide +kernel) a h
  simpa using this

/-- a to the power n. -/
def pow (a : Nat) : Nat → Nat
  | 0 => 1
  | n + 1 => mul (pow a n) a
theorem pow_lt (a n : Nat) : pow a n < 256 := by
  induction n with
  | zero => show (1 : Nat) < 256; omega
  | succ n ih => exact mul_lt _ _ ih
/-- The inverse, by squares. -/
def invF : Nat → Nat → Nat → Nat → Nat
  | 0, out, _, _ => out
  | f + 1, out, x, n => invF f (if n % 2 = 1 then mul out x else out) (mul x x) (n / 2)
def inv (a : Nat) : Nat := invF 8 1 a 254
theorem inv_lt (a : Nat) (h : a < 256) : inv a < 256 := by
  have := all256 (p := fun a => decide (inv a < 256)) (by decide +kernel) a h
  simpa using this
theorem mul_inv (a : Nat) (h0 : 0 < a) (h : a < 256) : mul a (inv a) = 1 := by
  have := all256 (p := fun a => decide (a = 0) || mul a (inv a) == 1) (by decide +kernel) a h
  simp at this
  omega
theorem inv_zero : inv 0 = 0 := by decide +kernel
/-- An inverse is the inverse. -/
theorem inv_unique (a b : Nat) (ha : a < 256) (h0 : 0 < a) (hb : b < 256) (h : mul a b = 1) : b = inv a := by
  have hi := inv_lt a ha
  have h1 : mul b (mul a (inv a)) = b := by rw [mul_inv a h0 ha, mul_one b hb]
  rw [← mul_assoc b a (inv a) hb ha, mul_comm b a hb ha, h, mul_comm 1 (inv a) (by omega) hi, mul_one _ hi] at h1
  exact h1.symm

/-- The box of a byte whose inverse this is, k turns of it. -/
def turnF (b : Nat) : Nat → Nat
  | 0 => 99
  | k + 1 => turnF b k ^^^ (((b * 2 ^ k) ||| (b / 2 ^ (8 - k))) &&& 255)
def box (a : Nat) : Nat := turnF (inv a) 5
theorem turnF_lt (b : Nat) : ∀ k, turnF b k < 256
  | 0 => by show (99 : Nat) < 256; omega
  | k + 1 => xor_lt (turnF_lt b k) (Nat.lt_of_le_of_lt Nat.and_le_right (by omega))
end Go.Proofs.YtgpjklnlchbbbaaGreatDoor.Fld
namespace Go.Proofs.YtgpjklnlchbbbaaGreatDoor.Aes
open Go.Proofs.YtgpjklnlchbbbaaGreatDoor.Fld

/-- The box of a byte. -/
def boxU (b : UInt8) : UInt8 := UInt8.ofNat (box b.toNat)
def boxTab : List UInt8 := (List.range 256).map fun v => UInt8.ofNat (box v)
theorem boxTab_length : boxTab.length = 256 := by simp [boxTab]
theorem boxTab_at (b : UInt8) : boxTab[b.toNat]? = some (boxU b) := by
  have := b.toNat_lt
  simp [boxTab, boxU, this]
def boxL (l : List UInt8) : List UInt8 := l.map boxU
/-- Byte p of a block whose rows are shifted. -/
def shiftAt (l : List UInt8) (p : Nat) : UInt8 := l.getD (4 * ((p / 4 + p % 4) % 4) + p % 4) 0
def shiftL (l : List UInt8) : List UInt8 := (List.range 16).map (shiftAt l)
def dblU (b : UInt8) : UInt8 := UInt8.ofNat (dbl b.toNat)
/-- 2a + 3b + c + d. -/
def mixB (a b c d : UInt8) : UInt8 := dblU a ^^^ (dblU b ^^^ b) ^^^ (c ^^^ d)
def mixAt (l : List UInt8) (p : Nat) : UInt8 :=
  mixB (l.getD (4 * (p / 4) + p % 4) 0) (l.getD (4 * (p / 4) + (p % 4 + 1) % 4) 0) (l.getD (4 * (p / 4) + (p % 4 + 2) % 4) 0) (l.getD (4 * (p / 4) + (p % 4 + 3) % 4) 0)
def mixL (l : List UInt8) : List UInt8 := (List.range 16).map (mixAt l)
def xorB (a b : List UInt8) : List UInt8 := List.zipWith (· ^^^ ·) a b
theorem boxL_length (l : List UInt8) : (boxL l).length = l.length := by simp [boxL]
theorem shiftL_length (l : List UInt8) : (shiftL l).length = 16 := by simp [shiftL]
theorem mixL_length (l : List UInt8) : (mixL l).length = 16 := by simp [mixL]
theorem xorB_length {a b : List UInt8} {n : Nat} (ha : a.length = n) (hb : b.length = n) : (xorB a b).length = n := by simp [xorB, ha, hb]

/-- The word before word i of the keys, turned where a round key begins. -/
def tmpW (w : List UInt8) (i : Nat) : List UInt8 :=
  if i % 4 = 0 then [boxU (w.getD (4 * i - 3) 0) ^^^ UInt8.ofNat (pow 2 (i / 4 - 1)), boxU (w.getD (4 * i - 2) 0), boxU (w.getD (4 * i - 1) 0), boxU (w.getD (4 * i - 4) 0)]
  else [w.getD (4 * i - 4) 0, w.getD (4 * i - 3) 0, w.getD (4 * i - 2) 0, w.getD (4 * i - 1) 0]
/-- Byte k of word i of the keys. -/
def nextB (w : List UInt8) (i k : Nat) : UInt8 := w.getD (4 * i - 16 + k) 0 ^^^ (tmpW w i).getD k 0
def nextW (w : List UInt8) (i : Nat) : List UInt8 := (List.range 4).map (nextB w i)
/-- The bytes of the first 4 + n words of the keys. -/
def keyB (key : List UInt8) : Nat → List UInt8
  | 0 => key
  | n + 1 => keyB key n ++ nextW (keyB key n) (n + 4)
theorem tmpW_length (w : List UInt8) (i : Nat) : (tmpW w i).length = 4 := by unfold tmpW; split <;> rfl
theorem nextW_length (w : List UInt8) (i : Nat) : (nextW w i).length = 4 := by simp [nextW]
theorem keyB_length (key : List UInt8) (h : key.length = 16) : ∀ n, (keyB key n).length = 16 + 4 * n
  | 0 => h
  | n + 1 => by show (keyB key n ++ nextW (keyB key n) (n + 4)).length = _; rw [List.length_append, keyB_length key h n, nextW_length]; omega
def keyAt (key : List UInt8) (i : Nat) : List UInt8 := ((keyB key 40).drop (16 * i)).take 16
def keysL (key : List UInt8) : List (List UInt8) := (List.range 11).map (keyAt key)
theorem keysL_length (key : List UInt8) : (keysL key).length = 11 := by simp [keysL]
theorem keyAt_length (key : List UInt8) (h : key.length = 16) (i : Nat) (hi : i < 11) : (keyAt key i).length = 16 := by
  have := keyB_length key h 40
  unfold keyAt
  rw [List.length_take, List.length_drop]; omega
theorem keyB_head (key : List UInt8) (h : key.length = 16) : ∀ n, (keyB key n).take 16 = key
  | 0 => by show key.take 16 = key; exact List.take_of_length_le (by omega)
  | n + 1 => by
    show (keyB key n ++ nextW (keyB key n) (n + 4)).take 16 = key
    have := keyB_length key h n
    rw [List.take_append_of_le_length (by omega)]
    exact keyB_head key h n
theorem keyAt_zero (key : List UInt8) (h : key.length = 16) : keyAt key 0 = key := by
  unfold keyAt; rw [Nat.mul_zero, List.drop_zero]; exact keyB_head key h 40

/-- A block behind the steps of round i. -/
def roundL (k s : List UInt8) (i : Nat) : List UInt8 := xorB (if i < 10 then mixL (shiftL (boxL s)) else shiftL (boxL s)) k
def roundsL (keys : Nat → List UInt8) (s : List UInt8) : Nat → List UInt8
  | 0 => xorB s (keys 0)
  | n + 1 => roundL (keys (n + 1)) (roundsL keys s n) (n + 1)
def blockL (key s : List UInt8) : List UInt8 := roundsL (keyAt key) s 10
theorem roundL_length (k s : List UInt8) (i : Nat) (hk : k.length = 16) (_hs : s.length = 16) : (roundL k s i).length = 16 := by
  unfold roundL
  refine xorB_length ?_ hk
  split
  · exact mixL_length _
  · exact shiftL_length _
theorem roundsL_length (keys : Nat → List UInt8) (s : List UInt8) (hk : ∀ i, i < 11 → (keys i).length = 16) (hs : s.length = 16) : ∀ n, n < 11 → (roundsL keys s n).length = 16
  | 0, _ => xorB_length hs (hk 0 (by omega))
  | n + 1, h => roundL_length _ _ _ (hk (n + 1) h) (roundsL_length keys s hk hs n (by omega))
theorem blockL_length (key s : List UInt8) (hk : key.length = 16) (hs : s.length = 16) : (blockL key s).length = 16 :=
  roundsL_length _ s (fun i hi => keyAt_length key hk i hi) hs 10 (by omega)

/-- The known value of the standard. -/
theorem block_known : blockL (List.map UInt8.ofNat [0, 1, 2, 3, 4, 5, 6, 7, 8, 9, 10, 11, 12, 13, 14, 15]) (List.map UInt8.ofNat [0, 17, 34, 51, 68, 85, 102, 119, 136, 153, 170, 187, 204, 221, 238, 255]) =
    List.map UInt8.ofNat [105, 196, 224, 216, 106, 123, 4, 48, 216, 205, 183, 128, 112, 180, 197, 90] := by decide +kernel
end Go.Proofs.YtgpjklnlchbbbaaGreatDoor.Aes
namespace Go.Proofs.YtgpjklnlchbbbaaGreatDoor.Aes
open Go.Proofs.YtgpjklnlchbbbaaGreatDoor.Fld

/-- The word that the first word of round key k is added to. -/
def turnedL (t : List UInt8) (k : Nat) : List UInt8 := [boxU (t.getD 1 0) ^^^ UInt8.ofNat (pow 2 (k - 1)), boxU (t.getD 2 0), boxU (t.getD 3 0), boxU (t.getD 0 0)]
/-- Word j of a round key. -/
def wordO (l : List UInt8) (j : Nat) : List UInt8 := (l.drop (4 * j)).take 4
/-- The word behind j words of the round key behind l. -/
def goneW (l : List UInt8) (k : Nat) : Nat → List UInt8
  | 0 => turnedL (wordO l 3) k
  | j + 1 => xorB (wordO l j) (goneW l k j)
def goneT (l : List UInt8) (k : Nat) : Nat → List UInt8
  | 0 => []
  | j + 1 => goneT l k j ++ goneW l k (j + 1)
def afterL (l : List UInt8) (k : Nat) : List UInt8 := goneT l k 4
theorem wordO_length (l : List UInt8) (hl : l.length = 16) (j : Nat) (hj : j < 4) : (wordO l j).length = 4 := by
  unfold wordO; rw [List.length_take, List.length_drop]; omega
theorem goneW_length (l : List UInt8) (k : Nat) (hl : l.length = 16) : ∀ j, j ≤ 4 → (goneW l k j).length = 4
  | 0, _ => rfl
  | j + 1, h => xorB_length (wordO_length l hl j (by omega)) (goneW_length l k hl j (by omega))
theorem goneT_length (l : List UInt8) (k : Nat) (hl : l.length = 16) : ∀ j, j ≤ 4 → (goneT l k j).length = 4 * j
  | 0, _ => rfl
  | j + 1, h => by show (goneT l k j ++ goneW l k (j + 1)).length = _; rw [List.length_append, goneT_length l k hl j (by omega), goneW_length l k hl _ h]; omega

theorem getD_behind (P l : List UInt8) (n i j : Nat) (h : P.length = n) (e : i = n + j) : (P ++ l).getD i 0 = l.getD j 0 := by
  subst h e
  simp [List.getD, List.getElem?_append_right]
theorem keyB_take (key : List UInt8) (h : key.length = 16) (n : Nat) : ∀ m, (keyB key (n + m)).take (16 + 4 * n) = keyB key n
  | 0 => List.take_of_length_le (by rw [Nat.add_zero, keyB_length key h]; omega)
  | m + 1 => by
    show (keyB key (n + m) ++ nextW (keyB key (n + m)) (n + m + 4)).take (16 + 4 * n) = _
    rw [List.take_append_of_le_length (by rw [keyB_length key h]; omega)]
    exact keyB_take key h n m
/-- Round key k stands at the end of the words up to it. -/
theorem keyAt_end (key : List UInt8) (h : key.length = 16) (k : Nat) (hk : k ≤ 10) : keyAt key k = (keyB key (4 * k)).drop (16 * k) := by
  have e := keyB_take key h (4 * k) (40 - 4 * k)
  rw [show 4 * k + (40 - 4 * k) = 40 by omega] at e
  unfold keyAt
  rw [← e, List.drop_take, show 16 + 4 * (4 * k) - 16 * k = 16 by omega]
/-- The words of a round key, behind the bytes before. -/
theorem next_first (P : List UInt8) (k : Nat) (hP : P.length = 16 * k) (a0 a1 a2 a3 a4 a5 a6 a7 a8 a9 a10 a11 a12 a13 a14 a15 : UInt8) :
    nextW (P ++ [a0, a1, a2, a3, a4, a5, a6, a7, a8, a9, a10, a11, a12, a13, a14, a15]) (4 * k + 4) = [a0 ^^^ (boxU a13 ^^^ UInt8.ofNat (pow 2 k)), a1 ^^^ boxU a14, a2 ^^^ boxU a15, a3 ^^^ boxU a12] := by
  have hm : (4 * k + 4) % 4 = 0 := by omega
  have hd : (4 * k + 4) / 4 - 1 = k := by omega
  unfold nextW nextB tmpW
  simp only [hm, hd, if_true]
  simp only [show List.range 4 = [0, 1, 2, 3] from rfl, List.map_cons, List.map_nil]
  rw [getD_behind P _ _ (4 * (4 * k + 4) - 16 + 0) 0 hP (by omega), getD_behind P _ _ (4 * (4 * k + 4) - 16 + 1) 1 hP (by omega), getD_behind P _ _ (4 * (4 * k + 4) - 16 + 2) 2 hP (by omega), getD_behind P _ _ (4 * (4 * k + 4) - 16 + 3) 3 hP (by omega),
    getD_behind P _ _ (4 * (4 * k + 4) - 3) 13 hP (by omega), getD_behind P _ _ (4 * (4 * k + 4) - 2) 14 hP (by omega), getD_behind P _ _ (4 * (4 * k + 4) - 1) 15 hP (by omega), getD_behind P _ _ (4 * (4 * k + 4) - 4) 12 hP (by omega)]
  rfl
theorem next_more (P l : List UInt8) (n i m : Nat) (hP : P.length = n) (hi : 4 * i = n + 16 + 4 * m) (hm : i % 4 ≠ 0) :
    nextW (P ++ l) i = [l.getD (4 * m) 0 ^^^ l.getD (4 * m + 12) 0, l.getD (4 * m + 1) 0 ^^^ l.getD (4 * m + 13) 0, l.getD (4 * m + 2) 0 ^^^ l.getD (4 * m + 14) 0, l.getD (4 * m + 3) 0 ^^^ l.getD (4 * m + 15) 0] := by
  unfold nextW nextB tmpW
  simp only [if_neg hm]
  simp only [show List.range 4 = [0, 1, 2, 3] from rfl, List.map_cons, List.map_nil]
  rw [getD_behind P _ _ (4 * i - 16 + 0) (4 * m) hP (by omega), getD_behind P _ _ (4 * i - 16 + 1) (4 * m + 1) hP (by omega), getD_behind P _ _ (4 * i - 16 + 2) (4 * m + 2) hP (by omega), getD_behind P _ _ (4 * i - 16 + 3) (4 * m + 3) hP (by omega),
    getD_behind P _ _ (4 * i - 3) (4 * m + 13) hP (by omega), getD_behind P _ _ (4 * i - 2) (4 * m + 14) hP (by omega), getD_behind P _ _ (4 * i - 1) (4 * m + 15) hP (by omega), getD_behind P _ _ (4 * i - 4) (4 * m + 12) hP (by omega)]
  rfl
theorem keyB_four (key P : List UInt8) (k : Nat) (hP : P.length = 16 * k) (a0 a1 a2 a3 a4 a5 a6 a7 a8 a9 a10 a11 a12 a13 a14 a15 : UInt8)
    (h : keyB key (4 * k) = P ++ [a0, a1, a2, a3, a4, a5, a6, a7, a8, a9, a10, a11, a12, a13, a14, a15]) :
    keyB key (4 * k + 4) = P ++ ([a0, a1, a2, a3, a4, a5, a6, a7, a8, a9, a10, a11, a12, a13, a14, a15] ++ afterL [a0, a1, a2, a3, a4, a5, a6, a7, a8, a9, a10, a11, a12, a13, a14, a15] (k + 1)) := by
  have e1 : keyB key (4 * k + 1) = keyB key (4 * k) ++ nextW (keyB key (4 * k)) (4 * k + 4) := rfl
  have e2 : keyB key (4 * k + 2) = keyB key (4 * k + 1) ++ nextW (keyB key (4 * k + 1)) (4 * k + 5) := rfl
  have e3 : keyB key (4 * k + 3) = keyB key (4 * k + 2) ++ nextW (keyB key (4 * k + 2)) (4 * k + 6) := rfl
  have e4 : keyB key (4 * k + 4) = keyB key (4 * k + 3) ++ nextW (keyB key (4 * k + 3)) (4 * k + 7) := rfl
  rw [h, next_first P k hP, List.append_assoc] at e1
  rw [e1, next_more P _ (16 * k) (4 * k + 5) 1 hP (by omega) (by omega), List.append_assoc] at e2
  rw [e2, next_more P _ (16 * k) (4 * k + 6) 2 hP (by omega) (by omega), List.append_assoc] at e3
  rw [e3, next_more P _ (16 * k) (4 * k + 7) 3 hP (by omega) (by omega), List.append_assoc] at e4
  rw [e4]
  generalize hr : boxU a13 ^^^ UInt8.ofNat (pow 2 k) = r
  have hw : turnedL [a12, a13, a14, a15] (k + 1) = [r, boxU a14, boxU a15, boxU a12] := by rw [← hr]; rfl
  have e0 : ∀ j, goneW [a0, a1, a2, a3, a4, a5, a6, a7, a8, a9, a10, a11, a12, a13, a14, a15] (k + 1) (j + 1) = xorB (wordO [a0, a1, a2, a3, a4, a5, a6, a7, a8, a9, a10, a11, a12, a13, a14, a15] j) (goneW [a0, a1, a2, a3, a4, a5, a6, a7, a8, a9, a10, a11, a12, a13, a14, a15] (k + 1) j) := fun _ => rfl
  have e9 : goneW [a0, a1, a2, a3, a4, a5, a6, a7, a8, a9, a10, a11, a12, a13, a14, a15] (k + 1) 0 = [r, boxU a14, boxU a15, boxU a12] := hw
  unfold afterL
  show _ = P ++ (_ ++ ((([] ++ goneW _ _ 1) ++ goneW _ _ 2) ++ goneW _ _ 3 ++ goneW _ _ 4))
  rw [e0 3, e0 2, e0 1, e0 0, e9]
  rfl
theorem keyAt_next (key : List UInt8) (h : key.length = 16) (k : Nat) (hk : k < 10) : keyAt key (k + 1) = afterL (keyAt key k) (k + 1) := by
  have hl := keyAt_length key h k (by omega)
  have he := keyAt_end key h k (by omega)
  have hB := keyB_length key h (4 * k)
  have hs : keyB key (4 * k) = (keyB key (4 * k)).take (16 * k) ++ keyAt key k := by rw [he, List.take_append_drop]
  have hP : ((keyB key (4 * k)).take (16 * k)).length = 16 * k := by rw [List.length_take]; omega
  rw [keyAt_end key h (k + 1) (by omega), show 4 * (k + 1) = 4 * k + 4 by omega]
  generalize (keyB key (4 * k)).take (16 * k) = P at hs hP
  generalize keyAt key k = L at hs hl
  match L, hl with
  | [a0, a1, a2, a3, a4, a5, a6, a7, a8, a9, a10, a11, a12, a13, a14, a15], _ =>
    rw [keyB_four key P k hP _ _ _ _ _ _ _ _ _ _ _ _ _ _ _ _ hs, ← List.append_assoc]
    exact List.drop_left' (by rw [List.length_append, hP]; rfl)
end Go.Proofs.YtgpjklnlchbbbaaGreatDoor.Aes
namespace Go.Proofs.YtgpjklnlchbbbaaGreatDoor.Hexa


/-- The digit of a number below 16. -/
def nib (n : Nat) : UInt8 := if n < 10 then UInt8.ofNat (48 + n) else UInt8.ofNat (87 + n)
def hexB (c : UInt8) : List UInt8 := [nib (c.toNat / 16), nib (c.toNat % 16)]
def hexL (l : List UInt8) : List UInt8 := l.flatMap hexB

theorem nib_toNat (n : Nat) (h : n < 16) : (nib n).toNat = if n < 10 then 48 + n else 87 + n := by
  unfold nib; split <;> simp <;> omega

theorem hexL_length (l : List UInt8) : (hexL l).length = 2 * l.length := by
  induction l with
  | nil => rfl
  | cons c l ih => simp [hexL, hexB] at *; omega

theorem hexL_snoc (l : List UInt8) (c : UInt8) : hexL (l ++ [c]) = hexL l ++ hexB c := by simp [hexL]

theorem take_snoc (s : ByteArray) (k : Nat) (h : k < s.size) : s.data.toList.take (k + 1) = s.data.toList.take k ++ [s[k]] := by
  rw [List.take_succ_eq_append_getElem (by simpa using h)]; rfl

theorem hexL_take (s : ByteArray) (k : Nat) (h : k < s.size) : hexL (s.data.toList.take (k + 1)) = hexL (s.data.toList.take k) ++ hexB s[k] := by
  rw [take_snoc s k h, hexL_snoc]

theorem hexL_take_length (s : ByteArray) (k : Nat) (h : k ≤ s.size) : (hexL (s.data.toList.take k)).length = 2 * k := by
  have hs : k ≤ s.data.size := h
  rw [hexL_length]; simp; omega

/-- The cells of a row of bytes. -/
def bcells (l : List UInt8) : List Value := l.map fun b => Value.int .u8 b.toNat

/-- 'string(b)' of a slice that the call owns. -/
theorem own_string {P : Program} {w : World} {base e : Nat} {v : Value} {n : Nat} {l : List UInt8} (src dst : TypeId)
    (hs : P.underlying src = some (.slice e)) (he : P.underlying e = some (.int .u8)) (hd : P.underlying dst = some .string)
    (h : w.ownsRow base e 1 v n (bcells l)) : (convert src dst v).run P w = .ok (.string ⟨l.toArray⟩) w := by
  have hl := h.1
  simp [bcells] at hl
  rcases h.2 with ⟨rfl, rfl⟩ | ⟨g, cap, cur, rfl, _, hg, _, _, hcs, htk⟩
  · have : l = [] := by cases l <;> simp_all
    subst this
    exact run_convert_bytes_nil w src e hs he 0 0 dst hd
  · subst hl
    refine run_convert_bytes_back w src dst e _ cap l hs he hd fun j hj => ?_
    have := h.cellAt j (by omega)
    have e : (⟨g, 0, none⟩ : Addr).add j = ⟨g, j, none⟩ := by unfold Addr.add; split <;> simp_all
    rw [e]
    simpa [bcells, hj] using this

theorem own_block_ge {w : World} {base e size : Nat} {v : Value} {n : Nat} {xs : List Value} (h : w.ownsRow base e size v n xs) : ∀ k, v.ownBlock = some k → base ≤ k := by
  intro k hk
  rcases h.2 with ⟨rfl, _⟩ | ⟨g, cap, cur, rfl, hg, _⟩
  · simp [Value.ownBlock] at hk
  · simp [Value.ownBlock] at hk; omega

def figI (x : Int) : Int := (nib x.toNat).toNat

theorem digit_nat : ∀ (n : Fin 16), (((ByteArray.mk #[48, 49, 50, 51, 52, 53, 54, 55, 56, 57, 97, 98, 99, 100, 101, 102])[n.val]'(by show n.val < 16; exact n.isLt)).toNat) = (nib n.val).toNat := by decide

theorem and15_all : ∀ n : Fin 256, bits .and .u8 ((n.val : Nat) : Int) 15 = ((n.val % 16 : Nat) : Int) := by decide +kernel

theorem and15 (b : UInt8) : bits .and .u8 (b.toNat : Int) 15 = (b.toNat : Int) % 16 := by
  have := and15_all ⟨b.toNat, b.toNat_lt⟩
  rw [this]; simp

/-- The digit that the table of the program holds. -/
theorem digit_at (x : Int) (h0 : 0 ≤ x) (h1 : x < 16) (h : x.toNat < (ByteArray.mk #[48, 49, 50, 51, 52, 53, 54, 55, 56, 57, 97, 98, 99, 100, 101, 102]).size) :
    ((((ByteArray.mk #[48, 49, 50, 51, 52, 53, 54, 55, 56, 57, 97, 98, 99, 100, 101, 102])[x.toNat]'h).toNat : Nat) : Int) = figI x := by
  have := digit_nat ⟨x.toNat, by omega⟩
  unfold figI
  rw [← this]

/-- What one round of Hex appends. -/
theorem hex_round (s : ByteArray) (k : Nat) (h : k < s.size) :
    bcells (hexL (s.data.toList.take k)) ++ [.int .u8 (figI (s[k].toNat / 16)), .int .u8 (figI (s[k].toNat % 16))] = bcells (hexL (s.data.toList.take (k + 1))) := by
  have e1 : ((s[k].toNat : Int) / 16).toNat = s[k].toNat / 16 := by omega
  have e2 : ((s[k].toNat : Int) % 16).toNat = s[k].toNat % 16 := by omega
  rw [hexL_take s k h]
  simp [bcells, hexB, figI, e1, e2]

theorem own_length {w : World} {base e : Nat} {v : Value} {n : Nat} {xs : List Value} (h : w.ownsRow base e 1 v n xs) : xs.length = n := by simpa using h.1
end Go.Proofs.YtgpjklnlchbbbaaGreatDoor.Hexa
namespace Go.Proofs.YtgpjklnlchbbbaaGreatDoor.Byt
open Go.RowKit Go.Proofs.YtgpjklnlchbbbaaGreatDoor.Hexa Go.Lib

/-- Cells stored into a row whose frozen range lies behind its end. -/
theorem run_store (P : Program) (g o : Nat) (t : TypeId) (fz : Nat × Nat) : ∀ (vs : List Value) (i : Nat) (cur : Array Value) (w : World), w.heap[g]? = some (.cells cur t fz) → (fz = (0, 0) ∨ cur.size ≤ fz.1) → o + i + vs.length ≤ cur.size → (∀ v ∈ vs, v.oneCell' = true) →
    (storeCells ⟨g, o, none⟩ vs i).run P w = .ok () (w.setRow g (cur.toList.take (o + i) ++ vs ++ cur.toList.drop (o + i + vs.length)).toArray)
  | [], i, cur, w, hg, _, _, _ => by
    simp only [storeCells, List.append_nil, List.length_nil, Nat.add_zero, List.take_append_drop, Array.toArray_toList]
    rw [setRow_self w g cur t fz hg]
    rfl
  | v :: rest, i, cur, w, hg, hfz, hl, h1 => by
    have hi : o + i < cur.size := by simp at hl; omega
    have hadd : (⟨g, o, none⟩ : Addr).add i = ⟨g, o + i, none⟩ := by unfold Addr.add; split <;> simp_all
    have hcell : w.cell? ⟨g, o + i, none⟩ = some cur[o + i] := by simp [World.cell?, hg, hi]
    have hfro : w.frozen? ⟨g, o + i, none⟩ = false := by
      obtain ⟨lo, hi'⟩ := fz
      simp only [World.frozen?, hg, Bool.and_eq_false_iff, decide_eq_false_iff_not]
      rcases hfz with h | h
      · right; cases h; omega
      · left; simp only at h; omega
    have hst : (store ((⟨g, o, none⟩ : Addr).add i) v).run P w = .ok () (w.setRow g (cur.setIfInBounds (o + i) v)) := by
      rw [hadd, Go.run_store P w _ v _ (h1 v (by simp)), hcell]
      simp [hfro, setCell_eq_setRow w g (o + i) cur t fz v hg]
    have ih := run_store P g o t fz rest (i + 1) (cur.setIfInBounds (o + i) v) (w.setRow g (cur.setIfInBounds (o + i) v)) (setRow_heap w g cur _ t _ hg) (by simpa using hfz) (by simp at hl ⊢; omega) (fun x hx => h1 x (by simp [hx]))
    simp only [storeCells, Sem.run_bind, hst, Result.andThen_ok, ih, setRow_setRow]
    congr 3
    have e := list_seg_step cur.toList (o + i) v rest (by simp at hl ⊢; omega)
    simpa [Array.toList_setIfInBounds, Nat.add_assoc] using e

theorem bcells_length (l : List UInt8) : (bcells l).length = l.length := by simp [bcells]
theorem bcells_append (l m : List UInt8) : bcells (l ++ m) = bcells l ++ bcells m := by simp [bcells]
theorem bcells_one (l : List UInt8) : ∀ u ∈ bcells l, u.oneCell' = true := by
  intro u hu
  simp only [bcells, List.mem_map] at hu
  obtain ⟨b, _, rfl⟩ := hu
  rfl

/-- The value v holds the bytes l, in a row from block B on. -/
def Bytes (w : World) (B : Nat) (e : TypeId) (v : Value) (l : List UInt8) : Prop :=
  (v = .slice none 0 0 ∧ l = []) ∨
  ∃ g cap cur fz, v = .slice (some ⟨g, 0, none⟩) l.length cap ∧ B ≤ g ∧ w.heap[g]? = some (.cells cur e fz) ∧ (fz = (0, 0) ∨ cur.size ≤ fz.1) ∧ l.length ≤ cap ∧ cap ≤ maxLen ∧ cur.size = cap ∧ cur.toList.take l.length = bcells l

theorem bytes_room {w : World} {B : Nat} {e : TypeId} {g cap : Nat} {cur : Array Value} {fz : Nat × Nat} {l : List UInt8} (hb : B ≤ g) (hg : w.heap[g]? = some (.cells cur e fz)) (hfz : fz = (0, 0) ∨ cur.size ≤ fz.1) (hm : cap ≤ maxLen) (hs : cur.size = cap) (ht : cur.toList.take l.length = bcells l)
    (news : List UInt8) (hroom : l.length + news.length ≤ cap) :
    Bytes (w.setRow g (cur.toList.take l.length ++ bcells news ++ cur.toList.drop (l.length + news.length)).toArray) B e (.slice (some ⟨g, 0, none⟩) (l.length + news.length) cap) (l ++ news) := by
  have hsz : (cur.toList.take l.length ++ bcells news ++ cur.toList.drop (l.length + news.length)).toArray.size = cur.size := by
    simp only [List.size_toArray, List.length_append, List.length_take, List.length_drop, Array.length_toList, bcells_length]
    omega
  refine .inr ⟨g, cap, _, fz, by simp, hb, setRow_heap w g cur _ e _ hg, ?_, by simpa using hroom, hm, by rw [hsz, hs], ?_⟩
  · rw [hsz]; exact hfz
  · rw [ht, bcells_append]
    have : (l ++ news).length = (bcells l ++ bcells news).length := by simp [bcells]
    rw [this]
    exact List.take_left

theorem bytes_grown (w : World) {B : Nat} {e : TypeId} (l news : List UInt8) (cap : Nat) (hB : B ≤ w.heap.size) (hc : l.length + news.length ≤ cap) (hm : cap ≤ maxLen) (rest : Array Value) (hr : rest.size = cap - (l.length + news.length)) :
    Bytes (w.drew.alloc (.cells ((bcells l).toArray ++ (bcells news).toArray ++ rest) e)) B e (.slice (some ⟨w.heap.size, 0, none⟩) (l.length + news.length) cap) (l ++ news) := by
  refine .inr ⟨w.heap.size, cap, _, (0, 0), by simp, hB, heap_alloc_new w.drew _, .inl rfl, by simpa using hc, hm, ?_, ?_⟩
  · simp [bcells, hr]; omega
  · have : (l ++ news).length = (bcells l ++ bcells news).length := by simp [bcells]
    rw [this, bcells_append]
    simp only [Array.toList_append, List.append_assoc]
    rw [← List.append_assoc]
    exact List.take_left

theorem bytes_cells {w : World} {g _cap : Nat} {cur : Array Value} {e : TypeId} {fz : Nat × Nat} {l : List UInt8} (hg : w.heap[g]? = some (.cells cur e fz)) (ht : cur.toList.take l.length = bcells l) :
    ∀ j u, (bcells l)[j]? = some u → w.cell? ((⟨g, 0, none⟩ : Addr).add j) = some u := by
  intro j u hu
  have hadd : (⟨g, 0, none⟩ : Addr).add j = ⟨g, j, none⟩ := by unfold Addr.add; split <;> simp_all
  rw [hadd]
  rw [← ht, List.getElem?_take] at hu
  split at hu
  · simp only [World.cell?, hg]; simpa using hu
  · cases hu

theorem zeros_cells (n : Nat) : Builtin.zeroCells (Value.int .u8 0).cells n = (bcells (List.replicate n 0)).toArray := by
  simp only [Builtin.zeroCells, Value.cells, bcells]
  apply Array.ext
  · simp
  · intro i h1 h2
    simp [Nat.mod_one]

section
variable {P : Program} {t e : TypeId} {i : TypeInfo} (ht : P.underlying t = some (.slice e)) (hi : P.info? e = some i) (hz : i.zero = some (.int .u8 0)) (hs1 : i.size = 1) (hb1 : i.bytes = 1)
include ht hi hz hs1 hb1

/-- What an append yields: the bytes, and nothing below B is written. -/
def Out (P : Program) (args : Array TypeId) (ty : TypeId) (vs : Array Value) (w : World) (B : Nat) (e : TypeId) (l : List UInt8) : Prop :=
  ∃ v' w', (Builtin.append_ args ty vs).run P w = .ok v' w' ∧ Bytes w' B e v' l ∧ Below B w w'

omit ht hi hz hs1 hb1 in
theorem below_setRow (w : World) {B g : Nat} (h : B ≤ g) (cs : Array Value) : Below B w (w.setRow g cs) := ⟨rfl, rfl, rfl, by simp, fun k hk => setRow_other _ _ _ _ (by omega)⟩
omit ht hi hz hs1 hb1 in
theorem below_grown (w : World) {B : Nat} (h : B ≤ w.heap.size) (o : Obj) : Below B w (w.drew.alloc o) := ((Below.refl _ _).drew).alloc (by simpa using h) o

theorem append_cells (w : World) {B : Nat} {v : Value} {l : List UInt8} (h : Bytes w B e v l) (hB : B ≤ w.heap.size) (ty : TypeId) (ad : Addr) (c : Nat) (news : List UInt8) (hn : ∀ j u, (bcells news)[j]? = some u → w.cell? (ad.add j) = some u) (hl : l.length + news.length ≤ 1000000000) :
    Out P #[t, t] ty #[v, .slice (some ad) news.length c] w B e (l ++ news) := by
  rcases h with ⟨rfl, rfl⟩ | ⟨g, cap, cur, fz, rfl, hb, hg, hfz, hlc, hm, hcs, htk⟩
  · obtain ⟨v', w', r1, r2, r3, r4⟩ := run_append_own (P := P) w B t ty e i (.int .u8 0) 1 1 ht hi hz hs1 hb1 rfl (by decide) (.slice none 0 0) 0 [] ⟨rfl, .inl ⟨rfl, rfl⟩⟩ ad news.length c (bcells news) (by simp [bcells]) hn (bcells_one _) (by simp at hl; unfold maxLen; omega) (by simp at hl; omega) hB
    refine ⟨v', w', r1, ?_, (Below.refl _ _).grown r3 hB (fun k h => by cases h)⟩
    rcases r2.2 with ⟨rfl, hn0⟩ | ⟨g, cap, cur, rfl, h1, h2, h3, h4, h5, h6⟩
    · left
      refine ⟨rfl, List.eq_nil_of_length_eq_zero (by simpa using hn0)⟩
    · right
      simp at h3 h5 h6
      exact ⟨g, cap, cur, (0, 0), by simp, h1, h2, .inl rfl, by simpa using h3, h4, h5, by simpa using h6⟩
  · by_cases hroom : l.length + news.length ≤ cap
    · have hf := run_firstCells_some (P := P) w 1 news.length ad news.length c (bcells news) (by simp [bcells]) hn
      have hst := run_store P g l.length e fz (bcells news) 0 cur w hg hfz (by simp [bcells]; omega) (bcells_one _)
      simp only [Nat.add_zero, bcells_length] at hst
      refine ⟨_, _, ?_, bytes_room hb hg hfz hm hcs htk news hroom, below_setRow w hb _⟩
      simp [Builtin.append_, run_underlying ht, sizeOf, typeInfo, hi, hs1, Builtin.lenOf, hroom, hf, Addr.add_lit, hst]
    · have hr := run_append_grow (P := P) w t ty e i (.int .u8 0) ht hi hz ⟨g, 0, none⟩ l.length cap (bcells l) (by simp [bcells, hs1]) (bytes_cells (_cap := cap) hg htk) ad news.length c (bcells news) (by simp [bcells, hs1]) hn (by omega) (by omega) (growslice_fits (by omega) (by rw [hb1]; omega))
      have hge := grownCap_ge w (l.length + news.length) cap e
      have hcm := grownCap_le_maxLen w (l.length + news.length) cap e (by unfold maxLen; omega)
      refine ⟨_, _, hr, bytes_grown w l news _ hB hge hcm _ ?_, below_grown w hB _⟩
      simp [Builtin.zeroCells, Value.cells]

theorem append_text {u : TypeId} (hu : P.underlying u = some .string) (w : World) {B : Nat} {v : Value} {l : List UInt8} (h : Bytes w B e v l) (hB : B ≤ w.heap.size) (ty : TypeId) (s : ByteArray) (hl : l.length + s.size ≤ 1000000000) :
    Out P #[t, u] ty #[v, .string s] w B e (l ++ s.data.toList) := by
  have hls : s.data.toList.length = s.size := by simp
  rcases h with ⟨rfl, rfl⟩ | ⟨g, cap, cur, fz, rfl, hb, hg, hfz, hlc, hm, hcs, htk⟩
  · obtain ⟨v', w', r1, r2, r3, r4⟩ := run_append_own_string (P := P) w B t u ty e i ht hu hi hz hs1 hb1 (.slice none 0 0) 0 [] ⟨rfl, .inl ⟨rfl, rfl⟩⟩ s (by simp at hl; unfold maxLen; omega) (by simp at hl; omega) hB
    refine ⟨v', w', r1, ?_, (Below.refl _ _).grown r3 hB (fun k h => by cases h)⟩
    rcases r2.2 with ⟨rfl, hn0⟩ | ⟨g, cap, cur, rfl, h1, h2, h3, h4, h5, h6⟩
    · left
      refine ⟨rfl, List.eq_nil_of_length_eq_zero (by simp at hn0 ⊢; simpa using hn0)⟩
    · right
      simp at h3 h5 h6
      exact ⟨g, cap, cur, (0, 0), by simp, h1, h2, .inl rfl, by simpa using h3, h4, h5, by simpa [bcells, strCells] using h6⟩
  · by_cases hroom : l.length + s.size ≤ cap
    · have hf := run_firstCells_string (P := P) w 1 s
      have hst := run_store P g l.length e fz (strCells s) 0 cur w hg hfz (by simp [strCells_length]; omega) (strCells_oneCell s)
      simp only [Nat.add_zero, strCells_length] at hst
      have hbr := bytes_room hb hg hfz hm hcs htk s.data.toList (by rw [hls]; exact hroom)
      rw [hls] at hbr
      refine ⟨_, _, ?_, hbr, below_setRow w hb _⟩
      simp [Builtin.append_, run_underlying ht, run_underlying hu, sizeOf, typeInfo, hi, hs1, Builtin.lenOf, hroom, hf, Addr.add_lit, hst]
      rfl
    · have hr := run_append_grow_string (P := P) w t u ty e i (.int .u8 0) ht hu hi hz ⟨g, 0, none⟩ l.length cap (bcells l) (by simp [bcells, hs1]) (bytes_cells (_cap := cap) hg htk) s (by omega) (by omega) (growslice_fits (by omega) (by rw [hb1]; omega))
      have hge := grownCap_ge w (l.length + s.size) cap e
      have hcm := grownCap_le_maxLen w (l.length + s.size) cap e (by unfold maxLen; omega)
      have hbg := bytes_grown w (e := e) l s.data.toList _ hB (by rw [hls]; exact hge) hcm (Builtin.zeroCells (Value.int .u8 0).cells (grownCap w (l.length + s.size) cap e - (l.length + s.size))) (by simp [Builtin.zeroCells, Value.cells])
      rw [hls] at hbg
      exact ⟨_, _, hr, hbg, below_grown w hB _⟩

theorem append_zeros {u : TypeId} {kn kq : IntKind} (hu : P.underlying u = some (.int kn)) (w : World) {B : Nat} {v : Value} {l : List UInt8} (h : Bytes w B e v l) (hB : B ≤ w.heap.size) (hv : v ≠ .slice none 0 0) (ty : TypeId) (k : Nat) (hl : l.length + k ≤ 1000000000) :
    Out P #[t, u] ty #[v, .int kq k] w B e (l ++ List.replicate k 0) := by
  have hls : (List.replicate k (0 : UInt8)).length = k := by simp
  rcases h with ⟨rfl, rfl⟩ | ⟨g, cap, cur, fz, rfl, hb, hg, hfz, hlc, hm, hcs, htk⟩
  · exact absurd rfl hv
  · by_cases hroom : l.length + k ≤ cap
    · have hst := run_store P g l.length e fz (bcells (List.replicate k 0)) 0 cur w hg hfz (by simp [bcells]; omega) (bcells_one _)
      simp only [Nat.add_zero, bcells_length, hls] at hst
      have hbr := bytes_room hb hg hfz hm hcs htk (List.replicate k 0) (by rw [hls]; exact hroom)
      rw [hls] at hbr
      refine ⟨_, _, ?_, hbr, below_setRow w hb _⟩
      have hw : IntKind.i64.wrap (k : Int) = k := by rw [IntKind.wrap_i64]; omega
      have hneg : ¬ ((k : Int) < 0) := by omega
      have h48i : ¬ (281474976710656 < (k : Int)) := by omega
      by_cases hk : k = 0
      · subst hk
        simp at hst hroom
        have hw0 : IntKind.i64.wrap 0 = 0 := rfl
        simp [bcells] at hst
        simp [Builtin.append_, run_underlying ht, run_underlying hu, sizeOf, typeInfo, zeroValue, hi, hs1, hb1, hz, asInt, asIntOf, hw0, hroom, Addr.add_lit, hst, bcells]
      · simp [Builtin.append_, run_underlying ht, run_underlying hu, sizeOf, typeInfo, zeroValue, hi, hs1, hb1, hz, asInt, asIntOf, hw, hneg, h48i, hk, hroom, Addr.add_lit, zeros_cells, hst]
    · have hk : 0 < k := by omega
      have hfo := run_firstCells_some (P := P) w.drew i.size l.length ⟨g, 0, none⟩ l.length cap (bcells l) (by simp [bcells, hs1]) (by simpa using bytes_cells (_cap := cap) hg htk)
      have hr := run_append_grow_zeros (P := P) w t u ty e i (.int .u8 0) kq kn ht hu hi hz (some ⟨g, 0, none⟩) l.length cap (bcells l) hfo k hk (by omega) (by omega) (by omega) (by rw [hb1]; omega) (growslice_fits (by omega) (by rw [hb1]; omega))
      have hge := grownCap_ge w (l.length + k) cap e
      have hcm := grownCap_le_maxLen w (l.length + k) cap e (by unfold maxLen; omega)
      have hbg := bytes_grown w (e := e) l (List.replicate k 0) _ hB (by rw [hls]; exact hge) hcm (Builtin.zeroCells (Value.int .u8 0).cells (grownCap w (l.length + k) cap e - (l.length + k))) (by simp [Builtin.zeroCells, Value.cells])
      rw [hls] at hbg
      rw [zeros_cells k] at hr
      exact ⟨_, _, hr, hbg, below_grown w hB _⟩
end

theorem bytes_alloc {w : World} {B : Nat} {e : TypeId} {v : Value} {l : List UInt8} (h : Bytes w B e v l) (o : Obj) : Bytes (w.alloc o) B e v l := by
  rcases h with h | ⟨g, cap, cur, fz, rfl, hb, hg, r⟩
  · exact .inl h
  · refine .inr ⟨g, cap, cur, fz, rfl, hb, ?_, r⟩
    rw [Below.heap_alloc _ _ _ (Array.getElem?_eq_some_iff.1 hg).1]; exact hg

/-- The slice that '[]byte(s)' makes. -/
theorem bytes_conv (w : World) (e : TypeId) (s : ByteArray) (B : Nat) (hB : B ≤ w.heap.size) (hs : s.size ≤ 1000000000) :
    Bytes (w.drew.alloc (.cells (bytesRow s (grownCap w s.size 0 e)) e ((bytesRow s (grownCap w s.size 0 e)).size, (bytesRow s (grownCap w s.size 0 e)).size + 1))) B e (.slice (some ⟨w.heap.size, 0, none⟩) s.size (grownCap w s.size 0 e)) s.data.toList := by
  have hge := grownCap_ge w s.size 0 e
  have hcm := grownCap_le_maxLen w s.size 0 e (by unfold maxLen; omega)
  have hds : s.data.size = s.size := rfl
  refine .inr ⟨w.heap.size, _, _, _, by simp, hB, heap_alloc_new w.drew _, .inr (Nat.le_refl _), by simpa using hge, hcm, ?_, ?_⟩
  · simp [bytesRow]; omega
  · simp only [bytesRow, Array.toList_append]
    have : s.data.toList.length = (s.data.map (fun b => Value.int .u8 b.toNat)).toList.length := by simp
    rw [this, List.take_left]
    simp [bcells]

/-- 'string(b)'. -/
theorem bytes_string {P : Program} {w : World} {B e : Nat} {v : Value} {l : List UInt8} (src dst : TypeId)
    (hs : P.underlying src = some (.slice e)) (he : P.underlying e = some (.int .u8)) (hd : P.underlying dst = some .string)
    (h : Bytes w B e v l) : (convert src dst v).run P w = .ok (.string ⟨l.toArray⟩) w := by
  rcases h with ⟨rfl, rfl⟩ | ⟨g, cap, cur, fz, rfl, _, hg, _, _, _, _, htk⟩
  · exact run_convert_bytes_nil w src e hs he 0 0 dst hd
  · refine run_convert_bytes_back w src dst e _ cap l hs he hd fun j hj => ?_
    exact bytes_cells (_cap := cap) hg htk j _ (by simp [bcells, hj])

theorem bytes_of_own {w : World} {B e : Nat} {v : Value} {l : List UInt8} (h : w.ownsRow B e 1 v l.length (bcells l)) : Bytes w B e v l := by
  rcases h.2 with ⟨rfl, hn0⟩ | ⟨g, cap, cur, rfl, h1, h2, h3, h4, h5, h6⟩
  · exact .inl ⟨rfl, List.eq_nil_of_length_eq_zero hn0⟩
  · simp at h5 h6
    exact .inr ⟨g, cap, cur, (0, 0), rfl, h1, h2, .inl rfl, h3, h4, h5, h6⟩

theorem bytes_len {w : World} {B e : Nat} {v : Value} {l : List UInt8} (h : Bytes w B e v l) : ∃ a c, v = .slice a l.length c := by
  rcases h with ⟨rfl, rfl⟩ | ⟨g, cap, cur, fz, rfl, _⟩
  · exact ⟨none, 0, rfl⟩
  · exact ⟨_, _, rfl⟩

/-- The operation, for the walk. -/
theorem wpList_append_out {P : Program} {ops : Array Oper} {rest : List Oper} {o : Oper} {a : Act} {w : World} {Q : Exit → Act → World → Prop} (hgd : o.guard = none) (s x : Operand) (t tn : TypeId)
    (ho : o.op = .call { callee := .builtin .append, args := #[s, x], argTypes := #[t, tn] }) (vs vx : Value) (hs : a.eval s = vs) (hx : a.eval x = vx) {B : Nat} {e : TypeId} {l : List UInt8}
    (hr : Out P #[t, tn] o.type #[vs, vx] w B e l) (h : ∀ v' w', Bytes w' B e v' l → Below B w w' → wpList P ops Q rest (a.put o.dst v') w') : wpList P ops Q (o :: rest) a w := by
  obtain ⟨v', w', r, h1, h2⟩ := hr
  exact Lib.wpList_append_run w hgd s x t tn ho vs vx hs hx v' w' r (h v' w' h1 h2)
end Go.Proofs.YtgpjklnlchbbbaaGreatDoor.Byt
namespace Go.Proofs.YtgpjklnlchbbbaaGreatDoor.BitsM
open Go.RowKit

theorem bv8 (a : UInt8) : BitVec.ofInt 8 (a.toNat : Int) = a.toBitVec := by
  apply BitVec.eq_of_toNat_eq
  have := a.toNat_lt
  rw [BitVec.ofInt_natCast, BitVec.toNat_ofNat]
  exact Nat.mod_eq_of_lt (by simpa using this)
theorem wrap8 (b : BitVec 8) : IntKind.u8.wrap (b.toNat : Int) = ((⟨b⟩ : UInt8).toNat : Int) := by
  have := b.isLt
  rw [IntKind.wrap_u8]
  show (b.toNat : Int) % 256 = (b.toNat : Int)
  omega
theorem xor8 (a b : UInt8) : bits .xor .u8 (a.toNat : Int) (b.toNat : Int) = ((a ^^^ b).toNat : Int) := by
  show IntKind.u8.wrap ((BitVec.ofInt 8 (a.toNat : Int) ^^^ BitVec.ofInt 8 (b.toNat : Int)).toNat : Int) = _
  rw [bv8, bv8, wrap8]; rfl
theorem or8 (a b : UInt8) : bits .or .u8 (a.toNat : Int) (b.toNat : Int) = ((a ||| b).toNat : Int) := by
  show IntKind.u8.wrap ((BitVec.ofInt 8 (a.toNat : Int) ||| BitVec.ofInt 8 (b.toNat : Int)).toNat : Int) = _
  rw [bv8, bv8, wrap8]; rfl
theorem and8 (a b : UInt8) : bits .and .u8 (a.toNat : Int) (b.toNat : Int) = ((a &&& b).toNat : Int) := by
  show IntKind.u8.wrap ((BitVec.ofInt 8 (a.toNat : Int) &&& BitVec.ofInt 8 (b.toNat : Int)).toNat : Int) = _
  rw [bv8, bv8, wrap8]; rfl

theorem bv64 (a : Nat) (_h : a < 9223372036854775808) : BitVec.ofInt 64 (a : Int) = BitVec.ofNat 64 a := by
  rw [BitVec.ofInt_natCast]
theorem wrap64 (n : Nat) (h : n < 9223372036854775808) : IntKind.i64.wrap (n : Int) = (n : Int) := IntWalk.i64_in _ (by omega)
theorem or64 (a b : Nat) (ha : a < 9223372036854775808) (hb : b < 9223372036854775808) : bits .or .i64 (a : Int) (b : Int) = ((a ||| b : Nat) : Int) := by
  show IntKind.i64.wrap ((BitVec.ofInt 64 (a : Int) ||| BitVec.ofInt 64 (b : Int)).toNat : Int) = _
  have h := Nat.or_lt_two_pow (n := 63) ha hb
  rw [bv64 a ha, bv64 b hb, BitVec.toNat_or, BitVec.toNat_ofNat, BitVec.toNat_ofNat, Nat.mod_eq_of_lt (by omega), Nat.mod_eq_of_lt (by omega), wrap64 _ h]
theorem xor64 (a b : Nat) (ha : a < 9223372036854775808) (hb : b < 9223372036854775808) : bits .xor .i64 (a : Int) (b : Int) = ((a ^^^ b : Nat) : Int) := by
  show IntKind.i64.wrap ((BitVec.ofInt 64 (a : Int) ^^^ BitVec.ofInt 64 (b : Int)).toNat : Int) = _
  have h := Nat.xor_lt_two_pow (n := 63) ha hb
  rw [bv64 a ha, bv64 b hb, BitVec.toNat_xor, BitVec.toNat_ofNat, BitVec.toNat_ofNat, Nat.mod_eq_of_lt (by omega), Nat.mod_eq_of_lt (by omega), wrap64 _ h]
theorem and64 (a b : Nat) (ha : a < 9223372036854775808) (hb : b < 9223372036854775808) : bits .and .i64 (a : Int) (b : Int) = ((a &&& b : Nat) : Int) := by
  show IntKind.i64.wrap ((BitVec.ofInt 64 (a : Int) &&& BitVec.ofInt 64 (b : Int)).toNat : Int) = _
  have h := Nat.and_lt_two_pow (n := 63) a hb
  rw [bv64 a ha, bv64 b hb, BitVec.toNat_and, BitVec.toNat_ofNat, BitVec.toNat_ofNat, Nat.mod_eq_of_lt (by omega), Nat.mod_eq_of_lt (by omega), wrap64 _ h]
end Go.Proofs.YtgpjklnlchbbbaaGreatDoor.BitsM
namespace Go.Proofs.YtgpjklnlchbbbaaGreatDoor
open Go.RowKit Go.Proofs.YtgpjklnlchbbbaaGreatDoor.Hexa Go.Proofs.YtgpjklnlchbbbaaGreatDoor.Byt Go.Proofs.YtgpjklnlchbbbaaGreatDoor.BitsM

theorem infoByte : (Tryz.prog.info? 5).map (fun i => (i.zero, i.size, i.bytes)) = some (some (.int .u8 0), 1, 1) := by kernel_rfl
/-- One byte appended, in the block of the walk's own one-cell slice. -/
theorem outB (w : World) {B : Nat} {v : Value} {l : List UInt8} (h : Bytes w B 5 v l) (hB : B ≤ w.heap.size) (ty : TypeId) (c : UInt8) (x : Int) (hx : x = c.toNat) (hl : l.length ≤ 100000000) :
    Out Tryz.prog #[22, 22] ty #[v, .slice (some ⟨w.heap.size, 0, none⟩) 1 1] (w.alloc (.cells #[.int .u8 x] 5)) B 5 (l ++ [c]) := by
  obtain ⟨i0, hi, hz0, hz1, hz2⟩ := info_parts infoByte
  subst hx
  refine append_cells Tryz.underlying22 hi hz0 hz1 hz2 _ (bytes_alloc h _) (by simp; omega) ty ⟨w.heap.size, 0, none⟩ 1 [c] ?_ (by simp; omega)
  exact World.news_of_block (heap_alloc_new _ _)

/-- One byte n times. -/
def longB (n : Nat) (x : UInt8) : ByteArray := ⟨(List.replicate n x).toArray⟩
theorem longB_size (n : Nat) (x : UInt8) : (longB n x).size = n := by show (List.replicate n x).toArray.size = n; simp

theorem bytes_set {w : World} {B e g c : Nat} {l : List UInt8} (h : Bytes w B e (.slice (some ⟨g, 0, none⟩) l.length c) l) (k : Nat) (x : UInt8) :
    Bytes (w.setCell ⟨g, k, none⟩ (.int .u8 x.toNat)) B e (.slice (some ⟨g, 0, none⟩) l.length c) (l.set k x) := by
  rcases h with ⟨h, _⟩ | ⟨g', cap, cur, fz, hv, hb, hg, hfz, hlc, hm, hcs, htk⟩
  · cases h
  · simp at hv
    obtain ⟨rfl, rfl⟩ := hv
    rw [setCell_eq_setRow w g k cur e fz _ hg]
    refine .inr ⟨g, c, _, fz, by simp, hb, setRow_heap w g cur _ e fz hg, by simpa using hfz, by simpa using hlc, hm, by simpa using hcs, ?_⟩
    rw [Array.toList_setIfInBounds, List.length_set, List.take_set, htk]
    simp [bcells, List.map_set]
theorem bytes_at {w : World} {B e g c : Nat} {l : List UInt8} (h : Bytes w B e (.slice (some ⟨g, 0, none⟩) l.length c) l) (k : Nat) (hk : k < l.length) :
    w.cell? ⟨g, k, none⟩ = some (.int .u8 (l[k]).toNat) ∧ w.frozen? ⟨g, k, none⟩ = false ∧ B ≤ g := by
  rcases h with ⟨h, _⟩ | ⟨g', cap, cur, fz, hv, hb, hg, hfz, hlc, hm, hcs, htk⟩
  · cases h
  · simp at hv
    obtain ⟨rfl, rfl⟩ := hv
    refine ⟨?_, ?_, hb⟩
    · have := bytes_cells (_cap := c) hg htk k (.int .u8 (l[k]).toNat) (by simp [bcells, hk])
      have hadd : (⟨g, 0, none⟩ : Addr).add k = ⟨g, k, none⟩ := by unfold Addr.add; split <;> simp_all
      rwa [hadd] at this
    · obtain ⟨lo, hi'⟩ := fz
      simp only [World.frozen?, hg, Bool.and_eq_false_iff, decide_eq_false_iff_not]
      rcases hfz with h | h
      · right; cases h; omega
      · left; simp only at h; omega

end Go.Proofs.YtgpjklnlchbbbaaGreatDoor
namespace Go.Proofs.YtgpjklnlchbbbaaGreatDoor.Parts
open Go.RowKit

/-- A field is added where the run is not empty. -/
def put (P : List ByteArray) (s : ByteArray) (b i : Nat) : List ByteArray := if b < i then P ++ [s.extract b i] else P

/-- Behind the first i bytes: where the open run begins, and the fields so far. -/
def st (s : ByteArray) : Nat → Nat × List ByteArray
  | 0 => (0, [])
  | i + 1 => if s.data.toList.getD i 0 = 32 then (i + 1, put (st s i).2 s (st s i).1 i) else st s i

theorem st_le (s : ByteArray) : ∀ i, (st s i).1 ≤ i
  | 0 => Nat.le_refl _
  | i + 1 => by
    have := st_le s i
    simp only [st]; split
    · exact Nat.le_refl _
    · omega

theorem put_length (P : List ByteArray) (s : ByteArray) (b i : Nat) : (put P s b i).length ≤ P.length + 1 := by
  unfold put; split <;> simp

theorem st_length (s : ByteArray) : ∀ i, (st s i).2.length ≤ i
  | 0 => Nat.le_refl _
  | i + 1 => by
    have := st_length s i
    have h2 := put_length (st s i).2 s (st s i).1 i
    simp only [st]; split
    · simp only; omega
    · omega

theorem getD_eq (s : ByteArray) (i : Nat) (h : i < s.size) : s.data.toList.getD i 0 = s[i] := by
  have h' : i < s.data.toList.length := by simpa using h
  simp [List.getD, List.getElem?_eq_getElem h']; rfl

theorem st_space (s : ByteArray) (i : Nat) (h : i < s.size) (e : (s[i].toNat : Int) = 32) : st s (i + 1) = (i + 1, put (st s i).2 s (st s i).1 i) := by
  have : s[i] = 32 := by apply UInt8.toNat_inj.1; simp; omega
  simp only [st]; rw [if_pos (by rw [getD_eq s i h, this])]
theorem st_other (s : ByteArray) (i : Nat) (h : i < s.size) (e : (s[i].toNat : Int) ≠ 32) : st s (i + 1) = st s i := by
  have : s[i] ≠ 32 := fun h => e (by rw [h]; rfl)
  simp only [st]; rw [if_neg (by rw [getD_eq s i h]; exact this)]

/-- Every byte up to place n may stand in a line. -/
def okTo (s : ByteArray) (n : Nat) : Prop := ∀ j (h : j < s.size), j < n → (32 : Int) ≤ s[j].toNat ∧ (s[j].toNat : Int) ≤ 126

theorem okTo_step {s : ByteArray} {i : Nat} (g : okTo s i) (h : i < s.size) (h1 : (32 : Int) ≤ s[i].toNat) (h2 : (s[i].toNat : Int) ≤ 126) : okTo s (i + 1) := by
  intro j hj hi
  by_cases e : j < i
  · exact g j hj e
  · have : j = i := by omega
    subst this; exact ⟨h1, h2⟩

def fin (s : ByteArray) : List ByteArray := put (st s s.size).2 s (st s s.size).1 s.size

open Classical in
/-- What PartsOf returns for a line of at most 600 bytes. -/
noncomputable def parts (s : ByteArray) : List ByteArray := if okTo s s.size ∧ (fin s).length ≤ 12 then fin s else []
open Classical in
noncomputable def partsOk (s : ByteArray) : Bool := if okTo s s.size ∧ (fin s).length ≤ 12 then true else false

theorem parts_yes {s : ByteArray} (h : okTo s s.size) (h2 : (fin s).length ≤ 12) : parts s = fin s ∧ partsOk s = true := by simp [parts, partsOk, h, h2]
theorem parts_many {s : ByteArray} (h2 : 12 < (fin s).length) : parts s = [] ∧ partsOk s = false := by
  have : ¬ (fin s).length ≤ 12 := by omega
  simp [parts, partsOk, this]
theorem parts_bad {s : ByteArray} (i : Nat) (h : i < s.size) (hb : (s[i].toNat : Int) < 32 ∨ (126 : Int) < s[i].toNat) : parts s = [] ∧ partsOk s = false := by
  have : ¬ okTo s s.size := fun g => by have := g i h h; omega
  simp [parts, partsOk, this]
theorem parts_le (s : ByteArray) : (parts s).length ≤ 12 := by
  unfold parts; split
  · rename_i h; exact h.2
  · simp

/-- What one more space, or the end of the line, makes of the fields. -/
theorem put_yes {P : List ByteArray} {s : ByteArray} {b i : Nat} (h : b < i) : put P s b i = P ++ [s.extract b i] := by unfold put; rw [if_pos h]
theorem put_no {P : List ByteArray} {s : ByteArray} {b i : Nat} (h : ¬ b < i) : put P s b i = P := by unfold put; rw [if_neg h]

/-- The relation behind a space at place i. -/
theorem rel_space {s : ByteArray} {i b : Nat} {P : List ByteArray} (h : i < s.size) (e : (s[i].toNat : Int) = 32) (H1 : i ≤ s.size → b = (st s i).1 ∧ P = (st s i).2) :
    (i + 1 ≤ s.size → i + 1 = (st s (i + 1)).1 ∧ put P s b i = (st s (i + 1)).2) ∧ (s.size < i + 1 → put P s b i = fin s) := by
  obtain ⟨rfl, rfl⟩ := H1 (by omega)
  rw [st_space s i h e]
  exact ⟨fun _ => ⟨rfl, rfl⟩, fun _ => by omega⟩
/-- The relation behind the end. -/
theorem rel_end {s : ByteArray} {b : Nat} {P : List ByteArray} (H1 : s.size ≤ s.size → b = (st s s.size).1 ∧ P = (st s s.size).2) :
    (s.size + 1 ≤ s.size → s.size + 1 = (st s (s.size + 1)).1 ∧ put P s b s.size = (st s (s.size + 1)).2) ∧ (s.size < s.size + 1 → put P s b s.size = fin s) := by
  obtain ⟨rfl, rfl⟩ := H1 (Nat.le_refl _)
  exact ⟨fun h => by omega, fun _ => rfl⟩
/-- The relation behind another byte. -/
theorem rel_other {s : ByteArray} {i b : Nat} {P : List ByteArray} (h : i < s.size) (e : (s[i].toNat : Int) ≠ 32) (H1 : i ≤ s.size → b = (st s i).1 ∧ P = (st s i).2) :
    (i + 1 ≤ s.size → b = (st s (i + 1)).1 ∧ P = (st s (i + 1)).2) ∧ (s.size < i + 1 → P = fin s) := by
  rw [st_other s i h e]
  exact ⟨fun _ => H1 (by omega), fun _ => by omega⟩
theorem okTo_end {s : ByteArray} (h : okTo s s.size) : okTo s (s.size + 1) := fun j hj _ => h j hj hj

theorem ext_size (s : ByteArray) (b i : Nat) : (s.extract b i).size ≤ s.size := by simp [ByteArray.size_extract]; omega

/-- The fields with one more run, if it is not empty. -/
def addRun (P : List ByteArray) (r : ByteArray) : List ByteArray := if r.toList.isEmpty then P else P ++ [r]
theorem isEmpty_iff (r : ByteArray) : r.toList.isEmpty = true ↔ r.size = 0 := by
  rw [List.isEmpty_iff, ← List.length_eq_zero_iff, ByteArray.toList_eq]; simp
theorem addRun_eq (P : List ByteArray) (s : ByteArray) (b i : Nat) (h : i ≤ s.size) : addRun P (s.extract b i) = put P s b i := by
  unfold addRun put
  by_cases hb : b < i
  · rw [if_pos hb, if_neg]
    rw [isEmpty_iff, ByteArray.size_extract]; omega
  · rw [if_neg hb, if_pos]
    rw [isEmpty_iff, ByteArray.size_extract]; omega

def scells (P : List ByteArray) : List Value := P.map Value.string

theorem own_below {B : Nat} {e : TypeId} {k : Nat} {v : Value} {n : Nat} {xs : List Value} {w w' : World} (h : w.ownsRow B e k v n xs) (hb : Below w.heap.size w w') : w'.ownsRow B e k v n xs := by
  obtain ⟨h1, h2⟩ := h
  refine ⟨h1, ?_⟩
  rcases h2 with h2 | ⟨g, cap, cur, hv, hg, hh, r⟩
  · exact Or.inl h2
  · have hlt : g < w.heap.size := (Array.getElem?_eq_some_iff.1 hh).1
    exact Or.inr ⟨g, cap, cur, hv, hg, by rw [hb.block g hlt]; exact hh, r⟩

/-- The slice at the address reads as these texts. -/
def Reads (w : World) (ad : Option Addr) (xs : List Value) : Prop := ∀ j, j < xs.length → ∃ g, ad = some ⟨g, 0, none⟩ ∧ w.cell? ⟨g, j, none⟩ = xs[j]?

theorem own_form {w : World} {base e : Nat} {v : Value} {n : Nat} {xs : List Value} (h : w.ownsRow base e 1 v n xs) : ∃ ad cap, v = .slice ad n cap ∧ cap ≤ maxLen ∧ n ≤ cap ∧ Reads w ad xs := by
  have hl : xs.length = n := by simpa using h.1
  rcases h.2 with ⟨rfl, rfl⟩ | ⟨g, cap, cur, rfl, hg, hh, hn, hc, _⟩
  · refine ⟨none, 0, rfl, by decide, Nat.le_refl _, fun j hj => ?_⟩
    omega
  · exact ⟨_, cap, rfl, hc, hn, fun j hj => ⟨g, rfl, h.cellAt j (by omega)⟩⟩

theorem own_reads {w : World} {base e : Nat} {ad : Option Addr} {n cap : Nat} {xs : List Value} (h : w.ownsRow base e 1 (.slice ad n cap) n xs) : Reads w ad xs := by
  obtain ⟨ad', cap', hv, _, _, hr⟩ := own_form h
  simp at hv
  obtain ⟨rfl, _⟩ := hv
  exact hr

/-- The decimal digits of a number; none for 0. -/
def digs (k : Nat) : List UInt8 := if _h : k = 0 then [] else digs (k / 10) ++ [UInt8.ofNat (48 + k % 10)]
termination_by k
decreasing_by omega

theorem digs_zero : digs 0 = [] := by rw [digs]; simp
theorem digs_step (k : Nat) (h : 0 < k) : digs k = digs (k / 10) ++ [UInt8.ofNat (48 + k % 10)] := by rw [digs]; simp; omega
theorem digs_len (k : Nat) : (digs k).length ≤ k := by
  induction k using Nat.strongRecOn with
  | _ k ih =>
    by_cases h : k = 0
    · subst h; rw [digs_zero]; simp
    · rw [digs_step k (by omega)]
      have := ih (k / 10) (by omega)
      simp; omega
def markT (k : Nat) : ByteArray := ⟨(109 :: digs k).toArray⟩

theorem one_byte (c : UInt8) : ∃ cs : ByteArray, cs.size = 1 ∧ cs.data.toList = [c] ∧ cs = ⟨[c].toArray⟩ := ⟨⟨[c].toArray⟩, rfl, rfl, rfl⟩
theorem data_append (a b : ByteArray) : (a ++ b).data.toList = a.data.toList ++ b.data.toList := by simp
theorem digs_round {k j : Nat} {t cs : ByteArray} (hj : 0 < j) (h : digs j ++ t.data.toList = digs k) (hc : cs.data.toList = [UInt8.ofNat (48 + j % 10)]) : digs (j / 10) ++ (cs ++ t).data.toList = digs k := by
  rw [data_append, hc, ← h, digs_step j hj, List.append_assoc]
theorem digs_size {k j : Nat} {t : ByteArray} (h : digs j ++ t.data.toList = digs k) : t.size ≤ k := by
  have := digs_len k
  rw [← h, List.length_append] at this
  simp at this; omega
theorem mark_end {k : Nat} {t : ByteArray} (h : digs 0 ++ t.data.toList = digs k) : (⟨#[109]⟩ : ByteArray) ++ t = markT k := by
  rw [digs_zero, List.nil_append] at h
  apply ByteArray.ext
  apply Array.toList_inj.1
  rw [data_append, h]; rfl
end Go.Proofs.YtgpjklnlchbbbaaGreatDoor.Parts
