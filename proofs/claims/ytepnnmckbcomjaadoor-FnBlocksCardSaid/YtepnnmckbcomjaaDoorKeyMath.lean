/- The round keys of AES, one after another. -/
import Derived.Test.YtepnnmckbcomjaaDoorAesMath
namespace Go.Proofs.YtepnnmckbcomjaaDoor.Aes
open Go.Proofs.YtepnnmckbcomjaaDoor.Fld

/-- The word that the first word of round key k is added to. -/
def turnedL (t : List UInt8) (k : Nat) : List UInt8 := [boxU (t.getD 1 0) ^^^ UInt8.ofNat (pow 2 (k - 1)), boxU (t.getD 2 0), boxU (t.getD 3 0), boxU (t.getD 0 0)]
/-- Word j of a round key. -/
def wordO (l : List UInt8) (j : Nat) : List UInt8 := (l.drop (4 * j)).take 4
/-- The word behind j words of the round key behind l. -/
def goneW (l : List UInt8) (k : Nat) : Nat → List UInt8
  | 0 => turnedL (wordO l 3) k
  | j + 1 => xorB (wordO l j) (goneW l k j)
def goneT (l : List UInt8) (k : Nat) : Nat → List UInt8
  | 0 => []
  | j + 1 => goneT l k j ++ goneW l k (j + 1)
def afterL (l : List UInt8) (k : Nat) : List UInt8 := goneT l k 4
theorem wordO_length (l : List UInt8) (hl : l.length = 16) (j : Nat) (hj : j < 4) : (wordO l j).length = 4 := by
  unfold wordO; rw [List.length_take, List.length_drop]; omega
theorem goneW_length (l : List UInt8) (k : Nat) (hl : l.length = 16) : ∀ j, j ≤ 4 → (goneW l k j).length = 4
  | 0, _ => rfl
  | j + 1, h => xorB_length (wordO_length l hl j (by omega)) (goneW_length l k hl j (by omega))
theorem goneT_length (l : List UInt8) (k : Nat) (hl : l.length = 16) : ∀ j, j ≤ 4 → (goneT l k j).length = 4 * j
  | 0, _ => rfl
  | j + 1, h => by show (goneT l k j ++ goneW l k (j + 1)).length = _; rw [List.length_append, goneT_length l k hl j (by omega), goneW_length l k hl _ h]; omega

theorem getD_behind (P l : List UInt8) (n i j : Nat) (h : P.length = n) (e : i = n + j) : (P ++ l).getD i 0 = l.getD j 0 := by
  subst h e
  simp [List.getD, List.getElem?_append_right]
theorem keyB_take (key : List UInt8) (h : key.length = 16) (n : Nat) : ∀ m, (keyB key (n + m)).take (16 + 4 * n) = keyB key n
  | 0 => List.take_of_length_le (by rw [Nat.add_zero, keyB_length key h]; omega)
  | m + 1 => by
    show (keyB key (n + m) ++ nextW (keyB key (n + m)) (n + m + 4)).take (16 + 4 * n) = _
    rw [List.take_append_of_le_length (by rw [keyB_length key h]; omega)]
    exact keyB_take key h n m
/-- Round key k stands at the end of the words up to it. -/
theorem keyAt_end (key : List UInt8) (h : key.length = 16) (k : Nat) (hk : k ≤ 10) : keyAt key k = (keyB key (4 * k)).drop (16 * k) := by
  have e := keyB_take key h (4 * k) (40 - 4 * k)
  rw [show 4 * k + (40 - 4 * k) = 40 by omega] at e
  unfold keyAt
  rw [← e, List.drop_take, show 16 + 4 * (4 * k) - 16 * k = 16 by omega]
/-- The words of a round key, behind the bytes before. -/
theorem next_first (P : List UInt8) (k : Nat) (hP : P.length = 16 * k) (a0 a1 a2 a3 a4 a5 a6 a7 a8 a9 a10 a11 a12 a13 a14 a15 : UInt8) :
    nextW (P ++ [a0, a1, a2, a3, a4, a5, a6, a7, a8, a9, a10, a11, a12, a13, a14, a15]) (4 * k + 4) = [a0 ^^^ (boxU a13 ^^^ UInt8.ofNat (pow 2 k)), a1 ^^^ boxU a14, a2 ^^^ boxU a15, a3 ^^^ boxU a12] := by
  have hm : (4 * k + 4) % 4 = 0 := by omega
  have hd : (4 * k + 4) / 4 - 1 = k := by omega
  unfold nextW nextB tmpW
  simp only [hm, hd, if_true]
  simp only [show List.range 4 = [0, 1, 2, 3] from rfl, List.map_cons, List.map_nil]
  rw [getD_behind P _ _ (4 * (4 * k + 4) - 16 + 0) 0 hP (by omega), getD_behind P _ _ (4 * (4 * k + 4) - 16 + 1) 1 hP (by omega), getD_behind P _ _ (4 * (4 * k + 4) - 16 + 2) 2 hP (by omega), getD_behind P _ _ (4 * (4 * k + 4) - 16 + 3) 3 hP (by omega),
    getD_behind P _ _ (4 * (4 * k + 4) - 3) 13 hP (by omega), getD_behind P _ _ (4 * (4 * k + 4) - 2) 14 hP (by omega), getD_behind P _ _ (4 * (4 * k + 4) - 1) 15 hP (by omega), getD_behind P _ _ (4 * (4 * k + 4) - 4) 12 hP (by omega)]
  rfl
theorem next_more (P l : List UInt8) (n i m : Nat) (hP : P.length = n) (hi : 4 * i = n + 16 + 4 * m) (hm : i % 4 ≠ 0) :
    nextW (P ++ l) i = [l.getD (4 * m) 0 ^^^ l.getD (4 * m + 12) 0, l.getD (4 * m + 1) 0 ^^^ l.getD (4 * m + 13) 0, l.getD (4 * m + 2) 0 ^^^ l.getD (4 * m + 14) 0, l.getD (4 * m + 3) 0 ^^^ l.getD (4 * m + 15) 0] := by
  unfold nextW nextB tmpW
  simp only [if_neg hm]
  simp only [show List.range 4 = [0, 1, 2, 3] from rfl, List.map_cons, List.map_nil]
  rw [getD_behind P _ _ (4 * i - 16 + 0) (4 * m) hP (by omega), getD_behind P _ _ (4 * i - 16 + 1) (4 * m + 1) hP (by omega), getD_behind P _ _ (4 * i - 16 + 2) (4 * m + 2) hP (by omega), getD_behind P _ _ (4 * i - 16 + 3) (4 * m + 3) hP (by omega),
    getD_behind P _ _ (4 * i - 3) (4 * m + 13) hP (by omega), getD_behind P _ _ (4 * i - 2) (4 * m + 14) hP (by omega), getD_behind P _ _ (4 * i - 1) (4 * m + 15) hP (by omega), getD_behind P _ _ (4 * i - 4) (4 * m + 12) hP (by omega)]
  rfl
theorem keyB_four (key P : List UInt8) (k : Nat) (hP : P.length = 16 * k) (a0 a1 a2 a3 a4 a5 a6 a7 a8 a9 a10 a11 a12 a13 a14 a15 : UInt8)
    (h : keyB key (4 * k) = P ++ [a0, a1, a2, a3, a4, a5, a6, a7, a8, a9, a10, a11, a12, a13, a14, a15]) :
    keyB key (4 * k + 4) = P ++ ([a0, a1, a2, a3, a4, a5, a6, a7, a8, a9, a10, a11, a12, a13, a14, a15] ++ afterL [a0, a1, a2, a3, a4, a5, a6, a7, a8, a9, a10, a11, a12, a13, a14, a15] (k + 1)) := by
  have e1 : keyB key (4 * k + 1) = keyB key (4 * k) ++ nextW (keyB key (4 * k)) (4 * k + 4) := rfl
  have e2 : keyB key (4 * k + 2) = keyB key (4 * k + 1) ++ nextW (keyB key (4 * k + 1)) (4 * k + 5) := rfl
  have e3 : keyB key (4 * k + 3) = keyB key (4 * k + 2) ++ nextW (keyB key (4 * k + 2)) (4 * k + 6) := rfl
  have e4 : keyB key (4 * k + 4) = keyB key (4 * k + 3) ++ nextW (keyB key (4 * k + 3)) (4 * k + 7) := rfl
  rw [h, next_first P k hP, List.append_assoc] at e1
  rw [e1, next_more P _ (16 * k) (4 * k + 5) 1 hP (by omega) (by omega), List.append_assoc] at e2
  rw [e2, next_more P _ (16 * k) (4 * k + 6) 2 hP (by omega) (by omega), List.append_assoc] at e3
  rw [e3, next_more P _ (16 * k) (4 * k + 7) 3 hP (by omega) (by omega), List.append_assoc] at e4
  rw [e4]
  generalize hr : boxU a13 ^^^ UInt8.ofNat (pow 2 k) = r
  have hw : turnedL [a12, a13, a14, a15] (k + 1) = [r, boxU a14, boxU a15, boxU a12] := by rw [← hr]; rfl
  have e0 : ∀ j, goneW [a0, a1, a2, a3, a4, a5, a6, a7, a8, a9, a10, a11, a12, a13, a14, a15] (k + 1) (j + 1) = xorB (wordO [a0, a1, a2, a3, a4, a5, a6, a7, a8, a9, a10, a11, a12, a13, a14, a15] j) (goneW [a0, a1, a2, a3, a4, a5, a6, a7, a8, a9, a10, a11, a12, a13, a14, a15] (k + 1) j) := fun _ => rfl
  have e9 : goneW [a0, a1, a2, a3, a4, a5, a6, a7, a8, a9, a10, a11, a12, a13, a14, a15] (k + 1) 0 = [r, boxU a14, boxU a15, boxU a12] := hw
  unfold afterL
  show _ = P ++ (_ ++ ((([] ++ goneW _ _ 1) ++ goneW _ _ 2) ++ goneW _ _ 3 ++ goneW _ _ 4))
  rw [e0 3, e0 2, e0 1, e0 0, e9]
  rfl
theorem keyAt_next (key : List UInt8) (h : key.length = 16) (k : Nat) (hk : k < 10) : keyAt key (k + 1) = afterL (keyAt key k) (k + 1) := by
  have hl := keyAt_length key h k (by omega)
  have he := keyAt_end key h k (by omega)
  have hB := keyB_length key h (4 * k)
  have hs : keyB key (4 * k) = (keyB key (4 * k)).take (16 * k) ++ keyAt key k := by rw [he, List.take_append_drop]
  have hP : ((keyB key (4 * k)).take (16 * k)).length = 16 * k := by rw [List.length_take]; omega
  rw [keyAt_end key h (k + 1) (by omega), show 4 * (k + 1) = 4 * k + 4 by omega]
  generalize (keyB key (4 * k)).take (16 * k) = P at hs hP
  generalize keyAt key k = L at hs hl
  match L, hl with
  | [a0, a1, a2, a3, a4, a5, a6, a7, a8, a9, a10, a11, a12, a13, a14, a15], _ =>
    rw [keyB_four key P k hP _ _ _ _ _ _ _ _ _ _ _ _ _ _ _ _ hs, ← List.append_assoc]
    exact List.drop_left' (by rw [List.length_append, hP]; rfl)
end Go.Proofs.YtepnnmckbcomjaaDoor.Aes
