/- Merged texts: DrawText, NumMath, NumBack, Elem, RecBase, EntryBase, RecMath, Bk, Draw12. -/
import Derived.Test.YtcckhkihhhchbaaDoorPIA
import Derived.Deep.QuietTactic
import Derived.BigQuiet
import Derived.Test.YtcckhkihhhchbaaDoorRows
import Derived.WalkKit
import Derived.WalkSpells
import Derived.WalkLawsBesides
import Derived.Lib.Hide
import Derived.Lib.Overlaps
import Derived.OwnWalk
import Derived.OneCell
import Derived.Deep.RegionHeld3
import Derived.Deep.AppendLies
import Derived.RowKit3
import Derived.Below
namespace Go.Proofs.YtcckhkihhhchbaaDoor
open Go.RowKit Go.Proofs.YtcckhkihhhchbaaDoor.Hexa Go.Proofs.YtcckhkihhhchbaaDoor.Byt
namespace Draw

theorem bytes_kept {w w' : World} {B e c : Nat} {v : Value} {l : List UInt8} (h : Bytes w B e v l) (hg : w.grownBy w' (some c)) (hc : c < B) : Bytes w' B e v l := by
  rcases h with h | ⟨g, cap, cur, fz, hv, hb, hh, r⟩
  · exact .inl h
  · exact .inr ⟨g, cap, cur, fz, hv, hb, by rw [hg.block g (Array.getElem?_eq_some_iff.1 hh).1 (fun e => by simp at e; omega)]; exact hh, r⟩
theorem byte_of (x : Int) (h0 : 0 ≤ x) (h1 : x ≤ 255) : x = ((UInt8.ofNat x.toNat).toNat : Int) := by
  rw [UInt8.toNat_ofNat']; omega

set_option maxRecDepth 100000 in
set_option maxHeartbeats 1000000 in
theorem text_any (c : Nat) (ad : Option Addr) (len cap n : Nat) (w : World) (hlen : len ≤ 1048576) (hn : n ≤ 5000) (hc : Cur w c ad len cap) (hs : Src w c ad len) :
    Calls Tryd.prog 75 #[.pointer (some ⟨c, 0, none⟩), .int .i64 n] w (DrawPost (fun v => ∃ t : ByteArray, v = .string t ∧ t.size = n) w c ad len cap) := by
  have HC := Lib.hid hc
  have HS := Lib.hid hs
  have hlt0 := cur_lt hc
  clear hc hs
  have HC0 : Hid (Cur (w.alloc (.cells #[] 5)) c ad len cap) := Lib.hid (cur_grown HC.out (grown_alloc _ _ none) (by simp))
  have HS0 : Hid (Src (w.alloc (.cells #[] 5)) c ad len) := Lib.hid (src_grown' HS.out (grown_alloc _ _ none) (fun k e => by cases e) (by omega))
  have HG0 : Hid (w.grownBy (w.alloc (.cells #[] 5)) (some c)) := Lib.hid (grown_alloc _ _ _)
  have HB0 : Hid (Bytes (w.alloc (.cells #[] 5)) w.heap.size 5 (.slice (some ⟨w.heap.size, 0, none⟩) 0 0) []) := Lib.hid (bytes_of_own (l := []) (World.ownsRow_lit w #[] 0 (Nat.le_refl _) (by decide) rfl))
  go_enter Tryd.func75, Tryd.ntmps75
  go_wp2
  go_loopw [5, 6] (fun v iv wr => ∃ (k : Nat) (l : List UInt8), k ≤ n ∧ iv = .int .i64 k ∧ l.length = k ∧ Hid (Bytes wr w.heap.size 5 v l) ∧ Hid (Cur wr c ad len cap) ∧ Hid (Src wr c ad len) ∧ Hid (w.grownBy wr (some c)))
    (fun _ iv _ => n - (intOf iv).toNat)
  case atStart => exact ⟨0, [], Nat.zero_le _, rfl, rfl, HB0, HC0, HS0, HG0⟩
  case round =>
    clear HC0 HS0 HG0 HB0
    obtain ⟨k, l, hk, rfl, hl, HB, HCr, HSr, HGr⟩ := hrel
    by_cases hlt : k < n
    · go_wp2_with fail
      refine (byte_any c ad len cap wr hlen HCr.out HSr.out).mono ?_
      rintro e w1 ⟨x, x0, x1, rfl, hc1, hg1⟩
      have HB1 := Lib.hid (bytes_kept HB.out hg1 hlt0)
      have HC1 := Lib.hid hc1
      have HS1 := Lib.hid (src_grown HSr.out hg1 (cur_lt HCr.out))
      have HG1 := Lib.hid (grownBy_trans HGr.out hg1)
      have hsz : w.heap.size ≤ w1.heap.size := HG1.out.size
      clear hc1 hg1
      go_wp2_with (at_builtin; refine wpList_append_out rfl (.tmp 15) (.tmp 19) 22 22 rfl _ _ rfl rfl (outB w1 HB1.out hsz _ (UInt8.ofNat x.toNat) _ (byte_of x x0 x1) (by omega)) ?_; intro v2 w2 hb2 hg2)
      have C2 := Lib.hid (cur_below (cur_grown HC1.out (grown_alloc _ _ none) (by simp)) hg2 hlt0)
      have S2 := Lib.hid (src_below (src_grown' HS1.out (grown_alloc _ _ none) (fun k e => by cases e) (by omega)) hg2 (by omega))
      have G2 := Lib.hid (grown_below (grownBy_trans HG1.out (grown_alloc _ _ _)) hg2 (Nat.le_refl _))
      have HB2 := Lib.hid hb2
      clear hb2 hg2
      go_wp2
      go_roundw
      case rel => exact ⟨k + 1, _, by omega, by go_num, by simp [hl], HB2, C2, S2, G2⟩
      case measure => (simp [intOf]; try omega)
    · obtain rfl : k = n := by omega
      have hconv := bytes_string (P := Tryd.prog) 22 9 Tryd.underlying22 Tryd.underlying5 Tryd.underlying9 HB.out
      go_wp2
      go_ret
      exact ⟨_, ⟨_, rfl, by show l.toArray.size = k; simp [hl]⟩, rfl, HCr.out, HGr.out⟩

end Draw
end Go.Proofs.YtcckhkihhhchbaaDoor
namespace Go.Proofs.YtcckhkihhhchbaaDoor
open Go.RowKit Go.Proofs.YtcckhkihhhchbaaDoor.Hexa Go.Proofs.YtcckhkihhhchbaaDoor.Byt Go.Proofs.YtcckhkihhhchbaaDoor.BitsM Go.Proofs.YtcckhkihhhchbaaDoor.Parts

/-- n zero bytes; none where n is not from 0 to 20000. -/
def zeroB (n : Int) : ByteArray := if 0 ≤ n ∧ n ≤ 20000 then longB n.toNat 0 else ⟨#[]⟩
/-- A text with zero bytes behind it, eight in all; none for a longer one. -/
def wordB (s : ByteArray) : ByteArray := if s.size ≤ 8 then s ++ longB (8 - s.size) 0 else ⟨#[]⟩
theorem zeroB_of (s : ByteArray) (h : s.size ≤ 8) : zeroB (8 - (s.size : Int)) = longB (8 - s.size) 0 := by
  unfold zeroB
  rw [if_pos (by omega), show (8 - (s.size : Int)).toNat = 8 - s.size by omega]
/-- Two texts of one length combined, the first k bytes of them. -/
def xorL (a b : ByteArray) (k : Nat) : List UInt8 := (List.zipWith (· ^^^ ·) a.data.toList b.data.toList).take k
def xorT (a b : ByteArray) : ByteArray := if a.size = b.size then ⟨(xorL a b a.size).toArray⟩ else ⟨#[]⟩
theorem xorL_length (a b : ByteArray) (hl : a.size = b.size) (k : Nat) (hk : k ≤ a.size) : (xorL a b k).length = k := by
  have h1 : a.data.toList.length = a.size := by simp
  have h2 : b.data.toList.length = b.size := by simp
  unfold xorL
  rw [List.length_take, List.length_zipWith]
  omega
theorem xorL_next (a b : ByteArray) (k : Nat) (ha : k < a.size) (hb : k < b.size) : bcells (xorL a b k) ++ [.int .u8 (((a[k]'ha) ^^^ (b[k]'hb)).toNat : Int)] = bcells (xorL a b (k + 1)) := by
  have h1 : k < a.data.toList.length := by simpa using ha
  have h2 : k < b.data.toList.length := by simpa using hb
  have e : (List.zipWith (· ^^^ ·) a.data.toList b.data.toList)[k]'(by rw [List.length_zipWith]; omega) = (a[k]'ha) ^^^ (b[k]'hb) := by rw [List.getElem_zipWith]; rfl
  unfold xorL
  rw [List.take_succ_eq_append_getElem (by rw [List.length_zipWith]; omega), e]
  simp [bcells]
/-- The first j of the k bytes of a number. -/
def numL (m k j : Nat) : List UInt8 := (List.range j).map fun t => UInt8.ofNat (m / 256 ^ (k - 1 - t))
def numB (m k : Nat) : ByteArray := ⟨(numL m k k).toArray⟩
theorem numL_length (m k j : Nat) : (numL m k j).length = j := by simp [numL]
theorem numL_next (m k j : Nat) : numL m k j ++ [UInt8.ofNat (m / 256 ^ (k - 1 - j))] = numL m k (j + 1) := by simp [numL, List.range_succ]
/-- The number has room in width bytes. -/
def NumFits (n width : Int) : Prop := 0 ≤ n ∧ (1 ≤ width ∧ width ≤ 7) ∧ n < 256 ^ width.toNat
theorem shift_zero {m k : Nat} (h : m < 256 ^ k) : (m : Int) / 2 ^ (8 * k) = 0 := by
  have e : (2 : Int) ^ (8 * k) = ((256 ^ k : Nat) : Int) := by rw [show (256 : Nat) ^ k = 2 ^ (8 * k) by rw [Nat.pow_mul]]; simp
  rw [e, ← Int.natCast_ediv, Nat.div_eq_of_lt h]; rfl
theorem shift_pos {m k : Nat} (h : 256 ^ k ≤ m) : 0 < (m : Int) / 2 ^ (8 * k) := by
  have e : (2 : Int) ^ (8 * k) = ((256 ^ k : Nat) : Int) := by rw [show (256 : Nat) ^ k = 2 ^ (8 * k) by rw [Nat.pow_mul]]; simp
  have hp : 0 < 256 ^ k := Nat.pow_pos (by omega)
  have := Nat.div_pos h hp
  rw [e, ← Int.natCast_ediv]; omega
theorem num_byte (m e : Nat) : (m : Int) / 2 ^ (8 * e) % 256 = ((UInt8.ofNat (m / 256 ^ e)).toNat : Int) := by
  rw [UInt8.toNat_ofNat', show (256 : Nat) ^ e = 2 ^ (8 * e) by rw [Nat.pow_mul]]
  have : (2 : Int) ^ (8 * e) = ((2 ^ (8 * e) : Nat) : Int) := by simp
  rw [this, ← Int.natCast_ediv]
  rfl
/-- The number that bytes say, the greatest first. -/
def numV (l : List UInt8) : Nat := l.foldl (fun n b => 256 * n + b.toNat) 0
theorem numV_snoc (l : List UInt8) (b : UInt8) : numV (l ++ [b]) = 256 * numV l + b.toNat := by simp [numV]
theorem fold_lt : ∀ (l : List UInt8) (acc : Nat), l.foldl (fun n b => 256 * n + b.toNat) acc < (acc + 1) * 256 ^ l.length
  | [], acc => by simp
  | b :: l, acc => by
    have h := fold_lt l (256 * acc + b.toNat)
    have hb := b.toNat_lt
    have h2 : (256 * acc + b.toNat + 1) * 256 ^ l.length ≤ (acc + 1) * 256 * 256 ^ l.length := Nat.mul_le_mul_right _ (by omega)
    rw [List.foldl_cons, List.length_cons, Nat.pow_succ, Nat.mul_comm (256 ^ l.length) 256, ← Nat.mul_assoc]
    omega
theorem numV_lt (l : List UInt8) : numV l < 256 ^ l.length := by
  have := fold_lt l 0
  simpa [numV] using this
/-- The bytes from offset a on, k of them. -/
def cutL (s : ByteArray) (a k : Nat) : List UInt8 := (s.data.toList.drop a).take k
theorem cutL_length (s : ByteArray) (a k : Nat) (h : a + k ≤ s.size) : (cutL s a k).length = k := by
  have : s.data.toList.length = s.size := by simp
  unfold cutL
  rw [List.length_take, List.length_drop]
  omega
theorem cutL_next (s : ByteArray) (a k : Nat) (h : a + k < s.size) : cutL s a k ++ [s[a + k]'h] = cutL s a (k + 1) := by
  have hl : s.data.toList.length = s.size := by simp
  unfold cutL
  rw [List.take_succ_eq_append_getElem (by rw [List.length_drop]; omega), List.getElem_drop]
  rfl
/-- These bytes exist. -/
def NumThere (s : ByteArray) (a width : Int) : Prop := (1 ≤ width ∧ width ≤ 7) ∧ (0 ≤ a ∧ a ≤ (s.size : Int) - width)
theorem ret_pair {a b : Int} {v : Value} (h : a = b) : Ending.returned (.tuple #[.int .i64 a, v]) = .returned (.tuple #[.int .i64 b, v]) := by rw [h]
/-- The number in its bytes; none where it has no room. -/
def numTextB (n width : Int) : ByteArray := if 0 ≤ n ∧ (1 ≤ width ∧ width ≤ 7) ∧ n < 256 ^ width.toNat then numB n.toNat width.toNat else ⟨#[]⟩
/-- The number at an offset, and whether it is there. -/
def numAtV (s : ByteArray) (a width : Int) : Int := if (1 ≤ width ∧ width ≤ 7) ∧ (0 ≤ a ∧ a ≤ (s.size : Int) - width) then (numV (cutL s a.toNat width.toNat) : Int) else 0
def numAtB (s : ByteArray) (a width : Int) : Bool := decide ((1 ≤ width ∧ width ≤ 7) ∧ (0 ≤ a ∧ a ≤ (s.size : Int) - width))
end Go.Proofs.YtcckhkihhhchbaaDoor
namespace Go.Proofs.YtcckhkihhhchbaaDoor
open Go.RowKit Go.Proofs.YtcckhkihhhchbaaDoor.Hexa Go.Proofs.YtcckhkihhhchbaaDoor.Byt

theorem numV_take (l : List UInt8) (i : Nat) (h : i < l.length) : numV (l.take (i + 1)) = 256 * numV (l.take i) + (l[i]'h).toNat := by
  rw [List.take_succ_eq_append_getElem h, numV_snoc]
theorem numV_div (l : List UInt8) : ∀ d i : Nat, i + d = l.length → numV l / 256 ^ d = numV (l.take i)
  | 0, i, h => by rw [List.take_of_length_le (by omega)]; simp
  | d + 1, i, h => by
    have h1 := numV_div l d (i + 1) (by omega)
    have h2 := numV_take l i (by omega)
    have hb := (l[i]'(by omega)).toNat_lt
    rw [Nat.pow_succ, ← Nat.div_div_eq_div_mul, h1, h2]
    omega
theorem numL_back (l : List UInt8) (k : Nat) (hk : l.length = k) : numL (numV l) k k = l := by
  subst hk
  apply List.ext_getElem
  · simp [numL_length]
  · intro j h1 h2
    have hd := numV_div l (l.length - 1 - j) (j + 1) (by omega)
    have ht := numV_take l j h2
    have e : (numL (numV l) l.length l.length)[j] = UInt8.ofNat (numV l / 256 ^ (l.length - 1 - j)) := by simp [numL]
    rw [e, hd, ht]
    apply UInt8.toNat_inj.1
    rw [UInt8.toNat_ofNat']
    have hb := (l[j]'h2).toNat_lt
    omega
theorem pow_cast {m k : Nat} (h : m < 256 ^ k) : (m : Int) < (256 : Int) ^ k := by
  have h2 := Int.ofNat_lt.2 h
  rw [Int.natCast_pow] at h2
  exact h2
/-- The number that a cut of a text says, written again. -/
theorem numText_back (s : ByteArray) (a k : Nat) (hk : 1 ≤ k ∧ k ≤ 7) (h : a + k ≤ s.size) : (numTextB (numAtV s a k) k).data.toList = cutL s a k := by
  have hl := cutL_length s a k h
  have hv : numAtV s a k = (numV (cutL s a k) : Int) := by
    unfold numAtV
    rw [if_pos ⟨by omega, by omega⟩]
    simp
  have hlt := numV_lt (cutL s a k)
  rw [hl] at hlt
  have hI := pow_cast hlt
  unfold numTextB
  rw [hv, if_pos ⟨by omega, by omega, by rw [Int.toNat_natCast]; exact hI⟩]
  simp only [Int.toNat_natCast, numB]
  exact numL_back _ _ hl
theorem numAtV_nat (s : ByteArray) (a k : Nat) (hk : 1 ≤ k ∧ k ≤ 7) (h : a + k ≤ s.size) : numAtV s a k = (numV (cutL s a k) : Int) := by
  unfold numAtV
  rw [if_pos ⟨by omega, by omega⟩]
  simp
theorem numAtV_lt (s : ByteArray) (a k : Nat) (hk : 1 ≤ k ∧ k ≤ 7) (h : a + k ≤ s.size) : 0 ≤ numAtV s a k ∧ numAtV s a k < 256 ^ k := by
  have hl := cutL_length s a k h
  have hlt := numV_lt (cutL s a k)
  rw [hl] at hlt
  rw [numAtV_nat s a k hk h]
  exact ⟨by omega, pow_cast hlt⟩
end Go.Proofs.YtcckhkihhhchbaaDoor
namespace Go.Proofs.YtcckhkihhhchbaaDoor
open Go.RowKit Go.Proofs.YtcckhkihhhchbaaDoor.Parts Go.Proofs.YtcckhkihhhchbaaDoor.Hexa

/-- How an element lies in its cells. -/
structure Enc (α : Type) where
  k : Nat
  cells : α → List Value
  len : ∀ x, (cells x).length = k

def cellsE {α : Type} (E : Enc α) : List α → List Value
  | [] => []
  | x :: r => E.cells x ++ cellsE E r
theorem cellsE_length {α : Type} (E : Enc α) : ∀ L : List α, (cellsE E L).length = L.length * E.k
  | [] => by simp [cellsE]
  | x :: r => by simp [cellsE, E.len, cellsE_length E r, Nat.add_mul]; omega
theorem cellsE_append {α : Type} (E : Enc α) : ∀ L M : List α, cellsE E (L ++ M) = cellsE E L ++ cellsE E M
  | [], M => rfl
  | x :: r, M => by simp [cellsE, cellsE_append E r M]
theorem cellsE_one {α : Type} (E : Enc α) (x : α) : cellsE E [x] = E.cells x := by simp [cellsE]
theorem cellsE_at {α : Type} [Inhabited α] (E : Enc α) : ∀ (L : List α) (j o : Nat), j < L.length → o < E.k → (cellsE E L)[j * E.k + o]? = (E.cells (L.getD j default))[o]?
  | x :: r, 0, o, _, ho => by
    rw [cellsE, Nat.zero_mul, Nat.zero_add, List.getElem?_append_left (by rw [E.len]; exact ho)]; rfl
  | x :: r, j + 1, o, h, ho => by
    rw [cellsE, List.getElem?_append_right (by rw [E.len, Nat.add_mul]; omega), E.len, show (j + 1) * E.k + o - E.k = j * E.k + o by rw [Nat.add_mul]; omega]
    exact cellsE_at E r j o (by simpa using h) ho
theorem cellsE_take {α : Type} (E : Enc α) : ∀ (L : List α) (j : Nat), (cellsE E L).take (j * E.k) = cellsE E (L.take j)
  | [], j => by simp [cellsE]
  | x :: r, 0 => by simp [cellsE]
  | x :: r, j + 1 => by
    rw [cellsE, List.take_append, List.take_of_length_le (by rw [E.len, Nat.add_mul]; omega), E.len, show (j + 1) * E.k - E.k = j * E.k by rw [Nat.add_mul]; omega, cellsE_take E r j]
    rfl
theorem cellsE_drop {α : Type} (E : Enc α) : ∀ (L : List α) (j : Nat), (cellsE E L).drop (j * E.k) = cellsE E (L.drop j)
  | [], j => by simp [cellsE]
  | x :: r, 0 => by simp [cellsE]
  | x :: r, j + 1 => by
    rw [cellsE, List.drop_append, List.drop_of_length_le (by rw [E.len, Nat.add_mul]; omega), E.len, show (j + 1) * E.k - E.k = j * E.k by rw [Nat.add_mul]; omega, cellsE_drop E r j]
    rfl

/-- Cells written one behind the other. -/
def setsL : List Value → Nat → List Value → List Value
  | xs, _, [] => xs
  | xs, o, v :: r => setsL (xs.set o v) (o + 1) r
theorem setsL_length : ∀ (vs xs : List Value) (o : Nat), (setsL xs o vs).length = xs.length
  | [], xs, o => rfl
  | v :: r, xs, o => by rw [setsL, setsL_length r]; simp
theorem setsL_out : ∀ (vs xs : List Value) (o j : Nat), (j < o ∨ o + vs.length ≤ j) → (setsL xs o vs)[j]? = xs[j]?
  | [], xs, o, j, _ => rfl
  | v :: r, xs, o, j, h => by
    simp only [List.length_cons] at h
    rw [setsL, setsL_out r _ _ _ (by omega), List.getElem?_set_ne (by omega)]
theorem setsL_in : ∀ (vs xs : List Value) (o j : Nat), j < vs.length → o + vs.length ≤ xs.length → (setsL xs o vs)[o + j]? = vs[j]?
  | v :: r, xs, o, 0, _, h => by
    simp only [List.length_cons] at h
    rw [setsL, setsL_out r _ _ _ (by omega)]
    show (xs.set o v)[o]? = some v
    rw [List.getElem?_set_self (by omega)]
  | v :: r, xs, o, j + 1, hj, h => by
    simp only [List.length_cons] at h hj
    rw [setsL, show o + (j + 1) = (o + 1) + j by omega, setsL_in r _ _ j (by omega) (by simp; omega)]
    rfl
/-- The first elements are right; one more is written. -/
theorem cellsE_step {α : Type} [Inhabited α] (E : Enc α) {L : List α} {xs : List Value} {k : Nat} (hk : k < L.length) (hl : xs.length = L.length * E.k) (h : ∀ j, j < k * E.k → xs[j]? = (cellsE E L)[j]?) :
    ∀ j, j < (k + 1) * E.k → (setsL xs (k * E.k) (E.cells (L.getD k default)))[j]? = (cellsE E L)[j]? := by
  intro j hj
  have hm : (k + 1) * E.k ≤ L.length * E.k := Nat.mul_le_mul_right _ hk
  rw [Nat.add_mul] at hj hm
  by_cases h0 : j < k * E.k
  · rw [setsL_out _ _ _ _ (.inl h0)]; exact h j h0
  · obtain ⟨o, rfl⟩ : ∃ o, j = k * E.k + o := ⟨j - k * E.k, by omega⟩
    rw [setsL_in _ _ _ _ (by rw [E.len]; omega) (by rw [E.len]; omega), cellsE_at E L k o hk (by omega)]
theorem cellsE_all {α : Type} (E : Enc α) {L : List α} {xs : List Value} (hl : xs.length = L.length * E.k) (h : ∀ j, j < L.length * E.k → xs[j]? = (cellsE E L)[j]?) : xs = cellsE E L := by
  apply List.ext_getElem?
  intro j
  by_cases hj : j < L.length * E.k
  · exact h j hj
  · rw [List.getElem?_eq_none (by omega), List.getElem?_eq_none (by rw [cellsE_length]; omega)]
theorem getD_set {α : Type} [Inhabited α] (L : List α) (k j : Nat) (x : α) (hk : k < L.length) : (L.set k x).getD j default = if j = k then x else L.getD j default := by
  by_cases h : j = k
  · subst h; simp [List.getD, hk]
  · rw [if_neg h]; simp only [List.getD]; rw [List.getElem?_set_ne (fun e => h e.symm)]
/-- One element is written over another. -/
theorem cellsE_set {α : Type} [Inhabited α] (E : Enc α) (L : List α) (k : Nat) (x : α) (hk : k < L.length) : setsL (cellsE E L) (k * E.k) (E.cells x) = cellsE E (L.set k x) := by
  have hm : (k + 1) * E.k ≤ L.length * E.k := Nat.mul_le_mul_right _ hk
  rw [Nat.add_mul] at hm
  refine cellsE_all E (by rw [setsL_length, cellsE_length]; simp) (fun j hj => ?_)
  simp only [List.length_set] at hj
  by_cases hj0 : k * E.k ≤ j ∧ j < k * E.k + E.k
  · obtain ⟨o, rfl⟩ : ∃ o, j = k * E.k + o := ⟨j - k * E.k, by omega⟩
    rw [setsL_in _ _ _ _ (by rw [E.len]; omega) (by rw [E.len, cellsE_length]; omega), cellsE_at E _ k o (by simpa using hk) (by omega), getD_set _ _ _ _ hk, if_pos rfl]
  · rw [setsL_out _ _ _ _ (by rw [E.len]; omega)]
    have hk0 : 0 < E.k := by
      rcases Nat.eq_zero_or_pos E.k with h | h
      · rw [h] at hj; omega
      · exact h
    have hd : j = j / E.k * E.k + j % E.k := by rw [Nat.mul_comm]; exact (Nat.div_add_mod j E.k).symm
    have hq : j / E.k < L.length := (Nat.div_lt_iff_lt_mul hk0).2 hj
    have hne : j / E.k ≠ k := fun e => by
      rw [e] at hd
      have := Nat.mod_lt j hk0
      omega
    rw [hd, cellsE_at E _ _ _ hq (Nat.mod_lt _ hk0), cellsE_at E _ _ _ (by simpa using hq) (Nat.mod_lt _ hk0), getD_set _ _ _ _ hk, if_neg hne]

/-- A slice of elements that can be read. -/
structure SrcE {α : Type} [Inhabited α] (E : Enc α) (w : World) (a : Option Addr) (n : Nat) (L : List α) : Prop where
  len : L.length = n
  cell : ∀ j, j < n → ∃ g off, a = some ⟨g, off, none⟩ ∧ g < w.heap.size ∧ ∀ o v, (E.cells (L.getD j default))[o]? = some v → w.cell? ⟨g, off + j * E.k + o, none⟩ = some v
theorem SrcE.below {α : Type} [Inhabited α] {E : Enc α} {w w' : World} {a : Option Addr} {n : Nat} {L : List α} {B : Nat} (h : SrcE E w a n L) (hb : Below B w w') (hB : w.heap.size ≤ B) : SrcE E w' a n L :=
  ⟨h.len, fun j hj => by
    obtain ⟨g, off, e, hg, c⟩ := h.cell j hj
    exact ⟨g, off, e, Nat.lt_of_lt_of_le hg hb.size, fun o v hv => by rw [hb.cell (p := ⟨g, off + j * E.k + o, none⟩) (Nat.lt_of_lt_of_le hg hB)]; exact c o v hv⟩⟩
theorem SrcE.later {α : Type} [Inhabited α] {E : Enc α} {w w' : World} {a : Option Addr} {n : Nat} {L : List α} (h : SrcE E w a n L) (hb : Below w.heap.size w w') : SrcE E w' a n L := h.below hb (Nat.le_refl _)
theorem SrcE.drew {α : Type} [Inhabited α] {E : Enc α} {w : World} {a : Option Addr} {n : Nat} {L : List α} (h : SrcE E w a n L) : SrcE E w.drew a n L := ⟨h.len, h.cell⟩
theorem SrcE.nil {α : Type} [Inhabited α] (E : Enc α) (w : World) (a : Option Addr) : SrcE E w a 0 [] := ⟨rfl, fun j hj => by omega⟩

theorem ownE_lt {w : World} {B e k g n cap : Nat} {xs : List Value} (h : w.ownsRow B e k (.slice (some ⟨g, 0, none⟩) n cap) n xs) : g < w.heap.size := (h.lt g rfl).2
/-- A slice that the call owns, as one that can be read. -/
theorem srcE_of_own {α : Type} [Inhabited α] {E : Enc α} {w : World} {B e n cap : Nat} {a : Option Addr} {L : List α} (h : w.ownsRow B e E.k (.slice a n cap) n (cellsE E L)) (hk0 : 0 < E.k) : SrcE E w a n L := by
  have hl : L.length = n := by have h1 := h.1; rw [cellsE_length] at h1; exact Nat.eq_of_mul_eq_mul_right hk0 h1
  refine ⟨hl, fun j hj => ?_⟩
  rcases h.2 with ⟨h', h0⟩ | ⟨g', cap', cur, h', _, hg, _⟩
  · omega
  · simp only [Value.slice.injEq] at h'
    obtain ⟨rfl, _, rfl⟩ := h'
    refine ⟨g', 0, rfl, ownE_lt h, fun o v hv => ?_⟩
    have ho : o < E.k := by
      rcases Nat.lt_or_ge o E.k with h | h
      · exact h
      · rw [List.getElem?_eq_none (by rw [E.len]; exact h)] at hv; cases hv
    have hm : (j + 1) * E.k ≤ n * E.k := Nat.mul_le_mul_right _ hj
    rw [Nat.add_mul] at hm
    rw [Nat.zero_add, h.cellAt _ (by omega), cellsE_at E L j o (by omega) ho]
    exact hv
theorem ownE_mono {w : World} {B B' e k n : Nat} {v : Value} {xs : List Value} (h : w.ownsRow B e k v n xs) (hb : B' ≤ B) : w.ownsRow B' e k v n xs :=
  ⟨h.1, h.2.imp id fun ⟨g, cap, cur, hv, hg, r⟩ => ⟨g, cap, cur, hv, Nat.le_trans hb hg, r⟩⟩
/-- The form of what the call owns. -/
theorem ownE_form {w : World} {B e k n : Nat} {v : Value} {xs : List Value} (h : w.ownsRow B e k v n xs) : ∃ a cap, v = .slice a n cap ∧ n ≤ cap ∧ cap ≤ maxLen ∧ (∀ p, a = some p → ∃ g, p = ⟨g, 0, none⟩ ∧ B ≤ g ∧ g < w.heap.size) := by
  rcases h.2 with ⟨rfl, rfl⟩ | ⟨g', cap', cur, rfl, hB, hg, hn, hc, _⟩
  · exact ⟨none, 0, rfl, Nat.le_refl _, by decide, fun p hp => by cases hp⟩
  · exact ⟨_, _, rfl, hn, hc, fun p hp => by cases hp; exact ⟨g', rfl, hB, lt_of_block hg⟩⟩
/-- Cells of the call's own row written. -/
theorem own_sets {B e k g n cap : Nat} : ∀ (vs : List Value) {w : World} {xs : List Value} (o : Nat), w.ownsRow B e k (.slice (some ⟨g, 0, none⟩) n cap) n xs → (w.setCells g o vs).ownsRow B e k (.slice (some ⟨g, 0, none⟩) n cap) n (setsL xs o vs)
  | [], _, _, _, h => h
  | v :: r, _, _, o, h => own_sets r (o + 1) (h.stored o v).1
theorem below_sets {B g : Nat} (hg : B ≤ g) : ∀ (vs : List Value) {w w' : World} (o : Nat), Below B w w' → Below B w (w'.setCells g o vs)
  | [], _, _, _, h => h
  | v :: r, _, _, o, h => below_sets hg r (o + 1) (h.setCell (p := ⟨g, o, none⟩) hg v)
theorem ownE_cell {w : World} {B e k g n cap : Nat} {xs : List Value} (h : w.ownsRow B e k (.slice (some ⟨g, 0, none⟩) n cap) n xs) {j : Nat} (hj : j < n * k) : ∃ v, w.cell? ⟨g, j, none⟩ = some v := by
  rw [h.cellAt j hj]
  exact ⟨xs[j]'(by rw [h.1]; exact hj), List.getElem?_eq_getElem _⟩

/-- No block is written but one; what was there stays. -/
structure ButE (B : Nat) (w w' : World) : Prop where
  size : w.heap.size ≤ w'.heap.size
  block : ∀ g, g ≠ B → g < w.heap.size → w'.heap[g]? = w.heap[g]?
theorem ButE.refl (B : Nat) (w : World) : ButE B w w := ⟨Nat.le_refl _, fun _ _ _ => rfl⟩
theorem ButE.then_below {B : Nat} {w w1 w2 : World} (h : ButE B w w1) (hb : Below w1.heap.size w1 w2) : ButE B w w2 :=
  ⟨Nat.le_trans h.size hb.size, fun g h1 h2 => by rw [hb.block g (Nat.lt_of_lt_of_le h2 h.size)]; exact h.block g h1 h2⟩
theorem ButE.then_set {B : Nat} {w w1 : World} (h : ButE B w w1) (o : Nat) (v : Value) : ButE B w (w1.setCell ⟨B, o, none⟩ v) :=
  ⟨Nat.le_trans h.size (by simp), fun g h1 h2 => by rw [Below.heap_setCell _ _ _ _ (by simpa using h1)]; exact h.block g h1 h2⟩
theorem ButE.drew {B : Nat} {w w1 : World} (h : ButE B w w1) : ButE B w w1.drew := ⟨h.size, h.block⟩
/-- What lies elsewhere stays. -/
theorem ownE_but {w w' : World} {M B e k : Nat} {v : Value} {n : Nat} {xs : List Value} (h : w.ownsRow B e k v n xs) (hb : ButE M w w') (hne : ∀ g, v.ownBlock = some g → g ≠ M) : w'.ownsRow B e k v n xs := by
  refine ⟨h.1, h.2.imp id fun ⟨g, cap, cur, hv, hg, hh, r⟩ => ⟨g, cap, cur, hv, hg, ?_, r⟩⟩
  rw [hb.block g (hne g (by rw [hv]; rfl)) (Array.getElem?_eq_some_iff.1 hh).1]; exact hh
theorem ownE_left {w w' : World} {M B e k : Nat} {v : Value} {n : Nat} {xs : List Value} (h : w.ownsRow B e k v n xs) (hb : Below M w w') (hne : ∀ g, v.ownBlock = some g → g < M) : w'.ownsRow B e k v n xs := by
  refine ⟨h.1, h.2.imp id fun ⟨g, cap, cur, hv, hg, hh, r⟩ => ⟨g, cap, cur, hv, hg, ?_, r⟩⟩
  rw [hb.block g (hne g (by rw [hv]; rfl))]; exact hh
theorem SrcE.but {α : Type} [Inhabited α] {E : Enc α} {w w' : World} {a : Option Addr} {n : Nat} {L : List α} {B : Nat} (h : SrcE E w a n L) (hb : ButE B w w') (hB : ∀ p, a = some p → p.block ≠ B) : SrcE E w' a n L :=
  ⟨h.len, fun j hj => by
    obtain ⟨g, off, e, hg, c⟩ := h.cell j hj
    refine ⟨g, off, e, Nat.lt_of_lt_of_le hg hb.size, fun o v hv => ?_⟩
    rw [← c o v hv]
    exact World.cell?_of_block (w := w) (hb.block g (hB _ e) hg)⟩
end Go.Proofs.YtcckhkihhhchbaaDoor
namespace Go.Proofs.YtcckhkihhhchbaaDoor
open Go.RowKit Go.Proofs.YtcckhkihhhchbaaDoor.Parts Go.Proofs.YtcckhkihhhchbaaDoor.Hexa

structure RecR where
  f0 : Int
  f1 : Int
  f2 : ByteArray
instance : Inhabited RecR := ⟨⟨0, 0, ByteArray.empty⟩⟩
def encRec : Enc RecR := ⟨3, fun s => [.int .i64 s.f0, .int .i64 s.f1, .string s.f2], fun _ => rfl⟩
theorem encRec_cells (s : RecR) : encRec.cells s = [.int .i64 s.f0, .int .i64 s.f1, .string s.f2] := rfl
theorem encRec_one (s : RecR) : ∀ v ∈ encRec.cells s, v.oneCell' = true := by
  intro v hv
  rw [encRec_cells] at hv
  simp only [List.mem_cons, List.not_mem_nil, or_false] at hv
  rcases hv with rfl | rfl | rfl <;> rfl
theorem cellsRec_one : ∀ L : List RecR, ∀ v ∈ cellsE encRec L, v.oneCell' = true
  | [], v, hv => by cases hv
  | x :: r, v, hv => by
    rw [cellsE, List.mem_append] at hv
    rcases hv with h | h
    · exact encRec_one x v h
    · exact cellsRec_one r v h
theorem cellsRec_length (L : List RecR) : (cellsE encRec L).length = L.length * 3 := cellsE_length encRec L
abbrev SrcRec (w : World) (a : Option Addr) (n : Nat) (L : List RecR) : Prop := SrcE encRec w a n L
theorem srcRec_at {w : World} {a : Option Addr} {n : Nat} {L : List RecR} (h : SrcRec w a n L) (j : Nat) (hj : j < n) : ∃ g off, a = some ⟨g, off, none⟩ ∧ g < w.heap.size ∧ w.cell? ⟨g, off + j * 3, none⟩ = some (.int .i64 (L.getD j default).f0) ∧ w.cell? ⟨g, off + j * 3 + 1, none⟩ = some (.int .i64 (L.getD j default).f1) ∧ w.cell? ⟨g, off + j * 3 + 2, none⟩ = some (.string (L.getD j default).f2) := by
  obtain ⟨g, off, e, hg, c⟩ := h.cell j hj
  exact ⟨g, off, e, hg, c 0 _ rfl, c 1 _ rfl, c 2 _ rfl⟩
/-- The same at a later world. -/
theorem srcRec_later {w w' : World} {a : Option Addr} {n : Nat} {L : List RecR} {B : Nat} (h : SrcRec w a n L) (hb : Below B w w') (hB : w.heap.size ≤ B) (j : Nat) (hj : j < n) : ∃ g off, a = some ⟨g, off, none⟩ ∧ g < w.heap.size ∧ w'.cell? ⟨g, off + j * 3, none⟩ = some (.int .i64 (L.getD j default).f0) ∧ w'.cell? ⟨g, off + j * 3 + 1, none⟩ = some (.int .i64 (L.getD j default).f1) ∧ w'.cell? ⟨g, off + j * 3 + 2, none⟩ = some (.string (L.getD j default).f2) := by
  obtain ⟨g, off, e, hg, _⟩ := h.cell j hj
  obtain ⟨g', off', e', _, c0, c1, c2⟩ := srcRec_at (h.below hb hB) j hj
  rw [e] at e'
  cases e'
  exact ⟨g, off, e, hg, c0, c1, c2⟩
theorem srcRec_of_own {w : World} {B e n cap : Nat} {a : Option Addr} {L : List RecR} (h : w.ownsRow B e 3 (.slice a n cap) n (cellsE encRec L)) : SrcRec w a n L := srcE_of_own (E := encRec) h (by decide)
theorem infoRec : (Tryd.prog.info? 36).map (fun i => (i.zero, i.size, i.bytes)) = some (some (.agg #[.int .i64 0, .int .i64 0, .string ByteArray.empty]), 3, 32) := by kernel_rfl
/-- What a slice of them holds: no text longer than b. -/
def FitRec (L : List RecR) (n b : Nat) : Prop := ∀ j, j < n → (L.getD j default).f2.size ≤ b
def FitTRec (L : List RecR) (b : Nat) : Prop := FitRec L L.length b
end Go.Proofs.YtcckhkihhhchbaaDoor
namespace Go.Proofs.YtcckhkihhhchbaaDoor
open Go.RowKit Go.Proofs.YtcckhkihhhchbaaDoor.Parts Go.Proofs.YtcckhkihhhchbaaDoor.Hexa

structure EntryR where
  f0 : Int
  f1 : ByteArray
instance : Inhabited EntryR := ⟨⟨0, ByteArray.empty⟩⟩
def encEntry : Enc EntryR := ⟨2, fun s => [.int .i64 s.f0, .string s.f1], fun _ => rfl⟩
theorem encEntry_cells (s : EntryR) : encEntry.cells s = [.int .i64 s.f0, .string s.f1] := rfl
theorem encEntry_one (s : EntryR) : ∀ v ∈ encEntry.cells s, v.oneCell' = true := by
  intro v hv
  rw [encEntry_cells] at hv
  simp only [List.mem_cons, List.not_mem_nil, or_false] at hv
  rcases hv with rfl | rfl <;> rfl
theorem cellsEntry_one : ∀ L : List EntryR, ∀ v ∈ cellsE encEntry L, v.oneCell' = true
  | [], v, hv => by cases hv
  | x :: r, v, hv => by
    rw [cellsE, List.mem_append] at hv
    rcases hv with h | h
    · exact encEntry_one x v h
    · exact cellsEntry_one r v h
theorem cellsEntry_length (L : List EntryR) : (cellsE encEntry L).length = L.length * 2 := cellsE_length encEntry L
abbrev SrcEntry (w : World) (a : Option Addr) (n : Nat) (L : List EntryR) : Prop := SrcE encEntry w a n L
theorem srcEntry_at {w : World} {a : Option Addr} {n : Nat} {L : List EntryR} (h : SrcEntry w a n L) (j : Nat) (hj : j < n) : ∃ g off, a = some ⟨g, off, none⟩ ∧ g < w.heap.size ∧ w.cell? ⟨g, off + j * 2, none⟩ = some (.int .i64 (L.getD j default).f0) ∧ w.cell? ⟨g, off + j * 2 + 1, none⟩ = some (.string (L.getD j default).f1) := by
  obtain ⟨g, off, e, hg, c⟩ := h.cell j hj
  exact ⟨g, off, e, hg, c 0 _ rfl, c 1 _ rfl⟩
/-- The same at a later world. -/
theorem srcEntry_later {w w' : World} {a : Option Addr} {n : Nat} {L : List EntryR} {B : Nat} (h : SrcEntry w a n L) (hb : Below B w w') (hB : w.heap.size ≤ B) (j : Nat) (hj : j < n) : ∃ g off, a = some ⟨g, off, none⟩ ∧ g < w.heap.size ∧ w'.cell? ⟨g, off + j * 2, none⟩ = some (.int .i64 (L.getD j default).f0) ∧ w'.cell? ⟨g, off + j * 2 + 1, none⟩ = some (.string (L.getD j default).f1) := by
  obtain ⟨g, off, e, hg, _⟩ := h.cell j hj
  obtain ⟨g', off', e', _, c0, c1⟩ := srcEntry_at (h.below hb hB) j hj
  rw [e] at e'
  cases e'
  exact ⟨g, off, e, hg, c0, c1⟩
theorem srcEntry_of_own {w : World} {B e n cap : Nat} {a : Option Addr} {L : List EntryR} (h : w.ownsRow B e 2 (.slice a n cap) n (cellsE encEntry L)) : SrcEntry w a n L := srcE_of_own (E := encEntry) h (by decide)
theorem infoEntry : (Tryd.prog.info? 41).map (fun i => (i.zero, i.size, i.bytes)) = some (some (.agg #[.int .i64 0, .string ByteArray.empty]), 2, 24) := by kernel_rfl
/-- What a slice of them holds: no text longer than b. -/
def FitEntry (L : List EntryR) (n b : Nat) : Prop := ∀ j, j < n → (L.getD j default).f1.size ≤ b
def FitTEntry (L : List EntryR) (b : Nat) : Prop := FitEntry L L.length b
end Go.Proofs.YtcckhkihhhchbaaDoor
namespace Go.Proofs.YtcckhkihhhchbaaDoor
open Go.RowKit Go.Proofs.YtcckhkihhhchbaaDoor.Parts Go.Proofs.YtcckhkihhhchbaaDoor.Hexa Go.Proofs.YtcckhkihhhchbaaDoor.Byt

def NameC (b : UInt8) : Prop := (97 ≤ b.toNat ∧ b.toNat ≤ 122) ∨ (48 ≤ b.toNat ∧ b.toNat ≤ 57)
instance (b : UInt8) : Decidable (NameC b) := by unfold NameC; infer_instance
def NameR (s : ByteArray) : Prop := (1 ≤ s.size ∧ s.size ≤ 7) ∧ ∀ b ∈ s.data.toList, NameC b
instance (s : ByteArray) : Decidable (NameR s) := by unfold NameR; infer_instance
def nameB (s : ByteArray) : Bool := decide (NameR s)
theorem nameB_yes {s : ByteArray} (h : NameR s) : nameB s = true := decide_eq_true h
theorem nameB_no {s : ByteArray} (h : ¬ NameR s) : nameB s = false := decide_eq_false h

def RecOk (r : RecR) : Prop := (1 ≤ r.f0 ∧ r.f0 ≤ 12) ∧ (1 ≤ r.f1 ∧ r.f1 ≤ 16777215) ∧ r.f2.size = 4
instance (r : RecR) : Decidable (RecOk r) := by unfold RecOk; infer_instance
def recWordB (r : RecR) : ByteArray := if RecOk r then numTextB r.f0 1 ++ numTextB r.f1 3 ++ r.f2 else ⟨#[]⟩
theorem recWordB_yes {r : RecR} (h : RecOk r) : recWordB r = numTextB r.f0 1 ++ numTextB r.f1 3 ++ r.f2 := if_pos h
theorem recWordB_no {r : RecR} (h : ¬ RecOk r) : recWordB r = ⟨#[]⟩ := if_neg h
def recOf (s : ByteArray) : RecR := ⟨numAtV s 0 1, numAtV s 1 3, s.extract 4 8⟩
def recReadB (s : ByteArray) : Bool := decide (s.size = 8 ∧ RecOk (recOf s))
def recReadR (s : ByteArray) : RecR := if s.size = 8 ∧ RecOk (recOf s) then recOf s else ⟨0, 0, ⟨#[]⟩⟩

def EntryOk (e : EntryR) : Prop := (1 ≤ e.f0 ∧ e.f0 ≤ 5) ∧ NameR e.f1
instance (e : EntryR) : Decidable (EntryOk e) := by unfold EntryOk; infer_instance
def entryWordB (e : EntryR) : ByteArray := if EntryOk e then wordB (numTextB e.f0 1 ++ e.f1) else ⟨#[]⟩
theorem entryWordB_yes {e : EntryR} (h : EntryOk e) : entryWordB e = wordB (numTextB e.f0 1 ++ e.f1) := if_pos h
theorem entryWordB_no {e : EntryR} (h : ¬ EntryOk e) : entryWordB e = ⟨#[]⟩ := if_neg h
def pagesZ (n : Int) : Int := if n ≤ 0 then 0 else (n - 1) / 32 + 1

theorem numText_size {n : Int} {k : Nat} (hk : 1 ≤ k ∧ k ≤ 7) (h0 : 0 ≤ n) (h1 : n < 256 ^ k) : (numTextB n k).size = k := by
  have e : numTextB n k = numB n.toNat k := by
    unfold numTextB
    rw [if_pos ⟨h0, by omega, by simpa using h1⟩]
    simp
  rw [e]
  show (numL n.toNat k k).toArray.size = k
  simp [numL_length]
theorem recWord_size {r : RecR} (h : RecOk r) : (recWordB r).size = 8 := by
  obtain ⟨⟨h0, h1⟩, ⟨h2, h3⟩, h4⟩ := h
  rw [recWordB_yes ⟨⟨h0, h1⟩, ⟨h2, h3⟩, h4⟩]
  have e1 : (numTextB r.f0 1).size = 1 := numText_size (k := 1) (by omega) (by omega) (by omega)
  have e2 : (numTextB r.f1 3).size = 3 := numText_size (k := 3) (by omega) (by omega) (by omega)
  rw [ByteArray.size_append, ByteArray.size_append, h4, e1, e2]
theorem recWord_empty {r : RecR} : recWordB r = ⟨#[]⟩ ↔ ¬ RecOk r := by
  refine ⟨fun h hr => ?_, recWordB_no⟩
  have := recWord_size hr
  rw [h] at this
  exact absurd this (by decide)
theorem cut_extract (s : ByteArray) (a k : Nat) : (s.extract a (a + k)).data.toList = cutL s a k := by
  unfold cutL
  simp [List.take_drop]
theorem rec_back {s : ByteArray} (h8 : s.size = 8) (h : RecOk (recOf s)) : recWordB (recOf s) = s := by
  rw [recWordB_yes h]
  have e1 := numText_back s 0 1 (by omega) (by omega)
  have e2 := numText_back s 1 3 (by omega) (by omega)
  have e3 : (s.extract 4 8).data.toList = cutL s 4 4 := cut_extract s 4 4
  have hl : s.data.toList.length = 8 := by simpa using h8
  cases s with
  | mk d =>
    apply ByteArray.ext
    apply Array.toList_inj.1
    simp only [ByteArray.data_append, Array.toList_append, recOf]
    rw [show ((0 : Int)) = ((0 : Nat) : Int) from rfl, show ((1 : Int)) = ((1 : Nat) : Int) from rfl, show ((3 : Int)) = ((3 : Nat) : Int) from rfl, e1, e2, e3]
    unfold cutL
    simp only at hl ⊢
    match d.toList, hl with
    | [b0, b1, b2, b3, b4, b5, b6, b7], _ => rfl
end Go.Proofs.YtcckhkihhhchbaaDoor
namespace Go.Proofs.YtcckhkihhhchbaaDoor
open Go.RowKit

/-- Block b holds just these cells. -/
def Bk (w : World) (b : Nat) (cs : Array Value) (t : TypeId) : Prop := w.heap[b]? = some (.cells cs t (0, 0))
section
variable {w w' : World} {b : Nat} {cs : Array Value} {t : TypeId}
theorem Bk.lt (h : Bk w b cs t) : b < w.heap.size := (Array.getElem?_eq_some_iff.1 h).1
theorem Bk.later (h : Bk w b cs t) (hb : Below w.heap.size w w') : Bk w' b cs t := (hb.block b h.lt).trans h
theorem Bk.drew (h : Bk w b cs t) : Bk w.drew b cs t := h
theorem Bk.alloc (w : World) (cs : Array Value) (t : TypeId) : Bk (w.alloc (.cells cs t)) w.heap.size cs t := heap_alloc_new w _
theorem Bk.cell (h : Bk w b cs t) {j : Nat} {v : Value} (hv : cs[j]? = some v) : w.cell? ⟨b, j, none⟩ = some v := by unfold Bk at h; simp [World.cell?, h, hv]
theorem Bk.fr (h : Bk w b cs t) {o : Nat} : w.frozen? ⟨b, o, none⟩ = false := by unfold Bk at h; simp [World.frozen?, h]
theorem Bk.set (h : Bk w b cs t) (j : Nat) (v : Value) : Bk (w.setCell ⟨b, j, none⟩ v) b (cs.setIfInBounds j v) t := heap_setCell_same w b j cs t v h
theorem Bk.other (h : Bk w b cs t) {c o : Nat} (hne : b ≠ c) (v : Value) : Bk (w.setCell ⟨c, o, none⟩ v) b cs t := (Below.heap_setCell _ _ _ _ hne).trans h
theorem Bk.grown {r : Option Nat} (h : Bk w b cs t) (hg : w.grownBy w' r) (hne : r ≠ some b) : Bk w' b cs t := (hg.block b h.lt (fun e => hne e.symm)).trans h
end
theorem below_bk (w : World) (o : Obj) : Below w.heap.size w (w.alloc o) := (Below.refl _ _).alloc (Nat.le_refl _) _
end Go.Proofs.YtcckhkihhhchbaaDoor
namespace Go.Proofs.YtcckhkihhhchbaaDoor
open Go.RowKit Go.Proofs.YtcckhkihhhchbaaDoor.Hexa Go.Proofs.YtcckhkihhhchbaaDoor.Byt
namespace Draw

set_option maxRecDepth 100000 in
set_option maxHeartbeats 400000 in
theorem once12_any (c : Nat) (ad : Option Addr) (len cap : Nat) (n : Int) (w : World) (hlen : len ≤ 1048576) (hn : 0 < n) (hn2 : n ≤ 256) (hc : Cur w c ad len cap) (hs : Src w c ad len) :
    Calls Tryd.prog 92 #[.pointer (some ⟨c, 0, none⟩), .int .i64 n] w (DrawPost (fun v => ∃ b : Bool, v = .bool b) w c ad len cap) := by
  have HC := Lib.hid hc
  have HS := Lib.hid hs
  clear hc hs
  go_enter Tryd.func92, Tryd.ntmps92
  go_wp2_with fail
  refine (below_small c ad len cap n w hlen hn hn2 HC.out HS.out).mono ?_
  rintro e w1 ⟨x, x0, x1, rfl, hc1, hg1⟩
  have C1 := Lib.hid hc1
  have G1 := Lib.hid hg1
  clear hc1 hg1
  go_wp2
  go_ret
  exact ⟨_, ⟨_, rfl⟩, rfl, C1.out, G1.out⟩

/-- A block that lies beside the cursor's stays through the draws. -/
theorem bk_kept {w w' : World} {b c : Nat} {cs : Array Value} {t : TypeId} (h : Bk w b cs t) (hg : w.grownBy w' (some c)) (hne : ¬ c = b) : Bk w' b cs t := h.grown hg (fun e => hne (Option.some.inj e))

/-- Cells of a new block written: the cursor stays, nothing else of the old world is written. -/
theorem set_kept {w w' : World} {c : Nat} {ad : Option Addr} {len cap : Nat} (b j : Nat) (v : Value) (hc : Cur w' c ad len cap) (hg : w.grownBy w' (some c)) (hne : ¬ c = b) (hb : w.heap.size ≤ b) : Cur (w'.setCell ⟨b, j, none⟩ v) c ad len cap ∧ w.grownBy (w'.setCell ⟨b, j, none⟩ v) (some c) := by
  refine ⟨?_, hg.os, hg.tape, hg.output, by simpa using hg.size, fun i hi hr => ?_⟩
  · obtain ⟨i, h, hi, hh⟩ := hc
    exact ⟨i, h, hi, by rw [Below.heap_setCell _ _ _ _ (by simpa using hne)]; exact hh⟩
  · rw [Below.heap_setCell _ _ _ _ (by show i ≠ b; omega)]
    exact hg.block i hi hr
theorem sets_kept {w : World} {c : Nat} {ad : Option Addr} {len cap : Nat} (b : Nat) : ∀ (j : Nat) (vs : List Value) {w' : World}, Cur w' c ad len cap → w.grownBy w' (some c) → ¬ c = b → w.heap.size ≤ b → Cur (w'.setCells b j vs) c ad len cap ∧ w.grownBy (w'.setCells b j vs) (some c)
  | _, [], _, hc, hg, _, _ => ⟨hc, hg⟩
  | j, v :: r, _, hc, hg, hne, hb => by
    obtain ⟨h1, h2⟩ := set_kept b j v hc hg hne hb
    exact sets_kept b (j + 1) r h1 h2 hne hb

theorem rec_ok {p q : Int} {m : ByteArray} (h0 : 0 ≤ p) (h1 : p < 12) (h2 : 0 ≤ q) (h3 : q < 200) (h4 : m.size = 4) : RecOk ⟨1 + p, 1 + q, m⟩ := by
  refine ⟨?_, ?_, h4⟩
  · show 1 ≤ 1 + p ∧ 1 + p ≤ 12
    omega
  · show 1 ≤ 1 + q ∧ 1 + q ≤ 16777215
    omega

/-- A drawn record. -/
def RecPost (P : RecR → Prop) (w : World) (c : Nat) (ad : Option Addr) (len cap : Nat) (e : Ending) (w' : World) : Prop :=
  ∃ p q m, P ⟨p, q, m⟩ ∧ e = .returned (.agg #[.int .i64 p, .int .i64 q, .string m]) ∧ Cur w' c ad len cap ∧ w.grownBy w' (some c)

set_option maxRecDepth 100000 in
set_option maxHeartbeats 1000000 in
theorem rec12_any (c : Nat) (ad : Option Addr) (len cap : Nat) (w : World) (hlen : len ≤ 1048576) (hc : Cur w c ad len cap) (hs : Src w c ad len) :
    Calls Tryd.prog 91 #[.pointer (some ⟨c, 0, none⟩)] w (RecPost RecOk w c ad len cap) := by
  have hlt := cur_lt hc
  have ga := grown_alloc w (.cells #[.int .i64 0, .int .i64 0, .string ⟨#[]⟩] 36) (some c)
  have C0 := Lib.hid (cur_grown hc (grown_alloc w (.cells #[.int .i64 0, .int .i64 0, .string ⟨#[]⟩] 36) none) (by simp))
  have S0 := Lib.hid (src_grown hs ga hlt)
  have R0 := Lib.hid (Bk.alloc w #[.int .i64 0, .int .i64 0, .string ⟨#[]⟩] 36)
  have G0 := Lib.hid ga
  have HCN : Hid (¬ c = w.heap.size) := Lib.hid (by omega)
  clear hc hs ga
  go_enter Tryd.func91, Tryd.ntmps91
  go_wp2_with fail
  refine (below_small c ad len cap 12 _ hlen (by decide) (by decide) C0.out S0.out).mono ?_
  rintro e w1 ⟨p, p0, p1, rfl, hc1, hg1⟩
  have S1 := Lib.hid (src_grown S0.out hg1 (cur_lt C0.out))
  have C1 := Lib.hid hc1
  have G1 := Lib.hid (grownBy_trans G0.out hg1)
  have R1 := Lib.hid (bk_kept R0.out hg1 HCN.out)
  clear hc1 hg1
  go_wp2_with fail
  refine (below_small c ad len cap 200 _ hlen (by decide) (by decide) C1.out S1.out).mono ?_
  rintro e w2 ⟨q, u0, u1, rfl, hc2, hg2⟩
  have S2 := Lib.hid (src_grown S1.out hg2 (cur_lt C1.out))
  have C2 := Lib.hid hc2
  have G2 := Lib.hid (grownBy_trans G1.out hg2)
  have R2 := Lib.hid (bk_kept R1.out hg2 HCN.out)
  clear hc2 hg2
  go_wp2_with fail
  refine (text_any c ad len cap 4 _ hlen (by decide) C2.out S2.out).mono ?_
  rintro e w3 ⟨v, ⟨m, rfl, hm⟩, rfl, hc3, hg3⟩
  have C3 := Lib.hid hc3
  have G3 := Lib.hid (grownBy_trans G2.out hg3)
  have R3 := Lib.hid (bk_kept R2.out hg3 HCN.out)
  have HM := Lib.hid hm
  clear hc3 hg3 hm
  have r0 := R3.out.cell (j := 0) rfl
  have r1 := R3.out.cell (j := 1) rfl
  have r2 := R3.out.cell (j := 2) rfl
  have f0 := R3.out.fr (o := 0)
  have f1 := R3.out.fr (o := 1)
  have f2 := R3.out.fr (o := 2)
  have qf := ((R3.out.set 0 (.int .i64 (1 + p))).set 1 (.int .i64 (1 + q))).set 2 (.string m)
  have q0 := qf.cell (j := 0) (v := .int .i64 (1 + p)) rfl
  have q1 := qf.cell (j := 1) (v := .int .i64 (1 + q)) rfl
  have q2 := qf.cell (j := 2) (v := .string m) rfl
  have RZ := Lib.hid (sets_kept w.heap.size 0 [.int .i64 (1 + p), .int .i64 (1 + q), .string m] C3.out G3.out HCN.out (Nat.le_refl _))
  clear qf
  go_wp2
  refine bodyPost_ret (v := .agg #[.int .i64 (1 + p), .int .i64 (1 + q), .string m]) ?_ rfl ⟨1 + p, 1 + q, m, rec_ok p0 p1 u0 u1 HM.out, rfl, RZ.out.1, RZ.out.2⟩
  simp [results, Tryd.results91, go_sem, q0, q1, q2]
end Draw
end Go.Proofs.YtcckhkihhhchbaaDoor
