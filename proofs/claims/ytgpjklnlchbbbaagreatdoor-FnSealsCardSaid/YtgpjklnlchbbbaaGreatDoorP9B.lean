/- Merged texts: NumMath, AesText, KeysText, BlockText, CtrMath, Made, AesMem, FieldSpec, MixSpec, AesBox, ShiftSpec, RangeSpec. -/
import Derived.Test.YtgpjklnlchbbbaaGreatDoorP9A
import Derived.Deep.QuietTactic
import Derived.BigQuiet
import Derived.WalkKit
import Derived.Laws.MakeOwn
import Derived.Lib.AppendStr
import Derived.WalkSpells
import Derived.WalkLawsBesides
import Derived.Deep.RegionLaw
import Derived.Lib.Hide
import Derived.BigRegion
namespace Go.Proofs.YtgpjklnlchbbbaaGreatDoor
open Go.RowKit Go.Proofs.YtgpjklnlchbbbaaGreatDoor.Hexa Go.Proofs.YtgpjklnlchbbbaaGreatDoor.Byt Go.Proofs.YtgpjklnlchbbbaaGreatDoor.BitsM Go.Proofs.YtgpjklnlchbbbaaGreatDoor.Parts

/-- n zero bytes; none where n is not from 0 to 20000. -/
def zeroB (n : Int) : ByteArray := if 0 ≤ n ∧ n ≤ 20000 then longB n.toNat 0 else ⟨#[]⟩
/-- A text with zero bytes behind it, eight in all; none for a longer one. -/
def wordB (s : ByteArray) : ByteArray := if s.size ≤ 8 then s ++ longB (8 - s.size) 0 else ⟨#[]⟩
theorem zeroB_of (s : ByteArray) (h : s.size ≤ 8) : zeroB (8 - (s.size : Int)) = longB (8 - s.size) 0 := by
  unfold zeroB
  rw [if_pos (by omega), show (8 - (s.size : Int)).toNat = 8 - s.size by omega]
/-- Two texts of one length combined, the first k bytes of them. -/
def xorL (a b : ByteArray) (k : Nat) : List UInt8 := (List.zipWith (· ^^^ ·) a.data.toList b.data.toList).take k
def xorT (a b : ByteArray) : ByteArray := if a.size = b.size then ⟨(xorL a b a.size).toArray⟩ else ⟨#[]⟩
theorem xorL_length (a b : ByteArray) (hl : a.size = b.size) (k : Nat) (hk : k ≤ a.size) : (xorL a b k).length = k := by
  have h1 : a.data.toList.length = a.size := by simp
  have h2 : b.data.toList.length = b.size := by simp
  unfold xorL
  rw [List.length_take, List.length_zipWith]
  omega
theorem xorL_next (a b : ByteArray) (k : Nat) (ha : k < a.size) (hb : k < b.size) : bcells (xorL a b k) ++ [.int .u8 (((a[k]'ha) ^^^ (b[k]'hb)).toNat : Int)] = bcells (xorL a b (k + 1)) := by
  have h1 : k < a.data.toList.length := by simpa using ha
  have h2 : k < b.data.toList.length := by simpa using hb
  have e : (List.zipWith (· ^^^ ·) a.data.toList b.data.toList)[k]'(by rw [List.length_zipWith]; omega) = (a[k]'ha) ^^^ (b[k]'hb) := by rw [List.getElem_zipWith]; rfl
  unfold xorL
  rw [List.take_succ_eq_append_getElem (by rw [List.length_zipWith]; omega), e]
  simp [bcells]
/-- The first j of the k bytes of a number. -/
def numL (m k j : Nat) : List UInt8 := (List.range j).map fun t => UInt8.ofNat (m / 256 ^ (k - 1 - t))
def numB (m k : Nat) : ByteArray := ⟨(numL m k k).toArray⟩
theorem numL_length (m k j : Nat) : (numL m k j).length = j := by simp [numL]
theorem numL_next (m k j : Nat) : numL m k j ++ [UInt8.ofNat (m / 256 ^ (k - 1 - j))] = numL m k (j + 1) := by simp [numL, List.range_succ]
/-- The number has room in width bytes. -/
def NumFits (n width : Int) : Prop := 0 ≤ n ∧ (1 ≤ width ∧ width ≤ 7) ∧ n < 256 ^ width.toNat
theorem shift_zero {m k : Nat} (h : m < 256 ^ k) : (m : Int) / 2 ^ (8 * k) = 0 := by
  have e : (2 : Int) ^ (8 * k) = ((256 ^ k : Nat) : Int) := by rw [show (256 : Nat) ^ k = 2 ^ (8 * k) by rw [Nat.pow_mul]]; simp
  rw [e, ← Int.natCast_ediv, Nat.div_eq_of_lt h]; rfl
theorem shift_pos {m k : Nat} (h : 256 ^ k ≤ m) : 0 < (m : Int) / 2 ^ (8 * k) := by
  have e : (2 : Int) ^ (8 * k) = ((256 ^ k : Nat) : Int) := by rw [show (256 : Nat) ^ k = 2 ^ (8 * k) by rw [Nat.pow_mul]]; simp
  have hp : 0 < 256 ^ k := Nat.pow_pos (by omega)
  have := Nat.div_pos h hp
  rw [e, ← Int.natCast_ediv]; omega
theorem num_byte (m e : Nat) : (m : Int) / 2 ^ (8 * e) % 256 = ((UInt8.ofNat (m / 256 ^ e)).toNat : Int) := by
  rw [UInt8.toNat_ofNat', show (256 : Nat) ^ e = 2 ^ (8 * e) by rw [Nat.pow_mul]]
  have : (2 : Int) ^ (8 * e) = ((2 ^ (8 * e) : Nat) : Int) := by simp
  rw [this, ← Int.natCast_ediv]
  rfl
/-- The number that bytes say, the greatest first. -/
def numV (l : List UInt8) : Nat := l.foldl (fun n b => 256 * n + b.toNat) 0
theorem numV_snoc (l : List UInt8) (b : UInt8) : numV (l ++ [b]) = 256 * numV l + b.toNat := by simp [numV]
theorem fold_lt : ∀ (l : List UInt8) (acc : Nat), l.foldl (fun n b => 256 * n + b.toNat) acc < (acc + 1) * 256 ^ l.length
  | [], acc => by simp
  | b :: l, acc => by
    have h := fold_lt l (256 * acc + b.toNat)
    have hb := b.toNat_lt
    have h2 : (256 * acc + b.toNat + 1) * 256 ^ l.length ≤ (acc + 1) * 256 * 256 ^ l.length := Nat.mul_le_mul_right _ (by omega)
    rw [List.foldl_cons, List.length_cons, Nat.pow_succ, Nat.mul_comm (256 ^ l.length) 256, ← Nat.mul_assoc]
    omega
theorem numV_lt (l : List UInt8) : numV l < 256 ^ l.length := by
  have := fold_lt l 0
  simpa [numV] using this
/-- The bytes from offset a on, k of them. -/
def cutL (s : ByteArray) (a k : Nat) : List UInt8 := (s.data.toList.drop a).take k
theorem cutL_length (s : ByteArray) (a k : Nat) (h : a + k ≤ s.size) : (cutL s a k).length = k := by
  have : s.data.toList.length = s.size := by simp
  unfold cutL
  rw [List.length_take, List.length_drop]
  omega
theorem cutL_next (s : ByteArray) (a k : Nat) (h : a + k < s.size) : cutL s a k ++ [s[a + k]'h] = cutL s a (k + 1) := by
  have hl : s.data.toList.length = s.size := by simp
  unfold cutL
  rw [List.take_succ_eq_append_getElem (by rw [List.length_drop]; omega), List.getElem_drop]
  rfl
/-- These bytes exist. -/
def NumThere (s : ByteArray) (a width : Int) : Prop := (1 ≤ width ∧ width ≤ 7) ∧ (0 ≤ a ∧ a ≤ (s.size : Int) - width)
theorem ret_pair {a b : Int} {v : Value} (h : a = b) : Ending.returned (.tuple #[.int .i64 a, v]) = .returned (.tuple #[.int .i64 b, v]) := by rw [h]
/-- The number in its bytes; none where it has no room. -/
def numTextB (n width : Int) : ByteArray := if 0 ≤ n ∧ (1 ≤ width ∧ width ≤ 7) ∧ n < 256 ^ width.toNat then numB n.toNat width.toNat else ⟨#[]⟩
/-- The number at an offset, and whether it is there. -/
def numAtV (s : ByteArray) (a width : Int) : Int := if (1 ≤ width ∧ width ≤ 7) ∧ (0 ≤ a ∧ a ≤ (s.size : Int) - width) then (numV (cutL s a.toNat width.toNat) : Int) else 0
def numAtB (s : ByteArray) (a width : Int) : Bool := decide ((1 ≤ width ∧ width ≤ 7) ∧ (0 ≤ a ∧ a ≤ (s.size : Int) - width))
end Go.Proofs.YtgpjklnlchbbbaaGreatDoor
namespace Go.Proofs.YtgpjklnlchbbbaaGreatDoor
open Go.RowKit Go.Proofs.YtgpjklnlchbbbaaGreatDoor.Hexa Go.Proofs.YtgpjklnlchbbbaaGreatDoor.Byt Go.Proofs.YtgpjklnlchbbbaaGreatDoor.Aes

def txt (l : List UInt8) : ByteArray := ⟨l.toArray⟩
theorem txt_list (l : List UInt8) : (txt l).data.toList = l := by simp [txt]
theorem txt_size (l : List UInt8) : (txt l).size = l.length := by show l.toArray.size = l.length; simp
theorem list_size (s : ByteArray) : s.data.toList.length = s.size := by simp
theorem txt_of (s : ByteArray) : txt s.data.toList = s := rfl
theorem text_inj {a b : ByteArray} (h : a.data.toList = b.data.toList) : a = b := ByteArray.ext (Array.toList_inj.1 h)
theorem txt_append (a b : List UInt8) : txt a ++ txt b = txt (a ++ b) := by
  apply text_inj
  rw [ByteArray.data_append, Array.toList_append, txt_list, txt_list, txt_list]
theorem txt_extract (s : ByteArray) (i j : Nat) : s.extract i j = txt ((s.data.toList.drop i).take (j - i)) := by
  apply text_inj
  rw [ByteArray.data_extract, Array.toList_extract, txt_list, List.extract_eq_take_drop]
theorem xorT_txt (a b : ByteArray) (h : a.size = b.size) : xorT a b = txt (xorB a.data.toList b.data.toList) := by
  have h1 : a.data.toList.length = a.size := by simp
  have h2 : b.data.toList.length = b.size := by simp
  unfold xorT
  rw [if_pos h]
  show (⟨(xorL a b a.size).toArray⟩ : ByteArray) = _
  unfold xorL
  rw [List.take_of_length_le (by rw [List.length_zipWith]; omega)]
  rfl
theorem word_text (s : ByteArray) (j : Nat) : s.extract (4 * j) (4 * j + 4) = txt (wordO s.data.toList j) := by
  rw [txt_extract, show 4 * j + 4 - 4 * j = 4 by omega]
  rfl
theorem xor_words (s : ByteArray) (hs : s.size = 16) (k j : Nat) (hj : j < 4) : xorT (s.extract (4 * j) (4 * j + 4)) (txt (goneW s.data.toList k j)) = txt (goneW s.data.toList k (j + 1)) := by
  have hl : s.data.toList.length = 16 := by simpa using hs
  rw [word_text, xorT_txt _ _ (by rw [txt_size, txt_size, wordO_length _ hl j hj, goneW_length _ k hl j (by omega)]), txt_list, txt_list]
  rfl
theorem step_words (l : List UInt8) (k j : Nat) : txt (goneT l k j) ++ txt (goneW l k (j + 1)) = txt (goneT l k (j + 1)) := by rw [txt_append]; rfl
theorem turn_words (s : ByteArray) (k : Nat) : turnedL (s.extract 12 16).data.toList k = goneW s.data.toList k 0 := by
  rw [txt_extract, txt_list]
  rfl
end Go.Proofs.YtgpjklnlchbbbaaGreatDoor
namespace Go.Proofs.YtgpjklnlchbbbaaGreatDoor
open Go.RowKit Go.Proofs.YtgpjklnlchbbbaaGreatDoor.Hexa Go.Proofs.YtgpjklnlchbbbaaGreatDoor.Byt Go.Proofs.YtgpjklnlchbbbaaGreatDoor.Aes Go.Proofs.YtgpjklnlchbbbaaGreatDoor.Parts

theorem infoKeys : (Tryz.prog.info? 9).map (fun i => (i.zero, i.size, i.bytes)) = some (some (.string ⟨#[]⟩), 1, 16) := by kernel_rfl
/-- Round key i of a key, and the first n of them. -/
def keyT (s : ByteArray) (i : Nat) : ByteArray := txt (keyAt s.data.toList i)
def keysTo (s : ByteArray) (n : Nat) : List ByteArray := (List.range n).map (keyT s)
theorem keysTo_length (s : ByteArray) (n : Nat) : (keysTo s n).length = n := by simp [keysTo]
theorem keyT_size (s : ByteArray) (hs : s.size = 16) (i : Nat) (hi : i < 11) : (keyT s i).size = 16 := by
  unfold keyT
  rw [txt_size]
  exact keyAt_length _ (by simpa using hs) i hi
theorem keyT_zero (s : ByteArray) (hs : s.size = 16) : keyT s 0 = s := by
  unfold keyT
  rw [keyAt_zero _ (by simpa using hs), txt_of]
theorem keyT_next (s : ByteArray) (hs : s.size = 16) (i : Nat) (hi : i < 10) : txt (afterL (keyT s i).data.toList (i + 1)) = keyT s (i + 1) := by
  unfold keyT
  rw [txt_list, ← keyAt_next _ (by simpa using hs) i hi]
theorem keysTo_next (s : ByteArray) (n : Nat) : scells (keysTo s n) ++ [.string (keyT s n)] = scells (keysTo s (n + 1)) := by simp [keysTo, scells, List.range_succ]
theorem keysTo_one (s : ByteArray) (hs : s.size = 16) : scells (keysTo s 1) = [.string s] := by
  show [Value.string (keyT s 0)] = _
  rw [keyT_zero s hs]
theorem keysTo_at (s : ByteArray) (n i : Nat) (h : i < n) : (scells (keysTo s n))[i]? = some (.string (keyT s i)) := by simp [keysTo, scells, h]
/-- Some slice of the call's own that holds these texts. -/
def GivesK (P : List ByteArray) (w : World) (e : Ending) (w' : World) : Prop :=
  ∃ v, e = .returned v ∧ w'.ownsRow w.heap.size 9 1 v P.length (scells P) ∧ Below w.heap.size w w'
end Go.Proofs.YtgpjklnlchbbbaaGreatDoor
namespace Go.Proofs.YtgpjklnlchbbbaaGreatDoor
open Go.RowKit Go.Proofs.YtgpjklnlchbbbaaGreatDoor.Hexa Go.Proofs.YtgpjklnlchbbbaaGreatDoor.Byt Go.Proofs.YtgpjklnlchbbbaaGreatDoor.Aes Go.Proofs.YtgpjklnlchbbbaaGreatDoor.Parts

def boxT (s : ByteArray) : ByteArray := txt (boxL s.data.toList)
def shiftT (s : ByteArray) : ByteArray := txt (shiftL s.data.toList)
def mixT (s : ByteArray) : ByteArray := txt (mixL s.data.toList)
theorem boxT_size (s : ByteArray) : (boxT s).size = s.size := by unfold boxT; rw [txt_size, boxL_length]; simp
theorem shiftT_size (s : ByteArray) : (shiftT s).size = 16 := by unfold shiftT; rw [txt_size, shiftL_length]
theorem mixT_size (s : ByteArray) : (mixT s).size = 16 := by unfold mixT; rw [txt_size, mixL_length]
/-- A block behind its first n rounds. -/
def stT (key s : ByteArray) (n : Nat) : ByteArray := txt (roundsL (keyAt key.data.toList) s.data.toList n)
theorem stT_size (key s : ByteArray) (hk : key.size = 16) (hs : s.size = 16) (n : Nat) (hn : n < 11) : (stT key s n).size = 16 := by
  unfold stT
  rw [txt_size]
  exact roundsL_length _ _ (fun i hi => keyAt_length _ (by simpa using hk) i hi) (by simpa using hs) n hn
theorem stT_zero (key s : ByteArray) (hk : key.size = 16) (hs : s.size = 16) : xorT s (keyT key 0) = stT key s 0 := by
  rw [xorT_txt _ _ (by rw [hs, keyT_size key hk 0 (by omega)])]
  unfold stT keyT
  rw [txt_list]
  rfl
/-- The steps of a round, one after another: boxes, rows, columns. -/
def stepT (s : ByteArray) : Nat → ByteArray
  | 0 => s
  | 1 => boxT s
  | 2 => shiftT (boxT s)
  | _ => mixT (shiftT (boxT s))
def stepsN (k : Nat) : Nat := if k = 10 then 2 else 3
theorem stT_next (key s : ByteArray) (hk : key.size = 16) (n : Nat) (hn : n < 10) : xorT (stepT (stT key s n) (stepsN (n + 1))) (keyT key (n + 1)) = stT key s (n + 1) := by
  have hsz : (stepT (stT key s n) (stepsN (n + 1))).size = 16 := by
    unfold stepsN
    split
    · exact shiftT_size _
    · exact mixT_size _
  rw [xorT_txt _ _ (by rw [hsz, keyT_size key hk (n + 1) (by omega)])]
  have e : (stepT (stT key s n) (stepsN (n + 1))).data.toList = if n + 1 < 10 then mixL (shiftL (boxL (roundsL (keyAt key.data.toList) s.data.toList n))) else shiftL (boxL (roundsL (keyAt key.data.toList) s.data.toList n)) := by
    unfold stepsN
    by_cases h : n + 1 = 10
    · rw [if_pos h, if_neg (by omega)]
      show (txt _).data.toList = _
      rw [txt_list]
      show shiftL (txt _).data.toList = _
      rw [txt_list]
      show shiftL (boxL (txt _).data.toList) = _
      rw [txt_list]
    · rw [if_neg h, if_pos (by omega)]
      show (txt _).data.toList = _
      rw [txt_list]
      show mixL (txt _).data.toList = _
      rw [txt_list]
      show mixL (shiftL (txt _).data.toList) = _
      rw [txt_list]
      show mixL (shiftL (boxL (txt _).data.toList)) = _
      rw [txt_list]
  rw [e]
  unfold stT keyT
  rw [txt_list]
  rfl
/-- What BlockText returns. -/
def blockT (key s : ByteArray) : ByteArray := txt (blockL key.data.toList s.data.toList)
theorem blockT_eq (key s : ByteArray) : stT key s 10 = blockT key s := rfl
theorem blockT_size (key s : ByteArray) (hk : key.size = 16) (hs : s.size = 16) : (blockT key s).size = 16 := stT_size key s hk hs 10 (by omega)
/-- A slice of texts reads on, where nothing below is written. -/
theorem reads_below {w w' : World} {ad : Option Addr} {P : List ByteArray} (h : Reads w ad (scells P)) (hb : Below w.heap.size w w') : Reads w' ad (scells P) := by
  intro j hj
  obtain ⟨g, hg, hc⟩ := h j hj
  refine ⟨g, hg, ?_⟩
  have hlt : g < w.heap.size := by
    rcases Nat.lt_or_ge g w.heap.size with h1 | h1
    · exact h1
    · rw [List.getElem?_eq_getElem hj] at hc
      simp [World.cell?, Array.getElem?_eq_none h1] at hc
  rw [hb.cell (by exact hlt)]
  exact hc
theorem reads_key {w : World} {ad : Option Addr} {s : ByteArray} (h : Reads w ad (scells (keysTo s 11))) (i : Nat) (hi : i < 11) : ∃ g, ad = some ⟨g, 0, none⟩ ∧ w.cell? ⟨g, i, none⟩ = some (.string (keyT s i)) := by
  obtain ⟨g, hg, hc⟩ := h i (by simp [scells, keysTo_length]; omega)
  exact ⟨g, hg, by rw [hc]; exact keysTo_at s 11 i hi⟩
end Go.Proofs.YtgpjklnlchbbbaaGreatDoor
namespace Go.Proofs.YtgpjklnlchbbbaaGreatDoor
open Go.RowKit Go.Proofs.YtgpjklnlchbbbaaGreatDoor.Hexa Go.Proofs.YtgpjklnlchbbbaaGreatDoor.Byt Go.Proofs.YtgpjklnlchbbbaaGreatDoor.Aes Go.Proofs.YtgpjklnlchbbbaaGreatDoor.Parts

/-- Block i of the stream. -/
def blkAt (key nonce : ByteArray) (i : Nat) : ByteArray := blockT key (nonce ++ numB i 4)
/-- The first k blocks of the stream. -/
def strL (key nonce : ByteArray) : Nat → List UInt8
  | 0 => []
  | k + 1 => strL key nonce k ++ (blkAt key nonce k).data.toList
theorem numB_four (i : Nat) : (numB i 4).size = 4 := by show (numL i 4 4).toArray.size = 4; rw [List.size_toArray, numL_length]
theorem blkIn_size (nonce : ByteArray) (hn : nonce.size = 12) (i : Nat) : (nonce ++ numB i 4).size = 16 := by rw [ByteArray.size_append, numB_four, hn]
theorem blkAt_size (key nonce : ByteArray) (hk : key.size = 16) (hn : nonce.size = 12) (i : Nat) : (blkAt key nonce i).size = 16 := blockT_size _ _ hk (blkIn_size nonce hn i)
theorem strL_length (key nonce : ByteArray) (hk : key.size = 16) (hn : nonce.size = 12) : ∀ k, (strL key nonce k).length = 16 * k
  | 0 => rfl
  | k + 1 => by
    have h := blkAt_size key nonce hk hn k
    have h2 : (blkAt key nonce k).data.toList.length = 16 := by simpa using h
    show (strL key nonce k ++ (blkAt key nonce k).data.toList).length = _
    rw [List.length_append, strL_length key nonce hk hn k, h2]
    omega
theorem strL_take_succ (key nonce : ByteArray) (hk : key.size = 16) (hn : nonce.size = 12) (k n : Nat) (h : n ≤ 16 * k) : (strL key nonce (k + 1)).take n = (strL key nonce k).take n := by
  show (strL key nonce k ++ (blkAt key nonce k).data.toList).take n = _
  exact List.take_append_of_le_length (by rw [strL_length key nonce hk hn]; exact h)
theorem strL_take (key nonce : ByteArray) (hk : key.size = 16) (hn : nonce.size = 12) (k n : Nat) (h : n ≤ 16 * k) : ∀ m, (strL key nonce (k + m)).take n = (strL key nonce k).take n
  | 0 => rfl
  | m + 1 => (strL_take_succ key nonce hk hn (k + m) n (by omega)).trans (strL_take key nonce hk hn k n h m)
/-- What StreamOf returns. -/
def streamL (key nonce : ByteArray) (n : Nat) : List UInt8 := (strL key nonce 256).take n
theorem streamL_of (key nonce : ByteArray) (hk : key.size = 16) (hn : nonce.size = 12) (k n : Nat) (h : n ≤ 16 * k) (hk2 : k ≤ 256) : (strL key nonce k).take n = streamL key nonce n := by
  have := strL_take key nonce hk hn k n h (256 - k)
  rw [show k + (256 - k) = 256 by omega] at this
  exact this.symm
theorem streamL_length (key nonce : ByteArray) (hk : key.size = 16) (hn : nonce.size = 12) (n : Nat) (h : n ≤ 4096) : (streamL key nonce n).length = n := by
  unfold streamL
  rw [List.length_take, strL_length key nonce hk hn]
  omega
def streamT (key nonce : ByteArray) (n : Nat) : ByteArray := ⟨(streamL key nonce n).toArray⟩
theorem streamT_size (key nonce : ByteArray) (hk : key.size = 16) (hn : nonce.size = 12) (n : Nat) (h : n ≤ 4096) : (streamT key nonce n).size = n := by
  show (streamL key nonce n).toArray.size = n
  rw [List.size_toArray, streamL_length key nonce hk hn n h]
def StreamFits (key nonce : ByteArray) (n : Int) : Prop := key.size = 16 ∧ nonce.size = 12 ∧ 0 ≤ n ∧ n ≤ 4096
def streamB (key nonce : ByteArray) (n : Int) : ByteArray := if key.size = 16 ∧ nonce.size = 12 ∧ 0 ≤ n ∧ n ≤ 4096 then streamT key nonce n.toNat else ⟨#[]⟩
theorem streamB_yes {key nonce : ByteArray} {n : Int} (h : StreamFits key nonce n) : streamB key nonce n = streamT key nonce n.toNat := if_pos h
theorem streamB_no {key nonce : ByteArray} {n : Int} (h : ¬ StreamFits key nonce n) : streamB key nonce n = ⟨#[]⟩ := if_neg h
/-- What StreamBlock returns. -/
def BlkFits (key nonce : ByteArray) (i : Int) : Prop := (key.size = 16 ∧ nonce.size = 12) ∧ 0 ≤ i ∧ i < 256
def blkB (key nonce : ByteArray) (i : Int) : ByteArray := if (key.size = 16 ∧ nonce.size = 12) ∧ 0 ≤ i ∧ i < 256 then blkAt key nonce i.toNat else ⟨#[]⟩
theorem blkB_yes {key nonce : ByteArray} {i : Int} (h : BlkFits key nonce i) : blkB key nonce i = blkAt key nonce i.toNat := if_pos h
theorem blkB_no {key nonce : ByteArray} {i : Int} (h : ¬ BlkFits key nonce i) : blkB key nonce i = ⟨#[]⟩ := if_neg h
theorem xorP_size (a b : ByteArray) (h : a.size = b.size) : (xorT a b).size = a.size := by
  unfold xorT
  rw [if_pos h]
  show (xorL a b a.size).toArray.size = _
  rw [List.size_toArray, xorL_length a b h _ (Nat.le_refl _)]
theorem xorP_list (a b : ByteArray) (h : a.size = b.size) : (xorT a b).data.toList = List.zipWith (· ^^^ ·) a.data.toList b.data.toList := by
  have h1 : a.data.toList.length = a.size := by simp
  have h2 : b.data.toList.length = b.size := by simp
  unfold xorT
  rw [if_pos h]
  show (xorL a b a.size).toArray.toList = _
  unfold xorL
  rw [List.toList_toArray, List.take_of_length_le (by rw [List.length_zipWith]; omega)]
theorem zipP_twice : ∀ (l m : List UInt8), l.length = m.length → List.zipWith (· ^^^ ·) (List.zipWith (· ^^^ ·) l m) m = l
  | [], [], _ => rfl
  | a :: l, b :: m, h => by
    simp only [List.zipWith_cons_cons]
    rw [zipP_twice l m (by simpa using h), UInt8.xor_assoc, UInt8.xor_self, UInt8.xor_zero]
theorem xorT_back (a b : ByteArray) (h : a.size = b.size) : xorT (xorT a b) b = a := by
  apply ByteArray.ext
  apply Array.toList_inj.1
  rw [xorP_list _ _ (by rw [xorP_size a b h, h]), xorP_list a b h]
  exact zipP_twice _ _ (by simpa using h)
end Go.Proofs.YtgpjklnlchbbbaaGreatDoor
namespace Go.Proofs.YtgpjklnlchbbbaaGreatDoor
open Go.RowKit Go.Lib Go.Proofs.YtgpjklnlchbbbaaGreatDoor.Hexa Go.Proofs.YtgpjklnlchbbbaaGreatDoor.Byt

theorem made_zero (n : Nat) : (madeCells (Value.int .u8 0).cells (n * 1)).toList = bcells (List.replicate n 0) := by
  apply List.ext_getElem?
  intro j
  have hcl : (Value.int .u8 0).cells = #[Value.int .u8 0] := rfl
  by_cases hj : j < n
  · simp [madeCells, hj, hcl, Nat.mod_one, bcells]
  · rw [List.getElem?_eq_none (by simp [madeCells]; omega), List.getElem?_eq_none (by simp [bcells]; omega)]

/-- The bytes A, and zeros up to n. -/
def partB (A : List UInt8) (n : Nat) : List UInt8 := A ++ List.replicate (n - A.length) 0
theorem partB_length (A : List UInt8) (n : Nat) (h : A.length ≤ n) : (partB A n).length = n := by simp [partB]; omega
theorem partB_nil (n : Nat) : partB [] n = List.replicate n 0 := by simp [partB]
theorem partB_full (A : List UInt8) (n : Nat) (h : A.length = n) : partB A n = A := by simp [partB, h]
theorem partB_set (A : List UInt8) (n : Nat) (x : UInt8) (h : A.length < n) : (partB A n).set A.length x = partB (A ++ [x]) n := by
  obtain ⟨m, hm⟩ : ∃ m, n - A.length = m + 1 := ⟨n - A.length - 1, by omega⟩
  have h2 : n - (A ++ [x]).length = m := by simp; omega
  unfold partB
  rw [h2, hm, List.replicate_succ, List.set_append_right _ _ (Nat.le_refl _), Nat.sub_self, List.set_cons_zero, List.append_assoc]
  rfl
theorem part_start {w : World} {B e g n : Nat} (h : w.ownsRow B e 1 (.slice (some ⟨g, 0, none⟩) n n) n (madeCells (Value.int .u8 0).cells (n * 1)).toList) :
    Bytes w B e (.slice (some ⟨g, 0, none⟩) n n) (partB [] n) := by
  rw [made_zero] at h
  rw [partB_nil]
  refine bytes_of_own ?_
  rw [List.length_replicate]
  exact h
/-- The next byte written. -/
theorem part_next {w : World} {B e g n : Nat} {A : List UInt8} (h : Bytes w B e (.slice (some ⟨g, 0, none⟩) n n) (partB A n)) (x : UInt8) (hl : A.length < n) :
    Bytes (w.setCell ⟨g, A.length, none⟩ (.int .u8 x.toNat)) B e (.slice (some ⟨g, 0, none⟩) n n) (partB (A ++ [x]) n) := by
  have hp := partB_length A n (by omega)
  have h' : Bytes w B e (.slice (some ⟨g, 0, none⟩) (partB A n).length n) (partB A n) := by rw [hp]; exact h
  have hs := bytes_set h' A.length x
  rw [partB_set A n x hl, hp] at hs
  exact hs
theorem part_at {w : World} {B e g n : Nat} {A : List UInt8} (h : Bytes w B e (.slice (some ⟨g, 0, none⟩) n n) (partB A n)) (hl : A.length < n) :
    (∃ v, w.cell? ⟨g, A.length, none⟩ = some v) ∧ w.frozen? ⟨g, A.length, none⟩ = false ∧ B ≤ g := by
  have hp := partB_length A n (by omega)
  have h' : Bytes w B e (.slice (some ⟨g, 0, none⟩) (partB A n).length n) (partB A n) := by rw [hp]; exact h
  obtain ⟨h1, h2, h3⟩ := bytes_at h' A.length (by omega)
  exact ⟨⟨_, h1⟩, h2, h3⟩

/-- 'copy(b, s)'. -/
theorem bytes_copy {P : Program} {t e u ty : TypeId} {i : TypeInfo} (ht : P.underlying t = some (.slice e)) (hi : P.info? e = some i) (hs1 : i.size = 1)
    {w : World} {B g c n : Nat} {l : List UInt8} (hn : l.length = n) (h : Bytes w B e (.slice (some ⟨g, 0, none⟩) n c) l) (s : ByteArray) (hs : s.size ≤ n) :
    ∃ w', (Builtin.copy_ #[t, u] ty #[.slice (some ⟨g, 0, none⟩) n c, .string s]).run P w = .ok (goInt s.size) w' ∧ Bytes w' B e (.slice (some ⟨g, 0, none⟩) n c) (s.data.toList ++ l.drop s.size) ∧ Below B w w' := by
  subst hn
  have hsl : s.data.toList.length = s.size := by simp
  rcases h with ⟨h, _⟩ | ⟨g', cap, cur, fz, hv, hb, hg, hfz, hlc, hm, hcs, htk⟩
  · cases h
  · simp at hv
    obtain ⟨rfl, rfl⟩ := hv
    have hst := Byt.run_store P g 0 e fz (strCells s) 0 cur w hg hfz (by rw [strCells_length]; omega) (strCells_oneCell s)
    have hf := run_firstCells_string (P := P) w 1 s
    have hln : (s.data.toList ++ l.drop s.size).length = l.length := by rw [List.length_append, List.length_drop, hsl]; omega
    simp only [Nat.add_zero, Nat.zero_add, strCells_length] at hst
    refine ⟨w.setRow g (List.take 0 cur.toList ++ strCells s ++ List.drop s.size cur.toList).toArray, ?_, .inr ⟨g, c, (List.take 0 cur.toList ++ strCells s ++ List.drop s.size cur.toList).toArray, fz, by rw [hln], hb, setRow_heap w g cur _ e fz hg, ?_, by rw [hln]; exact hlc, hm, ?_, ?_⟩, Byt.below_setRow w hb _⟩
    · simp [Builtin.copy_, run_underlying ht, Builtin.lenOf, sizeOf, typeInfo, hi, hs1, Nat.min_eq_left hs, hf, hst]
    · have hz : (List.take 0 cur.toList ++ strCells s ++ List.drop s.size cur.toList).toArray.size = cur.size := by simp [strCells_length]; omega
      rw [hz]; exact hfz
    · simp [strCells_length]; omega
    · rw [hln]
      have e1 : strCells s = bcells s.data.toList := rfl
      simp only [List.take_zero, List.nil_append, e1, bcells_append]
      have e2 : l.length = (bcells s.data.toList).length + (l.length - s.size) := by rw [bcells_length, hsl]; omega
      have e3 : bcells (l.drop s.size) = (bcells l).drop s.size := by simp [bcells]
      rw [e2, List.take_length_add_append, e3, ← htk, List.drop_take]

theorem wpList_copy_text {P : Program} {w : World} {ops : Array Oper} {rest : List Oper} {o : Oper} {a : Act} {Q : Exit → Act → World → Prop} (hgd : o.guard = none) (d s : Operand) (dT sT : TypeId)
    (ho : o.op = .call { callee := .builtin .copy, args := #[d, s], argTypes := #[dT, sT] }) (v0 v1 r : Value) (w' : World) (hd : a.eval d = v0) (hs : a.eval s = v1)
    (hrun : (Builtin.copy_ #[dT, sT] o.type #[v0, v1]).run P w = .ok r w') (h : wpList P ops Q rest (a.put o.dst r) w') : wpList P ops Q (o :: rest) a w := by
  refine wpList_plain hgd fun K hK => ?_
  unfold Oper.wp
  simp [execOp, ho, resolve, invoke, builtin, hd, hs, hrun, Result.andThen]
  exact hK _ _ h
end Go.Proofs.YtgpjklnlchbbbaaGreatDoor
namespace Go.Proofs.YtgpjklnlchbbbaaGreatDoor
open Go.RowKit Go.Proofs.YtgpjklnlchbbbaaGreatDoor.Hexa Go.Proofs.YtgpjklnlchbbbaaGreatDoor.Byt Go.Proofs.YtgpjklnlchbbbaaGreatDoor.Aes

/-- The cells of the box. -/
def boxCells : Array Value := (bcells boxTab).toArray
theorem cell_byte {w : World} {g : Nat} {l : List UInt8} {t : TypeId} {fr : Nat × Nat} (h : w.heap[g]? = some (.cells (bcells l).toArray t fr)) (k : Nat) (x : UInt8) (hk : l[k]? = some x) : w.cell? ⟨g, k, none⟩ = some (.int .u8 x.toNat) := by
  simp [World.cell?, h, bcells, hk]
theorem cell_box {w : World} {g : Nat} {t : TypeId} {fr : Nat × Nat} (h : w.heap[g]? = some (.cells boxCells t fr)) (x : UInt8) : w.cell? ⟨g, x.toNat, none⟩ = some (.int .u8 (boxU x).toNat) :=
  cell_byte h x.toNat _ (boxTab_at x)

/-- A text whose first k bytes are turned. -/
def turnT (f : UInt8 → UInt8) (l : List UInt8) (k : Nat) : List UInt8 := (l.take k).map f ++ l.drop k
theorem turnT_length (f : UInt8 → UInt8) (l : List UInt8) (k : Nat) : (turnT f l k).length = l.length := by
  unfold turnT; rw [List.length_append, List.length_map, List.length_take, List.length_drop]; omega
theorem turnT_at (f : UInt8 → UInt8) (l : List UInt8) (k : Nat) (h : k < l.length) : (turnT f l k)[k]? = some l[k] := by
  have e : ((l.take k).map f).length = k := by rw [List.length_map, List.length_take]; omega
  unfold turnT
  rw [List.getElem?_append_right (by omega), e, Nat.sub_self, List.getElem?_drop]
  simp [h]
theorem turnT_set (f : UInt8 → UInt8) (l : List UInt8) (k : Nat) (h : k < l.length) : (turnT f l k).set k (f l[k]) = turnT f l (k + 1) := by
  have e : ((l.take k).map f).length = k := by rw [List.length_map, List.length_take]; omega
  unfold turnT
  rw [List.set_append_right _ _ (by omega), e, Nat.sub_self, List.take_succ_eq_append_getElem h, List.drop_eq_getElem_cons h, List.set_cons_zero, List.map_append, List.append_assoc]
  rfl
theorem turnT_all (f : UInt8 → UInt8) (l : List UInt8) : turnT f l l.length = l.map f := by simp [turnT]
theorem turnT_zero (f : UInt8 → UInt8) (l : List UInt8) : turnT f l 0 = l := by simp [turnT]

/-- The first p bytes that a function of the place gives. -/
def mapTo (f : Nat → UInt8) (p : Nat) : List UInt8 := (List.range p).map f
theorem mapTo_length (f : Nat → UInt8) (p : Nat) : (mapTo f p).length = p := by simp [mapTo]
theorem mapTo_next (f : Nat → UInt8) (p : Nat) : mapTo f p ++ [f p] = mapTo f (p + 1) := by simp [mapTo, List.range_succ]
theorem text_at (s : ByteArray) (i : Nat) (h : i < s.size) : s[i]'h = s.data.toList.getD i 0 := by
  have h2 : i < s.data.toList.length := by simpa using h
  rw [List.getD, List.getElem?_eq_getElem h2]
  rfl
end Go.Proofs.YtgpjklnlchbbbaaGreatDoor
namespace Go.Proofs.YtgpjklnlchbbbaaGreatDoor
open Go.RowKit Go.Proofs.YtgpjklnlchbbbaaGreatDoor.Fld Go.Proofs.YtgpjklnlchbbbaaGreatDoor.BitsM

set_option maxRecDepth 100000 in
set_option maxHeartbeats 400000 in
theorem rangeF_any (n a b : Int) (w : World) : Calls Tryz.prog 30 #[.int .i64 n, .int .i64 a, .int .i64 b] w fun e w' => e = .returned (.bool (decide (a ≤ n ∧ n ≤ b))) ∧ w' = w := by
  by_cases h1 : a ≤ n <;> by_cases h2 : n ≤ b
  all_goals
    go_enter Tryz.func30, Tryz.ntmps30
    go_wp2
    all_goals go_ret
    all_goals exact ⟨by simp [h1, h2], rfl⟩
theorem rangeF_yes {n a b : Int} (w : World) (h : a ≤ n ∧ n ≤ b) : Calls Tryz.prog 30 #[.int .i64 n, .int .i64 a, .int .i64 b] w fun e w' => e = .returned (.bool true) ∧ w' = w :=
  (rangeF_any n a b w).mono fun _ _ ⟨he, hw⟩ => ⟨by rw [he, decide_eq_true h], hw⟩
theorem rangeF_no {n a b : Int} (w : World) (h : ¬ (a ≤ n ∧ n ≤ b)) : Calls Tryz.prog 30 #[.int .i64 n, .int .i64 a, .int .i64 b] w fun e w' => e = .returned (.bool false) ∧ w' = w :=
  (rangeF_any n a b w).mono fun _ _ ⟨he, hw⟩ => ⟨by rw [he, decide_eq_false h], hw⟩
/-- A byte's number. -/
def IsByte (n : Int) : Prop := 0 ≤ n ∧ n ≤ 255
set_option maxRecDepth 100000 in
set_option maxHeartbeats 400000 in
theorem isByte_yes {n : Int} (w : World) (h : IsByte n) : Calls Tryz.prog 66 #[.int .i64 n] w fun e w' => e = .returned (.bool true) ∧ w' = w := by
  have HR := Lib.hid h
  clear h
  go_enter Tryz.func66, Tryz.ntmps66
  go_wp2_with fail
  refine (rangeF_yes _ HR.out).mono ?_
  rintro e w1 ⟨rfl, rfl⟩
  go_wp2
  go_ret
  exact ⟨rfl, rfl⟩
set_option maxRecDepth 100000 in
set_option maxHeartbeats 400000 in
theorem isByte_no {n : Int} (w : World) (h : ¬ IsByte n) : Calls Tryz.prog 66 #[.int .i64 n] w fun e w' => e = .returned (.bool false) ∧ w' = w := by
  have HR := Lib.hid h
  clear h
  go_enter Tryz.func66, Tryz.ntmps66
  go_wp2_with fail
  refine (rangeF_no _ HR.out).mono ?_
  rintro e w1 ⟨rfl, rfl⟩
  go_wp2
  go_ret
  exact ⟨rfl, rfl⟩
theorem ret_int {a b : Int} (h : a = b) : Ending.returned (.int .i64 a) = .returned (.int .i64 b) := by rw [h]

set_option maxRecDepth 100000 in
set_option maxHeartbeats 400000 in
theorem specDouble_yes (m : Nat) (w : World) (h : m < 256) : Calls Tryz.prog 52 #[.int .i64 m] w fun e w' => e = .returned (.int .i64 (dbl m)) ∧ w' = w := by
  have HB : Hid (IsByte m) := Lib.hid ⟨by omega, by omega⟩
  by_cases hb : 255 < 2 * m
  · have HD : Hid (dbl m = (2 * m) ^^^ 283) := Lib.hid (if_pos hb)
    have hx := xor64 (2 * m) 283 (by omega) (by omega)
    have e2 : ((2 * m : Nat) : Int) = 2 * (m : Int) := by simp
    rw [e2] at hx
    have e3 : ((283 : Nat) : Int) = 283 := rfl
    rw [e3] at hx
    clear e2 e3
    go_enter Tryz.func52, Tryz.ntmps52
    go_wp2_with fail
    refine (isByte_yes _ HB.out).mono ?_
    rintro e w1 ⟨rfl, rfl⟩
    go_wp2
    go_ret
    exact ⟨ret_int (by rw [HD.out]), rfl⟩
  · have HD : Hid (dbl m = 2 * m) := Lib.hid (if_neg hb)
    go_enter Tryz.func52, Tryz.ntmps52
    go_wp2_with fail
    refine (isByte_yes _ HB.out).mono ?_
    rintro e w1 ⟨rfl, rfl⟩
    go_wp2
    go_ret
    exact ⟨ret_int (by rw [HD.out]; simp), rfl⟩
set_option maxRecDepth 100000 in
set_option maxHeartbeats 400000 in
theorem specDouble_no (n : Int) (w : World) (h : ¬ IsByte n) : Calls Tryz.prog 52 #[.int .i64 n] w fun e w' => e = .returned (.int .i64 0) ∧ w' = w := by
  have HB := Lib.hid h
  clear h
  go_enter Tryz.func52, Tryz.ntmps52
  go_wp2_with fail
  refine (isByte_no _ HB.out).mono ?_
  rintro e w1 ⟨rfl, rfl⟩
  go_wp2
  go_ret
  exact ⟨rfl, rfl⟩

theorem pow_succ_lt {b f : Nat} (h : b < 2 ^ (f + 1)) : b / 2 < 2 ^ f := by
  rw [Nat.pow_succ] at h; omega
theorem mulF_succ (f a b : Nat) : mulF (f + 1) a b = (if b % 2 = 1 then a else 0) ^^^ mulF f (dbl a) (b / 2) := rfl
theorem mul_round {f a b out r : Nat} (h : out ^^^ mulF (f + 1) a b = r) : (if b % 2 = 1 then out ^^^ a else out) ^^^ mulF f (dbl a) (b / 2) = r := by
  rw [← h, mulF_succ]
  split
  · rw [← Nat.xor_assoc]
  · rw [Nat.zero_xor]

set_option maxRecDepth 100000 in
set_option maxHeartbeats 1000000 in
theorem specMul_yes (A B : Nat) (w : World) (hA : A < 256) (hB : B < 256) : Calls Tryz.prog 67 #[.int .i64 A, .int .i64 B] w fun e w' => e = .returned (.int .i64 (mul A B)) ∧ w' = w := by
  have HA : Hid (IsByte A) := Lib.hid ⟨by omega, by omega⟩
  have HB : Hid (IsByte B) := Lib.hid ⟨by omega, by omega⟩
  have HM : Hid (0 ^^^ mulF 8 A B = mul A B) := Lib.hid (by rw [Nat.zero_xor]; rfl)
  go_enter Tryz.func67, Tryz.ntmps67
  go_wp2_with fail
  refine (isByte_yes _ HA.out).mono ?_
  rintro e w1 ⟨rfl, rfl⟩
  go_wp2_with fail
  refine (isByte_yes _ HB.out).mono ?_
  rintro e w2 ⟨rfl, rfl⟩
  go_wp2
  go_loopw [0, 1, 5] (fun av bv ov wr => ∃ f a b out : Nat, b < 2 ^ f ∧ b < 256 ∧ a < 256 ∧ out < 256 ∧ av = .int .i64 a ∧ bv = .int .i64 b ∧ ov = .int .i64 out ∧ Hid (out ^^^ mulF f a b = mul A B) ∧ wr = w2)
    (fun _ bv _ _ => (intOf bv).toNat)
  case atStart => exact ⟨8, A, B, 0, hB, hB, hA, by omega, rfl, rfl, rfl, HM, rfl⟩
  case round =>
    obtain ⟨f, a, b, out, hf, hb, ha, ho, rfl, rfl, rfl, HR, rfl⟩ := hrel
    by_cases hpos : 0 < b
    · obtain ⟨f', rfl⟩ : ∃ f', f = f' + 1 := by
        rcases f with _ | f
        · simp at hf; omega
        · exact ⟨f, rfl⟩
      have hf2 := pow_succ_lt hf
      have HN := Lib.hid (mul_round HR.out)
      by_cases hodd : b % 2 = 1
      · have hx := xor64 out a (by omega) (by omega)
        have ho2 : out ^^^ a < 256 := xor_lt ho ha
        have hm : ((b : Int) % 2 == 1) = true := by simp; omega
        rw [if_pos hodd] at HN
        clear hf
        go_wp2_with (go_at_call 52; refine (specDouble_yes a _ ha).mono ?_; rintro e w3 ⟨rfl, rfl⟩)
        go_roundw
        case rel => exact ⟨f', dbl a, b / 2, out ^^^ a, hf2, by omega, dbl_lt a ha, ho2, by go_num, by go_num, by go_num, HN, by first | rfl | trivial⟩
        case measure => simp [intOf]; omega
      · have hm : ((b : Int) % 2 == 1) = false := by simp; omega
        rw [if_neg hodd] at HN
        clear hf
        go_wp2_with (go_at_call 52; refine (specDouble_yes a _ ha).mono ?_; rintro e w3 ⟨rfl, rfl⟩)
        go_roundw
        case rel => exact ⟨f', dbl a, b / 2, out, hf2, by omega, dbl_lt a ha, ho, by go_num, by go_num, by go_num, HN, by first | rfl | trivial⟩
        case measure => simp [intOf]; omega
    · obtain rfl : b = 0 := by omega
      have hfin : out = mul A B := by
        have := HR.out
        rw [mulF_zero, Nat.xor_zero] at this
        exact this
      go_wp2
      go_ret
      exact ⟨ret_int (by rw [hfin]), rfl⟩
set_option maxRecDepth 100000 in
set_option maxHeartbeats 400000 in
theorem specMul_no (n m : Int) (w : World) (h : ¬ (IsByte n ∧ IsByte m)) : Calls Tryz.prog 67 #[.int .i64 n, .int .i64 m] w fun e w' => e = .returned (.int .i64 0) ∧ w' = w := by
  by_cases hn : IsByte n
  · have HN := Lib.hid hn
    have HM : Hid (¬ IsByte m) := Lib.hid (fun hm => h ⟨hn, hm⟩)
    clear h hn
    go_enter Tryz.func67, Tryz.ntmps67
    go_wp2_with fail
    refine (isByte_yes _ HN.out).mono ?_
    rintro e w1 ⟨rfl, rfl⟩
    go_wp2_with fail
    refine (isByte_no _ HM.out).mono ?_
    rintro e w2 ⟨rfl, rfl⟩
    go_wp2
    go_ret
    exact ⟨rfl, rfl⟩
  · have HN := Lib.hid hn
    clear h hn
    go_enter Tryz.func67, Tryz.ntmps67
    go_wp2_with fail
    refine (isByte_no _ HN.out).mono ?_
    rintro e w1 ⟨rfl, rfl⟩
    go_wp2
    go_ret
    exact ⟨rfl, rfl⟩

/-- An exponent in its range. -/
def IsExp (n : Int) : Prop := 0 ≤ n ∧ n ≤ 1000
set_option maxRecDepth 100000 in
set_option maxHeartbeats 1000000 in
theorem specPow_yes (A n : Nat) (w : World) (hA : A < 256) (hn : n ≤ 1000) : Calls Tryz.prog 54 #[.int .i64 A, .int .i64 n] w fun e w' => e = .returned (.int .i64 (pow A n)) ∧ w' = w := by
  have HA : Hid (IsByte A) := Lib.hid ⟨by omega, by omega⟩
  have HE : Hid ((0 : Int) ≤ (n : Int) ∧ (n : Int) ≤ 1000) := Lib.hid ⟨by omega, by omega⟩
  go_enter Tryz.func54, Tryz.ntmps54
  go_wp2_with fail
  refine (isByte_yes _ HA.out).mono ?_
  rintro e w1 ⟨rfl, rfl⟩
  go_wp2_with fail
  refine (rangeF_yes _ HE.out).mono ?_
  rintro e w2 ⟨rfl, rfl⟩
  go_wp2
  go_loopw [5, 6] (fun ov iv wr => ∃ k out : Nat, k ≤ n ∧ iv = .int .i64 k ∧ ov = .int .i64 out ∧ out < 256 ∧ Hid (out = pow A k) ∧ wr = w2) (fun _ iv _ => n - (intOf iv).toNat)
  case atStart => exact ⟨0, 1, Nat.zero_le _, rfl, rfl, by omega, Lib.hid rfl, rfl⟩
  case round =>
    obtain ⟨k, out, hk, rfl, rfl, ho, HO, rfl⟩ := hrel
    by_cases hlt : k < n
    · have HN : Hid (mul out A = pow A (k + 1)) := Lib.hid (by rw [HO.out]; rfl)
      go_wp2_with (go_at_call 67; refine (specMul_yes out A _ ho hA).mono ?_; rintro e w3 ⟨rfl, rfl⟩)
      go_roundw
      case rel => exact ⟨k + 1, mul out A, by omega, by go_num, rfl, mul_lt _ _ ho, HN, by first | rfl | trivial⟩
      case measure => simp [intOf]; omega
    · obtain rfl : k = n := by omega
      go_wp2
      go_ret
      exact ⟨ret_int (by rw [HO.out]), rfl⟩
set_option maxRecDepth 100000 in
set_option maxHeartbeats 400000 in
theorem specPow_no (a n : Int) (w : World) (h : ¬ (IsByte a ∧ IsExp n)) : Calls Tryz.prog 54 #[.int .i64 a, .int .i64 n] w fun e w' => e = .returned (.int .i64 0) ∧ w' = w := by
  by_cases ha : IsByte a
  · have HN := Lib.hid ha
    have HM : Hid (¬ ((0 : Int) ≤ n ∧ n ≤ 1000)) := Lib.hid (fun hm => h ⟨ha, hm⟩)
    clear h ha
    go_enter Tryz.func54, Tryz.ntmps54
    go_wp2_with fail
    refine (isByte_yes _ HN.out).mono ?_
    rintro e w1 ⟨rfl, rfl⟩
    go_wp2_with fail
    refine (rangeF_no _ HM.out).mono ?_
    rintro e w2 ⟨rfl, rfl⟩
    go_wp2
    go_ret
    exact ⟨rfl, rfl⟩
  · have HN := Lib.hid ha
    clear h ha
    go_enter Tryz.func54, Tryz.ntmps54
    go_wp2_with fail
    refine (isByte_no _ HN.out).mono ?_
    rintro e w1 ⟨rfl, rfl⟩
    go_wp2
    go_ret
    exact ⟨rfl, rfl⟩
end Go.Proofs.YtgpjklnlchbbbaaGreatDoor
namespace Go.Proofs.YtgpjklnlchbbbaaGreatDoor
open Go.RowKit Go.Proofs.YtgpjklnlchbbbaaGreatDoor.Hexa Go.Proofs.YtgpjklnlchbbbaaGreatDoor.Byt Go.Proofs.YtgpjklnlchbbbaaGreatDoor.Aes Go.Proofs.YtgpjklnlchbbbaaGreatDoor.Fld Go.Proofs.YtgpjklnlchbbbaaGreatDoor.BitsM

theorem mixAt_place (l : List UInt8) (c r : Nat) (hr : r < 4) : mixAt l (4 * c + r) = mixB (l.getD (4 * c + r) 0) (l.getD (4 * c + (r + 1) % 4) 0) (l.getD (4 * c + (r + 2) % 4) 0) (l.getD (4 * c + (r + 3) % 4) 0) := by
  unfold mixAt
  rw [show (4 * c + r) / 4 = c by omega, show (4 * c + r) % 4 = r by omega]

theorem dblU_nat (a : UInt8) : (dblU a).toNat = dbl a.toNat := by
  have := dbl_lt _ a.toNat_lt
  unfold dblU
  rw [UInt8.toNat_ofNat']
  exact Nat.mod_eq_of_lt this
theorem mix_val (a b c d : UInt8) : bits .xor .u8 ((dbl a.toNat ^^^ dbl b.toNat ^^^ b.toNat : Nat) : Int) ((c.toNat ^^^ d.toNat : Nat) : Int) = ((mixB a b c d).toNat : Int) := by
  have e1 : (dblU a ^^^ (dblU b ^^^ b)).toNat = dbl a.toNat ^^^ dbl b.toNat ^^^ b.toNat := by rw [UInt8.toNat_xor, UInt8.toNat_xor, dblU_nat, dblU_nat, Nat.xor_assoc]
  rw [← e1, ← UInt8.toNat_xor, xor8]
  rfl
theorem below_drawn {B : Nat} {a w : World} (h : Below B a w) (n k : Nat) (v : Value) (hB : B ≤ B := Nat.le_refl _) : Below B a ((w.drewN n).setCell ⟨B, k, none⟩ v) :=
  (show Below B a (w.drewN n) from ⟨h.os, h.tape, h.output, h.size, h.block⟩).setCell hB v

set_option maxRecDepth 100000 in
set_option maxHeartbeats 1000000 in
theorem specMix_yes (s : ByteArray) (w : World) (hs : s.size = 16) :
    Calls Tryz.prog 57 #[.string s] w fun e w' => e = .returned (.string ⟨(mixL s.data.toList).toArray⟩) ∧ Below w.heap.size w w' := by
  obtain ⟨i0, hi, hz0, hz1, hz2⟩ := info_parts infoByte
  go_enter Tryz.func57, Tryz.ntmps57
  go_wp2_with (at_make; refine wpList_make_full _ rfl _ _ 22 rfl w.heap.size 5 i0 (.int .u8 0) 1 Tryz.underlying22 hi hz0 hz1 .i64 .i64 _ _ 16 rfl rfl rfl rfl (by rw [hz2]; omega) (by unfold maxLen; omega) (Nat.le_refl _) ?_; intro w0 hown0 hgrow0)
  have hg0 : Below w.heap.size w w0 := (Below.refl _ _).grown hgrow0 (Nat.le_refl _) (fun k h => by cases h)
  have HO0 := Lib.hid (part_start hown0)
  clear hown0 hgrow0
  go_loopw [4] (fun cv wr => ∃ c : Nat, c ≤ 4 ∧ cv = .int .i64 c ∧ Hid (Bytes wr w.heap.size 5 (.slice (some ⟨w.heap.size, 0, none⟩) 16 16) (partB (mapTo (mixAt s.data.toList) (4 * c)) 16)) ∧ Below w.heap.size w wr)
    (fun cv _ => 4 - (intOf cv).toNat)
  case atStart => exact ⟨0, Nat.zero_le _, rfl, HO0, hg0⟩
  case round =>
    clear HO0 hg0
    obtain ⟨c, hc, rfl, HW, hbel⟩ := hrel
    by_cases hlt : c < 4
    · have hd : decide ((c : Int) < 4) = true := decide_eq_true (by omega)
      go_wp2
      clear hd
      go_loopw [5] (fun rv wq => ∃ r : Nat, r ≤ 4 ∧ rv = .int .i64 r ∧ Hid (Bytes wq w.heap.size 5 (.slice (some ⟨w.heap.size, 0, none⟩) 16 16) (partB (mapTo (mixAt s.data.toList) (4 * c + r)) 16)) ∧ Below w.heap.size w wq)
        (fun rv _ => 4 - (intOf rv).toNat)
      case atStart => exact ⟨0, Nat.zero_le _, rfl, HW, hbel⟩
      case round =>
        clear HW hbel
        obtain ⟨r, hr, rfl, HW, hbel⟩ := hrel
        by_cases hrt : r < 4
        · have hp : 4 * c + r < 16 := by omega
          have q0 : 4 * c + r < s.size := by omega
          have q1 : 4 * c + (r + 1) % 4 < s.size := by omega
          have q2 : 4 * c + (r + 2) % 4 < s.size := by omega
          have q3 : 4 * c + (r + 3) % 4 < s.size := by omega
          have hl := mapTo_length (mixAt s.data.toList) (4 * c + r)
          have hsa := mixAt_place s.data.toList c r hrt
          obtain ⟨⟨v, c3⟩, z3, hB⟩ := part_at HW.out (by omega)
          have N3 := part_next HW.out (mixAt s.data.toList (4 * c + r)) (by omega)
          rw [hl] at c3 z3
          rw [hl, mapTo_next, hsa, ← text_at s _ q0, ← text_at s _ q1, ← text_at s _ q2, ← text_at s _ q3] at N3
          clear hsa hl
          have HN3 := Lib.hid N3
          clear N3
          have hv : ∀ x : UInt8, RowKit.wrap64 (x.toNat : Int) = (x.toNat : Int) := fun x => by have := x.toNat_lt; unfold RowKit.wrap64; omega
          have hx : ∀ a b : UInt8, bits .xor .u8 (a.toNat : Int) (b.toNat : Int) = ((a ^^^ b).toNat : Int) := xor8
          go_wp2
          have w0 : IntKind.i64.wrap (4 * (c : Int)) = 4 * (c : Int) := IntWalk.i64_in _ (by omega)
          have w2 : IntKind.i64.wrap ((r : Int) + 2) = (r : Int) + 2 := IntWalk.i64_in _ (by omega)
          have w3 : IntKind.i64.wrap ((r : Int) + 3) = (r : Int) + 3 := IntWalk.i64_in _ (by omega)
          have t2 : ((r : Int) + 2).tmod 4 = ((r : Int) + 2) % 4 := Int.tmod_eq_emod_of_nonneg (by omega)
          have t3 : ((r : Int) + 3).tmod 4 = ((r : Int) + 3) % 4 := Int.tmod_eq_emod_of_nonneg (by omega)
          have y2 : IntKind.i64.wrap (4 * (c : Int) + ((r : Int) + 2) % 4) = 4 * (c : Int) + ((r : Int) + 2) % 4 := IntWalk.i64_in _ (by omega)
          have y3 : IntKind.i64.wrap (4 * (c : Int) + ((r : Int) + 3) % 4) = 4 * (c : Int) + ((r : Int) + 3) % 4 := IntWalk.i64_in _ (by omega)
          have z2 : (0 : Int) ≤ 4 * (c : Int) + ((r : Int) + 2) % 4 ∧ 4 * (c : Int) + ((r : Int) + 2) % 4 < 16 := by omega
          have z4 : (0 : Int) ≤ 4 * (c : Int) + ((r : Int) + 3) % 4 ∧ 4 * (c : Int) + ((r : Int) + 3) % 4 < 16 := by omega
          have n2 : (4 * (c : Int) + ((r : Int) + 2) % 4).toNat = 4 * c + (r + 2) % 4 := by omega
          have n3 : (4 * (c : Int) + ((r : Int) + 3) % 4).toNat = 4 * c + (r + 3) % 4 := by omega
          go_quiet (fail)
          generalize s[4 * c + r]'q0 = xa at HN3 ⊢
          generalize s[4 * c + (r + 1) % 4]'q1 = xb at HN3 ⊢
          generalize s[4 * c + (r + 2) % 4]'q2 = xc at HN3 ⊢
          generalize s[4 * c + (r + 3) % 4]'q3 = xd at HN3 ⊢
          clear w0 w2 w3 t2 t3 y2 y3 z2 z4 n2 n3
          have d0 := xa.toNat_lt
          have d1 := xb.toNat_lt
          rw [hv xb]
          go_wp2_with fail
          refine (specDouble_yes xa.toNat _ d0).mono ?_
          rintro e w3 ⟨rfl, rfl⟩
          go_wp2_with fail
          refine (specDouble_yes xb.toNat _ d1).mono ?_
          rintro e w4 ⟨rfl, rfl⟩
          have l0 := dbl_lt _ d0
          have l1 := dbl_lt _ d1
          have x1 := xor64 (dbl xa.toNat) (dbl xb.toNat) (by omega) (by omega)
          have l2 := xor_lt l0 l1
          have x2 := xor64 (dbl xa.toNat ^^^ dbl xb.toNat) xb.toNat (by omega) (by omega)
          have l3 := xor_lt l2 d1
          go_wp2
          rw [mix_val]
          go_roundw
          case rel => exact ⟨r + 1, by omega, by go_num, HN3, below_drawn hbel nq _ _⟩
          case measure => (simp [intOf]; try omega)
        · obtain rfl : r = 4 := by omega
          go_wp2
          go_roundw
          case rel => exact ⟨c + 1, by omega, by go_num, HW, hbel⟩
          case measure => (simp [intOf]; try omega)
    · obtain rfl : c = 4 := by omega
      have hl := mapTo_length (mixAt s.data.toList) 16
      have h9 := HW.out
      rw [partB_full _ _ hl] at h9
      have hconv := bytes_string (P := Tryz.prog) 22 9 Tryz.underlying22 Tryz.underlying5 Tryz.underlying9 h9
      clear h9
      go_wp2
      go_ret
      exact ⟨rfl, hbel⟩

set_option maxRecDepth 100000 in
set_option maxHeartbeats 400000 in
theorem specMix_no (s : ByteArray) (w : World) (hs : ¬ s.size = 16) :
    Calls Tryz.prog 57 #[.string s] w fun e w' => e = .returned (.string s) ∧ Below w.heap.size w w' := by
  go_enter Tryz.func57, Tryz.ntmps57
  go_wp2
  go_ret
  exact ⟨rfl, Below.refl _ _⟩
end Go.Proofs.YtgpjklnlchbbbaaGreatDoor
namespace Go.Proofs.YtgpjklnlchbbbaaGreatDoor
open Go.RowKit Go.Proofs.YtgpjklnlchbbbaaGreatDoor.Hexa Go.Proofs.YtgpjklnlchbbbaaGreatDoor.Byt Go.Proofs.YtgpjklnlchbbbaaGreatDoor.Aes

set_option maxRecDepth 100000 in
set_option maxHeartbeats 1000000 in
theorem specBoxed_any (s : ByteArray) (w : World) (hs : s.size ≤ 8000000) :
    Calls Tryz.prog 56 #[.string s, .agg boxCells] w fun e w' => e = .returned (.string ⟨(boxL s.data.toList).toArray⟩) ∧ Below w.heap.size w w' := by
  have kc0 := run_bytes_of_string (P := Tryz.prog) (w.alloc (.cells boxCells 65)) 9 22 5 s Tryz.underlying9 Tryz.underlying22 Tryz.underlying5
  have b0 := bytes_conv (w.alloc (.cells boxCells 65)) 5 s (w.heap.size + 1) (by simp) (by omega)
  have g0 : Below (w.heap.size + 1) (w.alloc (.cells boxCells 65)) ((w.alloc (.cells boxCells 65)).drew.alloc (.cells (bytesRow s (grownCap (w.alloc (.cells boxCells 65)) s.size 0 5)) 5 ((bytesRow s (grownCap (w.alloc (.cells boxCells 65)) s.size 0 5)).size, (bytesRow s (grownCap (w.alloc (.cells boxCells 65)) s.size 0 5)).size + 1))) := below_grown _ (by simp) _
  generalize (w.alloc (.cells boxCells 65)).drew.alloc (.cells (bytesRow s (grownCap (w.alloc (.cells boxCells 65)) s.size 0 5)) 5 ((bytesRow s (grownCap (w.alloc (.cells boxCells 65)) s.size 0 5)).size, (bytesRow s (grownCap (w.alloc (.cells boxCells 65)) s.size 0 5)).size + 1)) = W0 at b0 g0 kc0
  generalize grownCap (w.alloc (.cells boxCells 65)) s.size 0 5 = c0 at b0 kc0
  simp only [World.size_alloc] at b0 kc0
  have hsl : s.data.toList.length = s.size := by simp
  have HB := Lib.hid b0
  have HG := Lib.hid g0
  have HX : Hid ((w.alloc (.cells boxCells 65)).heap[w.heap.size]? = some (.cells boxCells 65 (0, 0))) := Lib.hid (heap_alloc_new w _)
  obtain ⟨n, hn⟩ : ∃ n, s.size = n := ⟨_, rfl⟩
  rw [hn] at hsl kc0 HB hs
  clear b0 g0
  go_enter Tryz.func56, Tryz.ntmps56
  go_wp2
  clear kc0
  go_loopw [6] (fun iv wr => ∃ k : Nat, k ≤ n ∧ iv = .int .i64 k ∧ Hid (Bytes wr (w.heap.size + 1) 5 (.slice (some ⟨w.heap.size + 1, 0, none⟩) n c0) (turnT boxU s.data.toList k)) ∧ Hid (Below (w.heap.size + 1) (w.alloc (.cells boxCells 65)) wr))
    (fun iv _ => n - (intOf iv).toNat)
  case atStart => exact ⟨0, Nat.zero_le _, rfl, Lib.hid (by rw [turnT_zero]; exact HB.out), HG⟩
  case round =>
    clear HB HG
    obtain ⟨k, hk, rfl, HW, HL⟩ := hrel
    have htl := turnT_length boxU s.data.toList k
    by_cases hlt : k < n
    · have hkl : k < s.data.toList.length := by omega
      have h9 := HW.out
      have hln : n = (turnT boxU s.data.toList k).length := by omega
      have h10 : Bytes wr (w.heap.size + 1) 5 (.slice (some ⟨w.heap.size + 1, 0, none⟩) (turnT boxU s.data.toList k).length c0) (turnT boxU s.data.toList k) := by rw [← hln]; exact h9
      obtain ⟨hc, hz, hB⟩ := bytes_at h10 k (by omega)
      have hlk : (turnT boxU s.data.toList k)[k]'(by omega) = s.data.toList[k]'hkl := by
        have h1 := turnT_at boxU s.data.toList k hkl
        rw [List.getElem?_eq_getElem (by omega)] at h1
        exact Option.some.inj h1
      have N1 := bytes_set h10 k (boxU (s.data.toList[k]'hkl))
      rw [turnT_set boxU s.data.toList k hkl, ← hln] at N1
      rw [hlk] at hc
      generalize s.data.toList[k]'hkl = x at hc N1
      have hcb := cell_box (HL.out.block w.heap.size (by omega) ▸ HX.out) x
      have W1 := Lib.hid N1
      have B1 := Lib.hid (HL.out.setCell (p := ⟨w.heap.size + 1, k, none⟩) (Nat.le_refl _) (.int .u8 ((boxU x).toNat : Int)))
      have hbd := x.toNat_lt
      clear N1 h9 h10 hlk hln hkl htl
      go_wp2
      go_roundw
      case rel => exact ⟨k + 1, by omega, by go_num, W1, B1⟩
      case measure => (simp [intOf]; try omega)
    · obtain rfl : k = n := by omega
      have h9 := HW.out
      have hconv := bytes_string (P := Tryz.prog) 22 9 Tryz.underlying22 Tryz.underlying5 Tryz.underlying9 h9
      rw [show turnT boxU s.data.toList k = boxL s.data.toList by rw [← hsl]; exact turnT_all _ _] at hconv
      clear h9
      go_wp2
      go_ret
      exact ⟨rfl, ((Below.refl _ _).alloc (Nat.le_refl _) _).trans (HL.out.mono (by omega))⟩
end Go.Proofs.YtgpjklnlchbbbaaGreatDoor
namespace Go.Proofs.YtgpjklnlchbbbaaGreatDoor
open Go.RowKit Go.Proofs.YtgpjklnlchbbbaaGreatDoor.Hexa Go.Proofs.YtgpjklnlchbbbaaGreatDoor.Byt Go.Proofs.YtgpjklnlchbbbaaGreatDoor.Aes

theorem shiftAt_place (l : List UInt8) (c r : Nat) (hr : r < 4) : shiftAt l (4 * c + r) = l.getD (4 * ((c + r) % 4) + r) 0 := by
  unfold shiftAt
  rw [show (4 * c + r) / 4 = c by omega, show (4 * c + r) % 4 = r by omega]

set_option maxRecDepth 100000 in
set_option maxHeartbeats 1000000 in
theorem specShift_yes (s : ByteArray) (w : World) (hs : s.size = 16) :
    Calls Tryz.prog 55 #[.string s] w fun e w' => e = .returned (.string ⟨(shiftL s.data.toList).toArray⟩) ∧ Below w.heap.size w w' := by
  obtain ⟨i0, hi, hz0, hz1, hz2⟩ := info_parts infoByte
  go_enter Tryz.func55, Tryz.ntmps55
  go_wp2_with (at_make; refine wpList_make_full _ rfl _ _ 22 rfl w.heap.size 5 i0 (.int .u8 0) 1 Tryz.underlying22 hi hz0 hz1 .i64 .i64 _ _ 16 rfl rfl rfl rfl (by rw [hz2]; omega) (by unfold maxLen; omega) (Nat.le_refl _) ?_; intro w0 hown0 hgrow0)
  have hg0 : Below w.heap.size w w0 := (Below.refl _ _).grown hgrow0 (Nat.le_refl _) (fun k h => by cases h)
  have HO0 := Lib.hid (part_start hown0)
  clear hown0 hgrow0
  go_loopw [4] (fun cv wr => ∃ c : Nat, c ≤ 4 ∧ cv = .int .i64 c ∧ Hid (Bytes wr w.heap.size 5 (.slice (some ⟨w.heap.size, 0, none⟩) 16 16) (partB (mapTo (shiftAt s.data.toList) (4 * c)) 16)) ∧ Below w.heap.size w wr)
    (fun cv _ => 4 - (intOf cv).toNat)
  case atStart => exact ⟨0, Nat.zero_le _, rfl, HO0, hg0⟩
  case round =>
    clear HO0 hg0
    obtain ⟨c, hc, rfl, HW, hbel⟩ := hrel
    by_cases hlt : c < 4
    · have hd : decide ((c : Int) < 4) = true := decide_eq_true (by omega)
      go_wp2
      clear hd
      go_loopw [5] (fun rv wq => ∃ r : Nat, r ≤ 4 ∧ rv = .int .i64 r ∧ Hid (Bytes wq w.heap.size 5 (.slice (some ⟨w.heap.size, 0, none⟩) 16 16) (partB (mapTo (shiftAt s.data.toList) (4 * c + r)) 16)) ∧ Below w.heap.size w wq)
        (fun rv _ => 4 - (intOf rv).toNat)
      case atStart => exact ⟨0, Nat.zero_le _, rfl, HW, hbel⟩
      case round =>
        clear HW hbel
        obtain ⟨r, hr, rfl, HW, hbel⟩ := hrel
        by_cases hrt : r < 4
        · have hp : 4 * c + r < 16 := by omega
          have hq : 4 * ((c + r) % 4) + r < s.size := by omega
          have hl := mapTo_length (shiftAt s.data.toList) (4 * c + r)
          have hsa := shiftAt_place s.data.toList c r hrt
          have hta := text_at s (4 * ((c + r) % 4) + r) hq
          obtain ⟨⟨v, c3⟩, z3, hB⟩ := part_at HW.out (by omega)
          have N3 := part_next HW.out (shiftAt s.data.toList (4 * c + r)) (by omega)
          rw [hl] at c3 z3
          rw [hl, mapTo_next, hsa, ← hta] at N3
          have HN3 := Lib.hid N3
          have hb3 : Below w.heap.size w (wr.setCell ⟨w.heap.size, 4 * c + r, none⟩ (.int .u8 ((s[4 * ((c + r) % 4) + r]'hq).toNat : Int))) := hbel.setCell (Nat.le_refl _) _
          clear N3 hta hsa
          go_wp2
          go_roundw
          case rel => exact ⟨r + 1, by omega, by go_num, HN3, hb3⟩
          case measure => (simp [intOf]; try omega)
        · obtain rfl : r = 4 := by omega
          go_wp2
          go_roundw
          case rel => exact ⟨c + 1, by omega, by go_num, HW, hbel⟩
          case measure => (simp [intOf]; try omega)
    · obtain rfl : c = 4 := by omega
      have hl := mapTo_length (shiftAt s.data.toList) 16
      have h9 := HW.out
      rw [partB_full _ _ hl] at h9
      have hconv := bytes_string (P := Tryz.prog) 22 9 Tryz.underlying22 Tryz.underlying5 Tryz.underlying9 h9
      clear h9
      go_wp2
      go_ret
      exact ⟨rfl, hbel⟩

set_option maxRecDepth 100000 in
set_option maxHeartbeats 400000 in
theorem specShift_no (s : ByteArray) (w : World) (hs : ¬ s.size = 16) :
    Calls Tryz.prog 55 #[.string s] w fun e w' => e = .returned (.string s) ∧ Below w.heap.size w w' := by
  go_enter Tryz.func55, Tryz.ntmps55
  go_wp2
  go_ret
  exact ⟨rfl, Below.refl _ _⟩
end Go.Proofs.YtgpjklnlchbbbaaGreatDoor
namespace Go.Proofs.YtgpjklnlchbbbaaGreatDoor
open Go.RowKit Go.Proofs.YtgpjklnlchbbbaaGreatDoor.Hexa Go.Proofs.YtgpjklnlchbbbaaGreatDoor.Byt Go.Proofs.YtgpjklnlchbbbaaGreatDoor.BitsM

set_option maxRecDepth 100000 in
set_option maxHeartbeats 400000 in
theorem range_any (n a b : Int) (w : World) : Calls Tryz.prog 30 #[.int .i64 n, .int .i64 a, .int .i64 b] w fun e w' => e = .returned (.bool (decide (a ≤ n ∧ n ≤ b))) ∧ w' = w := by
  by_cases h1 : a ≤ n <;> by_cases h2 : n ≤ b
  all_goals
    go_enter Tryz.func30, Tryz.ntmps30
    go_wp2
    all_goals go_ret
    all_goals exact ⟨by simp [h1, h2], rfl⟩
theorem range_yes {n a b : Int} (w : World) (h : a ≤ n ∧ n ≤ b) : Calls Tryz.prog 30 #[.int .i64 n, .int .i64 a, .int .i64 b] w fun e w' => e = .returned (.bool true) ∧ w' = w :=
  (range_any n a b w).mono fun _ _ ⟨he, hw⟩ => ⟨by rw [he, decide_eq_true h], hw⟩
theorem range_no {n a b : Int} (w : World) (h : ¬ (a ≤ n ∧ n ≤ b)) : Calls Tryz.prog 30 #[.int .i64 n, .int .i64 a, .int .i64 b] w fun e w' => e = .returned (.bool false) ∧ w' = w :=
  (range_any n a b w).mono fun _ _ ⟨he, hw⟩ => ⟨by rw [he, decide_eq_false h], hw⟩
end Go.Proofs.YtgpjklnlchbbbaaGreatDoor
