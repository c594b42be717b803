/- Merged texts: HexMath, PartsMath, Elem, CellBase, MemMath, CellA, CellB, Bytes, BitsMath, LongMath, RangeSpec, Bk, Drews, MemOkSpec, MemOkImpl, Two, MemWord. -/
import Derived.Laws.BytesArg
import Derived.Laws.IdiomStrings
import Derived.OwnWalk
import Derived.Below
import Derived.Laws.Strings
import Derived.Test.YtkfkjcadmdcbnaaGreatDoorRows
import Derived.WalkKit
import Derived.WalkSpells
import Derived.WalkLawsBesides
import Derived.Lib.Hide
import Derived.Lib.Overlaps
import Derived.Deep.QuietTactic
import Derived.BigQuiet
import Derived.OneCell
import Derived.Deep.RegionHeld3
import Derived.Deep.AppendLies
import Derived.Lib.AppendStr
import Derived.Lib.AppendZerosOnto
import Derived.Laws.CopyRow
import Derived.Laws.Bits64b
import Derived.IntWalk
import Derived.Deep.RegionLaw
import Derived.RowKit3
namespace Go.Proofs.YtkfkjcadmdcbnaaGreatDoor.Hexa


/-- The digit of a number below 16. -/
def nib (n : Nat) : UInt8 := if n < 10 then UInt8.ofNat (48 + n) else UInt8.ofNat (87 + n)
def hexB (c : UInt8) : List UInt8 := [nib (c.toNat / 16), nib (c.toNat % 16)]
def hexL (l : List UInt8) : List UInt8 := l.flatMap hexB

theorem nib_toNat (n : Nat) (h : n < 16) : (nib n).toNat = if n < 10 then 48 + n else 87 + n := by
  unfold nib; split <;> simp <;> omega

theorem hexL_length (l : List UInt8) : (hexL l).length = 2 * l.length := by
  induction l with
  | nil => rfl
  | cons c l ih => simp [hexL, hexB] at *; omega

theorem hexL_snoc (l : List UInt8) (c : UInt8) : hexL (l ++ [c]) = hexL l ++ hexB c := by simp [hexL]

theorem take_snoc (s : ByteArray) (k : Nat) (h : k < s.size) : s.data.toList.take (k + 1) = s.data.toList.take k ++ [s[k]] := by
  rw [List.take_succ_eq_append_getElem (by simpa using h)]; rfl

theorem hexL_take (s : ByteArray) (k : Nat) (h : k < s.size) : hexL (s.data.toList.take (k + 1)) = hexL (s.data.toList.take k) ++ hexB s[k] := by
  rw [take_snoc s k h, hexL_snoc]

theorem hexL_take_length (s : ByteArray) (k : Nat) (h : k ≤ s.size) : (hexL (s.data.toList.take k)).length = 2 * k := by
  have hs : k ≤ s.data.size := h
  rw [hexL_length]; simp; omega

/-- The cells of a row of bytes. -/
def bcells (l : List UInt8) : List Value := l.map fun b => Value.int .u8 b.toNat

/-- 'string(b)' of a slice that the call owns. -/
theorem own_string {P : Program} {w : World} {base e : Nat} {v : Value} {n : Nat} {l : List UInt8} (src dst : TypeId)
    (hs : P.underlying src = some (.slice e)) (he : P.underlying e = some (.int .u8)) (hd : P.underlying dst = some .string)
    (h : w.ownsRow base e 1 v n (bcells l)) : (convert src dst v).run P w = .ok (.string ⟨l.toArray⟩) w := by
  have hl := h.1
  simp [bcells] at hl
  rcases h.2 with ⟨rfl, rfl⟩ | ⟨g, cap, cur, rfl, _, hg, _, _, hcs, htk⟩
  · have : l = [] := by cases l <;> simp_all
    subst this
    exact run_convert_bytes_nil w src e hs he 0 0 dst hd
  · subst hl
    refine run_convert_bytes_back w src dst e _ cap l hs he hd fun j hj => ?_
    have := h.cellAt j (by omega)
    have e : (⟨g, 0, none⟩ : Addr).add j = ⟨g, j, none⟩ := by unfold Addr.add; split <;> simp_all
    rw [e]
    simpa [bcells, hj] using this

theorem own_block_ge {w : World} {base e size : Nat} {v : Value} {n : Nat} {xs : List Value} (h : w.ownsRow base e size v n xs) : ∀ k, v.ownBlock = some k → base ≤ k := by
  intro k hk
  rcases h.2 with ⟨rfl, _⟩ | ⟨g, cap, cur, rfl, hg, _⟩
  · simp [Value.ownBlock] at hk
  · simp [Value.ownBlock] at hk; omega

def figI (x : Int) : Int := (nib x.toNat).toNat

theorem digit_nat : ∀ (n : Fin 16), (((ByteArray.mk #[48, 49, 50, 51, 52, 53, 54, 55, 56, 57, 97, 98, 99, 100, 101, 102])[n.val]'(by show n.val < 16; exact n.isLt)).toNat) = (nib n.val).toNat := by decide

theorem and15_all : ∀ n : Fin 256, bits .and .u8 ((n.val : Nat) : Int) 15 = ((n.val % 16 : Nat) : Int) := by decide +kernel

theorem and15 (b : UInt8) : bits .and .u8 (b.toNat : Int) 15 = (b.toNat : Int) % 16 := by
  have := and15_all ⟨b.toNat, b.toNat_lt⟩
  rw [this]; simp

/-- The digit that the table of the program holds. -/
theorem digit_at (x : Int) (h0 : 0 ≤ x) (h1 : x < 16) (h : x.toNat < (ByteArray.mk #[48, 49, 50, 51, 52, 53, 54, 55, 56, 57, 97, 98, 99, 100, 101, 102]).size) :
    ((((ByteArray.mk #[48, 49, 50, 51, 52, 53, 54, 55, 56, 57, 97, 98, 99, 100, 101, 102])[x.toNat]'h).toNat : Nat) : Int) = figI x := by
  have := digit_nat ⟨x.toNat, by omega⟩
  unfold figI
  rw [← this]

/-- What one round of Hex appends. -/
theorem hex_round (s : ByteArray) (k : Nat) (h : k < s.size) :
    bcells (hexL (s.data.toList.take k)) ++ [.int .u8 (figI (s[k].toNat / 16)), .int .u8 (figI (s[k].toNat % 16))] = bcells (hexL (s.data.toList.take (k + 1))) := by
  have e1 : ((s[k].toNat : Int) / 16).toNat = s[k].toNat / 16 := by omega
  have e2 : ((s[k].toNat : Int) % 16).toNat = s[k].toNat % 16 := by omega
  rw [hexL_take s k h]
  simp [bcells, hexB, figI, e1, e2]

theorem own_length {w : World} {base e : Nat} {v : Value} {n : Nat} {xs : List Value} (h : w.ownsRow base e 1 v n xs) : xs.length = n := by simpa using h.1
end Go.Proofs.YtkfkjcadmdcbnaaGreatDoor.Hexa
namespace Go.Proofs.YtkfkjcadmdcbnaaGreatDoor.Parts
open Go.RowKit

/-- A field is added where the run is not empty. -/
def put (P : List ByteArray) (s : ByteArray) (b i : Nat) : List ByteArray := if b < i then P ++ [s.extract b i] else P

/-- Behind the first i bytes: where the open run begins, and the fields so far. -/
def st (s : ByteArray) : Nat → Nat × List ByteArray
  | 0 => (0, [])
  | i + 1 => if s.data.toList.getD i 0 = 32 then (i + 1, put (st s i).2 s (st s i).1 i) else st s i

theorem st_le (s : ByteArray) : ∀ i, (st s i).1 ≤ i
  | 0 => Nat.le_refl _
  | i + 1 => by
    have := st_le s i
    simp only [st]; split
    · exact Nat.le_refl _
    · omega

theorem put_length (P : List ByteArray) (s : ByteArray) (b i : Nat) : (put P s b i).length ≤ P.length + 1 := by
  unfold put; split <;> simp

theorem st_length (s : ByteArray) : ∀ i, (st s i).2.length ≤ i
  | 0 => Nat.le_refl _
  | i + 1 => by
    have := st_length s i
    have h2 := put_length (st s i).2 s (st s i).1 i
    simp only [st]; split
    · simp only; omega
    · omega

theorem getD_eq (s : ByteArray) (i : Nat) (h : i < s.size) : s.data.toList.getD i 0 = s[i] := by
  have h' : i < s.data.toList.length := by simpa using h
  simp [List.getD, List.getElem?_eq_getElem h']; rfl

theorem st_space (s : ByteArray) (i : Nat) (h : i < s.size) (e : (s[i].toNat : Int) = 32) : st s (i + 1) = (i + 1, put (st s i).2 s (st s i).1 i) := by
  have : s[i] = 32 := by apply UInt8.toNat_inj.1; simp; omega
  simp only [st]; rw [if_pos (by rw [getD_eq s i h, this])]
theorem st_other (s : ByteArray) (i : Nat) (h : i < s.size) (e : (s[i].toNat : Int) ≠ 32) : st s (i + 1) = st s i := by
  have : s[i] ≠ 32 := fun h => e (by rw [h]; rfl)
  simp only [st]; rw [if_neg (by rw [getD_eq s i h]; exact this)]

/-- Every byte up to place n may stand in a line. -/
def okTo (s : ByteArray) (n : Nat) : Prop := ∀ j (h : j < s.size), j < n → (32 : Int) ≤ s[j].toNat ∧ (s[j].toNat : Int) ≤ 126

theorem okTo_step {s : ByteArray} {i : Nat} (g : okTo s i) (h : i < s.size) (h1 : (32 : Int) ≤ s[i].toNat) (h2 : (s[i].toNat : Int) ≤ 126) : okTo s (i + 1) := by
  intro j hj hi
  by_cases e : j < i
  · exact g j hj e
  · have : j = i := by omega
    subst this; exact ⟨h1, h2⟩

def fin (s : ByteArray) : List ByteArray := put (st s s.size).2 s (st s s.size).1 s.size

open Classical in
/-- What PartsOf returns for a line of at most 600 bytes. -/
noncomputable def parts (s : ByteArray) : List ByteArray := if okTo s s.size ∧ (fin s).length ≤ 12 then fin s else []
open Classical in
noncomputable def partsOk (s : ByteArray) : Bool := if okTo s s.size ∧ (fin s).length ≤ 12 then true else false

theorem parts_yes {s : ByteArray} (h : okTo s s.size) (h2 : (fin s).length ≤ 12) : parts s = fin s ∧ partsOk s = true := by simp [parts, partsOk, h, h2]
theorem parts_many {s : ByteArray} (h2 : 12 < (fin s).length) : parts s = [] ∧ partsOk s = false := by
  have : ¬ (fin s).length ≤ 12 := by omega
  simp [parts, partsOk, this]
theorem parts_bad {s : ByteArray} (i : Nat) (h : i < s.size) (hb : (s[i].toNat : Int) < 32 ∨ (126 : Int) < s[i].toNat) : parts s = [] ∧ partsOk s = false := by
  have : ¬ okTo s s.size := fun g => by have := g i h h; omega
  simp [parts, partsOk, this]
theorem parts_le (s : ByteArray) : (parts s).length ≤ 12 := by
  unfold parts; split
  · rename_i h; exact h.2
  · simp

/-- What one more space, or the end of the line, makes of the fields. -/
theorem put_yes {P : List ByteArray} {s : ByteArray} {b i : Nat} (h : b < i) : put P s b i = P ++ [s.extract b i] := by unfold put; rw [if_pos h]
theorem put_no {P : List ByteArray} {s : ByteArray} {b i : Nat} (h : ¬ b < i) : put P s b i = P := by unfold put; rw [if_neg h]

/-- The relation behind a space at place i. -/
theorem rel_space {s : ByteArray} {i b : Nat} {P : List ByteArray} (h : i < s.size) (e : (s[i].toNat : Int) = 32) (H1 : i ≤ s.size → b = (st s i).1 ∧ P = (st s i).2) :
    (i + 1 ≤ s.size → i + 1 = (st s (i + 1)).1 ∧ put P s b i = (st s (i + 1)).2) ∧ (s.size < i + 1 → put P s b i = fin s) := by
  obtain ⟨rfl, rfl⟩ := H1 (by omega)
  rw [st_space s i h e]
  exact ⟨fun _ => ⟨rfl, rfl⟩, fun _ => by omega⟩
/-- The relation behind the end. -/
theorem rel_end {s : ByteArray} {b : Nat} {P : List ByteArray} (H1 : s.size ≤ s.size → b = (st s s.size).1 ∧ P = (st s s.size).2) :
    (s.size + 1 ≤ s.size → s.size + 1 = (st s (s.size + 1)).1 ∧ put P s b s.size = (st s (s.size + 1)).2) ∧ (s.size < s.size + 1 → put P s b s.size = fin s) := by
  obtain ⟨rfl, rfl⟩ := H1 (Nat.le_refl _)
  exact ⟨fun h => by omega, fun _ => rfl⟩
/-- The relation behind another byte. -/
theorem rel_other {s : ByteArray} {i b : Nat} {P : List ByteArray} (h : i < s.size) (e : (s[i].toNat : Int) ≠ 32) (H1 : i ≤ s.size → b = (st s i).1 ∧ P = (st s i).2) :
    (i + 1 ≤ s.size → b = (st s (i + 1)).1 ∧ P = (st s (i + 1)).2) ∧ (s.size < i + 1 → P = fin s) := by
  rw [st_other s i h e]
  exact ⟨fun _ => H1 (by omega), fun _ => by omega⟩
theorem okTo_end {s : ByteArray} (h : okTo s s.size) : okTo s (s.size + 1) := fun j hj _ => h j hj hj

theorem ext_size (s : ByteArray) (b i : Nat) : (s.extract b i).size ≤ s.size := by simp [ByteArray.size_extract]; omega

/-- The fields with one more run, if it is not empty. -/
def addRun (P : List ByteArray) (r : ByteArray) : List ByteArray := if r.toList.isEmpty then P else P ++ [r]
theorem isEmpty_iff (r : ByteArray) : r.toList.isEmpty = true ↔ r.size = 0 := by
  rw [List.isEmpty_iff, ← List.length_eq_zero_iff, ByteArray.toList_eq]; simp
theorem addRun_eq (P : List ByteArray) (s : ByteArray) (b i : Nat) (h : i ≤ s.size) : addRun P (s.extract b i) = put P s b i := by
  unfold addRun put
  by_cases hb : b < i
  · rw [if_pos hb, if_neg]
    rw [isEmpty_iff, ByteArray.size_extract]; omega
  · rw [if_neg hb, if_pos]
    rw [isEmpty_iff, ByteArray.size_extract]; omega

def scells (P : List ByteArray) : List Value := P.map Value.string

theorem own_below {B : Nat} {e : TypeId} {k : Nat} {v : Value} {n : Nat} {xs : List Value} {w w' : World} (h : w.ownsRow B e k v n xs) (hb : Below w.heap.size w w') : w'.ownsRow B e k v n xs := by
  obtain ⟨h1, h2⟩ := h
  refine ⟨h1, ?_⟩
  rcases h2 with h2 | ⟨g, cap, cur, hv, hg, hh, r⟩
  · exact Or.inl h2
  · have hlt : g < w.heap.size := (Array.getElem?_eq_some_iff.1 hh).1
    exact Or.inr ⟨g, cap, cur, hv, hg, by rw [hb.block g hlt]; exact hh, r⟩

/-- The slice at the address reads as these texts. -/
def Reads (w : World) (ad : Option Addr) (xs : List Value) : Prop := ∀ j, j < xs.length → ∃ g, ad = some ⟨g, 0, none⟩ ∧ w.cell? ⟨g, j, none⟩ = xs[j]?

theorem own_form {w : World} {base e : Nat} {v : Value} {n : Nat} {xs : List Value} (h : w.ownsRow base e 1 v n xs) : ∃ ad cap, v = .slice ad n cap ∧ cap ≤ maxLen ∧ n ≤ cap ∧ Reads w ad xs := by
  have hl : xs.length = n := by simpa using h.1
  rcases h.2 with ⟨rfl, rfl⟩ | ⟨g, cap, cur, rfl, hg, hh, hn, hc, _⟩
  · refine ⟨none, 0, rfl, by decide, Nat.le_refl _, fun j hj => ?_⟩
    omega
  · exact ⟨_, cap, rfl, hc, hn, fun j hj => ⟨g, rfl, h.cellAt j (by omega)⟩⟩

theorem own_reads {w : World} {base e : Nat} {ad : Option Addr} {n cap : Nat} {xs : List Value} (h : w.ownsRow base e 1 (.slice ad n cap) n xs) : Reads w ad xs := by
  obtain ⟨ad', cap', hv, _, _, hr⟩ := own_form h
  simp at hv
  obtain ⟨rfl, _⟩ := hv
  exact hr

/-- The decimal digits of a number; none for 0. -/
def digs (k : Nat) : List UInt8 := if _h : k = 0 then [] else digs (k / 10) ++ [UInt8.ofNat (48 + k % 10)]
termination_by k
decreasing_by omega

theorem digs_zero : digs 0 = [] := by rw [digs]; simp
theorem digs_step (k : Nat) (h : 0 < k) : digs k = digs (k / 10) ++ [UInt8.ofNat (48 + k % 10)] := by rw [digs]; simp; omega
theorem digs_len (k : Nat) : (digs k).length ≤ k := by
  induction k using Nat.strongRecOn with
  | _ k ih =>
    by_cases h : k = 0
    · subst h; rw [digs_zero]; simp
    · rw [digs_step k (by omega)]
      have := ih (k / 10) (by omega)
      simp; omega
def markT (k : Nat) : ByteArray := ⟨(109 :: digs k).toArray⟩

theorem one_byte (c : UInt8) : ∃ cs : ByteArray, cs.size = 1 ∧ cs.data.toList = [c] ∧ cs = ⟨[c].toArray⟩ := ⟨⟨[c].toArray⟩, rfl, rfl, rfl⟩
theorem data_append (a b : ByteArray) : (a ++ b).data.toList = a.data.toList ++ b.data.toList := by simp
theorem digs_round {k j : Nat} {t cs : ByteArray} (hj : 0 < j) (h : digs j ++ t.data.toList = digs k) (hc : cs.data.toList = [UInt8.ofNat (48 + j % 10)]) : digs (j / 10) ++ (cs ++ t).data.toList = digs k := by
  rw [data_append, hc, ← h, digs_step j hj, List.append_assoc]
theorem digs_size {k j : Nat} {t : ByteArray} (h : digs j ++ t.data.toList = digs k) : t.size ≤ k := by
  have := digs_len k
  rw [← h, List.length_append] at this
  simp at this; omega
theorem mark_end {k : Nat} {t : ByteArray} (h : digs 0 ++ t.data.toList = digs k) : (⟨#[109]⟩ : ByteArray) ++ t = markT k := by
  rw [digs_zero, List.nil_append] at h
  apply ByteArray.ext
  apply Array.toList_inj.1
  rw [data_append, h]; rfl
end Go.Proofs.YtkfkjcadmdcbnaaGreatDoor.Parts
namespace Go.Proofs.YtkfkjcadmdcbnaaGreatDoor
open Go.RowKit Go.Proofs.YtkfkjcadmdcbnaaGreatDoor.Parts Go.Proofs.YtkfkjcadmdcbnaaGreatDoor.Hexa

/-- How an element lies in its cells. -/
structure Enc (α : Type) where
  k : Nat
  cells : α → List Value
  len : ∀ x, (cells x).length = k

def cellsE {α : Type} (E : Enc α) : List α → List Value
  | [] => []
  | x :: r => E.cells x ++ cellsE E r
theorem cellsE_length {α : Type} (E : Enc α) : ∀ L : List α, (cellsE E L).length = L.length * E.k
  | [] => by simp [cellsE]
  | x :: r => by simp [cellsE, E.len, cellsE_length E r, Nat.add_mul]; omega
theorem cellsE_append {α : Type} (E : Enc α) : ∀ L M : List α, cellsE E (L ++ M) = cellsE E L ++ cellsE E M
  | [], M => rfl
  | x :: r, M => by simp [cellsE, cellsE_append E r M]
theorem cellsE_one {α : Type} (E : Enc α) (x : α) : cellsE E [x] = E.cells x := by simp [cellsE]
theorem cellsE_at {α : Type} [Inhabited α] (E : Enc α) : ∀ (L : List α) (j o : Nat), j < L.length → o < E.k → (cellsE E L)[j * E.k + o]? = (E.cells (L.getD j default))[o]?
  | x :: r, 0, o, _, ho => by
    rw [cellsE, Nat.zero_mul, Nat.zero_add, List.getElem?_append_left (by rw [E.len]; exact ho)]; rfl
  | x :: r, j + 1, o, h, ho => by
    rw [cellsE, List.getElem?_append_right (by rw [E.len, Nat.add_mul]; omega), E.len, show (j + 1) * E.k + o - E.k = j * E.k + o by rw [Nat.add_mul]; omega]
    exact cellsE_at E r j o (by simpa using h) ho
theorem cellsE_take {α : Type} (E : Enc α) : ∀ (L : List α) (j : Nat), (cellsE E L).take (j * E.k) = cellsE E (L.take j)
  | [], j => by simp [cellsE]
  | x :: r, 0 => by simp [cellsE]
  | x :: r, j + 1 => by
    rw [cellsE, List.take_append, List.take_of_length_le (by rw [E.len, Nat.add_mul]; omega), E.len, show (j + 1) * E.k - E.k = j * E.k by rw [Nat.add_mul]; omega, cellsE_take E r j]
    rfl
theorem cellsE_drop {α : Type} (E : Enc α) : ∀ (L : List α) (j : Nat), (cellsE E L).drop (j * E.k) = cellsE E (L.drop j)
  | [], j => by simp [cellsE]
  | x :: r, 0 => by simp [cellsE]
  | x :: r, j + 1 => by
    rw [cellsE, List.drop_append, List.drop_of_length_le (by rw [E.len, Nat.add_mul]; omega), E.len, show (j + 1) * E.k - E.k = j * E.k by rw [Nat.add_mul]; omega, cellsE_drop E r j]
    rfl

/-- Cells written one behind the other. -/
def setsL : List Value → Nat → List Value → List Value
  | xs, _, [] => xs
  | xs, o, v :: r => setsL (xs.set o v) (o + 1) r
theorem setsL_length : ∀ (vs xs : List Value) (o : Nat), (setsL xs o vs).length = xs.length
  | [], xs, o => rfl
  | v :: r, xs, o => by rw [setsL, setsL_length r]; simp
theorem setsL_out : ∀ (vs xs : List Value) (o j : Nat), (j < o ∨ o + vs.length ≤ j) → (setsL xs o vs)[j]? = xs[j]?
  | [], xs, o, j, _ => rfl
  | v :: r, xs, o, j, h => by
    simp only [List.length_cons] at h
    rw [setsL, setsL_out r _ _ _ (by omega), List.getElem?_set_ne (by omega)]
theorem setsL_in : ∀ (vs xs : List Value) (o j : Nat), j < vs.length → o + vs.length ≤ xs.length → (setsL xs o vs)[o + j]? = vs[j]?
  | v :: r, xs, o, 0, _, h => by
    simp only [List.length_cons] at h
    rw [setsL, setsL_out r _ _ _ (by omega)]
    show (xs.set o v)[o]? = some v
    rw [List.getElem?_set_self (by omega)]
  | v :: r, xs, o, j + 1, hj, h => by
    simp only [List.length_cons] at h hj
    rw [setsL, show o + (j + 1) = (o + 1) + j by omega, setsL_in r _ _ j (by omega) (by simp; omega)]
    rfl
/-- The first elements are right; one more is written. -/
theorem cellsE_step {α : Type} [Inhabited α] (E : Enc α) {L : List α} {xs : List Value} {k : Nat} (hk : k < L.length) (hl : xs.length = L.length * E.k) (h : ∀ j, j < k * E.k → xs[j]? = (cellsE E L)[j]?) :
    ∀ j, j < (k + 1) * E.k → (setsL xs (k * E.k) (E.cells (L.getD k default)))[j]? = (cellsE E L)[j]? := by
  intro j hj
  have hm : (k + 1) * E.k ≤ L.length * E.k := Nat.mul_le_mul_right _ hk
  rw [Nat.add_mul] at hj hm
  by_cases h0 : j < k * E.k
  · rw [setsL_out _ _ _ _ (.inl h0)]; exact h j h0
  · obtain ⟨o, rfl⟩ : ∃ o, j = k * E.k + o := ⟨j - k * E.k, by omega⟩
    rw [setsL_in _ _ _ _ (by rw [E.len]; omega) (by rw [E.len]; omega), cellsE_at E L k o hk (by omega)]
theorem cellsE_all {α : Type} (E : Enc α) {L : List α} {xs : List Value} (hl : xs.length = L.length * E.k) (h : ∀ j, j < L.length * E.k → xs[j]? = (cellsE E L)[j]?) : xs = cellsE E L := by
  apply List.ext_getElem?
  intro j
  by_cases hj : j < L.length * E.k
  · exact h j hj
  · rw [List.getElem?_eq_none (by omega), List.getElem?_eq_none (by rw [cellsE_length]; omega)]
theorem getD_set {α : Type} [Inhabited α] (L : List α) (k j : Nat) (x : α) (hk : k < L.length) : (L.set k x).getD j default = if j = k then x else L.getD j default := by
  by_cases h : j = k
  · subst h; simp [List.getD, hk]
  · rw [if_neg h]; simp only [List.getD]; rw [List.getElem?_set_ne (fun e => h e.symm)]
/-- One element is written over another. -/
theorem cellsE_set {α : Type} [Inhabited α] (E : Enc α) (L : List α) (k : Nat) (x : α) (hk : k < L.length) : setsL (cellsE E L) (k * E.k) (E.cells x) = cellsE E (L.set k x) := by
  have hm : (k + 1) * E.k ≤ L.length * E.k := Nat.mul_le_mul_right _ hk
  rw [Nat.add_mul] at hm
  refine cellsE_all E (by rw [setsL_length, cellsE_length]; simp) (fun j hj => ?_)
  simp only [List.length_set] at hj
  by_cases hj0 : k * E.k ≤ j ∧ j < k * E.k + E.k
  · obtain ⟨o, rfl⟩ : ∃ o, j = k * E.k + o := ⟨j - k * E.k, by omega⟩
    rw [setsL_in _ _ _ _ (by rw [E.len]; omega) (by rw [E.len, cellsE_length]; omega), cellsE_at E _ k o (by simpa using hk) (by omega), getD_set _ _ _ _ hk, if_pos rfl]
  · rw [setsL_out _ _ _ _ (by rw [E.len]; omega)]
    have hk0 : 0 < E.k := by
      rcases Nat.eq_zero_or_pos E.k with h | h
      · rw [h] at hj; omega
      · exact h
    have hd : j = j / E.k * E.k + j % E.k := by rw [Nat.mul_comm]; exact (Nat.div_add_mod j E.k).symm
    have hq : j / E.k < L.length := (Nat.div_lt_iff_lt_mul hk0).2 hj
    have hne : j / E.k ≠ k := fun e => by
      rw [e] at hd
      have := Nat.mod_lt j hk0
      omega
    rw [hd, cellsE_at E _ _ _ hq (Nat.mod_lt _ hk0), cellsE_at E _ _ _ (by simpa using hq) (Nat.mod_lt _ hk0), getD_set _ _ _ _ hk, if_neg hne]

/-- A slice of elements that can be read. -/
structure SrcE {α : Type} [Inhabited α] (E : Enc α) (w : World) (a : Option Addr) (n : Nat) (L : List α) : Prop where
  len : L.length = n
  cell : ∀ j, j < n → ∃ g off, a = some ⟨g, off, none⟩ ∧ g < w.heap.size ∧ ∀ o v, (E.cells (L.getD j default))[o]? = some v → w.cell? ⟨g, off + j * E.k + o, none⟩ = some v
theorem SrcE.below {α : Type} [Inhabited α] {E : Enc α} {w w' : World} {a : Option Addr} {n : Nat} {L : List α} {B : Nat} (h : SrcE E w a n L) (hb : Below B w w') (hB : w.heap.size ≤ B) : SrcE E w' a n L :=
  ⟨h.len, fun j hj => by
    obtain ⟨g, off, e, hg, c⟩ := h.cell j hj
    exact ⟨g, off, e, Nat.lt_of_lt_of_le hg hb.size, fun o v hv => by rw [hb.cell (p := ⟨g, off + j * E.k + o, none⟩) (Nat.lt_of_lt_of_le hg hB)]; exact c o v hv⟩⟩
theorem SrcE.later {α : Type} [Inhabited α] {E : Enc α} {w w' : World} {a : Option Addr} {n : Nat} {L : List α} (h : SrcE E w a n L) (hb : Below w.heap.size w w') : SrcE E w' a n L := h.below hb (Nat.le_refl _)
theorem SrcE.drew {α : Type} [Inhabited α] {E : Enc α} {w : World} {a : Option Addr} {n : Nat} {L : List α} (h : SrcE E w a n L) : SrcE E w.drew a n L := ⟨h.len, h.cell⟩
theorem SrcE.nil {α : Type} [Inhabited α] (E : Enc α) (w : World) (a : Option Addr) : SrcE E w a 0 [] := ⟨rfl, fun j hj => by omega⟩

theorem ownE_lt {w : World} {B e k g n cap : Nat} {xs : List Value} (h : w.ownsRow B e k (.slice (some ⟨g, 0, none⟩) n cap) n xs) : g < w.heap.size := (h.lt g rfl).2
/-- A slice that the call owns, as one that can be read. -/
theorem srcE_of_own {α : Type} [Inhabited α] {E : Enc α} {w : World} {B e n cap : Nat} {a : Option Addr} {L : List α} (h : w.ownsRow B e E.k (.slice a n cap) n (cellsE E L)) (hk0 : 0 < E.k) : SrcE E w a n L := by
  have hl : L.length = n := by have h1 := h.1; rw [cellsE_length] at h1; exact Nat.eq_of_mul_eq_mul_right hk0 h1
  refine ⟨hl, fun j hj => ?_⟩
  rcases h.2 with ⟨h', h0⟩ | ⟨g', cap', cur, h', _, hg, _⟩
  · omega
  · simp only [Value.slice.injEq] at h'
    obtain ⟨rfl, _, rfl⟩ := h'
    refine ⟨g', 0, rfl, ownE_lt h, fun o v hv => ?_⟩
    have ho : o < E.k := by
      rcases Nat.lt_or_ge o E.k with h | h
      · exact h
      · rw [List.getElem?_eq_none (by rw [E.len]; exact h)] at hv; cases hv
    have hm : (j + 1) * E.k ≤ n * E.k := Nat.mul_le_mul_right _ hj
    rw [Nat.add_mul] at hm
    rw [Nat.zero_add, h.cellAt _ (by omega), cellsE_at E L j o (by omega) ho]
    exact hv
theorem ownE_mono {w : World} {B B' e k n : Nat} {v : Value} {xs : List Value} (h : w.ownsRow B e k v n xs) (hb : B' ≤ B) : w.ownsRow B' e k v n xs :=
  ⟨h.1, h.2.imp id fun ⟨g, cap, cur, hv, hg, r⟩ => ⟨g, cap, cur, hv, Nat.le_trans hb hg, r⟩⟩
/-- The form of what the call owns. -/
theorem ownE_form {w : World} {B e k n : Nat} {v : Value} {xs : List Value} (h : w.ownsRow B e k v n xs) : ∃ a cap, v = .slice a n cap ∧ n ≤ cap ∧ cap ≤ maxLen ∧ (∀ p, a = some p → ∃ g, p = ⟨g, 0, none⟩ ∧ B ≤ g ∧ g < w.heap.size) := by
  rcases h.2 with ⟨rfl, rfl⟩ | ⟨g', cap', cur, rfl, hB, hg, hn, hc, _⟩
  · exact ⟨none, 0, rfl, Nat.le_refl _, by decide, fun p hp => by cases hp⟩
  · exact ⟨_, _, rfl, hn, hc, fun p hp => by cases hp; exact ⟨g', rfl, hB, lt_of_block hg⟩⟩
/-- Cells of the call's own row written. -/
theorem own_sets {B e k g n cap : Nat} : ∀ (vs : List Value) {w : World} {xs : List Value} (o : Nat), w.ownsRow B e k (.slice (some ⟨g, 0, none⟩) n cap) n xs → (w.setCells g o vs).ownsRow B e k (.slice (some ⟨g, 0, none⟩) n cap) n (setsL xs o vs)
  | [], _, _, _, h => h
  | v :: r, _, _, o, h => own_sets r (o + 1) (h.stored o v).1
theorem below_sets {B g : Nat} (hg : B ≤ g) : ∀ (vs : List Value) {w w' : World} (o : Nat), Below B w w' → Below B w (w'.setCells g o vs)
  | [], _, _, _, h => h
  | v :: r, _, _, o, h => below_sets hg r (o + 1) (h.setCell (p := ⟨g, o, none⟩) hg v)
theorem ownE_cell {w : World} {B e k g n cap : Nat} {xs : List Value} (h : w.ownsRow B e k (.slice (some ⟨g, 0, none⟩) n cap) n xs) {j : Nat} (hj : j < n * k) : ∃ v, w.cell? ⟨g, j, none⟩ = some v := by
  rw [h.cellAt j hj]
  exact ⟨xs[j]'(by rw [h.1]; exact hj), List.getElem?_eq_getElem _⟩

/-- No block is written but one; what was there stays. -/
structure ButE (B : Nat) (w w' : World) : Prop where
  size : w.heap.size ≤ w'.heap.size
  block : ∀ g, g ≠ B → g < w.heap.size → w'.heap[g]? = w.heap[g]?
theorem ButE.refl (B : Nat) (w : World) : ButE B w w := ⟨Nat.le_refl _, fun _ _ _ => rfl⟩
theorem ButE.then_below {B : Nat} {w w1 w2 : World} (h : ButE B w w1) (hb : Below w1.heap.size w1 w2) : ButE B w w2 :=
  ⟨Nat.le_trans h.size hb.size, fun g h1 h2 => by rw [hb.block g (Nat.lt_of_lt_of_le h2 h.size)]; exact h.block g h1 h2⟩
theorem ButE.then_set {B : Nat} {w w1 : World} (h : ButE B w w1) (o : Nat) (v : Value) : ButE B w (w1.setCell ⟨B, o, none⟩ v) :=
  ⟨Nat.le_trans h.size (by simp), fun g h1 h2 => by rw [Below.heap_setCell _ _ _ _ (by simpa using h1)]; exact h.block g h1 h2⟩
theorem ButE.drew {B : Nat} {w w1 : World} (h : ButE B w w1) : ButE B w w1.drew := ⟨h.size, h.block⟩
/-- What lies elsewhere stays. -/
theorem ownE_but {w w' : World} {M B e k : Nat} {v : Value} {n : Nat} {xs : List Value} (h : w.ownsRow B e k v n xs) (hb : ButE M w w') (hne : ∀ g, v.ownBlock = some g → g ≠ M) : w'.ownsRow B e k v n xs := by
  refine ⟨h.1, h.2.imp id fun ⟨g, cap, cur, hv, hg, hh, r⟩ => ⟨g, cap, cur, hv, hg, ?_, r⟩⟩
  rw [hb.block g (hne g (by rw [hv]; rfl)) (Array.getElem?_eq_some_iff.1 hh).1]; exact hh
theorem ownE_left {w w' : World} {M B e k : Nat} {v : Value} {n : Nat} {xs : List Value} (h : w.ownsRow B e k v n xs) (hb : Below M w w') (hne : ∀ g, v.ownBlock = some g → g < M) : w'.ownsRow B e k v n xs := by
  refine ⟨h.1, h.2.imp id fun ⟨g, cap, cur, hv, hg, hh, r⟩ => ⟨g, cap, cur, hv, hg, ?_, r⟩⟩
  rw [hb.block g (hne g (by rw [hv]; rfl))]; exact hh
theorem SrcE.but {α : Type} [Inhabited α] {E : Enc α} {w w' : World} {a : Option Addr} {n : Nat} {L : List α} {B : Nat} (h : SrcE E w a n L) (hb : ButE B w w') (hB : ∀ p, a = some p → p.block ≠ B) : SrcE E w' a n L :=
  ⟨h.len, fun j hj => by
    obtain ⟨g, off, e, hg, c⟩ := h.cell j hj
    refine ⟨g, off, e, Nat.lt_of_lt_of_le hg hb.size, fun o v hv => ?_⟩
    rw [← c o v hv]
    exact World.cell?_of_block (w := w) (hb.block g (hB _ e) hg)⟩
end Go.Proofs.YtkfkjcadmdcbnaaGreatDoor
namespace Go.Proofs.YtkfkjcadmdcbnaaGreatDoor
open Go.RowKit Go.Proofs.YtkfkjcadmdcbnaaGreatDoor.Parts Go.Proofs.YtkfkjcadmdcbnaaGreatDoor.Hexa

structure C3 where
  l : Int
  t : ByteArray
  f : Bool
instance : Inhabited C3 := ⟨⟨0, ByteArray.empty, false⟩⟩
def C3.val (s : C3) : Value := .agg #[.int .i64 s.l, .string s.t, .bool s.f]
def encC : Enc C3 := ⟨3, fun s => [.int .i64 s.l, .string s.t, .bool s.f], fun _ => rfl⟩
theorem encC_k : encC.k = 3 := rfl
theorem encC_cells (s : C3) : encC.cells s = [.int .i64 s.l, .string s.t, .bool s.f] := rfl
theorem encC_one (s : C3) : ∀ v ∈ encC.cells s, v.oneCell' = true := by
  intro v hv
  rw [encC_cells] at hv
  simp only [List.mem_cons, List.not_mem_nil, or_false] at hv
  rcases hv with rfl | rfl | rfl <;> rfl
theorem cellsC_one : ∀ L : List C3, ∀ v ∈ cellsE encC L, v.oneCell' = true
  | [], v, hv => by cases hv
  | x :: r, v, hv => by
    rw [cellsE, List.mem_append] at hv
    rcases hv with h | h
    · exact encC_one x v h
    · exact cellsC_one r v h
theorem cellsC_length (L : List C3) : (cellsE encC L).length = L.length * 3 := cellsE_length encC L
abbrev SrcC (w : World) (a : Option Addr) (n : Nat) (L : List C3) : Prop := SrcE encC w a n L
theorem SrcE.cells3 {w : World} {a : Option Addr} {n : Nat} {L : List C3} (h : SrcC w a n L) (j : Nat) (hj : j < n) : ∃ g off, a = some ⟨g, off, none⟩ ∧ g < w.heap.size ∧ w.cell? ⟨g, off + j * 3, none⟩ = some (.int .i64 (L.getD j default).l) ∧
    w.cell? ⟨g, off + j * 3 + 1, none⟩ = some (.string (L.getD j default).t) ∧ w.cell? ⟨g, off + j * 3 + 2, none⟩ = some (.bool (L.getD j default).f) := by
  obtain ⟨g, off, e, hg, c⟩ := h.cell j hj
  exact ⟨g, off, e, hg, c 0 _ rfl, c 1 _ rfl, c 2 _ rfl⟩
/-- The same at a later world. -/
theorem SrcE.cells3_at {w w' : World} {a : Option Addr} {n : Nat} {L : List C3} {B : Nat} (h : SrcC w a n L) (hb : Below B w w') (hB : w.heap.size ≤ B) (j : Nat) (hj : j < n) : ∃ g off, a = some ⟨g, off, none⟩ ∧ g < w.heap.size ∧ w'.cell? ⟨g, off + j * 3, none⟩ = some (.int .i64 (L.getD j default).l) ∧
    w'.cell? ⟨g, off + j * 3 + 1, none⟩ = some (.string (L.getD j default).t) ∧ w'.cell? ⟨g, off + j * 3 + 2, none⟩ = some (.bool (L.getD j default).f) := by
  obtain ⟨g, off, e, hg, _⟩ := h.cell j hj
  obtain ⟨g', off', e', _, c1, c2, c3⟩ := (h.below hb hB).cells3 j hj
  rw [e] at e'
  cases e'
  exact ⟨g, off, e, hg, c1, c2, c3⟩
theorem srcC_of_own {w : World} {B e n cap : Nat} {a : Option Addr} {L : List C3} (h : w.ownsRow B e 3 (.slice a n cap) n (cellsE encC L)) : SrcC w a n L := srcE_of_own (E := encC) h (by decide)

theorem infoCell : (Tryz.prog.info? 135).map (fun i => (i.zero, i.size, i.bytes)) = some (some (.agg #[.int .i64 0, .string ByteArray.empty, .bool false]), 3, 32) := by kernel_rfl
end Go.Proofs.YtkfkjcadmdcbnaaGreatDoor
namespace Go.Proofs.YtkfkjcadmdcbnaaGreatDoor
open Go.RowKit Go.Proofs.YtkfkjcadmdcbnaaGreatDoor.Parts Go.Proofs.YtkfkjcadmdcbnaaGreatDoor.Hexa

/-- Cell j is right behind those before it. -/
def CellOk (K : ByteArray) (L : List C3) (j : Nat) : Prop :=
  0 ≤ (L.getD j default).l ∧ (L.getD j default).l < (K.size / 16 : Nat) ∧ (L.getD j default).t.size = 16 ∧ (0 < j → (L.getD (j - 1) default).l < (L.getD j default).l)
def MemOk (K : ByteArray) (L : List C3) : Prop := K.size % 16 = 0 ∧ K.size ≤ 16000 ∧ ∀ j, j < L.length → CellOk K L j
noncomputable def memOkB (K : ByteArray) (L : List C3) : Bool := @decide (MemOk K L) (Classical.propDecidable _)
theorem memOkB_yes {K : ByteArray} {L : List C3} (h : MemOk K L) : memOkB K L = true := by unfold memOkB; exact @decide_eq_true _ (Classical.propDecidable _) h
theorem memOkB_no {K : ByteArray} {L : List C3} (h : ¬ MemOk K L) : memOkB K L = false := by unfold memOkB; exact @decide_eq_false _ (Classical.propDecidable _) h
theorem memOkB_iff {K : ByteArray} {L : List C3} : memOkB K L = true ↔ MemOk K L := by
  by_cases h : MemOk K L
  · simp [memOkB_yes h, h]
  · simp [memOkB_no h, h]
/-- The lines ascend. -/
theorem MemOk.asc {K : ByteArray} {L : List C3} (h : MemOk K L) : ∀ {i j : Nat}, i < j → j < L.length → (L.getD i default).l < (L.getD j default).l := by
  intro i j
  induction j with
  | zero => intro hi _; omega
  | succ j ih =>
    intro hi hj
    have h1 := (h.2.2 (j + 1) hj).2.2.2 (by omega)
    simp only [Nat.add_sub_cancel] at h1
    by_cases e : i = j
    · subst e; exact h1
    · exact Int.lt_trans (ih (by omega) (by omega)) h1

/-- The first cell of a line. -/
def cellIdx : List C3 → Int → Option Nat
  | [], _ => none
  | c :: r, l => if c.l = l then some 0 else (cellIdx r l).map (· + 1)
theorem cellIdx_some : ∀ {L : List C3} {l : Int} {k : Nat}, k < L.length → (L.getD k default).l = l → (∀ j, j < k → (L.getD j default).l ≠ l) → cellIdx L l = some k
  | c :: r, l, 0, _, h, _ => by rw [cellIdx, if_pos (by simpa [List.getD] using h)]
  | c :: r, l, k + 1, hk, h, hn => by
    rw [cellIdx, if_neg (by have := hn 0 (by omega); simpa [List.getD] using this), cellIdx_some (k := k) (by simpa using hk) (by simpa [List.getD] using h) (fun j hj => by have := hn (j + 1) (by omega); simpa [List.getD] using this)]
    rfl
theorem cellIdx_none : ∀ {L : List C3} {l : Int}, (∀ j, j < L.length → (L.getD j default).l ≠ l) → cellIdx L l = none
  | [], l, _ => rfl
  | c :: r, l, hn => by
    rw [cellIdx, if_neg (by have := hn 0 (by simp); simpa [List.getD] using this), cellIdx_none (fun j hj => by have := hn (j + 1) (by simpa using hj); simpa [List.getD] using this)]
    rfl
theorem cellIdx_is : ∀ {L : List C3} {l : Int} {k : Nat}, cellIdx L l = some k → k < L.length ∧ (L.getD k default).l = l ∧ (∀ j, j < k → (L.getD j default).l ≠ l)
  | c :: r, l, k, h => by
    rw [cellIdx] at h
    by_cases e : c.l = l
    · rw [if_pos e] at h; cases h
      exact ⟨by simp, by simpa [List.getD] using e, fun j hj => by omega⟩
    · rw [if_neg e] at h
      cases hr : cellIdx r l with
      | none => rw [hr] at h; cases h
      | some m =>
        rw [hr] at h; cases h
        obtain ⟨h1, h2, h3⟩ := cellIdx_is hr
        refine ⟨by simpa using h1, by simpa [List.getD] using h2, fun j hj => ?_⟩
        match j with
        | 0 => simpa [List.getD] using e
        | j + 1 => have := h3 j (by simp only at hj; omega); simpa [List.getD] using this
theorem cellIdx_not : ∀ {L : List C3} {l : Int}, cellIdx L l = none → ∀ j, j < L.length → (L.getD j default).l ≠ l
  | [], l, _, j, hj => by simp at hj
  | c :: r, l, h, j, hj => by
    rw [cellIdx] at h
    by_cases e : c.l = l
    · rw [if_pos e] at h; cases h
    · rw [if_neg e] at h
      have hr : cellIdx r l = none := by cases hr : cellIdx r l with
        | none => rfl
        | some m => rw [hr] at h; cases h
      match j with
      | 0 => simpa [List.getD] using e
      | j + 1 => have := cellIdx_not hr j (by simpa using hj); simpa [List.getD] using this

/-- A line as it reads now. -/
def lineT (K : ByteArray) (L : List C3) (l : Nat) : ByteArray :=
  match cellIdx L l with
  | some k => (L.getD k default).t
  | none => K.extract (16 * l) (16 * l + 16)
/-- A word as it reads now. -/
def wordT (K : ByteArray) (L : List C3) (m : Nat) : ByteArray := (lineT K L (m / 2)).extract (m % 2 * 8) (m % 2 * 8 + 8)
def Has (K : ByteArray) (i : Int) : Prop := 0 ≤ i ∧ i < (K.size / 8 : Nat)
instance (K : ByteArray) (i : Int) : Decidable (Has K i) := by unfold Has; infer_instance
noncomputable def wordAtB (K : ByteArray) (L : List C3) (i : Int) : ByteArray := if memOkB K L = true ∧ Has K i then wordT K L i.toNat else ⟨#[]⟩
theorem wordAtB_yes {K : ByteArray} {L : List C3} {m : Nat} (h : MemOk K L) (hm : m < K.size / 8) : wordAtB K L (m : Int) = wordT K L m := by
  unfold wordAtB Has
  rw [if_pos ⟨memOkB_yes h, by omega⟩]; rfl
theorem wordAtB_bad {K : ByteArray} {L : List C3} {i : Int} (h : ¬ MemOk K L) : wordAtB K L i = ⟨#[]⟩ := by
  unfold wordAtB
  rw [if_neg (by rw [memOkB_no h]; simp)]
theorem wordAtB_no {K : ByteArray} {L : List C3} {i : Int} (h : ¬ Has K i) : wordAtB K L i = ⟨#[]⟩ := by
  unfold wordAtB
  rw [if_neg (fun x => h x.2)]

theorem lineT_size {K : ByteArray} {L : List C3} {l : Nat} (h : MemOk K L) (hl : l < K.size / 16) : (lineT K L l).size = 16 := by
  unfold lineT
  cases hc : cellIdx L l with
  | none => simp only [ByteArray.size_extract]; omega
  | some k => exact (h.2.2 k (cellIdx_is hc).1).2.2.1

/-- A line with one of its words written. -/
def putT (s : ByteArray) (k : Nat) (x : ByteArray) : ByteArray := s.extract 0 k ++ x ++ s.extract (k + 8) s.size
def putC (K : ByteArray) (L : List C3) (m : Nat) (x : ByteArray) : C3 := ⟨((m / 2 : Nat) : Int), putT (lineT K L (m / 2)) (m % 2 * 8) x, false⟩
/-- A cell laid in at its place. -/
def insL (l : Int) (x : C3) : List C3 → List C3
  | [] => [x]
  | c :: r => if c.l < l then c :: insL l x r else x :: (c :: r).filter fun c => !decide (c.l = l)
theorem insL_lt (l : Int) (x : C3) : ∀ L : List C3, (∀ c ∈ L, c.l < l) → insL l x L = L ++ [x]
  | [], _ => rfl
  | c :: r, h => by rw [insL, if_pos (h c (by simp)), insL_lt l x r (fun d hd => h d (by simp [hd]))]; rfl
theorem insL_ge (l : Int) (x : C3) : ∀ (A : List C3) (c : C3) (r : List C3), (∀ c ∈ A, c.l < l) → ¬ c.l < l → insL l x (A ++ c :: r) = A ++ x :: (c :: r).filter fun c => !decide (c.l = l)
  | [], c, r, _, h => by rw [List.nil_append, insL, if_neg h]; rfl
  | d :: A, c, r, h, hc => by rw [List.cons_append, insL, if_pos (h d (by simp)), insL_ge l x A c r (fun d hd => h d (by simp [hd])) hc]; rfl
theorem insL_snoc (l : Int) (x c : C3) : ∀ A : List C3, (∃ d ∈ A, ¬ d.l < l) → insL l x (A ++ [c]) = insL l x A ++ [c].filter fun c => !decide (c.l = l)
  | [], h => by obtain ⟨d, hd, _⟩ := h; cases hd
  | d :: A, h => by
    rw [List.cons_append, insL, insL]
    by_cases hd : d.l < l
    · rw [if_pos hd, if_pos hd, insL_snoc l x c A (by
        obtain ⟨y, hy, hn⟩ := h
        simp only [List.mem_cons] at hy
        rcases hy with rfl | hy
        · exact absurd hd hn
        · exact ⟨y, hy, hn⟩)]
      rfl
    · rw [if_neg hd, if_neg hd, List.cons_append, ← List.filter_append]; rfl
/-- The cells behind a store. -/
def storeL (K : ByteArray) (L : List C3) (m : Nat) (x : ByteArray) : List C3 := insL ((m / 2 : Nat) : Int) (putC K L m x) L
/-- A binary search's place. -/
structure Place (L : List C3) (l : Int) (p : Nat) : Prop where
  le : p ≤ L.length
  lo : ∀ j, j < p → (L.getD j default).l < l
  hi : ∀ j, p ≤ j → j < L.length → l ≤ (L.getD j default).l
theorem getD_mem {L : List C3} {c : C3} (h : c ∈ L) : ∃ j, j < L.length ∧ L.getD j default = c := by
  obtain ⟨j, hj, e⟩ := List.getElem_of_mem h
  exact ⟨j, hj, by simp [List.getD, hj, e]⟩
theorem getD_take {L : List C3} {p j : Nat} (hj : j < p) : (L.take p).getD j default = L.getD j default := by simp [List.getD, hj]
theorem getD_drop {L : List C3} {p j : Nat} : (L.drop p).getD j default = L.getD (p + j) default := by simp [List.getD, List.getElem?_drop]
theorem Place.take_lt {L : List C3} {l : Int} {p : Nat} (h : Place L l p) : ∀ c ∈ L.take p, c.l < l := fun c hc => by
  obtain ⟨j, hj, e⟩ := getD_mem hc
  have hjp : j < p := by rw [List.length_take] at hj; omega
  rw [← e, getD_take hjp]; exact h.lo j hjp
theorem drop_cons {L : List C3} {p : Nat} (hp : p < L.length) : L.drop p = L.getD p default :: L.drop (p + 1) := by
  rw [List.drop_eq_getElem_cons hp]; simp [List.getD, hp]
/-- The cell is there: it is written over. -/
theorem ins_found {K : ByteArray} {L : List C3} {l : Int} {p : Nat} {x : C3} (hok : MemOk K L) (h : Place L l p) (hp : p < L.length) (he : (L.getD p default).l = l) : insL l x L = L.set p x := by
  have e : L = L.take p ++ L.getD p default :: L.drop (p + 1) := by rw [← drop_cons hp, List.take_append_drop]
  have hf : (L.getD p default :: L.drop (p + 1)).filter (fun c => !decide (c.l = l)) = L.drop (p + 1) := by
    rw [List.filter_cons, if_neg (by rw [decide_eq_true he]; simp)]
    refine List.filter_eq_self.2 (fun c hc => ?_)
    obtain ⟨j, hj, e⟩ := getD_mem hc
    rw [getD_drop] at e
    have := hok.asc (i := p) (j := p + 1 + j) (by omega) (by rw [List.length_drop] at hj; omega)
    rw [e, he] at this
    simp; omega
  have h1 := insL_ge l x (L.take p) (L.getD p default) (L.drop (p + 1)) h.take_lt (by omega)
  rw [← e, hf] at h1
  rw [h1, List.set_eq_take_append_cons_drop, if_pos hp]
/-- .. or is not: it comes in between. -/
theorem ins_new {L : List C3} {l : Int} {p : Nat} {x : C3} (h : Place L l p) (hn : ∀ j, j < L.length → (L.getD j default).l ≠ l) : insL l x L = L.take p ++ x :: L.drop p := by
  by_cases hp : p < L.length
  · have e : L = L.take p ++ L.getD p default :: L.drop (p + 1) := by rw [← drop_cons hp, List.take_append_drop]
    have hf : (L.getD p default :: L.drop (p + 1)).filter (fun c => !decide (c.l = l)) = L.getD p default :: L.drop (p + 1) := by
      refine List.filter_eq_self.2 (fun c hc => ?_)
      rw [← drop_cons hp] at hc
      obtain ⟨j, hj, e⟩ := getD_mem hc
      rw [getD_drop] at e
      have := hn (p + j) (by rw [List.length_drop] at hj; omega)
      rw [e] at this
      simp [this]
    have h1 := insL_ge l x (L.take p) (L.getD p default) (L.drop (p + 1)) h.take_lt (by have := h.hi p (Nat.le_refl _) hp; omega)
    rw [← e, hf] at h1
    rw [h1, ← drop_cons hp]
  · have hl : p = L.length := by have := h.le; omega
    subst hl
    rw [List.take_length, List.drop_length]
    refine insL_lt l x L (fun c hc => ?_)
    obtain ⟨j, hj, e⟩ := getD_mem hc
    rw [← e]; exact h.lo j hj
theorem Place.found {L : List C3} {l : Int} {p : Nat} (h : Place L l p) (hp : p < L.length) (he : (L.getD p default).l = l) : cellIdx L l = some p :=
  cellIdx_some hp he (fun j hj => by have := h.lo j hj; omega)
theorem Place.lost {K : ByteArray} {L : List C3} {l : Int} {p : Nat} (hok : MemOk K L) (h : Place L l p) (hn : ¬ (p < L.length ∧ (L.getD p default).l = l)) : ∀ j, j < L.length → (L.getD j default).l ≠ l := fun j hj e => by
  by_cases hp : p < L.length
  · have h1 := h.hi p (Nat.le_refl _) hp
    have h3 : (L.getD p default).l ≠ l := fun e => hn ⟨hp, e⟩
    rcases Nat.lt_trichotomy j p with h2 | h2 | h2
    · have := h.lo j h2; omega
    · subst h2; exact h3 e
    · have := hok.asc h2 hj; omega
  · have := h.lo j (by omega); omega

/-- A line's cell made to be kept by the next fence. -/
def flushL (L : List C3) (l : Int) : List C3 :=
  match cellIdx L l with
  | some k => L.set k ⟨(L.getD k default).l, (L.getD k default).t, true⟩
  | none => L
/-- A cell laid into what is kept. -/
def keepB (K : ByteArray) (c : C3) : ByteArray := K.extract 0 (16 * c.l.toNat) ++ c.t ++ K.extract (16 * c.l.toNat + 16) K.size
def fenceK (K : ByteArray) (L : List C3) : ByteArray := L.foldl (fun K c => if c.f then keepB K c else K) K
def fenceL (L : List C3) : List C3 := L.filter fun c => !c.f
theorem keepB_size {K : ByteArray} {c : C3} (h0 : 0 ≤ c.l) (h1 : c.l < (K.size / 16 : Nat)) (ht : c.t.size = 16) : (keepB K c).size = K.size := by
  unfold keepB
  simp only [ByteArray.size_append, ByteArray.size_extract, ht]
  omega
theorem fenceK_snoc (K : ByteArray) (L : List C3) (c : C3) : fenceK K (L ++ [c]) = if c.f then keepB (fenceK K L) c else fenceK K L := by simp [fenceK]
theorem fenceL_snoc (L : List C3) (c : C3) : fenceL (L ++ [c]) = fenceL L ++ if c.f then [] else [c] := by
  simp only [fenceL, List.filter_append]
  cases h : c.f <;> simp [h]
/-- Whether a pick is set. -/
def pickB (p : Int) (i : Nat) : Bool := decide (p / 2 ^ i % 2 = 1)
/-- The cells with the picks in the place of their flags. -/
def fallL : Int → Nat → List C3 → List C3
  | _, _, [] => []
  | p, i, c :: r => ⟨c.l, c.t, pickB p i⟩ :: fallL p (i + 1) r
theorem fallL_length (p : Int) : ∀ (L : List C3) (i : Nat), (fallL p i L).length = L.length
  | [], _ => rfl
  | c :: r, i => by rw [fallL, List.length_cons, fallL_length p r]; rfl
theorem fallL_at (p : Int) : ∀ (L : List C3) (i j : Nat), j < L.length → (fallL p i L).getD j default = ⟨(L.getD j default).l, (L.getD j default).t, pickB p (i + j)⟩
  | c :: r, i, 0, _ => by simp [fallL, List.getD]
  | c :: r, i, j + 1, h => by
    have := fallL_at p r (i + 1) j (by simpa using h)
    rw [show i + 1 + j = i + (j + 1) by omega] at this
    simpa [fallL, List.getD] using this
def fallK (K : ByteArray) (L : List C3) (p : Int) : ByteArray := fenceK K (fallL p 0 L)
theorem take_succ {L : List C3} {k : Nat} (h : k < L.length) : L.take (k + 1) = L.take k ++ [L.getD k default] := by
  rw [List.take_add_one]; simp [List.getD, h]
end Go.Proofs.YtkfkjcadmdcbnaaGreatDoor
namespace Go.Proofs.YtkfkjcadmdcbnaaGreatDoor
open Go.RowKit Go.Proofs.YtkfkjcadmdcbnaaGreatDoor.Parts Go.Proofs.YtkfkjcadmdcbnaaGreatDoor.Hexa

set_option maxRecDepth 100000 in
set_option maxHeartbeats 400000 in
theorem szCell_any (x : C3) (l : Int) (w : World) (h0 : 0 ≤ l) (hl : l ≤ 1048576) (hk : x.t.size ≤ maxLen) :
    Calls Tryz.prog 117 #[.agg #[.int .i64 x.l, .string x.t, .bool x.f], .int .i64 l] w fun e w' => ∃ r, e = .returned (.int .i64 r) ∧ (r < 0 ∨ (0 ≤ r ∧ r ≤ l ∧ (x.t.size : Int) ≤ l)) ∧ Below w.heap.size w w' := by
  obtain ⟨xl, k, f⟩ := x
  simp only at hk ⊢
  unfold maxLen at hk
  by_cases h1 : l - (k.size : Int) < 0
  · go_enter Tryz.func117, Tryz.ntmps117
    go_wp2
    go_ret
    exact ⟨_, rfl, .inl (by omega), (Below.refl _ _).alloc (Nat.le_refl _) _⟩
  · go_enter Tryz.func117, Tryz.ntmps117
    go_wp2
    go_ret
    exact ⟨_, rfl, .inr (by omega), (Below.refl _ _).alloc (Nat.le_refl _) _⟩

set_option maxRecDepth 100000 in
set_option maxHeartbeats 400000 in
theorem toCell_any (l : Int) (t : ByteArray) (f : Bool) (w : World) :
    Calls Tryz.prog 128 #[.agg #[.int .i64 l, .string t, .bool f]] w fun e w' => e = .returned (.agg #[.int .i64 l, .string t, .bool f]) ∧ Below w.heap.size w w' := by
  go_enter Tryz.func128, Tryz.ntmps128
  go_wp2
  refine bodyPost_ret (v := .agg #[.int .i64 l, .string t, .bool f]) ?_ rfl ⟨rfl, (((Below.refl _ _).alloc (Nat.le_refl _) _).alloc (by simp) _).alloc (by simp; omega) _⟩
  simp [results, Tryz.results128, go_sem]

set_option maxRecDepth 100000 in
set_option maxHeartbeats 400000 in
theorem eqCell_any (l : Int) (t : ByteArray) (f : Bool) (w : World) :
    Calls Tryz.prog 147 #[.agg #[.int .i64 l, .string t, .bool f], .agg #[.int .i64 l, .string t, .bool f]] w fun e w' => e = .returned (.bool true) ∧ Below w.heap.size w w' := by
  go_enter Tryz.func147, Tryz.ntmps147
  go_wp2
  go_ret
  exact ⟨rfl, ((Below.refl _ _).alloc (Nat.le_refl _) _).alloc (by simp) _⟩

/-- What a slice of cells that came in holds. -/
def FitC (L : List C3) (n b : Nat) : Prop := ∀ j, j < n → (L.getD j default).t.size ≤ b

set_option maxRecDepth 100000 in
set_option maxHeartbeats 1000000 in
theorem szCells_any (a : Option Addr) (n c : Nat) (L : List C3) (l0 : Int) (w : World) (hl0 : 0 ≤ l0) (hl1 : l0 ≤ 1048576) (hs : SrcC w a n L) (hn : n ≤ 9223372036854775807) (hm : FitC L n maxLen) :
    Calls Tryz.prog 59 #[.slice a n c, .int .i64 l0] w fun e w' => ∃ r, e = .returned (.int .i64 r) ∧ (r < 0 ∨ (0 ≤ r ∧ n ≤ 1048576 ∧ FitC L n 1048576)) ∧ Below w.heap.size w w' := by
  have HS := Lib.hid hs
  have HM := Lib.hid hm
  clear hs hm
  by_cases hlt0 : l0 - (n : Int) < 0
  · go_enter Tryz.func59, Tryz.ntmps59
    go_wp2
    go_ret
    exact ⟨-1, rfl, .inl (by omega), Below.refl _ _⟩
  · go_enter Tryz.func59, Tryz.ntmps59
    go_wp2
    go_loopw [1, 5] (fun lv iv wr => ∃ (k : Nat) (l : Int), k ≤ n ∧ iv = .int .i64 k ∧ lv = .int .i64 l ∧ 0 ≤ l ∧ l ≤ 1048576 ∧ Hid (∀ j, j < k → (L.getD j default).t.size ≤ 1048576) ∧ Below w.heap.size w wr) (fun _ iv _ => n - (intOf iv).toNat)
    case atStart => exact ⟨0, _, Nat.zero_le _, rfl, rfl, by omega, by omega, Lib.hid (fun j hj => by omega), Below.refl _ _⟩
    case round =>
      obtain ⟨k, l, hk, rfl, rfl, h0, hl, HA, hbel⟩ := hrel
      by_cases hlt : k < n
      · obtain ⟨g, off, rfl, hg, d1, d2, d3⟩ := HS.out.cells3_at hbel (Nat.le_refl _) k hlt
        obtain ⟨x, hx⟩ : ∃ x, L.getD k default = x := ⟨_, rfl⟩
        rw [hx] at d1 d2 d3
        go_wp2_with fail
        have hm := HM.out k hlt
        rw [hx] at hm
        refine (szCell_any x l _ h0 hl hm).mono ?_
        rintro e w1 ⟨r, rfl, hr, hb1⟩
        have hb2 : Below w.heap.size w w1 := hbel.trans (hb1.mono hbel.size)
        clear d1 d2 d3 hb1 hm
        rcases hr with h1 | ⟨h1, h2, h3⟩
        · go_wp2
          go_ret
          exact ⟨-1, rfl, .inl (by omega), hb2⟩
        · have HA2 : Hid (∀ j, j < k + 1 → (L.getD j default).t.size ≤ 1048576) := Lib.hid (fun j hj => by
            by_cases e : j = k
            · subst e; rw [hx]; omega
            · exact HA.out j (by omega))
          clear HA hx h3
          go_wp2
          go_roundw
          case rel => exact ⟨k + 1, r, by omega, by go_num, rfl, h1, by omega, HA2, hb2⟩
          case measure => (simp [intOf]; try omega)
      · obtain rfl : k = n := by omega
        go_wp2
        go_ret
        refine ⟨l, rfl, .inr ⟨h0, by omega, fun j hj => HA.out j hj⟩, hbel⟩

set_option maxRecDepth 100000 in
set_option maxHeartbeats 1000000 in
theorem szMemory_any (K : ByteArray) (a : Option Addr) (n c : Nat) (L : List C3) (w : World) (hs : SrcC w a n L) (hn : n ≤ 9223372036854775807) (hK : K.size ≤ maxLen) (hm : FitC L n maxLen) :
    Calls Tryz.prog 21 #[.agg #[.string K, .slice a n c], .int .i64 1048576] w fun e w' => ∃ r, e = .returned (.int .i64 r) ∧ (r < 0 ∨ (0 ≤ r ∧ K.size ≤ 1048576 ∧ n ≤ 1048576 ∧ FitC L n 1048576)) ∧ Below w.heap.size w w' := by
  have HS := Lib.hid hs
  have HM := Lib.hid hm
  clear hs hm
  unfold maxLen at hK
  by_cases h1 : (1048576 : Int) - (K.size : Int) < 0
  · go_enter Tryz.func21, Tryz.ntmps21
    go_wp2
    go_ret
    exact ⟨_, rfl, .inl (by omega), (Below.refl _ _).alloc (Nat.le_refl _) _⟩
  · go_enter Tryz.func21, Tryz.ntmps21
    have hb0 : Below w.heap.size w (w.alloc (.cells #[.string K, .slice a n c] 46)) := (Below.refl _ _).alloc (Nat.le_refl _) _
    go_wp2_with fail
    refine (szCells_any a n c L _ _ (by omega) (by omega) (HS.out.later hb0) hn HM.out).mono ?_
    rintro e w1 ⟨r, rfl, hr, hb1⟩
    have hb2 : Below w.heap.size w w1 := hb0.trans (hb1.mono hb0.size)
    clear hb0 hb1
    rcases hr with h2 | ⟨h2, h3, h4⟩
    · go_wp2
      go_ret
      exact ⟨_, rfl, .inl (by omega), hb2⟩
    · have H4 := Lib.hid h4
      clear h4
      go_wp2
      go_ret
      exact ⟨_, rfl, .inr ⟨h2, by omega, h3, H4.out⟩, hb2⟩
end Go.Proofs.YtkfkjcadmdcbnaaGreatDoor
namespace Go.Proofs.YtkfkjcadmdcbnaaGreatDoor
open Go.RowKit Go.Proofs.YtkfkjcadmdcbnaaGreatDoor.Parts Go.Proofs.YtkfkjcadmdcbnaaGreatDoor.Hexa

/-- What the copy returns. -/
def CopyC (n : Nat) (L : List C3) (w : World) (e : Ending) (w' : World) : Prop :=
  e = .returned (.slice (some ⟨w.heap.size, 0, none⟩) n n) ∧ w'.ownsRow w.heap.size 135 3 (.slice (some ⟨w.heap.size, 0, none⟩) n n) n (cellsE encC L) ∧ Below w.heap.size w w'

set_option maxRecDepth 100000 in
set_option maxHeartbeats 1000000 in
theorem toCells_any (a : Option Addr) (n c : Nat) (L : List C3) (w : World) (hs : SrcC w a n L) (hn : n ≤ 1048576) :
    Calls Tryz.prog 73 #[.slice a n c] w (CopyC n L w) := by
  obtain ⟨i0, hi, hz0, hz1, hz2⟩ := info_parts infoCell
  have HS := Lib.hid hs
  have hL := hs.len
  clear hs
  go_enter Tryz.func73, Tryz.ntmps73
  go_wp2_with (at_make; refine wpList_make_full _ rfl _ _ 55 rfl w.heap.size 135 i0 _ 3 Tryz.underlying55 hi hz0 hz1 .i64 .i64 _ _ n rfl rfl rfl rfl (by rw [hz2]; omega) (by unfold maxLen; omega) (Nat.le_refl _) ?_; intro w0 hown0 hgrow0)
  have hg0 : Below w.heap.size w w0 := (Below.refl _ _).grown hgrow0 (Nat.le_refl _) (fun k h => by cases h)
  have HO0 := Lib.hid hown0
  clear hown0 hgrow0
  go_loopw [4] (fun iv wr => ∃ (k : Nat) (xs : List Value), k ≤ n ∧ iv = .int .i64 k ∧ Hid (wr.ownsRow w.heap.size 135 3 (.slice (some ⟨w.heap.size, 0, none⟩) n n) n xs) ∧ Hid (∀ j, j < k * 3 → xs[j]? = (cellsE encC L)[j]?) ∧ Below w.heap.size w wr)
    (fun iv _ => n - (intOf iv).toNat)
  case atStart => exact ⟨0, _, Nat.zero_le _, rfl, HO0, Lib.hid (fun j hj => by omega), hg0⟩
  case round =>
    clear HO0 hg0
    obtain ⟨k, xs, hk, rfl, HW, HX, hbel⟩ := hrel
    have hxl : Hid (xs.length = n * 3) := Lib.hid HW.out.1
    by_cases hlt : k < n
    · obtain ⟨g, off, rfl, hg, d1, d2, d3⟩ := HS.out.cells3_at hbel (Nat.le_refl _) k hlt
      have X1 := Lib.hid (cellsE_step encC (by omega) (by rw [hL]; exact hxl.out) HX.out)
      obtain ⟨x, hx⟩ : ∃ x, L.getD k default = x := ⟨_, rfl⟩
      rw [hx] at d1 d2 d3 X1
      clear hx
      go_wp2_with fail
      refine (toCell_any x.l x.t x.f _).mono ?_
      rintro e w1 ⟨rfl, hb1⟩
      have HW1 := Lib.hid (own_below HW.out hb1)
      obtain ⟨v1, e1⟩ := ownE_cell HW1.out (j := k * 3) (by omega)
      obtain ⟨v2, e2⟩ := ownE_cell HW1.out (j := k * 3 + 1) (by omega)
      obtain ⟨v3, e3⟩ := ownE_cell HW1.out (j := k * 3 + 2) (by omega)
      have f1 := HW1.out.frozenAt (k * 3)
      have f2 := HW1.out.frozenAt (k * 3 + 1)
      have f3 := HW1.out.frozenAt (k * 3 + 2)
      have O1 := Lib.hid (own_sets (encC.cells x) (k * 3) HW1.out)
      have hbx : Below w.heap.size w w1 := hbel.trans (hb1.mono hbel.size)
      have hb2 : Hid (Below w.heap.size w (w1.setCells w.heap.size (k * 3) (encC.cells x))) := Lib.hid (below_sets (Nat.le_refl _) _ _ hbx)
      clear d1 d2 d3 hb1 hbx
      go_wp2
      go_roundw
      case rel => exact ⟨k + 1, _, by omega, by go_num, O1, X1, hb2.out⟩
      case measure => (simp [intOf]; try omega)
    · obtain rfl : k = n := by omega
      have hfin : xs = cellsE encC L := cellsE_all encC (by rw [hL]; exact hxl.out) (by rw [hL]; exact HX.out)
      have ho := HW.out
      rw [hfin] at ho
      have HO := Lib.hid ho
      clear ho hfin
      go_wp2
      go_ret
      exact ⟨rfl, HO.out, hbel⟩

set_option maxRecDepth 100000 in
set_option maxHeartbeats 1000000 in
theorem eqCells_any (a1 a2 : Option Addr) (n c1 c2 : Nat) (L : List C3) (w : World) (hn : n ≤ 100000000) (s1 : SrcC w a1 n L) (s2 : SrcC w a2 n L) :
    Calls Tryz.prog 86 #[.slice a1 n c1, .slice a2 n c2] w fun e w' => e = .returned (.bool true) ∧ Below w.heap.size w w' := by
  have R1 := Lib.hid s1
  have R2 := Lib.hid s2
  clear s1 s2
  go_enter Tryz.func86, Tryz.ntmps86
  go_wp2
  go_loopw [5] (fun iv wr => ∃ k : Nat, k ≤ n ∧ iv = .int .i64 k ∧ Below w.heap.size w wr) (fun iv _ => n - (intOf iv).toNat)
  case atStart => exact ⟨0, Nat.zero_le _, rfl, Below.refl _ _⟩
  case round =>
    obtain ⟨k, hk, rfl, hbel⟩ := hrel
    by_cases hlt : k < n
    · obtain ⟨g, off, rfl, hg, d1, d2, d3⟩ := R1.out.cells3_at hbel (Nat.le_refl _) k hlt
      obtain ⟨g2, off2, rfl, hg2, m1, m2, m3⟩ := R2.out.cells3_at hbel (Nat.le_refl _) k hlt
      obtain ⟨x, hx⟩ : ∃ x, L.getD k default = x := ⟨_, rfl⟩
      rw [hx] at d1 d2 d3 m1 m2 m3
      clear hx
      go_wp2
      go_region_with (go_at_call 147; refine (eqCell_any x.l x.t x.f _).mono ?_; rintro e w1 ⟨rfl, hb1⟩)
      all_goals
        have hb2 : Below w.heap.size w w1 := hbel.drew.trans (hb1.mono hbel.size)
        clear d1 d2 d3 m1 m2 m3 hb1
        go_wp2
        go_roundw
        case rel => exact ⟨k + 1, by omega, by go_num, hb2⟩
        case measure => (simp [intOf]; try omega)
    · obtain rfl : k = n := by omega
      go_wp2
      go_ret
      exact ⟨rfl, hbel⟩

/-- What the copy of a memory returns. -/
def CopyM (K : ByteArray) (n : Nat) (L : List C3) (w : World) (e : Ending) (w' : World) : Prop :=
  ∃ g, e = .returned (.agg #[.string K, .slice (some ⟨g, 0, none⟩) n n]) ∧ w'.ownsRow w.heap.size 135 3 (.slice (some ⟨g, 0, none⟩) n n) n (cellsE encC L) ∧ Below w.heap.size w w'

theorem two_of_alloc (w : World) (u v : Value) (t : TypeId) : (w.alloc (.cells #[u, v] t)).heap[w.heap.size]? = some (.cells #[u, v] t (0, 0)) := heap_alloc_new _ _
/-- A block of two cells. -/
theorem cell0_of_two {w : World} {b : Nat} {u v : Value} {t : TypeId} (h : w.heap[b]? = some (.cells #[u, v] t (0, 0))) : w.cell? ⟨b, 0, none⟩ = some u := by simp [World.cell?, h]
theorem cell1_of_two {w : World} {b : Nat} {u v : Value} {t : TypeId} (h : w.heap[b]? = some (.cells #[u, v] t (0, 0))) : w.cell? ⟨b, 1, none⟩ = some v := by simp [World.cell?, h]
theorem free_of_two {w : World} {b o : Nat} {u v : Value} {t : TypeId} (h : w.heap[b]? = some (.cells #[u, v] t (0, 0))) : w.frozen? ⟨b, o, none⟩ = false := by simp [World.frozen?, h]
theorem two_set0 {w : World} {b : Nat} {u v x : Value} {t : TypeId} (h : w.heap[b]? = some (.cells #[u, v] t (0, 0))) : (w.setCell ⟨b, 0, none⟩ x).heap[b]? = some (.cells #[x, v] t (0, 0)) := by
  have hlt := lt_of_block h
  have h' : w.heap[b] = .cells #[u, v] t (0, 0) := by simpa [Array.getElem?_eq_getElem hlt] using h
  show (w.heap.modify b _)[b]? = _
  rw [Array.getElem?_eq_getElem (by simpa using hlt), Array.getElem_modify_self, h']
  rfl
theorem two_set1 {w : World} {b : Nat} {u v x : Value} {t : TypeId} (h : w.heap[b]? = some (.cells #[u, v] t (0, 0))) : (w.setCell ⟨b, 1, none⟩ x).heap[b]? = some (.cells #[u, x] t (0, 0)) := by
  have hlt := lt_of_block h
  have h' : w.heap[b] = .cells #[u, v] t (0, 0) := by simpa [Array.getElem?_eq_getElem hlt] using h
  show (w.heap.modify b _)[b]? = _
  rw [Array.getElem?_eq_getElem (by simpa using hlt), Array.getElem_modify_self, h']
  rfl
theorem below_heap {B : Nat} {w w' : World} (h : Below B w w') {b : Nat} (hb : b < B) : w'.heap[b]? = w.heap[b]? := h.block b hb

set_option maxRecDepth 100000 in
set_option maxHeartbeats 1000000 in
theorem toMemory_any (K : ByteArray) (a : Option Addr) (n c : Nat) (L : List C3) (w : World) (hs : SrcC w a n L) (hn : n ≤ 1048576) :
    Calls Tryz.prog 23 #[.agg #[.string K, .slice a n c]] w (CopyM K n L w) := by
  have HS := Lib.hid hs
  clear hs
  go_enter Tryz.func23, Tryz.ntmps23
  have hb0 : Below w.heap.size w (((w.alloc (.cells #[.string K, .slice a n c] 46)).alloc (.cells #[.string ⟨#[]⟩, .slice none 0 0] 57)).alloc (.cells #[.string K, .slice none 0 0] 57)) := (((Below.refl _ _).alloc (Nat.le_refl _) _).alloc (by simp) _).alloc (by simp; omega) _
  have k1 : (((w.alloc (.cells #[.string K, .slice a n c] 46)).alloc (.cells #[.string ⟨#[]⟩, .slice none 0 0] 57)).alloc (.cells #[.string K, .slice none 0 0] 57)).heap[w.heap.size + 1]? = some (.cells #[.string ⟨#[]⟩, .slice none 0 0] 57 (0, 0)) := by
    rw [Below.heap_alloc _ _ _ (by simp)]
    have h := heap_alloc_new (w.alloc (.cells #[.string K, .slice a n c] 46)) (.cells #[.string ⟨#[]⟩, .slice none 0 0] 57)
    simpa using h
  have k2 : (((w.alloc (.cells #[.string K, .slice a n c] 46)).alloc (.cells #[.string ⟨#[]⟩, .slice none 0 0] 57)).alloc (.cells #[.string K, .slice none 0 0] 57)).heap[w.heap.size + 1 + 1]? = some (.cells #[.string K, .slice none 0 0] 57 (0, 0)) := by
    have h := heap_alloc_new ((w.alloc (.cells #[.string K, .slice a n c] 46)).alloc (.cells #[.string ⟨#[]⟩, .slice none 0 0] 57)) (.cells #[.string K, .slice none 0 0] 57)
    simpa using h
  have k3 : (((w.alloc (.cells #[.string K, .slice a n c] 46)).alloc (.cells #[.string ⟨#[]⟩, .slice none 0 0] 57)).alloc (.cells #[.string K, .slice none 0 0] 57)).heap.size = w.heap.size + 3 := by simp
  have K1 := Lib.hid k1
  have K2 := Lib.hid k2
  have K3 := Lib.hid k3
  have B0 := Lib.hid hb0
  clear k1 k2 k3 hb0
  go_wp2_with fail
  obtain ⟨W3, hW⟩ : ∃ x, x = ((w.alloc (.cells #[.string K, .slice a n c] 46)).alloc (.cells #[.string ⟨#[]⟩, .slice none 0 0] 57)).alloc (.cells #[.string K, .slice none 0 0] 57) := ⟨_, rfl⟩
  rw [← hW] at K1 K2 K3 B0 ⊢
  clear hW
  refine (toCells_any a n c L _ (HS.out.later B0.out) hn).mono ?_
  rintro e w1 ⟨rfl, hown, hb1⟩
  have k1 : w1.heap[w.heap.size + 1]? = _ := (hb1.block _ (by rw [K3.out]; omega)).trans K1.out
  have k2 : w1.heap[w.heap.size + 1 + 1]? = _ := (hb1.block _ (by rw [K3.out]; omega)).trans K2.out
  have c0 := cell0_of_two k2
  have c1 := cell1_of_two k2
  have f2 := free_of_two (o := 1) k2
  have r0 := cell0_of_two k1
  have r1 := cell1_of_two k1
  have f0 := free_of_two (o := 0) k1
  have f1 := free_of_two (o := 1) k1
  have B1 : Hid (Below w.heap.size w w1) := Lib.hid (B0.out.trans (hb1.mono B0.out.size))
  have HO := Lib.hid hown
  have hs1 := hb1.size
  rw [K3.out] at hs1
  rw [K3.out] at HO ⊢
  have S1 := Lib.hid hs1
  have E1 := Lib.hid (two_set1 (two_set0 ((Below.heap_setCell w1 ⟨w.heap.size + 1 + 1, 1, none⟩ (.slice (some ⟨w.heap.size + 3, 0, none⟩) n n) (w.heap.size + 1) (by simp)).trans k1) (x := .string K)) (x := .slice (some ⟨w.heap.size + 3, 0, none⟩) n n))
  clear k1 k2 hb1 hown hs1
  go_wp2
  refine bodyPost_ret (v := .agg #[.string K, .slice (some ⟨w.heap.size + 3, 0, none⟩) n n]) ?_ rfl ⟨_, rfl, ?_, ?_⟩
  · have q0 := cell0_of_two E1.out
    have q1 := cell1_of_two E1.out
    simp [results, Tryz.results23, go_sem, q0, q1]
  · exact ownsRow_setCell_other (ownsRow_setCell_other (ownsRow_setCell_other (ownE_mono HO.out (by omega)) (by simp [Value.ownBlock]) _) (by simp [Value.ownBlock]) _) (by simp [Value.ownBlock]) _
  · exact ((((B1.out.setCell (by simp; omega) _).setCell (by simp) _).setCell (by simp) _))

set_option maxRecDepth 100000 in
set_option maxHeartbeats 1000000 in
theorem eqMemory_any (K : ByteArray) (a1 a2 : Option Addr) (n c1 c2 : Nat) (L : List C3) (w : World) (hn : n ≤ 100000000) (s1 : SrcC w a1 n L) (s2 : SrcC w a2 n L) :
    Calls Tryz.prog 27 #[.agg #[.string K, .slice a1 n c1], .agg #[.string K, .slice a2 n c2]] w fun e w' => e = .returned (.bool true) ∧ Below w.heap.size w w' := by
  have R1 := Lib.hid s1
  have R2 := Lib.hid s2
  clear s1 s2
  go_enter Tryz.func27, Tryz.ntmps27
  go_wp2_with fail
  have hb0 : Below w.heap.size w ((w.alloc (.cells #[.string K, .slice a1 n c1] 57)).alloc (.cells #[.string K, .slice a2 n c2] 57)) := ((Below.refl _ _).alloc (Nat.le_refl _) _).alloc (by simp) _
  refine (eqCells_any a1 a2 n c1 c2 L _ hn (R1.out.later hb0) (R2.out.later hb0)).mono ?_
  rintro e w1 ⟨rfl, hb1⟩
  have hb2 : Below w.heap.size w w1 := hb0.trans (hb1.mono hb0.size)
  clear hb0 hb1
  go_wp2
  go_ret
  exact ⟨rfl, hb2⟩
end Go.Proofs.YtkfkjcadmdcbnaaGreatDoor
namespace Go.Proofs.YtkfkjcadmdcbnaaGreatDoor.Byt
open Go.RowKit Go.Proofs.YtkfkjcadmdcbnaaGreatDoor.Hexa Go.Lib

/-- Cells stored into a row whose frozen range lies behind its end. -/
theorem run_store (P : Program) (g o : Nat) (t : TypeId) (fz : Nat × Nat) : ∀ (vs : List Value) (i : Nat) (cur : Array Value) (w : World), w.heap[g]? = some (.cells cur t fz) → (fz = (0, 0) ∨ cur.size ≤ fz.1) → o + i + vs.length ≤ cur.size → (∀ v ∈ vs, v.oneCell' = true) →
    (storeCells ⟨g, o, none⟩ vs i).run P w = .ok () (w.setRow g (cur.toList.take (o + i) ++ vs ++ cur.toList.drop (o + i + vs.length)).toArray)
  | [], i, cur, w, hg, _, _, _ => by
    simp only [storeCells, List.append_nil, List.length_nil, Nat.add_zero, List.take_append_drop, Array.toArray_toList]
    rw [setRow_self w g cur t fz hg]
    rfl
  | v :: rest, i, cur, w, hg, hfz, hl, h1 => by
    have hi : o + i < cur.size := by simp at hl; omega
    have hadd : (⟨g, o, none⟩ : Addr).add i = ⟨g, o + i, none⟩ := by unfold Addr.add; split <;> simp_all
    have hcell : w.cell? ⟨g, o + i, none⟩ = some cur[o + i] := by simp [World.cell?, hg, hi]
    have hfro : w.frozen? ⟨g, o + i, none⟩ = false := by
      obtain ⟨lo, hi'⟩ := fz
      simp only [World.frozen?, hg, Bool.and_eq_false_iff, decide_eq_false_iff_not]
      rcases hfz with h | h
      · right; cases h; omega
      · left; simp only at h; omega
    have hst : (store ((⟨g, o, none⟩ : Addr).add i) v).run P w = .ok () (w.setRow g (cur.setIfInBounds (o + i) v)) := by
      rw [hadd, Go.run_store P w _ v _ (h1 v (by simp)), hcell]
      simp [hfro, setCell_eq_setRow w g (o + i) cur t fz v hg]
    have ih := run_store P g o t fz rest (i + 1) (cur.setIfInBounds (o + i) v) (w.setRow g (cur.setIfInBounds (o + i) v)) (setRow_heap w g cur _ t _ hg) (by simpa using hfz) (by simp at hl ⊢; omega) (fun x hx => h1 x (by simp [hx]))
    simp only [storeCells, Sem.run_bind, hst, Result.andThen_ok, ih, setRow_setRow]
    congr 3
    have e := list_seg_step cur.toList (o + i) v rest (by simp at hl ⊢; omega)
    simpa [Array.toList_setIfInBounds, Nat.add_assoc] using e

theorem bcells_length (l : List UInt8) : (bcells l).length = l.length := by simp [bcells]
theorem bcells_append (l m : List UInt8) : bcells (l ++ m) = bcells l ++ bcells m := by simp [bcells]
theorem bcells_one (l : List UInt8) : ∀ u ∈ bcells l, u.oneCell' = true := by
  intro u hu
  simp only [bcells, List.mem_map] at hu
  obtain ⟨b, _, rfl⟩ := hu
  rfl

/-- The value v holds the bytes l, in a row from block B on. -/
def Bytes (w : World) (B : Nat) (e : TypeId) (v : Value) (l : List UInt8) : Prop :=
  (v = .slice none 0 0 ∧ l = []) ∨
  ∃ g cap cur fz, v = .slice (some ⟨g, 0, none⟩) l.length cap ∧ B ≤ g ∧ w.heap[g]? = some (.cells cur e fz) ∧ (fz = (0, 0) ∨ cur.size ≤ fz.1) ∧ l.length ≤ cap ∧ cap ≤ maxLen ∧ cur.size = cap ∧ cur.toList.take l.length = bcells l

theorem bytes_room {w : World} {B : Nat} {e : TypeId} {g cap : Nat} {cur : Array Value} {fz : Nat × Nat} {l : List UInt8} (hb : B ≤ g) (hg : w.heap[g]? = some (.cells cur e fz)) (hfz : fz = (0, 0) ∨ cur.size ≤ fz.1) (hm : cap ≤ maxLen) (hs : cur.size = cap) (ht : cur.toList.take l.length = bcells l)
    (news : List UInt8) (hroom : l.length + news.length ≤ cap) :
    Bytes (w.setRow g (cur.toList.take l.length ++ bcells news ++ cur.toList.drop (l.length + news.length)).toArray) B e (.slice (some ⟨g, 0, none⟩) (l.length + news.length) cap) (l ++ news) := by
  have hsz : (cur.toList.take l.length ++ bcells news ++ cur.toList.drop (l.length + news.length)).toArray.size = cur.size := by
    simp only [List.size_toArray, List.length_append, List.length_take, List.length_drop, Array.length_toList, bcells_length]
    omega
  refine .inr ⟨g, cap, _, fz, by simp, hb, setRow_heap w g cur _ e _ hg, ?_, by simpa using hroom, hm, by rw [hsz, hs], ?_⟩
  · rw [hsz]; exact hfz
  · rw [ht, bcells_append]
    have : (l ++ news).length = (bcells l ++ bcells news).length := by simp [bcells]
    rw [this]
    exact List.take_left

theorem bytes_grown (w : World) {B : Nat} {e : TypeId} (l news : List UInt8) (cap : Nat) (hB : B ≤ w.heap.size) (hc : l.length + news.length ≤ cap) (hm : cap ≤ maxLen) (rest : Array Value) (hr : rest.size = cap - (l.length + news.length)) :
    Bytes (w.drew.alloc (.cells ((bcells l).toArray ++ (bcells news).toArray ++ rest) e)) B e (.slice (some ⟨w.heap.size, 0, none⟩) (l.length + news.length) cap) (l ++ news) := by
  refine .inr ⟨w.heap.size, cap, _, (0, 0), by simp, hB, heap_alloc_new w.drew _, .inl rfl, by simpa using hc, hm, ?_, ?_⟩
  · simp [bcells, hr]; omega
  · have : (l ++ news).length = (bcells l ++ bcells news).length := by simp [bcells]
    rw [this, bcells_append]
    simp only [Array.toList_append, List.append_assoc]
    rw [← List.append_assoc]
    exact List.take_left

theorem bytes_cells {w : World} {g _cap : Nat} {cur : Array Value} {e : TypeId} {fz : Nat × Nat} {l : List UInt8} (hg : w.heap[g]? = some (.cells cur e fz)) (ht : cur.toList.take l.length = bcells l) :
    ∀ j u, (bcells l)[j]? = some u → w.cell? ((⟨g, 0, none⟩ : Addr).add j) = some u := by
  intro j u hu
  have hadd : (⟨g, 0, none⟩ : Addr).add j = ⟨g, j, none⟩ := by unfold Addr.add; split <;> simp_all
  rw [hadd]
  rw [← ht, List.getElem?_take] at hu
  split at hu
  · simp only [World.cell?, hg]; simpa using hu
  · cases hu

theorem zeros_cells (n : Nat) : Builtin.zeroCells (Value.int .u8 0).cells n = (bcells (List.replicate n 0)).toArray := by
  simp only [Builtin.zeroCells, Value.cells, bcells]
  apply Array.ext
  · simp
  · intro i h1 h2
    simp [Nat.mod_one]

section
variable {P : Program} {t e : TypeId} {i : TypeInfo} (ht : P.underlying t = some (.slice e)) (hi : P.info? e = some i) (hz : i.zero = some (.int .u8 0)) (hs1 : i.size = 1) (hb1 : i.bytes = 1)
include ht hi hz hs1 hb1

/-- What an append yields: the bytes, and nothing below B is written. -/
def Out (P : Program) (args : Array TypeId) (ty : TypeId) (vs : Array Value) (w : World) (B : Nat) (e : TypeId) (l : List UInt8) : Prop :=
  ∃ v' w', (Builtin.append_ args ty vs).run P w = .ok v' w' ∧ Bytes w' B e v' l ∧ Below B w w'

omit ht hi hz hs1 hb1 in
theorem below_setRow (w : World) {B g : Nat} (h : B ≤ g) (cs : Array Value) : Below B w (w.setRow g cs) := ⟨rfl, rfl, rfl, by simp, fun k hk => setRow_other _ _ _ _ (by omega)⟩
omit ht hi hz hs1 hb1 in
theorem below_grown (w : World) {B : Nat} (h : B ≤ w.heap.size) (o : Obj) : Below B w (w.drew.alloc o) := ((Below.refl _ _).drew).alloc (by simpa using h) o

theorem append_cells (w : World) {B : Nat} {v : Value} {l : List UInt8} (h : Bytes w B e v l) (hB : B ≤ w.heap.size) (ty : TypeId) (ad : Addr) (c : Nat) (news : List UInt8) (hn : ∀ j u, (bcells news)[j]? = some u → w.cell? (ad.add j) = some u) (hl : l.length + news.length ≤ 1000000000) :
    Out P #[t, t] ty #[v, .slice (some ad) news.length c] w B e (l ++ news) := by
  rcases h with ⟨rfl, rfl⟩ | ⟨g, cap, cur, fz, rfl, hb, hg, hfz, hlc, hm, hcs, htk⟩
  · obtain ⟨v', w', r1, r2, r3, r4⟩ := run_append_own (P := P) w B t ty e i (.int .u8 0) 1 1 ht hi hz hs1 hb1 rfl (by decide) (.slice none 0 0) 0 [] ⟨rfl, .inl ⟨rfl, rfl⟩⟩ ad news.length c (bcells news) (by simp [bcells]) hn (bcells_one _) (by simp at hl; unfold maxLen; omega) (by simp at hl; omega) hB
    refine ⟨v', w', r1, ?_, (Below.refl _ _).grown r3 hB (fun k h => by cases h)⟩
    rcases r2.2 with ⟨rfl, hn0⟩ | ⟨g, cap, cur, rfl, h1, h2, h3, h4, h5, h6⟩
    · left
      refine ⟨rfl, List.eq_nil_of_length_eq_zero (by simpa using hn0)⟩
    · right
      simp at h3 h5 h6
      exact ⟨g, cap, cur, (0, 0), by simp, h1, h2, .inl rfl, by simpa using h3, h4, h5, by simpa using h6⟩
  · by_cases hroom : l.length + news.length ≤ cap
    · have hf := run_firstCells_some (P := P) w 1 news.length ad news.length c (bcells news) (by simp [bcells]) hn
      have hst := run_store P g l.length e fz (bcells news) 0 cur w hg hfz (by simp [bcells]; omega) (bcells_one _)
      simp only [Nat.add_zero, bcells_length] at hst
      refine ⟨_, _, ?_, bytes_room hb hg hfz hm hcs htk news hroom, below_setRow w hb _⟩
      simp [Builtin.append_, run_underlying ht, sizeOf, typeInfo, hi, hs1, Builtin.lenOf, hroom, hf, Addr.add_lit, hst]
    · have hr := run_append_grow (P := P) w t ty e i (.int .u8 0) ht hi hz ⟨g, 0, none⟩ l.length cap (bcells l) (by simp [bcells, hs1]) (bytes_cells (_cap := cap) hg htk) ad news.length c (bcells news) (by simp [bcells, hs1]) hn (by omega) (by omega) (growslice_fits (by omega) (by rw [hb1]; omega))
      have hge := grownCap_ge w (l.length + news.length) cap e
      have hcm := grownCap_le_maxLen w (l.length + news.length) cap e (by unfold maxLen; omega)
      refine ⟨_, _, hr, bytes_grown w l news _ hB hge hcm _ ?_, below_grown w hB _⟩
      simp [Builtin.zeroCells, Value.cells]

theorem append_text {u : TypeId} (hu : P.underlying u = some .string) (w : World) {B : Nat} {v : Value} {l : List UInt8} (h : Bytes w B e v l) (hB : B ≤ w.heap.size) (ty : TypeId) (s : ByteArray) (hl : l.length + s.size ≤ 1000000000) :
    Out P #[t, u] ty #[v, .string s] w B e (l ++ s.data.toList) := by
  have hls : s.data.toList.length = s.size := by simp
  rcases h with ⟨rfl, rfl⟩ | ⟨g, cap, cur, fz, rfl, hb, hg, hfz, hlc, hm, hcs, htk⟩
  · obtain ⟨v', w', r1, r2, r3, r4⟩ := run_append_own_string (P := P) w B t u ty e i ht hu hi hz hs1 hb1 (.slice none 0 0) 0 [] ⟨rfl, .inl ⟨rfl, rfl⟩⟩ s (by simp at hl; unfold maxLen; omega) (by simp at hl; omega) hB
    refine ⟨v', w', r1, ?_, (Below.refl _ _).grown r3 hB (fun k h => by cases h)⟩
    rcases r2.2 with ⟨rfl, hn0⟩ | ⟨g, cap, cur, rfl, h1, h2, h3, h4, h5, h6⟩
    · left
      refine ⟨rfl, List.eq_nil_of_length_eq_zero (by simp at hn0 ⊢; simpa using hn0)⟩
    · right
      simp at h3 h5 h6
      exact ⟨g, cap, cur, (0, 0), by simp, h1, h2, .inl rfl, by simpa using h3, h4, h5, by simpa [bcells, strCells] using h6⟩
  · by_cases hroom : l.length + s.size ≤ cap
    · have hf := run_firstCells_string (P := P) w 1 s
      have hst := run_store P g l.length e fz (strCells s) 0 cur w hg hfz (by simp [strCells_length]; omega) (strCells_oneCell s)
      simp only [Nat.add_zero, strCells_length] at hst
      have hbr := bytes_room hb hg hfz hm hcs htk s.data.toList (by rw [hls]; exact hroom)
      rw [hls] at hbr
      refine ⟨_, _, ?_, hbr, below_setRow w hb _⟩
      simp [Builtin.append_, run_underlying ht, run_underlying hu, sizeOf, typeInfo, hi, hs1, Builtin.lenOf, hroom, hf, Addr.add_lit, hst]
      rfl
    · have hr := run_append_grow_string (P := P) w t u ty e i (.int .u8 0) ht hu hi hz ⟨g, 0, none⟩ l.length cap (bcells l) (by simp [bcells, hs1]) (bytes_cells (_cap := cap) hg htk) s (by omega) (by omega) (growslice_fits (by omega) (by rw [hb1]; omega))
      have hge := grownCap_ge w (l.length + s.size) cap e
      have hcm := grownCap_le_maxLen w (l.length + s.size) cap e (by unfold maxLen; omega)
      have hbg := bytes_grown w (e := e) l s.data.toList _ hB (by rw [hls]; exact hge) hcm (Builtin.zeroCells (Value.int .u8 0).cells (grownCap w (l.length + s.size) cap e - (l.length + s.size))) (by simp [Builtin.zeroCells, Value.cells])
      rw [hls] at hbg
      exact ⟨_, _, hr, hbg, below_grown w hB _⟩

theorem append_zeros {u : TypeId} {kn kq : IntKind} (hu : P.underlying u = some (.int kn)) (w : World) {B : Nat} {v : Value} {l : List UInt8} (h : Bytes w B e v l) (hB : B ≤ w.heap.size) (hv : v ≠ .slice none 0 0) (ty : TypeId) (k : Nat) (hl : l.length + k ≤ 1000000000) :
    Out P #[t, u] ty #[v, .int kq k] w B e (l ++ List.replicate k 0) := by
  have hls : (List.replicate k (0 : UInt8)).length = k := by simp
  rcases h with ⟨rfl, rfl⟩ | ⟨g, cap, cur, fz, rfl, hb, hg, hfz, hlc, hm, hcs, htk⟩
  · exact absurd rfl hv
  · by_cases hroom : l.length + k ≤ cap
    · have hst := run_store P g l.length e fz (bcells (List.replicate k 0)) 0 cur w hg hfz (by simp [bcells]; omega) (bcells_one _)
      simp only [Nat.add_zero, bcells_length, hls] at hst
      have hbr := bytes_room hb hg hfz hm hcs htk (List.replicate k 0) (by rw [hls]; exact hroom)
      rw [hls] at hbr
      refine ⟨_, _, ?_, hbr, below_setRow w hb _⟩
      have hw : IntKind.i64.wrap (k : Int) = k := by rw [IntKind.wrap_i64]; omega
      have hneg : ¬ ((k : Int) < 0) := by omega
      have h48i : ¬ (281474976710656 < (k : Int)) := by omega
      by_cases hk : k = 0
      · subst hk
        simp at hst hroom
        have hw0 : IntKind.i64.wrap 0 = 0 := rfl
        simp [bcells] at hst
        simp [Builtin.append_, run_underlying ht, run_underlying hu, sizeOf, typeInfo, zeroValue, hi, hs1, hb1, hz, asInt, asIntOf, hw0, hroom, Addr.add_lit, hst, bcells]
      · simp [Builtin.append_, run_underlying ht, run_underlying hu, sizeOf, typeInfo, zeroValue, hi, hs1, hb1, hz, asInt, asIntOf, hw, hneg, h48i, hk, hroom, Addr.add_lit, zeros_cells, hst]
    · have hk : 0 < k := by omega
      have hfo := run_firstCells_some (P := P) w.drew i.size l.length ⟨g, 0, none⟩ l.length cap (bcells l) (by simp [bcells, hs1]) (by simpa using bytes_cells (_cap := cap) hg htk)
      have hr := run_append_grow_zeros (P := P) w t u ty e i (.int .u8 0) kq kn ht hu hi hz (some ⟨g, 0, none⟩) l.length cap (bcells l) hfo k hk (by omega) (by omega) (by omega) (by rw [hb1]; omega) (growslice_fits (by omega) (by rw [hb1]; omega))
      have hge := grownCap_ge w (l.length + k) cap e
      have hcm := grownCap_le_maxLen w (l.length + k) cap e (by unfold maxLen; omega)
      have hbg := bytes_grown w (e := e) l (List.replicate k 0) _ hB (by rw [hls]; exact hge) hcm (Builtin.zeroCells (Value.int .u8 0).cells (grownCap w (l.length + k) cap e - (l.length + k))) (by simp [Builtin.zeroCells, Value.cells])
      rw [hls] at hbg
      rw [zeros_cells k] at hr
      exact ⟨_, _, hr, hbg, below_grown w hB _⟩
end

theorem bytes_alloc {w : World} {B : Nat} {e : TypeId} {v : Value} {l : List UInt8} (h : Bytes w B e v l) (o : Obj) : Bytes (w.alloc o) B e v l := by
  rcases h with h | ⟨g, cap, cur, fz, rfl, hb, hg, r⟩
  · exact .inl h
  · refine .inr ⟨g, cap, cur, fz, rfl, hb, ?_, r⟩
    rw [Below.heap_alloc _ _ _ (Array.getElem?_eq_some_iff.1 hg).1]; exact hg

/-- The slice that '[]byte(s)' makes. -/
theorem bytes_conv (w : World) (e : TypeId) (s : ByteArray) (B : Nat) (hB : B ≤ w.heap.size) (hs : s.size ≤ 1000000000) :
    Bytes (w.drew.alloc (.cells (bytesRow s (grownCap w s.size 0 e)) e ((bytesRow s (grownCap w s.size 0 e)).size, (bytesRow s (grownCap w s.size 0 e)).size + 1))) B e (.slice (some ⟨w.heap.size, 0, none⟩) s.size (grownCap w s.size 0 e)) s.data.toList := by
  have hge := grownCap_ge w s.size 0 e
  have hcm := grownCap_le_maxLen w s.size 0 e (by unfold maxLen; omega)
  have hds : s.data.size = s.size := rfl
  refine .inr ⟨w.heap.size, _, _, _, by simp, hB, heap_alloc_new w.drew _, .inr (Nat.le_refl _), by simpa using hge, hcm, ?_, ?_⟩
  · simp [bytesRow]; omega
  · simp only [bytesRow, Array.toList_append]
    have : s.data.toList.length = (s.data.map (fun b => Value.int .u8 b.toNat)).toList.length := by simp
    rw [this, List.take_left]
    simp [bcells]

/-- 'string(b)'. -/
theorem bytes_string {P : Program} {w : World} {B e : Nat} {v : Value} {l : List UInt8} (src dst : TypeId)
    (hs : P.underlying src = some (.slice e)) (he : P.underlying e = some (.int .u8)) (hd : P.underlying dst = some .string)
    (h : Bytes w B e v l) : (convert src dst v).run P w = .ok (.string ⟨l.toArray⟩) w := by
  rcases h with ⟨rfl, rfl⟩ | ⟨g, cap, cur, fz, rfl, _, hg, _, _, _, _, htk⟩
  · exact run_convert_bytes_nil w src e hs he 0 0 dst hd
  · refine run_convert_bytes_back w src dst e _ cap l hs he hd fun j hj => ?_
    exact bytes_cells (_cap := cap) hg htk j _ (by simp [bcells, hj])

theorem bytes_of_own {w : World} {B e : Nat} {v : Value} {l : List UInt8} (h : w.ownsRow B e 1 v l.length (bcells l)) : Bytes w B e v l := by
  rcases h.2 with ⟨rfl, hn0⟩ | ⟨g, cap, cur, rfl, h1, h2, h3, h4, h5, h6⟩
  · exact .inl ⟨rfl, List.eq_nil_of_length_eq_zero hn0⟩
  · simp at h5 h6
    exact .inr ⟨g, cap, cur, (0, 0), rfl, h1, h2, .inl rfl, h3, h4, h5, h6⟩

theorem bytes_len {w : World} {B e : Nat} {v : Value} {l : List UInt8} (h : Bytes w B e v l) : ∃ a c, v = .slice a l.length c := by
  rcases h with ⟨rfl, rfl⟩ | ⟨g, cap, cur, fz, rfl, _⟩
  · exact ⟨none, 0, rfl⟩
  · exact ⟨_, _, rfl⟩

/-- The operation, for the walk. -/
theorem wpList_append_out {P : Program} {ops : Array Oper} {rest : List Oper} {o : Oper} {a : Act} {w : World} {Q : Exit → Act → World → Prop} (hgd : o.guard = none) (s x : Operand) (t tn : TypeId)
    (ho : o.op = .call { callee := .builtin .append, args := #[s, x], argTypes := #[t, tn] }) (vs vx : Value) (hs : a.eval s = vs) (hx : a.eval x = vx) {B : Nat} {e : TypeId} {l : List UInt8}
    (hr : Out P #[t, tn] o.type #[vs, vx] w B e l) (h : ∀ v' w', Bytes w' B e v' l → Below B w w' → wpList P ops Q rest (a.put o.dst v') w') : wpList P ops Q (o :: rest) a w := by
  obtain ⟨v', w', r, h1, h2⟩ := hr
  exact Lib.wpList_append_run w hgd s x t tn ho vs vx hs hx v' w' r (h v' w' h1 h2)
end Go.Proofs.YtkfkjcadmdcbnaaGreatDoor.Byt
namespace Go.Proofs.YtkfkjcadmdcbnaaGreatDoor.BitsM
open Go.RowKit

theorem bv8 (a : UInt8) : BitVec.ofInt 8 (a.toNat : Int) = a.toBitVec := by
  apply BitVec.eq_of_toNat_eq
  have := a.toNat_lt
  rw [BitVec.ofInt_natCast, BitVec.toNat_ofNat]
  exact Nat.mod_eq_of_lt (by simpa using this)
theorem wrap8 (b : BitVec 8) : IntKind.u8.wrap (b.toNat : Int) = ((⟨b⟩ : UInt8).toNat : Int) := by
  have := b.isLt
  rw [IntKind.wrap_u8]
  show (b.toNat : Int) % 256 = (b.toNat : Int)
  omega
theorem xor8 (a b : UInt8) : bits .xor .u8 (a.toNat : Int) (b.toNat : Int) = ((a ^^^ b).toNat : Int) := by
  show IntKind.u8.wrap ((BitVec.ofInt 8 (a.toNat : Int) ^^^ BitVec.ofInt 8 (b.toNat : Int)).toNat : Int) = _
  rw [bv8, bv8, wrap8]; rfl
theorem or8 (a b : UInt8) : bits .or .u8 (a.toNat : Int) (b.toNat : Int) = ((a ||| b).toNat : Int) := by
  show IntKind.u8.wrap ((BitVec.ofInt 8 (a.toNat : Int) ||| BitVec.ofInt 8 (b.toNat : Int)).toNat : Int) = _
  rw [bv8, bv8, wrap8]; rfl
theorem and8 (a b : UInt8) : bits .and .u8 (a.toNat : Int) (b.toNat : Int) = ((a &&& b).toNat : Int) := by
  show IntKind.u8.wrap ((BitVec.ofInt 8 (a.toNat : Int) &&& BitVec.ofInt 8 (b.toNat : Int)).toNat : Int) = _
  rw [bv8, bv8, wrap8]; rfl

theorem bv64 (a : Nat) (_h : a < 9223372036854775808) : BitVec.ofInt 64 (a : Int) = BitVec.ofNat 64 a := by
  rw [BitVec.ofInt_natCast]
theorem wrap64 (n : Nat) (h : n < 9223372036854775808) : IntKind.i64.wrap (n : Int) = (n : Int) := IntWalk.i64_in _ (by omega)
theorem or64 (a b : Nat) (ha : a < 9223372036854775808) (hb : b < 9223372036854775808) : bits .or .i64 (a : Int) (b : Int) = ((a ||| b : Nat) : Int) := by
  show IntKind.i64.wrap ((BitVec.ofInt 64 (a : Int) ||| BitVec.ofInt 64 (b : Int)).toNat : Int) = _
  have h := Nat.or_lt_two_pow (n := 63) ha hb
  rw [bv64 a ha, bv64 b hb, BitVec.toNat_or, BitVec.toNat_ofNat, BitVec.toNat_ofNat, Nat.mod_eq_of_lt (by omega), Nat.mod_eq_of_lt (by omega), wrap64 _ h]
theorem xor64 (a b : Nat) (ha : a < 9223372036854775808) (hb : b < 9223372036854775808) : bits .xor .i64 (a : Int) (b : Int) = ((a ^^^ b : Nat) : Int) := by
  show IntKind.i64.wrap ((BitVec.ofInt 64 (a : Int) ^^^ BitVec.ofInt 64 (b : Int)).toNat : Int) = _
  have h := Nat.xor_lt_two_pow (n := 63) ha hb
  rw [bv64 a ha, bv64 b hb, BitVec.toNat_xor, BitVec.toNat_ofNat, BitVec.toNat_ofNat, Nat.mod_eq_of_lt (by omega), Nat.mod_eq_of_lt (by omega), wrap64 _ h]
theorem and64 (a b : Nat) (ha : a < 9223372036854775808) (hb : b < 9223372036854775808) : bits .and .i64 (a : Int) (b : Int) = ((a &&& b : Nat) : Int) := by
  show IntKind.i64.wrap ((BitVec.ofInt 64 (a : Int) &&& BitVec.ofInt 64 (b : Int)).toNat : Int) = _
  have h := Nat.and_lt_two_pow (n := 63) a hb
  rw [bv64 a ha, bv64 b hb, BitVec.toNat_and, BitVec.toNat_ofNat, BitVec.toNat_ofNat, Nat.mod_eq_of_lt (by omega), Nat.mod_eq_of_lt (by omega), wrap64 _ h]
end Go.Proofs.YtkfkjcadmdcbnaaGreatDoor.BitsM
namespace Go.Proofs.YtkfkjcadmdcbnaaGreatDoor
open Go.RowKit Go.Proofs.YtkfkjcadmdcbnaaGreatDoor.Hexa Go.Proofs.YtkfkjcadmdcbnaaGreatDoor.Byt Go.Proofs.YtkfkjcadmdcbnaaGreatDoor.BitsM

theorem infoByte : (Tryz.prog.info? 5).map (fun i => (i.zero, i.size, i.bytes)) = some (some (.int .u8 0), 1, 1) := by kernel_rfl
/-- One byte appended, in the block of the walk's own one-cell slice. -/
theorem outB (w : World) {B : Nat} {v : Value} {l : List UInt8} (h : Bytes w B 5 v l) (hB : B ≤ w.heap.size) (ty : TypeId) (c : UInt8) (x : Int) (hx : x = c.toNat) (hl : l.length ≤ 100000000) :
    Out Tryz.prog #[22, 22] ty #[v, .slice (some ⟨w.heap.size, 0, none⟩) 1 1] (w.alloc (.cells #[.int .u8 x] 5)) B 5 (l ++ [c]) := by
  obtain ⟨i0, hi, hz0, hz1, hz2⟩ := info_parts infoByte
  subst hx
  refine append_cells Tryz.underlying22 hi hz0 hz1 hz2 _ (bytes_alloc h _) (by simp; omega) ty ⟨w.heap.size, 0, none⟩ 1 [c] ?_ (by simp; omega)
  exact World.news_of_block (heap_alloc_new _ _)

/-- One byte n times. -/
def longB (n : Nat) (x : UInt8) : ByteArray := ⟨(List.replicate n x).toArray⟩
theorem longB_size (n : Nat) (x : UInt8) : (longB n x).size = n := by show (List.replicate n x).toArray.size = n; simp

theorem bytes_set {w : World} {B e g c : Nat} {l : List UInt8} (h : Bytes w B e (.slice (some ⟨g, 0, none⟩) l.length c) l) (k : Nat) (x : UInt8) :
    Bytes (w.setCell ⟨g, k, none⟩ (.int .u8 x.toNat)) B e (.slice (some ⟨g, 0, none⟩) l.length c) (l.set k x) := by
  rcases h with ⟨h, _⟩ | ⟨g', cap, cur, fz, hv, hb, hg, hfz, hlc, hm, hcs, htk⟩
  · cases h
  · simp at hv
    obtain ⟨rfl, rfl⟩ := hv
    rw [setCell_eq_setRow w g k cur e fz _ hg]
    refine .inr ⟨g, c, _, fz, by simp, hb, setRow_heap w g cur _ e fz hg, by simpa using hfz, by simpa using hlc, hm, by simpa using hcs, ?_⟩
    rw [Array.toList_setIfInBounds, List.length_set, List.take_set, htk]
    simp [bcells, List.map_set]
theorem bytes_at {w : World} {B e g c : Nat} {l : List UInt8} (h : Bytes w B e (.slice (some ⟨g, 0, none⟩) l.length c) l) (k : Nat) (hk : k < l.length) :
    w.cell? ⟨g, k, none⟩ = some (.int .u8 (l[k]).toNat) ∧ w.frozen? ⟨g, k, none⟩ = false ∧ B ≤ g := by
  rcases h with ⟨h, _⟩ | ⟨g', cap, cur, fz, hv, hb, hg, hfz, hlc, hm, hcs, htk⟩
  · cases h
  · simp at hv
    obtain ⟨rfl, rfl⟩ := hv
    refine ⟨?_, ?_, hb⟩
    · have := bytes_cells (_cap := c) hg htk k (.int .u8 (l[k]).toNat) (by simp [bcells, hk])
      have hadd : (⟨g, 0, none⟩ : Addr).add k = ⟨g, k, none⟩ := by unfold Addr.add; split <;> simp_all
      rwa [hadd] at this
    · obtain ⟨lo, hi'⟩ := fz
      simp only [World.frozen?, hg, Bool.and_eq_false_iff, decide_eq_false_iff_not]
      rcases hfz with h | h
      · right; cases h; omega
      · left; simp only at h; omega

end Go.Proofs.YtkfkjcadmdcbnaaGreatDoor
namespace Go.Proofs.YtkfkjcadmdcbnaaGreatDoor
open Go.RowKit Go.Proofs.YtkfkjcadmdcbnaaGreatDoor.Hexa Go.Proofs.YtkfkjcadmdcbnaaGreatDoor.Byt Go.Proofs.YtkfkjcadmdcbnaaGreatDoor.BitsM

set_option maxRecDepth 100000 in
set_option maxHeartbeats 400000 in
theorem range_any (n a b : Int) (w : World) : Calls Tryz.prog 105 #[.int .i64 n, .int .i64 a, .int .i64 b] w fun e w' => e = .returned (.bool (decide (a ≤ n ∧ n ≤ b))) ∧ w' = w := by
  by_cases h1 : a ≤ n <;> by_cases h2 : n ≤ b
  all_goals
    go_enter Tryz.func105, Tryz.ntmps105
    go_wp2
    all_goals go_ret
    all_goals exact ⟨by simp [h1, h2], rfl⟩
theorem range_yes {n a b : Int} (w : World) (h : a ≤ n ∧ n ≤ b) : Calls Tryz.prog 105 #[.int .i64 n, .int .i64 a, .int .i64 b] w fun e w' => e = .returned (.bool true) ∧ w' = w :=
  (range_any n a b w).mono fun _ _ ⟨he, hw⟩ => ⟨by rw [he, decide_eq_true h], hw⟩
theorem range_no {n a b : Int} (w : World) (h : ¬ (a ≤ n ∧ n ≤ b)) : Calls Tryz.prog 105 #[.int .i64 n, .int .i64 a, .int .i64 b] w fun e w' => e = .returned (.bool false) ∧ w' = w :=
  (range_any n a b w).mono fun _ _ ⟨he, hw⟩ => ⟨by rw [he, decide_eq_false h], hw⟩
end Go.Proofs.YtkfkjcadmdcbnaaGreatDoor
namespace Go.Proofs.YtkfkjcadmdcbnaaGreatDoor
open Go.RowKit

/-- Block b holds just these cells. -/
def Bk (w : World) (b : Nat) (cs : Array Value) (t : TypeId) : Prop := w.heap[b]? = some (.cells cs t (0, 0))
section
variable {w w' : World} {b : Nat} {cs : Array Value} {t : TypeId}
theorem Bk.lt (h : Bk w b cs t) : b < w.heap.size := (Array.getElem?_eq_some_iff.1 h).1
theorem Bk.later (h : Bk w b cs t) (hb : Below w.heap.size w w') : Bk w' b cs t := (hb.block b h.lt).trans h
theorem Bk.drew (h : Bk w b cs t) : Bk w.drew b cs t := h
theorem Bk.alloc (w : World) (cs : Array Value) (t : TypeId) : Bk (w.alloc (.cells cs t)) w.heap.size cs t := heap_alloc_new w _
theorem Bk.cell (h : Bk w b cs t) {j : Nat} {v : Value} (hv : cs[j]? = some v) : w.cell? ⟨b, j, none⟩ = some v := by unfold Bk at h; simp [World.cell?, h, hv]
theorem Bk.fr (h : Bk w b cs t) {o : Nat} : w.frozen? ⟨b, o, none⟩ = false := by unfold Bk at h; simp [World.frozen?, h]
theorem Bk.set (h : Bk w b cs t) (j : Nat) (v : Value) : Bk (w.setCell ⟨b, j, none⟩ v) b (cs.setIfInBounds j v) t := heap_setCell_same w b j cs t v h
theorem Bk.other (h : Bk w b cs t) {c o : Nat} (hne : b ≠ c) (v : Value) : Bk (w.setCell ⟨c, o, none⟩ v) b cs t := (Below.heap_setCell _ _ _ _ hne).trans h
theorem Bk.grown {r : Option Nat} (h : Bk w b cs t) (hg : w.grownBy w' r) (hne : r ≠ some b) : Bk w' b cs t := (hg.block b h.lt (fun e => hne e.symm)).trans h
end
theorem below_bk (w : World) (o : Obj) : Below w.heap.size w (w.alloc o) := (Below.refl _ _).alloc (Nat.le_refl _) _
end Go.Proofs.YtkfkjcadmdcbnaaGreatDoor
namespace Go.Proofs.YtkfkjcadmdcbnaaGreatDoor
open Go.RowKit

theorem below_drewsN {B : Nat} {a w : World} (h : Below B a w) (m : Nat) : Below B a (w.drewN m) := ⟨h.os, h.tape, h.output, h.size, h.block⟩
end Go.Proofs.YtkfkjcadmdcbnaaGreatDoor
namespace Go.Proofs.YtkfkjcadmdcbnaaGreatDoor
open Go.RowKit Go.Proofs.YtkfkjcadmdcbnaaGreatDoor.Parts Go.Proofs.YtkfkjcadmdcbnaaGreatDoor.Hexa

theorem ret_boolm {a b : Bool} (h : a = b) : Ending.returned (.bool a) = .returned (.bool b) := by rw [h]

set_option maxRecDepth 100000 in
set_option maxHeartbeats 400000 in
theorem size_any (w : World) : Calls Tryz.prog 118 #[] w fun e w' => e = .returned (.int .i64 16) ∧ w' = w := by
  go_enter Tryz.func118, Tryz.ntmps118
  go_wp2
  go_ret
  exact ⟨rfl, rfl⟩

/-- A call that leaves the world alone, in a region behind another one that drew. -/
theorem quiet_anew {P : Program} {f : FuncId} {args : Array Value} {w : World} {a n : Nat} {v : Value} (c : ∀ W : World, Calls P f args W fun e w' => e = .returned v ∧ w' = W) :
    Calls P f args (w.drewN (a + n)) fun e w'' => e = .returned v ∧ ∃ m, w'' = w.drewN (a + m) :=
  (c _).mono fun _ _ ⟨he, hw⟩ => ⟨he, n, hw⟩
theorem ok_bad {K : ByteArray} {L : List C3} {k : Nat} (hk : k < L.length) (h : ¬ CellOk K L k) : ¬ MemOk K L := fun x => h (x.2.2 k hk)
theorem below_two {w w' : World} {u v : Value} {t : TypeId} (h : Below (w.heap.size + 1) (w.alloc (.cells #[u, v] t)) w') : w'.heap[w.heap.size]? = some (.cells #[u, v] t (0, 0)) :=
  (h.block _ (by omega)).trans (heap_alloc_new _ _)

set_option maxRecDepth 100000 in
set_option maxHeartbeats 2000000 in
theorem specOk_any (K : ByteArray) (a : Option Addr) (n c : Nat) (L : List C3) (w : World) (hs : SrcC w a n L) (hn : n ≤ 1048600) (hK : K.size ≤ 1048600) :
    Calls Tryz.prog 61 #[.agg #[.string K, .slice a n c]] w fun e w' => e = .returned (.bool (memOkB K L)) ∧ Below w.heap.size w w' := by
  have HS := Lib.hid hs
  have HL := Lib.hid hs.len
  have hw16 : IntKind.i64.wrap 16000 = 16000 := by decide
  clear hs
  have hb0 : Below w.heap.size w (w.alloc (.cells #[.string K, .slice a n c] 57)) := (Below.refl _ _).alloc (Nat.le_refl _) _
  have B0 := Lib.hid hb0
  clear hb0
  by_cases h1 : K.size % 16 = 0
  · have hm3 : (K.size : Int) % 16 = 0 := by omega
    by_cases h2 : K.size ≤ 16000
    · have hd3 : ((K.size / 16 : Nat) : Int) = (K.size : Int) / 16 := by omega
      have hd4 : (0 : Int) ≤ (K.size : Int) / 16 ∧ (K.size : Int) / 16 ≤ 1000 := by omega
      go_enter Tryz.func61, Tryz.ntmps61
      go_wp2
      go_quiet ((go_at_call 118; exact Calls.quiet_of_same (size_any _)))
      go_wp2
      go_loopw [3] (fun iv wr => ∃ k : Nat, k ≤ n ∧ iv = .int .i64 k ∧ Hid (∀ j, j < k → CellOk K L j) ∧ Hid (Below (w.heap.size + 1) (w.alloc (.cells #[.string K, .slice a n c] 57)) wr)) (fun iv _ => n - (intOf iv).toNat)
      case atStart => exact ⟨0, Nat.zero_le _, rfl, Lib.hid (fun j hj => by omega), Lib.hid (below_drewsN (Below.refl _ _) _)⟩
      case round =>
        obtain ⟨k, hk, rfl, HA, HB⟩ := hrel
        have BW : Hid (Below w.heap.size w wr) := Lib.hid (B0.out.trans (HB.out.mono (by omega)))
        have k0 := below_two HB.out
        have q0 := cell0_of_two k0
        have q1 := cell1_of_two k0
        have hsz : Hid (w.heap.size + 1 ≤ wr.heap.size) := Lib.hid (by have := HB.out.size; simp at this; omega)
        clear k0
        by_cases hlt : k < n
        · obtain ⟨g, off, ha, hg, d1, d2, d3⟩ := HS.out.cells3_at BW.out (Nat.le_refl _) k hlt
          obtain ⟨x, hx⟩ : ∃ x, L.getD k default = x := ⟨_, rfl⟩
          rw [hx] at d1 d2 d3
          have B1 : Hid (Below (w.heap.size + 1) (w.alloc (.cells #[.string K, .slice a n c] 57)) (wr.alloc (.cells #[.int .i64 x.l, .string x.t, .bool x.f] 135))) := Lib.hid (HB.out.alloc hsz.out _)
          have hpr : Hid (∀ j, j < n → ∃ v, w.cell? ⟨g, off + j * 3, none⟩ = some (.int .i64 v) ∧ v = (L.getD j default).l) := Lib.hid (fun j hj => by
            obtain ⟨g', off', ha', _, c1, _, _⟩ := HS.out.cells3 j hj
            rw [ha] at ha'; cases ha'
            exact ⟨_, c1, rfl⟩)
          have z0 := cell0_of_two (below_two B1.out)
          have z1 := cell1_of_two (below_two B1.out)
          subst ha
          by_cases i1 : 0 ≤ x.l ∧ x.l ≤ (K.size : Int) / 16 - 1
          · have I1 := Lib.hid i1
            clear i1
            by_cases i2 : x.t.size = 16
            · have hi2 : (x.t.size : Int) = 16 := by omega
              match k with
              | 0 =>
                have HX := Lib.hid hx
                clear hx
                simp only [Nat.zero_mul, Nat.add_zero] at d1 d2 d3
                go_wp2
                go_quiet (first
                  | (go_at_call 118; exact Calls.quiet_of_same (size_any _))
                  | (go_at_call 105; exact Calls.quiet_of_same (range_yes _ I1.out)))
                go_wp2
                go_roundw
                case rel => exact ⟨1, by omega, rfl, Lib.hid (fun j hj => by
                  obtain rfl : j = 0 := by omega
                  unfold CellOk
                  rw [HX.out]
                  have := I1.out
                  exact ⟨by omega, by omega, i2, fun h => by omega⟩), Lib.hid (below_drewsN B1.out _)⟩
                case measure => (simp [intOf]; try omega)
              | k + 1 =>
                obtain ⟨yv, hy1, hy2⟩ := hpr.out k (by omega)
                have p1 := ((BW.out.alloc (by have := hsz.out; omega) (.cells #[.int .i64 x.l, .string x.t, .bool x.f] 135)).cell (p := ⟨g, off + k * 3, none⟩) hg).trans hy1
                have HX := Lib.hid hx
                have HY := Lib.hid hy2
                clear hx hy1 hy2
                by_cases i3 : yv < x.l
                · go_wp2
                  go_quiet (first
                    | (go_at_call 118; exact Calls.quiet_of_same (size_any _))
                    | (go_at_call 105; exact Calls.quiet_of_same (range_yes _ I1.out)))
                  go_wp2
                  go_roundw
                  case rel => exact ⟨k + 2, by omega, by go_num, Lib.hid (fun j hj => by
                    by_cases e : j = k + 1
                    · subst e
                      unfold CellOk
                      rw [HX.out]
                      have := I1.out
                      have hyy := HY.out
                      exact ⟨by omega, by omega, i2, fun _ => by rw [show k + 1 - 1 = k by omega, ← hyy]; exact i3⟩
                    · exact HA.out j (by omega)), Lib.hid (below_drewsN B1.out _)⟩
                  case measure => (simp [intOf]; try omega)
                · have HT : Hid (¬ MemOk K L) := Lib.hid (ok_bad (k := k + 1) (by have := HL.out; omega) (fun h => by
                    have h4 := h.2.2.2 (by omega)
                    rw [HX.out, show k + 1 - 1 = k by omega, ← HY.out] at h4
                    exact i3 h4))
                  have i4 : x.l ≤ yv := by omega
                  go_wp2
                  go_quiet (first
                    | (go_at_call 118; exact Calls.quiet_of_same (size_any _))
                    | (go_at_call 105; exact Calls.quiet_of_same (range_yes _ I1.out)))
                  go_wp2
                  go_ret
                  exact ⟨ret_boolm (memOkB_no HT.out).symm, below_drewsN (B0.out.trans (B1.out.mono (by omega))) _⟩
            · have hi2 : ((x.t.size : Int) != 16) = true := by have : ¬ ((x.t.size : Int) = 16) := by omega
                                                               simpa using this
              have HT : Hid (¬ MemOk K L) := Lib.hid (ok_bad (k := k) (by have := HL.out; omega) (fun h => i2 (by rw [← hx]; exact h.2.2.1)))
              go_wp2
              go_quiet (first
                | (go_at_call 118; exact Calls.quiet_of_same (size_any _))
                | (go_at_call 105; exact Calls.quiet_of_same (range_yes _ I1.out)))
              go_wp2
              go_ret
              exact ⟨ret_boolm (memOkB_no HT.out).symm, below_drewsN (B0.out.trans (B1.out.mono (by omega))) _⟩
          · have I1 := Lib.hid i1
            have HT : Hid (¬ MemOk K L) := Lib.hid (ok_bad (k := k) (by have := HL.out; omega) (fun h => i1 (by rw [← hx]; exact ⟨h.1, by have := h.2.1; omega⟩)))
            clear i1
            go_wp2
            go_quiet (first
              | (go_at_call 118; exact Calls.quiet_of_same (size_any _))
              | (go_at_call 105; exact Calls.quiet_of_same (range_no _ I1.out)))
            go_wp2
            go_ret
            exact ⟨ret_boolm (memOkB_no HT.out).symm, below_drewsN (B0.out.trans (B1.out.mono (by omega))) _⟩
        · obtain rfl : k = n := by omega
          have HT : Hid (MemOk K L) := Lib.hid ⟨h1, h2, fun j hj => HA.out j (by rw [HL.out] at hj; exact hj)⟩
          go_wp2
          go_ret
          exact ⟨ret_boolm (memOkB_yes HT.out).symm, BW.out⟩
    · have h2' : ¬ ((K.size : Int) ≤ 16000) := by omega
      have HT : Hid (¬ MemOk K L) := Lib.hid (fun h => h2 h.2.1)
      go_enter Tryz.func61, Tryz.ntmps61
      go_wp2
      go_quiet ((go_at_call 118; exact Calls.quiet_of_same (size_any _)))
      go_wp2
      go_ret
      exact ⟨ret_boolm (memOkB_no HT.out).symm, below_drewsN B0.out _⟩
  · have ht3 : (K.size : Int).tmod 16 = (K.size : Int) % 16 := Int.tmod_eq_emod_of_nonneg (by omega)
    have hm3 : ((K.size : Int) % 16 != 0) = true := by have : ¬ ((K.size : Int) % 16 = 0) := by omega
                                                       simpa using this
    have HT : Hid (¬ MemOk K L) := Lib.hid (fun h => h1 h.1)
    go_enter Tryz.func61, Tryz.ntmps61
    go_wp2
    go_quiet ((go_at_call 118; exact Calls.quiet_of_same (size_any _)))
    go_wp2
    go_ret
    exact ⟨ret_boolm (memOkB_no HT.out).symm, below_drewsN B0.out _⟩
end Go.Proofs.YtkfkjcadmdcbnaaGreatDoor
namespace Go.Proofs.YtkfkjcadmdcbnaaGreatDoor
open Go.RowKit Go.Proofs.YtkfkjcadmdcbnaaGreatDoor.Parts Go.Proofs.YtkfkjcadmdcbnaaGreatDoor.Hexa

set_option maxRecDepth 100000 in
set_option maxHeartbeats 2000000 in
theorem implOk_any (K : ByteArray) (a : Option Addr) (n c : Nat) (L : List C3) (w : World) (hs : SrcC w a n L) (hn : n ≤ 1048600) (hK : K.size ≤ 1048600) :
    Calls Tryz.prog 130 #[.agg #[.string K, .slice a n c]] w fun e w' => e = .returned (.bool (memOkB K L)) ∧ Below w.heap.size w w' := by
  have HS := Lib.hid hs
  have HL := Lib.hid hs.len
  clear hs
  have hb0 : Below w.heap.size w (w.alloc (.cells #[.string K, .slice a n c] 57)) := (Below.refl _ _).alloc (Nat.le_refl _) _
  have B0 := Lib.hid hb0
  clear hb0
  have ht3 : (K.size : Int).tmod 16 = (K.size : Int) % 16 := Int.tmod_eq_emod_of_nonneg (by omega)
  have ht4 : (K.size : Int).tdiv 16 = (K.size : Int) / 16 := Int.tdiv_eq_ediv_of_nonneg (by omega)
  by_cases h1 : K.size % 16 = 0
  · have hm3 : (K.size : Int) % 16 = 0 := by omega
    by_cases h2 : K.size ≤ 16000
    · have hd4 : (0 : Int) ≤ (K.size : Int) / 16 ∧ (K.size : Int) / 16 ≤ 1000 := by omega
      go_enter Tryz.func130, Tryz.ntmps130
      go_wp2
      go_loopw [4, 23] (fun lv iv wr => ∃ (k : Nat) (le : Int), k ≤ n ∧ iv = .int .i64 k ∧ lv = .int .i64 le ∧ 0 ≤ le ∧ le ≤ 1000 ∧ Hid ((k = 0 ∧ le = 0) ∨ (0 < k ∧ le = (L.getD (k - 1) default).l + 1)) ∧ Hid (∀ j, j < k → CellOk K L j) ∧ Hid (Below (w.heap.size + 1) (w.alloc (.cells #[.string K, .slice a n c] 57)) wr)) (fun _ iv _ => n - (intOf iv).toNat)
      case atStart => exact ⟨0, 0, Nat.zero_le _, rfl, rfl, by omega, by omega, Lib.hid (.inl ⟨rfl, rfl⟩), Lib.hid (fun j hj => by omega), Lib.hid (Below.refl _ _)⟩
      case round =>
        obtain ⟨k, le, hk, rfl, rfl, hl0, hl1, HP, HA, HB⟩ := hrel
        have BW : Hid (Below w.heap.size w wr) := Lib.hid (B0.out.trans (HB.out.mono (by omega)))
        have hsz : Hid (w.heap.size + 1 ≤ wr.heap.size) := Lib.hid (by have := HB.out.size; simp at this; omega)
        by_cases hlt : k < n
        · obtain ⟨g, off, rfl, hg, d1, d2, d3⟩ := HS.out.cells3_at BW.out (Nat.le_refl _) k hlt
          obtain ⟨x, hx⟩ : ∃ x, L.getD k default = x := ⟨_, rfl⟩
          rw [hx] at d1 d2 d3
          have B1 : Hid (Below (w.heap.size + 1) (w.alloc (.cells #[.string K, .slice (some ⟨g, off, none⟩) n c] 57)) (wr.alloc (.cells #[.int .i64 x.l, .string x.t, .bool x.f] 135))) := Lib.hid (HB.out.alloc hsz.out _)
          have HX := Lib.hid hx
          clear hx
          by_cases i1 : x.l < le
          · have HT : Hid (¬ MemOk K L) := Lib.hid (ok_bad (k := k) (by have := HL.out; omega) (fun h => by
              rcases HP.out with ⟨_, h4⟩ | ⟨h3, h4⟩
              · have := h.1; rw [HX.out] at this; omega
              · have := h.2.2.2 h3; rw [HX.out] at this; omega))
            go_wp2
            go_ret
            exact ⟨ret_boolm (memOkB_no HT.out).symm, B0.out.trans (B1.out.mono (by omega))⟩
          · by_cases i2 : (K.size : Int) / 16 ≤ x.l
            · have HT : Hid (¬ MemOk K L) := Lib.hid (ok_bad (k := k) (by have := HL.out; omega) (fun h => by have := h.2.1; rw [HX.out] at this; omega))
              go_wp2
              go_ret
              exact ⟨ret_boolm (memOkB_no HT.out).symm, B0.out.trans (B1.out.mono (by omega))⟩
            · by_cases i3 : x.t.size = 16
              · have hi3 : (x.t.size : Int) = 16 := by omega
                go_wp2
                go_roundw
                case rel => exact ⟨k + 1, x.l + 1, by omega, by go_num, rfl, by omega, by omega, Lib.hid (.inr ⟨by omega, by rw [show k + 1 - 1 = k by omega, HX.out]⟩), Lib.hid (fun j hj => by
                  by_cases e : j = k
                  · subst e
                    unfold CellOk
                    rw [HX.out]
                    refine ⟨by omega, by omega, i3, fun h => ?_⟩
                    rcases HP.out with ⟨h3, _⟩ | ⟨_, h4⟩
                    · omega
                    · omega
                  · exact HA.out j (by omega)), B1⟩
                case measure => (simp [intOf]; try omega)
              · have hi3 : ((x.t.size : Int) != 16) = true := by have : ¬ ((x.t.size : Int) = 16) := by omega
                                                                 simpa using this
                have HT : Hid (¬ MemOk K L) := Lib.hid (ok_bad (k := k) (by have := HL.out; omega) (fun h => i3 (by rw [← HX.out]; exact h.2.2.1)))
                go_wp2
                go_ret
                exact ⟨ret_boolm (memOkB_no HT.out).symm, B0.out.trans (B1.out.mono (by omega))⟩
        · obtain rfl : k = n := by omega
          have HT : Hid (MemOk K L) := Lib.hid ⟨h1, h2, fun j hj => HA.out j (by rw [HL.out] at hj; exact hj)⟩
          go_wp2
          go_ret
          exact ⟨ret_boolm (memOkB_yes HT.out).symm, BW.out⟩
    · have h2' : ¬ ((K.size : Int) / 16 ≤ 1000) := by omega
      have HT : Hid (¬ MemOk K L) := Lib.hid (fun h => h2 h.2.1)
      go_enter Tryz.func130, Tryz.ntmps130
      go_wp2
      go_ret
      exact ⟨ret_boolm (memOkB_no HT.out).symm, B0.out⟩
  · have hm3 : ((K.size : Int) % 16 != 0) = true := by have : ¬ ((K.size : Int) % 16 = 0) := by omega
                                                       simpa using this
    have HT : Hid (¬ MemOk K L) := Lib.hid (fun h => h1 h.1)
    go_enter Tryz.func130, Tryz.ntmps130
    go_wp2
    go_ret
    exact ⟨ret_boolm (memOkB_no HT.out).symm, B0.out⟩
end Go.Proofs.YtkfkjcadmdcbnaaGreatDoor
namespace Go.Proofs.YtkfkjcadmdcbnaaGreatDoor
open Go.RowKit Go.Proofs.YtkfkjcadmdcbnaaGreatDoor.Parts Go.Proofs.YtkfkjcadmdcbnaaGreatDoor.Hexa

/-- A block of two cells. -/
def Two (w : World) (b : Nat) (u v : Value) (t : TypeId) : Prop := w.heap[b]? = some (.cells #[u, v] t (0, 0))
theorem Two.lt {w : World} {b : Nat} {u v : Value} {t : TypeId} (h : Two w b u v t) : b < w.heap.size := lt_of_block h
theorem Two.later {w w' : World} {b : Nat} {u v : Value} {t : TypeId} (h : Two w b u v t) (hb : Below w.heap.size w w') : Two w' b u v t := (hb.block b h.lt).trans h
theorem Two.alloc (w : World) (u v : Value) (t : TypeId) : Two (w.alloc (.cells #[u, v] t)) w.heap.size u v t := heap_alloc_new _ _
theorem Two.c0 {w : World} {b : Nat} {u v : Value} {t : TypeId} (h : Two w b u v t) : w.cell? ⟨b, 0, none⟩ = some u := cell0_of_two h
theorem Two.c1 {w : World} {b : Nat} {u v : Value} {t : TypeId} (h : Two w b u v t) : w.cell? ⟨b, 1, none⟩ = some v := cell1_of_two h
theorem Two.fr {w : World} {b o : Nat} {u v : Value} {t : TypeId} (h : Two w b u v t) : w.frozen? ⟨b, o, none⟩ = false := free_of_two h
theorem Two.drew {w : World} {b : Nat} {u v : Value} {t : TypeId} (h : Two w b u v t) : Two w.drew b u v t := h
theorem below_alloc (w : World) (o : Obj) : Below w.heap.size w (w.alloc o) := (Below.refl _ _).alloc (Nat.le_refl _) _
end Go.Proofs.YtkfkjcadmdcbnaaGreatDoor
namespace Go.Proofs.YtkfkjcadmdcbnaaGreatDoor
open Go.RowKit Go.Proofs.YtkfkjcadmdcbnaaGreatDoor.Parts Go.Proofs.YtkfkjcadmdcbnaaGreatDoor.Hexa

def idxI (L : List C3) (l : Int) : Int := match cellIdx L l with | some k => (k : Int) | none => -1
theorem ret_strm {a b : ByteArray} (h : a = b) : Ending.returned (.string a) = .returned (.string b) := by rw [h]
theorem ret_intm {a b : Int} (h : a = b) : Ending.returned (.int .i64 a) = .returned (.int .i64 b) := by rw [h]

set_option maxRecDepth 100000 in
set_option maxHeartbeats 1000000 in
theorem specCell_any (K : ByteArray) (a : Option Addr) (n c : Nat) (L : List C3) (l : Int) (w : World) (hs : SrcC w a n L) (hn : n ≤ 1048600) :
    Calls Tryz.prog 223 #[.agg #[.string K, .slice a n c], .int .i64 l] w fun e w' => e = .returned (.int .i64 (idxI L l)) ∧ Below w.heap.size w w' := by
  have HS := Lib.hid hs
  have HL := Lib.hid hs.len
  have B0 := Lib.hid (below_alloc w (.cells #[.string K, .slice a n c] 57))
  clear hs
  go_enter Tryz.func223, Tryz.ntmps223
  go_wp2
  go_loopw [5] (fun iv wr => ∃ (k : Nat), k ≤ n ∧ iv = .int .i64 k ∧ Hid (∀ j, j < k → (L.getD j default).l ≠ l) ∧ Below (w.heap.size + 1) (w.alloc (.cells #[.string K, .slice a n c] 57)) wr)
    (fun iv _ => n - (intOf iv).toNat)
  case atStart => exact ⟨0, Nat.zero_le _, rfl, Lib.hid (fun j hj => by omega), Below.refl _ _⟩
  case round =>
    obtain ⟨k, hk, rfl, HA, hbel⟩ := hrel
    have BW : Hid (Below w.heap.size w wr) := Lib.hid (B0.out.trans (hbel.mono (by omega)))
    have q1 := cell1_of_two (below_two hbel)
    have HB := Lib.hid hbel
    clear hbel
    by_cases hlt : k < n
    · obtain ⟨g, off, rfl, hg, d1, d2, d3⟩ := HS.out.cells3_at BW.out (Nat.le_refl _) k hlt
      obtain ⟨x, hx⟩ : ∃ x, (L.getD k default).l = x := ⟨_, rfl⟩
      rw [hx] at d1
      have HX := Lib.hid hx
      clear hx d2 d3
      by_cases e : x = l
      · have HR : Hid (idxI L l = (k : Int)) := Lib.hid (by unfold idxI; rw [cellIdx_some (k := k) (by have := HL.out; omega) (by rw [HX.out, e]) HA.out])
        subst e
        go_wp2
        go_ret
        exact ⟨ret_intm HR.out.symm, BW.out⟩
      · have he : (x == l) = false := by simpa using e
        have HA2 : Hid (∀ j, j < k + 1 → (L.getD j default).l ≠ l) := Lib.hid (fun j hj => by
          by_cases ej : j = k
          · subst ej; rw [HX.out]; exact e
          · exact HA.out j (by omega))
        go_wp2
        go_roundw
        case rel => exact ⟨k + 1, by omega, by go_num, HA2, HB.out⟩
        case measure => (simp [intOf]; try omega)
    · obtain rfl : k = n := by omega
      have HR : Hid (idxI L l = -1) := Lib.hid (by unfold idxI; rw [cellIdx_none (by rw [HL.out]; exact HA.out)])
      go_wp2
      go_ret
      exact ⟨ret_intm HR.out.symm, BW.out⟩

set_option maxRecDepth 100000 in
set_option maxHeartbeats 1000000 in
theorem specLine_any (K : ByteArray) (a : Option Addr) (n c : Nat) (L : List C3) (l : Nat) (w : World) (hs : SrcC w a n L) (hn : n ≤ 1048600) (hok : MemOk K L) (hl : l < K.size / 16) :
    Calls Tryz.prog 166 #[.agg #[.string K, .slice a n c], .int .i64 l] w fun e w' => e = .returned (.string (lineT K L l)) ∧ Below w.heap.size w w' := by
  have HS := Lib.hid hs
  have HL := Lib.hid hs.len
  have B0 := Lib.hid (below_alloc w (.cells #[.string K, .slice a n c] 57))
  have T0 := Lib.hid (Two.alloc w (.string K) (.slice a n c) 57)
  have hk2 := hok.2.1
  clear hs hok
  cases hc : cellIdx L l with
  | some k =>
    have HE : Hid (lineT K L l = (L.getD k default).t) := Lib.hid (by unfold lineT; rw [hc])
    have HI : Hid (idxI L l = (k : Int)) := Lib.hid (by unfold idxI; rw [hc])
    have hkn : k < n := by have := (cellIdx_is hc).1; have := HL.out; omega
    clear hc
    obtain ⟨g, off, rfl, hg, _, _, _⟩ := HS.out.cells3 k hkn
    go_enter Tryz.func166, Tryz.ntmps166
    go_wp2_with fail
    refine (specCell_any K _ n c L l _ (HS.out.later B0.out) hn).mono ?_
    rw [HI.out]
    rintro e w1 ⟨rfl, hb1⟩
    have T1 := Lib.hid (T0.out.later hb1)
    have B1 := Lib.hid (B0.out.trans (hb1.mono B0.out.size))
    have q1 := T1.out.c1
    obtain ⟨g', off', hg', _, _, d2, _⟩ := HS.out.cells3_at B1.out (Nat.le_refl _) k hkn
    cases hg'
    clear hb1
    go_wp2
    go_ret
    exact ⟨ret_strm HE.out.symm, B1.out⟩
  | none =>
    have HE : Hid (lineT K L l = K.extract (l * 16) ((l + 1) * 16)) := Lib.hid (by unfold lineT; rw [hc, show 16 * l = l * 16 by omega, show (l + 1) * 16 = l * 16 + 16 by omega])
    have HI : Hid (idxI L l = -1) := Lib.hid (by unfold idxI; rw [hc])
    clear hc
    go_enter Tryz.func166, Tryz.ntmps166
    go_wp2_with fail
    refine (specCell_any K _ n c L l _ (HS.out.later B0.out) hn).mono ?_
    rw [HI.out]
    rintro e w1 ⟨rfl, hb1⟩
    have T1 := Lib.hid (T0.out.later hb1)
    have B1 := Lib.hid (B0.out.trans (hb1.mono B0.out.size))
    have q0 := T1.out.c0
    clear hb1
    go_wp2
    go_quiet ((go_at_call 118; first | exact Calls.quiet_of_same (size_any _) | exact quiet_anew size_any))
    go_wp2
    go_ret
    exact ⟨ret_strm HE.out.symm, below_drewsN B1.out _⟩
end Go.Proofs.YtkfkjcadmdcbnaaGreatDoor
