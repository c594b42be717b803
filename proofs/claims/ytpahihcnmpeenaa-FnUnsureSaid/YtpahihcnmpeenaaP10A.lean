/- Merged texts: HexMath, PartsMath, Elem, CellBase, MemMath, CellA. -/
import Derived.Laws.BytesArg
import Derived.Laws.IdiomStrings
import Derived.OwnWalk
import Derived.Below
import Derived.Laws.Strings
import Derived.Test.YtpahihcnmpeenaaRows
import Derived.WalkKit
import Derived.WalkSpells
import Derived.WalkLawsBesides
import Derived.Lib.Hide
import Derived.Lib.Overlaps
import Derived.Deep.QuietTactic
import Derived.BigQuiet
import Derived.OneCell
import Derived.Deep.RegionHeld3
import Derived.Deep.AppendLies
namespace Go.Proofs.Ytpahihcnmpeenaa.Hexa


/-- The digit of a number below 16. -/
def nib (n : Nat) : UInt8 := if n < 10 then UInt8.ofNat (48 + n) else UInt8.ofNat (87 + n)
def hexB (c : UInt8) : List UInt8 := [nib (c.toNat / 16), nib (c.toNat % 16)]
def hexL (l : List UInt8) : List UInt8 := l.flatMap hexB

theorem nib_toNat (n : Nat) (h : n < 16) : (nib n).toNat = if n < 10 then 48 + n else 87 + n := by
  unfold nib; split <;> simp <;> omega

theorem hexL_length (l : List UInt8) : (hexL l).length = 2 * l.length := by
  induction l with
  | nil => rfl
  | cons c l ih => simp [hexL, hexB] at *; omega

theorem hexL_snoc (l : List UInt8) (c : UInt8) : hexL (l ++ [c]) = hexL l ++ hexB c := by simp [hexL]

theorem take_snoc (s : ByteArray) (k : Nat) (h : k < s.size) : s.data.toList.take (k + 1) = s.data.toList.take k ++ [s[k]] := by
  rw [List.take_succ_eq_append_getElem (by simpa using h)]; rfl

theorem hexL_take (s : ByteArray) (k : Nat) (h : k < s.size) : hexL (s.data.toList.take (k + 1)) = hexL (s.data.toList.take k) ++ hexB s[k] := by
  rw [take_snoc s k h, hexL_snoc]

theorem hexL_take_length (s : ByteArray) (k : Nat) (h : k ≤ s.size) : (hexL (s.data.toList.take k)).length = 2 * k := by
  have hs : k ≤ s.data.size := h
  rw [hexL_length]; simp; omega

/-- The cells of a row of bytes. -/
def bcells (l : List UInt8) : List Value := l.map fun b => Value.int .u8 b.toNat

/-- 'string(b)' of a slice that the call owns. -/
theorem own_string {P : Program} {w : World} {base e : Nat} {v : Value} {n : Nat} {l : List UInt8} (src dst : TypeId)
    (hs : P.underlying src = some (.slice e)) (he : P.underlying e = some (.int .u8)) (hd : P.underlying dst = some .string)
    (h : w.ownsRow base e 1 v n (bcells l)) : (convert src dst v).run P w = .ok (.string ⟨l.toArray⟩) w := by
  have hl := h.1
  simp [bcells] at hl
  rcases h.2 with ⟨rfl, rfl⟩ | ⟨g, cap, cur, rfl, _, hg, _, _, hcs, htk⟩
  · have : l = [] := by cases l <;> simp_all
    subst this
    exact run_convert_bytes_nil w src e hs he 0 0 dst hd
  · subst hl
    refine run_convert_bytes_back w src dst e _ cap l hs he hd fun j hj => ?_
    have := h.cellAt j (by omega)
    have e : (⟨g, 0, none⟩ : Addr).add j = ⟨g, j, none⟩ := by unfold Addr.add; split <;> simp_all
    rw [e]
    simpa [bcells, hj] using this

theorem own_block_ge {w : World} {base e size : Nat} {v : Value} {n : Nat} {xs : List Value} (h : w.ownsRow base e size v n xs) : ∀ k, v.ownBlock = some k → base ≤ k := by
  intro k hk
  rcases h.2 with ⟨rfl, _⟩ | ⟨g, cap, cur, rfl, hg, _⟩
  · simp [Value.ownBlock] at hk
  · simp [Value.ownBlock] at hk; omega

def figI (x : Int) : Int := (nib x.toNat).toNat

theorem digit_nat : ∀ (n : Fin 16), (((ByteArray.mk #[48, 49, 50, 51, 52, 53, 54, 55, 56, 57, 97, 98, 99, 100, 101, 102])[n.val]'(by show n.val < 16; exact n.isLt)).toNat) = (nib n.val).toNat := by decide

theorem and15_all : ∀ n : Fin 256, bits .and .u8 ((n.val : Nat) : Int) 15 = ((n.val % 16 : Nat) : Int) := by decide +kernel

theorem and15 (b : UInt8) : bits .and .u8 (b.toNat : Int) 15 = (b.toNat : Int) % 16 := by
  have := and15_all ⟨b.toNat, b.toNat_lt⟩
  rw [this]; simp

/-- The digit that the table of the program holds. -/
theorem digit_at (x : Int) (h0 : 0 ≤ x) (h1 : x < 16) (h : x.toNat < (ByteArray.mk #[48, 49, 50, 51, 52, 53, 54, 55, 56, 57, 97, 98, 99, 100, 101, 102]).size) :
    ((((ByteArray.mk #[48, 49, 50, 51, 52, 53, 54, 55, 56, 57, 97, 98, 99, 100, 101, 102])[x.toNat]'h).toNat : Nat) : Int) = figI x := by
  have := digit_nat ⟨x.toNat, by omega⟩
  unfold figI
  rw [← this]

/-- What one round of Hex appends. -/
theorem hex_round (s : ByteArray) (k : Nat) (h : k < s.size) :
    bcells (hexL (s.data.toList.take k)) ++ [.int .u8 (figI (s[k].toNat / 16)), .int .u8 (figI (s[k].toNat % 16))] = bcells (hexL (s.data.toList.take (k + 1))) := by
  have e1 : ((s[k].toNat : Int) / 16).toNat = s[k].toNat / 16 := by omega
  have e2 : ((s[k].toNat : Int) % 16).toNat = s[k].toNat % 16 := by omega
  rw [hexL_take s k h]
  simp [bcells, hexB, figI, e1, e2]

theorem own_length {w : World} {base e : Nat} {v : Value} {n : Nat} {xs : List Value} (h : w.ownsRow base e 1 v n xs) : xs.length = n := by simpa using h.1
end Go.Proofs.Ytpahihcnmpeenaa.Hexa
namespace Go.Proofs.Ytpahihcnmpeenaa.Parts
open Go.RowKit

/-- A field is added where the run is not empty. -/
def put (P : List ByteArray) (s : ByteArray) (b i : Nat) : List ByteArray := if b < i then P ++ [s.extract b i] else P

/-- Behind the first i bytes: where the open run begins, and the fields so far. -/
def st (s : ByteArray) : Nat → Nat × List ByteArray
  | 0 => (0, [])
  | i + 1 => if s.data.toList.getD i 0 = 32 then (i + 1, put (st s i).2 s (st s i).1 i) else st s i

theorem st_le (s : ByteArray) : ∀ i, (st s i).1 ≤ i
  | 0 => Nat.le_refl _
  | i + 1 => by
    have := st_le s i
    simp only [st]; split
    · exact Nat.le_refl _
    · omega

theorem put_length (P : List ByteArray) (s : ByteArray) (b i : Nat) : (put P s b i).length ≤ P.length + 1 := by
  unfold put; split <;> simp

theorem st_length (s : ByteArray) : ∀ i, (st s i).2.length ≤ i
  | 0 => Nat.le_refl _
  | i + 1 => by
    have := st_length s i
    have h2 := put_length (st s i).2 s (st s i).1 i
    simp only [st]; split
    · simp only; omega
    · omega

theorem getD_eq (s : ByteArray) (i : Nat) (h : i < s.size) : s.data.toList.getD i 0 = s[i] := by
  have h' : i < s.data.toList.length := by simpa using h
  simp [List.getD, List.getElem?_eq_getElem h']; rfl

theorem st_space (s : ByteArray) (i : Nat) (h : i < s.size) (e : (s[i].toNat : Int) = 32) : st s (i + 1) = (i + 1, put (st s i).2 s (st s i).1 i) := by
  have : s[i] = 32 := by apply UInt8.toNat_inj.1; simp; omega
  simp only [st]; rw [if_pos (by rw [getD_eq s i h, this])]
theorem st_other (s : ByteArray) (i : Nat) (h : i < s.size) (e : (s[i].toNat : Int) ≠ 32) : st s (i + 1) = st s i := by
  have : s[i] ≠ 32 := fun h => e (by rw [h]; rfl)
  simp only [st]; rw [if_neg (by rw [getD_eq s i h]; exact this)]

/-- Every byte up to place n may stand in a line. -/
def okTo (s : ByteArray) (n : Nat) : Prop := ∀ j (h : j < s.size), j < n → (32 : Int) ≤ s[j].toNat ∧ (s[j].toNat : Int) ≤ 126

theorem okTo_step {s : ByteArray} {i : Nat} (g : okTo s i) (h : i < s.size) (h1 : (32 : Int) ≤ s[i].toNat) (h2 : (s[i].toNat : Int) ≤ 126) : okTo s (i + 1) := by
  intro j hj hi
  by_cases e : j < i
  · exact g j hj e
  · have : j = i := by omega
    subst this; exact ⟨h1, h2⟩

def fin (s : ByteArray) : List ByteArray := put (st s s.size).2 s (st s s.size).1 s.size

open Classical in
/-- What PartsOf returns for a line of at most 600 bytes. -/
noncomputable def parts (s : ByteArray) : List ByteArray := if okTo s s.size ∧ (fin s).length ≤ 12 then fin s else []
open Classical in
noncomputable def partsOk (s : ByteArray) : Bool := if okTo s s.size ∧ (fin s).length ≤ 12 then true else false

theorem parts_yes {s : ByteArray} (h : okTo s s.size) (h2 : (fin s).length ≤ 12) : parts s = fin s ∧ partsOk s = true := by simp [parts, partsOk, h, h2]
theorem parts_many {s : ByteArray} (h2 : 12 < (fin s).length) : parts s = [] ∧ partsOk s = false := by
  have : ¬ (fin s).length ≤ 12 := by omega
  simp [parts, partsOk, this]
theorem parts_bad {s : ByteArray} (i : Nat) (h : i < s.size) (hb : (s[i].toNat : Int) < 32 ∨ (126 : Int) < s[i].toNat) : parts s = [] ∧ partsOk s = false := by
  have : ¬ okTo s s.size := fun g => by have := g i h h; omega
  simp [parts, partsOk, this]
theorem parts_le (s : ByteArray) : (parts s).length ≤ 12 := by
  unfold parts; split
  · rename_i h; exact h.2
  · simp

/-- What one more space, or the end of the line, makes of the fields. -/
theorem put_yes {P : List ByteArray} {s : ByteArray} {b i : Nat} (h : b < i) : put P s b i = P ++ [s.extract b i] := by unfold put; rw [if_pos h]
theorem put_no {P : List ByteArray} {s : ByteArray} {b i : Nat} (h : ¬ b < i) : put P s b i = P := by unfold put; rw [if_neg h]

/-- The relation behind a space at place i. -/
theorem rel_space {s : ByteArray} {i b : Nat} {P : List ByteArray} (h : i < s.size) (e : (s[i].toNat : Int) = 32) (H1 : i ≤ s.size → b = (st s i).1 ∧ P = (st s i).2) :
    (i + 1 ≤ s.size → i + 1 = (st s (i + 1)).1 ∧ put P s b i = (st s (i + 1)).2) ∧ (s.size < i + 1 → put P s b i = fin s) := by
  obtain ⟨rfl, rfl⟩ := H1 (by omega)
  rw [st_space s i h e]
  exact ⟨fun _ => ⟨rfl, rfl⟩, fun _ => by omega⟩
/-- The relation behind the end. -/
theorem rel_end {s : ByteArray} {b : Nat} {P : List ByteArray} (H1 : s.size ≤ s.size → b = (st s s.size).1 ∧ P = (st s s.size).2) :
    (s.size + 1 ≤ s.size → s.size + 1 = (st s (s.size + 1)).1 ∧ put P s b s.size = (st s (s.size + 1)).2) ∧ (s.size < s.size + 1 → put P s b s.size = fin s) := by
  obtain ⟨rfl, rfl⟩ := H1 (Nat.le_refl _)
  exact ⟨fun h => by omega, fun _ => rfl⟩
/-- The relation behind another byte. -/
theorem rel_other {s : ByteArray} {i b : Nat} {P : List ByteArray} (h : i < s.size) (e : (s[i].toNat : Int) ≠ 32) (H1 : i ≤ s.size → b = (st s i).1 ∧ P = (st s i).2) :
    (i + 1 ≤ s.size → b = (st s (i + 1)).1 ∧ P = (st s (i + 1)).2) ∧ (s.size < i + 1 → P = fin s) := by
  rw [st_other s i h e]
  exact ⟨fun _ => H1 (by omega), fun _ => by omega⟩
theorem okTo_end {s : ByteArray} (h : okTo s s.size) : okTo s (s.size + 1) := fun j hj _ => h j hj hj

theorem ext_size (s : ByteArray) (b i : Nat) : (s.extract b i).size ≤ s.size := by simp [ByteArray.size_extract]; omega

/-- The fields with one more run, if it is not empty. -/
def addRun (P : List ByteArray) (r : ByteArray) : List ByteArray := if r.toList.isEmpty then P else P ++ [r]
theorem isEmpty_iff (r : ByteArray) : r.toList.isEmpty = true ↔ r.size = 0 := by
  rw [List.isEmpty_iff, ← List.length_eq_zero_iff, ByteArray.toList_eq]; simp
theorem addRun_eq (P : List ByteArray) (s : ByteArray) (b i : Nat) (h : i ≤ s.size) : addRun P (s.extract b i) = put P s b i := by
  unfold addRun put
  by_cases hb : b < i
  · rw [if_pos hb, if_neg]
    rw [isEmpty_iff, ByteArray.size_extract]; omega
  · rw [if_neg hb, if_pos]
    rw [isEmpty_iff, ByteArray.size_extract]; omega

def scells (P : List ByteArray) : List Value := P.map Value.string

theorem own_below {B : Nat} {e : TypeId} {k : Nat} {v : Value} {n : Nat} {xs : List Value} {w w' : World} (h : w.ownsRow B e k v n xs) (hb : Below w.heap.size w w') : w'.ownsRow B e k v n xs := by
  obtain ⟨h1, h2⟩ := h
  refine ⟨h1, ?_⟩
  rcases h2 with h2 | ⟨g, cap, cur, hv, hg, hh, r⟩
  · exact Or.inl h2
  · have hlt : g < w.heap.size := (Array.getElem?_eq_some_iff.1 hh).1
    exact Or.inr ⟨g, cap, cur, hv, hg, by rw [hb.block g hlt]; exact hh, r⟩

/-- The slice at the address reads as these texts. -/
def Reads (w : World) (ad : Option Addr) (xs : List Value) : Prop := ∀ j, j < xs.length → ∃ g, ad = some ⟨g, 0, none⟩ ∧ w.cell? ⟨g, j, none⟩ = xs[j]?

theorem own_form {w : World} {base e : Nat} {v : Value} {n : Nat} {xs : List Value} (h : w.ownsRow base e 1 v n xs) : ∃ ad cap, v = .slice ad n cap ∧ cap ≤ maxLen ∧ n ≤ cap ∧ Reads w ad xs := by
  have hl : xs.length = n := by simpa using h.1
  rcases h.2 with ⟨rfl, rfl⟩ | ⟨g, cap, cur, rfl, hg, hh, hn, hc, _⟩
  · refine ⟨none, 0, rfl, by decide, Nat.le_refl _, fun j hj => ?_⟩
    omega
  · exact ⟨_, cap, rfl, hc, hn, fun j hj => ⟨g, rfl, h.cellAt j (by omega)⟩⟩

theorem own_reads {w : World} {base e : Nat} {ad : Option Addr} {n cap : Nat} {xs : List Value} (h : w.ownsRow base e 1 (.slice ad n cap) n xs) : Reads w ad xs := by
  obtain ⟨ad', cap', hv, _, _, hr⟩ := own_form h
  simp at hv
  obtain ⟨rfl, _⟩ := hv
  exact hr

/-- The decimal digits of a number; none for 0. -/
def digs (k : Nat) : List UInt8 := if _h : k = 0 then [] else digs (k / 10) ++ [UInt8.ofNat (48 + k % 10)]
termination_by k
decreasing_by omega

theorem digs_zero : digs 0 = [] := by rw [digs]; simp
theorem digs_step (k : Nat) (h : 0 < k) : digs k = digs (k / 10) ++ [UInt8.ofNat (48 + k % 10)] := by rw [digs]; simp; omega
theorem digs_len (k : Nat) : (digs k).length ≤ k := by
  induction k using Nat.strongRecOn with
  | _ k ih =>
    by_cases h : k = 0
    · subst h; rw [digs_zero]; simp
    · rw [digs_step k (by omega)]
      have := ih (k / 10) (by omega)
      simp; omega
def markT (k : Nat) : ByteArray := ⟨(109 :: digs k).toArray⟩

theorem one_byte (c : UInt8) : ∃ cs : ByteArray, cs.size = 1 ∧ cs.data.toList = [c] ∧ cs = ⟨[c].toArray⟩ := ⟨⟨[c].toArray⟩, rfl, rfl, rfl⟩
theorem data_append (a b : ByteArray) : (a ++ b).data.toList = a.data.toList ++ b.data.toList := by simp
theorem digs_round {k j : Nat} {t cs : ByteArray} (hj : 0 < j) (h : digs j ++ t.data.toList = digs k) (hc : cs.data.toList = [UInt8.ofNat (48 + j % 10)]) : digs (j / 10) ++ (cs ++ t).data.toList = digs k := by
  rw [data_append, hc, ← h, digs_step j hj, List.append_assoc]
theorem digs_size {k j : Nat} {t : ByteArray} (h : digs j ++ t.data.toList = digs k) : t.size ≤ k := by
  have := digs_len k
  rw [← h, List.length_append] at this
  simp at this; omega
theorem mark_end {k : Nat} {t : ByteArray} (h : digs 0 ++ t.data.toList = digs k) : (⟨#[109]⟩ : ByteArray) ++ t = markT k := by
  rw [digs_zero, List.nil_append] at h
  apply ByteArray.ext
  apply Array.toList_inj.1
  rw [data_append, h]; rfl
end Go.Proofs.Ytpahihcnmpeenaa.Parts
namespace Go.Proofs.Ytpahihcnmpeenaa
open Go.RowKit Go.Proofs.Ytpahihcnmpeenaa.Parts Go.Proofs.Ytpahihcnmpeenaa.Hexa

/-- How an element lies in its cells. -/
structure Enc (α : Type) where
  k : Nat
  cells : α → List Value
  len : ∀ x, (cells x).length = k

def cellsE {α : Type} (E : Enc α) : List α → List Value
  | [] => []
  | x :: r => E.cells x ++ cellsE E r
theorem cellsE_length {α : Type} (E : Enc α) : ∀ L : List α, (cellsE E L).length = L.length * E.k
  | [] => by simp [cellsE]
  | x :: r => by simp [cellsE, E.len, cellsE_length E r, Nat.add_mul]; omega
theorem cellsE_append {α : Type} (E : Enc α) : ∀ L M : List α, cellsE E (L ++ M) = cellsE E L ++ cellsE E M
  | [], M => rfl
  | x :: r, M => by simp [cellsE, cellsE_append E r M]
theorem cellsE_one {α : Type} (E : Enc α) (x : α) : cellsE E [x] = E.cells x := by simp [cellsE]
theorem cellsE_at {α : Type} [Inhabited α] (E : Enc α) : ∀ (L : List α) (j o : Nat), j < L.length → o < E.k → (cellsE E L)[j * E.k + o]? = (E.cells (L.getD j default))[o]?
  | x :: r, 0, o, _, ho => by
    rw [cellsE, Nat.zero_mul, Nat.zero_add, List.getElem?_append_left (by rw [E.len]; exact ho)]; rfl
  | x :: r, j + 1, o, h, ho => by
    rw [cellsE, List.getElem?_append_right (by rw [E.len, Nat.add_mul]; omega), E.len, show (j + 1) * E.k + o - E.k = j * E.k + o by rw [Nat.add_mul]; omega]
    exact cellsE_at E r j o (by simpa using h) ho
theorem cellsE_take {α : Type} (E : Enc α) : ∀ (L : List α) (j : Nat), (cellsE E L).take (j * E.k) = cellsE E (L.take j)
  | [], j => by simp [cellsE]
  | x :: r, 0 => by simp [cellsE]
  | x :: r, j + 1 => by
    rw [cellsE, List.take_append, List.take_of_length_le (by rw [E.len, Nat.add_mul]; omega), E.len, show (j + 1) * E.k - E.k = j * E.k by rw [Nat.add_mul]; omega, cellsE_take E r j]
    rfl
theorem cellsE_drop {α : Type} (E : Enc α) : ∀ (L : List α) (j : Nat), (cellsE E L).drop (j * E.k) = cellsE E (L.drop j)
  | [], j => by simp [cellsE]
  | x :: r, 0 => by simp [cellsE]
  | x :: r, j + 1 => by
    rw [cellsE, List.drop_append, List.drop_of_length_le (by rw [E.len, Nat.add_mul]; omega), E.len, show (j + 1) * E.k - E.k = j * E.k by rw [Nat.add_mul]; omega, cellsE_drop E r j]
    rfl

/-- Cells written one behind the other. -/
def setsL : List Value → Nat → List Value → List Value
  | xs, _, [] => xs
  | xs, o, v :: r => setsL (xs.set o v) (o + 1) r
theorem setsL_length : ∀ (vs xs : List Value) (o : Nat), (setsL xs o vs).length = xs.length
  | [], xs, o => rfl
  | v :: r, xs, o => by rw [setsL, setsL_length r]; simp
theorem setsL_out : ∀ (vs xs : List Value) (o j : Nat), (j < o ∨ o + vs.length ≤ j) → (setsL xs o vs)[j]? = xs[j]?
  | [], xs, o, j, _ => rfl
  | v :: r, xs, o, j, h => by
    simp only [List.length_cons] at h
    rw [setsL, setsL_out r _ _ _ (by omega), List.getElem?_set_ne (by omega)]
theorem setsL_in : ∀ (vs xs : List Value) (o j : Nat), j < vs.length → o + vs.length ≤ xs.length → (setsL xs o vs)[o + j]? = vs[j]?
  | v :: r, xs, o, 0, _, h => by
    simp only [List.length_cons] at h
    rw [setsL, setsL_out r _ _ _ (by omega)]
    show (xs.set o v)[o]? = some v
    rw [List.getElem?_set_self (by omega)]
  | v :: r, xs, o, j + 1, hj, h => by
    simp only [List.length_cons] at h hj
    rw [setsL, show o + (j + 1) = (o + 1) + j by omega, setsL_in r _ _ j (by omega) (by simp; omega)]
    rfl
/-- The first elements are right; one more is written. -/
theorem cellsE_step {α : Type} [Inhabited α] (E : Enc α) {L : List α} {xs : List Value} {k : Nat} (hk : k < L.length) (hl : xs.length = L.length * E.k) (h : ∀ j, j < k * E.k → xs[j]? = (cellsE E L)[j]?) :
    ∀ j, j < (k + 1) * E.k → (setsL xs (k * E.k) (E.cells (L.getD k default)))[j]? = (cellsE E L)[j]? := by
  intro j hj
  have hm : (k + 1) * E.k ≤ L.length * E.k := Nat.mul_le_mul_right _ hk
  rw [Nat.add_mul] at hj hm
  by_cases h0 : j < k * E.k
  · rw [setsL_out _ _ _ _ (.inl h0)]; exact h j h0
  · obtain ⟨o, rfl⟩ : ∃ o, j = k * E.k + o := ⟨j - k * E.k, by omega⟩
    rw [setsL_in _ _ _ _ (by rw [E.len]; omega) (by rw [E.len]; omega), cellsE_at E L k o hk (by omega)]
theorem cellsE_all {α : Type} (E : Enc α) {L : List α} {xs : List Value} (hl : xs.length = L.length * E.k) (h : ∀ j, j < L.length * E.k → xs[j]? = (cellsE E L)[j]?) : xs = cellsE E L := by
  apply List.ext_getElem?
  intro j
  by_cases hj : j < L.length * E.k
  · exact h j hj
  · rw [List.getElem?_eq_none (by omega), List.getElem?_eq_none (by rw [cellsE_length]; omega)]
theorem getD_set {α : Type} [Inhabited α] (L : List α) (k j : Nat) (x : α) (hk : k < L.length) : (L.set k x).getD j default = if j = k then x else L.getD j default := by
  by_cases h : j = k
  · subst h; simp [List.getD, hk]
  · rw [if_neg h]; simp only [List.getD]; rw [List.getElem?_set_ne (fun e => h e.symm)]
/-- One element is written over another. -/
theorem cellsE_set {α : Type} [Inhabited α] (E : Enc α) (L : List α) (k : Nat) (x : α) (hk : k < L.length) : setsL (cellsE E L) (k * E.k) (E.cells x) = cellsE E (L.set k x) := by
  have hm : (k + 1) * E.k ≤ L.length * E.k := Nat.mul_le_mul_right _ hk
  rw [Nat.add_mul] at hm
  refine cellsE_all E (by rw [setsL_length, cellsE_length]; simp) (fun j hj => ?_)
  simp only [List.length_set] at hj
  by_cases hj0 : k * E.k ≤ j ∧ j < k * E.k + E.k
  · obtain ⟨o, rfl⟩ : ∃ o, j = k * E.k + o := ⟨j - k * E.k, by omega⟩
    rw [setsL_in _ _ _ _ (by rw [E.len]; omega) (by rw [E.len, cellsE_length]; omega), cellsE_at E _ k o (by simpa using hk) (by omega), getD_set _ _ _ _ hk, if_pos rfl]
  · rw [setsL_out _ _ _ _ (by rw [E.len]; omega)]
    have hk0 : 0 < E.k := by
      rcases Nat.eq_zero_or_pos E.k with h | h
      · rw [h] at hj; omega
      · exact h
    have hd : j = j / E.k * E.k + j % E.k := by rw [Nat.mul_comm]; exact (Nat.div_add_mod j E.k).symm
    have hq : j / E.k < L.length := (Nat.div_lt_iff_lt_mul hk0).2 hj
    have hne : j / E.k ≠ k := fun e => by
      rw [e] at hd
      have := Nat.mod_lt j hk0
      omega
    rw [hd, cellsE_at E _ _ _ hq (Nat.mod_lt _ hk0), cellsE_at E _ _ _ (by simpa using hq) (Nat.mod_lt _ hk0), getD_set _ _ _ _ hk, if_neg hne]

/-- A slice of elements that can be read. -/
structure SrcE {α : Type} [Inhabited α] (E : Enc α) (w : World) (a : Option Addr) (n : Nat) (L : List α) : Prop where
  len : L.length = n
  cell : ∀ j, j < n → ∃ g off, a = some ⟨g, off, none⟩ ∧ g < w.heap.size ∧ ∀ o v, (E.cells (L.getD j default))[o]? = some v → w.cell? ⟨g, off + j * E.k + o, none⟩ = some v
theorem SrcE.below {α : Type} [Inhabited α] {E : Enc α} {w w' : World} {a : Option Addr} {n : Nat} {L : List α} {B : Nat} (h : SrcE E w a n L) (hb : Below B w w') (hB : w.heap.size ≤ B) : SrcE E w' a n L :=
  ⟨h.len, fun j hj => by
    obtain ⟨g, off, e, hg, c⟩ := h.cell j hj
    exact ⟨g, off, e, Nat.lt_of_lt_of_le hg hb.size, fun o v hv => by rw [hb.cell (p := ⟨g, off + j * E.k + o, none⟩) (Nat.lt_of_lt_of_le hg hB)]; exact c o v hv⟩⟩
theorem SrcE.later {α : Type} [Inhabited α] {E : Enc α} {w w' : World} {a : Option Addr} {n : Nat} {L : List α} (h : SrcE E w a n L) (hb : Below w.heap.size w w') : SrcE E w' a n L := h.below hb (Nat.le_refl _)
theorem SrcE.drew {α : Type} [Inhabited α] {E : Enc α} {w : World} {a : Option Addr} {n : Nat} {L : List α} (h : SrcE E w a n L) : SrcE E w.drew a n L := ⟨h.len, h.cell⟩
theorem SrcE.nil {α : Type} [Inhabited α] (E : Enc α) (w : World) (a : Option Addr) : SrcE E w a 0 [] := ⟨rfl, fun j hj => by omega⟩

theorem ownE_lt {w : World} {B e k g n cap : Nat} {xs : List Value} (h : w.ownsRow B e k (.slice (some ⟨g, 0, none⟩) n cap) n xs) : g < w.heap.size := (h.lt g rfl).2
/-- A slice that the call owns, as one that can be read. -/
theorem srcE_of_own {α : Type} [Inhabited α] {E : Enc α} {w : World} {B e n cap : Nat} {a : Option Addr} {L : List α} (h : w.ownsRow B e E.k (.slice a n cap) n (cellsE E L)) (hk0 : 0 < E.k) : SrcE E w a n L := by
  have hl : L.length = n := by have h1 := h.1; rw [cellsE_length] at h1; exact Nat.eq_of_mul_eq_mul_right hk0 h1
  refine ⟨hl, fun j hj => ?_⟩
  rcases h.2 with ⟨h', h0⟩ | ⟨g', cap', cur, h', _, hg, _⟩
  · omega
  · simp only [Value.slice.injEq] at h'
    obtain ⟨rfl, _, rfl⟩ := h'
    refine ⟨g', 0, rfl, ownE_lt h, fun o v hv => ?_⟩
    have ho : o < E.k := by
      rcases Nat.lt_or_ge o E.k with h | h
      · exact h
      · rw [List.getElem?_eq_none (by rw [E.len]; exact h)] at hv; cases hv
    have hm : (j + 1) * E.k ≤ n * E.k := Nat.mul_le_mul_right _ hj
    rw [Nat.add_mul] at hm
    rw [Nat.zero_add, h.cellAt _ (by omega), cellsE_at E L j o (by omega) ho]
    exact hv
theorem ownE_mono {w : World} {B B' e k n : Nat} {v : Value} {xs : List Value} (h : w.ownsRow B e k v n xs) (hb : B' ≤ B) : w.ownsRow B' e k v n xs :=
  ⟨h.1, h.2.imp id fun ⟨g, cap, cur, hv, hg, r⟩ => ⟨g, cap, cur, hv, Nat.le_trans hb hg, r⟩⟩
/-- The form of what the call owns. -/
theorem ownE_form {w : World} {B e k n : Nat} {v : Value} {xs : List Value} (h : w.ownsRow B e k v n xs) : ∃ a cap, v = .slice a n cap ∧ n ≤ cap ∧ cap ≤ maxLen ∧ (∀ p, a = some p → ∃ g, p = ⟨g, 0, none⟩ ∧ B ≤ g ∧ g < w.heap.size) := by
  rcases h.2 with ⟨rfl, rfl⟩ | ⟨g', cap', cur, rfl, hB, hg, hn, hc, _⟩
  · exact ⟨none, 0, rfl, Nat.le_refl _, by decide, fun p hp => by cases hp⟩
  · exact ⟨_, _, rfl, hn, hc, fun p hp => by cases hp; exact ⟨g', rfl, hB, lt_of_block hg⟩⟩
/-- Cells of the call's own row written. -/
theorem own_sets {B e k g n cap : Nat} : ∀ (vs : List Value) {w : World} {xs : List Value} (o : Nat), w.ownsRow B e k (.slice (some ⟨g, 0, none⟩) n cap) n xs → (w.setCells g o vs).ownsRow B e k (.slice (some ⟨g, 0, none⟩) n cap) n (setsL xs o vs)
  | [], _, _, _, h => h
  | v :: r, _, _, o, h => own_sets r (o + 1) (h.stored o v).1
theorem below_sets {B g : Nat} (hg : B ≤ g) : ∀ (vs : List Value) {w w' : World} (o : Nat), Below B w w' → Below B w (w'.setCells g o vs)
  | [], _, _, _, h => h
  | v :: r, _, _, o, h => below_sets hg r (o + 1) (h.setCell (p := ⟨g, o, none⟩) hg v)
theorem ownE_cell {w : World} {B e k g n cap : Nat} {xs : List Value} (h : w.ownsRow B e k (.slice (some ⟨g, 0, none⟩) n cap) n xs) {j : Nat} (hj : j < n * k) : ∃ v, w.cell? ⟨g, j, none⟩ = some v := by
  rw [h.cellAt j hj]
  exact ⟨xs[j]'(by rw [h.1]; exact hj), List.getElem?_eq_getElem _⟩

/-- No block is written but one; what was there stays. -/
structure ButE (B : Nat) (w w' : World) : Prop where
  size : w.heap.size ≤ w'.heap.size
  block : ∀ g, g ≠ B → g < w.heap.size → w'.heap[g]? = w.heap[g]?
theorem ButE.refl (B : Nat) (w : World) : ButE B w w := ⟨Nat.le_refl _, fun _ _ _ => rfl⟩
theorem ButE.then_below {B : Nat} {w w1 w2 : World} (h : ButE B w w1) (hb : Below w1.heap.size w1 w2) : ButE B w w2 :=
  ⟨Nat.le_trans h.size hb.size, fun g h1 h2 => by rw [hb.block g (Nat.lt_of_lt_of_le h2 h.size)]; exact h.block g h1 h2⟩
theorem ButE.then_set {B : Nat} {w w1 : World} (h : ButE B w w1) (o : Nat) (v : Value) : ButE B w (w1.setCell ⟨B, o, none⟩ v) :=
  ⟨Nat.le_trans h.size (by simp), fun g h1 h2 => by rw [Below.heap_setCell _ _ _ _ (by simpa using h1)]; exact h.block g h1 h2⟩
theorem ButE.drew {B : Nat} {w w1 : World} (h : ButE B w w1) : ButE B w w1.drew := ⟨h.size, h.block⟩
/-- What lies elsewhere stays. -/
theorem ownE_but {w w' : World} {M B e k : Nat} {v : Value} {n : Nat} {xs : List Value} (h : w.ownsRow B e k v n xs) (hb : ButE M w w') (hne : ∀ g, v.ownBlock = some g → g ≠ M) : w'.ownsRow B e k v n xs := by
  refine ⟨h.1, h.2.imp id fun ⟨g, cap, cur, hv, hg, hh, r⟩ => ⟨g, cap, cur, hv, hg, ?_, r⟩⟩
  rw [hb.block g (hne g (by rw [hv]; rfl)) (Array.getElem?_eq_some_iff.1 hh).1]; exact hh
theorem ownE_left {w w' : World} {M B e k : Nat} {v : Value} {n : Nat} {xs : List Value} (h : w.ownsRow B e k v n xs) (hb : Below M w w') (hne : ∀ g, v.ownBlock = some g → g < M) : w'.ownsRow B e k v n xs := by
  refine ⟨h.1, h.2.imp id fun ⟨g, cap, cur, hv, hg, hh, r⟩ => ⟨g, cap, cur, hv, hg, ?_, r⟩⟩
  rw [hb.block g (hne g (by rw [hv]; rfl))]; exact hh
theorem SrcE.but {α : Type} [Inhabited α] {E : Enc α} {w w' : World} {a : Option Addr} {n : Nat} {L : List α} {B : Nat} (h : SrcE E w a n L) (hb : ButE B w w') (hB : ∀ p, a = some p → p.block ≠ B) : SrcE E w' a n L :=
  ⟨h.len, fun j hj => by
    obtain ⟨g, off, e, hg, c⟩ := h.cell j hj
    refine ⟨g, off, e, Nat.lt_of_lt_of_le hg hb.size, fun o v hv => ?_⟩
    rw [← c o v hv]
    exact World.cell?_of_block (w := w) (hb.block g (hB _ e) hg)⟩
end Go.Proofs.Ytpahihcnmpeenaa
namespace Go.Proofs.Ytpahihcnmpeenaa
open Go.RowKit Go.Proofs.Ytpahihcnmpeenaa.Parts Go.Proofs.Ytpahihcnmpeenaa.Hexa

structure C3 where
  l : Int
  t : ByteArray
  f : Bool
instance : Inhabited C3 := ⟨⟨0, ByteArray.empty, false⟩⟩
def C3.val (s : C3) : Value := .agg #[.int .i64 s.l, .string s.t, .bool s.f]
def encC : Enc C3 := ⟨3, fun s => [.int .i64 s.l, .string s.t, .bool s.f], fun _ => rfl⟩
theorem encC_k : encC.k = 3 := rfl
theorem encC_cells (s : C3) : encC.cells s = [.int .i64 s.l, .string s.t, .bool s.f] := rfl
theorem encC_one (s : C3) : ∀ v ∈ encC.cells s, v.oneCell' = true := by
  intro v hv
  rw [encC_cells] at hv
  simp only [List.mem_cons, List.not_mem_nil, or_false] at hv
  rcases hv with rfl | rfl | rfl <;> rfl
theorem cellsC_one : ∀ L : List C3, ∀ v ∈ cellsE encC L, v.oneCell' = true
  | [], v, hv => by cases hv
  | x :: r, v, hv => by
    rw [cellsE, List.mem_append] at hv
    rcases hv with h | h
    · exact encC_one x v h
    · exact cellsC_one r v h
theorem cellsC_length (L : List C3) : (cellsE encC L).length = L.length * 3 := cellsE_length encC L
abbrev SrcC (w : World) (a : Option Addr) (n : Nat) (L : List C3) : Prop := SrcE encC w a n L
theorem SrcE.cells3 {w : World} {a : Option Addr} {n : Nat} {L : List C3} (h : SrcC w a n L) (j : Nat) (hj : j < n) : ∃ g off, a = some ⟨g, off, none⟩ ∧ g < w.heap.size ∧ w.cell? ⟨g, off + j * 3, none⟩ = some (.int .i64 (L.getD j default).l) ∧
    w.cell? ⟨g, off + j * 3 + 1, none⟩ = some (.string (L.getD j default).t) ∧ w.cell? ⟨g, off + j * 3 + 2, none⟩ = some (.bool (L.getD j default).f) := by
  obtain ⟨g, off, e, hg, c⟩ := h.cell j hj
  exact ⟨g, off, e, hg, c 0 _ rfl, c 1 _ rfl, c 2 _ rfl⟩
/-- The same at a later world. -/
theorem SrcE.cells3_at {w w' : World} {a : Option Addr} {n : Nat} {L : List C3} {B : Nat} (h : SrcC w a n L) (hb : Below B w w') (hB : w.heap.size ≤ B) (j : Nat) (hj : j < n) : ∃ g off, a = some ⟨g, off, none⟩ ∧ g < w.heap.size ∧ w'.cell? ⟨g, off + j * 3, none⟩ = some (.int .i64 (L.getD j default).l) ∧
    w'.cell? ⟨g, off + j * 3 + 1, none⟩ = some (.string (L.getD j default).t) ∧ w'.cell? ⟨g, off + j * 3 + 2, none⟩ = some (.bool (L.getD j default).f) := by
  obtain ⟨g, off, e, hg, _⟩ := h.cell j hj
  obtain ⟨g', off', e', _, c1, c2, c3⟩ := (h.below hb hB).cells3 j hj
  rw [e] at e'
  cases e'
  exact ⟨g, off, e, hg, c1, c2, c3⟩
theorem srcC_of_own {w : World} {B e n cap : Nat} {a : Option Addr} {L : List C3} (h : w.ownsRow B e 3 (.slice a n cap) n (cellsE encC L)) : SrcC w a n L := srcE_of_own (E := encC) h (by decide)

theorem infoCell : (Try.prog.info? 68).map (fun i => (i.zero, i.size, i.bytes)) = some (some (.agg #[.int .i64 0, .string ByteArray.empty, .bool false]), 3, 32) := by kernel_rfl
end Go.Proofs.Ytpahihcnmpeenaa
namespace Go.Proofs.Ytpahihcnmpeenaa
open Go.RowKit Go.Proofs.Ytpahihcnmpeenaa.Parts Go.Proofs.Ytpahihcnmpeenaa.Hexa

/-- Cell j is right behind those before it. -/
def CellOk (K : ByteArray) (L : List C3) (j : Nat) : Prop :=
  0 ≤ (L.getD j default).l ∧ (L.getD j default).l < (K.size / 16 : Nat) ∧ (L.getD j default).t.size = 16 ∧ (0 < j → (L.getD (j - 1) default).l < (L.getD j default).l)
def MemOk (K : ByteArray) (L : List C3) : Prop := K.size % 16 = 0 ∧ K.size ≤ 16000 ∧ ∀ j, j < L.length → CellOk K L j
noncomputable def memOkB (K : ByteArray) (L : List C3) : Bool := @decide (MemOk K L) (Classical.propDecidable _)
theorem memOkB_yes {K : ByteArray} {L : List C3} (h : MemOk K L) : memOkB K L = true := by unfold memOkB; exact @decide_eq_true _ (Classical.propDecidable _) h
theorem memOkB_no {K : ByteArray} {L : List C3} (h : ¬ MemOk K L) : memOkB K L = false := by unfold memOkB; exact @decide_eq_false _ (Classical.propDecidable _) h
theorem memOkB_iff {K : ByteArray} {L : List C3} : memOkB K L = true ↔ MemOk K L := by
  by_cases h : MemOk K L
  · simp [memOkB_yes h, h]
  · simp [memOkB_no h, h]
/-- The lines ascend. -/
theorem MemOk.asc {K : ByteArray} {L : List C3} (h : MemOk K L) : ∀ {i j : Nat}, i < j → j < L.length → (L.getD i default).l < (L.getD j default).l := by
  intro i j
  induction j with
  | zero => intro hi _; omega
  | succ j ih =>
    intro hi hj
    have h1 := (h.2.2 (j + 1) hj).2.2.2 (by omega)
    simp only [Nat.add_sub_cancel] at h1
    by_cases e : i = j
    · subst e; exact h1
    · exact Int.lt_trans (ih (by omega) (by omega)) h1

/-- The first cell of a line. -/
def cellIdx : List C3 → Int → Option Nat
  | [], _ => none
  | c :: r, l => if c.l = l then some 0 else (cellIdx r l).map (· + 1)
theorem cellIdx_some : ∀ {L : List C3} {l : Int} {k : Nat}, k < L.length → (L.getD k default).l = l → (∀ j, j < k → (L.getD j default).l ≠ l) → cellIdx L l = some k
  | c :: r, l, 0, _, h, _ => by rw [cellIdx, if_pos (by simpa [List.getD] using h)]
  | c :: r, l, k + 1, hk, h, hn => by
    rw [cellIdx, if_neg (by have := hn 0 (by omega); simpa [List.getD] using this), cellIdx_some (k := k) (by simpa using hk) (by simpa [List.getD] using h) (fun j hj => by have := hn (j + 1) (by omega); simpa [List.getD] using this)]
    rfl
theorem cellIdx_none : ∀ {L : List C3} {l : Int}, (∀ j, j < L.length → (L.getD j default).l ≠ l) → cellIdx L l = none
  | [], l, _ => rfl
  | c :: r, l, hn => by
    rw [cellIdx, if_neg (by have := hn 0 (by simp); simpa [List.getD] using this), cellIdx_none (fun j hj => by have := hn (j + 1) (by simpa using hj); simpa [List.getD] using this)]
    rfl
theorem cellIdx_is : ∀ {L : List C3} {l : Int} {k : Nat}, cellIdx L l = some k → k < L.length ∧ (L.getD k default).l = l ∧ (∀ j, j < k → (L.getD j default).l ≠ l)
  | c :: r, l, k, h => by
    rw [cellIdx] at h
    by_cases e : c.l = l
    · rw [if_pos e] at h; cases h
      exact ⟨by simp, by simpa [List.getD] using e, fun j hj => by omega⟩
    · rw [if_neg e] at h
      cases hr : cellIdx r l with
      | none => rw [hr] at h; cases h
      | some m =>
        rw [hr] at h; cases h
        obtain ⟨h1, h2, h3⟩ := cellIdx_is hr
        refine ⟨by simpa using h1, by simpa [List.getD] using h2, fun j hj => ?_⟩
        match j with
        | 0 => simpa [List.getD] using e
        | j + 1 => have := h3 j (by simp only at hj; omega); simpa [List.getD] using this
theorem cellIdx_not : ∀ {L : List C3} {l : Int}, cellIdx L l = none → ∀ j, j < L.length → (L.getD j default).l ≠ l
  | [], l, _, j, hj => by simp at hj
  | c :: r, l, h, j, hj => by
    rw [cellIdx] at h
    by_cases e : c.l = l
    · rw [if_pos e] at h; cases h
    · rw [if_neg e] at h
      have hr : cellIdx r l = none := by cases hr : cellIdx r l with
        | none => rfl
        | some m => rw [hr] at h; cases h
      match j with
      | 0 => simpa [List.getD] using e
      | j + 1 => have := cellIdx_not hr j (by simpa using hj); simpa [List.getD] using this

/-- A line as it reads now. -/
def lineT (K : ByteArray) (L : List C3) (l : Nat) : ByteArray :=
  match cellIdx L l with
  | some k => (L.getD k default).t
  | none => K.extract (16 * l) (16 * l + 16)
/-- A word as it reads now. -/
def wordT (K : ByteArray) (L : List C3) (m : Nat) : ByteArray := (lineT K L (m / 2)).extract (m % 2 * 8) (m % 2 * 8 + 8)
def Has (K : ByteArray) (i : Int) : Prop := 0 ≤ i ∧ i < (K.size / 8 : Nat)
instance (K : ByteArray) (i : Int) : Decidable (Has K i) := by unfold Has; infer_instance
noncomputable def wordAtB (K : ByteArray) (L : List C3) (i : Int) : ByteArray := if memOkB K L = true ∧ Has K i then wordT K L i.toNat else ⟨#[]⟩
theorem wordAtB_yes {K : ByteArray} {L : List C3} {m : Nat} (h : MemOk K L) (hm : m < K.size / 8) : wordAtB K L (m : Int) = wordT K L m := by
  unfold wordAtB Has
  rw [if_pos ⟨memOkB_yes h, by omega⟩]; rfl
theorem wordAtB_bad {K : ByteArray} {L : List C3} {i : Int} (h : ¬ MemOk K L) : wordAtB K L i = ⟨#[]⟩ := by
  unfold wordAtB
  rw [if_neg (by rw [memOkB_no h]; simp)]
theorem wordAtB_no {K : ByteArray} {L : List C3} {i : Int} (h : ¬ Has K i) : wordAtB K L i = ⟨#[]⟩ := by
  unfold wordAtB
  rw [if_neg (fun x => h x.2)]

theorem lineT_size {K : ByteArray} {L : List C3} {l : Nat} (h : MemOk K L) (hl : l < K.size / 16) : (lineT K L l).size = 16 := by
  unfold lineT
  cases hc : cellIdx L l with
  | none => simp only [ByteArray.size_extract]; omega
  | some k => exact (h.2.2 k (cellIdx_is hc).1).2.2.1

/-- A line with one of its words written. -/
def putT (s : ByteArray) (k : Nat) (x : ByteArray) : ByteArray := s.extract 0 k ++ x ++ s.extract (k + 8) s.size
def putC (K : ByteArray) (L : List C3) (m : Nat) (x : ByteArray) : C3 := ⟨((m / 2 : Nat) : Int), putT (lineT K L (m / 2)) (m % 2 * 8) x, false⟩
/-- A cell laid in at its place. -/
def insL (l : Int) (x : C3) : List C3 → List C3
  | [] => [x]
  | c :: r => if c.l < l then c :: insL l x r else x :: (c :: r).filter fun c => !decide (c.l = l)
theorem insL_lt (l : Int) (x : C3) : ∀ L : List C3, (∀ c ∈ L, c.l < l) → insL l x L = L ++ [x]
  | [], _ => rfl
  | c :: r, h => by rw [insL, if_pos (h c (by simp)), insL_lt l x r (fun d hd => h d (by simp [hd]))]; rfl
theorem insL_ge (l : Int) (x : C3) : ∀ (A : List C3) (c : C3) (r : List C3), (∀ c ∈ A, c.l < l) → ¬ c.l < l → insL l x (A ++ c :: r) = A ++ x :: (c :: r).filter fun c => !decide (c.l = l)
  | [], c, r, _, h => by rw [List.nil_append, insL, if_neg h]; rfl
  | d :: A, c, r, h, hc => by rw [List.cons_append, insL, if_pos (h d (by simp)), insL_ge l x A c r (fun d hd => h d (by simp [hd])) hc]; rfl
theorem insL_snoc (l : Int) (x c : C3) : ∀ A : List C3, (∃ d ∈ A, ¬ d.l < l) → insL l x (A ++ [c]) = insL l x A ++ [c].filter fun c => !decide (c.l = l)
  | [], h => by obtain ⟨d, hd, _⟩ := h; cases hd
  | d :: A, h => by
    rw [List.cons_append, insL, insL]
    by_cases hd : d.l < l
    · rw [if_pos hd, if_pos hd, insL_snoc l x c A (by
        obtain ⟨y, hy, hn⟩ := h
        simp only [List.mem_cons] at hy
        rcases hy with rfl | hy
        · exact absurd hd hn
        · exact ⟨y, hy, hn⟩)]
      rfl
    · rw [if_neg hd, if_neg hd, List.cons_append, ← List.filter_append]; rfl
/-- The cells behind a store. -/
def storeL (K : ByteArray) (L : List C3) (m : Nat) (x : ByteArray) : List C3 := insL ((m / 2 : Nat) : Int) (putC K L m x) L
/-- A binary search's place. -/
structure Place (L : List C3) (l : Int) (p : Nat) : Prop where
  le : p ≤ L.length
  lo : ∀ j, j < p → (L.getD j default).l < l
  hi : ∀ j, p ≤ j → j < L.length → l ≤ (L.getD j default).l
theorem getD_mem {L : List C3} {c : C3} (h : c ∈ L) : ∃ j, j < L.length ∧ L.getD j default = c := by
  obtain ⟨j, hj, e⟩ := List.getElem_of_mem h
  exact ⟨j, hj, by simp [List.getD, hj, e]⟩
theorem getD_take {L : List C3} {p j : Nat} (hj : j < p) : (L.take p).getD j default = L.getD j default := by simp [List.getD, hj]
theorem getD_drop {L : List C3} {p j : Nat} : (L.drop p).getD j default = L.getD (p + j) default := by simp [List.getD, List.getElem?_drop]
theorem Place.take_lt {L : List C3} {l : Int} {p : Nat} (h : Place L l p) : ∀ c ∈ L.take p, c.l < l := fun c hc => by
  obtain ⟨j, hj, e⟩ := getD_mem hc
  have hjp : j < p := by rw [List.length_take] at hj; omega
  rw [← e, getD_take hjp]; exact h.lo j hjp
theorem drop_cons {L : List C3} {p : Nat} (hp : p < L.length) : L.drop p = L.getD p default :: L.drop (p + 1) := by
  rw [List.drop_eq_getElem_cons hp]; simp [List.getD, hp]
/-- The cell is there: it is written over. -/
theorem ins_found {K : ByteArray} {L : List C3} {l : Int} {p : Nat} {x : C3} (hok : MemOk K L) (h : Place L l p) (hp : p < L.length) (he : (L.getD p default).l = l) : insL l x L = L.set p x := by
  have e : L = L.take p ++ L.getD p default :: L.drop (p + 1) := by rw [← drop_cons hp, List.take_append_drop]
  have hf : (L.getD p default :: L.drop (p + 1)).filter (fun c => !decide (c.l = l)) = L.drop (p + 1) := by
    rw [List.filter_cons, if_neg (by rw [decide_eq_true he]; simp)]
    refine List.filter_eq_self.2 (fun c hc => ?_)
    obtain ⟨j, hj, e⟩ := getD_mem hc
    rw [getD_drop] at e
    have := hok.asc (i := p) (j := p + 1 + j) (by omega) (by rw [List.length_drop] at hj; omega)
    rw [e, he] at this
    simp; omega
  have h1 := insL_ge l x (L.take p) (L.getD p default) (L.drop (p + 1)) h.take_lt (by omega)
  rw [← e, hf] at h1
  rw [h1, List.set_eq_take_append_cons_drop, if_pos hp]
/-- .. or is not: it comes in between. -/
theorem ins_new {L : List C3} {l : Int} {p : Nat} {x : C3} (h : Place L l p) (hn : ∀ j, j < L.length → (L.getD j default).l ≠ l) : insL l x L = L.take p ++ x :: L.drop p := by
  by_cases hp : p < L.length
  · have e : L = L.take p ++ L.getD p default :: L.drop (p + 1) := by rw [← drop_cons hp, List.take_append_drop]
    have hf : (L.getD p default :: L.drop (p + 1)).filter (fun c => !decide (c.l = l)) = L.getD p default :: L.drop (p + 1) := by
      refine List.filter_eq_self.2 (fun c hc => ?_)
      rw [← drop_cons hp] at hc
      obtain ⟨j, hj, e⟩ := getD_mem hc
      rw [getD_drop] at e
      have := hn (p + j) (by rw [List.length_drop] at hj; omega)
      rw [e] at this
      simp [this]
    have h1 := insL_ge l x (L.take p) (L.getD p default) (L.drop (p + 1)) h.take_lt (by have := h.hi p (Nat.le_refl _) hp; omega)
    rw [← e, hf] at h1
    rw [h1, ← drop_cons hp]
  · have hl : p = L.length := by have := h.le; omega
    subst hl
    rw [List.take_length, List.drop_length]
    refine insL_lt l x L (fun c hc => ?_)
    obtain ⟨j, hj, e⟩ := getD_mem hc
    rw [← e]; exact h.lo j hj
theorem Place.found {L : List C3} {l : Int} {p : Nat} (h : Place L l p) (hp : p < L.length) (he : (L.getD p default).l = l) : cellIdx L l = some p :=
  cellIdx_some hp he (fun j hj => by have := h.lo j hj; omega)
theorem Place.lost {K : ByteArray} {L : List C3} {l : Int} {p : Nat} (hok : MemOk K L) (h : Place L l p) (hn : ¬ (p < L.length ∧ (L.getD p default).l = l)) : ∀ j, j < L.length → (L.getD j default).l ≠ l := fun j hj e => by
  by_cases hp : p < L.length
  · have h1 := h.hi p (Nat.le_refl _) hp
    have h3 : (L.getD p default).l ≠ l := fun e => hn ⟨hp, e⟩
    rcases Nat.lt_trichotomy j p with h2 | h2 | h2
    · have := h.lo j h2; omega
    · subst h2; exact h3 e
    · have := hok.asc h2 hj; omega
  · have := h.lo j (by omega); omega

/-- A line's cell made to be kept by the next fence. -/
def flushL (L : List C3) (l : Int) : List C3 :=
  match cellIdx L l with
  | some k => L.set k ⟨(L.getD k default).l, (L.getD k default).t, true⟩
  | none => L
/-- A cell laid into what is kept. -/
def keepB (K : ByteArray) (c : C3) : ByteArray := K.extract 0 (16 * c.l.toNat) ++ c.t ++ K.extract (16 * c.l.toNat + 16) K.size
def fenceK (K : ByteArray) (L : List C3) : ByteArray := L.foldl (fun K c => if c.f then keepB K c else K) K
def fenceL (L : List C3) : List C3 := L.filter fun c => !c.f
theorem keepB_size {K : ByteArray} {c : C3} (h0 : 0 ≤ c.l) (h1 : c.l < (K.size / 16 : Nat)) (ht : c.t.size = 16) : (keepB K c).size = K.size := by
  unfold keepB
  simp only [ByteArray.size_append, ByteArray.size_extract, ht]
  omega
theorem fenceK_snoc (K : ByteArray) (L : List C3) (c : C3) : fenceK K (L ++ [c]) = if c.f then keepB (fenceK K L) c else fenceK K L := by simp [fenceK]
theorem fenceL_snoc (L : List C3) (c : C3) : fenceL (L ++ [c]) = fenceL L ++ if c.f then [] else [c] := by
  simp only [fenceL, List.filter_append]
  cases h : c.f <;> simp [h]
/-- Whether a pick is set. -/
def pickB (p : Int) (i : Nat) : Bool := decide (p / 2 ^ i % 2 = 1)
/-- The cells with the picks in the place of their flags. -/
def fallL : Int → Nat → List C3 → List C3
  | _, _, [] => []
  | p, i, c :: r => ⟨c.l, c.t, pickB p i⟩ :: fallL p (i + 1) r
theorem fallL_length (p : Int) : ∀ (L : List C3) (i : Nat), (fallL p i L).length = L.length
  | [], _ => rfl
  | c :: r, i => by rw [fallL, List.length_cons, fallL_length p r]; rfl
theorem fallL_at (p : Int) : ∀ (L : List C3) (i j : Nat), j < L.length → (fallL p i L).getD j default = ⟨(L.getD j default).l, (L.getD j default).t, pickB p (i + j)⟩
  | c :: r, i, 0, _ => by simp [fallL, List.getD]
  | c :: r, i, j + 1, h => by
    have := fallL_at p r (i + 1) j (by simpa using h)
    rw [show i + 1 + j = i + (j + 1) by omega] at this
    simpa [fallL, List.getD] using this
def fallK (K : ByteArray) (L : List C3) (p : Int) : ByteArray := fenceK K (fallL p 0 L)
theorem take_succ {L : List C3} {k : Nat} (h : k < L.length) : L.take (k + 1) = L.take k ++ [L.getD k default] := by
  rw [List.take_add_one]; simp [List.getD, h]
end Go.Proofs.Ytpahihcnmpeenaa
namespace Go.Proofs.Ytpahihcnmpeenaa
open Go.RowKit Go.Proofs.Ytpahihcnmpeenaa.Parts Go.Proofs.Ytpahihcnmpeenaa.Hexa

set_option maxRecDepth 100000 in
set_option maxHeartbeats 400000 in
theorem szCell_any (x : C3) (l : Int) (w : World) (h0 : 0 ≤ l) (hl : l ≤ 1048576) (hk : x.t.size ≤ maxLen) :
    Calls Try.prog 85 #[.agg #[.int .i64 x.l, .string x.t, .bool x.f], .int .i64 l] w fun e w' => ∃ r, e = .returned (.int .i64 r) ∧ (r < 0 ∨ (0 ≤ r ∧ r ≤ l ∧ (x.t.size : Int) ≤ l)) ∧ Below w.heap.size w w' := by
  obtain ⟨xl, k, f⟩ := x
  simp only at hk ⊢
  unfold maxLen at hk
  by_cases h1 : l - (k.size : Int) < 0
  · go_enter Try.func85, Try.ntmps85
    go_wp2
    go_ret
    exact ⟨_, rfl, .inl (by omega), (Below.refl _ _).alloc (Nat.le_refl _) _⟩
  · go_enter Try.func85, Try.ntmps85
    go_wp2
    go_ret
    exact ⟨_, rfl, .inr (by omega), (Below.refl _ _).alloc (Nat.le_refl _) _⟩

set_option maxRecDepth 100000 in
set_option maxHeartbeats 400000 in
theorem toCell_any (l : Int) (t : ByteArray) (f : Bool) (w : World) :
    Calls Try.prog 86 #[.agg #[.int .i64 l, .string t, .bool f]] w fun e w' => e = .returned (.agg #[.int .i64 l, .string t, .bool f]) ∧ Below w.heap.size w w' := by
  go_enter Try.func86, Try.ntmps86
  go_wp2
  refine bodyPost_ret (v := .agg #[.int .i64 l, .string t, .bool f]) ?_ rfl ⟨rfl, (((Below.refl _ _).alloc (Nat.le_refl _) _).alloc (by simp) _).alloc (by simp; omega) _⟩
  simp [results, Try.results86, go_sem]

set_option maxRecDepth 100000 in
set_option maxHeartbeats 400000 in
theorem eqCell_any (l : Int) (t : ByteArray) (f : Bool) (w : World) :
    Calls Try.prog 83 #[.agg #[.int .i64 l, .string t, .bool f], .agg #[.int .i64 l, .string t, .bool f]] w fun e w' => e = .returned (.bool true) ∧ Below w.heap.size w w' := by
  go_enter Try.func83, Try.ntmps83
  go_wp2
  go_ret
  exact ⟨rfl, ((Below.refl _ _).alloc (Nat.le_refl _) _).alloc (by simp) _⟩

/-- What a slice of cells that came in holds. -/
def FitC (L : List C3) (n b : Nat) : Prop := ∀ j, j < n → (L.getD j default).t.size ≤ b

set_option maxRecDepth 100000 in
set_option maxHeartbeats 1000000 in
theorem szCells_any (a : Option Addr) (n c : Nat) (L : List C3) (l0 : Int) (w : World) (hl0 : 0 ≤ l0) (hl1 : l0 ≤ 1048576) (hs : SrcC w a n L) (hn : n ≤ 9223372036854775807) (hm : FitC L n maxLen) :
    Calls Try.prog 71 #[.slice a n c, .int .i64 l0] w fun e w' => ∃ r, e = .returned (.int .i64 r) ∧ (r < 0 ∨ (0 ≤ r ∧ n ≤ 1048576 ∧ FitC L n 1048576)) ∧ Below w.heap.size w w' := by
  have HS := Lib.hid hs
  have HM := Lib.hid hm
  clear hs hm
  by_cases hlt0 : l0 - (n : Int) < 0
  · go_enter Try.func71, Try.ntmps71
    go_wp2
    go_ret
    exact ⟨-1, rfl, .inl (by omega), Below.refl _ _⟩
  · go_enter Try.func71, Try.ntmps71
    go_wp2
    go_loopw [1, 5] (fun lv iv wr => ∃ (k : Nat) (l : Int), k ≤ n ∧ iv = .int .i64 k ∧ lv = .int .i64 l ∧ 0 ≤ l ∧ l ≤ 1048576 ∧ Hid (∀ j, j < k → (L.getD j default).t.size ≤ 1048576) ∧ Below w.heap.size w wr) (fun _ iv _ => n - (intOf iv).toNat)
    case atStart => exact ⟨0, _, Nat.zero_le _, rfl, rfl, by omega, by omega, Lib.hid (fun j hj => by omega), Below.refl _ _⟩
    case round =>
      obtain ⟨k, l, hk, rfl, rfl, h0, hl, HA, hbel⟩ := hrel
      by_cases hlt : k < n
      · obtain ⟨g, off, rfl, hg, d1, d2, d3⟩ := HS.out.cells3_at hbel (Nat.le_refl _) k hlt
        obtain ⟨x, hx⟩ : ∃ x, L.getD k default = x := ⟨_, rfl⟩
        rw [hx] at d1 d2 d3
        go_wp2_with fail
        have hm := HM.out k hlt
        rw [hx] at hm
        refine (szCell_any x l _ h0 hl hm).mono ?_
        rintro e w1 ⟨r, rfl, hr, hb1⟩
        have hb2 : Below w.heap.size w w1 := hbel.trans (hb1.mono hbel.size)
        clear d1 d2 d3 hb1 hm
        rcases hr with h1 | ⟨h1, h2, h3⟩
        · go_wp2
          go_ret
          exact ⟨-1, rfl, .inl (by omega), hb2⟩
        · have HA2 : Hid (∀ j, j < k + 1 → (L.getD j default).t.size ≤ 1048576) := Lib.hid (fun j hj => by
            by_cases e : j = k
            · subst e; rw [hx]; omega
            · exact HA.out j (by omega))
          clear HA hx h3
          go_wp2
          go_roundw
          case rel => exact ⟨k + 1, r, by omega, by go_num, rfl, h1, by omega, HA2, hb2⟩
          case measure => (simp [intOf]; try omega)
      · obtain rfl : k = n := by omega
        go_wp2
        go_ret
        refine ⟨l, rfl, .inr ⟨h0, by omega, fun j hj => HA.out j hj⟩, hbel⟩

set_option maxRecDepth 100000 in
set_option maxHeartbeats 1000000 in
theorem szMemory_any (K : ByteArray) (a : Option Addr) (n c : Nat) (L : List C3) (w : World) (hs : SrcC w a n L) (hn : n ≤ 9223372036854775807) (hK : K.size ≤ maxLen) (hm : FitC L n maxLen) :
    Calls Try.prog 36 #[.agg #[.string K, .slice a n c], .int .i64 1048576] w fun e w' => ∃ r, e = .returned (.int .i64 r) ∧ (r < 0 ∨ (0 ≤ r ∧ K.size ≤ 1048576 ∧ n ≤ 1048576 ∧ FitC L n 1048576)) ∧ Below w.heap.size w w' := by
  have HS := Lib.hid hs
  have HM := Lib.hid hm
  clear hs hm
  unfold maxLen at hK
  by_cases h1 : (1048576 : Int) - (K.size : Int) < 0
  · go_enter Try.func36, Try.ntmps36
    go_wp2
    go_ret
    exact ⟨_, rfl, .inl (by omega), (Below.refl _ _).alloc (Nat.le_refl _) _⟩
  · go_enter Try.func36, Try.ntmps36
    have hb0 : Below w.heap.size w (w.alloc (.cells #[.string K, .slice a n c] 46)) := (Below.refl _ _).alloc (Nat.le_refl _) _
    go_wp2_with fail
    refine (szCells_any a n c L _ _ (by omega) (by omega) (HS.out.later hb0) hn HM.out).mono ?_
    rintro e w1 ⟨r, rfl, hr, hb1⟩
    have hb2 : Below w.heap.size w w1 := hb0.trans (hb1.mono hb0.size)
    clear hb0 hb1
    rcases hr with h2 | ⟨h2, h3, h4⟩
    · go_wp2
      go_ret
      exact ⟨_, rfl, .inl (by omega), hb2⟩
    · have H4 := Lib.hid h4
      clear h4
      go_wp2
      go_ret
      exact ⟨_, rfl, .inr ⟨h2, by omega, h3, H4.out⟩, hb2⟩
end Go.Proofs.Ytpahihcnmpeenaa
