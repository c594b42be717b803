/- Merged texts: HexMath, PartsMath, MarkText, Bk, Deep, Elem, Tree, TItemE, TViewE, PgMath, VwItem, NameMath, PathMath. -/
import Derived.Laws.BytesArg
import Derived.Laws.IdiomStrings
import Derived.OwnWalk
import Derived.Below
import Derived.Laws.Strings
import Derived.Test.YtkfkjcadmdcbnaaDoorRows
import Derived.WalkKit
import Derived.WalkSpells
import Derived.WalkLawsBesides
import Derived.Lib.Hide
import Derived.Deep.QuietTactic
import Derived.BigQuiet
import Derived.Deep.RegionHeld3
import Derived.RowKit3
import Derived.OneCell
import Derived.Lib.Overlaps
import Derived.Deep.AppendLies
import Derived.Lib.SplitLaws
namespace Go.Proofs.YtkfkjcadmdcbnaaDoor.Hexa


/-- The digit of a number below 16. -/
def nib (n : Nat) : UInt8 := if n < 10 then UInt8.ofNat (48 + n) else UInt8.ofNat (87 + n)
def hexB (c : UInt8) : List UInt8 := [nib (c.toNat / 16), nib (c.toNat % 16)]
def hexL (l : List UInt8) : List UInt8 := l.flatMap hexB

theorem nib_toNat (n : Nat) (h : n < 16) : (nib n).toNat = if n < 10 then 48 + n else 87 + n := by
  unfold nib; split <;> simp <;> omega

theorem hexL_length (l : List UInt8) : (hexL l).length = 2 * l.length := by
  induction l with
  | nil => rfl
  | cons c l ih => simp [hexL, hexB] at *; omega

theorem hexL_snoc (l : List UInt8) (c : UInt8) : hexL (l ++ [c]) = hexL l ++ hexB c := by simp [hexL]

theorem take_snoc (s : ByteArray) (k : Nat) (h : k < s.size) : s.data.toList.take (k + 1) = s.data.toList.take k ++ [s[k]] := by
  rw [List.take_succ_eq_append_getElem (by simpa using h)]; rfl

theorem hexL_take (s : ByteArray) (k : Nat) (h : k < s.size) : hexL (s.data.toList.take (k + 1)) = hexL (s.data.toList.take k) ++ hexB s[k] := by
  rw [take_snoc s k h, hexL_snoc]

theorem hexL_take_length (s : ByteArray) (k : Nat) (h : k ≤ s.size) : (hexL (s.data.toList.take k)).length = 2 * k := by
  have hs : k ≤ s.data.size := h
  rw [hexL_length]; simp; omega

/-- The cells of a row of bytes. -/
def bcells (l : List UInt8) : List Value := l.map fun b => Value.int .u8 b.toNat

/-- 'string(b)' of a slice that the call owns. -/
theorem own_string {P : Program} {w : World} {base e : Nat} {v : Value} {n : Nat} {l : List UInt8} (src dst : TypeId)
    (hs : P.underlying src = some (.slice e)) (he : P.underlying e = some (.int .u8)) (hd : P.underlying dst = some .string)
    (h : w.ownsRow base e 1 v n (bcells l)) : (convert src dst v).run P w = .ok (.string ⟨l.toArray⟩) w := by
  have hl := h.1
  simp [bcells] at hl
  rcases h.2 with ⟨rfl, rfl⟩ | ⟨g, cap, cur, rfl, _, hg, _, _, hcs, htk⟩
  · have : l = [] := by cases l <;> simp_all
    subst this
    exact run_convert_bytes_nil w src e hs he 0 0 dst hd
  · subst hl
    refine run_convert_bytes_back w src dst e _ cap l hs he hd fun j hj => ?_
    have := h.cellAt j (by omega)
    have e : (⟨g, 0, none⟩ : Addr).add j = ⟨g, j, none⟩ := by unfold Addr.add; split <;> simp_all
    rw [e]
    simpa [bcells, hj] using this

theorem own_block_ge {w : World} {base e size : Nat} {v : Value} {n : Nat} {xs : List Value} (h : w.ownsRow base e size v n xs) : ∀ k, v.ownBlock = some k → base ≤ k := by
  intro k hk
  rcases h.2 with ⟨rfl, _⟩ | ⟨g, cap, cur, rfl, hg, _⟩
  · simp [Value.ownBlock] at hk
  · simp [Value.ownBlock] at hk; omega

def figI (x : Int) : Int := (nib x.toNat).toNat

theorem digit_nat : ∀ (n : Fin 16), (((ByteArray.mk #[48, 49, 50, 51, 52, 53, 54, 55, 56, 57, 97, 98, 99, 100, 101, 102])[n.val]'(by show n.val < 16; exact n.isLt)).toNat) = (nib n.val).toNat := by decide

theorem and15_all : ∀ n : Fin 256, bits .and .u8 ((n.val : Nat) : Int) 15 = ((n.val % 16 : Nat) : Int) := by decide +kernel

theorem and15 (b : UInt8) : bits .and .u8 (b.toNat : Int) 15 = (b.toNat : Int) % 16 := by
  have := and15_all ⟨b.toNat, b.toNat_lt⟩
  rw [this]; simp

/-- The digit that the table of the program holds. -/
theorem digit_at (x : Int) (h0 : 0 ≤ x) (h1 : x < 16) (h : x.toNat < (ByteArray.mk #[48, 49, 50, 51, 52, 53, 54, 55, 56, 57, 97, 98, 99, 100, 101, 102]).size) :
    ((((ByteArray.mk #[48, 49, 50, 51, 52, 53, 54, 55, 56, 57, 97, 98, 99, 100, 101, 102])[x.toNat]'h).toNat : Nat) : Int) = figI x := by
  have := digit_nat ⟨x.toNat, by omega⟩
  unfold figI
  rw [← this]

/-- What one round of Hex appends. -/
theorem hex_round (s : ByteArray) (k : Nat) (h : k < s.size) :
    bcells (hexL (s.data.toList.take k)) ++ [.int .u8 (figI (s[k].toNat / 16)), .int .u8 (figI (s[k].toNat % 16))] = bcells (hexL (s.data.toList.take (k + 1))) := by
  have e1 : ((s[k].toNat : Int) / 16).toNat = s[k].toNat / 16 := by omega
  have e2 : ((s[k].toNat : Int) % 16).toNat = s[k].toNat % 16 := by omega
  rw [hexL_take s k h]
  simp [bcells, hexB, figI, e1, e2]

theorem own_length {w : World} {base e : Nat} {v : Value} {n : Nat} {xs : List Value} (h : w.ownsRow base e 1 v n xs) : xs.length = n := by simpa using h.1
end Go.Proofs.YtkfkjcadmdcbnaaDoor.Hexa
namespace Go.Proofs.YtkfkjcadmdcbnaaDoor.Parts
open Go.RowKit

/-- A field is added where the run is not empty. -/
def put (P : List ByteArray) (s : ByteArray) (b i : Nat) : List ByteArray := if b < i then P ++ [s.extract b i] else P

/-- Behind the first i bytes: where the open run begins, and the fields so far. -/
def st (s : ByteArray) : Nat → Nat × List ByteArray
  | 0 => (0, [])
  | i + 1 => if s.data.toList.getD i 0 = 32 then (i + 1, put (st s i).2 s (st s i).1 i) else st s i

theorem st_le (s : ByteArray) : ∀ i, (st s i).1 ≤ i
  | 0 => Nat.le_refl _
  | i + 1 => by
    have := st_le s i
    simp only [st]; split
    · exact Nat.le_refl _
    · omega

theorem put_length (P : List ByteArray) (s : ByteArray) (b i : Nat) : (put P s b i).length ≤ P.length + 1 := by
  unfold put; split <;> simp

theorem st_length (s : ByteArray) : ∀ i, (st s i).2.length ≤ i
  | 0 => Nat.le_refl _
  | i + 1 => by
    have := st_length s i
    have h2 := put_length (st s i).2 s (st s i).1 i
    simp only [st]; split
    · simp only; omega
    · omega

theorem getD_eq (s : ByteArray) (i : Nat) (h : i < s.size) : s.data.toList.getD i 0 = s[i] := by
  have h' : i < s.data.toList.length := by simpa using h
  simp [List.getD, List.getElem?_eq_getElem h']; rfl

theorem st_space (s : ByteArray) (i : Nat) (h : i < s.size) (e : (s[i].toNat : Int) = 32) : st s (i + 1) = (i + 1, put (st s i).2 s (st s i).1 i) := by
  have : s[i] = 32 := by apply UInt8.toNat_inj.1; simp; omega
  simp only [st]; rw [if_pos (by rw [getD_eq s i h, this])]
theorem st_other (s : ByteArray) (i : Nat) (h : i < s.size) (e : (s[i].toNat : Int) ≠ 32) : st s (i + 1) = st s i := by
  have : s[i] ≠ 32 := fun h => e (by rw [h]; rfl)
  simp only [st]; rw [if_neg (by rw [getD_eq s i h]; exact this)]

/-- Every byte up to place n may stand in a line. -/
def okTo (s : ByteArray) (n : Nat) : Prop := ∀ j (h : j < s.size), j < n → (32 : Int) ≤ s[j].toNat ∧ (s[j].toNat : Int) ≤ 126

theorem okTo_step {s : ByteArray} {i : Nat} (g : okTo s i) (h : i < s.size) (h1 : (32 : Int) ≤ s[i].toNat) (h2 : (s[i].toNat : Int) ≤ 126) : okTo s (i + 1) := by
  intro j hj hi
  by_cases e : j < i
  · exact g j hj e
  · have : j = i := by omega
    subst this; exact ⟨h1, h2⟩

def fin (s : ByteArray) : List ByteArray := put (st s s.size).2 s (st s s.size).1 s.size

open Classical in
/-- What PartsOf returns for a line of at most 600 bytes. -/
noncomputable def parts (s : ByteArray) : List ByteArray := if okTo s s.size ∧ (fin s).length ≤ 12 then fin s else []
open Classical in
noncomputable def partsOk (s : ByteArray) : Bool := if okTo s s.size ∧ (fin s).length ≤ 12 then true else false

theorem parts_yes {s : ByteArray} (h : okTo s s.size) (h2 : (fin s).length ≤ 12) : parts s = fin s ∧ partsOk s = true := by simp [parts, partsOk, h, h2]
theorem parts_many {s : ByteArray} (h2 : 12 < (fin s).length) : parts s = [] ∧ partsOk s = false := by
  have : ¬ (fin s).length ≤ 12 := by omega
  simp [parts, partsOk, this]
theorem parts_bad {s : ByteArray} (i : Nat) (h : i < s.size) (hb : (s[i].toNat : Int) < 32 ∨ (126 : Int) < s[i].toNat) : parts s = [] ∧ partsOk s = false := by
  have : ¬ okTo s s.size := fun g => by have := g i h h; omega
  simp [parts, partsOk, this]
theorem parts_le (s : ByteArray) : (parts s).length ≤ 12 := by
  unfold parts; split
  · rename_i h; exact h.2
  · simp

/-- What one more space, or the end of the line, makes of the fields. -/
theorem put_yes {P : List ByteArray} {s : ByteArray} {b i : Nat} (h : b < i) : put P s b i = P ++ [s.extract b i] := by unfold put; rw [if_pos h]
theorem put_no {P : List ByteArray} {s : ByteArray} {b i : Nat} (h : ¬ b < i) : put P s b i = P := by unfold put; rw [if_neg h]

/-- The relation behind a space at place i. -/
theorem rel_space {s : ByteArray} {i b : Nat} {P : List ByteArray} (h : i < s.size) (e : (s[i].toNat : Int) = 32) (H1 : i ≤ s.size → b = (st s i).1 ∧ P = (st s i).2) :
    (i + 1 ≤ s.size → i + 1 = (st s (i + 1)).1 ∧ put P s b i = (st s (i + 1)).2) ∧ (s.size < i + 1 → put P s b i = fin s) := by
  obtain ⟨rfl, rfl⟩ := H1 (by omega)
  rw [st_space s i h e]
  exact ⟨fun _ => ⟨rfl, rfl⟩, fun _ => by omega⟩
/-- The relation behind the end. -/
theorem rel_end {s : ByteArray} {b : Nat} {P : List ByteArray} (H1 : s.size ≤ s.size → b = (st s s.size).1 ∧ P = (st s s.size).2) :
    (s.size + 1 ≤ s.size → s.size + 1 = (st s (s.size + 1)).1 ∧ put P s b s.size = (st s (s.size + 1)).2) ∧ (s.size < s.size + 1 → put P s b s.size = fin s) := by
  obtain ⟨rfl, rfl⟩ := H1 (Nat.le_refl _)
  exact ⟨fun h => by omega, fun _ => rfl⟩
/-- The relation behind another byte. -/
theorem rel_other {s : ByteArray} {i b : Nat} {P : List ByteArray} (h : i < s.size) (e : (s[i].toNat : Int) ≠ 32) (H1 : i ≤ s.size → b = (st s i).1 ∧ P = (st s i).2) :
    (i + 1 ≤ s.size → b = (st s (i + 1)).1 ∧ P = (st s (i + 1)).2) ∧ (s.size < i + 1 → P = fin s) := by
  rw [st_other s i h e]
  exact ⟨fun _ => H1 (by omega), fun _ => by omega⟩
theorem okTo_end {s : ByteArray} (h : okTo s s.size) : okTo s (s.size + 1) := fun j hj _ => h j hj hj

theorem ext_size (s : ByteArray) (b i : Nat) : (s.extract b i).size ≤ s.size := by simp [ByteArray.size_extract]; omega

/-- The fields with one more run, if it is not empty. -/
def addRun (P : List ByteArray) (r : ByteArray) : List ByteArray := if r.toList.isEmpty then P else P ++ [r]
theorem isEmpty_iff (r : ByteArray) : r.toList.isEmpty = true ↔ r.size = 0 := by
  rw [List.isEmpty_iff, ← List.length_eq_zero_iff, ByteArray.toList_eq]; simp
theorem addRun_eq (P : List ByteArray) (s : ByteArray) (b i : Nat) (h : i ≤ s.size) : addRun P (s.extract b i) = put P s b i := by
  unfold addRun put
  by_cases hb : b < i
  · rw [if_pos hb, if_neg]
    rw [isEmpty_iff, ByteArray.size_extract]; omega
  · rw [if_neg hb, if_pos]
    rw [isEmpty_iff, ByteArray.size_extract]; omega

def scells (P : List ByteArray) : List Value := P.map Value.string

theorem own_below {B : Nat} {e : TypeId} {k : Nat} {v : Value} {n : Nat} {xs : List Value} {w w' : World} (h : w.ownsRow B e k v n xs) (hb : Below w.heap.size w w') : w'.ownsRow B e k v n xs := by
  obtain ⟨h1, h2⟩ := h
  refine ⟨h1, ?_⟩
  rcases h2 with h2 | ⟨g, cap, cur, hv, hg, hh, r⟩
  · exact Or.inl h2
  · have hlt : g < w.heap.size := (Array.getElem?_eq_some_iff.1 hh).1
    exact Or.inr ⟨g, cap, cur, hv, hg, by rw [hb.block g hlt]; exact hh, r⟩

/-- The slice at the address reads as these texts. -/
def Reads (w : World) (ad : Option Addr) (xs : List Value) : Prop := ∀ j, j < xs.length → ∃ g, ad = some ⟨g, 0, none⟩ ∧ w.cell? ⟨g, j, none⟩ = xs[j]?

theorem own_form {w : World} {base e : Nat} {v : Value} {n : Nat} {xs : List Value} (h : w.ownsRow base e 1 v n xs) : ∃ ad cap, v = .slice ad n cap ∧ cap ≤ maxLen ∧ n ≤ cap ∧ Reads w ad xs := by
  have hl : xs.length = n := by simpa using h.1
  rcases h.2 with ⟨rfl, rfl⟩ | ⟨g, cap, cur, rfl, hg, hh, hn, hc, _⟩
  · refine ⟨none, 0, rfl, by decide, Nat.le_refl _, fun j hj => ?_⟩
    omega
  · exact ⟨_, cap, rfl, hc, hn, fun j hj => ⟨g, rfl, h.cellAt j (by omega)⟩⟩

theorem own_reads {w : World} {base e : Nat} {ad : Option Addr} {n cap : Nat} {xs : List Value} (h : w.ownsRow base e 1 (.slice ad n cap) n xs) : Reads w ad xs := by
  obtain ⟨ad', cap', hv, _, _, hr⟩ := own_form h
  simp at hv
  obtain ⟨rfl, _⟩ := hv
  exact hr

/-- The decimal digits of a number; none for 0. -/
def digs (k : Nat) : List UInt8 := if _h : k = 0 then [] else digs (k / 10) ++ [UInt8.ofNat (48 + k % 10)]
termination_by k
decreasing_by omega

theorem digs_zero : digs 0 = [] := by rw [digs]; simp
theorem digs_step (k : Nat) (h : 0 < k) : digs k = digs (k / 10) ++ [UInt8.ofNat (48 + k % 10)] := by rw [digs]; simp; omega
theorem digs_len (k : Nat) : (digs k).length ≤ k := by
  induction k using Nat.strongRecOn with
  | _ k ih =>
    by_cases h : k = 0
    · subst h; rw [digs_zero]; simp
    · rw [digs_step k (by omega)]
      have := ih (k / 10) (by omega)
      simp; omega
def markT (k : Nat) : ByteArray := ⟨(109 :: digs k).toArray⟩

theorem one_byte (c : UInt8) : ∃ cs : ByteArray, cs.size = 1 ∧ cs.data.toList = [c] ∧ cs = ⟨[c].toArray⟩ := ⟨⟨[c].toArray⟩, rfl, rfl, rfl⟩
theorem data_append (a b : ByteArray) : (a ++ b).data.toList = a.data.toList ++ b.data.toList := by simp
theorem digs_round {k j : Nat} {t cs : ByteArray} (hj : 0 < j) (h : digs j ++ t.data.toList = digs k) (hc : cs.data.toList = [UInt8.ofNat (48 + j % 10)]) : digs (j / 10) ++ (cs ++ t).data.toList = digs k := by
  rw [data_append, hc, ← h, digs_step j hj, List.append_assoc]
theorem digs_size {k j : Nat} {t : ByteArray} (h : digs j ++ t.data.toList = digs k) : t.size ≤ k := by
  have := digs_len k
  rw [← h, List.length_append] at this
  simp at this; omega
theorem mark_end {k : Nat} {t : ByteArray} (h : digs 0 ++ t.data.toList = digs k) : (⟨#[109]⟩ : ByteArray) ++ t = markT k := by
  rw [digs_zero, List.nil_append] at h
  apply ByteArray.ext
  apply Array.toList_inj.1
  rw [data_append, h]; rfl
end Go.Proofs.YtkfkjcadmdcbnaaDoor.Parts
namespace Go.Proofs.YtkfkjcadmdcbnaaDoor
open Go.RowKit Go.Proofs.YtkfkjcadmdcbnaaDoor.Parts Go.Proofs.YtkfkjcadmdcbnaaDoor.Hexa
theorem ret_str {a b : ByteArray} (h : a = b) : Ending.returned (.string a) = .returned (.string b) := by rw [h]

set_option maxRecDepth 100000 in
set_option maxHeartbeats 1000000 in
theorem markText_any (k : Nat) (w : World) (h0 : 0 < k) (hk : k ≤ 100000000) :
    Calls Tryd.prog 29 #[.int .i64 k] w fun e w' => e = .returned (.string (markT k)) ∧ Below w.heap.size w w' := by
  go_enter Tryd.func29, Tryd.ntmps29
  go_wp2
  go_loopw [0, 3] (fun kv sv wr => ∃ (j : Nat) (t : ByteArray), j ≤ k ∧ t.size ≤ k ∧ Hid (digs j ++ t.data.toList = digs k) ∧ kv = .int .i64 j ∧ sv = .string t ∧ Below w.heap.size w wr) (fun kv _ _ => (intOf kv).toNat)
  case atStart => exact ⟨k, ⟨#[]⟩, Nat.le_refl _, Nat.zero_le _, Lib.hid (by simp), rfl, rfl, Below.refl _ _⟩
  case round =>
    obtain ⟨j, t, hj, ht, HD, rfl, rfl, hbel⟩ := hrel
    by_cases hlt : 0 < j
    · obtain ⟨cs, hcs, hcd, hce⟩ := Parts.one_byte (UInt8.ofNat (48 + j % 10))
      have HC := Lib.hid hcd
      have HT := Lib.hid (digs_round hlt HD.out hcd)
      have HS := digs_size HT.out
      have HS' : cs.size + t.size ≤ 100000001 := by omega
      have en : ((UInt8.ofNat (48 + j % 10)).toNat : Int) = 48 + (j : Int) % 10 := by rw [UInt8.toNat_ofNat']; omega
      have hown := World.ownsRow_lit (e := 5) (size := 1) (base := w.heap.size) wr #[.int .u8 (48 + (j : Int) % 10)] 1 hbel.size (by decide) rfl
      have hconv := own_string (P := Tryd.prog) (l := [UInt8.ofNat (48 + j % 10)]) 69 9 Tryd.underlying69 Tryd.underlying5 Tryd.underlying9 (by rw [show bcells [UInt8.ofNat (48 + j % 10)] = [Value.int .u8 (48 + (j : Int) % 10)] by simp only [bcells, List.map, en]]; exact hown)
      rw [← hce] at hconv
      clear hown hcd hce en
      go_wp2
      go_roundw
      case rel => exact ⟨j / 10, cs ++ t, by omega, HS, HT, by go_num, rfl, hbel.alloc hbel.size _⟩
      case measure => (simp [intOf]; omega)
    · obtain rfl : j = 0 := by omega
      go_wp2
      go_ret
      exact ⟨ret_str (mark_end HD.out), hbel⟩

end Go.Proofs.YtkfkjcadmdcbnaaDoor
namespace Go.Proofs.YtkfkjcadmdcbnaaDoor
open Go.RowKit

/-- Block b holds just these cells. -/
def Bk (w : World) (b : Nat) (cs : Array Value) (t : TypeId) : Prop := w.heap[b]? = some (.cells cs t (0, 0))
section
variable {w w' : World} {b : Nat} {cs : Array Value} {t : TypeId}
theorem Bk.lt (h : Bk w b cs t) : b < w.heap.size := (Array.getElem?_eq_some_iff.1 h).1
theorem Bk.later (h : Bk w b cs t) (hb : Below w.heap.size w w') : Bk w' b cs t := (hb.block b h.lt).trans h
theorem Bk.drew (h : Bk w b cs t) : Bk w.drew b cs t := h
theorem Bk.alloc (w : World) (cs : Array Value) (t : TypeId) : Bk (w.alloc (.cells cs t)) w.heap.size cs t := heap_alloc_new w _
theorem Bk.cell (h : Bk w b cs t) {j : Nat} {v : Value} (hv : cs[j]? = some v) : w.cell? ⟨b, j, none⟩ = some v := by unfold Bk at h; simp [World.cell?, h, hv]
theorem Bk.fr (h : Bk w b cs t) {o : Nat} : w.frozen? ⟨b, o, none⟩ = false := by unfold Bk at h; simp [World.frozen?, h]
theorem Bk.set (h : Bk w b cs t) (j : Nat) (v : Value) : Bk (w.setCell ⟨b, j, none⟩ v) b (cs.setIfInBounds j v) t := heap_setCell_same w b j cs t v h
theorem Bk.other (h : Bk w b cs t) {c o : Nat} (hne : b ≠ c) (v : Value) : Bk (w.setCell ⟨c, o, none⟩ v) b cs t := (Below.heap_setCell _ _ _ _ hne).trans h
theorem Bk.grown {r : Option Nat} (h : Bk w b cs t) (hg : w.grownBy w' r) (hne : r ≠ some b) : Bk w' b cs t := (hg.block b h.lt (fun e => hne e.symm)).trans h
end
theorem below_bk (w : World) (o : Obj) : Below w.heap.size w (w.alloc o) := (Below.refl _ _).alloc (Nat.le_refl _) _
end Go.Proofs.YtkfkjcadmdcbnaaDoor
namespace Go.Proofs.YtkfkjcadmdcbnaaDoor
open Go.RowKit Go.Proofs.YtkfkjcadmdcbnaaDoor.Parts

inductive Cel where
  | val (v : Value)
  | sl (e : TypeId) (k n : Nat) (cs : List Cel)
instance : Inhabited Cel := ⟨.val undef⟩

/-! What reads as a tree. -/
mutual
def Cel.Rd (w : World) : Cel → Value → Prop
  | .val x, v => v = x
  | .sl _ k n cs, v => cs.length = n * k ∧ ∃ a c vs, v = .slice a n c ∧ RdL w cs vs ∧ (n = 0 ∨ ∃ g off, a = some ⟨g, off, none⟩ ∧ g < w.heap.size ∧ ∀ (j : Nat) (u : Value), vs[j]? = some u → w.cell? ⟨g, off + j, none⟩ = some u)
def RdL (w : World) : List Cel → List Value → Prop
  | [], vs => vs = []
  | c :: cs, vs => ∃ v r, vs = v :: r ∧ Cel.Rd w c v ∧ RdL w cs r
end

/-! What the call owns: F are its blocks. -/
mutual
def Cel.Own (w : World) : Cel → List Nat → Value → Prop
  | .val x, F, v => F = [] ∧ v = x
  | .sl e k n cs, F, v => cs.length = n * k ∧ ∃ a c, v = .slice a n c ∧ n ≤ c ∧ c ≤ maxLen ∧ ((n = 0 ∧ F = []) ∨ ∃ g cur G, a = some ⟨g, 0, none⟩ ∧ F = g :: G ∧ w.heap[g]? = some (.cells cur e (0, 0)) ∧ n * k ≤ cur.size ∧ OwnL w cs G (cur.toList.take (n * k)))
def OwnL (w : World) : List Cel → List Nat → List Value → Prop
  | [], F, vs => F = [] ∧ vs = []
  | c :: cs, F, vs => ∃ v r G H, vs = v :: r ∧ F = G ++ H ∧ Cel.Own w c G v ∧ OwnL w cs H r
end

section
variable {w w' : World}
mutual
theorem Cel.Rd.later (hb : Below w.heap.size w w') : ∀ (c : Cel) (v : Value), c.Rd w v → c.Rd w' v
  | .val _, _, h => h
  | .sl _ _ _ cs, _, ⟨hl, a, c, vs, hv, hr, h⟩ => ⟨hl, a, c, vs, hv, RdL.later hb cs vs hr, h.imp id fun ⟨g, off, ha, hg, hc⟩ => ⟨g, off, ha, Nat.lt_of_lt_of_le hg hb.size, fun j u hu => by rw [hb.cell (by exact hg)]; exact hc j u hu⟩⟩
theorem RdL.later (hb : Below w.heap.size w w') : ∀ (cs : List Cel) (vs : List Value), RdL w cs vs → RdL w' cs vs
  | [], _, h => h
  | c :: cs, _, ⟨v, r, hv, h1, h2⟩ => ⟨v, r, hv, Cel.Rd.later hb c v h1, RdL.later hb cs r h2⟩
end

mutual
theorem Cel.Own.kept : ∀ (c : Cel) (F : List Nat) (v : Value), (∀ g ∈ F, w'.heap[g]? = w.heap[g]?) → c.Own w F v → c.Own w' F v
  | .val _, _, _, _, h => h
  | .sl _ _ _ cs, F, _, hk, ⟨hl, a, c, hv, h1, h2, h⟩ => ⟨hl, a, c, hv, h1, h2, h.imp id fun ⟨g, cur, G, ha, hF, hg, hn, ho⟩ => ⟨g, cur, G, ha, hF, by rw [hk g (by rw [hF]; exact List.mem_cons_self)]; exact hg, hn, OwnL.kept cs G _ (fun h hh => hk h (by rw [hF]; exact List.mem_cons_of_mem _ hh)) ho⟩⟩
theorem OwnL.kept : ∀ (cs : List Cel) (F : List Nat) (vs : List Value), (∀ g ∈ F, w'.heap[g]? = w.heap[g]?) → OwnL w cs F vs → OwnL w' cs F vs
  | [], _, _, _, h => h
  | c :: cs, F, _, hk, ⟨v, r, G, H, hv, hF, h1, h2⟩ => ⟨v, r, G, H, hv, hF, Cel.Own.kept c G v (fun g hg => hk g (by rw [hF]; exact List.mem_append_left _ hg)) h1, OwnL.kept cs H r (fun g hg => hk g (by rw [hF]; exact List.mem_append_right _ hg)) h2⟩
end

mutual
theorem Cel.Own.lt : ∀ (c : Cel) (F : List Nat) (v : Value), c.Own w F v → ∀ g ∈ F, g < w.heap.size
  | .val _, _, _, ⟨hF, _⟩, g, hg => by rw [hF] at hg; cases hg
  | .sl _ _ _ cs, F, _, ⟨_, _, _, _, _, _, h⟩, g, hg => by
    rcases h with ⟨_, hF⟩ | ⟨b, cur, G, _, hF, hb, _, ho⟩
    · rw [hF] at hg; cases hg
    · rw [hF] at hg
      rcases List.mem_cons.1 hg with rfl | hg
      · exact (Array.getElem?_eq_some_iff.1 hb).1
      · exact OwnL.lt cs G _ ho g hg
theorem OwnL.lt : ∀ (cs : List Cel) (F : List Nat) (vs : List Value), OwnL w cs F vs → ∀ g ∈ F, g < w.heap.size
  | [], _, _, ⟨hF, _⟩, g, hg => by rw [hF] at hg; cases hg
  | c :: cs, F, _, ⟨v, r, G, H, _, hF, h1, h2⟩, g, hg => by
    rw [hF] at hg
    rcases List.mem_append.1 hg with hg | hg
    · exact Cel.Own.lt c G v h1 g hg
    · exact OwnL.lt cs H r h2 g hg
end

theorem RdL.length : ∀ (cs : List Cel) (vs : List Value), RdL w cs vs → vs.length = cs.length
  | [], _, h => by rw [show _ = [] from h]; rfl
  | _ :: cs, _, ⟨v, r, hv, _, h2⟩ => by rw [hv, List.length_cons, RdL.length cs r h2, List.length_cons]
theorem OwnL.length : ∀ (cs : List Cel) (F : List Nat) (vs : List Value), OwnL w cs F vs → vs.length = cs.length
  | [], _, _, ⟨_, h⟩ => by rw [h]; rfl
  | _ :: cs, _, _, ⟨v, r, _, H, hv, _, _, h2⟩ => by rw [hv, List.length_cons, OwnL.length cs H r h2, List.length_cons]

mutual
theorem Cel.Own.rd : ∀ (c : Cel) (F : List Nat) (v : Value), c.Own w F v → c.Rd w v
  | .val _, _, _, ⟨_, h⟩ => h
  | .sl _ k n cs, _, _, ⟨hl, a, c, hv, _, _, h⟩ => by
    rcases h with ⟨h0, _⟩ | ⟨g, cur, G, ha, hF, hg, hn, ho⟩
    · obtain rfl : cs = [] := List.length_eq_zero_iff.1 (by rw [hl, h0, Nat.zero_mul])
      exact ⟨hl, a, c, [], hv, rfl, .inl h0⟩
    · refine ⟨hl, a, c, _, hv, OwnL.rd cs G _ ho, .inr ⟨g, 0, ha, (Array.getElem?_eq_some_iff.1 hg).1, fun j u hu => ?_⟩⟩
      rw [List.getElem?_take] at hu
      split at hu
      · rw [Nat.zero_add]
        simp only [World.cell?, hg]
        simpa using hu
      · cases hu
theorem OwnL.rd : ∀ (cs : List Cel) (F : List Nat) (vs : List Value), OwnL w cs F vs → RdL w cs vs
  | [], _, _, ⟨_, h⟩ => h
  | c :: cs, _, _, ⟨v, r, G, H, hv, _, h1, h2⟩ => ⟨v, r, hv, Cel.Own.rd c G v h1, OwnL.rd cs H r h2⟩
end

theorem RdL.get : ∀ (cs : List Cel) (vs : List Value) (j : Nat), RdL w cs vs → j < cs.length → ∃ u, vs[j]? = some u ∧ (cs.getD j default).Rd w u
  | [], _, _, _, hj => absurd hj (Nat.not_lt_zero _)
  | c :: cs, _, 0, ⟨v, r, hv, h1, _⟩, _ => ⟨v, by rw [hv]; rfl, h1⟩
  | c :: cs, _, j + 1, ⟨v, r, hv, _, h2⟩, hj => by
    obtain ⟨u, hu, h⟩ := RdL.get cs r j h2 (by simpa using hj)
    exact ⟨u, by rw [hv]; exact hu, h⟩
/-- A place of a slice that reads as a tree. -/
theorem Cel.Rd.at {e k n c : Nat} {a : Option Addr} {cs : List Cel} (h : (Cel.sl e k n cs).Rd w (.slice a n c)) (j : Nat) (hj : j < n * k) :
    ∃ g off u, a = some ⟨g, off, none⟩ ∧ g < w.heap.size ∧ w.cell? ⟨g, off + j, none⟩ = some u ∧ (cs.getD j default).Rd w u := by
  obtain ⟨hl, a', c', vs, hv, hr, h⟩ := h
  cases hv
  rcases h with h0 | ⟨g, off, ha, hg, hc⟩
  · rw [h0, Nat.zero_mul] at hj; omega
  · obtain ⟨u, hu, h⟩ := RdL.get cs vs j hr (by omega)
    exact ⟨g, off, u, ha, hg, hc j u hu, h⟩

theorem OwnL.sub : ∀ (cs : List Cel) (F : List Nat) (vs : List Value) (j : Nat), OwnL w cs F vs → j < cs.length →
    ∃ P G Q u, F = P ++ (G ++ Q) ∧ vs[j]? = some u ∧ (cs.getD j default).Own w G u ∧
      ∀ (w' : World) (c' : Cel) (u' : Value), c'.Own w' G u' → (∀ h ∈ P, w'.heap[h]? = w.heap[h]?) → (∀ h ∈ Q, w'.heap[h]? = w.heap[h]?) → OwnL w' (cs.set j c') F (vs.set j u')
  | [], _, _, _, _, hj => absurd hj (Nat.not_lt_zero _)
  | c :: cs, F, _, 0, ⟨v, r, G, H, hv, hF, h1, h2⟩, _ => ⟨[], G, H, v, by rw [hF]; rfl, by rw [hv]; rfl, h1, fun w' c' u' ho _ hQ => by
      rw [hv]; exact ⟨u', r, G, H, rfl, hF, ho, OwnL.kept cs H r hQ h2⟩⟩
  | c :: cs, F, _, j + 1, ⟨v, r, G, H, hv, hF, h1, h2⟩, hj => by
    obtain ⟨P, G', Q, u, hH, hu, ho, hk⟩ := OwnL.sub cs H r j h2 (by simpa using hj)
    refine ⟨G ++ P, G', Q, u, by rw [hF, hH, List.append_assoc], by rw [hv]; exact hu, ho, fun w' c' u' ho' hP hQ => ?_⟩
    rw [hv]
    exact ⟨v, r.set j u', G, H, rfl, hF, Cel.Own.kept c G v (fun h hh => hP h (List.mem_append_left _ hh)) h1, hk w' c' u' ho' (fun h hh => hP h (List.mem_append_right _ hh)) hQ⟩

/-- Blocks outside F lie as they lay. -/
structure OutF (F : List Nat) (w w' : World) : Prop where
  os : w'.os = w.os
  tape : w'.tape = w.tape
  output : w'.output = w.output
  size : w.heap.size ≤ w'.heap.size
  block : ∀ g, g ∉ F → g < w.heap.size → w'.heap[g]? = w.heap[g]?
theorem OutF.refl (F : List Nat) (w : World) : OutF F w w := ⟨rfl, rfl, rfl, Nat.le_refl _, fun _ _ _ => rfl⟩
theorem OutF.trans {F : List Nat} {a b c : World} (h : OutF F a b) (h' : OutF F b c) : OutF F a c :=
  ⟨h'.os.trans h.os, h'.tape.trans h.tape, h'.output.trans h.output, Nat.le_trans h.size h'.size, fun g hg hl => (h'.block g hg (Nat.lt_of_lt_of_le hl h.size)).trans (h.block g hg hl)⟩
theorem OutF.mono {F G : List Nat} {a b : World} (h : OutF F a b) (hs : ∀ g ∈ F, g ∈ G) : OutF G a b := ⟨h.os, h.tape, h.output, h.size, fun g hg hl => h.block g (fun hh => hg (hs g hh)) hl⟩
theorem OutF.of_below {F : List Nat} {a b : World} (h : Below a.heap.size a b) : OutF F a b := ⟨h.os, h.tape, h.output, h.size, fun g _ hl => h.block g hl⟩
theorem OutF.below {F : List Nat} {B : Nat} {a b : World} (h : OutF F a b) (hF : ∀ g ∈ F, B ≤ g) (hB : B ≤ a.heap.size) : Below B a b := ⟨h.os, h.tape, h.output, h.size, fun g hg => h.block g (fun hh => by have := hF g hh; omega) (by omega)⟩

/-- The place j of a slice that the call owns: what lies there, and what becomes of the whole when it changes. -/
theorem Cel.Own.sub {e k n c : Nat} {a : Option Addr} {cs : List Cel} {F : List Nat} (h : (Cel.sl e k n cs).Own w F (.slice a n c)) (hF : F.Nodup) (j : Nat) (hj : j < n * k) :
    ∃ g G u, a = some ⟨g, 0, none⟩ ∧ g ∈ F ∧ (∀ x ∈ G, x ∈ F) ∧ g ∉ G ∧ G.Nodup ∧ w.cell? ⟨g, j, none⟩ = some u ∧ w.frozen? ⟨g, j, none⟩ = false ∧ (cs.getD j default).Own w G u ∧
      (∀ (w' : World) (c' : Cel), c'.Own w' G u → OutF G w w' → (Cel.sl e k n (cs.set j c')).Own w' F (.slice a n c)) ∧
      (∀ y, cs.getD j default = .val y → ∀ x, (Cel.sl e k n (cs.set j (.val x))).Own (w.setCell ⟨g, j, none⟩ x) F (.slice a n c) ∧ OutF F w (w.setCell ⟨g, j, none⟩ x)) := by
  have hlt := Cel.Own.lt _ _ _ h
  obtain ⟨hl, a', c', hv, hnc, hcm, h⟩ := h
  cases hv
  rcases h with ⟨h0, _⟩ | ⟨g, cur, G0, ha, hFG, hg, hn, ho⟩
  · rw [h0, Nat.zero_mul] at hj; omega
  obtain ⟨P, G, Q, u, hG0, hu, hou, hk⟩ := OwnL.sub cs G0 _ j ho (by omega)
  have hF0 := hF
  rw [hFG, List.nodup_cons, hG0] at hF
  obtain ⟨hgn, hnd⟩ := hF
  have hju : cur.toList[j]? = some u := by
    rw [List.getElem?_take, if_pos hj] at hu
    exact hu
  have hcell : w.cell? ⟨g, j, none⟩ = some u := by simp only [World.cell?, hg]; simpa using hju
  have hPG : ∀ x ∈ P, x ∉ G := fun x hx hx' => (List.nodup_append.1 hnd).2.2 x hx x (List.mem_append_left _ hx') rfl
  have hQG : ∀ x ∈ Q, x ∉ G := fun x hx hx' => (List.nodup_append.1 (List.nodup_append.1 hnd).2.1).2.2 x hx' x hx rfl
  have hGn : g ∉ G := fun hx => hgn (List.mem_append_right _ (List.mem_append_left _ hx))
  have hin : ∀ x ∈ P ++ (G ++ Q), x ∈ F := fun x hx => by rw [hFG, hG0]; exact List.mem_cons_of_mem _ hx
  refine ⟨g, G, u, ha, by rw [hFG]; exact List.mem_cons_self, fun x hx => hin x (List.mem_append_right _ (List.mem_append_left _ hx)), hGn, (List.nodup_append.1 (List.nodup_append.1 hnd).2.1).1, hcell, by simp [World.frozen?, hg], hou, ?_, ?_⟩
  · intro w1 c1 ho1 hout
    refine ⟨by rw [List.length_set]; exact hl, a, c, rfl, hnc, hcm, .inr ⟨g, cur, G0, ha, hFG, ?_, hn, ?_⟩⟩
    · rw [hout.block g hGn (hlt g (by rw [hFG]; exact List.mem_cons_self))]; exact hg
    · have h9 := hk w1 c1 u ho1 (fun x hx => hout.block x (hPG x hx) (hlt x (hin x (List.mem_append_left _ hx)))) (fun x hx => hout.block x (hQG x hx) (hlt x (hin x (List.mem_append_right _ (List.mem_append_right _ hx)))))
      have e9 : (cur.toList.take (n * k)).set j u = cur.toList.take (n * k) := by
        apply List.ext_getElem?
        intro i
        by_cases e : i = j
        · subst e
          rw [List.getElem?_set_self (by have := OwnL.length _ _ _ ho; rw [this]; omega), hu]
        · rw [List.getElem?_set_ne (fun x => e x.symm)]
      rw [e9] at h9
      exact h9
  · intro y hy x
    rw [hy] at hou
    obtain ⟨hGe, _⟩ := hou
    subst hGe
    have hset := heap_setCell_same w g j cur e x hg
    have hother : ∀ z, z ∈ P ++ ([] ++ Q) → (w.setCell ⟨g, j, none⟩ x).heap[z]? = w.heap[z]? := fun z hz => Below.heap_setCell _ _ _ _ (by show z ≠ g; exact fun e => hgn (by rw [← e]; exact hz))
    refine ⟨⟨by rw [List.length_set]; exact hl, a, c, rfl, hnc, hcm, .inr ⟨g, cur.setIfInBounds j x, G0, ha, hFG, hset, by rw [Array.size_setIfInBounds]; exact hn, ?_⟩⟩, ?_⟩
    · have h9 := hk (w.setCell ⟨g, j, none⟩ x) (.val x) x ⟨rfl, rfl⟩ (fun z hz => hother z (List.mem_append_left _ hz)) (fun z hz => hother z (List.mem_append_right _ hz))
      rw [Array.toList_setIfInBounds, List.take_set]
      exact h9
    · exact ⟨rfl, rfl, rfl, by simp [World.setCell], fun z hz _ => Below.heap_setCell _ _ _ _ (by show z ≠ g; exact fun e => hz (by rw [e, hFG]; exact List.mem_cons_self))⟩
end

/-! Marks, in the order of the cells. -/
mutual
def Cel.cnt : Cel → Nat
  | .val _ => 1
  | .sl _ _ _ cs => cntL cs
def cntL : List Cel → Nat
  | [] => 0
  | c :: cs => c.cnt + cntL cs
end
def markV : Value → Nat → Value
  | .int _ _, k => .int .i64 (k : Int)
  | .string _, k => .string (markT k)
  | .bool _, k => .bool (k % 3 == 0)
  | v, _ => v
mutual
def Cel.mk : Cel → Nat → Cel
  | .val v, k => .val (markV v k)
  | .sl e s n cs, k => .sl e s n (mkL cs k)
def mkL : List Cel → Nat → List Cel
  | [], _ => []
  | c :: cs, k => c.mk k :: mkL cs (k + c.cnt)
end
theorem mkL_length : ∀ (cs : List Cel) (k : Nat), (mkL cs k).length = cs.length
  | [], _ => rfl
  | _ :: cs, k => by rw [mkL, List.length_cons, mkL_length cs, List.length_cons]
theorem cntL_append : ∀ (a b : List Cel), cntL (a ++ b) = cntL a + cntL b
  | [], b => by rw [List.nil_append, cntL, Nat.zero_add]
  | c :: a, b => by rw [List.cons_append, cntL, cntL, cntL_append a b, Nat.add_assoc]
theorem mkL_append : ∀ (a b : List Cel) (k : Nat), mkL (a ++ b) k = mkL a k ++ mkL b (k + cntL a)
  | [], b, k => by rw [List.nil_append, mkL, cntL, Nat.add_zero, List.nil_append]
  | c :: a, b, k => by rw [List.cons_append, mkL, mkL, mkL_append a b, cntL, List.cons_append, Nat.add_assoc]
/-- The first j cells marked. -/
def stM (cs : List Cel) (k j : Nat) : List Cel := mkL (cs.take j) k ++ cs.drop j
def atM (cs : List Cel) (k j : Nat) : Nat := k + cntL (cs.take j)
theorem stM_zero (cs : List Cel) (k : Nat) : stM cs k 0 = cs := rfl
theorem stM_all (cs : List Cel) (k : Nat) {j : Nat} (h : cs.length ≤ j) : stM cs k j = mkL cs k := by
  unfold stM; rw [List.take_of_length_le h, List.drop_eq_nil_of_le h, List.append_nil]
theorem atM_zero (cs : List Cel) (k : Nat) : atM cs k 0 = k := rfl
theorem atM_all (cs : List Cel) (k : Nat) {j : Nat} (h : cs.length ≤ j) : atM cs k j = k + cntL cs := by unfold atM; rw [List.take_of_length_le h]
theorem getD_eq {cs : List Cel} {j : Nat} (h : j < cs.length) : cs.getD j default = cs[j] := by simp [List.getD, h]
theorem atM_next {cs : List Cel} {k j : Nat} (h : j < cs.length) : atM cs k (j + 1) = atM cs k j + (cs.getD j default).cnt := by
  unfold atM
  rw [List.take_succ_eq_append_getElem h, cntL_append, getD_eq h, cntL, cntL, Nat.add_zero, Nat.add_assoc]
theorem stM_getD {cs : List Cel} {k j i : Nat} (hi : i < cs.length) (hj : j ≤ i) : (stM cs k j).getD i default = cs.getD i default := by
  unfold stM
  simp only [List.getD]
  rw [List.getElem?_append_right (by rw [mkL_length, List.length_take]; omega), mkL_length, List.length_take, List.getElem?_drop]
  congr 2
  omega
theorem stM_next {cs : List Cel} {k j : Nat} (h : j < cs.length) : (stM cs k j).set j ((cs.getD j default).mk (atM cs k j)) = stM cs k (j + 1) := by
  have hl : (mkL (cs.take j) k).length = j := by rw [mkL_length, List.length_take]; omega
  unfold stM
  rw [List.take_succ_eq_append_getElem h, mkL_append, List.set_append_right _ _ (by omega), hl, Nat.sub_self, getD_eq h, List.drop_eq_getElem_cons h, List.set_cons_zero, List.append_assoc]
  rfl
theorem mkL_getD {cs : List Cel} {k j : Nat} (h : j < cs.length) : (mkL cs k).getD j default = (cs.getD j default).mk (atM cs k j) := by
  have h1 : mkL cs k = mkL (cs.take j) k ++ mkL (cs.drop j) (k + cntL (cs.take j)) := by rw [← mkL_append, List.take_append_drop]
  have hl : (mkL (cs.take j) k).length = j := by rw [mkL_length, List.length_take]; omega
  rw [h1, List.drop_eq_getElem_cons h, mkL]
  simp only [List.getD]
  rw [List.getElem?_append_right (by omega), hl, Nat.sub_self]
  simp [atM, h]
theorem atM_mono (cs : List Cel) (k j : Nat) : atM cs k j ≤ k + cntL cs := by
  have : cntL cs = cntL (cs.take j) + cntL (cs.drop j) := by rw [← cntL_append, List.take_append_drop]
  unfold atM; omega
end Go.Proofs.YtkfkjcadmdcbnaaDoor
namespace Go.Proofs.YtkfkjcadmdcbnaaDoor
open Go.RowKit Go.Proofs.YtkfkjcadmdcbnaaDoor.Parts Go.Proofs.YtkfkjcadmdcbnaaDoor.Hexa

/-- How an element lies in its cells. -/
structure Enc (α : Type) where
  k : Nat
  cells : α → List Value
  len : ∀ x, (cells x).length = k

def cellsE {α : Type} (E : Enc α) : List α → List Value
  | [] => []
  | x :: r => E.cells x ++ cellsE E r
theorem cellsE_length {α : Type} (E : Enc α) : ∀ L : List α, (cellsE E L).length = L.length * E.k
  | [] => by simp [cellsE]
  | x :: r => by simp [cellsE, E.len, cellsE_length E r, Nat.add_mul]; omega
theorem cellsE_append {α : Type} (E : Enc α) : ∀ L M : List α, cellsE E (L ++ M) = cellsE E L ++ cellsE E M
  | [], M => rfl
  | x :: r, M => by simp [cellsE, cellsE_append E r M]
theorem cellsE_one {α : Type} (E : Enc α) (x : α) : cellsE E [x] = E.cells x := by simp [cellsE]
theorem cellsE_at {α : Type} [Inhabited α] (E : Enc α) : ∀ (L : List α) (j o : Nat), j < L.length → o < E.k → (cellsE E L)[j * E.k + o]? = (E.cells (L.getD j default))[o]?
  | x :: r, 0, o, _, ho => by
    rw [cellsE, Nat.zero_mul, Nat.zero_add, List.getElem?_append_left (by rw [E.len]; exact ho)]; rfl
  | x :: r, j + 1, o, h, ho => by
    rw [cellsE, List.getElem?_append_right (by rw [E.len, Nat.add_mul]; omega), E.len, show (j + 1) * E.k + o - E.k = j * E.k + o by rw [Nat.add_mul]; omega]
    exact cellsE_at E r j o (by simpa using h) ho
theorem cellsE_take {α : Type} (E : Enc α) : ∀ (L : List α) (j : Nat), (cellsE E L).take (j * E.k) = cellsE E (L.take j)
  | [], j => by simp [cellsE]
  | x :: r, 0 => by simp [cellsE]
  | x :: r, j + 1 => by
    rw [cellsE, List.take_append, List.take_of_length_le (by rw [E.len, Nat.add_mul]; omega), E.len, show (j + 1) * E.k - E.k = j * E.k by rw [Nat.add_mul]; omega, cellsE_take E r j]
    rfl
theorem cellsE_drop {α : Type} (E : Enc α) : ∀ (L : List α) (j : Nat), (cellsE E L).drop (j * E.k) = cellsE E (L.drop j)
  | [], j => by simp [cellsE]
  | x :: r, 0 => by simp [cellsE]
  | x :: r, j + 1 => by
    rw [cellsE, List.drop_append, List.drop_of_length_le (by rw [E.len, Nat.add_mul]; omega), E.len, show (j + 1) * E.k - E.k = j * E.k by rw [Nat.add_mul]; omega, cellsE_drop E r j]
    rfl

/-- Cells written one behind the other. -/
def setsL : List Value → Nat → List Value → List Value
  | xs, _, [] => xs
  | xs, o, v :: r => setsL (xs.set o v) (o + 1) r
theorem setsL_length : ∀ (vs xs : List Value) (o : Nat), (setsL xs o vs).length = xs.length
  | [], xs, o => rfl
  | v :: r, xs, o => by rw [setsL, setsL_length r]; simp
theorem setsL_out : ∀ (vs xs : List Value) (o j : Nat), (j < o ∨ o + vs.length ≤ j) → (setsL xs o vs)[j]? = xs[j]?
  | [], xs, o, j, _ => rfl
  | v :: r, xs, o, j, h => by
    simp only [List.length_cons] at h
    rw [setsL, setsL_out r _ _ _ (by omega), List.getElem?_set_ne (by omega)]
theorem setsL_in : ∀ (vs xs : List Value) (o j : Nat), j < vs.length → o + vs.length ≤ xs.length → (setsL xs o vs)[o + j]? = vs[j]?
  | v :: r, xs, o, 0, _, h => by
    simp only [List.length_cons] at h
    rw [setsL, setsL_out r _ _ _ (by omega)]
    show (xs.set o v)[o]? = some v
    rw [List.getElem?_set_self (by omega)]
  | v :: r, xs, o, j + 1, hj, h => by
    simp only [List.length_cons] at h hj
    rw [setsL, show o + (j + 1) = (o + 1) + j by omega, setsL_in r _ _ j (by omega) (by simp; omega)]
    rfl
/-- The first elements are right; one more is written. -/
theorem cellsE_step {α : Type} [Inhabited α] (E : Enc α) {L : List α} {xs : List Value} {k : Nat} (hk : k < L.length) (hl : xs.length = L.length * E.k) (h : ∀ j, j < k * E.k → xs[j]? = (cellsE E L)[j]?) :
    ∀ j, j < (k + 1) * E.k → (setsL xs (k * E.k) (E.cells (L.getD k default)))[j]? = (cellsE E L)[j]? := by
  intro j hj
  have hm : (k + 1) * E.k ≤ L.length * E.k := Nat.mul_le_mul_right _ hk
  rw [Nat.add_mul] at hj hm
  by_cases h0 : j < k * E.k
  · rw [setsL_out _ _ _ _ (.inl h0)]; exact h j h0
  · obtain ⟨o, rfl⟩ : ∃ o, j = k * E.k + o := ⟨j - k * E.k, by omega⟩
    rw [setsL_in _ _ _ _ (by rw [E.len]; omega) (by rw [E.len]; omega), cellsE_at E L k o hk (by omega)]
theorem cellsE_all {α : Type} (E : Enc α) {L : List α} {xs : List Value} (hl : xs.length = L.length * E.k) (h : ∀ j, j < L.length * E.k → xs[j]? = (cellsE E L)[j]?) : xs = cellsE E L := by
  apply List.ext_getElem?
  intro j
  by_cases hj : j < L.length * E.k
  · exact h j hj
  · rw [List.getElem?_eq_none (by omega), List.getElem?_eq_none (by rw [cellsE_length]; omega)]
theorem getD_set {α : Type} [Inhabited α] (L : List α) (k j : Nat) (x : α) (hk : k < L.length) : (L.set k x).getD j default = if j = k then x else L.getD j default := by
  by_cases h : j = k
  · subst h; simp [List.getD, hk]
  · rw [if_neg h]; simp only [List.getD]; rw [List.getElem?_set_ne (fun e => h e.symm)]
/-- One element is written over another. -/
theorem cellsE_set {α : Type} [Inhabited α] (E : Enc α) (L : List α) (k : Nat) (x : α) (hk : k < L.length) : setsL (cellsE E L) (k * E.k) (E.cells x) = cellsE E (L.set k x) := by
  have hm : (k + 1) * E.k ≤ L.length * E.k := Nat.mul_le_mul_right _ hk
  rw [Nat.add_mul] at hm
  refine cellsE_all E (by rw [setsL_length, cellsE_length]; simp) (fun j hj => ?_)
  simp only [List.length_set] at hj
  by_cases hj0 : k * E.k ≤ j ∧ j < k * E.k + E.k
  · obtain ⟨o, rfl⟩ : ∃ o, j = k * E.k + o := ⟨j - k * E.k, by omega⟩
    rw [setsL_in _ _ _ _ (by rw [E.len]; omega) (by rw [E.len, cellsE_length]; omega), cellsE_at E _ k o (by simpa using hk) (by omega), getD_set _ _ _ _ hk, if_pos rfl]
  · rw [setsL_out _ _ _ _ (by rw [E.len]; omega)]
    have hk0 : 0 < E.k := by
      rcases Nat.eq_zero_or_pos E.k with h | h
      · rw [h] at hj; omega
      · exact h
    have hd : j = j / E.k * E.k + j % E.k := by rw [Nat.mul_comm]; exact (Nat.div_add_mod j E.k).symm
    have hq : j / E.k < L.length := (Nat.div_lt_iff_lt_mul hk0).2 hj
    have hne : j / E.k ≠ k := fun e => by
      rw [e] at hd
      have := Nat.mod_lt j hk0
      omega
    rw [hd, cellsE_at E _ _ _ hq (Nat.mod_lt _ hk0), cellsE_at E _ _ _ (by simpa using hq) (Nat.mod_lt _ hk0), getD_set _ _ _ _ hk, if_neg hne]

/-- A slice of elements that can be read. -/
structure SrcE {α : Type} [Inhabited α] (E : Enc α) (w : World) (a : Option Addr) (n : Nat) (L : List α) : Prop where
  len : L.length = n
  cell : ∀ j, j < n → ∃ g off, a = some ⟨g, off, none⟩ ∧ g < w.heap.size ∧ ∀ o v, (E.cells (L.getD j default))[o]? = some v → w.cell? ⟨g, off + j * E.k + o, none⟩ = some v
theorem SrcE.below {α : Type} [Inhabited α] {E : Enc α} {w w' : World} {a : Option Addr} {n : Nat} {L : List α} {B : Nat} (h : SrcE E w a n L) (hb : Below B w w') (hB : w.heap.size ≤ B) : SrcE E w' a n L :=
  ⟨h.len, fun j hj => by
    obtain ⟨g, off, e, hg, c⟩ := h.cell j hj
    exact ⟨g, off, e, Nat.lt_of_lt_of_le hg hb.size, fun o v hv => by rw [hb.cell (p := ⟨g, off + j * E.k + o, none⟩) (Nat.lt_of_lt_of_le hg hB)]; exact c o v hv⟩⟩
theorem SrcE.later {α : Type} [Inhabited α] {E : Enc α} {w w' : World} {a : Option Addr} {n : Nat} {L : List α} (h : SrcE E w a n L) (hb : Below w.heap.size w w') : SrcE E w' a n L := h.below hb (Nat.le_refl _)
theorem SrcE.drew {α : Type} [Inhabited α] {E : Enc α} {w : World} {a : Option Addr} {n : Nat} {L : List α} (h : SrcE E w a n L) : SrcE E w.drew a n L := ⟨h.len, h.cell⟩
theorem SrcE.nil {α : Type} [Inhabited α] (E : Enc α) (w : World) (a : Option Addr) : SrcE E w a 0 [] := ⟨rfl, fun j hj => by omega⟩

theorem ownE_lt {w : World} {B e k g n cap : Nat} {xs : List Value} (h : w.ownsRow B e k (.slice (some ⟨g, 0, none⟩) n cap) n xs) : g < w.heap.size := (h.lt g rfl).2
/-- A slice that the call owns, as one that can be read. -/
theorem srcE_of_own {α : Type} [Inhabited α] {E : Enc α} {w : World} {B e n cap : Nat} {a : Option Addr} {L : List α} (h : w.ownsRow B e E.k (.slice a n cap) n (cellsE E L)) (hk0 : 0 < E.k) : SrcE E w a n L := by
  have hl : L.length = n := by have h1 := h.1; rw [cellsE_length] at h1; exact Nat.eq_of_mul_eq_mul_right hk0 h1
  refine ⟨hl, fun j hj => ?_⟩
  rcases h.2 with ⟨h', h0⟩ | ⟨g', cap', cur, h', _, hg, _⟩
  · omega
  · simp only [Value.slice.injEq] at h'
    obtain ⟨rfl, _, rfl⟩ := h'
    refine ⟨g', 0, rfl, ownE_lt h, fun o v hv => ?_⟩
    have ho : o < E.k := by
      rcases Nat.lt_or_ge o E.k with h | h
      · exact h
      · rw [List.getElem?_eq_none (by rw [E.len]; exact h)] at hv; cases hv
    have hm : (j + 1) * E.k ≤ n * E.k := Nat.mul_le_mul_right _ hj
    rw [Nat.add_mul] at hm
    rw [Nat.zero_add, h.cellAt _ (by omega), cellsE_at E L j o (by omega) ho]
    exact hv
theorem ownE_mono {w : World} {B B' e k n : Nat} {v : Value} {xs : List Value} (h : w.ownsRow B e k v n xs) (hb : B' ≤ B) : w.ownsRow B' e k v n xs :=
  ⟨h.1, h.2.imp id fun ⟨g, cap, cur, hv, hg, r⟩ => ⟨g, cap, cur, hv, Nat.le_trans hb hg, r⟩⟩
/-- The form of what the call owns. -/
theorem ownE_form {w : World} {B e k n : Nat} {v : Value} {xs : List Value} (h : w.ownsRow B e k v n xs) : ∃ a cap, v = .slice a n cap ∧ n ≤ cap ∧ cap ≤ maxLen ∧ (∀ p, a = some p → ∃ g, p = ⟨g, 0, none⟩ ∧ B ≤ g ∧ g < w.heap.size) := by
  rcases h.2 with ⟨rfl, rfl⟩ | ⟨g', cap', cur, rfl, hB, hg, hn, hc, _⟩
  · exact ⟨none, 0, rfl, Nat.le_refl _, by decide, fun p hp => by cases hp⟩
  · exact ⟨_, _, rfl, hn, hc, fun p hp => by cases hp; exact ⟨g', rfl, hB, lt_of_block hg⟩⟩
/-- Cells of the call's own row written. -/
theorem own_sets {B e k g n cap : Nat} : ∀ (vs : List Value) {w : World} {xs : List Value} (o : Nat), w.ownsRow B e k (.slice (some ⟨g, 0, none⟩) n cap) n xs → (w.setCells g o vs).ownsRow B e k (.slice (some ⟨g, 0, none⟩) n cap) n (setsL xs o vs)
  | [], _, _, _, h => h
  | v :: r, _, _, o, h => own_sets r (o + 1) (h.stored o v).1
theorem below_sets {B g : Nat} (hg : B ≤ g) : ∀ (vs : List Value) {w w' : World} (o : Nat), Below B w w' → Below B w (w'.setCells g o vs)
  | [], _, _, _, h => h
  | v :: r, _, _, o, h => below_sets hg r (o + 1) (h.setCell (p := ⟨g, o, none⟩) hg v)
theorem ownE_cell {w : World} {B e k g n cap : Nat} {xs : List Value} (h : w.ownsRow B e k (.slice (some ⟨g, 0, none⟩) n cap) n xs) {j : Nat} (hj : j < n * k) : ∃ v, w.cell? ⟨g, j, none⟩ = some v := by
  rw [h.cellAt j hj]
  exact ⟨xs[j]'(by rw [h.1]; exact hj), List.getElem?_eq_getElem _⟩

/-- No block is written but one; what was there stays. -/
structure ButE (B : Nat) (w w' : World) : Prop where
  size : w.heap.size ≤ w'.heap.size
  block : ∀ g, g ≠ B → g < w.heap.size → w'.heap[g]? = w.heap[g]?
theorem ButE.refl (B : Nat) (w : World) : ButE B w w := ⟨Nat.le_refl _, fun _ _ _ => rfl⟩
theorem ButE.then_below {B : Nat} {w w1 w2 : World} (h : ButE B w w1) (hb : Below w1.heap.size w1 w2) : ButE B w w2 :=
  ⟨Nat.le_trans h.size hb.size, fun g h1 h2 => by rw [hb.block g (Nat.lt_of_lt_of_le h2 h.size)]; exact h.block g h1 h2⟩
theorem ButE.then_set {B : Nat} {w w1 : World} (h : ButE B w w1) (o : Nat) (v : Value) : ButE B w (w1.setCell ⟨B, o, none⟩ v) :=
  ⟨Nat.le_trans h.size (by simp), fun g h1 h2 => by rw [Below.heap_setCell _ _ _ _ (by simpa using h1)]; exact h.block g h1 h2⟩
theorem ButE.drew {B : Nat} {w w1 : World} (h : ButE B w w1) : ButE B w w1.drew := ⟨h.size, h.block⟩
/-- What lies elsewhere stays. -/
theorem ownE_but {w w' : World} {M B e k : Nat} {v : Value} {n : Nat} {xs : List Value} (h : w.ownsRow B e k v n xs) (hb : ButE M w w') (hne : ∀ g, v.ownBlock = some g → g ≠ M) : w'.ownsRow B e k v n xs := by
  refine ⟨h.1, h.2.imp id fun ⟨g, cap, cur, hv, hg, hh, r⟩ => ⟨g, cap, cur, hv, hg, ?_, r⟩⟩
  rw [hb.block g (hne g (by rw [hv]; rfl)) (Array.getElem?_eq_some_iff.1 hh).1]; exact hh
theorem ownE_left {w w' : World} {M B e k : Nat} {v : Value} {n : Nat} {xs : List Value} (h : w.ownsRow B e k v n xs) (hb : Below M w w') (hne : ∀ g, v.ownBlock = some g → g < M) : w'.ownsRow B e k v n xs := by
  refine ⟨h.1, h.2.imp id fun ⟨g, cap, cur, hv, hg, hh, r⟩ => ⟨g, cap, cur, hv, hg, ?_, r⟩⟩
  rw [hb.block g (hne g (by rw [hv]; rfl))]; exact hh
theorem SrcE.but {α : Type} [Inhabited α] {E : Enc α} {w w' : World} {a : Option Addr} {n : Nat} {L : List α} {B : Nat} (h : SrcE E w a n L) (hb : ButE B w w') (hB : ∀ p, a = some p → p.block ≠ B) : SrcE E w' a n L :=
  ⟨h.len, fun j hj => by
    obtain ⟨g, off, e, hg, c⟩ := h.cell j hj
    refine ⟨g, off, e, Nat.lt_of_lt_of_le hg hb.size, fun o v hv => ?_⟩
    rw [← c o v hv]
    exact World.cell?_of_block (w := w) (hb.block g (hB _ e) hg)⟩
end Go.Proofs.YtkfkjcadmdcbnaaDoor
namespace Go.Proofs.YtkfkjcadmdcbnaaDoor
open Go.RowKit Go.Proofs.YtkfkjcadmdcbnaaDoor.Parts

/-- How an element lies in its cells. -/
structure EncC (α : Type) where
  e : TypeId
  k : Nat
  cels : α → List Cel
  len : ∀ x, (cels x).length = k
def celsE {α : Type} (E : EncC α) : List α → List Cel
  | [] => []
  | x :: r => E.cels x ++ celsE E r
def celRow {α : Type} (E : EncC α) (L : List α) : Cel := .sl E.e E.k L.length (celsE E L)
section
variable {α : Type} [Inhabited α] (E : EncC α)
omit [Inhabited α] in
theorem celsE_length : ∀ L : List α, (celsE E L).length = L.length * E.k
  | [] => by simp [celsE]
  | x :: r => by simp [celsE, E.len, celsE_length r, Nat.add_mul]; omega
omit [Inhabited α] in
theorem celsE_append : ∀ L M : List α, celsE E (L ++ M) = celsE E L ++ celsE E M
  | [], M => rfl
  | x :: r, M => by simp [celsE, celsE_append r M]
theorem celsE_getD : ∀ (L : List α) (j o : Nat), j < L.length → o < E.k → (celsE E L).getD (j * E.k + o) default = (E.cels (L.getD j default)).getD o default
  | x :: r, 0, o, _, ho => by
    rw [celsE, Nat.zero_mul, Nat.zero_add]
    simp only [List.getD]
    rw [List.getElem?_append_left (by rw [E.len]; exact ho)]; rfl
  | x :: r, j + 1, o, h, ho => by
    have h1 := celsE_getD r j o (by simpa using h) ho
    rw [celsE]
    simp only [List.getD] at h1 ⊢
    rw [List.getElem?_append_right (by rw [E.len, Nat.add_mul]; omega), E.len, show (j + 1) * E.k + o - E.k = j * E.k + o by rw [Nat.add_mul]; omega]
    exact h1
omit [Inhabited α] in
theorem celsE_take : ∀ (L : List α) (j : Nat), (celsE E L).take (j * E.k) = celsE E (L.take j)
  | [], j => by simp [celsE]
  | x :: r, 0 => by simp [celsE]
  | x :: r, j + 1 => by
    rw [celsE, List.take_append, List.take_of_length_le (by rw [E.len, Nat.add_mul]; omega), E.len, show (j + 1) * E.k - E.k = j * E.k by rw [Nat.add_mul]; omega, celsE_take r j]
    rfl
theorem celsE_next {L : List α} {j : Nat} (hj : j < L.length) : celsE E (L.take (j + 1)) = celsE E (L.take j) ++ E.cels (L.getD j default) := by
  rw [List.take_succ_eq_append_getElem hj, celsE_append, celsE, celsE, List.append_nil]
  simp [List.getD, hj]
theorem celsE_in {L : List α} {j o : Nat} (hj : j < L.length) (ho : o ≤ E.k) : (celsE E L).take (j * E.k + o) = celsE E (L.take j) ++ (E.cels (L.getD j default)).take o := by
  have h1 : (celsE E L).take (j * E.k + o) = ((celsE E L).take ((j + 1) * E.k)).take (j * E.k + o) := by
    rw [List.take_take, Nat.min_eq_left (by rw [Nat.add_mul]; omega)]
  have h2 : (celsE E (L.take j)).length = j * E.k := by rw [celsE_length, List.length_take, Nat.min_eq_left (by omega)]
  rw [h1, celsE_take, celsE_next E hj, List.take_append, h2, List.take_of_length_le (by omega)]
  congr 2
  omega
end

/-! Measured. -/
mutual
def Cel.sz : Cel → Nat
  | .val (.string b) => b.size
  | .val _ => 0
  | .sl _ _ n cs => n + szL cs
def szL : List Cel → Nat
  | [] => 0
  | c :: cs => c.sz + szL cs
end
mutual
def Cel.Ty : Cel → Prop
  | .val (.string b) => b.size ≤ maxLen
  | .val (.int .i64 z) => -9223372036854775808 ≤ z ∧ z ≤ 9223372036854775807
  | .val _ => True
  | .sl _ _ n cs => n ≤ 9223372036854775807 ∧ TyL cs
def TyL : List Cel → Prop
  | [] => True
  | c :: cs => c.Ty ∧ TyL cs
end
theorem szL_append : ∀ (a b : List Cel), szL (a ++ b) = szL a + szL b
  | [], b => by rw [List.nil_append, szL, Nat.zero_add]
  | c :: a, b => by rw [List.cons_append, szL, szL, szL_append a b, Nat.add_assoc]
theorem TyL_append : ∀ (a b : List Cel), TyL (a ++ b) ↔ TyL a ∧ TyL b
  | [], b => by simp [TyL]
  | c :: a, b => by rw [List.cons_append, TyL, TyL, TyL_append a b, and_assoc]
theorem TyL_at {α : Type} [Inhabited α] (E : EncC α) : ∀ (L : List α) (j : Nat), TyL (celsE E L) → j < L.length → TyL (E.cels (L.getD j default))
  | x :: r, 0, h, _ => ((TyL_append _ _).1 (by exact h)).1
  | x :: r, j + 1, h, hj => TyL_at E r j ((TyL_append _ _).1 (by exact h)).2 (by simpa using hj)
theorem szL_at {α : Type} [Inhabited α] (E : EncC α) : ∀ (L : List α) (j : Nat), j < L.length → szL (E.cels (L.getD j default)) ≤ szL (celsE E L)
  | x :: r, 0, _ => by rw [celsE, szL_append]; exact Nat.le_add_right _ _
  | x :: r, j + 1, hj => by
    have := szL_at E r j (by simpa using hj)
    rw [celsE, szL_append]
    exact Nat.le_trans this (Nat.le_add_left _ _)
theorem szL_take {α : Type} (E : EncC α) (L : List α) (j : Nat) : szL (celsE E (L.take j)) ≤ szL (celsE E L) := by
  conv => rhs; rw [← List.take_append_drop j L, celsE_append, szL_append]
  exact Nat.le_add_right _ _
theorem szL_next {α : Type} [Inhabited α] (E : EncC α) {L : List α} {j : Nat} (hj : j < L.length) : szL (celsE E (L.take (j + 1))) = szL (celsE E (L.take j)) + szL (E.cels (L.getD j default)) := by rw [celsE_next E hj, szL_append]
def SzPost (z : Nat) (l : Int) (w : World) (e : Ending) (w' : World) : Prop := ∃ r : Int, e = .returned (.int .i64 r) ∧ (r < 0 ∨ (0 ≤ r ∧ r + (z : Int) = l)) ∧ Below w.heap.size w w'

/-! Read. -/
theorem Cel.Rd.cap {w : World} {e e' k n : Nat} {cs : List Cel} {a : Option Addr} {m c c' : Nat} (h : (Cel.sl e k n cs).Rd w (.slice a m c)) : m = n ∧ (Cel.sl e' k n cs).Rd w (.slice a n c') := by
  obtain ⟨hl, a1, c1, vs, hv, hr, h1⟩ := h
  cases hv
  exact ⟨rfl, hl, a, c', vs, rfl, hr, h1⟩
theorem row_form {α : Type} {E : EncC α} {w : World} {L : List α} {v : Value} (h : (celRow E L).Rd w v) : ∃ a n c, v = .slice a n c ∧ L.length = n := by
  obtain ⟨hl, a1, c1, vs, hv, hr, h1⟩ := h
  exact ⟨a1, L.length, c1, hv, rfl⟩
theorem row_at {α : Type} [Inhabited α] {E : EncC α} {w : World} {L : List α} {a : Option Addr} {n c : Nat} (h : (celRow E L).Rd w (.slice a n c)) (_ : 0 < E.k) (j : Nat) (hj : j < n) :
    ∃ g off vs, a = some ⟨g, off, none⟩ ∧ g < w.heap.size ∧ RdL w (E.cels (L.getD j default)) vs ∧ ∀ (o : Nat) (u : Value), vs[o]? = some u → w.cell? ⟨g, off + j * E.k + o, none⟩ = some u := by
  obtain ⟨hl, a1, c1, vs, hv, hr, h1⟩ := h
  cases hv
  have hm : (j + 1) * E.k ≤ L.length * E.k := Nat.mul_le_mul_right _ hj
  rw [Nat.add_mul, Nat.one_mul] at hm
  rcases h1 with h0 | ⟨g, off, ha, hg, hc⟩
  · omega
  refine ⟨g, off, (vs.drop (j * E.k)).take E.k, ha, hg, ?_, fun o u hu => ?_⟩
  · have key : ∀ (M : List α) (us : List Value) (i : Nat), RdL w (celsE E M) us → i < M.length → RdL w (E.cels (M.getD i default)) ((us.drop (i * E.k)).take E.k) := by
      intro M
      induction M with
      | nil => intro us i _ hi; exact absurd hi (Nat.not_lt_zero _)
      | cons x r ih =>
        have split : ∀ (A B : List Cel) (us : List Value), RdL w (A ++ B) us → RdL w A (us.take A.length) ∧ RdL w B (us.drop A.length) := by
          intro A
          induction A with
          | nil => intro B us h; exact ⟨rfl, h⟩
          | cons d A ihA =>
            intro B us h
            obtain ⟨v, s, rfl, h1, h2⟩ := h
            obtain ⟨p, q⟩ := ihA B s h2
            exact ⟨⟨v, s.take A.length, rfl, h1, p⟩, q⟩
        intro us i h hi
        obtain ⟨p, q⟩ := split (E.cels x) (celsE E r) us h
        rw [E.len] at p q
        cases i with
        | zero => rw [Nat.zero_mul, List.drop_zero]; exact p
        | succ i =>
          have := ih (us.drop E.k) i q (by simpa using hi)
          rw [List.drop_drop] at this
          rw [show (i + 1) * E.k = E.k + i * E.k by rw [Nat.add_mul]; omega]
          exact this
    exact key L vs j hr hj
  · rw [List.getElem?_take] at hu
    split at hu
    · rw [List.getElem?_drop] at hu
      rw [Nat.add_assoc]
      exact hc _ u hu
    · cases hu

/-! Owned, between two block numbers. -/
def Objs (w : World) (lo hi : Nat) (cs : List Cel) (vs : List Value) : Prop := ∃ F, F.Nodup ∧ (∀ g ∈ F, lo ≤ g ∧ g < hi) ∧ OwnL w cs F vs
def Obj1 (w : World) (lo hi : Nat) (c : Cel) (v : Value) : Prop := ∃ F, F.Nodup ∧ (∀ g ∈ F, lo ≤ g ∧ g < hi) ∧ c.Own w F v
section
variable {w w' : World} {lo hi : Nat} {cs : List Cel} {vs : List Value} {c : Cel} {v : Value}
theorem Objs.mono {lo' hi' : Nat} (h : Objs w lo hi cs vs) (h1 : lo' ≤ lo) (h2 : hi ≤ hi') : Objs w lo' hi' cs vs := by
  obtain ⟨F, hn, hb, ho⟩ := h
  exact ⟨F, hn, fun g hg => by have := hb g hg; omega, ho⟩
theorem Obj1.mono {lo' hi' : Nat} (h : Obj1 w lo hi c v) (h1 : lo' ≤ lo) (h2 : hi ≤ hi') : Obj1 w lo' hi' c v := by
  obtain ⟨F, hn, hb, ho⟩ := h
  exact ⟨F, hn, fun g hg => by have := hb g hg; omega, ho⟩
theorem Objs.kept (h : Objs w lo hi cs vs) (hk : ∀ g, lo ≤ g → g < hi → w'.heap[g]? = w.heap[g]?) : Objs w' lo hi cs vs := by
  obtain ⟨F, hn, hb, ho⟩ := h
  exact ⟨F, hn, hb, OwnL.kept _ _ _ (fun g hg => hk g (hb g hg).1 (hb g hg).2) ho⟩
theorem Obj1.kept (h : Obj1 w lo hi c v) (hk : ∀ g, lo ≤ g → g < hi → w'.heap[g]? = w.heap[g]?) : Obj1 w' lo hi c v := by
  obtain ⟨F, hn, hb, ho⟩ := h
  exact ⟨F, hn, hb, Cel.Own.kept _ _ _ (fun g hg => hk g (hb g hg).1 (hb g hg).2) ho⟩
theorem Objs.later (h : Objs w lo hi cs vs) (hb : Below w.heap.size w w') : Objs w' lo hi cs vs := by
  obtain ⟨F, hn, hb', ho⟩ := h
  exact ⟨F, hn, hb', OwnL.kept _ _ _ (fun g hg => hb.block g (OwnL.lt _ _ _ ho g hg)) ho⟩
theorem Obj1.later (h : Obj1 w lo hi c v) (hb : Below w.heap.size w w') : Obj1 w' lo hi c v := by
  obtain ⟨F, hn, hb', ho⟩ := h
  exact ⟨F, hn, hb', Cel.Own.kept _ _ _ (fun g hg => hb.block g (Cel.Own.lt _ _ _ ho g hg)) ho⟩
theorem Objs.rd (h : Objs w lo hi cs vs) : RdL w cs vs := by
  obtain ⟨F, _, _, ho⟩ := h
  exact OwnL.rd _ _ _ ho
theorem Obj1.rd (h : Obj1 w lo hi c v) : c.Rd w v := by
  obtain ⟨F, _, _, ho⟩ := h
  exact Cel.Own.rd _ _ _ ho
theorem Objs.nil (w : World) (lo hi : Nat) : Objs w lo hi [] [] := ⟨[], List.nodup_nil, fun g hg => (by cases hg), rfl, rfl⟩
theorem Objs.val (h : Objs w lo hi cs vs) (x : Value) : Objs w lo hi (.val x :: cs) (x :: vs) := by
  obtain ⟨F, hn, hb, ho⟩ := h
  exact ⟨F, hn, hb, x, vs, [], F, rfl, rfl, ⟨rfl, rfl⟩, ho⟩
theorem Objs.cons {mid mid' : Nat} (h1 : Obj1 w lo mid c v) (h2 : Objs w mid' hi cs vs) (hm : mid ≤ mid') (hl : lo ≤ mid') (hh : mid ≤ hi) : Objs w lo hi (c :: cs) (v :: vs) := by
  obtain ⟨F, hn, hb, ho⟩ := h1
  obtain ⟨G, hn', hb', ho'⟩ := h2
  refine ⟨F ++ G, List.nodup_append.2 ⟨hn, hn', fun a ha b hb2 e => ?_⟩, fun g hg => ?_, v, vs, F, G, rfl, rfl, ho, ho'⟩
  · have := hb a ha; have := hb' b hb2; omega
  · rcases List.mem_append.1 hg with hg | hg
    · have := hb g hg; omega
    · have := hb' g hg; omega
theorem Objs.one (h : Obj1 w lo hi c v) : Objs w lo hi [c] [v] := by
  obtain ⟨F, hn, hb, ho⟩ := h
  exact ⟨F, hn, hb, v, [], F, [], rfl, by simp, ho, rfl, rfl⟩
end
/-- Two slices in blocks of their own, in whatever order. -/
theorem obj_two {w : World} {a b lo hi : Nat} {c d : Cel} {v u : Value} (h1 : Obj1 w a (a + 1) c v) (h2 : Obj1 w b (b + 1) d u) (hne : a ≠ b) (ha : lo ≤ a ∧ a < hi) (hb : lo ≤ b ∧ b < hi) : Objs w lo hi [c, d] [v, u] := by
  obtain ⟨F, hn, hF, ho⟩ := h1
  obtain ⟨G, hn', hG, ho'⟩ := h2
  refine ⟨F ++ (G ++ []), ?_, ?_, v, [u], F, G ++ [], rfl, rfl, ho, u, [], G, [], rfl, rfl, ho', rfl, rfl⟩
  · rw [List.append_nil]
    exact List.nodup_append.2 ⟨hn, hn', fun x hx y hy e => by have := hF x hx; have := hG y hy; omega⟩
  · intro g hg
    rw [List.append_nil] at hg
    rcases List.mem_append.1 hg with hg | hg
    · have := hF g hg; omega
    · have := hG g hg; omega
theorem OwnL.append {w : World} : ∀ (A B : List Cel) (F G : List Nat) (us vs : List Value), OwnL w A F us → OwnL w B G vs → OwnL w (A ++ B) (F ++ G) (us ++ vs)
  | [], _, _, _, _, _, ⟨hF, hv⟩, h => by rw [hF, hv]; exact h
  | c :: A, B, _, G, _, vs, ⟨v, r, G1, H1, hv, hF, h1, h2⟩, h => by
    rw [hF, hv]
    exact ⟨v, r ++ vs, G1, H1 ++ G, rfl, by rw [List.append_assoc], h1, OwnL.append A B H1 G r vs h2 h⟩
/-- A row of the call's own whose cells own what they hold. -/
theorem own_of_row {w : World} {B e k n : Nat} {v : Value} {xs : List Value} {cs : List Cel} {G : List Nat} (ho : w.ownsRow B e k v n xs) (hl : cs.length = n * k) (hG : OwnL w cs G xs) :
    ∃ F, (Cel.sl e k n cs).Own w F v ∧ F = v.ownBlock.toList ++ G := by
  rcases ho.2 with ⟨rfl, rfl⟩ | ⟨g, cap, cur, rfl, hB, hg, hn, hm, hs, ht⟩
  · obtain rfl : cs = [] := List.length_eq_zero_iff.1 (by rw [hl, Nat.zero_mul])
    obtain ⟨rfl, _⟩ := hG
    exact ⟨[], ⟨hl, none, 0, rfl, Nat.le_refl _, by decide, .inl ⟨rfl, rfl⟩⟩, rfl⟩
  · refine ⟨g :: G, ⟨hl, _, cap, rfl, hn, hm, .inr ⟨g, cur, G, rfl, rfl, hg, by rw [hs]; exact Nat.mul_le_mul_right _ hn, by rw [ht]; exact hG⟩⟩, rfl⟩
theorem obj_of_row {w : World} {B e k n lo hi : Nat} {v : Value} {xs : List Value} {cs : List Cel} {G : List Nat} (ho : w.ownsRow B e k v n xs) (hl : cs.length = n * k) (hG : OwnL w cs G xs) (hn : G.Nodup)
    (hb : ∀ g ∈ G, lo ≤ g ∧ g < hi) (hv : ∀ g, v.ownBlock = some g → g ∉ G ∧ lo ≤ g ∧ g < hi) : Obj1 w lo hi (.sl e k n cs) v := by
  obtain ⟨F, h1, rfl⟩ := own_of_row ho hl hG
  refine ⟨_, ?_, ?_, h1⟩
  · cases hq : v.ownBlock with
    | none => simpa using hn
    | some q => simp only [Option.toList, List.cons_append, List.nil_append, List.nodup_cons]; exact ⟨(hv q hq).1, hn⟩
  · intro g hg
    cases hq : v.ownBlock with
    | none => rw [hq] at hg; exact hb g (by simpa using hg)
    | some q =>
      rw [hq] at hg
      simp only [Option.toList, List.cons_append, List.nil_append, List.mem_cons] at hg
      rcases hg with rfl | hg
      · exact (hv _ hq).2
      · exact hb g hg
/-- A copy under way: the first elements lie there and own what they hold. -/
structure Part2 {α : Type} (E : EncC α) (L : List α) (w : World) (g n k : Nat) : Prop where
  ex : ∃ xs G, w.ownsRow g E.e E.k (.slice (some ⟨g, 0, none⟩) n n) n xs ∧ OwnL w (celsE E (L.take k)) G (xs.take (k * E.k)) ∧ G.Nodup ∧ ∀ h ∈ G, g < h ∧ h < w.heap.size
theorem setsL_take : ∀ (vs xs : List Value) (o : Nat), o + vs.length ≤ xs.length → (setsL xs o vs).take (o + vs.length) = xs.take o ++ vs := by
  intro vs xs o h
  apply List.ext_getElem?
  intro j
  by_cases hj : j < o + vs.length
  · rw [List.getElem?_take_of_lt hj]
    by_cases hj0 : j < o
    · rw [setsL_out _ _ _ _ (.inl hj0), List.getElem?_append_left (by rw [List.length_take]; omega), List.getElem?_take_of_lt hj0]
    · obtain ⟨t, rfl⟩ : ∃ t, j = o + t := ⟨j - o, by omega⟩
      rw [setsL_in _ _ _ _ (by omega) h, List.getElem?_append_right (by rw [List.length_take]; omega), List.length_take, Nat.min_eq_left (by omega), Nat.add_sub_cancel_left]
  · rw [List.getElem?_eq_none (by rw [List.length_take]; omega), List.getElem?_eq_none (by rw [List.length_append, List.length_take]; omega)]
theorem Part2.start {α : Type} {E : EncC α} {L : List α} {w : World} {g n : Nat} {xs : List Value} (h : w.ownsRow g E.e E.k (.slice (some ⟨g, 0, none⟩) n n) n xs) : Part2 E L w g n 0 :=
  ⟨xs, [], h, by rw [List.take_zero, Nat.zero_mul, List.take_zero]; exact ⟨rfl, rfl⟩, List.nodup_nil, fun _ hh => by cases hh⟩
theorem Part2.later {α : Type} {E : EncC α} {L : List α} {w w' : World} {g n k : Nat} (h : Part2 E L w g n k) (hb : Below w.heap.size w w') : Part2 E L w' g n k := by
  obtain ⟨xs, G, h1, h2, h3, h4⟩ := h.ex
  exact ⟨xs, G, own_below h1 hb, OwnL.kept _ _ _ (fun q hq => hb.block q (h4 q hq).2) h2, h3, fun q hq => ⟨(h4 q hq).1, Nat.lt_of_lt_of_le (h4 q hq).2 hb.size⟩⟩
theorem heap_setCells_ne {q g : Nat} (hq : q ≠ g) : ∀ (vs : List Value) (w : World) (o : Nat), (w.setCells g o vs).heap[q]? = w.heap[q]?
  | [], _, _ => rfl
  | v :: r, w, o => by rw [World.setCells, heap_setCells_ne hq r, Below.heap_setCell _ _ _ _ (by exact hq)]
theorem size_setCells {g : Nat} : ∀ (vs : List Value) (w : World) (o : Nat), (w.setCells g o vs).heap.size = w.heap.size
  | [], _, _ => rfl
  | v :: r, w, o => by rw [World.setCells, size_setCells r]; simp [World.setCell]
theorem Part2.next {α : Type} [Inhabited α] {E : EncC α} {L : List α} {w w1 : World} {g n k hi : Nat} {vs : List Value} (h : Part2 E L w g n k) (hn : L.length = n) (hk : k < n) (hb : Below w.heap.size w w1)
    (ho : Objs w1 w.heap.size hi (E.cels (L.getD k default)) vs) : Part2 E L (w1.setCells g (k * E.k) vs) g n (k + 1) := by
  obtain ⟨xs, G, h1, h2, h3, h4⟩ := h.ex
  obtain ⟨F, hF, hr, hO⟩ := ho
  have hl : vs.length = E.k := by rw [OwnL.length _ _ _ hO, E.len]
  have h1' := own_below h1 hb
  have hg : g < w.heap.size := ownE_lt h1
  have hm : (k + 1) * E.k ≤ n * E.k := Nat.mul_le_mul_right _ hk
  rw [Nat.add_mul, Nat.one_mul] at hm
  have hne : ∀ q ∈ G ++ F, q ≠ g := by
    intro q hq
    rcases List.mem_append.1 hq with hq | hq
    · have := h4 q hq; omega
    · have := hr q hq; omega
  refine ⟨_, G ++ F, own_sets vs (k * E.k) h1', ?_, ?_, ?_⟩
  · rw [celsE_next E (by omega), show (k + 1) * E.k = k * E.k + vs.length by rw [hl, Nat.add_mul, Nat.one_mul], setsL_take _ _ _ (by rw [hl, h1.1]; exact hm)]
    refine OwnL.append _ _ _ _ _ _ ?_ ?_
    · exact OwnL.kept _ _ _ (fun q hq => by rw [heap_setCells_ne (hne q (List.mem_append_left _ hq))]; exact hb.block q (h4 q hq).2) h2
    · exact OwnL.kept _ _ _ (fun q hq => heap_setCells_ne (hne q (List.mem_append_right _ hq)) _ _ _) hO
  · exact List.nodup_append.2 ⟨h3, hF, fun a ha b hb2 e => by have := h4 a ha; have := hr b hb2; omega⟩
  · intro q hq
    rw [size_setCells]
    rcases List.mem_append.1 hq with hq | hq
    · have := h4 q hq; have := hb.size; omega
    · have := hr q hq; have := OwnL.lt _ _ _ hO q hq; omega
theorem Part2.done {α : Type} {E : EncC α} {L : List α} {w : World} {g n : Nat} (h : Part2 E L w g n n) (hn : L.length = n) : Obj1 w g w.heap.size (celRow E L) (.slice (some ⟨g, 0, none⟩) n n) := by
  obtain ⟨xs, G, h1, h2, h3, h4⟩ := h.ex
  rw [List.take_of_length_le (by omega), List.take_of_length_le (by rw [h1.1]; omega)] at h2
  unfold celRow
  rw [hn]
  exact obj_of_row h1 (by rw [celsE_length, hn]) h2 h3 (fun q hq => by have := h4 q hq; omega) (fun q hq => by
    have e : g = q := Option.some.inj hq
    have := ownE_lt h1
    exact ⟨fun hh => by have := h4 q hh; omega, by omega, by omega⟩)
def ToPost (c : Cel) (w : World) (e : Ending) (w' : World) : Prop := ∃ v, e = .returned v ∧ Obj1 w' w.heap.size w'.heap.size c v ∧ Below w.heap.size w w'
def ToPostS (cs : List Cel) (w : World) (e : Ending) (w' : World) : Prop := ∃ vs : List Value, e = .returned (.agg ⟨vs⟩) ∧ Objs w' w.heap.size w'.heap.size cs vs ∧ Below w.heap.size w w'

/-! Marked. -/
def MarkPost (c : Cel) (F : List Nat) (v : Value) (k : Nat) (w : World) (e : Ending) (w' : World) : Prop :=
  e = .returned (.int .i64 ((k + c.cnt : Nat) : Int)) ∧ OutF F w w' ∧ (c.mk k).Own w' F v
theorem own_set_same {w : World} {e k n : Nat} {cs : List Cel} {F : List Nat} {v : Value} {j : Nat} (h : (Cel.sl e k n cs).Own w F v) (hc : cs.set j (cs.getD j default) = cs) : (Cel.sl e k n (cs.set j (cs.getD j default))).Own w F v := by rw [hc]; exact h
/-- A plain place marked. -/
theorem mark_val {w : World} {e K n c i k : Nat} {cs : List Cel} {a : Option Addr} {F : List Nat} {y : Value} (h : (Cel.sl e K n (stM cs k i)).Own w F (.slice a n c)) (hF : F.Nodup) (hi : i < n * K) (hl : cs.length = n * K) (hy : cs.getD i default = .val y) :
    ∃ g, a = some ⟨g, 0, none⟩ ∧ g ∈ F ∧ (∃ u, w.cell? ⟨g, i, none⟩ = some u) ∧ w.frozen? ⟨g, i, none⟩ = false ∧
      (Cel.sl e K n (stM cs k (i + 1))).Own (w.setCell ⟨g, i, none⟩ (markV y (atM cs k i))) F (.slice a n c) ∧ OutF F w (w.setCell ⟨g, i, none⟩ (markV y (atM cs k i))) := by
  obtain ⟨g, G, u, ha, hg, _, _, _, hc, hz, _, _, hv⟩ := Cel.Own.sub h hF i hi
  have hget : (stM cs k i).getD i default = .val y := by rw [stM_getD (by omega) (Nat.le_refl _), hy]
  obtain ⟨h1, h2⟩ := hv y hget (markV y (atM cs k i))
  have e1 := stM_next (cs := cs) (k := k) (j := i) (by omega)
  rw [hy] at e1
  rw [show Cel.mk (.val y) (atM cs k i) = .val (markV y (atM cs k i)) from rfl] at e1
  rw [e1] at h1
  exact ⟨g, ha, hg, ⟨u, hc⟩, hz, h1, h2⟩
/-- A slice within marked. -/
theorem mark_sub {w : World} {e K n c i k : Nat} {cs : List Cel} {a : Option Addr} {F : List Nat} (h : (Cel.sl e K n (stM cs k i)).Own w F (.slice a n c)) (hF : F.Nodup) (hi : i < n * K) (hl : cs.length = n * K) :
    ∃ g G u, a = some ⟨g, 0, none⟩ ∧ G.Nodup ∧ w.cell? ⟨g, i, none⟩ = some u ∧ (cs.getD i default).Own w G u ∧
      ∀ w', OutF G w w' → ((cs.getD i default).mk (atM cs k i)).Own w' G u → (Cel.sl e K n (stM cs k (i + 1))).Own w' F (.slice a n c) ∧ OutF F w w' := by
  obtain ⟨g, G, u, ha, hg, hGF, _, hGn, hc, hz, ho, hk, _⟩ := Cel.Own.sub h hF i hi
  have hget : (stM cs k i).getD i default = cs.getD i default := stM_getD (by omega) (Nat.le_refl _)
  rw [hget] at ho
  refine ⟨g, G, u, ha, hGn, hc, ho, fun w' hO ho' => ⟨?_, hO.mono hGF⟩⟩
  have h1 := hk w' _ ho' hO
  rw [stM_next (by omega)] at h1
  exact h1
/-- The count at a place. -/
theorem atM_in {α : Type} [Inhabited α] (E : EncC α) {L : List α} {k j o : Nat} (hj : j < L.length) (ho : o ≤ E.k) : atM (celsE E L) k (j * E.k + o) = k + cntL (celsE E (L.take j)) + cntL ((E.cels (L.getD j default)).take o) := by
  unfold atM
  rw [celsE_in E hj ho, cntL_append, Nat.add_assoc]
theorem cntL_next {α : Type} [Inhabited α] (E : EncC α) {L : List α} {j : Nat} (hj : j < L.length) : cntL (celsE E (L.take (j + 1))) = cntL (celsE E (L.take j)) + cntL (E.cels (L.getD j default)) := by rw [celsE_next E hj, cntL_append]
theorem cntL_take {α : Type} (E : EncC α) (L : List α) (j : Nat) : cntL (celsE E (L.take j)) ≤ cntL (celsE E L) := by
  conv => rhs; rw [← List.take_append_drop j L, celsE_append, cntL_append]
  exact Nat.le_add_right _ _
/-- What is marked, read. -/
theorem rowM_at {α : Type} [Inhabited α] {E : EncC α} {w : World} {L : List α} {a : Option Addr} {n c k : Nat} (h : ((celRow E L).mk k).Rd w (.slice a n c)) (_ : 0 < E.k) (j : Nat) (hj : j < n) :
    ∃ g off vs, a = some ⟨g, off, none⟩ ∧ g < w.heap.size ∧ RdL w (mkL (E.cels (L.getD j default)) (k + cntL (celsE E (L.take j)))) vs ∧ ∀ (o : Nat) (u : Value), vs[o]? = some u → w.cell? ⟨g, off + j * E.k + o, none⟩ = some u := by
  obtain ⟨hl, a1, c1, vs, hv, hr, h1⟩ := h
  cases hv
  have hm : (j + 1) * E.k ≤ L.length * E.k := Nat.mul_le_mul_right _ hj
  rw [Nat.add_mul, Nat.one_mul] at hm
  rcases h1 with h0 | ⟨g, off, ha, hg, hc⟩
  · omega
  refine ⟨g, off, (vs.drop (j * E.k)).take E.k, ha, hg, ?_, fun o u hu => ?_⟩
  · have split : ∀ (A B : List Cel) (us : List Value), RdL w (A ++ B) us → RdL w A (us.take A.length) ∧ RdL w B (us.drop A.length) := by
      intro A
      induction A with
      | nil => intro B us h; exact ⟨rfl, h⟩
      | cons d A ihA =>
        intro B us h
        obtain ⟨v, s, rfl, h1, h2⟩ := h
        obtain ⟨p, q⟩ := ihA B s h2
        exact ⟨⟨v, s.take A.length, rfl, h1, p⟩, q⟩
    have e1 : celsE E L = celsE E (L.take j) ++ (E.cels (L.getD j default) ++ celsE E (L.drop (j + 1))) := by
      conv => lhs; rw [← List.take_append_drop (j + 1) L, celsE_append, celsE_next E hj]
      rw [List.append_assoc]
    have hr' : RdL w (mkL (celsE E L) k) vs := hr
    rw [e1, mkL_append, mkL_append] at hr'
    have h2 := (split _ _ _ hr').2
    rw [mkL_length, celsE_length, List.length_take, Nat.min_eq_left (by omega)] at h2
    have h3 := (split _ _ _ h2).1
    rw [mkL_length, E.len] at h3
    exact h3
  · rw [List.getElem?_take] at hu
    split at hu
    · rw [List.getElem?_drop] at hu
      rw [Nat.add_assoc]
      exact hc _ u hu
    · cases hu
/-! A struct alone: only its slices are marked. -/
def mkTop : List Cel → Nat → List Cel
  | [], _ => []
  | .val v :: cs, k => .val v :: mkTop cs k
  | .sl e s n c :: cs, k => (Cel.sl e s n c).mk k :: mkTop cs (k + (Cel.sl e s n c).cnt)
def cntTop : List Cel → Nat
  | [] => 0
  | .val _ :: cs => cntTop cs
  | .sl e s n c :: cs => (Cel.sl e s n c).cnt + cntTop cs
theorem own_nil {w : World} {F : List Nat} (h : OwnL w [] F []) : F = [] := h.1
theorem own_cons {w : World} {c : Cel} {cs : List Cel} {F : List Nat} {v : Value} {vs : List Value} (h : OwnL w (c :: cs) F (v :: vs)) : ∃ G H, F = G ++ H ∧ c.Own w G v ∧ OwnL w cs H vs := by
  obtain ⟨v', r', G, H, hv, hF, h1, h2⟩ := h
  cases hv
  exact ⟨G, H, hF, h1, h2⟩
theorem own_cons_val {w : World} {x : Value} {cs : List Cel} {F : List Nat} {v : Value} {vs : List Value} (h : OwnL w (.val x :: cs) F (v :: vs)) : OwnL w cs F vs := by
  obtain ⟨G, H, hF, ⟨hG, _⟩, h2⟩ := own_cons h
  subst hG
  rw [hF]
  exact h2
theorem rd_cons {w : World} {c : Cel} {cs : List Cel} {v : Value} {vs : List Value} (h : RdL w (c :: cs) (v :: vs)) : c.Rd w v ∧ RdL w cs vs := by
  obtain ⟨v', r', hv, h1, h2⟩ := h
  cases hv
  exact ⟨h1, h2⟩
/-- Blocks outside a range lie as they lay. -/
structure OutR (lo hi : Nat) (w w' : World) : Prop where
  os : w'.os = w.os
  tape : w'.tape = w.tape
  output : w'.output = w.output
  size : w.heap.size ≤ w'.heap.size
  block : ∀ g, (g < lo ∨ hi ≤ g) → g < w.heap.size → w'.heap[g]? = w.heap[g]?
theorem OutR.of {F : List Nat} {lo hi : Nat} {w w' : World} (h : OutF F w w') (hF : ∀ g ∈ F, lo ≤ g ∧ g < hi) : OutR lo hi w w' :=
  ⟨h.os, h.tape, h.output, h.size, fun g hg hl => h.block g (fun hh => by have := hF g hh; omega) hl⟩
theorem OutR.below {lo hi B : Nat} {w w' : World} (h : OutR lo hi w w') (h1 : B ≤ lo) (h2 : B ≤ w.heap.size) : Below B w w' :=
  ⟨h.os, h.tape, h.output, h.size, fun g hg => h.block g (by omega) (by omega)⟩
theorem Objs.out {w w' : World} {lo hi lo' hi' : Nat} {cs : List Cel} {vs : List Value} (h : Objs w lo hi cs vs) (ho : OutR lo' hi' w w') (hd : hi ≤ lo' ∨ hi' ≤ lo) : Objs w' lo hi cs vs := by
  obtain ⟨F, hn, hb, hO⟩ := h
  exact ⟨F, hn, hb, OwnL.kept _ _ _ (fun g hg => ho.block g (by have := hb g hg; omega) (OwnL.lt _ _ _ hO g hg)) hO⟩
theorem Obj1.out {w w' : World} {lo hi lo' hi' : Nat} {c : Cel} {v : Value} (h : Obj1 w lo hi c v) (ho : OutR lo' hi' w w') (hd : hi ≤ lo' ∨ hi' ≤ lo) : Obj1 w' lo hi c v := by
  obtain ⟨F, hn, hb, hO⟩ := h
  exact ⟨F, hn, hb, Cel.Own.kept _ _ _ (fun g hg => ho.block g (by have := hb g hg; omega) (Cel.Own.lt _ _ _ hO g hg)) hO⟩
theorem OutR.bk {w w' : World} {lo hi b : Nat} {cs : Array Value} {t : TypeId} (h : OutR lo hi w w') (hk : Bk w b cs t) (hd : b < lo ∨ hi ≤ b) : Bk w' b cs t := (h.block b hd hk.lt).trans hk
theorem sz_row' {α : Type} (E : EncC α) (L : List α) : (celRow E L).sz = L.length + szL (celsE E L) := rfl
theorem Cel.Rd.drew {w : World} {c : Cel} {v : Value} (h : c.Rd w v) : c.Rd w.drew v := Cel.Rd.later ((Below.refl _ _).drew) c v h
theorem rowK_form {α : Type} {E : EncC α} {w : World} {L : List α} {k : Nat} {v : Value} (h : ((celRow E L).mk k).Rd w v) : ∃ a n c, v = .slice a n c ∧ L.length = n := by
  obtain ⟨hl, a1, c1, vs, hv, hr, h1⟩ := h
  exact ⟨a1, L.length, c1, hv, rfl⟩
theorem mark3_eq {a b : Nat} {c : Int} (h : a = b) (hc : c = (b : Int)) : (a % 3 == 0) = (c % 3 == 0) := by
  subst h hc
  rw [Bool.eq_iff_iff]
  simp only [beq_iff_eq]
  omega
theorem own_vals {w : World} : ∀ xs : List Value, OwnL w (xs.map .val) [] xs
  | [] => ⟨rfl, rfl⟩
  | x :: r => ⟨x, r, [], [], rfl, rfl, ⟨rfl, rfl⟩, own_vals r⟩
end Go.Proofs.YtkfkjcadmdcbnaaDoor
namespace Go.Proofs.YtkfkjcadmdcbnaaDoor
open Go.RowKit Go.Proofs.YtkfkjcadmdcbnaaDoor.Parts Go.Proofs.YtkfkjcadmdcbnaaDoor.Hexa

structure ItemR where
  path : ByteArray
  dir : Bool
  text : ByteArray
instance : Inhabited ItemR := ⟨⟨ByteArray.empty, false, ByteArray.empty⟩⟩
def cItem : EncC ItemR := ⟨48, 3, fun x => [.val (.string x.path), .val (.bool x.dir), .val (.string x.text)], fun _ => rfl⟩
theorem infoItemD : (Tryd.prog.info? 48).map (fun i => (i.zero, i.size, i.bytes)) = some (some (.agg #[.string ⟨#[]⟩, .bool false, .string ⟨#[]⟩]), 3, 40) := by kernel_rfl
theorem cItem_form {w : World} {x : ItemR} {vs : List Value} (h : RdL w (cItem.cels x) vs) : vs = [.string x.path, .bool x.dir, .string x.text] := by
  obtain ⟨v0, r0, e0, h0, v1, r1, e1, h1, v2, r2, e2, h2, hend⟩ := h
  have f0 : v0 = .string x.path := h0
  have f1 : v1 = .bool x.dir := h1
  have f2 : v2 = .string x.text := h2
  have hend' : r2 = [] := hend
  rw [hend'] at e2
  rw [e2] at e1
  rw [e1] at e0
  rw [f0, f1, f2] at e0
  exact e0
theorem cItem_rd {w : World} {x : ItemR}  : RdL w (cItem.cels x) [.string x.path, .bool x.dir, .string x.text] :=
  ⟨_, _, rfl, rfl, ⟨_, _, rfl, rfl, ⟨_, _, rfl, rfl, rfl⟩⟩⟩
theorem cItem_at {w : World} {L : List ItemR} {a : Option Addr} {n c : Nat} (h : (celRow cItem L).Rd w (.slice a n c)) (j : Nat) (hj : j < n) :
    ∃ (g off : Nat), a = some ⟨g, off, none⟩ ∧ g < w.heap.size ∧ w.cell? ⟨g, off + j * 3, none⟩ = some (.string (L.getD j default).path) ∧ w.cell? ⟨g, off + j * 3 + 1, none⟩ = some (.bool (L.getD j default).dir) ∧ w.cell? ⟨g, off + j * 3 + 2, none⟩ = some (.string (L.getD j default).text) := by
  obtain ⟨g, off, vs, ha, hg, hr, hc⟩ := row_at h (by decide) j hj
  have hv := cItem_form hr
  subst hv
  exact ⟨g, off, ha, hg, hc 0 _ rfl, hc 1 _ rfl, hc 2 _ rfl⟩
theorem cItem_sz (x : ItemR) : szL (cItem.cels x) = (x.path.size + (0 + (x.text.size + 0))) := rfl
theorem cItem_cnt (x : ItemR) : cntL (cItem.cels x) = (1 + (1 + (1 + 0))) := rfl

end Go.Proofs.YtkfkjcadmdcbnaaDoor
namespace Go.Proofs.YtkfkjcadmdcbnaaDoor
open Go.RowKit Go.Proofs.YtkfkjcadmdcbnaaDoor.Parts Go.Proofs.YtkfkjcadmdcbnaaDoor.Hexa

structure ViewR where
  items : List ItemR
instance : Inhabited ViewR := ⟨⟨[]⟩⟩
def cView : EncC ViewR := ⟨30, 1, fun x => [celRow cItem x.items], fun _ => rfl⟩
theorem infoViewD : (Tryd.prog.info? 30).map (fun i => (i.zero, i.size, i.bytes)) = some (some (.agg #[.slice none 0 0]), 1, 24) := by kernel_rfl
theorem cView_form {w : World} {x : ViewR} {vs : List Value} (h : RdL w (cView.cels x) vs) : ∃ (a0 : Option Addr) (c0 : Nat), vs = [.slice a0 x.items.length c0] ∧ (celRow cItem x.items).Rd w (.slice a0 x.items.length c0) := by
  obtain ⟨v0, r0, e0, h0, hend⟩ := h
  obtain ⟨a0, n0, c0, f0, g0⟩ := row_form (E := cItem) (L := x.items) h0
  have hend' : r0 = [] := hend
  subst g0
  rw [hend'] at e0
  rw [f0] at e0
  rw [f0] at h0
  exact ⟨a0, c0, e0, h0⟩
theorem cView_rd {w : World} {x : ViewR} {a0 : Option Addr} {c0 : Nat} (h0 : (celRow cItem x.items).Rd w (.slice a0 x.items.length c0)) : RdL w (cView.cels x) [.slice a0 x.items.length c0] :=
  ⟨_, _, rfl, h0, rfl⟩
theorem cView_un {w : World} {x : ViewR} {a0 : Option Addr} {c0 : Nat} (h : RdL w (cView.cels x) [.slice a0 x.items.length c0]) : (celRow cItem x.items).Rd w (.slice a0 x.items.length c0) := by
  obtain ⟨h0, h⟩ := rd_cons h
  exact h0
theorem cView_at {w : World} {L : List ViewR} {a : Option Addr} {n c : Nat} (h : (celRow cView L).Rd w (.slice a n c)) (j : Nat) (hj : j < n) :
    ∃ (g off : Nat) (a0 : Option Addr) (c0 : Nat), a = some ⟨g, off, none⟩ ∧ g < w.heap.size ∧ w.cell? ⟨g, off + j * 1, none⟩ = some (.slice a0 (L.getD j default).items.length c0) ∧ (celRow cItem (L.getD j default).items).Rd w (.slice a0 (L.getD j default).items.length c0) := by
  obtain ⟨g, off, vs, ha, hg, hr, hc⟩ := row_at h (by decide) j hj
  obtain ⟨a0, c0, hv, h0⟩ := cView_form hr
  subst hv
  exact ⟨g, off, a0, c0, ha, hg, hc 0 _ rfl, h0⟩
theorem cView_sz (x : ViewR) : szL (cView.cels x) = ((celRow cItem x.items).sz + 0) := rfl
theorem cView_cnt (x : ViewR) : cntL (cView.cels x) = ((celRow cItem x.items).cnt + 0) := rfl

theorem view_len {x : ViewR} {N : Nat} (h : szL (cView.cels x) ≤ N) : x.items.length ≤ N := by
  rw [cView_sz] at h
  have := sz_row' cItem x.items
  omega
end Go.Proofs.YtkfkjcadmdcbnaaDoor
namespace Go.Proofs.YtkfkjcadmdcbnaaDoor
def pagesZ (n : Int) : Int := if n ≤ 0 then 0 else (n - 1) / 32 + 1
end Go.Proofs.YtkfkjcadmdcbnaaDoor
namespace Go.Proofs.YtkfkjcadmdcbnaaDoor
open Go.RowKit Go.Proofs.YtkfkjcadmdcbnaaDoor.Parts Go.Proofs.YtkfkjcadmdcbnaaDoor.Hexa

/-! The first item with a path. -/
def itemN : List ItemR → ByteArray → Nat
  | [], _ => 0
  | x :: r, p => if x.path = p then 0 else itemN r p + 1
def itemZ (L : List ItemR) (p : ByteArray) : Int := if itemN L p < L.length then (itemN L p : Int) else -1
theorem itemN_none : ∀ {L : List ItemR} {p : ByteArray}, (∀ j, j < L.length → (L.getD j default).path ≠ p) → itemN L p = L.length
  | [], _, _ => rfl
  | x :: r, p, h => by
    have h0 := h 0 (by simp)
    simp only [List.getD_cons_zero] at h0
    rw [itemN, if_neg h0, itemN_none (fun j hj => by have := h (j + 1) (by simpa using hj); simpa using this), List.length_cons]
theorem itemN_some : ∀ {L : List ItemR} {p : ByteArray} {k : Nat}, k < L.length → (∀ j, j < k → (L.getD j default).path ≠ p) → (L.getD k default).path = p → itemN L p = k
  | x :: r, p, 0, _, _, h1 => by
    simp only [List.getD_cons_zero] at h1
    rw [itemN, if_pos h1]
  | x :: r, p, k + 1, hk, h, h1 => by
    have h0 := h 0 (by omega)
    simp only [List.getD_cons_zero] at h0
    rw [itemN, if_neg h0, itemN_some (k := k) (by simpa using hk) (fun j hj => by have := h (j + 1) (by omega); simpa using this) (by simpa using h1)]
theorem itemN_at : ∀ {L : List ItemR} {p : ByteArray}, itemN L p < L.length → (L.getD (itemN L p) default).path = p
  | x :: r, p, h => by
    rw [itemN] at h ⊢
    by_cases e : x.path = p
    · rw [if_pos e]; simpa using e
    · rw [if_neg e] at h ⊢
      have := itemN_at (L := r) (p := p) (by simpa using h)
      simpa using this
theorem itemZ_none {L : List ItemR} {p : ByteArray} (h : ∀ j, j < L.length → (L.getD j default).path ≠ p) : itemZ L p = -1 := by
  unfold itemZ
  rw [itemN_none h, if_neg (Nat.lt_irrefl _)]
theorem itemZ_some {L : List ItemR} {p : ByteArray} {k : Nat} (hk : k < L.length) (h : ∀ j, j < k → (L.getD j default).path ≠ p) (h1 : (L.getD k default).path = p) : itemZ L p = (k : Int) := by
  unfold itemZ
  rw [itemN_some hk h h1, if_pos hk]
theorem itemZ_cases (L : List ItemR) (p : ByteArray) : itemZ L p = -1 ∨ ∃ k : Nat, k < L.length ∧ itemZ L p = (k : Int) := by
  unfold itemZ
  by_cases h : itemN L p < L.length
  · rw [if_pos h]; exact .inr ⟨_, h, rfl⟩
  · rw [if_neg h]; exact .inl rfl

/-! Its pages. -/
def itemPg (x : ItemR) : Int := if x.dir = true then 0 else pagesZ (x.text.size : Int)
def pagesR : List ItemR → Int
  | [] => 0
  | x :: r => itemPg x + pagesR r
theorem pagesR_append : ∀ a b : List ItemR, pagesR (a ++ b) = pagesR a + pagesR b
  | [], b => by rw [List.nil_append, pagesR, Int.zero_add]
  | x :: a, b => by rw [List.cons_append, pagesR, pagesR, pagesR_append a b]; omega
theorem pagesR_next {L : List ItemR} {k : Nat} (hk : k < L.length) : pagesR (L.take (k + 1)) = pagesR (L.take k) + itemPg (L.getD k default) := by
  have e : L[k] = L.getD k default := by simp [List.getD, hk]
  rw [List.take_succ_eq_append_getElem hk, pagesR_append, e, pagesR, pagesR]
  omega
theorem itemPg_bd (x : ItemR) : 0 ≤ itemPg x ∧ itemPg x ≤ (x.text.size : Int) := by
  unfold itemPg
  split
  · exact ⟨Int.le_refl _, by omega⟩
  · unfold pagesZ
    split
    · exact ⟨Int.le_refl _, by omega⟩
    · constructor <;> omega
theorem pagesR_bd : ∀ L : List ItemR, 0 ≤ pagesR L ∧ pagesR L ≤ (szL (celsE cItem L) : Int)
  | [] => ⟨Int.le_refl _, Int.le_refl _⟩
  | x :: r => by
    have h1 := pagesR_bd r
    have h2 := itemPg_bd x
    have h3 : szL (celsE cItem (x :: r)) = (x.path.size + (0 + (x.text.size + 0))) + szL (celsE cItem r) := by rw [celsE, szL_append, cItem_sz]
    rw [pagesR, h3]
    omega
end Go.Proofs.YtkfkjcadmdcbnaaDoor
namespace Go.Proofs.YtkfkjcadmdcbnaaDoor

def NameC (b : UInt8) : Prop := (97 ≤ b.toNat ∧ b.toNat ≤ 122) ∨ (48 ≤ b.toNat ∧ b.toNat ≤ 57)
instance (b : UInt8) : Decidable (NameC b) := by unfold NameC; infer_instance
def NameR (s : ByteArray) : Prop := (1 ≤ s.size ∧ s.size ≤ 7) ∧ ∀ b ∈ s.data.toList, NameC b
instance (s : ByteArray) : Decidable (NameR s) := by unfold NameR; infer_instance
def nameB (s : ByteArray) : Bool := decide (NameR s)
theorem nameB_yes {s : ByteArray} (h : NameR s) : nameB s = true := decide_eq_true h
theorem nameB_no {s : ByteArray} (h : ¬ NameR s) : nameB s = false := decide_eq_false h

end Go.Proofs.YtkfkjcadmdcbnaaDoor
namespace Go.Proofs.YtkfkjcadmdcbnaaDoor

/-- The parts of a text between its slashes; 'cur' is what the first one has already. -/
def cutGo : List UInt8 → List UInt8 → List (List UInt8)
  | cur, [] => [cur]
  | cur, b :: r => if b = 47 then cur :: cutGo [] r else cutGo (cur ++ [b]) r
def nameL (p : List UInt8) : Bool := !p.isEmpty && p.all (fun b => decide (NameC b))
def okP (P : List (List UInt8)) : Bool := P.all nameL
def longP (P : List (List UInt8)) : Bool := P.any (fun p => decide (7 < p.length))
/-- The text behind the first byte. -/
def tailL (s : ByteArray) : List UInt8 := s.data.toList.drop 1
def cutP (s : ByteArray) : List (List UInt8) := cutGo [] (tailL s)
def headOk (s : ByteArray) : Bool := s.data.toList.head? == some 47
def pathCode (s : ByteArray) : Int :=
  if 60 < s.size ∨ headOk s = false then 1 else if s.size = 1 then 0 else if okP (cutP s) = false then 1 else if longP (cutP s) = true then 2 else 0
def bytesOf (p : List UInt8) : ByteArray := ⟨p.toArray⟩
def pathNames (s : ByteArray) : List ByteArray := if pathCode s = 0 ∧ s.size ≠ 1 then (cutP s).map bytesOf else []

theorem cutGo_slash (cur r : List UInt8) : cutGo cur (47 :: r) = cur :: cutGo [] r := by rw [cutGo, if_pos rfl]
theorem cutGo_byte {b : UInt8} (cur r : List UInt8) (h : ¬ b = 47) : cutGo cur (b :: r) = cutGo (cur ++ [b]) r := by rw [cutGo, if_neg h]
theorem cutGo_first : ∀ (l cur : List UInt8), ∃ t Q, cutGo cur l = (cur ++ t) :: Q
  | [], cur => ⟨[], [], by rw [cutGo, List.append_nil]⟩
  | b :: r, cur => by
    by_cases h : b = 47
    · subst h; exact ⟨[], cutGo [] r, by rw [cutGo_slash, List.append_nil]⟩
    · obtain ⟨t, Q, hq⟩ := cutGo_first r (cur ++ [b])
      exact ⟨b :: t, Q, by rw [cutGo_byte _ _ h, hq, List.append_assoc]; rfl⟩
theorem cutGo_bad {b : UInt8} (cur r : List UInt8) (h : ¬ b = 47) (hb : ¬ NameC b) : okP (cutGo cur (b :: r)) = false := by
  obtain ⟨t, Q, hq⟩ := cutGo_first r (cur ++ [b])
  rw [cutGo_byte _ _ h, hq]
  simp [okP, nameL, hb]
theorem cutGo_empty (r : List UInt8) : okP (cutGo [] (47 :: r)) = false := by
  rw [cutGo_slash]; simp [okP, nameL]
theorem cutGo_end : okP (cutGo [] []) = false := by simp [cutGo, okP, nameL]
theorem okP_append (A B : List (List UInt8)) : okP (A ++ B) = (okP A && okP B) := by simp [okP]
theorem longP_append (A B : List (List UInt8)) : longP (A ++ B) = (longP A || longP B) := by simp [longP]
theorem okP_bad {A B : List (List UInt8)} (h : okP B = false) : okP (A ++ B) = false := by rw [okP_append, h, Bool.and_false]
theorem longP_one (p : List UInt8) : longP [p] = decide (7 < p.length) := by simp [longP]
theorem nameL_iff (p : List UInt8) : nameL p = true ↔ p ≠ [] ∧ ∀ b ∈ p, NameC b := by
  unfold nameL
  rw [Bool.and_eq_true, List.all_eq_true]
  constructor
  · rintro ⟨h1, h2⟩
    exact ⟨fun h => (by subst h; cases h1), fun b hb => of_decide_eq_true (h2 b hb)⟩
  · rintro ⟨h1, h2⟩
    refine ⟨?_, fun b hb => decide_eq_true (h2 b hb)⟩
    cases p with
    | nil => exact absurd rfl h1
    | cons _ _ => rfl
theorem okP_one {p : List UInt8} (h0 : p ≠ []) (h : ∀ b ∈ p, NameC b) : okP [p] = true := by
  simp only [okP, List.all_cons, List.all_nil, Bool.and_true]
  exact (nameL_iff p).2 ⟨h0, h⟩
theorem cutGo_len : ∀ (l cur : List UInt8), (cutGo cur l).length ≤ l.length + 1
  | [], _ => by simp [cutGo]
  | b :: r, cur => by
    by_cases h : b = 47
    · subst h; rw [cutGo_slash]; have := cutGo_len r []; simp only [List.length_cons]; omega
    · rw [cutGo_byte _ _ h]; have := cutGo_len r (cur ++ [b]); simp only [List.length_cons]; omega
theorem cutGo_mem : ∀ (l cur p : List UInt8), p ∈ cutGo cur l → p.length ≤ cur.length + l.length
  | [], cur, p, h => by simp only [cutGo, List.mem_singleton] at h; subst h; simp
  | b :: r, cur, p, h => by
    by_cases e : b = 47
    · subst e
      rw [cutGo_slash] at h
      rcases List.mem_cons.1 h with rfl | h
      · omega
      · have := cutGo_mem r [] p h; simp only [List.length_cons, List.length_nil] at this ⊢; omega
    · rw [cutGo_byte _ _ e] at h
      have := cutGo_mem r (cur ++ [b]) p h
      simp only [List.length_append, List.length_cons, List.length_nil] at this ⊢; omega

/-- What a cut at each slash gives is what strings.Split's contract says. -/
theorem cutGo_index : ∀ (l cur : List UInt8), (Lib.index l [47] = -1 ∧ cutGo cur l = [cur ++ l]) ∨ ∃ i : Nat, Lib.index l [47] = i ∧ cutGo cur l = (cur ++ l.take i) :: cutGo [] (l.drop (i + 1))
  | [], cur => .inl ⟨by simp [Lib.index], by simp [cutGo]⟩
  | b :: r, cur => by
    by_cases h : b = 47
    · subst h
      exact .inr ⟨0, by simp [Lib.index, List.isPrefixOf], by rw [cutGo_slash]; simp⟩
    · have hx : Lib.index (b :: r) [47] = if Lib.index r [47] == -1 then -1 else Lib.index r [47] + 1 := by
        rw [Lib.index]
        simp [List.isPrefixOf, Ne.symm h]
      rw [cutGo_byte _ _ h, hx]
      rcases cutGo_index r (cur ++ [b]) with ⟨h1, h2⟩ | ⟨i, h1, h2⟩
      · exact .inl ⟨by rw [h1]; rfl, by rw [h2, List.append_assoc]; rfl⟩
      · refine .inr ⟨i + 1, ?_, ?_⟩
        · rw [h1, if_neg (by simp)]
          omega
        · rw [h2, List.append_assoc]
          simp
theorem splitK_cut : ∀ (k : Nat) (l : List UInt8), Lib.count l [47] = k → Lib.splitK [47] 0 k l = cutGo [] l := by
  intro k
  induction k with
  | zero =>
    intro l h
    rcases cutGo_index l [] with ⟨_, h2⟩ | ⟨i, h1, _⟩
    · rw [h2]; rfl
    · rw [Lib.count_hit (by simp) h1] at h; omega
  | succ k ih =>
    intro l h
    rcases cutGo_index l [] with ⟨h1, _⟩ | ⟨i, h1, h2⟩
    · rw [Lib.count_miss h1] at h; omega
    · rw [Lib.count_hit (by simp) h1] at h
      rw [h2, Lib.splitK, h1, if_neg (by simp)]
      simp only [Int.toNat_natCast, Nat.add_zero, List.length_cons, List.length_nil, List.nil_append]
      rw [ih _ (by have h' : 1 + Lib.count (l.drop (i + 1)) [47] = k + 1 := h; show Lib.count (l.drop (i + 1)) [47] = k; omega)]
/-- strings.Split's pieces at a slash. -/
theorem split_cut (s : ByteArray) : Lib.splitB ⟨#[47]⟩ 0 (Lib.countB s ⟨#[47]⟩) s = (cutGo [] s.data.toList).map bytesOf := by
  have h := Lib.splitB_data ⟨#[47]⟩ 0 (Lib.countB s ⟨#[47]⟩) s
  rw [show (⟨#[47]⟩ : ByteArray).data.toList = [47] from rfl, splitK_cut _ _ rfl] at h
  rw [← h, List.map_map]
  conv => lhs; rw [← List.map_id (Lib.splitB ⟨#[47]⟩ 0 (Lib.countB s ⟨#[47]⟩) s)]
  refine List.map_congr_left (fun x _ => ?_)
  obtain ⟨⟨x⟩⟩ := x
  rfl
theorem bytesOf_data (p : List UInt8) : (bytesOf p).data.toList = p := rfl
theorem bytesOf_size (p : List UInt8) : (bytesOf p).size = p.length := by simp [bytesOf, ByteArray.size]
theorem names_len (s : ByteArray) : (pathNames s).length ≤ 61 := by
  unfold pathNames
  split
  · rename_i h
    have h1 : ¬ 60 < s.size := fun hh => by have := h.1; rw [pathCode, if_pos (.inl hh)] at this; omega
    have h2 := cutGo_len (tailL s) []
    have h3 : (tailL s).length ≤ s.size := by unfold tailL; rw [List.length_drop, Lib.size_eq]; omega
    rw [List.length_map]
    show (cutGo [] (tailL s)).length ≤ 61
    omega
  · simp
/-- The bytes from b up to i. -/
def seg (s : ByteArray) (b i : Nat) : List UInt8 := (s.data.toList.drop b).take (i - b)
theorem seg_self (s : ByteArray) (b : Nat) : seg s b b = [] := by simp [seg]
theorem drop_at (s : ByteArray) (i : Nat) (h : i < s.size) : s.data.toList.drop i = s[i] :: s.data.toList.drop (i + 1) := by
  have h' : i < s.data.toList.length := by simpa using h
  rw [List.drop_eq_getElem_cons h']
  rfl
theorem seg_next (s : ByteArray) (b i : Nat) (hb : b ≤ i) (h : i < s.size) : seg s b (i + 1) = seg s b i ++ [s[i]] := by
  unfold seg
  have h' : i < s.data.toList.length := by simpa using h
  rw [show i + 1 - b = (i - b) + 1 by omega, List.take_succ_eq_append_getElem (by rw [List.length_drop]; omega)]
  congr 2
  rw [List.getElem_drop]
  show s.data.toList[b + (i - b)] = s.data.toList[i]
  congr 1
  omega
theorem seg_len (s : ByteArray) (b i : Nat) (hb : b ≤ i) (h : i ≤ s.size) : (seg s b i).length = i - b := by
  unfold seg
  rw [List.length_take, List.length_drop, ← Lib.size_eq]
  omega
theorem seg_bytes (s : ByteArray) (b i : Nat) : bytesOf (seg s b i) = s.extract b i := by
  unfold bytesOf seg
  rw [Lib.extract_eq]
theorem seg_name {s : ByteArray} {b i : Nat} (hi : i ≤ s.size) (h : ∀ j (hj : j < s.size), b ≤ j → j < i → NameC s[j]) : ∀ x ∈ seg s b i, NameC x := by
  intro x hx
  unfold seg at hx
  obtain ⟨k, hk, rfl⟩ := List.mem_iff_getElem.1 hx
  rw [List.length_take, List.length_drop, ← Lib.size_eq] at hk
  rw [List.getElem_take, List.getElem_drop]
  exact h (b + k) (by omega) (by omega) (by omega)
theorem cut_byte {s : ByteArray} {P : List (List UInt8)} {b i : Nat} (h : cutP s = P ++ cutGo (seg s b i) (s.data.toList.drop i)) (hb : b ≤ i) (hi : i < s.size) (h47 : ¬ s[i] = 47) : cutP s = P ++ cutGo (seg s b (i + 1)) (s.data.toList.drop (i + 1)) := by
  rw [h, drop_at s i hi, cutGo_byte _ _ h47, seg_next s b i hb hi]
theorem cut_bad {s : ByteArray} {P : List (List UInt8)} {b i : Nat} (h : cutP s = P ++ cutGo (seg s b i) (s.data.toList.drop i)) (hi : i < s.size) (h47 : ¬ s[i] = 47) (hn : ¬ NameC s[i]) : okP (cutP s) = false := by
  rw [h, drop_at s i hi]
  exact okP_bad (cutGo_bad _ _ h47 hn)
theorem cut_empty {s : ByteArray} {P : List (List UInt8)} {i : Nat} (h : cutP s = P ++ cutGo (seg s i i) (s.data.toList.drop i)) (hi : i < s.size) (h47 : s[i] = 47) : okP (cutP s) = false := by
  rw [h, drop_at s i hi, h47, seg_self]
  exact okP_bad (cutGo_empty _)
theorem cut_slash {s : ByteArray} {P : List (List UInt8)} {b i : Nat} (h : cutP s = P ++ cutGo (seg s b i) (s.data.toList.drop i)) (hi : i < s.size) (h47 : s[i] = 47) : cutP s = (P ++ [seg s b i]) ++ cutGo (seg s (i + 1) (i + 1)) (s.data.toList.drop (i + 1)) := by
  rw [h, drop_at s i hi, h47, cutGo_slash, seg_self, List.append_assoc]
  rfl
theorem drop_all (s : ByteArray) : s.data.toList.drop s.size = [] := by rw [Lib.size_eq]; simp
theorem cut_end_bad {s : ByteArray} {P : List (List UInt8)} (h : cutP s = P ++ cutGo (seg s s.size s.size) (s.data.toList.drop s.size)) : okP (cutP s) = false := by
  rw [h, drop_all, seg_self]
  exact okP_bad cutGo_end
theorem cut_end {s : ByteArray} {P : List (List UInt8)} {b : Nat} (h : cutP s = P ++ cutGo (seg s b s.size) (s.data.toList.drop s.size)) : cutP s = P ++ [seg s b s.size] := by
  rw [h, drop_all, cutGo]
theorem cut_start (s : ByteArray) : cutP s = [] ++ cutGo (seg s 1 1) (s.data.toList.drop 1) := by rw [seg_self]; rfl

theorem code_long {s : ByteArray} (h : 60 < s.size) : pathCode s = 1 := by rw [pathCode, if_pos (.inl h)]
theorem code_head {s : ByteArray} (h : headOk s = false) : pathCode s = 1 := by rw [pathCode, if_pos (.inr h)]
theorem code_root {s : ByteArray} (h0 : headOk s = true) (h1 : s.size = 1) : pathCode s = 0 := by rw [pathCode, if_neg (by rw [h0]; simp; omega), if_pos h1]
theorem code_bad {s : ByteArray} (h : s.size ≤ 60) (h0 : headOk s = true) (h1 : s.size ≠ 1) (hk : okP (cutP s) = false) : pathCode s = 1 := by
  rw [pathCode, if_neg (by rw [h0]; simp; omega), if_neg h1, if_pos hk]
theorem code_name {s : ByteArray} (h : s.size ≤ 60) (h0 : headOk s = true) (h1 : s.size ≠ 1) (hk : okP (cutP s) = true) (hl : longP (cutP s) = true) : pathCode s = 2 := by
  rw [pathCode, if_neg (by rw [h0]; simp; omega), if_neg h1, if_neg (by rw [hk]; simp), if_pos hl]
theorem code_ok {s : ByteArray} (h : s.size ≤ 60) (h0 : headOk s = true) (h1 : s.size ≠ 1) (hk : okP (cutP s) = true) (hl : longP (cutP s) = false) : pathCode s = 0 := by
  rw [pathCode, if_neg (by rw [h0]; simp; omega), if_neg h1, if_neg (by rw [hk]; simp), if_neg (by rw [hl]; simp)]
theorem headOk_yes {s : ByteArray} (h : 0 < s.size) (e : (s[0].toNat : Int) = 47) : headOk s = true := by
  have h1 : s[0] = 47 := by apply UInt8.toNat_inj.1; simp; omega
  have h2 := drop_at s 0 h
  rw [List.drop_zero] at h2
  unfold headOk
  rw [h2, h1]
  rfl
theorem headOk_no {s : ByteArray} (h : 0 < s.size) (e : ¬ (s[0].toNat : Int) = 47) : headOk s = false := by
  have h1 : ¬ s[0] = 47 := fun hh => e (by rw [hh]; rfl)
  have h2 := drop_at s 0 h
  rw [List.drop_zero] at h2
  unfold headOk
  rw [h2]
  simpa using h1
theorem headOk_none {s : ByteArray} (h : s.size = 0) : headOk s = false := by
  obtain ⟨⟨l⟩⟩ := s
  cases l with
  | nil => rfl
  | cons a b => simp [ByteArray.size] at h
theorem is47 {b : UInt8} (e : (b.toNat : Int) = 47) : b = 47 := by apply UInt8.toNat_inj.1; simp; omega
theorem not47 {b : UInt8} (e : ¬ (b.toNat : Int) = 47) : ¬ b = 47 := fun hh => e (by rw [hh]; rfl)
theorem root_text {s : ByteArray} (h0 : headOk s = true) (h1 : s.size = 1) : s = ⟨#[47]⟩ := by
  obtain ⟨c, rfl⟩ := Lib.one_byte s h1
  unfold headOk at h0
  simp at h0
  rw [h0]
end Go.Proofs.YtkfkjcadmdcbnaaDoor
