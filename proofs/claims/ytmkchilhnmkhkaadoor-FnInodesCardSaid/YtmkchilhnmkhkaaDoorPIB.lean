/- Merged texts: RecBase, EntryBase, RecMath, Bk, RangeSpec, Long, ZeroSpec, NumTSpec, WordSpec, RecSpec, TextEq, EntSpec, Says, InoMath, InoSpecA, Drews, InoSpecB. -/
import Derived.Test.YtmkchilhnmkhkaaDoorPIA
import Derived.Test.YtmkchilhnmkhkaaDoorRows
import Derived.WalkKit
import Derived.WalkSpells
import Derived.WalkLawsBesides
import Derived.RowKit3
import Derived.Below
import Derived.Lib.Hide
import Derived.OwnWalk
import Derived.OneCell
import Derived.Deep.QuietTactic
import Derived.BigQuiet
import Derived.Deep.DeepCutAuto
import Derived.Deep.RegionHeld3
namespace Go.Proofs.YtmkchilhnmkhkaaDoor
open Go.RowKit Go.Proofs.YtmkchilhnmkhkaaDoor.Parts Go.Proofs.YtmkchilhnmkhkaaDoor.Hexa

structure RecR where
  f0 : Int
  f1 : Int
  f2 : ByteArray
instance : Inhabited RecR := ⟨⟨0, 0, ByteArray.empty⟩⟩
def encRec : Enc RecR := ⟨3, fun s => [.int .i64 s.f0, .int .i64 s.f1, .string s.f2], fun _ => rfl⟩
theorem encRec_cells (s : RecR) : encRec.cells s = [.int .i64 s.f0, .int .i64 s.f1, .string s.f2] := rfl
theorem encRec_one (s : RecR) : ∀ v ∈ encRec.cells s, v.oneCell' = true := by
  intro v hv
  rw [encRec_cells] at hv
  simp only [List.mem_cons, List.not_mem_nil, or_false] at hv
  rcases hv with rfl | rfl | rfl <;> rfl
theorem cellsRec_one : ∀ L : List RecR, ∀ v ∈ cellsE encRec L, v.oneCell' = true
  | [], v, hv => by cases hv
  | x :: r, v, hv => by
    rw [cellsE, List.mem_append] at hv
    rcases hv with h | h
    · exact encRec_one x v h
    · exact cellsRec_one r v h
theorem cellsRec_length (L : List RecR) : (cellsE encRec L).length = L.length * 3 := cellsE_length encRec L
abbrev SrcRec (w : World) (a : Option Addr) (n : Nat) (L : List RecR) : Prop := SrcE encRec w a n L
theorem srcRec_at {w : World} {a : Option Addr} {n : Nat} {L : List RecR} (h : SrcRec w a n L) (j : Nat) (hj : j < n) : ∃ g off, a = some ⟨g, off, none⟩ ∧ g < w.heap.size ∧ w.cell? ⟨g, off + j * 3, none⟩ = some (.int .i64 (L.getD j default).f0) ∧ w.cell? ⟨g, off + j * 3 + 1, none⟩ = some (.int .i64 (L.getD j default).f1) ∧ w.cell? ⟨g, off + j * 3 + 2, none⟩ = some (.string (L.getD j default).f2) := by
  obtain ⟨g, off, e, hg, c⟩ := h.cell j hj
  exact ⟨g, off, e, hg, c 0 _ rfl, c 1 _ rfl, c 2 _ rfl⟩
/-- The same at a later world. -/
theorem srcRec_later {w w' : World} {a : Option Addr} {n : Nat} {L : List RecR} {B : Nat} (h : SrcRec w a n L) (hb : Below B w w') (hB : w.heap.size ≤ B) (j : Nat) (hj : j < n) : ∃ g off, a = some ⟨g, off, none⟩ ∧ g < w.heap.size ∧ w'.cell? ⟨g, off + j * 3, none⟩ = some (.int .i64 (L.getD j default).f0) ∧ w'.cell? ⟨g, off + j * 3 + 1, none⟩ = some (.int .i64 (L.getD j default).f1) ∧ w'.cell? ⟨g, off + j * 3 + 2, none⟩ = some (.string (L.getD j default).f2) := by
  obtain ⟨g, off, e, hg, _⟩ := h.cell j hj
  obtain ⟨g', off', e', _, c0, c1, c2⟩ := srcRec_at (h.below hb hB) j hj
  rw [e] at e'
  cases e'
  exact ⟨g, off, e, hg, c0, c1, c2⟩
theorem srcRec_of_own {w : World} {B e n cap : Nat} {a : Option Addr} {L : List RecR} (h : w.ownsRow B e 3 (.slice a n cap) n (cellsE encRec L)) : SrcRec w a n L := srcE_of_own (E := encRec) h (by decide)
theorem infoRec : (Tryd.prog.info? 66).map (fun i => (i.zero, i.size, i.bytes)) = some (some (.agg #[.int .i64 0, .int .i64 0, .string ByteArray.empty]), 3, 32) := by kernel_rfl
/-- What a slice of them holds: no text longer than b. -/
def FitRec (L : List RecR) (n b : Nat) : Prop := ∀ j, j < n → (L.getD j default).f2.size ≤ b
def FitTRec (L : List RecR) (b : Nat) : Prop := FitRec L L.length b
end Go.Proofs.YtmkchilhnmkhkaaDoor
namespace Go.Proofs.YtmkchilhnmkhkaaDoor
open Go.RowKit Go.Proofs.YtmkchilhnmkhkaaDoor.Parts Go.Proofs.YtmkchilhnmkhkaaDoor.Hexa

structure EntryR where
  f0 : Int
  f1 : ByteArray
instance : Inhabited EntryR := ⟨⟨0, ByteArray.empty⟩⟩
def encEntry : Enc EntryR := ⟨2, fun s => [.int .i64 s.f0, .string s.f1], fun _ => rfl⟩
theorem encEntry_cells (s : EntryR) : encEntry.cells s = [.int .i64 s.f0, .string s.f1] := rfl
theorem encEntry_one (s : EntryR) : ∀ v ∈ encEntry.cells s, v.oneCell' = true := by
  intro v hv
  rw [encEntry_cells] at hv
  simp only [List.mem_cons, List.not_mem_nil, or_false] at hv
  rcases hv with rfl | rfl <;> rfl
theorem cellsEntry_one : ∀ L : List EntryR, ∀ v ∈ cellsE encEntry L, v.oneCell' = true
  | [], v, hv => by cases hv
  | x :: r, v, hv => by
    rw [cellsE, List.mem_append] at hv
    rcases hv with h | h
    · exact encEntry_one x v h
    · exact cellsEntry_one r v h
theorem cellsEntry_length (L : List EntryR) : (cellsE encEntry L).length = L.length * 2 := cellsE_length encEntry L
abbrev SrcEntry (w : World) (a : Option Addr) (n : Nat) (L : List EntryR) : Prop := SrcE encEntry w a n L
theorem srcEntry_at {w : World} {a : Option Addr} {n : Nat} {L : List EntryR} (h : SrcEntry w a n L) (j : Nat) (hj : j < n) : ∃ g off, a = some ⟨g, off, none⟩ ∧ g < w.heap.size ∧ w.cell? ⟨g, off + j * 2, none⟩ = some (.int .i64 (L.getD j default).f0) ∧ w.cell? ⟨g, off + j * 2 + 1, none⟩ = some (.string (L.getD j default).f1) := by
  obtain ⟨g, off, e, hg, c⟩ := h.cell j hj
  exact ⟨g, off, e, hg, c 0 _ rfl, c 1 _ rfl⟩
/-- The same at a later world. -/
theorem srcEntry_later {w w' : World} {a : Option Addr} {n : Nat} {L : List EntryR} {B : Nat} (h : SrcEntry w a n L) (hb : Below B w w') (hB : w.heap.size ≤ B) (j : Nat) (hj : j < n) : ∃ g off, a = some ⟨g, off, none⟩ ∧ g < w.heap.size ∧ w'.cell? ⟨g, off + j * 2, none⟩ = some (.int .i64 (L.getD j default).f0) ∧ w'.cell? ⟨g, off + j * 2 + 1, none⟩ = some (.string (L.getD j default).f1) := by
  obtain ⟨g, off, e, hg, _⟩ := h.cell j hj
  obtain ⟨g', off', e', _, c0, c1⟩ := srcEntry_at (h.below hb hB) j hj
  rw [e] at e'
  cases e'
  exact ⟨g, off, e, hg, c0, c1⟩
theorem srcEntry_of_own {w : World} {B e n cap : Nat} {a : Option Addr} {L : List EntryR} (h : w.ownsRow B e 2 (.slice a n cap) n (cellsE encEntry L)) : SrcEntry w a n L := srcE_of_own (E := encEntry) h (by decide)
theorem infoEntry : (Tryd.prog.info? 47).map (fun i => (i.zero, i.size, i.bytes)) = some (some (.agg #[.int .i64 0, .string ByteArray.empty]), 2, 24) := by kernel_rfl
/-- What a slice of them holds: no text longer than b. -/
def FitEntry (L : List EntryR) (n b : Nat) : Prop := ∀ j, j < n → (L.getD j default).f1.size ≤ b
def FitTEntry (L : List EntryR) (b : Nat) : Prop := FitEntry L L.length b
end Go.Proofs.YtmkchilhnmkhkaaDoor
namespace Go.Proofs.YtmkchilhnmkhkaaDoor
open Go.RowKit Go.Proofs.YtmkchilhnmkhkaaDoor.Parts Go.Proofs.YtmkchilhnmkhkaaDoor.Hexa Go.Proofs.YtmkchilhnmkhkaaDoor.Byt

def NameC (b : UInt8) : Prop := (97 ≤ b.toNat ∧ b.toNat ≤ 122) ∨ (48 ≤ b.toNat ∧ b.toNat ≤ 57)
instance (b : UInt8) : Decidable (NameC b) := by unfold NameC; infer_instance
def NameR (s : ByteArray) : Prop := (1 ≤ s.size ∧ s.size ≤ 7) ∧ ∀ b ∈ s.data.toList, NameC b
instance (s : ByteArray) : Decidable (NameR s) := by unfold NameR; infer_instance
def nameB (s : ByteArray) : Bool := decide (NameR s)
theorem nameB_yes {s : ByteArray} (h : NameR s) : nameB s = true := decide_eq_true h
theorem nameB_no {s : ByteArray} (h : ¬ NameR s) : nameB s = false := decide_eq_false h

def RecOk (r : RecR) : Prop := (1 ≤ r.f0 ∧ r.f0 ≤ 12) ∧ (1 ≤ r.f1 ∧ r.f1 ≤ 16777215) ∧ r.f2.size = 4
instance (r : RecR) : Decidable (RecOk r) := by unfold RecOk; infer_instance
def recWordB (r : RecR) : ByteArray := if RecOk r then numTextB r.f0 1 ++ numTextB r.f1 3 ++ r.f2 else ⟨#[]⟩
theorem recWordB_yes {r : RecR} (h : RecOk r) : recWordB r = numTextB r.f0 1 ++ numTextB r.f1 3 ++ r.f2 := if_pos h
theorem recWordB_no {r : RecR} (h : ¬ RecOk r) : recWordB r = ⟨#[]⟩ := if_neg h
def recOf (s : ByteArray) : RecR := ⟨numAtV s 0 1, numAtV s 1 3, s.extract 4 8⟩
def recReadB (s : ByteArray) : Bool := decide (s.size = 8 ∧ RecOk (recOf s))
def recReadR (s : ByteArray) : RecR := if s.size = 8 ∧ RecOk (recOf s) then recOf s else ⟨0, 0, ⟨#[]⟩⟩

def EntryOk (e : EntryR) : Prop := (1 ≤ e.f0 ∧ e.f0 ≤ 5) ∧ NameR e.f1
instance (e : EntryR) : Decidable (EntryOk e) := by unfold EntryOk; infer_instance
def entryWordB (e : EntryR) : ByteArray := if EntryOk e then wordB (numTextB e.f0 1 ++ e.f1) else ⟨#[]⟩
theorem entryWordB_yes {e : EntryR} (h : EntryOk e) : entryWordB e = wordB (numTextB e.f0 1 ++ e.f1) := if_pos h
theorem entryWordB_no {e : EntryR} (h : ¬ EntryOk e) : entryWordB e = ⟨#[]⟩ := if_neg h
def pagesZ (n : Int) : Int := if n ≤ 0 then 0 else (n - 1) / 32 + 1

theorem numText_size {n : Int} {k : Nat} (hk : 1 ≤ k ∧ k ≤ 7) (h0 : 0 ≤ n) (h1 : n < 256 ^ k) : (numTextB n k).size = k := by
  have e : numTextB n k = numB n.toNat k := by
    unfold numTextB
    rw [if_pos ⟨h0, by omega, by simpa using h1⟩]
    simp
  rw [e]
  show (numL n.toNat k k).toArray.size = k
  simp [numL_length]
theorem recWord_size {r : RecR} (h : RecOk r) : (recWordB r).size = 8 := by
  obtain ⟨⟨h0, h1⟩, ⟨h2, h3⟩, h4⟩ := h
  rw [recWordB_yes ⟨⟨h0, h1⟩, ⟨h2, h3⟩, h4⟩]
  have e1 : (numTextB r.f0 1).size = 1 := numText_size (k := 1) (by omega) (by omega) (by omega)
  have e2 : (numTextB r.f1 3).size = 3 := numText_size (k := 3) (by omega) (by omega) (by omega)
  rw [ByteArray.size_append, ByteArray.size_append, h4, e1, e2]
theorem recWord_empty {r : RecR} : recWordB r = ⟨#[]⟩ ↔ ¬ RecOk r := by
  refine ⟨fun h hr => ?_, recWordB_no⟩
  have := recWord_size hr
  rw [h] at this
  exact absurd this (by decide)
theorem cut_extract (s : ByteArray) (a k : Nat) : (s.extract a (a + k)).data.toList = cutL s a k := by
  unfold cutL
  simp [List.take_drop]
theorem rec_back {s : ByteArray} (h8 : s.size = 8) (h : RecOk (recOf s)) : recWordB (recOf s) = s := by
  rw [recWordB_yes h]
  have e1 := numText_back s 0 1 (by omega) (by omega)
  have e2 := numText_back s 1 3 (by omega) (by omega)
  have e3 : (s.extract 4 8).data.toList = cutL s 4 4 := cut_extract s 4 4
  have hl : s.data.toList.length = 8 := by simpa using h8
  cases s with
  | mk d =>
    apply ByteArray.ext
    apply Array.toList_inj.1
    simp only [ByteArray.data_append, Array.toList_append, recOf]
    rw [show ((0 : Int)) = ((0 : Nat) : Int) from rfl, show ((1 : Int)) = ((1 : Nat) : Int) from rfl, show ((3 : Int)) = ((3 : Nat) : Int) from rfl, e1, e2, e3]
    unfold cutL
    simp only at hl ⊢
    match d.toList, hl with
    | [b0, b1, b2, b3, b4, b5, b6, b7], _ => rfl
end Go.Proofs.YtmkchilhnmkhkaaDoor
namespace Go.Proofs.YtmkchilhnmkhkaaDoor
open Go.RowKit

/-- Block b holds just these cells. -/
def Bk (w : World) (b : Nat) (cs : Array Value) (t : TypeId) : Prop := w.heap[b]? = some (.cells cs t (0, 0))
section
variable {w w' : World} {b : Nat} {cs : Array Value} {t : TypeId}
theorem Bk.lt (h : Bk w b cs t) : b < w.heap.size := (Array.getElem?_eq_some_iff.1 h).1
theorem Bk.later (h : Bk w b cs t) (hb : Below w.heap.size w w') : Bk w' b cs t := (hb.block b h.lt).trans h
theorem Bk.drew (h : Bk w b cs t) : Bk w.drew b cs t := h
theorem Bk.alloc (w : World) (cs : Array Value) (t : TypeId) : Bk (w.alloc (.cells cs t)) w.heap.size cs t := heap_alloc_new w _
theorem Bk.cell (h : Bk w b cs t) {j : Nat} {v : Value} (hv : cs[j]? = some v) : w.cell? ⟨b, j, none⟩ = some v := by unfold Bk at h; simp [World.cell?, h, hv]
theorem Bk.fr (h : Bk w b cs t) {o : Nat} : w.frozen? ⟨b, o, none⟩ = false := by unfold Bk at h; simp [World.frozen?, h]
theorem Bk.set (h : Bk w b cs t) (j : Nat) (v : Value) : Bk (w.setCell ⟨b, j, none⟩ v) b (cs.setIfInBounds j v) t := heap_setCell_same w b j cs t v h
theorem Bk.other (h : Bk w b cs t) {c o : Nat} (hne : b ≠ c) (v : Value) : Bk (w.setCell ⟨c, o, none⟩ v) b cs t := (Below.heap_setCell _ _ _ _ hne).trans h
theorem Bk.grown {r : Option Nat} (h : Bk w b cs t) (hg : w.grownBy w' r) (hne : r ≠ some b) : Bk w' b cs t := (hg.block b h.lt (fun e => hne e.symm)).trans h
end
theorem below_bk (w : World) (o : Obj) : Below w.heap.size w (w.alloc o) := (Below.refl _ _).alloc (Nat.le_refl _) _
end Go.Proofs.YtmkchilhnmkhkaaDoor
namespace Go.Proofs.YtmkchilhnmkhkaaDoor
open Go.RowKit Go.Proofs.YtmkchilhnmkhkaaDoor.Hexa Go.Proofs.YtmkchilhnmkhkaaDoor.Byt Go.Proofs.YtmkchilhnmkhkaaDoor.BitsM

set_option maxRecDepth 100000 in
set_option maxHeartbeats 400000 in
theorem range_any (n a b : Int) (w : World) : Calls Tryd.prog 56 #[.int .i64 n, .int .i64 a, .int .i64 b] w fun e w' => e = .returned (.bool (decide (a ≤ n ∧ n ≤ b))) ∧ w' = w := by
  by_cases h1 : a ≤ n <;> by_cases h2 : n ≤ b
  all_goals
    go_enter Tryd.func56, Tryd.ntmps56
    go_wp2
    all_goals go_ret
    all_goals exact ⟨by simp [h1, h2], rfl⟩
theorem range_yes {n a b : Int} (w : World) (h : a ≤ n ∧ n ≤ b) : Calls Tryd.prog 56 #[.int .i64 n, .int .i64 a, .int .i64 b] w fun e w' => e = .returned (.bool true) ∧ w' = w :=
  (range_any n a b w).mono fun _ _ ⟨he, hw⟩ => ⟨by rw [he, decide_eq_true h], hw⟩
theorem range_no {n a b : Int} (w : World) (h : ¬ (a ≤ n ∧ n ≤ b)) : Calls Tryd.prog 56 #[.int .i64 n, .int .i64 a, .int .i64 b] w fun e w' => e = .returned (.bool false) ∧ w' = w :=
  (range_any n a b w).mono fun _ _ ⟨he, hw⟩ => ⟨by rw [he, decide_eq_false h], hw⟩
end Go.Proofs.YtmkchilhnmkhkaaDoor
namespace Go.Proofs.YtmkchilhnmkhkaaDoor
open Go.RowKit Go.Proofs.YtmkchilhnmkhkaaDoor.Hexa Go.Proofs.YtmkchilhnmkhkaaDoor.Byt Go.Proofs.YtmkchilhnmkhkaaDoor.BitsM

set_option maxRecDepth 100000 in
set_option maxHeartbeats 1000000 in
theorem long_any (n : Nat) (x : UInt8) (w : World) (hn : n ≤ 8000000) :
    Calls Tryd.prog 131 #[.int .i64 n, .int .u8 x.toNat] w fun e w' => e = .returned (.string (longB n x)) ∧ Below w.heap.size w w' := by
  obtain ⟨i0, hi, hz0, hz1, hz2⟩ := info_parts infoByte
  obtain ⟨xv, hxv⟩ : ∃ xv : Int, (x.toNat : Int) = xv := ⟨_, rfl⟩
  rw [hxv]
  have HXV := Lib.hid hxv
  clear hxv
  go_enter Tryd.func131, Tryd.ntmps131
  go_wp2_with (at_make; refine wpList_make_full _ rfl _ _ 22 rfl w.heap.size 5 i0 (.int .u8 0) 1 Tryd.underlying22 hi hz0 hz1 .i64 .i64 _ _ n rfl rfl rfl rfl (by rw [hz2]; omega) (by unfold maxLen; omega) (Nat.le_refl _) ?_; intro w0 hown0 hgrow0)
  have hg0 : Below w.heap.size w w0 := (Below.refl _ _).grown hgrow0 (Nat.le_refl _) (fun k h => by cases h)
  have HO0 := Lib.hid hown0
  clear hown0 hgrow0
  go_loopw [6] (fun iv wr => ∃ (k : Nat) (xs : List Value), k ≤ n ∧ iv = .int .i64 k ∧ Hid (wr.ownsRow w.heap.size 5 1 (.slice (some ⟨w.heap.size, 0, none⟩) n n) n xs) ∧ Hid (∀ j, j < k → xs[j]? = some (.int .u8 xv)) ∧ Below w.heap.size w wr)
    (fun iv _ => n - (intOf iv).toNat)
  case atStart => exact ⟨0, _, Nat.zero_le _, rfl, HO0, Lib.hid (fun j hj => by omega), hg0⟩
  case round =>
    clear HO0 hg0
    obtain ⟨k, xs, hk, rfl, HW, HX, hbel⟩ := hrel
    have hxl : Hid (xs.length = n) := Lib.hid (own_length HW.out)
    by_cases hlt : k < n
    · have c3 : ∃ v, wr.cell? ⟨w.heap.size, k, none⟩ = some v := ⟨xs[k]'(by have := hxl.out; omega), by rw [HW.out.cellAt k (by omega)]; simp [hxl.out, hlt]⟩
      obtain ⟨v3, c3⟩ := c3
      have z3 := HW.out.frozenAt k
      have O1 := Lib.hid (HW.out.stored k (.int .u8 xv)).1
      have hb1 : Below w.heap.size w (wr.setCell ⟨w.heap.size, k, none⟩ (.int .u8 xv)) := hbel.setCell (Nat.le_refl _) _
      have X1 : Hid (∀ j, j < k + 1 → (xs.set k (.int .u8 xv))[j]? = some (.int .u8 xv)) := Lib.hid (fun j hj => by
        by_cases e : j = k
        · subst e; rw [List.getElem?_set_self (by have := hxl.out; omega)]
        · rw [List.getElem?_set_ne (by omega)]; exact HX.out j (by omega))
      go_wp2
      go_roundw
      case rel => exact ⟨k + 1, _, by omega, by go_num, O1, X1, hb1⟩
      case measure => (simp [intOf]; try omega)
    · obtain rfl : k = n := by omega
      have hfin : xs = bcells (List.replicate k x) := by
        apply List.ext_getElem?
        intro j
        by_cases hj : j < k
        · rw [HX.out j hj, ← HXV.out]; simp [bcells, hj]
        · rw [List.getElem?_eq_none (by have := hxl.out; omega), List.getElem?_eq_none (by rw [bcells_length]; simp; omega)]
      have ho := HW.out
      rw [hfin] at ho
      have hconv := own_string (P := Tryd.prog) 22 9 Tryd.underlying22 Tryd.underlying5 Tryd.underlying9 ho
      clear hfin ho
      go_wp2
      go_ret
      exact ⟨rfl, hbel⟩

end Go.Proofs.YtmkchilhnmkhkaaDoor
namespace Go.Proofs.YtmkchilhnmkhkaaDoor
open Go.RowKit Go.Proofs.YtmkchilhnmkhkaaDoor.Hexa Go.Proofs.YtmkchilhnmkhkaaDoor.Byt Go.Proofs.YtmkchilhnmkhkaaDoor.BitsM Go.Proofs.YtmkchilhnmkhkaaDoor.Parts

set_option maxRecDepth 100000 in
set_option maxHeartbeats 400000 in
theorem specZero_any (n : Int) (w : World) :
    Calls Tryd.prog 74 #[.int .i64 n] w fun e w' => e = .returned (.string (zeroB n)) ∧ Below w.heap.size w w' := by
  by_cases h : 0 ≤ n ∧ n ≤ 20000
  · have HE : Hid (zeroB n = longB n.toNat 0) := Lib.hid (if_pos h)
    have HR := Lib.hid h
    obtain ⟨k, rfl⟩ : ∃ k : Nat, n = k := ⟨n.toNat, by omega⟩
    have KL := Lib.hid fun w => long_any k 0 w (by omega)
    clear h
    go_enter Tryd.func74, Tryd.ntmps74
    go_wp2_with (first
      | (go_at_call 56; refine (range_yes _ HR.out).mono ?_; rintro e w1 ⟨rfl, rfl⟩)
      | (go_at_call 131; refine (KL.out _).mono ?_; rintro e w2 ⟨rfl, hb2⟩))
    go_ret
    exact ⟨by rw [HE.out]; rfl, hb2⟩
  · have HE : Hid (zeroB n = ⟨#[]⟩) := Lib.hid (if_neg h)
    have HR := Lib.hid h
    clear h
    go_enter Tryd.func74, Tryd.ntmps74
    go_wp2_with (first
      | (go_at_call 56; refine (range_no _ HR.out).mono ?_; rintro e w1 ⟨rfl, rfl⟩))
    go_ret
    exact ⟨by rw [HE.out]; rfl, Below.refl _ _⟩

end Go.Proofs.YtmkchilhnmkhkaaDoor
namespace Go.Proofs.YtmkchilhnmkhkaaDoor
open Go.RowKit Go.Proofs.YtmkchilhnmkhkaaDoor.Hexa Go.Proofs.YtmkchilhnmkhkaaDoor.Byt Go.Proofs.YtmkchilhnmkhkaaDoor.BitsM Go.Proofs.YtmkchilhnmkhkaaDoor.Parts

set_option maxRecDepth 100000 in
set_option maxHeartbeats 1000000 in
theorem specNum_yes (m k : Nat) (w : World) (hk : 1 ≤ k) (hk' : k ≤ 7) (hm : m < 256 ^ k) :
    Calls Tryd.prog 118 #[.int .i64 m, .int .i64 k] w fun e w' => e = .returned (.string (numB m k)) ∧ Below w.heap.size w w' := by
  have hmb : m < 72057594037927936 := Nat.lt_of_lt_of_le hm (Nat.le_trans (Nat.pow_le_pow_right (by omega) hk') (by decide))
  have hq := shift_zero hm
  have h0 : ¬ ((m : Int) < 0) := by omega
  have HR : Hid ((1 : Int) ≤ (k : Int) ∧ (k : Int) ≤ 7) := Lib.hid (by omega)
  clear hm
  go_enter Tryd.func118, Tryd.ntmps118
  go_wp2_with (first
    | (go_at_call 56; refine (range_yes _ HR.out).mono ?_; rintro e w1 ⟨rfl, rfl⟩))
  try rw [hq]
  clear hq
  go_loopw [5, 6] (fun v iv wr => ∃ j : Nat, j ≤ k ∧ iv = .int .i64 ((k : Int) - 1 - j) ∧ Bytes wr w1.heap.size 5 v (numL m k j) ∧ Below w1.heap.size w1 wr)
    (fun _ iv _ => (intOf iv + 1).toNat)
  case atStart => exact ⟨0, Nat.zero_le _, by go_num, bytes_of_own (l := []) (World.ownsRow_lit w1 #[] 0 (Nat.le_refl _) (by decide) rfl), (Below.refl _ _).alloc (Nat.le_refl _) _⟩
  case round =>
    obtain ⟨j, hj, rfl, hb, hg⟩ := hrel
    obtain ⟨a, c, rfl⟩ := bytes_len hb
    have hl := numL_length m k j
    by_cases hlt : j < k
    · have hw : IntKind.u64.wrap ((k : Int) - 1 - j) = (k : Int) - 1 - j := IntWalk.u64_in _ (by omega)
      have hsh : ((k : Int) - 1 - j).toNat = k - 1 - j := by omega
      have hge : 0 ≤ (k : Int) - 1 - j := by omega
      go_wp2_with (first
        | (at_builtin; refine wpList_append_out rfl (.tmp 29) (.tmp 36) 22 22 rfl _ _ rfl rfl (outB _ hb hg.size _ (UInt8.ofNat (m / 256 ^ (k - 1 - j))) _ (num_byte m (k - 1 - j)) (by omega)) ?_; intro v1 w2 hb1 hg1))
      rw [numL_next] at hb1
      go_roundw
      case rel => exact ⟨j + 1, by omega, by go_num, hb1, (hg.alloc hg.size _).trans hg1⟩
      case measure => simp [intOf]; omega
    · obtain rfl : j = k := by omega
      have hconv := bytes_string (P := Tryd.prog) 22 9 Tryd.underlying22 Tryd.underlying5 Tryd.underlying9 hb
      rw [hl] at hconv
      go_wp2
      go_ret
      exact ⟨rfl, hg⟩

set_option maxRecDepth 100000 in
set_option maxHeartbeats 1000000 in
theorem specNum_no (n width : Int) (w : World) (h : ¬ NumFits n width) (hn : n ≤ 9223372036854775807) :
    Calls Tryd.prog 118 #[.int .i64 n, .int .i64 width] w fun e w' => e = .returned (.string ⟨#[]⟩) ∧ w' = w := by
  by_cases h0 : n < 0
  · go_enter Tryd.func118, Tryd.ntmps118
    go_wp2
    go_ret
    exact ⟨rfl, rfl⟩
  · by_cases hr : 1 ≤ width ∧ width ≤ 7
    · have hbig : ¬ n < 256 ^ width.toNat := fun hlt => h ⟨by omega, hr, hlt⟩
      obtain ⟨k, rfl⟩ : ∃ k : Nat, width = k := ⟨width.toNat, by omega⟩
      obtain ⟨m, rfl⟩ : ∃ m : Nat, n = m := ⟨n.toNat, by omega⟩
      have hm : 256 ^ k ≤ m := by
        have e : ((k : Int).toNat) = k := by omega
        rw [e] at hbig
        have e2 : (256 : Int) ^ k = ((256 ^ k : Nat) : Int) := by simp
        rw [e2] at hbig
        omega
      have hq := shift_pos hm
      have HR := Lib.hid hr
      have hk7 : k ≤ 7 := by omega
      clear h hbig hm hr
      go_enter Tryd.func118, Tryd.ntmps118
      go_wp2_with (first
        | (go_at_call 56; refine (range_yes _ HR.out).mono ?_; rintro e w1 ⟨rfl, rfl⟩))
      go_ret
      exact ⟨rfl, rfl⟩
    · have HR := Lib.hid hr
      clear h hr
      go_enter Tryd.func118, Tryd.ntmps118
      go_wp2_with (first
        | (go_at_call 56; refine (range_no _ HR.out).mono ?_; rintro e w1 ⟨rfl, rfl⟩))
      go_ret
      exact ⟨rfl, rfl⟩

theorem specNum_any (n width : Int) (w : World) (hn : n ≤ 9223372036854775807) :
    Calls Tryd.prog 118 #[.int .i64 n, .int .i64 width] w fun e w' => e = .returned (.string (numTextB n width)) ∧ Below w.heap.size w w' := by
  by_cases h : NumFits n width
  · have hE : numTextB n width = numB n.toNat width.toNat := by unfold numTextB; exact if_pos h
    obtain ⟨h0, ⟨h1, h7⟩, hf⟩ := h
    obtain ⟨m, rfl⟩ : ∃ m : Nat, n = m := ⟨n.toNat, by omega⟩
    obtain ⟨k, rfl⟩ : ∃ k : Nat, width = k := ⟨width.toNat, by omega⟩
    rw [hE]
    simp only [Int.toNat_natCast] at hf ⊢
    have e2 : (256 : Int) ^ k = ((256 ^ k : Nat) : Int) := by simp
    rw [e2] at hf
    exact specNum_yes m k w (by omega) (by omega) (by omega)
  · have hE : numTextB n width = ⟨#[]⟩ := by unfold numTextB; exact if_neg h
    rw [hE]
    exact (specNum_no n width w h hn).mono fun e w' ⟨he, hw⟩ => ⟨he, by rw [hw]; exact Below.refl _ _⟩
end Go.Proofs.YtmkchilhnmkhkaaDoor
namespace Go.Proofs.YtmkchilhnmkhkaaDoor
open Go.RowKit Go.Proofs.YtmkchilhnmkhkaaDoor.Hexa Go.Proofs.YtmkchilhnmkhkaaDoor.Byt Go.Proofs.YtmkchilhnmkhkaaDoor.BitsM Go.Proofs.YtmkchilhnmkhkaaDoor.Parts

set_option maxRecDepth 100000 in
set_option maxHeartbeats 400000 in
theorem specWord_any (s : ByteArray) (w : World) :
    Calls Tryd.prog 117 #[.string s] w fun e w' => e = .returned (.string (wordB s)) ∧ Below w.heap.size w w' := by
  by_cases h : s.size ≤ 8
  · have HE : Hid (wordB s = s ++ longB (8 - s.size) 0) := Lib.hid (if_pos h)
    have hsz : s.size + (longB (8 - s.size) 0).size ≤ 8 := by rw [longB_size]; omega
    have hz := zeroB_of s h
    go_enter Tryd.func117, Tryd.ntmps117
    go_wp2_with (first
      | (go_at_call 74; refine (specZero_any _ _).mono ?_; rintro e w2 ⟨rfl, hb2⟩; rw [hz]))
    go_ret
    exact ⟨by rw [HE.out]; rfl, hb2⟩
  · have HE : Hid (wordB s = ⟨#[]⟩) := Lib.hid (if_neg h)
    have hlt : 8 < s.size := by omega
    go_enter Tryd.func117, Tryd.ntmps117
    go_wp2
    go_ret
    exact ⟨by rw [HE.out]; rfl, Below.refl _ _⟩

end Go.Proofs.YtmkchilhnmkhkaaDoor
namespace Go.Proofs.YtmkchilhnmkhkaaDoor
open Go.RowKit Go.Proofs.YtmkchilhnmkhkaaDoor.Parts Go.Proofs.YtmkchilhnmkhkaaDoor.Hexa Go.Proofs.YtmkchilhnmkhkaaDoor.Byt

theorem name_all {s : ByteArray} (hl : 1 ≤ s.size ∧ s.size ≤ 7) (h : ∀ j (hj : j < s.size), NameC s[j]) : NameR s := by
  refine ⟨hl, fun b hb => ?_⟩
  obtain ⟨j, hj, rfl⟩ := List.getElem_of_mem hb
  exact h j (by simpa using hj)
theorem name_at {s : ByteArray} (h : NameR s) (j : Nat) (hj : j < s.size) : NameC s[j] := by
  refine h.2 _ ?_
  have hj' : j < s.data.toList.length := by simpa using hj
  exact List.getElem_mem hj'

set_option maxRecDepth 100000 in
set_option maxHeartbeats 1000000 in
theorem specName_any (s : ByteArray) (w : World) (hs : s.size ≤ 2000000) :
    Calls Tryd.prog 116 #[.string s] w fun e w' => e = .returned (.bool (nameB s)) ∧ w' = w := by
  go_enter Tryd.func116, Tryd.ntmps116
  go_wp2
  go_loop [3] (fun i => ∃ k : Nat, k ≤ s.size ∧ i = .int .i64 k ∧ Hid (∀ j (hj : j < s.size), j < k → NameC s[j])) (fun i => s.size - (intOf i).toNat)
  case atStart => exact ⟨0, Nat.zero_le _, rfl, Lib.hid (fun j hj h => by omega)⟩
  case round =>
    obtain ⟨k, hk, rfl, HA⟩ := hrel
    by_cases hlt : k < s.size
    · obtain ⟨b, hb⟩ : ∃ b, s[k]'hlt = b := ⟨_, rfl⟩
      have hb255 := b.toNat_lt
      have HB := Lib.hid hb
      by_cases h1 : 97 ≤ (b.toNat : Int) ∧ (b.toNat : Int) ≤ 122
      · have HR := Lib.hid h1
        have HA2 : Hid (∀ j (hj : j < s.size), j < k + 1 → NameC s[j]) := Lib.hid (fun j hj h => by
          by_cases e : j = k
          · subst e; rw [HB.out]; exact .inl (by omega)
          · exact HA.out j hj (by omega))
        clear h1
        go_wp2_with ((with_reducible refine (range_yes _ HR.out).mono ?_); rintro e w1 ⟨rfl, rfl⟩)
        go_round
        case rel => exact ⟨k + 1, by omega, by go_num, HA2⟩
        case measure => (simp [intOf]; try omega)
      · by_cases h2 : 48 ≤ (b.toNat : Int) ∧ (b.toNat : Int) ≤ 57
        · have HR := Lib.hid h1
          have HR2 := Lib.hid h2
          have HA2 : Hid (∀ j (hj : j < s.size), j < k + 1 → NameC s[j]) := Lib.hid (fun j hj h => by
            by_cases e : j = k
            · subst e; rw [HB.out]; exact .inr (by omega)
            · exact HA.out j hj (by omega))
          clear h1 h2
          go_wp2_with (first | ((with_reducible refine (range_no _ HR.out).mono ?_); rintro e w1 ⟨rfl, rfl⟩) | ((with_reducible refine (range_yes _ HR2.out).mono ?_); rintro e w1 ⟨rfl, rfl⟩))
          go_round
          case rel => exact ⟨k + 1, by omega, by go_num, HA2⟩
          case measure => (simp [intOf]; try omega)
        · have HR := Lib.hid h1
          have HR2 := Lib.hid h2
          have HN : Hid (nameB s = false) := Lib.hid (nameB_no (fun h => by
            have h3 := name_at h k hlt
            rw [hb] at h3
            rcases h3 with h4 | h4
            · exact h1 (by omega)
            · exact h2 (by omega)))
          clear h1 h2
          go_wp2_with (first | ((with_reducible refine (range_no _ HR.out).mono ?_); rintro e w1 ⟨rfl, rfl⟩) | ((with_reducible refine (range_no _ HR2.out).mono ?_); rintro e w1 ⟨rfl, rfl⟩))
          go_ret
          exact ⟨by rw [HN.out]; rfl, rfl⟩
    · obtain rfl : k = s.size := by omega
      go_wp2_with fail
      refine (range_any _ _ _ _).mono ?_
      rintro e w1 ⟨rfl, rfl⟩
      have HN : Hid (decide ((1 : Int) ≤ (s.size : Int) ∧ (s.size : Int) ≤ 7) = nameB s) := Lib.hid (by
        by_cases hl : 1 ≤ s.size ∧ s.size ≤ 7
        · rw [nameB_yes (name_all hl (fun j hj => HA.out j hj hj))]; exact decide_eq_true (by omega)
        · rw [nameB_no (fun h => hl h.1)]; exact decide_eq_false (by omega))
      rw [HN.out]
      go_wp2
      go_ret
      exact ⟨rfl, rfl⟩

theorem specPages_any (n : Int) (w : World) (h0 : -9223372036854775808 ≤ n) (h1 : n ≤ 9223372036854775807) : Calls Tryd.prog 94 #[.int .i64 n] w fun e w' => e = .returned (.int .i64 (pagesZ n)) ∧ w' = w := by
  by_cases h : n ≤ 0
  · have HE : Hid (pagesZ n = 0) := Lib.hid (if_pos h)
    go_enter Tryd.func94, Tryd.ntmps94
    go_wp2
    go_ret
    exact ⟨by rw [HE.out]; rfl, rfl⟩
  · have HE : Hid (pagesZ n = (n - 1) / 32 + 1) := Lib.hid (if_neg h)
    have hp : 1 ≤ n := by omega
    have hd : (n - 1) / 32 ≤ 288230376151711743 := by omega
    have hd0 : 0 ≤ (n - 1) / 32 := by omega
    go_enter Tryd.func94, Tryd.ntmps94
    go_wp2
    go_ret
    exact ⟨by rw [HE.out]; rfl, rfl⟩

def SaysT (s : ByteArray) (w : World) (e : Ending) (w' : World) : Prop := e = .returned (.string s) ∧ Below w.heap.size w w'
set_option maxRecDepth 100000 in
set_option maxHeartbeats 1000000 in
theorem specRecWord_no (p q : Int) (m : ByteArray) (w : World) (_hm : m.size ≤ 2000000) (h : ¬ RecOk ⟨p, q, m⟩) :
    Calls Tryd.prog 95 #[.agg #[.int .i64 p, .int .i64 q, .string m]] w (SaysT ⟨#[]⟩ w) := by
  by_cases h0 : 1 ≤ p ∧ p ≤ 12
  · have H0 := Lib.hid h0
    by_cases h1 : 1 ≤ q ∧ q ≤ 16777215
    · have H1 := Lib.hid h1
      have h2 : ¬ m.size = 4 := fun e => h ⟨h0, h1, e⟩
      have e8 : ((m.size : Int) == 4) = false := by simp; omega
      have e9 : ((m.size : Int) != 4) = true := by simp; omega
      clear h0 h1 h
      go_enter Tryd.func95, Tryd.ntmps95
      go_wp2_with (first | ((with_reducible refine (range_yes _ H0.out).mono ?_); rintro e w1 ⟨rfl, rfl⟩) | ((with_reducible refine (range_yes _ H1.out).mono ?_); rintro e w1 ⟨rfl, rfl⟩))
      go_ret
      exact ⟨rfl, below_bk w _⟩
    · have H1 := Lib.hid h1
      clear h0 h1 h
      go_enter Tryd.func95, Tryd.ntmps95
      go_wp2_with (first | ((with_reducible refine (range_yes _ H0.out).mono ?_); rintro e w1 ⟨rfl, rfl⟩) | ((with_reducible refine (range_no _ H1.out).mono ?_); rintro e w1 ⟨rfl, rfl⟩))
      go_ret
      exact ⟨rfl, below_bk w _⟩
  · have H0 := Lib.hid h0
    clear h0 h
    go_enter Tryd.func95, Tryd.ntmps95
    go_wp2_with ((with_reducible refine (range_no _ H0.out).mono ?_); rintro e w1 ⟨rfl, rfl⟩)
    go_ret
    exact ⟨rfl, below_bk w _⟩

set_option maxRecDepth 100000 in
set_option maxHeartbeats 1000000 in
theorem specRecWord_yes (p q : Int) (m : ByteArray) (w : World) (h : RecOk ⟨p, q, m⟩) :
    Calls Tryd.prog 95 #[.agg #[.int .i64 p, .int .i64 q, .string m]] w (SaysT (recWordB ⟨p, q, m⟩) w) := by
  have HE := Lib.hid (recWordB_yes h)
  obtain ⟨h0, h1, h2⟩ := h
  have H0 : Hid (1 ≤ p ∧ p ≤ 12) := Lib.hid h0
  have H1 : Hid (1 ≤ q ∧ q ≤ 16777215) := Lib.hid h1
  have hm4 : m.size = 4 := h2
  have e8 : ((m.size : Int) == 4) = true := by simp; omega
  have e9 : ((m.size : Int) != 4) = false := by simp; omega
  have T0 := Lib.hid (Bk.alloc w #[.int .i64 p, .int .i64 q, .string m] 66)
  have B0 := Lib.hid (below_bk w (.cells #[.int .i64 p, .int .i64 q, .string m] 66))
  have hA : (numTextB p 1).size = 1 := numText_size (k := 1) (by omega) (by have := H0.out.1; omega) (by have := H0.out.2; omega)
  have hB : (numTextB q 3).size = 3 := numText_size (k := 3) (by omega) (by have := H1.out.1; omega) (by have := H1.out.2; omega)
  obtain ⟨A, hAe⟩ : ∃ A, numTextB p 1 = A := ⟨_, rfl⟩
  obtain ⟨D, hDe⟩ : ∃ D, numTextB q 3 = D := ⟨_, rfl⟩
  have HA := Lib.hid hAe
  have HD := Lib.hid hDe
  rw [hAe] at hA
  rw [hDe] at hB
  have hA1 : A.size ≤ 1 := by omega
  have hB1 : D.size ≤ 3 := by omega
  have hAD : ¬ (9223372036854775807 < A.size + D.size) := by omega
  have hADm : ¬ (9223372036854775807 < A.size + D.size + 4) := by omega
  clear h0 h1 h2 hAe hDe hA hB
  go_enter Tryd.func95, Tryd.ntmps95
  go_wp2_with (first | ((with_reducible refine (range_yes _ H0.out).mono ?_); rintro e w1 ⟨rfl, rfl⟩) | ((with_reducible refine (range_yes _ H1.out).mono ?_); rintro e w1 ⟨rfl, rfl⟩))
  have T0d := Lib.hid T0.out.drew
  have B0d : Hid (Below w.heap.size w (w.alloc (.cells #[.int .i64 p, .int .i64 q, .string m] 66)).drew) := Lib.hid B0.out.drew
  go_region_held3 (fun w' => w'.cell? ⟨w.heap.size, 0, none⟩ = some (.int .i64 p) ∧ w'.cell? ⟨w.heap.size, 1, none⟩ = some (.int .i64 q) ∧ w'.cell? ⟨w.heap.size, 2, none⟩ = some (.string m))
    (first
      | exact ⟨T0d.out.cell rfl, T0d.out.cell rfl, T0d.out.cell rfl⟩
      | exact ⟨T1.out.cell rfl, T1.out.cell rfl, T1.out.cell rfl⟩
      | exact ⟨T2.out.cell rfl, T2.out.cell rfl, T2.out.cell rfl⟩
      | go_keep)
    (first
      | (go_at_call 118; (with_reducible refine (specNum_any p 1 _ (by have := H0.out.2; omega)).mono ?_); rw [HA.out]; rintro e w1 ⟨rfl, hb⟩; have T1 := Lib.hid (T0d.out.later hb); have B1 : Hid (Below w.heap.size w w1) := Lib.hid (B0d.out.trans (hb.mono B0d.out.size)); clear hb)
      | (go_at_call 118; (with_reducible refine (specNum_any q 3 _ (by have := H1.out.2; omega)).mono ?_); rw [HD.out]; rintro e w2 ⟨rfl, hb⟩; have T2 := Lib.hid (T1.out.later hb); have B2 : Hid (Below w.heap.size w w2) := Lib.hid (B1.out.trans (hb.mono B1.out.size)); clear hb))
  go_wp2
  go_ret
  exact ⟨by rw [HE.out, HA.out, HD.out]; rfl, B2.out⟩
theorem specRecWord_any (p q : Int) (m : ByteArray) (w : World) (hm : m.size ≤ 2000000) :
    Calls Tryd.prog 95 #[.agg #[.int .i64 p, .int .i64 q, .string m]] w (SaysT (recWordB ⟨p, q, m⟩) w) := by
  by_cases h : RecOk ⟨p, q, m⟩
  · exact specRecWord_yes p q m w h
  · rw [recWordB_no h]; exact specRecWord_no p q m w hm h
end Go.Proofs.YtmkchilhnmkhkaaDoor
namespace Go.Proofs.YtmkchilhnmkhkaaDoor
open Go.RowKit

theorem text_full (x : ByteArray) (h : 0 < x.size) : (x.toList == []) = false := by
  apply beq_eq_false_iff_ne.2
  intro e
  have h1 : x.toList.length = x.size := by rw [Go.ByteArray.toList_eq]; simp
  rw [e] at h1
  simp at h1
  omega
theorem text_full' (x : ByteArray) (h : 0 < x.size) : ([] == x.toList) = false := by
  have h1 := text_full x h
  apply beq_eq_false_iff_ne.2
  intro e
  rw [← e] at h1
  simp at h1
theorem text_ne {x y : ByteArray} (h : ¬ x = y) : ¬ (x.toList = y.toList) := by
  intro e
  apply h
  rw [Go.ByteArray.toList_eq, Go.ByteArray.toList_eq] at e
  cases x; cases y
  simp at e
  rw [e]
theorem text_neB {x y : ByteArray} (h : ¬ x = y) : (x.toList == y.toList) = false := beq_eq_false_iff_ne.2 (text_ne h)
end Go.Proofs.YtmkchilhnmkhkaaDoor
namespace Go.Proofs.YtmkchilhnmkhkaaDoor
open Go.RowKit Go.Proofs.YtmkchilhnmkhkaaDoor.Parts Go.Proofs.YtmkchilhnmkhkaaDoor.Hexa Go.Proofs.YtmkchilhnmkhkaaDoor.Byt

set_option maxRecDepth 100000 in
set_option maxHeartbeats 1000000 in
theorem specEntryWord_no (p : Int) (m : ByteArray) (w : World) (hm : m.size ≤ 2000000) (h : ¬ EntryOk ⟨p, m⟩) :
    Calls Tryd.prog 69 #[.agg #[.int .i64 p, .string m]] w (SaysT ⟨#[]⟩ w) := by
  by_cases h0 : 1 ≤ p ∧ p ≤ 5
  · have H0 := Lib.hid h0
    have h2 : ¬ NameR m := fun e => h ⟨h0, e⟩
    have HN := Lib.hid (nameB_no h2)
    clear h0 h h2
    go_enter Tryd.func69, Tryd.ntmps69
    go_wp2_with (first | ((with_reducible refine (range_yes _ H0.out).mono ?_); rintro e w1 ⟨rfl, rfl⟩) | (go_at_call 116; refine (specName_any m _ hm).mono ?_; rw [HN.out]; rintro e w1 ⟨rfl, rfl⟩))
    go_ret
    exact ⟨rfl, below_bk w _⟩
  · have H0 := Lib.hid h0
    clear h0 h
    go_enter Tryd.func69, Tryd.ntmps69
    go_wp2_with ((with_reducible refine (range_no _ H0.out).mono ?_); rintro e w1 ⟨rfl, rfl⟩)
    go_ret
    exact ⟨rfl, below_bk w _⟩

set_option maxRecDepth 100000 in
set_option maxHeartbeats 1000000 in
theorem specEntryWord_yes (p : Int) (m : ByteArray) (w : World) (h : EntryOk ⟨p, m⟩) :
    Calls Tryd.prog 69 #[.agg #[.int .i64 p, .string m]] w (SaysT (entryWordB ⟨p, m⟩) w) := by
  have HE := Lib.hid (entryWordB_yes h)
  obtain ⟨h0, h1⟩ := h
  have H0 : Hid (1 ≤ p ∧ p ≤ 5) := Lib.hid h0
  have HN := Lib.hid (nameB_yes h1)
  have hm : m.size ≤ 7 := h1.1.2
  have T0 := Lib.hid (Bk.alloc w #[.int .i64 p, .string m] 47)
  have B0 := Lib.hid (below_bk w (.cells #[.int .i64 p, .string m] 47))
  have hA : (numTextB p 1).size = 1 := numText_size (k := 1) (by omega) (by have := H0.out.1; omega) (by have := H0.out.2; omega)
  obtain ⟨A, hAe⟩ : ∃ A, numTextB p 1 = A := ⟨_, rfl⟩
  have HA := Lib.hid hAe
  rw [hAe] at hA
  have hA1 : ¬ (9223372036854775807 < A.size + m.size) := by omega
  have T0d := Lib.hid T0.out.drew
  have B0d : Hid (Below w.heap.size w (w.alloc (.cells #[.int .i64 p, .string m] 47)).drew) := Lib.hid B0.out.drew
  clear h0 h1 hAe hA
  go_enter Tryd.func69, Tryd.ntmps69
  go_wp2_with (first | ((with_reducible refine (range_yes _ H0.out).mono ?_); rintro e w1 ⟨rfl, rfl⟩) | (go_at_call 116; refine (specName_any m _ (by omega)).mono ?_; rw [HN.out]; rintro e w1 ⟨rfl, rfl⟩))
  go_region_held3 (fun w' => w'.cell? ⟨w.heap.size, 0, none⟩ = some (.int .i64 p) ∧ w'.cell? ⟨w.heap.size, 1, none⟩ = some (.string m))
    (first
      | exact ⟨T0d.out.cell rfl, T0d.out.cell rfl⟩
      | exact ⟨T1.out.cell rfl, T1.out.cell rfl⟩
      | exact ⟨T2.out.cell rfl, T2.out.cell rfl⟩
      | go_keep)
    (first
      | (go_at_call 118; (with_reducible refine (specNum_any p 1 _ (by have := H0.out.2; omega)).mono ?_); rw [HA.out]; rintro e w1 ⟨rfl, hb⟩; have T1 := Lib.hid (T0d.out.later hb); have B1 : Hid (Below w.heap.size w w1) := Lib.hid (B0d.out.trans (hb.mono B0d.out.size)); clear hb)
      | (go_at_call 117; (with_reducible refine (specWord_any (A ++ m) _).mono ?_); rintro e w2 ⟨rfl, hb⟩; have T2 := Lib.hid (T1.out.later hb); have B2 : Hid (Below w.heap.size w w2) := Lib.hid (B1.out.trans (hb.mono B1.out.size)); clear hb))
  go_wp2
  go_ret
  exact ⟨by rw [HE.out, HA.out]; rfl, B2.out⟩
theorem specEntryWord_any (p : Int) (m : ByteArray) (w : World) (hm : m.size ≤ 2000000) :
    Calls Tryd.prog 69 #[.agg #[.int .i64 p, .string m]] w (SaysT (entryWordB ⟨p, m⟩) w) := by
  by_cases h : EntryOk ⟨p, m⟩
  · exact specEntryWord_yes p m w h
  · rw [entryWordB_no h]; exact specEntryWord_no p m w hm h
end Go.Proofs.YtmkchilhnmkhkaaDoor
namespace Go.Proofs.YtmkchilhnmkhkaaDoor
open Go.RowKit
def SaysB (b : Bool) (w : World) (e : Ending) (w' : World) : Prop := e = .returned (.bool b) ∧ Below w.heap.size w w'
end Go.Proofs.YtmkchilhnmkhkaaDoor
namespace Go.Proofs.YtmkchilhnmkhkaaDoor
open Go.RowKit Go.Proofs.YtmkchilhnmkhkaaDoor.Parts Go.Proofs.YtmkchilhnmkhkaaDoor.Hexa Go.Proofs.YtmkchilhnmkhkaaDoor.Byt

structure InoR where
  kd : Int
  sz : Int
  gn : Int
  key : ByteArray
  R : List RecR
  E : List EntryR
def textLt (a b : ByteArray) : Bool := Op.bytesLess a.toList b.toList
def RecsOk (R : List RecR) (m : Nat) : Prop := ∀ j, j < m → RecOk (R.getD j default) ∧ ∀ k, k < j → (R.getD k default).f0 ≠ (R.getD j default).f0
def EntsOk (E : List EntryR) (m : Nat) : Prop := ∀ j, j < m → EntryOk (E.getD j default) ∧ (0 < j → textLt (E.getD (j - 1) default).f1 (E.getD j default).f1 = true)
def FreeOk (n : InoR) : Prop := n.sz = 0 ∧ n.key.size = 0 ∧ n.R.length = 0 ∧ n.E.length = 0
def FileOk (n : InoR) : Prop := (0 ≤ n.sz ∧ n.sz ≤ 128) ∧ n.key.size = 8 ∧ (n.R.length : Int) = pagesZ n.sz ∧ n.E.length = 0 ∧ RecsOk n.R n.R.length
def DirOk (n : InoR) : Prop := n.sz = 0 ∧ n.key.size = 0 ∧ n.R.length = 0 ∧ n.E.length ≤ 6 ∧ EntsOk n.E n.E.length
def InoOk (n : InoR) : Prop := (0 ≤ n.gn ∧ n.gn ≤ 65535) ∧ ((n.kd = 0 ∧ FreeOk n) ∨ (n.kd = 1 ∧ FileOk n) ∨ (n.kd = 2 ∧ DirOk n))
noncomputable def inoB (n : InoR) : Bool := @decide (InoOk n) (Classical.propDecidable _)
theorem inoB_yes {n : InoR} (h : InoOk n) : inoB n = true := by unfold inoB; exact @decide_eq_true _ (Classical.propDecidable _) h
theorem inoB_no {n : InoR} (h : ¬ InoOk n) : inoB n = false := by unfold inoB; exact @decide_eq_false _ (Classical.propDecidable _) h
theorem recsOk_step {R : List RecR} {m : Nat} (h : RecsOk R m) (h1 : RecOk (R.getD m default)) (h2 : ∀ k, k < m → (R.getD k default).f0 ≠ (R.getD m default).f0) : RecsOk R (m + 1) := fun j hj => by
  by_cases e : j = m
  · subst e; exact ⟨h1, h2⟩
  · exact h j (by omega)
theorem entsOk_step {E : List EntryR} {m : Nat} (h : EntsOk E m) (h1 : EntryOk (E.getD m default)) (h2 : 0 < m → textLt (E.getD (m - 1) default).f1 (E.getD m default).f1 = true) : EntsOk E (m + 1) := fun j hj => by
  by_cases e : j = m
  · subst e; exact ⟨h1, h2⟩
  · exact h j (by omega)

/-- The words of an inode. -/
def headB (n : InoR) : ByteArray := wordB (numTextB n.kd 1 ++ numTextB n.sz 2 ++ numTextB n.gn 2)
def zero8 : ByteArray := zeroB 8
def wordsI (n : InoR) : List ByteArray := [headB n, wordB n.key] ++ n.R.map recWordB ++ n.E.map entryWordB
noncomputable def inoWordsB (n : InoR) : List ByteArray := if inoB n = true then wordsI n ++ List.replicate (8 - (wordsI n).length) zero8 else []
theorem wordsI_le {n : InoR} (h : InoOk n) : (wordsI n).length ≤ 8 := by
  unfold wordsI
  simp only [List.length_append, List.length_map, List.length_cons, List.length_nil]
  obtain ⟨_, ⟨_, h0⟩ | ⟨_, h0⟩ | ⟨_, h0⟩⟩ := h
  · obtain ⟨_, _, h1, h2⟩ := h0; omega
  · obtain ⟨h1, _, h2, h3, _⟩ := h0
    have : pagesZ n.sz ≤ 4 := by unfold pagesZ; split <;> omega
    omega
  · obtain ⟨_, _, h1, h2, _⟩ := h0; omega
theorem entryWord_size {r : EntryR} (h : EntryOk r) : (entryWordB r).size = 8 := by
  obtain ⟨⟨h0, h1⟩, h2⟩ := h
  rw [entryWordB_yes ⟨⟨h0, h1⟩, h2⟩]
  have e1 : (numTextB r.f0 1).size = 1 := numText_size (k := 1) (by omega) (by omega) (by omega)
  have e2 : (numTextB r.f0 1 ++ r.f1).size ≤ 8 := by rw [ByteArray.size_append, e1]; have := h2.1.2; omega
  unfold wordB
  rw [if_pos e2, ByteArray.size_append, longB_size]
  omega
end Go.Proofs.YtmkchilhnmkhkaaDoor
namespace Go.Proofs.YtmkchilhnmkhkaaDoor
open Go.RowKit Go.Proofs.YtmkchilhnmkhkaaDoor.Parts Go.Proofs.YtmkchilhnmkhkaaDoor.Hexa Go.Proofs.YtmkchilhnmkhkaaDoor.Byt

abbrev inoCs (kd sz gn : Int) (key : ByteArray) (aR : Option Addr) (nR cR : Nat) (aE : Option Addr) (nE cE : Nat) : Array Value :=
  #[.int .i64 kd, .int .i64 sz, .int .i64 gn, .string key, .slice aR nR cR, .slice aE nE cE]
abbrev inoObj (kd sz gn : Int) (key : ByteArray) (aR : Option Addr) (nR cR : Nat) (aE : Option Addr) (nE cE : Nat) : Obj :=
  .cells #[.int .i64 kd, .int .i64 sz, .int .i64 gn, .string key, .slice aR nR cR, .slice aE nE cE] 54

theorem text_nothing {x : ByteArray} (h : x.size = 0) : x = ⟨#[]⟩ := by
  cases x with
  | mk d => rw [show d = #[] from Array.eq_empty_of_size_eq_zero h]
theorem bool_no {b : Bool} {p : Prop} (hb : b = true ↔ p) (h : ¬ p) : b = false := by
  cases b
  · rfl
  · exact absurd (hb.1 rfl) h

section
variable (kd sz gn : Int) (key : ByteArray) (aR : Option Addr) (nR cR : Nat) (aE : Option Addr) (nE cE : Nat) (w : World)

set_option maxRecDepth 100000 in
set_option maxHeartbeats 1000000 in
theorem specIno_gen (h : ¬ (0 ≤ gn ∧ gn ≤ 65535)) :
    Calls Tryd.prog 44 #[.agg #[.int .i64 kd, .int .i64 sz, .int .i64 gn, .string key, .slice aR nR cR, .slice aE nE cE]] w (SaysB false w) := by
  have H0 := Lib.hid h
  have B0 := Lib.hid (below_bk w (inoObj kd sz gn key aR nR cR aE nE cE))
  clear h
  go_enter Tryd.func44, Tryd.ntmps44
  go_wp2_with ((with_reducible refine (range_no _ H0.out).mono ?_); rintro e w1 ⟨rfl, rfl⟩)
  go_ret
  exact ⟨rfl, B0.out⟩

set_option maxRecDepth 100000 in
set_option maxHeartbeats 1000000 in
theorem specIno_other (h : 0 ≤ gn ∧ gn ≤ 65535) (h0 : ¬ kd = 0) (h1 : ¬ kd = 1) (h2 : ¬ kd = 2) :
    Calls Tryd.prog 44 #[.agg #[.int .i64 kd, .int .i64 sz, .int .i64 gn, .string key, .slice aR nR cR, .slice aE nE cE]] w (SaysB false w) := by
  have H0 := Lib.hid h
  have B0 := Lib.hid (below_bk w (inoObj kd sz gn key aR nR cR aE nE cE))
  clear h
  go_enter Tryd.func44, Tryd.ntmps44
  go_wp2_with ((with_reducible refine (range_yes _ H0.out).mono ?_); rintro e w1 ⟨rfl, rfl⟩)
  go_ret
  exact ⟨rfl, B0.out⟩

set_option maxRecDepth 100000 in
set_option maxHeartbeats 1000000 in
theorem specIno_free (h : 0 ≤ gn ∧ gn ≤ 65535) (b : Bool) (hb : b = true ↔ (sz = 0 ∧ key.size = 0 ∧ nR = 0 ∧ nE = 0)) :
    Calls Tryd.prog 44 #[.agg #[.int .i64 0, .int .i64 sz, .int .i64 gn, .string key, .slice aR nR cR, .slice aE nE cE]] w (SaysB b w) := by
  have H0 := Lib.hid h
  have B0 := Lib.hid (below_bk w (inoObj 0 sz gn key aR nR cR aE nE cE))
  clear h
  by_cases h1 : sz = 0
  · subst h1
    by_cases h2 : key.size = 0
    · obtain rfl : key = ⟨#[]⟩ := text_nothing h2
      by_cases h3 : nR = 0
      · subst h3
        by_cases h4 : nE = 0
        · subst h4
          obtain rfl : b = true := hb.2 ⟨rfl, rfl, rfl, rfl⟩
          clear hb
          go_enter Tryd.func44, Tryd.ntmps44
          go_wp2_with ((with_reducible refine (range_yes _ H0.out).mono ?_); rintro e w1 ⟨rfl, rfl⟩)
          go_ret
          exact ⟨rfl, B0.out⟩
        · obtain rfl : b = false := bool_no hb (fun x => h4 x.2.2.2)
          have e4 : ((nE : Int) == 0) = false := by simp; omega
          clear hb
          go_enter Tryd.func44, Tryd.ntmps44
          go_wp2_with ((with_reducible refine (range_yes _ H0.out).mono ?_); rintro e w1 ⟨rfl, rfl⟩)
          go_ret
          exact ⟨rfl, B0.out⟩
      · obtain rfl : b = false := bool_no hb (fun x => h3 x.2.2.1)
        have e4 : ((nR : Int) == 0) = false := by simp; omega
        clear hb
        go_enter Tryd.func44, Tryd.ntmps44
        go_wp2_with ((with_reducible refine (range_yes _ H0.out).mono ?_); rintro e w1 ⟨rfl, rfl⟩)
        go_ret
        exact ⟨rfl, B0.out⟩
    · obtain rfl : b = false := bool_no hb (fun x => h2 x.2.1)
      have e4 : (key.toList == []) = false := text_full key (by omega)
      clear hb
      go_enter Tryd.func44, Tryd.ntmps44
      go_wp2_with ((with_reducible refine (range_yes _ H0.out).mono ?_); rintro e w1 ⟨rfl, rfl⟩)
      go_ret
      exact ⟨rfl, B0.out⟩
  · obtain rfl : b = false := bool_no hb (fun x => h1 x.1)
    clear hb
    go_enter Tryd.func44, Tryd.ntmps44
    go_wp2_with ((with_reducible refine (range_yes _ H0.out).mono ?_); rintro e w1 ⟨rfl, rfl⟩)
    go_ret
    exact ⟨rfl, B0.out⟩
end
end Go.Proofs.YtmkchilhnmkhkaaDoor
namespace Go.Proofs.YtmkchilhnmkhkaaDoor
open Go.RowKit

theorem below_drewsN {B : Nat} {a w : World} (h : Below B a w) (m : Nat) : Below B a (w.drewN m) := ⟨h.os, h.tape, h.output, h.size, h.block⟩
end Go.Proofs.YtmkchilhnmkhkaaDoor
namespace Go.Proofs.YtmkchilhnmkhkaaDoor
open Go.RowKit Go.Proofs.YtmkchilhnmkhkaaDoor.Parts Go.Proofs.YtmkchilhnmkhkaaDoor.Hexa Go.Proofs.YtmkchilhnmkhkaaDoor.Byt

section
variable (sz gn : Int) (key : ByteArray) (aR : Option Addr) (nR cR : Nat) (aE : Option Addr) (nE cE : Nat) (w : World)

set_option maxRecDepth 100000 in
set_option maxHeartbeats 1000000 in
theorem specIno_fileNo (h : 0 ≤ gn ∧ gn ≤ 65535) (hz : -9223372036854775808 ≤ sz ∧ sz ≤ 9223372036854775807) (hno : ¬ ((0 ≤ sz ∧ sz ≤ 128) ∧ key.size = 8 ∧ (nR : Int) = pagesZ sz ∧ nE = 0)) :
    Calls Tryd.prog 44 #[.agg #[.int .i64 1, .int .i64 sz, .int .i64 gn, .string key, .slice aR nR cR, .slice aE nE cE]] w (SaysB false w) := by
  have H0 := Lib.hid h
  have HZ := Lib.hid hz
  have B0 := Lib.hid (below_bk w (inoObj 1 sz gn key aR nR cR aE nE cE))
  clear h hz
  by_cases h1 : 0 ≤ sz ∧ sz ≤ 128
  · have H1 := Lib.hid h1
    by_cases h2 : key.size = 8
    · have e2 : ((key.size : Int) != 8) = false := by simp; omega
      by_cases h3 : (nR : Int) = pagesZ sz
      · have h4 : ¬ nE = 0 := fun e => hno ⟨h1, h2, h3, e⟩
        have e4 : (0 : Int) < (nE : Int) := by omega
        have HQ : Hid (∀ W : World, Calls Tryd.prog 94 #[.int .i64 sz] W fun e w' => e = .returned (.int .i64 nR) ∧ w' = W) := Lib.hid (fun W => by
          rw [h3]; exact specPages_any sz W HZ.out.1 HZ.out.2)
        clear hno h1 h3
        go_enter Tryd.func44, Tryd.ntmps44
        go_wp2_with ((with_reducible refine (range_yes _ H0.out).mono ?_); rintro e w1 ⟨rfl, rfl⟩)
        go_quiet (first
          | (go_at_call 56; exact Calls.quiet_of_same (range_yes _ H1.out))
          | (go_at_call 94; exact Calls.quiet_of_same (HQ.out _)))
        go_wp2
        go_ret
        exact ⟨rfl, below_drewsN B0.out _⟩
      · obtain ⟨p, hp⟩ : ∃ p, pagesZ sz = p := ⟨_, rfl⟩
        have HQ : Hid (∀ W : World, Calls Tryd.prog 94 #[.int .i64 sz] W fun e w' => e = .returned (.int .i64 p) ∧ w' = W) := Lib.hid (fun W => by
          rw [← hp]; exact specPages_any sz W HZ.out.1 HZ.out.2)
        rw [hp] at h3
        have e3 : ((nR : Int) != p) = true := by simpa using h3
        clear hno h1 h3 hp
        go_enter Tryd.func44, Tryd.ntmps44
        go_wp2_with ((with_reducible refine (range_yes _ H0.out).mono ?_); rintro e w1 ⟨rfl, rfl⟩)
        go_quiet (first
          | (go_at_call 56; exact Calls.quiet_of_same (range_yes _ H1.out))
          | (go_at_call 94; exact Calls.quiet_of_same (HQ.out _)))
        go_wp2
        go_ret
        exact ⟨rfl, below_drewsN B0.out _⟩
    · have e2 : ((key.size : Int) != 8) = true := by have : ¬ ((key.size : Int) = 8) := by omega
                                                     simpa using this
      clear hno h1 h2
      go_enter Tryd.func44, Tryd.ntmps44
      go_wp2_with ((with_reducible refine (range_yes _ H0.out).mono ?_); rintro e w1 ⟨rfl, rfl⟩)
      go_quiet ((go_at_call 56; exact Calls.quiet_of_same (range_yes _ H1.out)))
      go_wp2
      go_ret
      exact ⟨rfl, below_drewsN B0.out _⟩
  · have H1 := Lib.hid h1
    clear hno h1
    go_enter Tryd.func44, Tryd.ntmps44
    go_wp2_with ((with_reducible refine (range_yes _ H0.out).mono ?_); rintro e w1 ⟨rfl, rfl⟩)
    go_quiet ((go_at_call 56; exact Calls.quiet_of_same (range_no _ H1.out)))
    go_wp2
    go_ret
    exact ⟨rfl, below_drewsN B0.out _⟩
end
end Go.Proofs.YtmkchilhnmkhkaaDoor
