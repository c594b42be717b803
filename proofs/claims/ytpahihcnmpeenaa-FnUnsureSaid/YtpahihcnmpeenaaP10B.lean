/- Merged texts: CellB, Bytes, BitsMath, LongMath, RangeSpec, MemOkSpec, MemOkImpl, MarkText. -/
import Derived.Test.YtpahihcnmpeenaaP10A
import Derived.Test.YtpahihcnmpeenaaRows
import Derived.Lib.AppendStr
import Derived.Lib.AppendZerosOnto
import Derived.Laws.CopyRow
import Derived.Below
import Derived.Laws.Bits64b
import Derived.IntWalk
import Derived.WalkKit
import Derived.WalkSpells
import Derived.WalkLawsBesides
import Derived.Deep.RegionLaw
import Derived.Deep.AppendLies
import Derived.Lib.Hide
import Derived.Deep.QuietTactic
import Derived.BigQuiet
import Derived.Deep.RegionHeld3
namespace Go.Proofs.Ytpahihcnmpeenaa
open Go.RowKit Go.Proofs.Ytpahihcnmpeenaa.Parts Go.Proofs.Ytpahihcnmpeenaa.Hexa

/-- What the copy returns. -/
def CopyC (n : Nat) (L : List C3) (w : World) (e : Ending) (w' : World) : Prop :=
  e = .returned (.slice (some ⟨w.heap.size, 0, none⟩) n n) ∧ w'.ownsRow w.heap.size 68 3 (.slice (some ⟨w.heap.size, 0, none⟩) n n) n (cellsE encC L) ∧ Below w.heap.size w w'

set_option maxRecDepth 100000 in
set_option maxHeartbeats 1000000 in
theorem toCells_any (a : Option Addr) (n c : Nat) (L : List C3) (w : World) (hs : SrcC w a n L) (hn : n ≤ 1048576) :
    Calls Try.prog 72 #[.slice a n c] w (CopyC n L w) := by
  obtain ⟨i0, hi, hz0, hz1, hz2⟩ := info_parts infoCell
  have HS := Lib.hid hs
  have hL := hs.len
  clear hs
  go_enter Try.func72, Try.ntmps72
  go_wp2_with (at_make; refine wpList_make_full _ rfl _ _ 24 rfl w.heap.size 68 i0 _ 3 Try.underlying24 hi hz0 hz1 .i64 .i64 _ _ n rfl rfl rfl rfl (by rw [hz2]; omega) (by unfold maxLen; omega) (Nat.le_refl _) ?_; intro w0 hown0 hgrow0)
  have hg0 : Below w.heap.size w w0 := (Below.refl _ _).grown hgrow0 (Nat.le_refl _) (fun k h => by cases h)
  have HO0 := Lib.hid hown0
  clear hown0 hgrow0
  go_loopw [4] (fun iv wr => ∃ (k : Nat) (xs : List Value), k ≤ n ∧ iv = .int .i64 k ∧ Hid (wr.ownsRow w.heap.size 68 3 (.slice (some ⟨w.heap.size, 0, none⟩) n n) n xs) ∧ Hid (∀ j, j < k * 3 → xs[j]? = (cellsE encC L)[j]?) ∧ Below w.heap.size w wr)
    (fun iv _ => n - (intOf iv).toNat)
  case atStart => exact ⟨0, _, Nat.zero_le _, rfl, HO0, Lib.hid (fun j hj => by omega), hg0⟩
  case round =>
    clear HO0 hg0
    obtain ⟨k, xs, hk, rfl, HW, HX, hbel⟩ := hrel
    have hxl : Hid (xs.length = n * 3) := Lib.hid HW.out.1
    by_cases hlt : k < n
    · obtain ⟨g, off, rfl, hg, d1, d2, d3⟩ := HS.out.cells3_at hbel (Nat.le_refl _) k hlt
      have X1 := Lib.hid (cellsE_step encC (by omega) (by rw [hL]; exact hxl.out) HX.out)
      obtain ⟨x, hx⟩ : ∃ x, L.getD k default = x := ⟨_, rfl⟩
      rw [hx] at d1 d2 d3 X1
      clear hx
      go_wp2_with fail
      refine (toCell_any x.l x.t x.f _).mono ?_
      rintro e w1 ⟨rfl, hb1⟩
      have HW1 := Lib.hid (own_below HW.out hb1)
      obtain ⟨v1, e1⟩ := ownE_cell HW1.out (j := k * 3) (by omega)
      obtain ⟨v2, e2⟩ := ownE_cell HW1.out (j := k * 3 + 1) (by omega)
      obtain ⟨v3, e3⟩ := ownE_cell HW1.out (j := k * 3 + 2) (by omega)
      have f1 := HW1.out.frozenAt (k * 3)
      have f2 := HW1.out.frozenAt (k * 3 + 1)
      have f3 := HW1.out.frozenAt (k * 3 + 2)
      have O1 := Lib.hid (own_sets (encC.cells x) (k * 3) HW1.out)
      have hbx : Below w.heap.size w w1 := hbel.trans (hb1.mono hbel.size)
      have hb2 : Hid (Below w.heap.size w (w1.setCells w.heap.size (k * 3) (encC.cells x))) := Lib.hid (below_sets (Nat.le_refl _) _ _ hbx)
      clear d1 d2 d3 hb1 hbx
      go_wp2
      go_roundw
      case rel => exact ⟨k + 1, _, by omega, by go_num, O1, X1, hb2.out⟩
      case measure => (simp [intOf]; try omega)
    · obtain rfl : k = n := by omega
      have hfin : xs = cellsE encC L := cellsE_all encC (by rw [hL]; exact hxl.out) (by rw [hL]; exact HX.out)
      have ho := HW.out
      rw [hfin] at ho
      have HO := Lib.hid ho
      clear ho hfin
      go_wp2
      go_ret
      exact ⟨rfl, HO.out, hbel⟩

set_option maxRecDepth 100000 in
set_option maxHeartbeats 1000000 in
theorem eqCells_any (a1 a2 : Option Addr) (n c1 c2 : Nat) (L : List C3) (w : World) (hn : n ≤ 100000000) (s1 : SrcC w a1 n L) (s2 : SrcC w a2 n L) :
    Calls Try.prog 68 #[.slice a1 n c1, .slice a2 n c2] w fun e w' => e = .returned (.bool true) ∧ Below w.heap.size w w' := by
  have R1 := Lib.hid s1
  have R2 := Lib.hid s2
  clear s1 s2
  go_enter Try.func68, Try.ntmps68
  go_wp2
  go_loopw [5] (fun iv wr => ∃ k : Nat, k ≤ n ∧ iv = .int .i64 k ∧ Below w.heap.size w wr) (fun iv _ => n - (intOf iv).toNat)
  case atStart => exact ⟨0, Nat.zero_le _, rfl, Below.refl _ _⟩
  case round =>
    obtain ⟨k, hk, rfl, hbel⟩ := hrel
    by_cases hlt : k < n
    · obtain ⟨g, off, rfl, hg, d1, d2, d3⟩ := R1.out.cells3_at hbel (Nat.le_refl _) k hlt
      obtain ⟨g2, off2, rfl, hg2, m1, m2, m3⟩ := R2.out.cells3_at hbel (Nat.le_refl _) k hlt
      obtain ⟨x, hx⟩ : ∃ x, L.getD k default = x := ⟨_, rfl⟩
      rw [hx] at d1 d2 d3 m1 m2 m3
      clear hx
      go_wp2
      go_region_with (go_at_call 83; refine (eqCell_any x.l x.t x.f _).mono ?_; rintro e w1 ⟨rfl, hb1⟩)
      all_goals
        have hb2 : Below w.heap.size w w1 := hbel.drew.trans (hb1.mono hbel.size)
        clear d1 d2 d3 m1 m2 m3 hb1
        go_wp2
        go_roundw
        case rel => exact ⟨k + 1, by omega, by go_num, hb2⟩
        case measure => (simp [intOf]; try omega)
    · obtain rfl : k = n := by omega
      go_wp2
      go_ret
      exact ⟨rfl, hbel⟩

/-- What the copy of a memory returns. -/
def CopyM (K : ByteArray) (n : Nat) (L : List C3) (w : World) (e : Ending) (w' : World) : Prop :=
  ∃ g, e = .returned (.agg #[.string K, .slice (some ⟨g, 0, none⟩) n n]) ∧ w'.ownsRow w.heap.size 68 3 (.slice (some ⟨g, 0, none⟩) n n) n (cellsE encC L) ∧ Below w.heap.size w w'

theorem two_of_alloc (w : World) (u v : Value) (t : TypeId) : (w.alloc (.cells #[u, v] t)).heap[w.heap.size]? = some (.cells #[u, v] t (0, 0)) := heap_alloc_new _ _
/-- A block of two cells. -/
theorem cell0_of_two {w : World} {b : Nat} {u v : Value} {t : TypeId} (h : w.heap[b]? = some (.cells #[u, v] t (0, 0))) : w.cell? ⟨b, 0, none⟩ = some u := by simp [World.cell?, h]
theorem cell1_of_two {w : World} {b : Nat} {u v : Value} {t : TypeId} (h : w.heap[b]? = some (.cells #[u, v] t (0, 0))) : w.cell? ⟨b, 1, none⟩ = some v := by simp [World.cell?, h]
theorem free_of_two {w : World} {b o : Nat} {u v : Value} {t : TypeId} (h : w.heap[b]? = some (.cells #[u, v] t (0, 0))) : w.frozen? ⟨b, o, none⟩ = false := by simp [World.frozen?, h]
theorem two_set0 {w : World} {b : Nat} {u v x : Value} {t : TypeId} (h : w.heap[b]? = some (.cells #[u, v] t (0, 0))) : (w.setCell ⟨b, 0, none⟩ x).heap[b]? = some (.cells #[x, v] t (0, 0)) := by
  have hlt := lt_of_block h
  have h' : w.heap[b] = .cells #[u, v] t (0, 0) := by simpa [Array.getElem?_eq_getElem hlt] using h
  show (w.heap.modify b _)[b]? = _
  rw [Array.getElem?_eq_getElem (by simpa using hlt), Array.getElem_modify_self, h']
  rfl
theorem two_set1 {w : World} {b : Nat} {u v x : Value} {t : TypeId} (h : w.heap[b]? = some (.cells #[u, v] t (0, 0))) : (w.setCell ⟨b, 1, none⟩ x).heap[b]? = some (.cells #[u, x] t (0, 0)) := by
  have hlt := lt_of_block h
  have h' : w.heap[b] = .cells #[u, v] t (0, 0) := by simpa [Array.getElem?_eq_getElem hlt] using h
  show (w.heap.modify b _)[b]? = _
  rw [Array.getElem?_eq_getElem (by simpa using hlt), Array.getElem_modify_self, h']
  rfl
theorem below_heap {B : Nat} {w w' : World} (h : Below B w w') {b : Nat} (hb : b < B) : w'.heap[b]? = w.heap[b]? := h.block b hb

set_option maxRecDepth 100000 in
set_option maxHeartbeats 1000000 in
theorem toMemory_any (K : ByteArray) (a : Option Addr) (n c : Nat) (L : List C3) (w : World) (hs : SrcC w a n L) (hn : n ≤ 1048576) :
    Calls Try.prog 37 #[.agg #[.string K, .slice a n c]] w (CopyM K n L w) := by
  have HS := Lib.hid hs
  clear hs
  go_enter Try.func37, Try.ntmps37
  have hb0 : Below w.heap.size w (((w.alloc (.cells #[.string K, .slice a n c] 46)).alloc (.cells #[.string ⟨#[]⟩, .slice none 0 0] 26)).alloc (.cells #[.string K, .slice none 0 0] 26)) := (((Below.refl _ _).alloc (Nat.le_refl _) _).alloc (by simp) _).alloc (by simp; omega) _
  have k1 : (((w.alloc (.cells #[.string K, .slice a n c] 46)).alloc (.cells #[.string ⟨#[]⟩, .slice none 0 0] 26)).alloc (.cells #[.string K, .slice none 0 0] 26)).heap[w.heap.size + 1]? = some (.cells #[.string ⟨#[]⟩, .slice none 0 0] 26 (0, 0)) := by
    rw [Below.heap_alloc _ _ _ (by simp)]
    have h := heap_alloc_new (w.alloc (.cells #[.string K, .slice a n c] 46)) (.cells #[.string ⟨#[]⟩, .slice none 0 0] 26)
    simpa using h
  have k2 : (((w.alloc (.cells #[.string K, .slice a n c] 46)).alloc (.cells #[.string ⟨#[]⟩, .slice none 0 0] 26)).alloc (.cells #[.string K, .slice none 0 0] 26)).heap[w.heap.size + 1 + 1]? = some (.cells #[.string K, .slice none 0 0] 26 (0, 0)) := by
    have h := heap_alloc_new ((w.alloc (.cells #[.string K, .slice a n c] 46)).alloc (.cells #[.string ⟨#[]⟩, .slice none 0 0] 26)) (.cells #[.string K, .slice none 0 0] 26)
    simpa using h
  have k3 : (((w.alloc (.cells #[.string K, .slice a n c] 46)).alloc (.cells #[.string ⟨#[]⟩, .slice none 0 0] 26)).alloc (.cells #[.string K, .slice none 0 0] 26)).heap.size = w.heap.size + 3 := by simp
  have K1 := Lib.hid k1
  have K2 := Lib.hid k2
  have K3 := Lib.hid k3
  have B0 := Lib.hid hb0
  clear k1 k2 k3 hb0
  go_wp2_with fail
  obtain ⟨W3, hW⟩ : ∃ x, x = ((w.alloc (.cells #[.string K, .slice a n c] 46)).alloc (.cells #[.string ⟨#[]⟩, .slice none 0 0] 26)).alloc (.cells #[.string K, .slice none 0 0] 26) := ⟨_, rfl⟩
  rw [← hW] at K1 K2 K3 B0 ⊢
  clear hW
  refine (toCells_any a n c L _ (HS.out.later B0.out) hn).mono ?_
  rintro e w1 ⟨rfl, hown, hb1⟩
  have k1 : w1.heap[w.heap.size + 1]? = _ := (hb1.block _ (by rw [K3.out]; omega)).trans K1.out
  have k2 : w1.heap[w.heap.size + 1 + 1]? = _ := (hb1.block _ (by rw [K3.out]; omega)).trans K2.out
  have c0 := cell0_of_two k2
  have c1 := cell1_of_two k2
  have f2 := free_of_two (o := 1) k2
  have r0 := cell0_of_two k1
  have r1 := cell1_of_two k1
  have f0 := free_of_two (o := 0) k1
  have f1 := free_of_two (o := 1) k1
  have B1 : Hid (Below w.heap.size w w1) := Lib.hid (B0.out.trans (hb1.mono B0.out.size))
  have HO := Lib.hid hown
  have hs1 := hb1.size
  rw [K3.out] at hs1
  rw [K3.out] at HO ⊢
  have S1 := Lib.hid hs1
  have E1 := Lib.hid (two_set1 (two_set0 ((Below.heap_setCell w1 ⟨w.heap.size + 1 + 1, 1, none⟩ (.slice (some ⟨w.heap.size + 3, 0, none⟩) n n) (w.heap.size + 1) (by simp)).trans k1) (x := .string K)) (x := .slice (some ⟨w.heap.size + 3, 0, none⟩) n n))
  clear k1 k2 hb1 hown hs1
  go_wp2
  refine bodyPost_ret (v := .agg #[.string K, .slice (some ⟨w.heap.size + 3, 0, none⟩) n n]) ?_ rfl ⟨_, rfl, ?_, ?_⟩
  · have q0 := cell0_of_two E1.out
    have q1 := cell1_of_two E1.out
    simp [results, Try.results37, go_sem, q0, q1]
  · exact ownsRow_setCell_other (ownsRow_setCell_other (ownsRow_setCell_other (ownE_mono HO.out (by omega)) (by simp [Value.ownBlock]) _) (by simp [Value.ownBlock]) _) (by simp [Value.ownBlock]) _
  · exact ((((B1.out.setCell (by simp; omega) _).setCell (by simp) _).setCell (by simp) _))

set_option maxRecDepth 100000 in
set_option maxHeartbeats 1000000 in
theorem eqMemory_any (K : ByteArray) (a1 a2 : Option Addr) (n c1 c2 : Nat) (L : List C3) (w : World) (hn : n ≤ 100000000) (s1 : SrcC w a1 n L) (s2 : SrcC w a2 n L) :
    Calls Try.prog 33 #[.agg #[.string K, .slice a1 n c1], .agg #[.string K, .slice a2 n c2]] w fun e w' => e = .returned (.bool true) ∧ Below w.heap.size w w' := by
  have R1 := Lib.hid s1
  have R2 := Lib.hid s2
  clear s1 s2
  go_enter Try.func33, Try.ntmps33
  go_wp2_with fail
  have hb0 : Below w.heap.size w ((w.alloc (.cells #[.string K, .slice a1 n c1] 26)).alloc (.cells #[.string K, .slice a2 n c2] 26)) := ((Below.refl _ _).alloc (Nat.le_refl _) _).alloc (by simp) _
  refine (eqCells_any a1 a2 n c1 c2 L _ hn (R1.out.later hb0) (R2.out.later hb0)).mono ?_
  rintro e w1 ⟨rfl, hb1⟩
  have hb2 : Below w.heap.size w w1 := hb0.trans (hb1.mono hb0.size)
  clear hb0 hb1
  go_wp2
  go_ret
  exact ⟨rfl, hb2⟩
end Go.Proofs.Ytpahihcnmpeenaa
namespace Go.Proofs.Ytpahihcnmpeenaa.Byt
open Go.RowKit Go.Proofs.Ytpahihcnmpeenaa.Hexa Go.Lib

/-- Cells stored into a row whose frozen range lies behind its end. -/
theorem run_store (P : Program) (g o : Nat) (t : TypeId) (fz : Nat × Nat) : ∀ (vs : List Value) (i : Nat) (cur : Array Value) (w : World), w.heap[g]? = some (.cells cur t fz) → (fz = (0, 0) ∨ cur.size ≤ fz.1) → o + i + vs.length ≤ cur.size → (∀ v ∈ vs, v.oneCell' = true) →
    (storeCells ⟨g, o, none⟩ vs i).run P w = .ok () (w.setRow g (cur.toList.take (o + i) ++ vs ++ cur.toList.drop (o + i + vs.length)).toArray)
  | [], i, cur, w, hg, _, _, _ => by
    simp only [storeCells, List.append_nil, List.length_nil, Nat.add_zero, List.take_append_drop, Array.toArray_toList]
    rw [setRow_self w g cur t fz hg]
    rfl
  | v :: rest, i, cur, w, hg, hfz, hl, h1 => by
    have hi : o + i < cur.size := by simp at hl; omega
    have hadd : (⟨g, o, none⟩ : Addr).add i = ⟨g, o + i, none⟩ := by unfold Addr.add; split <;> simp_all
    have hcell : w.cell? ⟨g, o + i, none⟩ = some cur[o + i] := by simp [World.cell?, hg, hi]
    have hfro : w.frozen? ⟨g, o + i, none⟩ = false := by
      obtain ⟨lo, hi'⟩ := fz
      simp only [World.frozen?, hg, Bool.and_eq_false_iff, decide_eq_false_iff_not]
      rcases hfz with h | h
      · right; cases h; omega
      · left; simp only at h; omega
    have hst : (store ((⟨g, o, none⟩ : Addr).add i) v).run P w = .ok () (w.setRow g (cur.setIfInBounds (o + i) v)) := by
      rw [hadd, Go.run_store P w _ v _ (h1 v (by simp)), hcell]
      simp [hfro, setCell_eq_setRow w g (o + i) cur t fz v hg]
    have ih := run_store P g o t fz rest (i + 1) (cur.setIfInBounds (o + i) v) (w.setRow g (cur.setIfInBounds (o + i) v)) (setRow_heap w g cur _ t _ hg) (by simpa using hfz) (by simp at hl ⊢; omega) (fun x hx => h1 x (by simp [hx]))
    simp only [storeCells, Sem.run_bind, hst, Result.andThen_ok, ih, setRow_setRow]
    congr 3
    have e := list_seg_step cur.toList (o + i) v rest (by simp at hl ⊢; omega)
    simpa [Array.toList_setIfInBounds, Nat.add_assoc] using e

theorem bcells_length (l : List UInt8) : (bcells l).length = l.length := by simp [bcells]
theorem bcells_append (l m : List UInt8) : bcells (l ++ m) = bcells l ++ bcells m := by simp [bcells]
theorem bcells_one (l : List UInt8) : ∀ u ∈ bcells l, u.oneCell' = true := by
  intro u hu
  simp only [bcells, List.mem_map] at hu
  obtain ⟨b, _, rfl⟩ := hu
  rfl

/-- The value v holds the bytes l, in a row from block B on. -/
def Bytes (w : World) (B : Nat) (e : TypeId) (v : Value) (l : List UInt8) : Prop :=
  (v = .slice none 0 0 ∧ l = []) ∨
  ∃ g cap cur fz, v = .slice (some ⟨g, 0, none⟩) l.length cap ∧ B ≤ g ∧ w.heap[g]? = some (.cells cur e fz) ∧ (fz = (0, 0) ∨ cur.size ≤ fz.1) ∧ l.length ≤ cap ∧ cap ≤ maxLen ∧ cur.size = cap ∧ cur.toList.take l.length = bcells l

theorem bytes_room {w : World} {B : Nat} {e : TypeId} {g cap : Nat} {cur : Array Value} {fz : Nat × Nat} {l : List UInt8} (hb : B ≤ g) (hg : w.heap[g]? = some (.cells cur e fz)) (hfz : fz = (0, 0) ∨ cur.size ≤ fz.1) (hm : cap ≤ maxLen) (hs : cur.size = cap) (ht : cur.toList.take l.length = bcells l)
    (news : List UInt8) (hroom : l.length + news.length ≤ cap) :
    Bytes (w.setRow g (cur.toList.take l.length ++ bcells news ++ cur.toList.drop (l.length + news.length)).toArray) B e (.slice (some ⟨g, 0, none⟩) (l.length + news.length) cap) (l ++ news) := by
  have hsz : (cur.toList.take l.length ++ bcells news ++ cur.toList.drop (l.length + news.length)).toArray.size = cur.size := by
    simp only [List.size_toArray, List.length_append, List.length_take, List.length_drop, Array.length_toList, bcells_length]
    omega
  refine .inr ⟨g, cap, _, fz, by simp, hb, setRow_heap w g cur _ e _ hg, ?_, by simpa using hroom, hm, by rw [hsz, hs], ?_⟩
  · rw [hsz]; exact hfz
  · rw [ht, bcells_append]
    have : (l ++ news).length = (bcells l ++ bcells news).length := by simp [bcells]
    rw [this]
    exact List.take_left

theorem bytes_grown (w : World) {B : Nat} {e : TypeId} (l news : List UInt8) (cap : Nat) (hB : B ≤ w.heap.size) (hc : l.length + news.length ≤ cap) (hm : cap ≤ maxLen) (rest : Array Value) (hr : rest.size = cap - (l.length + news.length)) :
    Bytes (w.drew.alloc (.cells ((bcells l).toArray ++ (bcells news).toArray ++ rest) e)) B e (.slice (some ⟨w.heap.size, 0, none⟩) (l.length + news.length) cap) (l ++ news) := by
  refine .inr ⟨w.heap.size, cap, _, (0, 0), by simp, hB, heap_alloc_new w.drew _, .inl rfl, by simpa using hc, hm, ?_, ?_⟩
  · simp [bcells, hr]; omega
  · have : (l ++ news).length = (bcells l ++ bcells news).length := by simp [bcells]
    rw [this, bcells_append]
    simp only [Array.toList_append, List.append_assoc]
    rw [← List.append_assoc]
    exact List.take_left

theorem bytes_cells {w : World} {g _cap : Nat} {cur : Array Value} {e : TypeId} {fz : Nat × Nat} {l : List UInt8} (hg : w.heap[g]? = some (.cells cur e fz)) (ht : cur.toList.take l.length = bcells l) :
    ∀ j u, (bcells l)[j]? = some u → w.cell? ((⟨g, 0, none⟩ : Addr).add j) = some u := by
  intro j u hu
  have hadd : (⟨g, 0, none⟩ : Addr).add j = ⟨g, j, none⟩ := by unfold Addr.add; split <;> simp_all
  rw [hadd]
  rw [← ht, List.getElem?_take] at hu
  split at hu
  · simp only [World.cell?, hg]; simpa using hu
  · cases hu

theorem zeros_cells (n : Nat) : Builtin.zeroCells (Value.int .u8 0).cells n = (bcells (List.replicate n 0)).toArray := by
  simp only [Builtin.zeroCells, Value.cells, bcells]
  apply Array.ext
  · simp
  · intro i h1 h2
    simp [Nat.mod_one]

section
variable {P : Program} {t e : TypeId} {i : TypeInfo} (ht : P.underlying t = some (.slice e)) (hi : P.info? e = some i) (hz : i.zero = some (.int .u8 0)) (hs1 : i.size = 1) (hb1 : i.bytes = 1)
include ht hi hz hs1 hb1

/-- What an append yields: the bytes, and nothing below B is written. -/
def Out (P : Program) (args : Array TypeId) (ty : TypeId) (vs : Array Value) (w : World) (B : Nat) (e : TypeId) (l : List UInt8) : Prop :=
  ∃ v' w', (Builtin.append_ args ty vs).run P w = .ok v' w' ∧ Bytes w' B e v' l ∧ Below B w w'

omit ht hi hz hs1 hb1 in
theorem below_setRow (w : World) {B g : Nat} (h : B ≤ g) (cs : Array Value) : Below B w (w.setRow g cs) := ⟨rfl, rfl, rfl, by simp, fun k hk => setRow_other _ _ _ _ (by omega)⟩
omit ht hi hz hs1 hb1 in
theorem below_grown (w : World) {B : Nat} (h : B ≤ w.heap.size) (o : Obj) : Below B w (w.drew.alloc o) := ((Below.refl _ _).drew).alloc (by simpa using h) o

theorem append_cells (w : World) {B : Nat} {v : Value} {l : List UInt8} (h : Bytes w B e v l) (hB : B ≤ w.heap.size) (ty : TypeId) (ad : Addr) (c : Nat) (news : List UInt8) (hn : ∀ j u, (bcells news)[j]? = some u → w.cell? (ad.add j) = some u) (hl : l.length + news.length ≤ 1000000000) :
    Out P #[t, t] ty #[v, .slice (some ad) news.length c] w B e (l ++ news) := by
  rcases h with ⟨rfl, rfl⟩ | ⟨g, cap, cur, fz, rfl, hb, hg, hfz, hlc, hm, hcs, htk⟩
  · obtain ⟨v', w', r1, r2, r3, r4⟩ := run_append_own (P := P) w B t ty e i (.int .u8 0) 1 1 ht hi hz hs1 hb1 rfl (by decide) (.slice none 0 0) 0 [] ⟨rfl, .inl ⟨rfl, rfl⟩⟩ ad news.length c (bcells news) (by simp [bcells]) hn (bcells_one _) (by simp at hl; unfold maxLen; omega) (by simp at hl; omega) hB
    refine ⟨v', w', r1, ?_, (Below.refl _ _).grown r3 hB (fun k h => by cases h)⟩
    rcases r2.2 with ⟨rfl, hn0⟩ | ⟨g, cap, cur, rfl, h1, h2, h3, h4, h5, h6⟩
    · left
      refine ⟨rfl, List.eq_nil_of_length_eq_zero (by simpa using hn0)⟩
    · right
      simp at h3 h5 h6
      exact ⟨g, cap, cur, (0, 0), by simp, h1, h2, .inl rfl, by simpa using h3, h4, h5, by simpa using h6⟩
  · by_cases hroom : l.length + news.length ≤ cap
    · have hf := run_firstCells_some (P := P) w 1 news.length ad news.length c (bcells news) (by simp [bcells]) hn
      have hst := run_store P g l.length e fz (bcells news) 0 cur w hg hfz (by simp [bcells]; omega) (bcells_one _)
      simp only [Nat.add_zero, bcells_length] at hst
      refine ⟨_, _, ?_, bytes_room hb hg hfz hm hcs htk news hroom, below_setRow w hb _⟩
      simp [Builtin.append_, run_underlying ht, sizeOf, typeInfo, hi, hs1, Builtin.lenOf, hroom, hf, Addr.add_lit, hst]
    · have hr := run_append_grow (P := P) w t ty e i (.int .u8 0) ht hi hz ⟨g, 0, none⟩ l.length cap (bcells l) (by simp [bcells, hs1]) (bytes_cells (_cap := cap) hg htk) ad news.length c (bcells news) (by simp [bcells, hs1]) hn (by omega) (by omega) (growslice_fits (by omega) (by rw [hb1]; omega))
      have hge := grownCap_ge w (l.length + news.length) cap e
      have hcm := grownCap_le_maxLen w (l.length + news.length) cap e (by unfold maxLen; omega)
      refine ⟨_, _, hr, bytes_grown w l news _ hB hge hcm _ ?_, below_grown w hB _⟩
      simp [Builtin.zeroCells, Value.cells]

theorem append_text {u : TypeId} (hu : P.underlying u = some .string) (w : World) {B : Nat} {v : Value} {l : List UInt8} (h : Bytes w B e v l) (hB : B ≤ w.heap.size) (ty : TypeId) (s : ByteArray) (hl : l.length + s.size ≤ 1000000000) :
    Out P #[t, u] ty #[v, .string s] w B e (l ++ s.data.toList) := by
  have hls : s.data.toList.length = s.size := by simp
  rcases h with ⟨rfl, rfl⟩ | ⟨g, cap, cur, fz, rfl, hb, hg, hfz, hlc, hm, hcs, htk⟩
  · obtain ⟨v', w', r1, r2, r3, r4⟩ := run_append_own_string (P := P) w B t u ty e i ht hu hi hz hs1 hb1 (.slice none 0 0) 0 [] ⟨rfl, .inl ⟨rfl, rfl⟩⟩ s (by simp at hl; unfold maxLen; omega) (by simp at hl; omega) hB
    refine ⟨v', w', r1, ?_, (Below.refl _ _).grown r3 hB (fun k h => by cases h)⟩
    rcases r2.2 with ⟨rfl, hn0⟩ | ⟨g, cap, cur, rfl, h1, h2, h3, h4, h5, h6⟩
    · left
      refine ⟨rfl, List.eq_nil_of_length_eq_zero (by simp at hn0 ⊢; simpa using hn0)⟩
    · right
      simp at h3 h5 h6
      exact ⟨g, cap, cur, (0, 0), by simp, h1, h2, .inl rfl, by simpa using h3, h4, h5, by simpa [bcells, strCells] using h6⟩
  · by_cases hroom : l.length + s.size ≤ cap
    · have hf := run_firstCells_string (P := P) w 1 s
      have hst := run_store P g l.length e fz (strCells s) 0 cur w hg hfz (by simp [strCells_length]; omega) (strCells_oneCell s)
      simp only [Nat.add_zero, strCells_length] at hst
      have hbr := bytes_room hb hg hfz hm hcs htk s.data.toList (by rw [hls]; exact hroom)
      rw [hls] at hbr
      refine ⟨_, _, ?_, hbr, below_setRow w hb _⟩
      simp [Builtin.append_, run_underlying ht, run_underlying hu, sizeOf, typeInfo, hi, hs1, Builtin.lenOf, hroom, hf, Addr.add_lit, hst]
      rfl
    · have hr := run_append_grow_string (P := P) w t u ty e i (.int .u8 0) ht hu hi hz ⟨g, 0, none⟩ l.length cap (bcells l) (by simp [bcells, hs1]) (bytes_cells (_cap := cap) hg htk) s (by omega) (by omega) (growslice_fits (by omega) (by rw [hb1]; omega))
      have hge := grownCap_ge w (l.length + s.size) cap e
      have hcm := grownCap_le_maxLen w (l.length + s.size) cap e (by unfold maxLen; omega)
      have hbg := bytes_grown w (e := e) l s.data.toList _ hB (by rw [hls]; exact hge) hcm (Builtin.zeroCells (Value.int .u8 0).cells (grownCap w (l.length + s.size) cap e - (l.length + s.size))) (by simp [Builtin.zeroCells, Value.cells])
      rw [hls] at hbg
      exact ⟨_, _, hr, hbg, below_grown w hB _⟩

theorem append_zeros {u : TypeId} {kn kq : IntKind} (hu : P.underlying u = some (.int kn)) (w : World) {B : Nat} {v : Value} {l : List UInt8} (h : Bytes w B e v l) (hB : B ≤ w.heap.size) (hv : v ≠ .slice none 0 0) (ty : TypeId) (k : Nat) (hl : l.length + k ≤ 1000000000) :
    Out P #[t, u] ty #[v, .int kq k] w B e (l ++ List.replicate k 0) := by
  have hls : (List.replicate k (0 : UInt8)).length = k := by simp
  rcases h with ⟨rfl, rfl⟩ | ⟨g, cap, cur, fz, rfl, hb, hg, hfz, hlc, hm, hcs, htk⟩
  · exact absurd rfl hv
  · by_cases hroom : l.length + k ≤ cap
    · have hst := run_store P g l.length e fz (bcells (List.replicate k 0)) 0 cur w hg hfz (by simp [bcells]; omega) (bcells_one _)
      simp only [Nat.add_zero, bcells_length, hls] at hst
      have hbr := bytes_room hb hg hfz hm hcs htk (List.replicate k 0) (by rw [hls]; exact hroom)
      rw [hls] at hbr
      refine ⟨_, _, ?_, hbr, below_setRow w hb _⟩
      have hw : IntKind.i64.wrap (k : Int) = k := by rw [IntKind.wrap_i64]; omega
      have hneg : ¬ ((k : Int) < 0) := by omega
      have h48i : ¬ (281474976710656 < (k : Int)) := by omega
      by_cases hk : k = 0
      · subst hk
        simp at hst hroom
        have hw0 : IntKind.i64.wrap 0 = 0 := rfl
        simp [bcells] at hst
        simp [Builtin.append_, run_underlying ht, run_underlying hu, sizeOf, typeInfo, zeroValue, hi, hs1, hb1, hz, asInt, asIntOf, hw0, hroom, Addr.add_lit, hst, bcells]
      · simp [Builtin.append_, run_underlying ht, run_underlying hu, sizeOf, typeInfo, zeroValue, hi, hs1, hb1, hz, asInt, asIntOf, hw, hneg, h48i, hk, hroom, Addr.add_lit, zeros_cells, hst]
    · have hk : 0 < k := by omega
      have hfo := run_firstCells_some (P := P) w.drew i.size l.length ⟨g, 0, none⟩ l.length cap (bcells l) (by simp [bcells, hs1]) (by simpa using bytes_cells (_cap := cap) hg htk)
      have hr := run_append_grow_zeros (P := P) w t u ty e i (.int .u8 0) kq kn ht hu hi hz (some ⟨g, 0, none⟩) l.length cap (bcells l) hfo k hk (by omega) (by omega) (by omega) (by rw [hb1]; omega) (growslice_fits (by omega) (by rw [hb1]; omega))
      have hge := grownCap_ge w (l.length + k) cap e
      have hcm := grownCap_le_maxLen w (l.length + k) cap e (by unfold maxLen; omega)
      have hbg := bytes_grown w (e := e) l (List.replicate k 0) _ hB (by rw [hls]; exact hge) hcm (Builtin.zeroCells (Value.int .u8 0).cells (grownCap w (l.length + k) cap e - (l.length + k))) (by simp [Builtin.zeroCells, Value.cells])
      rw [hls] at hbg
      rw [zeros_cells k] at hr
      exact ⟨_, _, hr, hbg, below_grown w hB _⟩
end

theorem bytes_alloc {w : World} {B : Nat} {e : TypeId} {v : Value} {l : List UInt8} (h : Bytes w B e v l) (o : Obj) : Bytes (w.alloc o) B e v l := by
  rcases h with h | ⟨g, cap, cur, fz, rfl, hb, hg, r⟩
  · exact .inl h
  · refine .inr ⟨g, cap, cur, fz, rfl, hb, ?_, r⟩
    rw [Below.heap_alloc _ _ _ (Array.getElem?_eq_some_iff.1 hg).1]; exact hg

/-- The slice that '[]byte(s)' makes. -/
theorem bytes_conv (w : World) (e : TypeId) (s : ByteArray) (B : Nat) (hB : B ≤ w.heap.size) (hs : s.size ≤ 1000000000) :
    Bytes (w.drew.alloc (.cells (bytesRow s (grownCap w s.size 0 e)) e ((bytesRow s (grownCap w s.size 0 e)).size, (bytesRow s (grownCap w s.size 0 e)).size + 1))) B e (.slice (some ⟨w.heap.size, 0, none⟩) s.size (grownCap w s.size 0 e)) s.data.toList := by
  have hge := grownCap_ge w s.size 0 e
  have hcm := grownCap_le_maxLen w s.size 0 e (by unfold maxLen; omega)
  have hds : s.data.size = s.size := rfl
  refine .inr ⟨w.heap.size, _, _, _, by simp, hB, heap_alloc_new w.drew _, .inr (Nat.le_refl _), by simpa using hge, hcm, ?_, ?_⟩
  · simp [bytesRow]; omega
  · simp only [bytesRow, Array.toList_append]
    have : s.data.toList.length = (s.data.map (fun b => Value.int .u8 b.toNat)).toList.length := by simp
    rw [this, List.take_left]
    simp [bcells]

/-- 'string(b)'. -/
theorem bytes_string {P : Program} {w : World} {B e : Nat} {v : Value} {l : List UInt8} (src dst : TypeId)
    (hs : P.underlying src = some (.slice e)) (he : P.underlying e = some (.int .u8)) (hd : P.underlying dst = some .string)
    (h : Bytes w B e v l) : (convert src dst v).run P w = .ok (.string ⟨l.toArray⟩) w := by
  rcases h with ⟨rfl, rfl⟩ | ⟨g, cap, cur, fz, rfl, _, hg, _, _, _, _, htk⟩
  · exact run_convert_bytes_nil w src e hs he 0 0 dst hd
  · refine run_convert_bytes_back w src dst e _ cap l hs he hd fun j hj => ?_
    exact bytes_cells (_cap := cap) hg htk j _ (by simp [bcells, hj])

theorem bytes_of_own {w : World} {B e : Nat} {v : Value} {l : List UInt8} (h : w.ownsRow B e 1 v l.length (bcells l)) : Bytes w B e v l := by
  rcases h.2 with ⟨rfl, hn0⟩ | ⟨g, cap, cur, rfl, h1, h2, h3, h4, h5, h6⟩
  · exact .inl ⟨rfl, List.eq_nil_of_length_eq_zero hn0⟩
  · simp at h5 h6
    exact .inr ⟨g, cap, cur, (0, 0), rfl, h1, h2, .inl rfl, h3, h4, h5, h6⟩

theorem bytes_len {w : World} {B e : Nat} {v : Value} {l : List UInt8} (h : Bytes w B e v l) : ∃ a c, v = .slice a l.length c := by
  rcases h with ⟨rfl, rfl⟩ | ⟨g, cap, cur, fz, rfl, _⟩
  · exact ⟨none, 0, rfl⟩
  · exact ⟨_, _, rfl⟩

/-- The operation, for the walk. -/
theorem wpList_append_out {P : Program} {ops : Array Oper} {rest : List Oper} {o : Oper} {a : Act} {w : World} {Q : Exit → Act → World → Prop} (hgd : o.guard = none) (s x : Operand) (t tn : TypeId)
    (ho : o.op = .call { callee := .builtin .append, args := #[s, x], argTypes := #[t, tn] }) (vs vx : Value) (hs : a.eval s = vs) (hx : a.eval x = vx) {B : Nat} {e : TypeId} {l : List UInt8}
    (hr : Out P #[t, tn] o.type #[vs, vx] w B e l) (h : ∀ v' w', Bytes w' B e v' l → Below B w w' → wpList P ops Q rest (a.put o.dst v') w') : wpList P ops Q (o :: rest) a w := by
  obtain ⟨v', w', r, h1, h2⟩ := hr
  exact Lib.wpList_append_run w hgd s x t tn ho vs vx hs hx v' w' r (h v' w' h1 h2)
end Go.Proofs.Ytpahihcnmpeenaa.Byt
namespace Go.Proofs.Ytpahihcnmpeenaa.BitsM
open Go.RowKit

theorem bv8 (a : UInt8) : BitVec.ofInt 8 (a.toNat : Int) = a.toBitVec := by
  apply BitVec.eq_of_toNat_eq
  have := a.toNat_lt
  rw [BitVec.ofInt_natCast, BitVec.toNat_ofNat]
  exact Nat.mod_eq_of_lt (by simpa using this)
theorem wrap8 (b : BitVec 8) : IntKind.u8.wrap (b.toNat : Int) = ((⟨b⟩ : UInt8).toNat : Int) := by
  have := b.isLt
  rw [IntKind.wrap_u8]
  show (b.toNat : Int) % 256 = (b.toNat : Int)
  omega
theorem xor8 (a b : UInt8) : bits .xor .u8 (a.toNat : Int) (b.toNat : Int) = ((a ^^^ b).toNat : Int) := by
  show IntKind.u8.wrap ((BitVec.ofInt 8 (a.toNat : Int) ^^^ BitVec.ofInt 8 (b.toNat : Int)).toNat : Int) = _
  rw [bv8, bv8, wrap8]; rfl
theorem or8 (a b : UInt8) : bits .or .u8 (a.toNat : Int) (b.toNat : Int) = ((a ||| b).toNat : Int) := by
  show IntKind.u8.wrap ((BitVec.ofInt 8 (a.toNat : Int) ||| BitVec.ofInt 8 (b.toNat : Int)).toNat : Int) = _
  rw [bv8, bv8, wrap8]; rfl
theorem and8 (a b : UInt8) : bits .and .u8 (a.toNat : Int) (b.toNat : Int) = ((a &&& b).toNat : Int) := by
  show IntKind.u8.wrap ((BitVec.ofInt 8 (a.toNat : Int) &&& BitVec.ofInt 8 (b.toNat : Int)).toNat : Int) = _
  rw [bv8, bv8, wrap8]; rfl

theorem bv64 (a : Nat) (_h : a < 9223372036854775808) : BitVec.ofInt 64 (a : Int) = BitVec.ofNat 64 a := by
  rw [BitVec.ofInt_natCast]
theorem wrap64 (n : Nat) (h : n < 9223372036854775808) : IntKind.i64.wrap (n : Int) = (n : Int) := IntWalk.i64_in _ (by omega)
theorem or64 (a b : Nat) (ha : a < 9223372036854775808) (hb : b < 9223372036854775808) : bits .or .i64 (a : Int) (b : Int) = ((a ||| b : Nat) : Int) := by
  show IntKind.i64.wrap ((BitVec.ofInt 64 (a : Int) ||| BitVec.ofInt 64 (b : Int)).toNat : Int) = _
  have h := Nat.or_lt_two_pow (n := 63) ha hb
  rw [bv64 a ha, bv64 b hb, BitVec.toNat_or, BitVec.toNat_ofNat, BitVec.toNat_ofNat, Nat.mod_eq_of_lt (by omega), Nat.mod_eq_of_lt (by omega), wrap64 _ h]
theorem xor64 (a b : Nat) (ha : a < 9223372036854775808) (hb : b < 9223372036854775808) : bits .xor .i64 (a : Int) (b : Int) = ((a ^^^ b : Nat) : Int) := by
  show IntKind.i64.wrap ((BitVec.ofInt 64 (a : Int) ^^^ BitVec.ofInt 64 (b : Int)).toNat : Int) = _
  have h := Nat.xor_lt_two_pow (n := 63) ha hb
  rw [bv64 a ha, bv64 b hb, BitVec.toNat_xor, BitVec.toNat_ofNat, BitVec.toNat_ofNat, Nat.mod_eq_of_lt (by omega), Nat.mod_eq_of_lt (by omega), wrap64 _ h]
theorem and64 (a b : Nat) (ha : a < 9223372036854775808) (hb : b < 9223372036854775808) : bits .and .i64 (a : Int) (b : Int) = ((a &&& b : Nat) : Int) := by
  show IntKind.i64.wrap ((BitVec.ofInt 64 (a : Int) &&& BitVec.ofInt 64 (b : Int)).toNat : Int) = _
  have h := Nat.and_lt_two_pow (n := 63) a hb
  rw [bv64 a ha, bv64 b hb, BitVec.toNat_and, BitVec.toNat_ofNat, BitVec.toNat_ofNat, Nat.mod_eq_of_lt (by omega), Nat.mod_eq_of_lt (by omega), wrap64 _ h]
end Go.Proofs.Ytpahihcnmpeenaa.BitsM
namespace Go.Proofs.Ytpahihcnmpeenaa
open Go.RowKit Go.Proofs.Ytpahihcnmpeenaa.Hexa Go.Proofs.Ytpahihcnmpeenaa.Byt Go.Proofs.Ytpahihcnmpeenaa.BitsM

theorem infoByte : (Try.prog.info? 5).map (fun i => (i.zero, i.size, i.bytes)) = some (some (.int .u8 0), 1, 1) := by kernel_rfl
/-- One byte appended, in the block of the walk's own one-cell slice. -/
theorem outB (w : World) {B : Nat} {v : Value} {l : List UInt8} (h : Bytes w B 5 v l) (hB : B ≤ w.heap.size) (ty : TypeId) (c : UInt8) (x : Int) (hx : x = c.toNat) (hl : l.length ≤ 100000000) :
    Out Try.prog #[22, 22] ty #[v, .slice (some ⟨w.heap.size, 0, none⟩) 1 1] (w.alloc (.cells #[.int .u8 x] 5)) B 5 (l ++ [c]) := by
  obtain ⟨i0, hi, hz0, hz1, hz2⟩ := info_parts infoByte
  subst hx
  refine append_cells Try.underlying22 hi hz0 hz1 hz2 _ (bytes_alloc h _) (by simp; omega) ty ⟨w.heap.size, 0, none⟩ 1 [c] ?_ (by simp; omega)
  exact World.news_of_block (heap_alloc_new _ _)

/-- One byte n times. -/
def longB (n : Nat) (x : UInt8) : ByteArray := ⟨(List.replicate n x).toArray⟩
theorem longB_size (n : Nat) (x : UInt8) : (longB n x).size = n := by show (List.replicate n x).toArray.size = n; simp

theorem bytes_set {w : World} {B e g c : Nat} {l : List UInt8} (h : Bytes w B e (.slice (some ⟨g, 0, none⟩) l.length c) l) (k : Nat) (x : UInt8) :
    Bytes (w.setCell ⟨g, k, none⟩ (.int .u8 x.toNat)) B e (.slice (some ⟨g, 0, none⟩) l.length c) (l.set k x) := by
  rcases h with ⟨h, _⟩ | ⟨g', cap, cur, fz, hv, hb, hg, hfz, hlc, hm, hcs, htk⟩
  · cases h
  · simp at hv
    obtain ⟨rfl, rfl⟩ := hv
    rw [setCell_eq_setRow w g k cur e fz _ hg]
    refine .inr ⟨g, c, _, fz, by simp, hb, setRow_heap w g cur _ e fz hg, by simpa using hfz, by simpa using hlc, hm, by simpa using hcs, ?_⟩
    rw [Array.toList_setIfInBounds, List.length_set, List.take_set, htk]
    simp [bcells, List.map_set]
theorem bytes_at {w : World} {B e g c : Nat} {l : List UInt8} (h : Bytes w B e (.slice (some ⟨g, 0, none⟩) l.length c) l) (k : Nat) (hk : k < l.length) :
    w.cell? ⟨g, k, none⟩ = some (.int .u8 (l[k]).toNat) ∧ w.frozen? ⟨g, k, none⟩ = false ∧ B ≤ g := by
  rcases h with ⟨h, _⟩ | ⟨g', cap, cur, fz, hv, hb, hg, hfz, hlc, hm, hcs, htk⟩
  · cases h
  · simp at hv
    obtain ⟨rfl, rfl⟩ := hv
    refine ⟨?_, ?_, hb⟩
    · have := bytes_cells (_cap := c) hg htk k (.int .u8 (l[k]).toNat) (by simp [bcells, hk])
      have hadd : (⟨g, 0, none⟩ : Addr).add k = ⟨g, k, none⟩ := by unfold Addr.add; split <;> simp_all
      rwa [hadd] at this
    · obtain ⟨lo, hi'⟩ := fz
      simp only [World.frozen?, hg, Bool.and_eq_false_iff, decide_eq_false_iff_not]
      rcases hfz with h | h
      · right; cases h; omega
      · left; simp only at h; omega

end Go.Proofs.Ytpahihcnmpeenaa
namespace Go.Proofs.Ytpahihcnmpeenaa
open Go.RowKit Go.Proofs.Ytpahihcnmpeenaa.Hexa Go.Proofs.Ytpahihcnmpeenaa.Byt Go.Proofs.Ytpahihcnmpeenaa.BitsM

set_option maxRecDepth 100000 in
set_option maxHeartbeats 400000 in
theorem range_any (n a b : Int) (w : World) : Calls Try.prog 51 #[.int .i64 n, .int .i64 a, .int .i64 b] w fun e w' => e = .returned (.bool (decide (a ≤ n ∧ n ≤ b))) ∧ w' = w := by
  by_cases h1 : a ≤ n <;> by_cases h2 : n ≤ b
  all_goals
    go_enter Try.func51, Try.ntmps51
    go_wp2
    all_goals go_ret
    all_goals exact ⟨by simp [h1, h2], rfl⟩
theorem range_yes {n a b : Int} (w : World) (h : a ≤ n ∧ n ≤ b) : Calls Try.prog 51 #[.int .i64 n, .int .i64 a, .int .i64 b] w fun e w' => e = .returned (.bool true) ∧ w' = w :=
  (range_any n a b w).mono fun _ _ ⟨he, hw⟩ => ⟨by rw [he, decide_eq_true h], hw⟩
theorem range_no {n a b : Int} (w : World) (h : ¬ (a ≤ n ∧ n ≤ b)) : Calls Try.prog 51 #[.int .i64 n, .int .i64 a, .int .i64 b] w fun e w' => e = .returned (.bool false) ∧ w' = w :=
  (range_any n a b w).mono fun _ _ ⟨he, hw⟩ => ⟨by rw [he, decide_eq_false h], hw⟩
end Go.Proofs.Ytpahihcnmpeenaa
namespace Go.Proofs.Ytpahihcnmpeenaa
open Go.RowKit Go.Proofs.Ytpahihcnmpeenaa.Parts Go.Proofs.Ytpahihcnmpeenaa.Hexa

theorem ret_boolm {a b : Bool} (h : a = b) : Ending.returned (.bool a) = .returned (.bool b) := by rw [h]

set_option maxRecDepth 100000 in
set_option maxHeartbeats 400000 in
theorem size_any (w : World) : Calls Try.prog 66 #[] w fun e w' => e = .returned (.int .i64 16) ∧ w' = w := by
  go_enter Try.func66, Try.ntmps66
  go_wp2
  go_ret
  exact ⟨rfl, rfl⟩

theorem below_drewsN {B : Nat} {a w : World} (h : Below B a w) (m : Nat) : Below B a (w.drewN m) := ⟨h.os, h.tape, h.output, h.size, h.block⟩
/-- A call that leaves the world alone, in a region behind another one that drew. -/
theorem quiet_anew {P : Program} {f : FuncId} {args : Array Value} {w : World} {a n : Nat} {v : Value} (c : ∀ W : World, Calls P f args W fun e w' => e = .returned v ∧ w' = W) :
    Calls P f args (w.drewN (a + n)) fun e w'' => e = .returned v ∧ ∃ m, w'' = w.drewN (a + m) :=
  (c _).mono fun _ _ ⟨he, hw⟩ => ⟨he, n, hw⟩
theorem ok_bad {K : ByteArray} {L : List C3} {k : Nat} (hk : k < L.length) (h : ¬ CellOk K L k) : ¬ MemOk K L := fun x => h (x.2.2 k hk)
theorem below_two {w w' : World} {u v : Value} {t : TypeId} (h : Below (w.heap.size + 1) (w.alloc (.cells #[u, v] t)) w') : w'.heap[w.heap.size]? = some (.cells #[u, v] t (0, 0)) :=
  (h.block _ (by omega)).trans (heap_alloc_new _ _)

set_option maxRecDepth 100000 in
set_option maxHeartbeats 2000000 in
theorem specOk_any (K : ByteArray) (a : Option Addr) (n c : Nat) (L : List C3) (w : World) (hs : SrcC w a n L) (hn : n ≤ 1048600) (hK : K.size ≤ 1048600) :
    Calls Try.prog 28 #[.agg #[.string K, .slice a n c]] w fun e w' => e = .returned (.bool (memOkB K L)) ∧ Below w.heap.size w w' := by
  have HS := Lib.hid hs
  have HL := Lib.hid hs.len
  have hw16 : IntKind.i64.wrap 16000 = 16000 := by decide
  clear hs
  have hb0 : Below w.heap.size w (w.alloc (.cells #[.string K, .slice a n c] 26)) := (Below.refl _ _).alloc (Nat.le_refl _) _
  have B0 := Lib.hid hb0
  clear hb0
  by_cases h1 : K.size % 16 = 0
  · have hm3 : (K.size : Int) % 16 = 0 := by omega
    by_cases h2 : K.size ≤ 16000
    · have hd3 : ((K.size / 16 : Nat) : Int) = (K.size : Int) / 16 := by omega
      have hd4 : (0 : Int) ≤ (K.size : Int) / 16 ∧ (K.size : Int) / 16 ≤ 1000 := by omega
      go_enter Try.func28, Try.ntmps28
      go_wp2
      go_quiet ((go_at_call 66; exact Calls.quiet_of_same (size_any _)))
      go_wp2
      go_loopw [3] (fun iv wr => ∃ k : Nat, k ≤ n ∧ iv = .int .i64 k ∧ Hid (∀ j, j < k → CellOk K L j) ∧ Hid (Below (w.heap.size + 1) (w.alloc (.cells #[.string K, .slice a n c] 26)) wr)) (fun iv _ => n - (intOf iv).toNat)
      case atStart => exact ⟨0, Nat.zero_le _, rfl, Lib.hid (fun j hj => by omega), Lib.hid (below_drewsN (Below.refl _ _) _)⟩
      case round =>
        obtain ⟨k, hk, rfl, HA, HB⟩ := hrel
        have BW : Hid (Below w.heap.size w wr) := Lib.hid (B0.out.trans (HB.out.mono (by omega)))
        have k0 := below_two HB.out
        have q0 := cell0_of_two k0
        have q1 := cell1_of_two k0
        have hsz : Hid (w.heap.size + 1 ≤ wr.heap.size) := Lib.hid (by have := HB.out.size; simp at this; omega)
        clear k0
        by_cases hlt : k < n
        · obtain ⟨g, off, ha, hg, d1, d2, d3⟩ := HS.out.cells3_at BW.out (Nat.le_refl _) k hlt
          obtain ⟨x, hx⟩ : ∃ x, L.getD k default = x := ⟨_, rfl⟩
          rw [hx] at d1 d2 d3
          have B1 : Hid (Below (w.heap.size + 1) (w.alloc (.cells #[.string K, .slice a n c] 26)) (wr.alloc (.cells #[.int .i64 x.l, .string x.t, .bool x.f] 68))) := Lib.hid (HB.out.alloc hsz.out _)
          have hpr : Hid (∀ j, j < n → ∃ v, w.cell? ⟨g, off + j * 3, none⟩ = some (.int .i64 v) ∧ v = (L.getD j default).l) := Lib.hid (fun j hj => by
            obtain ⟨g', off', ha', _, c1, _, _⟩ := HS.out.cells3 j hj
            rw [ha] at ha'; cases ha'
            exact ⟨_, c1, rfl⟩)
          have z0 := cell0_of_two (below_two B1.out)
          have z1 := cell1_of_two (below_two B1.out)
          subst ha
          by_cases i1 : 0 ≤ x.l ∧ x.l ≤ (K.size : Int) / 16 - 1
          · have I1 := Lib.hid i1
            clear i1
            by_cases i2 : x.t.size = 16
            · have hi2 : (x.t.size : Int) = 16 := by omega
              match k with
              | 0 =>
                have HX := Lib.hid hx
                clear hx
                simp only [Nat.zero_mul, Nat.add_zero] at d1 d2 d3
                go_wp2
                go_quiet (first
                  | (go_at_call 66; exact Calls.quiet_of_same (size_any _))
                  | (go_at_call 51; exact Calls.quiet_of_same (range_yes _ I1.out)))
                go_wp2
                go_roundw
                case rel => exact ⟨1, by omega, rfl, Lib.hid (fun j hj => by
                  obtain rfl : j = 0 := by omega
                  unfold CellOk
                  rw [HX.out]
                  have := I1.out
                  exact ⟨by omega, by omega, i2, fun h => by omega⟩), Lib.hid (below_drewsN B1.out _)⟩
                case measure => (simp [intOf]; try omega)
              | k + 1 =>
                obtain ⟨yv, hy1, hy2⟩ := hpr.out k (by omega)
                have p1 := ((BW.out.alloc (by have := hsz.out; omega) (.cells #[.int .i64 x.l, .string x.t, .bool x.f] 68)).cell (p := ⟨g, off + k * 3, none⟩) hg).trans hy1
                have HX := Lib.hid hx
                have HY := Lib.hid hy2
                clear hx hy1 hy2
                by_cases i3 : yv < x.l
                · go_wp2
                  go_quiet (first
                    | (go_at_call 66; exact Calls.quiet_of_same (size_any _))
                    | (go_at_call 51; exact Calls.quiet_of_same (range_yes _ I1.out)))
                  go_wp2
                  go_roundw
                  case rel => exact ⟨k + 2, by omega, by go_num, Lib.hid (fun j hj => by
                    by_cases e : j = k + 1
                    · subst e
                      unfold CellOk
                      rw [HX.out]
                      have := I1.out
                      have hyy := HY.out
                      exact ⟨by omega, by omega, i2, fun _ => by rw [show k + 1 - 1 = k by omega, ← hyy]; exact i3⟩
                    · exact HA.out j (by omega)), Lib.hid (below_drewsN B1.out _)⟩
                  case measure => (simp [intOf]; try omega)
                · have HT : Hid (¬ MemOk K L) := Lib.hid (ok_bad (k := k + 1) (by have := HL.out; omega) (fun h => by
                    have h4 := h.2.2.2 (by omega)
                    rw [HX.out, show k + 1 - 1 = k by omega, ← HY.out] at h4
                    exact i3 h4))
                  have i4 : x.l ≤ yv := by omega
                  go_wp2
                  go_quiet (first
                    | (go_at_call 66; exact Calls.quiet_of_same (size_any _))
                    | (go_at_call 51; exact Calls.quiet_of_same (range_yes _ I1.out)))
                  go_wp2
                  go_ret
                  exact ⟨ret_boolm (memOkB_no HT.out).symm, below_drewsN (B0.out.trans (B1.out.mono (by omega))) _⟩
            · have hi2 : ((x.t.size : Int) != 16) = true := by have : ¬ ((x.t.size : Int) = 16) := by omega
                                                               simpa using this
              have HT : Hid (¬ MemOk K L) := Lib.hid (ok_bad (k := k) (by have := HL.out; omega) (fun h => i2 (by rw [← hx]; exact h.2.2.1)))
              go_wp2
              go_quiet (first
                | (go_at_call 66; exact Calls.quiet_of_same (size_any _))
                | (go_at_call 51; exact Calls.quiet_of_same (range_yes _ I1.out)))
              go_wp2
              go_ret
              exact ⟨ret_boolm (memOkB_no HT.out).symm, below_drewsN (B0.out.trans (B1.out.mono (by omega))) _⟩
          · have I1 := Lib.hid i1
            have HT : Hid (¬ MemOk K L) := Lib.hid (ok_bad (k := k) (by have := HL.out; omega) (fun h => i1 (by rw [← hx]; exact ⟨h.1, by have := h.2.1; omega⟩)))
            clear i1
            go_wp2
            go_quiet (first
              | (go_at_call 66; exact Calls.quiet_of_same (size_any _))
              | (go_at_call 51; exact Calls.quiet_of_same (range_no _ I1.out)))
            go_wp2
            go_ret
            exact ⟨ret_boolm (memOkB_no HT.out).symm, below_drewsN (B0.out.trans (B1.out.mono (by omega))) _⟩
        · obtain rfl : k = n := by omega
          have HT : Hid (MemOk K L) := Lib.hid ⟨h1, h2, fun j hj => HA.out j (by rw [HL.out] at hj; exact hj)⟩
          go_wp2
          go_ret
          exact ⟨ret_boolm (memOkB_yes HT.out).symm, BW.out⟩
    · have h2' : ¬ ((K.size : Int) ≤ 16000) := by omega
      have HT : Hid (¬ MemOk K L) := Lib.hid (fun h => h2 h.2.1)
      go_enter Try.func28, Try.ntmps28
      go_wp2
      go_quiet ((go_at_call 66; exact Calls.quiet_of_same (size_any _)))
      go_wp2
      go_ret
      exact ⟨ret_boolm (memOkB_no HT.out).symm, below_drewsN B0.out _⟩
  · have ht3 : (K.size : Int).tmod 16 = (K.size : Int) % 16 := Int.tmod_eq_emod_of_nonneg (by omega)
    have hm3 : ((K.size : Int) % 16 != 0) = true := by have : ¬ ((K.size : Int) % 16 = 0) := by omega
                                                       simpa using this
    have HT : Hid (¬ MemOk K L) := Lib.hid (fun h => h1 h.1)
    go_enter Try.func28, Try.ntmps28
    go_wp2
    go_quiet ((go_at_call 66; exact Calls.quiet_of_same (size_any _)))
    go_wp2
    go_ret
    exact ⟨ret_boolm (memOkB_no HT.out).symm, below_drewsN B0.out _⟩
end Go.Proofs.Ytpahihcnmpeenaa
namespace Go.Proofs.Ytpahihcnmpeenaa
open Go.RowKit Go.Proofs.Ytpahihcnmpeenaa.Parts Go.Proofs.Ytpahihcnmpeenaa.Hexa

set_option maxRecDepth 100000 in
set_option maxHeartbeats 2000000 in
theorem implOk_any (K : ByteArray) (a : Option Addr) (n c : Nat) (L : List C3) (w : World) (hs : SrcC w a n L) (hn : n ≤ 1048600) (hK : K.size ≤ 1048600) :
    Calls Try.prog 25 #[.agg #[.string K, .slice a n c]] w fun e w' => e = .returned (.bool (memOkB K L)) ∧ Below w.heap.size w w' := by
  have HS := Lib.hid hs
  have HL := Lib.hid hs.len
  clear hs
  have hb0 : Below w.heap.size w (w.alloc (.cells #[.string K, .slice a n c] 26)) := (Below.refl _ _).alloc (Nat.le_refl _) _
  have B0 := Lib.hid hb0
  clear hb0
  have ht3 : (K.size : Int).tmod 16 = (K.size : Int) % 16 := Int.tmod_eq_emod_of_nonneg (by omega)
  have ht4 : (K.size : Int).tdiv 16 = (K.size : Int) / 16 := Int.tdiv_eq_ediv_of_nonneg (by omega)
  by_cases h1 : K.size % 16 = 0
  · have hm3 : (K.size : Int) % 16 = 0 := by omega
    by_cases h2 : K.size ≤ 16000
    · have hd4 : (0 : Int) ≤ (K.size : Int) / 16 ∧ (K.size : Int) / 16 ≤ 1000 := by omega
      go_enter Try.func25, Try.ntmps25
      go_wp2
      go_loopw [4, 23] (fun lv iv wr => ∃ (k : Nat) (le : Int), k ≤ n ∧ iv = .int .i64 k ∧ lv = .int .i64 le ∧ 0 ≤ le ∧ le ≤ 1000 ∧ Hid ((k = 0 ∧ le = 0) ∨ (0 < k ∧ le = (L.getD (k - 1) default).l + 1)) ∧ Hid (∀ j, j < k → CellOk K L j) ∧ Hid (Below (w.heap.size + 1) (w.alloc (.cells #[.string K, .slice a n c] 26)) wr)) (fun _ iv _ => n - (intOf iv).toNat)
      case atStart => exact ⟨0, 0, Nat.zero_le _, rfl, rfl, by omega, by omega, Lib.hid (.inl ⟨rfl, rfl⟩), Lib.hid (fun j hj => by omega), Lib.hid (Below.refl _ _)⟩
      case round =>
        obtain ⟨k, le, hk, rfl, rfl, hl0, hl1, HP, HA, HB⟩ := hrel
        have BW : Hid (Below w.heap.size w wr) := Lib.hid (B0.out.trans (HB.out.mono (by omega)))
        have hsz : Hid (w.heap.size + 1 ≤ wr.heap.size) := Lib.hid (by have := HB.out.size; simp at this; omega)
        by_cases hlt : k < n
        · obtain ⟨g, off, rfl, hg, d1, d2, d3⟩ := HS.out.cells3_at BW.out (Nat.le_refl _) k hlt
          obtain ⟨x, hx⟩ : ∃ x, L.getD k default = x := ⟨_, rfl⟩
          rw [hx] at d1 d2 d3
          have B1 : Hid (Below (w.heap.size + 1) (w.alloc (.cells #[.string K, .slice (some ⟨g, off, none⟩) n c] 26)) (wr.alloc (.cells #[.int .i64 x.l, .string x.t, .bool x.f] 68))) := Lib.hid (HB.out.alloc hsz.out _)
          have HX := Lib.hid hx
          clear hx
          by_cases i1 : x.l < le
          · have HT : Hid (¬ MemOk K L) := Lib.hid (ok_bad (k := k) (by have := HL.out; omega) (fun h => by
              rcases HP.out with ⟨_, h4⟩ | ⟨h3, h4⟩
              · have := h.1; rw [HX.out] at this; omega
              · have := h.2.2.2 h3; rw [HX.out] at this; omega))
            go_wp2
            go_ret
            exact ⟨ret_boolm (memOkB_no HT.out).symm, B0.out.trans (B1.out.mono (by omega))⟩
          · by_cases i2 : (K.size : Int) / 16 ≤ x.l
            · have HT : Hid (¬ MemOk K L) := Lib.hid (ok_bad (k := k) (by have := HL.out; omega) (fun h => by have := h.2.1; rw [HX.out] at this; omega))
              go_wp2
              go_ret
              exact ⟨ret_boolm (memOkB_no HT.out).symm, B0.out.trans (B1.out.mono (by omega))⟩
            · by_cases i3 : x.t.size = 16
              · have hi3 : (x.t.size : Int) = 16 := by omega
                go_wp2
                go_roundw
                case rel => exact ⟨k + 1, x.l + 1, by omega, by go_num, rfl, by omega, by omega, Lib.hid (.inr ⟨by omega, by rw [show k + 1 - 1 = k by omega, HX.out]⟩), Lib.hid (fun j hj => by
                  by_cases e : j = k
                  · subst e
                    unfold CellOk
                    rw [HX.out]
                    refine ⟨by omega, by omega, i3, fun h => ?_⟩
                    rcases HP.out with ⟨h3, _⟩ | ⟨_, h4⟩
                    · omega
                    · omega
                  · exact HA.out j (by omega)), B1⟩
                case measure => (simp [intOf]; try omega)
              · have hi3 : ((x.t.size : Int) != 16) = true := by have : ¬ ((x.t.size : Int) = 16) := by omega
                                                                 simpa using this
                have HT : Hid (¬ MemOk K L) := Lib.hid (ok_bad (k := k) (by have := HL.out; omega) (fun h => i3 (by rw [← HX.out]; exact h.2.2.1)))
                go_wp2
                go_ret
                exact ⟨ret_boolm (memOkB_no HT.out).symm, B0.out.trans (B1.out.mono (by omega))⟩
        · obtain rfl : k = n := by omega
          have HT : Hid (MemOk K L) := Lib.hid ⟨h1, h2, fun j hj => HA.out j (by rw [HL.out] at hj; exact hj)⟩
          go_wp2
          go_ret
          exact ⟨ret_boolm (memOkB_yes HT.out).symm, BW.out⟩
    · have h2' : ¬ ((K.size : Int) / 16 ≤ 1000) := by omega
      have HT : Hid (¬ MemOk K L) := Lib.hid (fun h => h2 h.2.1)
      go_enter Try.func25, Try.ntmps25
      go_wp2
      go_ret
      exact ⟨ret_boolm (memOkB_no HT.out).symm, B0.out⟩
  · have hm3 : ((K.size : Int) % 16 != 0) = true := by have : ¬ ((K.size : Int) % 16 = 0) := by omega
                                                       simpa using this
    have HT : Hid (¬ MemOk K L) := Lib.hid (fun h => h1 h.1)
    go_enter Try.func25, Try.ntmps25
    go_wp2
    go_ret
    exact ⟨ret_boolm (memOkB_no HT.out).symm, B0.out⟩
end Go.Proofs.Ytpahihcnmpeenaa
namespace Go.Proofs.Ytpahihcnmpeenaa
open Go.RowKit Go.Proofs.Ytpahihcnmpeenaa.Parts Go.Proofs.Ytpahihcnmpeenaa.Hexa
theorem ret_str {a b : ByteArray} (h : a = b) : Ending.returned (.string a) = .returned (.string b) := by rw [h]

set_option maxRecDepth 100000 in
set_option maxHeartbeats 1000000 in
theorem markText_any (k : Nat) (w : World) (h0 : 0 < k) (hk : k ≤ 100000000) :
    Calls Try.prog 84 #[.int .i64 k] w fun e w' => e = .returned (.string (markT k)) ∧ Below w.heap.size w w' := by
  go_enter Try.func84, Try.ntmps84
  go_wp2
  go_loopw [0, 3] (fun kv sv wr => ∃ (j : Nat) (t : ByteArray), j ≤ k ∧ t.size ≤ k ∧ Hid (digs j ++ t.data.toList = digs k) ∧ kv = .int .i64 j ∧ sv = .string t ∧ Below w.heap.size w wr) (fun kv _ _ => (intOf kv).toNat)
  case atStart => exact ⟨k, ⟨#[]⟩, Nat.le_refl _, Nat.zero_le _, Lib.hid (by simp), rfl, rfl, Below.refl _ _⟩
  case round =>
    obtain ⟨j, t, hj, ht, HD, rfl, rfl, hbel⟩ := hrel
    by_cases hlt : 0 < j
    · obtain ⟨cs, hcs, hcd, hce⟩ := one_byte (UInt8.ofNat (48 + j % 10))
      have HC := Lib.hid hcd
      have HT := Lib.hid (digs_round hlt HD.out hcd)
      have HS := digs_size HT.out
      have HS' : cs.size + t.size ≤ 100000001 := by omega
      have en : ((UInt8.ofNat (48 + j % 10)).toNat : Int) = 48 + (j : Int) % 10 := by rw [UInt8.toNat_ofNat']; omega
      have hown := World.ownsRow_lit (e := 5) (size := 1) (base := w.heap.size) wr #[.int .u8 (48 + (j : Int) % 10)] 1 hbel.size (by decide) rfl
      have hconv := own_string (P := Try.prog) (l := [UInt8.ofNat (48 + j % 10)]) 22 9 Try.underlying22 Try.underlying5 Try.underlying9 (by rw [show bcells [UInt8.ofNat (48 + j % 10)] = [Value.int .u8 (48 + (j : Int) % 10)] by simp only [bcells, List.map, en]]; exact hown)
      rw [← hce] at hconv
      clear hown hcd hce en
      go_wp2
      go_roundw
      case rel => exact ⟨j / 10, cs ++ t, by omega, HS, HT, by go_num, rfl, hbel.alloc hbel.size _⟩
      case measure => (simp [intOf]; omega)
    · obtain rfl : j = 0 := by omega
      go_wp2
      go_ret
      exact ⟨ret_str (mark_end HD.out), hbel⟩

end Go.Proofs.Ytpahihcnmpeenaa
