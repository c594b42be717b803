/- Slices of a memory's cells and memories: copied, compared. -/
import Derived.Test.YtlemlgadjapamaaCellA
namespace Go.Proofs.Ytlemlgadjapamaa
open Go.RowKit Go.Proofs.Ytlemlgadjapamaa.Parts Go.Proofs.Ytlemlgadjapamaa.Hexa

/-- What the copy returns. -/
def CopyC (n : Nat) (L : List C3) (w : World) (e : Ending) (w' : World) : Prop :=
  e = .returned (.slice (some ⟨w.heap.size, 0, none⟩) n n) ∧ w'.ownsRow w.heap.size 68 3 (.slice (some ⟨w.heap.size, 0, none⟩) n n) n (cellsE encC L) ∧ Below w.heap.size w w'

set_option maxRecDepth 100000 in
set_option maxHeartbeats 1000000 in
theorem toCells_any (a : Option Addr) (n c : Nat) (L : List C3) (w : World) (hs : SrcC w a n L) (hn : n ≤ 1048576) :
    Calls Try.prog 72 #[.slice a n c] w (CopyC n L w) := by
  obtain ⟨i0, hi, hz0, hz1, hz2⟩ := info_parts infoCell
  have HS := Lib.hid hs
  have hL := hs.len
  clear hs
  go_enter Try.func72, Try.ntmps72
  go_wp2_with (at_make; refine wpList_make_full _ rfl _ _ 24 rfl w.heap.size 68 i0 _ 3 Try.underlying24 hi hz0 hz1 .i64 .i64 _ _ n rfl rfl rfl rfl (by rw [hz2]; omega) (by unfold maxLen; omega) (Nat.le_refl _) ?_; intro w0 hown0 hgrow0)
  have hg0 : Below w.heap.size w w0 := (Below.refl _ _).grown hgrow0 (Nat.le_refl _) (fun k h => by cases h)
  have HO0 := Lib.hid hown0
  clear hown0 hgrow0
  go_loopw [4] (fun iv wr => ∃ (k : Nat) (xs : List Value), k ≤ n ∧ iv = .int .i64 k ∧ Hid (wr.ownsRow w.heap.size 68 3 (.slice (some ⟨w.heap.size, 0, none⟩) n n) n xs) ∧ Hid (∀ j, j < k * 3 → xs[j]? = (cellsE encC L)[j]?) ∧ Below w.heap.size w wr)
    (fun iv _ => n - (intOf iv).toNat)
  case atStart => exact ⟨0, _, Nat.zero_le _, rfl, HO0, Lib.hid (fun j hj => by omega), hg0⟩
  case round =>
    clear HO0 hg0
    obtain ⟨k, xs, hk, rfl, HW, HX, hbel⟩ := hrel
    have hxl : Hid (xs.length = n * 3) := Lib.hid HW.out.1
    by_cases hlt : k < n
    · obtain ⟨g, off, rfl, hg, d1, d2, d3⟩ := HS.out.cells3_at hbel (Nat.le_refl _) k hlt
      have X1 := Lib.hid (cellsE_step encC (by omega) (by rw [hL]; exact hxl.out) HX.out)
      obtain ⟨x, hx⟩ : ∃ x, L.getD k default = x := ⟨_, rfl⟩
      rw [hx] at d1 d2 d3 X1
      clear hx
      go_wp2_with fail
      refine (toCell_any x.l x.t x.f _).mono ?_
      rintro e w1 ⟨rfl, hb1⟩
      have HW1 := Lib.hid (own_below HW.out hb1)
      obtain ⟨v1, e1⟩ := ownE_cell HW1.out (j := k * 3) (by omega)
      obtain ⟨v2, e2⟩ := ownE_cell HW1.out (j := k * 3 + 1) (by omega)
      obtain ⟨v3, e3⟩ := ownE_cell HW1.out (j := k * 3 + 2) (by omega)
      have f1 := HW1.out.frozenAt (k * 3)
      have f2 := HW1.out.frozenAt (k * 3 + 1)
      have f3 := HW1.out.frozenAt (k * 3 + 2)
      have O1 := Lib.hid (own_sets (encC.cells x) (k * 3) HW1.out)
      have hbx : Below w.heap.size w w1 := hbel.trans (hb1.mono hbel.size)
      have hb2 : Hid (Below w.heap.size w (w1.setCells w.heap.size (k * 3) (encC.cells x))) := Lib.hid (below_sets (Nat.le_refl _) _ _ hbx)
      clear d1 d2 d3 hb1 hbx
      go_wp2
      go_roundw
      case rel => exact ⟨k + 1, _, by omega, by go_num, O1, X1, hb2.out⟩
      case measure => (simp [intOf]; try omega)
    · obtain rfl : k = n := by omega
      have hfin : xs = cellsE encC L := cellsE_all encC (by rw [hL]; exact hxl.out) (by rw [hL]; exact HX.out)
      have ho := HW.out
      rw [hfin] at ho
      have HO := Lib.hid ho
      clear ho hfin
      go_wp2
      go_ret
      exact ⟨rfl, HO.out, hbel⟩

set_option maxRecDepth 100000 in
set_option maxHeartbeats 1000000 in
theorem eqCells_any (a1 a2 : Option Addr) (n c1 c2 : Nat) (L : List C3) (w : World) (hn : n ≤ 100000000) (s1 : SrcC w a1 n L) (s2 : SrcC w a2 n L) :
    Calls Try.prog 68 #[.slice a1 n c1, .slice a2 n c2] w fun e w' => e = .returned (.bool true) ∧ Below w.heap.size w w' := by
  have R1 := Lib.hid s1
  have R2 := Lib.hid s2
  clear s1 s2
  go_enter Try.func68, Try.ntmps68
  go_wp2
  go_loopw [5] (fun iv wr => ∃ k : Nat, k ≤ n ∧ iv = .int .i64 k ∧ Below w.heap.size w wr) (fun iv _ => n - (intOf iv).toNat)
  case atStart => exact ⟨0, Nat.zero_le _, rfl, Below.refl _ _⟩
  case round =>
    obtain ⟨k, hk, rfl, hbel⟩ := hrel
    by_cases hlt : k < n
    · obtain ⟨g, off, rfl, hg, d1, d2, d3⟩ := R1.out.cells3_at hbel (Nat.le_refl _) k hlt
      obtain ⟨g2, off2, rfl, hg2, m1, m2, m3⟩ := R2.out.cells3_at hbel (Nat.le_refl _) k hlt
      obtain ⟨x, hx⟩ : ∃ x, L.getD k default = x := ⟨_, rfl⟩
      rw [hx] at d1 d2 d3 m1 m2 m3
      clear hx
      go_wp2
      go_region_with (go_at_call 83; refine (eqCell_any x.l x.t x.f _).mono ?_; rintro e w1 ⟨rfl, hb1⟩)
      all_goals
        have hb2 : Below w.heap.size w w1 := hbel.drew.trans (hb1.mono hbel.size)
        clear d1 d2 d3 m1 m2 m3 hb1
        go_wp2
        go_roundw
        case rel => exact ⟨k + 1, by omega, by go_num, hb2⟩
        case measure => (simp [intOf]; try omega)
    · obtain rfl : k = n := by omega
      go_wp2
      go_ret
      exact ⟨rfl, hbel⟩

/-- What the copy of a memory returns. -/
def CopyM (K : ByteArray) (n : Nat) (L : List C3) (w : World) (e : Ending) (w' : World) : Prop :=
  ∃ g, e = .returned (.agg #[.string K, .slice (some ⟨g, 0, none⟩) n n]) ∧ w'.ownsRow w.heap.size 68 3 (.slice (some ⟨g, 0, none⟩) n n) n (cellsE encC L) ∧ Below w.heap.size w w'

theorem two_of_alloc (w : World) (u v : Value) (t : TypeId) : (w.alloc (.cells #[u, v] t)).heap[w.heap.size]? = some (.cells #[u, v] t (0, 0)) := heap_alloc_new _ _
/-- A block of two cells. -/
theorem cell0_of_two {w : World} {b : Nat} {u v : Value} {t : TypeId} (h : w.heap[b]? = some (.cells #[u, v] t (0, 0))) : w.cell? ⟨b, 0, none⟩ = some u := by simp [World.cell?, h]
theorem cell1_of_two {w : World} {b : Nat} {u v : Value} {t : TypeId} (h : w.heap[b]? = some (.cells #[u, v] t (0, 0))) : w.cell? ⟨b, 1, none⟩ = some v := by simp [World.cell?, h]
theorem free_of_two {w : World} {b o : Nat} {u v : Value} {t : TypeId} (h : w.heap[b]? = some (.cells #[u, v] t (0, 0))) : w.frozen? ⟨b, o, none⟩ = false := by simp [World.frozen?, h]
theorem two_set0 {w : World} {b : Nat} {u v x : Value} {t : TypeId} (h : w.heap[b]? = some (.cells #[u, v] t (0, 0))) : (w.setCell ⟨b, 0, none⟩ x).heap[b]? = some (.cells #[x, v] t (0, 0)) := by
  have hlt := lt_of_block h
  have h' : w.heap[b] = .cells #[u, v] t (0, 0) := by simpa [Array.getElem?_eq_getElem hlt] using h
  show (w.heap.modify b _)[b]? = _
  rw [Array.getElem?_eq_getElem (by simpa using hlt), Array.getElem_modify_self, h']
  rfl
theorem two_set1 {w : World} {b : Nat} {u v x : Value} {t : TypeId} (h : w.heap[b]? = some (.cells #[u, v] t (0, 0))) : (w.setCell ⟨b, 1, none⟩ x).heap[b]? = some (.cells #[u, x] t (0, 0)) := by
  have hlt := lt_of_block h
  have h' : w.heap[b] = .cells #[u, v] t (0, 0) := by simpa [Array.getElem?_eq_getElem hlt] using h
  show (w.heap.modify b _)[b]? = _
  rw [Array.getElem?_eq_getElem (by simpa using hlt), Array.getElem_modify_self, h']
  rfl
theorem below_heap {B : Nat} {w w' : World} (h : Below B w w') {b : Nat} (hb : b < B) : w'.heap[b]? = w.heap[b]? := h.block b hb

set_option maxRecDepth 100000 in
set_option maxHeartbeats 1000000 in
theorem toMemory_any (K : ByteArray) (a : Option Addr) (n c : Nat) (L : List C3) (w : World) (hs : SrcC w a n L) (hn : n ≤ 1048576) :
    Calls Try.prog 37 #[.agg #[.string K, .slice a n c]] w (CopyM K n L w) := by
  have HS := Lib.hid hs
  clear hs
  go_enter Try.func37, Try.ntmps37
  have hb0 : Below w.heap.size w (((w.alloc (.cells #[.string K, .slice a n c] 46)).alloc (.cells #[.string ⟨#[]⟩, .slice none 0 0] 26)).alloc (.cells #[.string K, .slice none 0 0] 26)) := (((Below.refl _ _).alloc (Nat.le_refl _) _).alloc (by simp) _).alloc (by simp; omega) _
  have k1 : (((w.alloc (.cells #[.string K, .slice a n c] 46)).alloc (.cells #[.string ⟨#[]⟩, .slice none 0 0] 26)).alloc (.cells #[.string K, .slice none 0 0] 26)).heap[w.heap.size + 1]? = some (.cells #[.string ⟨#[]⟩, .slice none 0 0] 26 (0, 0)) := by
    rw [Below.heap_alloc _ _ _ (by simp)]
    have h := heap_alloc_new (w.alloc (.cells #[.string K, .slice a n c] 46)) (.cells #[.string ⟨#[]⟩, .slice none 0 0] 26)
    simpa using h
  have k2 : (((w.alloc (.cells #[.string K, .slice a n c] 46)).alloc (.cells #[.string ⟨#[]⟩, .slice none 0 0] 26)).alloc (.cells #[.string K, .slice none 0 0] 26)).heap[w.heap.size + 1 + 1]? = some (.cells #[.string K, .slice none 0 0] 26 (0, 0)) := by
    have h := heap_alloc_new ((w.alloc (.cells #[.string K, .slice a n c] 46)).alloc (.cells #[.string ⟨#[]⟩, .slice none 0 0] 26)) (.cells #[.string K, .slice none 0 0] 26)
    simpa using h
  have k3 : (((w.alloc (.cells #[.string K, .slice a n c] 46)).alloc (.cells #[.string ⟨#[]⟩, .slice none 0 0] 26)).alloc (.cells #[.string K, .slice none 0 0] 26)).heap.size = w.heap.size + 3 := by simp
  have K1 := Lib.hid k1
  have K2 := Lib.hid k2
  have K3 := Lib.hid k3
  have B0 := Lib.hid hb0
  clear k1 k2 k3 hb0
  go_wp2_with fail
  obtain ⟨W3, hW⟩ : ∃ x, x = ((w.alloc (.cells #[.string K, .slice a n c] 46)).alloc (.cells #[.string ⟨#[]⟩, .slice none 0 0] 26)).alloc (.cells #[.string K, .slice none 0 0] 26) := ⟨_, rfl⟩
  rw [← hW] at K1 K2 K3 B0 ⊢
  clear hW
  refine (toCells_any a n c L _ (HS.out.later B0.out) hn).mono ?_
  rintro e w1 ⟨rfl, hown, hb1⟩
  have k1 : w1.heap[w.heap.size + 1]? = _ := (hb1.block _ (by rw [K3.out]; omega)).trans K1.out
  have k2 : w1.heap[w.heap.size + 1 + 1]? = _ := (hb1.block _ (by rw [K3.out]; omega)).trans K2.out
  have c0 := cell0_of_two k2
  have c1 := cell1_of_two k2
  have f2 := free_of_two (o := 1) k2
  have r0 := cell0_of_two k1
  have r1 := cell1_of_two k1
  have f0 := free_of_two (o := 0) k1
  have f1 := free_of_two (o := 1) k1
  have B1 : Hid (Below w.heap.size w w1) := Lib.hid (B0.out.trans (hb1.mono B0.out.size))
  have HO := Lib.hid hown
  have hs1 := hb1.size
  rw [K3.out] at hs1
  rw [K3.out] at HO ⊢
  have S1 := Lib.hid hs1
  have E1 := Lib.hid (two_set1 (two_set0 ((Below.heap_setCell w1 ⟨w.heap.size + 1 + 1, 1, none⟩ (.slice (some ⟨w.heap.size + 3, 0, none⟩) n n) (w.heap.size + 1) (by simp)).trans k1) (x := .string K)) (x := .slice (some ⟨w.heap.size + 3, 0, none⟩) n n))
  clear k1 k2 hb1 hown hs1
  go_wp2
  refine bodyPost_ret (v := .agg #[.string K, .slice (some ⟨w.heap.size + 3, 0, none⟩) n n]) ?_ rfl ⟨_, rfl, ?_, ?_⟩
  · have q0 := cell0_of_two E1.out
    have q1 := cell1_of_two E1.out
    simp [results, Try.results37, go_sem, q0, q1]
  · exact ownsRow_setCell_other (ownsRow_setCell_other (ownsRow_setCell_other (ownE_mono HO.out (by omega)) (by simp [Value.ownBlock]) _) (by simp [Value.ownBlock]) _) (by simp [Value.ownBlock]) _
  · exact ((((B1.out.setCell (by simp; omega) _).setCell (by simp) _).setCell (by simp) _))

set_option maxRecDepth 100000 in
set_option maxHeartbeats 1000000 in
theorem eqMemory_any (K : ByteArray) (a1 a2 : Option Addr) (n c1 c2 : Nat) (L : List C3) (w : World) (hn : n ≤ 100000000) (s1 : SrcC w a1 n L) (s2 : SrcC w a2 n L) :
    Calls Try.prog 33 #[.agg #[.string K, .slice a1 n c1], .agg #[.string K, .slice a2 n c2]] w fun e w' => e = .returned (.bool true) ∧ Below w.heap.size w w' := by
  have R1 := Lib.hid s1
  have R2 := Lib.hid s2
  clear s1 s2
  go_enter Try.func33, Try.ntmps33
  go_wp2_with fail
  have hb0 : Below w.heap.size w ((w.alloc (.cells #[.string K, .slice a1 n c1] 26)).alloc (.cells #[.string K, .slice a2 n c2] 26)) := ((Below.refl _ _).alloc (Nat.le_refl _) _).alloc (by simp) _
  refine (eqCells_any a1 a2 n c1 c2 L _ hn (R1.out.later hb0) (R2.out.later hb0)).mono ?_
  rintro e w1 ⟨rfl, hb1⟩
  have hb2 : Below w.heap.size w w1 := hb0.trans (hb1.mono hb0.size)
  clear hb0 hb1
  go_wp2
  go_ret
  exact ⟨rfl, hb2⟩
end Go.Proofs.Ytlemlgadjapamaa
