/- How the model makes the box: the powers of 3, and the inverse of each. -/
import Derived.Test.YtepnnmckbcomjaaDoorAesMem
namespace Go.Proofs.YtepnnmckbcomjaaDoor
open Go.RowKit Go.Proofs.YtepnnmckbcomjaaDoor.Hexa Go.Proofs.YtepnnmckbcomjaaDoor.Byt Go.Proofs.YtepnnmckbcomjaaDoor.Aes Go.Proofs.YtepnnmckbcomjaaDoor.Fld

/-- 3 to a power. -/
def p3 : Nat → Nat
  | 0 => 1
  | n + 1 => p3 n ^^^ dbl (p3 n)
theorem p3_lt : ∀ n, p3 n < 256
  | 0 => by decide
  | n + 1 => xor_lt (p3_lt n) (dbl_lt _ (p3_lt n))
/-- The cells of a row of numbers. -/
def ncells (l : List Nat) : Array Value := (l.map fun n : Nat => Value.int .i64 (n : Int)).toArray
def padP (i : Nat) : List Nat := (List.range i).map p3 ++ List.replicate (255 - i) 0
theorem padP_length (i : Nat) (h : i ≤ 255) : (padP i).length = 255 := by simp [padP]; omega
theorem padP_set (i : Nat) (h : i < 255) : (padP i).set i (p3 i) = padP (i + 1) := by
  obtain ⟨m, hm⟩ : ∃ m, 255 - i = m + 1 := ⟨255 - i - 1, by omega⟩
  have h2 : 255 - (i + 1) = m := by omega
  have e : ((List.range i).map p3).length = i := by simp
  unfold padP
  rw [h2, hm, List.replicate_succ, List.set_append_right _ _ (by omega), e, Nat.sub_self, List.set_cons_zero, List.range_succ, List.map_append, List.append_assoc]
  rfl
theorem padP_all (j : Nat) (h : j < 255) : (padP 255)[j]? = some (p3 j) := by simp [padP, h]
theorem cell_num {w : World} {g : Nat} {l : List Nat} {t : TypeId} {fr : Nat × Nat} (h : w.heap[g]? = some (.cells (ncells l) t fr)) (k x : Nat) (hk : l[k]? = some x) : w.cell? ⟨g, k, none⟩ = some (.int .i64 x) := by
  simp [World.cell?, h, ncells, hk]
theorem free_cell {w : World} {g : Nat} {cs : Array Value} {t : TypeId} (h : w.heap[g]? = some (.cells cs t (0, 0))) (k : Nat) : w.frozen? ⟨g, k, none⟩ = false := by
  simp [World.frozen?, h]
theorem set_num {w : World} {g k : Nat} {l : List Nat} {t : TypeId} (h : w.heap[g]? = some (.cells (ncells l) t (0, 0))) (x : Nat) :
    (w.setCell ⟨g, k, none⟩ (.int .i64 x)).heap[g]? = some (.cells (ncells (l.set k x)) t (0, 0)) := by
  rw [heap_setCell_same w g k _ t _ h]
  congr 2
  apply Array.toList_inj.1
  simp [ncells, List.map_set]
theorem set_byte {w : World} {g k : Nat} {l : List UInt8} {t : TypeId} (h : w.heap[g]? = some (.cells (bcells l).toArray t (0, 0))) (x : UInt8) :
    (w.setCell ⟨g, k, none⟩ (.int .u8 x.toNat)).heap[g]? = some (.cells (bcells (l.set k x)).toArray t (0, 0)) := by
  rw [heap_setCell_same w g k _ t _ h]
  congr 2
  apply Array.toList_inj.1
  simp [bcells, List.map_set]

/-- The box so far. -/
def outs : Nat → List UInt8
  | 0 => (List.replicate 256 0).set 0 99
  | i + 1 => (outs i).set (p3 i) (UInt8.ofNat (turnF (p3 ((255 - i) % 255)) 5))
theorem outs_length : ∀ i, (outs i).length = 256
  | 0 => by show ((List.replicate 256 (0 : UInt8)).set 0 99).length = 256; rw [List.length_set, List.length_replicate]
  | i + 1 => by show ((outs i).set _ _).length = 256; rw [List.length_set, outs_length i]
/-- Powers and boxes side by side: the powers are reckoned once. -/
def pows : Nat → Nat → List Nat
  | 0, _ => []
  | n + 1, x => x :: pows n (x ^^^ dbl x)
theorem pows_at : ∀ (n m j : Nat), j < n → (pows n (p3 m))[j]? = some (p3 (m + j))
  | n + 1, m, 0, _ => rfl
  | n + 1, m, j + 1, h => by
    show (pows n (p3 (m + 1)))[j]? = _
    rw [pows_at n (m + 1) j (by omega), show m + 1 + j = m + (j + 1) by omega]
def powTab : List Nat := pows 255 1
theorem powTab_at (j : Nat) (h : j < 255) : powTab.getD j 0 = p3 j := by
  have := pows_at 255 0 j h
  rw [List.getD]
  show ((pows 255 (p3 0))[j]?).getD 0 = _
  rw [this, Nat.zero_add]; rfl
def outT (l : List UInt8) (i : Nat) : List UInt8 := l.set (powTab.getD i 0) (UInt8.ofNat (turnF (powTab.getD ((255 - i) % 255) 0) 5))
theorem outs_fold : ∀ i, i ≤ 255 → outs i = (List.range i).foldl outT ((List.replicate 256 0).set 0 99)
  | 0, _ => rfl
  | i + 1, h => by
    rw [List.range_succ, List.foldl_append, ← outs_fold i (by omega)]
    show (outs i).set (p3 i) _ = outT (outs i) i
    unfold outT
    rw [powTab_at i (by omega), powTab_at _ (Nat.mod_lt _ (by omega))]
theorem outs_all : outs 255 = boxTab := by
  rw [outs_fold 255 (Nat.le_refl _)]
  decide +kernel
end Go.Proofs.YtepnnmckbcomjaaDoor
