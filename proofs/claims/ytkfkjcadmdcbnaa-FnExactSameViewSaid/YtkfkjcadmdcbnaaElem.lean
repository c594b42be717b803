/- Rows of elements of several cells each. -/
import Derived.Test.YtkfkjcadmdcbnaaRows
import Derived.Test.YtkfkjcadmdcbnaaPartsMath
import Derived.WalkKit
import Derived.WalkSpells
import Derived.WalkLawsBesides
import Derived.Lib.Hide
import Derived.Lib.Overlaps
import Derived.Deep.QuietTactic
import Derived.BigQuiet
import Derived.OwnWalk
import Derived.OneCell
import Derived.Deep.RegionHeld3
import Derived.Deep.AppendLies
namespace Go.Proofs.Ytkfkjcadmdcbnaa
open Go.RowKit Go.Proofs.Ytkfkjcadmdcbnaa.Parts Go.Proofs.Ytkfkjcadmdcbnaa.Hexa

/-- How an element lies in its cells. -/
structure Enc (α : Type) where
  k : Nat
  cells : α → List Value
  len : ∀ x, (cells x).length = k

def cellsE {α : Type} (E : Enc α) : List α → List Value
  | [] => []
  | x :: r => E.cells x ++ cellsE E r
theorem cellsE_length {α : Type} (E : Enc α) : ∀ L : List α, (cellsE E L).length = L.length * E.k
  | [] => by simp [cellsE]
  | x :: r => by simp [cellsE, E.len, cellsE_length E r, Nat.add_mul]; omega
theorem cellsE_append {α : Type} (E : Enc α) : ∀ L M : List α, cellsE E (L ++ M) = cellsE E L ++ cellsE E M
  | [], M => rfl
  | x :: r, M => by simp [cellsE, cellsE_append E r M]
theorem cellsE_one {α : Type} (E : Enc α) (x : α) : cellsE E [x] = E.cells x := by simp [cellsE]
theorem cellsE_at {α : Type} [Inhabited α] (E : Enc α) : ∀ (L : List α) (j o : Nat), j < L.length → o < E.k → (cellsE E L)[j * E.k + o]? = (E.cells (L.getD j default))[o]?
  | x :: r, 0, o, _, ho => by
    rw [cellsE, Nat.zero_mul, Nat.zero_add, List.getElem?_append_left (by rw [E.len]; exact ho)]; rfl
  | x :: r, j + 1, o, h, ho => by
    rw [cellsE, List.getElem?_append_right (by rw [E.len, Nat.add_mul]; omega), E.len, show (j + 1) * E.k + o - E.k = j * E.k + o by rw [Nat.add_mul]; omega]
    exact cellsE_at E r j o (by simpa using h) ho
theorem cellsE_take {α : Type} (E : Enc α) : ∀ (L : List α) (j : Nat), (cellsE E L).take (j * E.k) = cellsE E (L.take j)
  | [], j => by simp [cellsE]
  | x :: r, 0 => by simp [cellsE]
  | x :: r, j + 1 => by
    rw [cellsE, List.take_append, List.take_of_length_le (by rw [E.len, Nat.add_mul]; omega), E.len, show (j + 1) * E.k - E.k = j * E.k by rw [Nat.add_mul]; omega, cellsE_take E r j]
    rfl
theorem cellsE_drop {α : Type} (E : Enc α) : ∀ (L : List α) (j : Nat), (cellsE E L).drop (j * E.k) = cellsE E (L.drop j)
  | [], j => by simp [cellsE]
  | x :: r, 0 => by simp [cellsE]
  | x :: r, j + 1 => by
    rw [cellsE, List.drop_append, List.drop_of_length_le (by rw [E.len, Nat.add_mul]; omega), E.len, show (j + 1) * E.k - E.k = j * E.k by rw [Nat.add_mul]; omega, cellsE_drop E r j]
    rfl

/-- Cells written one behind the other. -/
def setsL : List Value → Nat → List Value → List Value
  | xs, _, [] => xs
  | xs, o, v :: r => setsL (xs.set o v) (o + 1) r
theorem setsL_length : ∀ (vs xs : List Value) (o : Nat), (setsL xs o vs).length = xs.length
  | [], xs, o => rfl
  | v :: r, xs, o => by rw [setsL, setsL_length r]; simp
theorem setsL_out : ∀ (vs xs : List Value) (o j : Nat), (j < o ∨ o + vs.length ≤ j) → (setsL xs o vs)[j]? = xs[j]?
  | [], xs, o, j, _ => rfl
  | v :: r, xs, o, j, h => by
    simp only [List.length_cons] at h
    rw [setsL, setsL_out r _ _ _ (by omega), List.getElem?_set_ne (by omega)]
theorem setsL_in : ∀ (vs xs : List Value) (o j : Nat), j < vs.length → o + vs.length ≤ xs.length → (setsL xs o vs)[o + j]? = vs[j]?
  | v :: r, xs, o, 0, _, h => by
    simp only [List.length_cons] at h
    rw [setsL, setsL_out r _ _ _ (by omega)]
    show (xs.set o v)[o]? = some v
    rw [List.getElem?_set_self (by omega)]
  | v :: r, xs, o, j + 1, hj, h => by
    simp only [List.length_cons] at h hj
    rw [setsL, show o + (j + 1) = (o + 1) + j by omega, setsL_in r _ _ j (by omega) (by simp; omega)]
    rfl
/-- The first elements are right; one more is written. -/
theorem cellsE_step {α : Type} [Inhabited α] (E : Enc α) {L : List α} {xs : List Value} {k : Nat} (hk : k < L.length) (hl : xs.length = L.length * E.k) (h : ∀ j, j < k * E.k → xs[j]? = (cellsE E L)[j]?) :
    ∀ j, j < (k + 1) * E.k → (setsL xs (k * E.k) (E.cells (L.getD k default)))[j]? = (cellsE E L)[j]? := by
  intro j hj
  have hm : (k + 1) * E.k ≤ L.length * E.k := Nat.mul_le_mul_right _ hk
  rw [Nat.add_mul] at hj hm
  by_cases h0 : j < k * E.k
  · rw [setsL_out _ _ _ _ (.inl h0)]; exact h j h0
  · obtain ⟨o, rfl⟩ : ∃ o, j = k * E.k + o := ⟨j - k * E.k, by omega⟩
    rw [setsL_in _ _ _ _ (by rw [E.len]; omega) (by rw [E.len]; omega), cellsE_at E L k o hk (by omega)]
theorem cellsE_all {α : Type} (E : Enc α) {L : List α} {xs : List Value} (hl : xs.length = L.length * E.k) (h : ∀ j, j < L.length * E.k → xs[j]? = (cellsE E L)[j]?) : xs = cellsE E L := by
  apply List.ext_getElem?
  intro j
  by_cases hj : j < L.length * E.k
  · exact h j hj
  · rw [List.getElem?_eq_none (by omega), List.getElem?_eq_none (by rw [cellsE_length]; omega)]
theorem getD_set {α : Type} [Inhabited α] (L : List α) (k j : Nat) (x : α) (hk : k < L.length) : (L.set k x).getD j default = if j = k then x else L.getD j default := by
  by_cases h : j = k
  · subst h; simp [List.getD, hk]
  · rw [if_neg h]; simp only [List.getD]; rw [List.getElem?_set_ne (fun e => h e.symm)]
/-- One element is written over another. -/
theorem cellsE_set {α : Type} [Inhabited α] (E : Enc α) (L : List α) (k : Nat) (x : α) (hk : k < L.length) : setsL (cellsE E L) (k * E.k) (E.cells x) = cellsE E (L.set k x) := by
  have hm : (k + 1) * E.k ≤ L.length * E.k := Nat.mul_le_mul_right _ hk
  rw [Nat.add_mul] at hm
  refine cellsE_all E (by rw [setsL_length, cellsE_length]; simp) (fun j hj => ?_)
  simp only [List.length_set] at hj
  by_cases hj0 : k * E.k ≤ j ∧ j < k * E.k + E.k
  · obtain ⟨o, rfl⟩ : ∃ o, j = k * E.k + o := ⟨j - k * E.k, by omega⟩
    rw [setsL_in _ _ _ _ (by rw [E.len]; omega) (by rw [E.len, cellsE_length]; omega), cellsE_at E _ k o (by simpa using hk) (by omega), getD_set _ _ _ _ hk, if_pos rfl]
  · rw [setsL_out _ _ _ _ (by rw [E.len]; omega)]
    have hk0 : 0 < E.k := by
      rcases Nat.eq_zero_or_pos E.k with h | h
      · rw [h] at hj; omega
      · exact h
    have hd : j = j / E.k * E.k + j % E.k := by rw [Nat.mul_comm]; exact (Nat.div_add_mod j E.k).symm
    have hq : j / E.k < L.length := (Nat.div_lt_iff_lt_mul hk0).2 hj
    have hne : j / E.k ≠ k := fun e => by
      rw [e] at hd
      have := Nat.mod_lt j hk0
      omega
    rw [hd, cellsE_at E _ _ _ hq (Nat.mod_lt _ hk0), cellsE_at E _ _ _ (by simpa using hq) (Nat.mod_lt _ hk0), getD_set _ _ _ _ hk, if_neg hne]

/-- A slice of elements that can be read. -/
structure SrcE {α : Type} [Inhabited α] (E : Enc α) (w : World) (a : Option Addr) (n : Nat) (L : List α) : Prop where
  len : L.length = n
  cell : ∀ j, j < n → ∃ g off, a = some ⟨g, off, none⟩ ∧ g < w.heap.size ∧ ∀ o v, (E.cells (L.getD j default))[o]? = some v → w.cell? ⟨g, off + j * E.k + o, none⟩ = some v
theorem SrcE.below {α : Type} [Inhabited α] {E : Enc α} {w w' : World} {a : Option Addr} {n : Nat} {L : List α} {B : Nat} (h : SrcE E w a n L) (hb : Below B w w') (hB : w.heap.size ≤ B) : SrcE E w' a n L :=
  ⟨h.len, fun j hj => by
    obtain ⟨g, off, e, hg, c⟩ := h.cell j hj
    exact ⟨g, off, e, Nat.lt_of_lt_of_le hg hb.size, fun o v hv => by rw [hb.cell (p := ⟨g, off + j * E.k + o, none⟩) (Nat.lt_of_lt_of_le hg hB)]; exact c o v hv⟩⟩
theorem SrcE.later {α : Type} [Inhabited α] {E : Enc α} {w w' : World} {a : Option Addr} {n : Nat} {L : List α} (h : SrcE E w a n L) (hb : Below w.heap.size w w') : SrcE E w' a n L := h.below hb (Nat.le_refl _)
theorem SrcE.drew {α : Type} [Inhabited α] {E : Enc α} {w : World} {a : Option Addr} {n : Nat} {L : List α} (h : SrcE E w a n L) : SrcE E w.drew a n L := ⟨h.len, h.cell⟩
theorem SrcE.nil {α : Type} [Inhabited α] (E : Enc α) (w : World) (a : Option Addr) : SrcE E w a 0 [] := ⟨rfl, fun j hj => by omega⟩

theorem ownE_lt {w : World} {B e k g n cap : Nat} {xs : List Value} (h : w.ownsRow B e k (.slice (some ⟨g, 0, none⟩) n cap) n xs) : g < w.heap.size := (h.lt g rfl).2
/-- A slice that the call owns, as one that can be read. -/
theorem srcE_of_own {α : Type} [Inhabited α] {E : Enc α} {w : World} {B e n cap : Nat} {a : Option Addr} {L : List α} (h : w.ownsRow B e E.k (.slice a n cap) n (cellsE E L)) (hk0 : 0 < E.k) : SrcE E w a n L := by
  have hl : L.length = n := by have h1 := h.1; rw [cellsE_length] at h1; exact Nat.eq_of_mul_eq_mul_right hk0 h1
  refine ⟨hl, fun j hj => ?_⟩
  rcases h.2 with ⟨h', h0⟩ | ⟨g', cap', cur, h', _, hg, _⟩
  · omega
  · simp only [Value.slice.injEq] at h'
    obtain ⟨rfl, _, rfl⟩ := h'
    refine ⟨g', 0, rfl, ownE_lt h, fun o v hv => ?_⟩
    have ho : o < E.k := by
      rcases Nat.lt_or_ge o E.k with h | h
      · exact h
      · rw [List.getElem?_eq_none (by rw [E.len]; exact h)] at hv; cases hv
    have hm : (j + 1) * E.k ≤ n * E.k := Nat.mul_le_mul_right _ hj
    rw [Nat.add_mul] at hm
    rw [Nat.zero_add, h.cellAt _ (by omega), cellsE_at E L j o (by omega) ho]
    exact hv
theorem ownE_mono {w : World} {B B' e k n : Nat} {v : Value} {xs : List Value} (h : w.ownsRow B e k v n xs) (hb : B' ≤ B) : w.ownsRow B' e k v n xs :=
  ⟨h.1, h.2.imp id fun ⟨g, cap, cur, hv, hg, r⟩ => ⟨g, cap, cur, hv, Nat.le_trans hb hg, r⟩⟩
/-- The form of what the call owns. -/
theorem ownE_form {w : World} {B e k n : Nat} {v : Value} {xs : List Value} (h : w.ownsRow B e k v n xs) : ∃ a cap, v = .slice a n cap ∧ n ≤ cap ∧ cap ≤ maxLen ∧ (∀ p, a = some p → ∃ g, p = ⟨g, 0, none⟩ ∧ B ≤ g ∧ g < w.heap.size) := by
  rcases h.2 with ⟨rfl, rfl⟩ | ⟨g', cap', cur, rfl, hB, hg, hn, hc, _⟩
  · exact ⟨none, 0, rfl, Nat.le_refl _, by decide, fun p hp => by cases hp⟩
  · exact ⟨_, _, rfl, hn, hc, fun p hp => by cases hp; exact ⟨g', rfl, hB, lt_of_block hg⟩⟩
/-- Cells of the call's own row written. -/
theorem own_sets {B e k g n cap : Nat} : ∀ (vs : List Value) {w : World} {xs : List Value} (o : Nat), w.ownsRow B e k (.slice (some ⟨g, 0, none⟩) n cap) n xs → (w.setCells g o vs).ownsRow B e k (.slice (some ⟨g, 0, none⟩) n cap) n (setsL xs o vs)
  | [], _, _, _, h => h
  | v :: r, _, _, o, h => own_sets r (o + 1) (h.stored o v).1
theorem below_sets {B g : Nat} (hg : B ≤ g) : ∀ (vs : List Value) {w w' : World} (o : Nat), Below B w w' → Below B w (w'.setCells g o vs)
  | [], _, _, _, h => h
  | v :: r, _, _, o, h => below_sets hg r (o + 1) (h.setCell (p := ⟨g, o, none⟩) hg v)
theorem ownE_cell {w : World} {B e k g n cap : Nat} {xs : List Value} (h : w.ownsRow B e k (.slice (some ⟨g, 0, none⟩) n cap) n xs) {j : Nat} (hj : j < n * k) : ∃ v, w.cell? ⟨g, j, none⟩ = some v := by
  rw [h.cellAt j hj]
  exact ⟨xs[j]'(by rw [h.1]; exact hj), List.getElem?_eq_getElem _⟩

/-- No block is written but one; what was there stays. -/
structure ButE (B : Nat) (w w' : World) : Prop where
  size : w.heap.size ≤ w'.heap.size
  block : ∀ g, g ≠ B → g < w.heap.size → w'.heap[g]? = w.heap[g]?
theorem ButE.refl (B : Nat) (w : World) : ButE B w w := ⟨Nat.le_refl _, fun _ _ _ => rfl⟩
theorem ButE.then_below {B : Nat} {w w1 w2 : World} (h : ButE B w w1) (hb : Below w1.heap.size w1 w2) : ButE B w w2 :=
  ⟨Nat.le_trans h.size hb.size, fun g h1 h2 => by rw [hb.block g (Nat.lt_of_lt_of_le h2 h.size)]; exact h.block g h1 h2⟩
theorem ButE.then_set {B : Nat} {w w1 : World} (h : ButE B w w1) (o : Nat) (v : Value) : ButE B w (w1.setCell ⟨B, o, none⟩ v) :=
  ⟨Nat.le_trans h.size (by simp), fun g h1 h2 => by rw [Below.heap_setCell _ _ _ _ (by simpa using h1)]; exact h.block g h1 h2⟩
theorem ButE.drew {B : Nat} {w w1 : World} (h : ButE B w w1) : ButE B w w1.drew := ⟨h.size, h.block⟩
/-- What lies elsewhere stays. -/
theorem ownE_but {w w' : World} {M B e k : Nat} {v : Value} {n : Nat} {xs : List Value} (h : w.ownsRow B e k v n xs) (hb : ButE M w w') (hne : ∀ g, v.ownBlock = some g → g ≠ M) : w'.ownsRow B e k v n xs := by
  refine ⟨h.1, h.2.imp id fun ⟨g, cap, cur, hv, hg, hh, r⟩ => ⟨g, cap, cur, hv, hg, ?_, r⟩⟩
  rw [hb.block g (hne g (by rw [hv]; rfl)) (Array.getElem?_eq_some_iff.1 hh).1]; exact hh
theorem ownE_left {w w' : World} {M B e k : Nat} {v : Value} {n : Nat} {xs : List Value} (h : w.ownsRow B e k v n xs) (hb : Below M w w') (hne : ∀ g, v.ownBlock = some g → g < M) : w'.ownsRow B e k v n xs := by
  refine ⟨h.1, h.2.imp id fun ⟨g, cap, cur, hv, hg, hh, r⟩ => ⟨g, cap, cur, hv, hg, ?_, r⟩⟩
  rw [hb.block g (hne g (by rw [hv]; rfl))]; exact hh
theorem SrcE.but {α : Type} [Inhabited α] {E : Enc α} {w w' : World} {a : Option Addr} {n : Nat} {L : List α} {B : Nat} (h : SrcE E w a n L) (hb : ButE B w w') (hB : ∀ p, a = some p → p.block ≠ B) : SrcE E w' a n L :=
  ⟨h.len, fun j hj => by
    obtain ⟨g, off, e, hg, c⟩ := h.cell j hj
    refine ⟨g, off, e, Nat.lt_of_lt_of_le hg hb.size, fun o v hv => ?_⟩
    rw [← c o v hv]
    exact World.cell?_of_block (w := w) (hb.block g (hB _ e) hg)⟩
end Go.Proofs.Ytkfkjcadmdcbnaa
