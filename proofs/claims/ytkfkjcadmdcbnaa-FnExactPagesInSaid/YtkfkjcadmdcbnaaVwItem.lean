/- The view of a tenant: the place of an item, its pages. -/
import Derived.Test.YtkfkjcadmdcbnaaTViewE
import Derived.Test.YtkfkjcadmdcbnaaPgMath
namespace Go.Proofs.Ytkfkjcadmdcbnaa
open Go.RowKit Go.Proofs.Ytkfkjcadmdcbnaa.Parts Go.Proofs.Ytkfkjcadmdcbnaa.Hexa

/-! The first item with a path. -/
def itemN : List ItemR → ByteArray → Nat
  | [], _ => 0
  | x :: r, p => if x.path = p then 0 else itemN r p + 1
def itemZ (L : List ItemR) (p : ByteArray) : Int := if itemN L p < L.length then (itemN L p : Int) else -1
theorem itemN_none : ∀ {L : List ItemR} {p : ByteArray}, (∀ j, j < L.length → (L.getD j default).path ≠ p) → itemN L p = L.length
  | [], _, _ => rfl
  | x :: r, p, h => by
    have h0 := h 0 (by simp)
    simp only [List.getD_cons_zero] at h0
    rw [itemN, if_neg h0, itemN_none (fun j hj => by have := h (j + 1) (by simpa using hj); simpa using this), List.length_cons]
theorem itemN_some : ∀ {L : List ItemR} {p : ByteArray} {k : Nat}, k < L.length → (∀ j, j < k → (L.getD j default).path ≠ p) → (L.getD k default).path = p → itemN L p = k
  | x :: r, p, 0, _, _, h1 => by
    simp only [List.getD_cons_zero] at h1
    rw [itemN, if_pos h1]
  | x :: r, p, k + 1, hk, h, h1 => by
    have h0 := h 0 (by omega)
    simp only [List.getD_cons_zero] at h0
    rw [itemN, if_neg h0, itemN_some (k := k) (by simpa using hk) (fun j hj => by have := h (j + 1) (by omega); simpa using this) (by simpa using h1)]
theorem itemN_at : ∀ {L : List ItemR} {p : ByteArray}, itemN L p < L.length → (L.getD (itemN L p) default).path = p
  | x :: r, p, h => by
    rw [itemN] at h ⊢
    by_cases e : x.path = p
    · rw [if_pos e]; simpa using e
    · rw [if_neg e] at h ⊢
      have := itemN_at (L := r) (p := p) (by simpa using h)
      simpa using this
theorem itemZ_none {L : List ItemR} {p : ByteArray} (h : ∀ j, j < L.length → (L.getD j default).path ≠ p) : itemZ L p = -1 := by
  unfold itemZ
  rw [itemN_none h, if_neg (Nat.lt_irrefl _)]
theorem itemZ_some {L : List ItemR} {p : ByteArray} {k : Nat} (hk : k < L.length) (h : ∀ j, j < k → (L.getD j default).path ≠ p) (h1 : (L.getD k default).path = p) : itemZ L p = (k : Int) := by
  unfold itemZ
  rw [itemN_some hk h h1, if_pos hk]
theorem itemZ_cases (L : List ItemR) (p : ByteArray) : itemZ L p = -1 ∨ ∃ k : Nat, k < L.length ∧ itemZ L p = (k : Int) := by
  unfold itemZ
  by_cases h : itemN L p < L.length
  · rw [if_pos h]; exact .inr ⟨_, h, rfl⟩
  · rw [if_neg h]; exact .inl rfl

/-! Its pages. -/
def itemPg (x : ItemR) : Int := if x.dir = true then 0 else pagesZ (x.text.size : Int)
def pagesR : List ItemR → Int
  | [] => 0
  | x :: r => itemPg x + pagesR r
theorem pagesR_append : ∀ a b : List ItemR, pagesR (a ++ b) = pagesR a + pagesR b
  | [], b => by rw [List.nil_append, pagesR, Int.zero_add]
  | x :: a, b => by rw [List.cons_append, pagesR, pagesR, pagesR_append a b]; omega
theorem pagesR_next {L : List ItemR} {k : Nat} (hk : k < L.length) : pagesR (L.take (k + 1)) = pagesR (L.take k) + itemPg (L.getD k default) := by
  have e : L[k] = L.getD k default := by simp [List.getD, hk]
  rw [List.take_succ_eq_append_getElem hk, pagesR_append, e, pagesR, pagesR]
  omega
theorem itemPg_bd (x : ItemR) : 0 ≤ itemPg x ∧ itemPg x ≤ (x.text.size : Int) := by
  unfold itemPg
  split
  · exact ⟨Int.le_refl _, by omega⟩
  · unfold pagesZ
    split
    · exact ⟨Int.le_refl _, by omega⟩
    · constructor <;> omega
theorem pagesR_bd : ∀ L : List ItemR, 0 ≤ pagesR L ∧ pagesR L ≤ (szL (celsE cItem L) : Int)
  | [] => ⟨Int.le_refl _, Int.le_refl _⟩
  | x :: r => by
    have h1 := pagesR_bd r
    have h2 := itemPg_bd x
    have h3 : szL (celsE cItem (x :: r)) = (x.path.size + (0 + (x.text.size + 0))) + szL (celsE cItem r) := by rw [celsE, szL_append, cItem_sz]
    rw [pagesR, h3]
    omega
end Go.Proofs.Ytkfkjcadmdcbnaa
