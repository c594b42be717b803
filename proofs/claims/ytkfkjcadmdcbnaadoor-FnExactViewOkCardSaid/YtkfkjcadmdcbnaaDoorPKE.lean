/- Merged texts: StabMath, VwPut, Geo, VwOkMath, VwItemS, PgSpec, PagesImpl, VwPgs, GeoS, Grown, VwOkS, VwItemI, GeoI, VwOkI, VwOkJ, ToGeo, CutImport, ViewOkLaw, GeoRow. -/
import Derived.Test.YtkfkjcadmdcbnaaDoorPKD
import Derived.Test.YtkfkjcadmdcbnaaDoorRows
import Derived.WalkKit
import Derived.WalkSpells
import Derived.WalkLawsBesides
import Derived.RowKit3
import Derived.IntWalk
import Derived.Below
import Derived.Lib.Hide
import Derived.OwnWalk
import Derived.OneCell
import Derived.Deep.QuietTactic
import Derived.Deep.RegionWith
import Derived.BigQuiet
import Derived.Deep.DeepCutAuto
import Derived.Deep.RegionHeld3
import Derived.Lib.SmallJoins
import Derived.ProofKit
namespace Go.Proofs.YtkfkjcadmdcbnaaDoor

/-- A strict order of keys. -/
structure KOrd {κ : Type} (lt : κ → κ → Bool) : Prop where
  irr : ∀ a, lt a a = false
  tr : ∀ a b c, lt a b = true → lt b c = true → lt a c = true
  tri : ∀ a b, lt a b = false → lt b a = false → a = b
section
variable {κ : Type} {lt : κ → κ → Bool}
theorem KOrd.le_tr (h : KOrd lt) {a b c : κ} (h1 : lt b a = false) (h2 : lt c b = false) : lt c a = false := by
  cases h3 : lt c a with
  | false => rfl
  | true =>
    cases h4 : lt a b with
    | true => rw [h.tr _ _ _ h3 h4] at h2; cases h2
    | false => rw [h.tri a b h4 h1, h2] at h3; cases h3
theorem KOrd.lt_le (h : KOrd lt) {a b c : κ} (h1 : lt a b = true) (h2 : lt c b = false) : lt a c = true := by
  cases h4 : lt b c with
  | true => exact h.tr _ _ _ h1 h4
  | false => rw [← h.tri b c h4 h2]; exact h1
theorem KOrd.le_lt (h : KOrd lt) {a b c : κ} (h1 : lt b a = false) (h2 : lt b c = true) : lt a c = true := by
  cases h4 : lt a b with
  | true => exact h.tr _ _ _ h4 h2
  | false => rw [h.tri a b h4 h1]; exact h2
theorem KOrd.asym (h : KOrd lt) {a b : κ} (h1 : lt a b = true) : lt b a = false := by
  cases h2 : lt b a with
  | false => rfl
  | true => have := h.tr _ _ _ h1 h2; rw [h.irr] at this; cases this
theorem KOrd.ne (h : KOrd lt) {a b : κ} (h1 : lt a b = true) : a ≠ b := fun e => by rw [e, h.irr] at h1; cases h1
end

theorem parts_of {α : Type} {L : List α} {a m b : Nat} (h1 : a ≤ m) (h2 : m ≤ b) : L = L.take a ++ ((L.drop a).take (m - a) ++ ((L.drop m).take (b - m) ++ L.drop b)) := by
  have e1 : L.drop m = (L.drop m).take (b - m) ++ L.drop b := by
    conv => lhs; rw [← List.take_append_drop (b - m) (L.drop m), List.drop_drop]
    rw [show m + (b - m) = b by omega]
  have e2 : L.drop a = (L.drop a).take (m - a) ++ L.drop m := by
    conv => lhs; rw [← List.take_append_drop (m - a) (L.drop a), List.drop_drop]
    rw [show a + (m - a) = m by omega]
  rw [← e1, ← e2, List.take_append_drop]
section
variable {α κ : Type} [Inhabited α] (ky : α → κ) (lt : κ → κ → Bool)
/-- The places from a to b are sorted. -/
def Srt (L : List α) (a b : Nat) : Prop := ∀ i j, a ≤ i → i < j → j < b → lt (ky (L.getD j default)) (ky (L.getD i default)) = false
/-- Elements have moved within a .. b, those with one key in their order. -/
structure Mv [DecidableEq κ] (L M : List α) (a b : Nat) : Prop where
  len : M.length = L.length
  out : ∀ i, (i < a ∨ b ≤ i) → M.getD i default = L.getD i default
  into : ∀ i, a ≤ i → i < b → ∃ j, a ≤ j ∧ j < b ∧ M.getD i default = L.getD j default
  cls : ∀ p, M.filter (fun x => decide (ky x = p)) = L.filter (fun x => decide (ky x = p))
/-- Where what lies at x behind a rotation of a .. m, m .. b has lain. -/
def rotI (a m b x : Nat) : Nat := if x < a ∨ b ≤ x then x else if x < a + (b - m) then m + (x - a) else a + (x - (a + (b - m)))
structure IsRot (L : List α) (a m b : Nat) (M : List α) : Prop where
  len : M.length = L.length
  at_ : ∀ x, M.getD x default = L.getD (rotI a m b x) default
/-- Two rows of k places exchanged. -/
def swpI (x y k i : Nat) : Nat := if x ≤ i ∧ i < x + k then y + (i - x) else if y ≤ i ∧ i < y + k then x + (i - y) else i
structure IsSwp (L : List α) (x y k : Nat) (M : List α) : Prop where
  len : M.length = L.length
  at_ : ∀ i, M.getD i default = L.getD (swpI x y k i) default
variable {ky lt} {L M N : List α}
theorem Mv.refl [DecidableEq κ] (L : List α) (a b : Nat) : Mv ky L L a b := ⟨rfl, fun _ _ => rfl, fun i h1 h2 => ⟨i, h1, h2, rfl⟩, fun _ => rfl⟩
theorem Mv.trans [DecidableEq κ] {a b : Nat} (h1 : Mv ky L M a b) (h2 : Mv ky M N a b) : Mv ky L N a b :=
  ⟨h2.len.trans h1.len, fun i hi => (h2.out i hi).trans (h1.out i hi), fun i ha hb => by
    obtain ⟨j, j1, j2, e⟩ := h2.into i ha hb
    obtain ⟨k, k1, k2, e'⟩ := h1.into j j1 j2
    exact ⟨k, k1, k2, e.trans e'⟩, fun p => (h2.cls p).trans (h1.cls p)⟩
theorem Mv.mono [DecidableEq κ] {a b a' b' : Nat} (h : Mv ky L M a b) (h1 : a' ≤ a) (h2 : b ≤ b') : Mv ky L M a' b' :=
  ⟨h.len, fun i hi => h.out i (by omega), fun i ha hb => by
    by_cases hi : a ≤ i ∧ i < b
    · obtain ⟨j, j1, j2, e⟩ := h.into i hi.1 hi.2
      exact ⟨j, by omega, by omega, e⟩
    · exact ⟨i, ha, hb, h.out i (by omega)⟩, h.cls⟩
theorem Srt.mono {a b a' b' : Nat} (h : Srt ky lt L a b) (h1 : a ≤ a') (h2 : b' ≤ b) : Srt ky lt L a' b' := fun i j hi hj hk => h i j (by omega) hj (by omega)
theorem Srt.le_one {a b : Nat} (h : b ≤ a + 1) : Srt ky lt L a b := fun i j h1 h2 h3 => by omega
/-- What lies outside is sorted as it was. -/
theorem Srt.kept [DecidableEq κ] {a b a' b' : Nat} (h : Srt ky lt L a b) (hm : Mv ky L M a' b') (hd : b ≤ a' ∨ b' ≤ a) : Srt ky lt M a b := fun i j h1 h2 h3 => by
  rw [hm.out i (by omega), hm.out j (by omega)]
  exact h i j h1 h2 h3
theorem list_eq_getD {A B : List α} (hl : A.length = B.length) (h : ∀ i, A.getD i default = B.getD i default) : A = B := by
  apply List.ext_getElem hl
  intro i h1 h2
  have := h i
  simpa [List.getD, h1, h2] using this
theorem IsRot.lists {a m b : Nat} (h : IsRot L a m b M) (h1 : a ≤ m) (h2 : m ≤ b) (h3 : b ≤ L.length) : M = L.take a ++ ((L.drop m).take (b - m) ++ ((L.drop a).take (m - a) ++ L.drop b)) := by
  have l1 : (L.take a).length = a := by rw [List.length_take]; omega
  have l2 : ((L.drop m).take (b - m)).length = b - m := by rw [List.length_take, List.length_drop]; omega
  have l3 : ((L.drop a).take (m - a)).length = m - a := by rw [List.length_take, List.length_drop]; omega
  apply list_eq_getD
  · rw [h.len, List.length_append, List.length_append, List.length_append, l1, l2, l3, List.length_drop]; omega
  · intro i
    rw [h.at_ i]
    simp only [List.getD]
    congr 1
    unfold rotI
    by_cases c1 : i < a
    · rw [if_pos (.inl c1), List.getElem?_append_left (by omega), List.getElem?_take_of_lt c1]
    · rw [List.getElem?_append_right (by omega), l1]
      by_cases c2 : b ≤ i
      · rw [if_pos (.inr c2), List.getElem?_append_right (by omega), l2, List.getElem?_append_right (by omega), l3, List.getElem?_drop]
        congr 1
        omega
      · rw [if_neg (by omega)]
        by_cases c3 : i < a + (b - m)
        · rw [if_pos c3, List.getElem?_append_left (by omega), List.getElem?_take_of_lt (by omega), List.getElem?_drop]
        · rw [if_neg c3, List.getElem?_append_right (by omega), l2, List.getElem?_append_left (by omega), List.getElem?_take_of_lt (by omega), List.getElem?_drop]
          congr 1
          omega
theorem mem_cut {a m : Nat} {x : α} (hx : x ∈ (L.drop a).take (m - a)) (hm : m ≤ L.length) : ∃ j, a ≤ j ∧ j < m ∧ L.getD j default = x := by
  obtain ⟨i, hi, rfl⟩ := List.mem_iff_getElem.1 hx
  rw [List.length_take, List.length_drop] at hi
  refine ⟨a + i, by omega, by omega, ?_⟩
  have hh : a + i < L.length := by omega
  simp [List.getD, hh]
/-- A rotation where all that comes to the front is less than all that goes to the back. -/
theorem IsRot.mv [DecidableEq κ] (ho : KOrd lt) {a m b : Nat} (h : IsRot L a m b M) (h1 : a ≤ m) (h2 : m ≤ b) (h3 : b ≤ L.length) (hlt : ∀ s t, a ≤ s → s < m → m ≤ t → t < b → lt (ky (L.getD t default)) (ky (L.getD s default)) = true) : Mv ky L M a b := by
  refine ⟨h.len, fun i hi => ?_, fun i ha hb => ?_, fun p => ?_⟩
  · rw [h.at_ i]; unfold rotI; rw [if_pos hi]
  · refine ⟨rotI a m b i, ?_, ?_, h.at_ i⟩
    · unfold rotI; split <;> (try split) <;> omega
    · unfold rotI; split <;> (try split) <;> omega
  · rw [h.lists h1 h2 h3]
    conv => rhs; rw [parts_of (L := L) h1 h2]
    simp only [List.filter_append]
    congr 1
    rw [← List.append_assoc, ← List.append_assoc]
    congr 1
    by_cases hu : ∃ x ∈ (L.drop a).take (m - a), ky x = p
    · obtain ⟨x, hx, hp⟩ := hu
      obtain ⟨s, s1, s2, rfl⟩ := mem_cut hx (by omega)
      have : (L.drop m |>.take (b - m)).filter (fun x => decide (ky x = p)) = [] := by
        rw [List.filter_eq_nil_iff]
        intro y hy he
        obtain ⟨t, t1, t2, rfl⟩ := mem_cut hy h3
        have h9 := hlt s t s1 s2 t1 t2
        rw [hp, of_decide_eq_true he, ho.irr] at h9
        cases h9
      rw [this, List.nil_append, List.append_nil]
    · have : ((L.drop a).take (m - a)).filter (fun x => decide (ky x = p)) = [] := by
        rw [List.filter_eq_nil_iff]
        intro y hy he
        exact hu ⟨y, hy, of_decide_eq_true he⟩
      rw [this, List.nil_append, List.append_nil]
theorem IsRot.refl {a m b : Nat} (h : a = m ∨ m = b) : IsRot L a m b L := ⟨rfl, fun x => by
  congr 1
  unfold rotI
  split
  · rfl
  · split <;> omega⟩
/-! The rotation by exchanges. -/
theorem swp_rot_gt {m i j x : Nat} (h : j < i) (hm : i ≤ m) : swpI (m - i) m j (rotI (m - (i - j)) m (m + j) x) = rotI (m - i) m (m + j) x := by
  unfold rotI swpI
  repeat' split
  all_goals omega
theorem swp_rot_lt {m i j x : Nat} (h : i < j) (hm : i ≤ m) : swpI (m - i) (m + j - i) i (rotI (m - i) m (m + (j - i)) x) = rotI (m - i) m (m + j) x := by
  unfold rotI swpI
  repeat' split
  all_goals omega
theorem swp_rot_eq {m i x : Nat} (hm : i ≤ m) : swpI (m - i) m i x = rotI (m - i) m (m + i) x := by
  unfold rotI swpI
  repeat' split
  all_goals omega
/-- The rest of a rotation: what is still to come of it, over the row as it is. -/
structure RotTo (L M : List α) (a m b i j : Nat) : Prop where
  len : M.length = L.length
  at_ : ∀ x, M.getD (rotI (m - i) m (m + j) x) default = L.getD (rotI a m b x) default
theorem RotTo.start {a m b : Nat} (h1 : a ≤ m) (h2 : m ≤ b) : RotTo L L a m b (m - a) (b - m) := ⟨rfl, fun x => by rw [show m - (m - a) = a by omega, show m + (b - m) = b by omega]⟩
theorem RotTo.gt {a m b i j : Nat} (h : RotTo L M a m b i j) (hs : IsSwp M (m - i) m j N) (hij : j < i) (hm : i ≤ m) : RotTo L N a m b (i - j) j :=
  ⟨hs.len.trans h.len, fun x => by rw [hs.at_, swp_rot_gt hij hm]; exact h.at_ x⟩
theorem RotTo.less {a m b i j : Nat} (h : RotTo L M a m b i j) (hs : IsSwp M (m - i) (m + j - i) i N) (hij : i < j) (hm : i ≤ m) : RotTo L N a m b i (j - i) :=
  ⟨hs.len.trans h.len, fun x => by rw [hs.at_, swp_rot_lt hij hm]; exact h.at_ x⟩
theorem RotTo.done {a m b i : Nat} (h : RotTo L M a m b i i) (hs : IsSwp M (m - i) m i N) (hm : i ≤ m) : IsRot L a m b N :=
  ⟨hs.len.trans h.len, fun x => by rw [hs.at_, swp_rot_eq hm]; exact h.at_ x⟩
/-! One exchange of two places. -/
def swL (L : List α) (i j : Nat) : List α := (L.set i (L.getD j default)).set j (L.getD i default)
theorem getD_setD (L : List α) (k j : Nat) (x : α) (hk : k < L.length) : (L.set k x).getD j default = if j = k then x else L.getD j default := by
  by_cases h : j = k
  · subst h; simp [List.getD, hk]
  · rw [if_neg h]; simp only [List.getD]; rw [List.getElem?_set_ne (fun e => h e.symm)]
theorem swL_len (L : List α) (i j : Nat) : (swL L i j).length = L.length := by simp [swL]
theorem swL_at {i j : Nat} (hi : i < L.length) (hj : j < L.length) (x : Nat) : (swL L i j).getD x default = L.getD (if x = j then i else if x = i then j else x) default := by
  unfold swL
  rw [getD_setD _ _ _ _ (by simpa using hj), getD_setD _ _ _ _ hi]
  split
  · rfl
  · split <;> rfl
theorem IsSwp.start (L : List α) (x y : Nat) : IsSwp L x y 0 L := ⟨rfl, fun i => by congr 1; unfold swpI; split; omega; split; omega; rfl⟩
theorem IsSwp.next {x y k : Nat} (h : IsSwp L x y k M) (hk : x + k < y) (hy : y + k < L.length) : IsSwp L x y (k + 1) (swL M (x + k) (y + k)) :=
  ⟨(swL_len _ _ _).trans h.len, fun i => by
    rw [swL_at (by rw [h.len]; omega) (by rw [h.len]; exact hy), h.at_]
    congr 1
    unfold swpI
    repeat' split
    all_goals omega⟩
/-- The element at a carried up to k. -/
theorem IsRot.up {a k : Nat} (h : IsRot L a (a + 1) (k + 1) M) (hak : a ≤ k) (hk : k + 1 < L.length) : IsRot L a (a + 1) (k + 2) (swL M k (k + 1)) :=
  ⟨(swL_len _ _ _).trans h.len, fun x => by
    rw [swL_at (by rw [h.len]; omega) (by rw [h.len]; exact hk), h.at_]
    congr 1
    unfold rotI
    repeat' split
    all_goals omega⟩
/-- The element at m carried down to k. -/
theorem IsRot.down {m k : Nat} (h : IsRot L (k + 1) m (m + 1) M) (hkm : k + 1 ≤ m) (hm : m < L.length) : IsRot L k m (m + 1) (swL M (k + 1) k) :=
  ⟨(swL_len _ _ _).trans h.len, fun x => by
    rw [swL_at (by rw [h.len]; omega) (by rw [h.len]; omega), h.at_]
    congr 1
    unfold rotI
    repeat' split
    all_goals omega⟩
/-- Two sorted rows of which the first is nowhere above the second. -/
theorem Srt.join {a m b : Nat} (h1 : Srt ky lt L a m) (h2 : Srt ky lt L m b) (h3 : ∀ s t, a ≤ s → s < m → m ≤ t → t < b → lt (ky (L.getD t default)) (ky (L.getD s default)) = false) : Srt ky lt L a b := fun i j hi hij hj => by
  by_cases c1 : j < m
  · exact h1 i j hi hij c1
  · by_cases c2 : m ≤ i
    · exact h2 i j c2 hij hj
    · exact h3 i j hi (by omega) (by omega) hj
/-- Within a sorted row, what is at an earlier place is no more. -/
theorem Srt.le (ho : KOrd lt) {a b i j : Nat} (h : Srt ky lt L a b) (h1 : a ≤ i) (h2 : i ≤ j) (h3 : j < b) : lt (ky (L.getD j default)) (ky (L.getD i default)) = false := by
  rcases Nat.lt_or_ge i j with h4 | h4
  · exact h i j h1 h4 h3
  · obtain rfl : i = j := by omega
    exact ho.irr _
/-! One element put into a sorted row. -/
theorem put_up [DecidableEq κ] (ho : KOrd lt) {a b i : Nat} (hs : Srt ky lt L (a + 1) b) (hb : b ≤ L.length) (h1 : a + 1 ≤ i) (h2 : i ≤ b) (h3 : ∀ t, a + 1 ≤ t → t < i → lt (ky (L.getD t default)) (ky (L.getD a default)) = true) (h4 : ∀ t, i ≤ t → t < b → lt (ky (L.getD t default)) (ky (L.getD a default)) = false) (hr : IsRot L a (a + 1) i M) : Mv ky L M a b ∧ Srt ky lt M a b := by
  refine ⟨(hr.mv ho (by omega) h1 (by omega) (fun s t s1 s2 t1 t2 => by have e : s = a := (by omega); rw [e]; exact h3 t t1 t2)).mono (Nat.le_refl _) h2, fun x y hx hxy hy => ?_⟩
  rw [hr.at_, hr.at_]
  unfold rotI
  by_cases cx : x < i
  · by_cases cx2 : x + 1 < i
    · rw [show (if x < a ∨ i ≤ x then x else if x < a + (i - (a + 1)) then a + 1 + (x - a) else a + (x - (a + (i - (a + 1))))) = x + 1 by rw [if_neg (by omega), if_pos (by omega)]; omega]
      by_cases cy : y < i
      · by_cases cy2 : y + 1 < i
        · rw [show (if y < a ∨ i ≤ y then y else if y < a + (i - (a + 1)) then a + 1 + (y - a) else a + (y - (a + (i - (a + 1))))) = y + 1 by rw [if_neg (by omega), if_pos (by omega)]; omega]
          exact hs _ _ (by omega) (by omega) (by omega)
        · rw [show (if y < a ∨ i ≤ y then y else if y < a + (i - (a + 1)) then a + 1 + (y - a) else a + (y - (a + (i - (a + 1))))) = a by rw [if_neg (by omega), if_neg (by omega)]; omega]
          exact ho.asym (h3 _ (by omega) (by omega))
      · rw [if_pos (by omega : y < a ∨ i ≤ y)]
        exact hs _ _ (by omega) (by omega) (by omega)
    · rw [show (if x < a ∨ i ≤ x then x else if x < a + (i - (a + 1)) then a + 1 + (x - a) else a + (x - (a + (i - (a + 1))))) = a by rw [if_neg (by omega), if_neg (by omega)]; omega]
      rw [if_pos (by omega : y < a ∨ i ≤ y)]
      exact h4 _ (by omega) hy
  · rw [if_pos (by omega : x < a ∨ i ≤ x), if_pos (by omega : y < a ∨ i ≤ y)]
    exact hs _ _ (by omega) (by omega) (by omega)
theorem put_down [DecidableEq κ] (ho : KOrd lt) {a m i : Nat} (hs : Srt ky lt L a m) (hb : m < L.length) (h1 : a ≤ i) (h2 : i ≤ m) (h3 : ∀ t, a ≤ t → t < i → lt (ky (L.getD m default)) (ky (L.getD t default)) = false) (h4 : ∀ t, i ≤ t → t < m → lt (ky (L.getD m default)) (ky (L.getD t default)) = true) (hr : IsRot L i m (m + 1) M) : Mv ky L M a (m + 1) ∧ Srt ky lt M a (m + 1) := by
  refine ⟨(hr.mv ho h2 (by omega) (by omega) (fun s t s1 s2 t1 t2 => by have e : t = m := (by omega); rw [e]; exact h4 s s1 s2)).mono h1 (Nat.le_refl _), fun x y hx hxy hy => ?_⟩
  rw [hr.at_, hr.at_]
  have key : ∀ z, rotI i m (m + 1) z = if z < i ∨ m + 1 ≤ z then z else if z = i then m else z - 1 := by
    intro z
    unfold rotI
    repeat' split
    all_goals omega
  have k1 : ∀ z, z < i → rotI i m (m + 1) z = z := fun z hz => by rw [key, if_pos (.inl hz)]
  have k2 : rotI i m (m + 1) i = m := by rw [key, if_neg (by omega), if_pos rfl]
  have k3 : ∀ z, i < z → z < m + 1 → rotI i m (m + 1) z = z - 1 := fun z hz hz2 => by rw [key, if_neg (by omega), if_neg (by omega)]
  by_cases cx : x < i
  · rw [k1 x cx]
    by_cases cy : y < i
    · rw [k1 y cy]; exact hs _ _ hx hxy (by omega)
    · by_cases cy2 : y = i
      · rw [cy2, k2]; exact h3 _ hx cx
      · rw [k3 y (by omega) hy]; exact hs _ _ hx (by omega) (by omega)
  · by_cases cx2 : x = i
    · rw [cx2, k2, k3 y (by omega) hy]
      exact ho.asym (h4 _ (by omega) (by omega))
    · rw [k3 x (by omega) (by omega), k3 y (by omega) hy]
      exact hs _ _ (by omega) (by omega) (by omega)
/-! A merge in place: the rotation about the middle. -/
/-- What the search over start .. r has found. -/
structure Cut (ky : α → κ) (lt : κ → κ → Bool) (L : List α) (a m b mid s : Nat) : Prop where
  lo : a ≤ s
  hi : s ≤ m
  sm : s ≤ mid
  mb : mid + m - s ≤ b
  left : s < m → m < mid + m - s → lt (ky (L.getD (mid + m - 1 - s) default)) (ky (L.getD s default)) = true
  right : a < s → mid + m - s < b → lt (ky (L.getD (mid + m - s) default)) (ky (L.getD (s - 1) default)) = false
theorem cut_gt {a m b mid s : Nat} (hm : mid < m) (_ : m < b) (hmid : mid = (a + b) / 2) (h1 : mid + m - b ≤ s) (h2 : s ≤ mid) (hA : ∀ c, mid + m - b ≤ c → c < s → lt (ky (L.getD (mid + m - 1 - c) default)) (ky (L.getD c default)) = false) (hB : ∀ c, s ≤ c → c < mid → lt (ky (L.getD (mid + m - 1 - c) default)) (ky (L.getD c default)) = true) (_ : a < m) : Cut ky lt L a m b mid s := by
  refine ⟨by omega, by omega, h2, by omega, fun h3 h4 => hB s (Nat.le_refl _) (by omega), fun h3 h4 => ?_⟩
  have := hA (s - 1) (by omega) (by omega)
  rw [show mid + m - 1 - (s - 1) = mid + m - s by omega] at this
  exact this
theorem cut_le {a m b mid s : Nat} (hm : m ≤ mid) (_ : m < b) (hmid : mid = (a + b) / 2) (h1 : a ≤ s) (h2 : s ≤ m) (hA : ∀ c, a ≤ c → c < s → lt (ky (L.getD (mid + m - 1 - c) default)) (ky (L.getD c default)) = false) (hB : ∀ c, s ≤ c → c < m → lt (ky (L.getD (mid + m - 1 - c) default)) (ky (L.getD c default)) = true) (_ : a < m) : Cut ky lt L a m b mid s := by
  refine ⟨h1, h2, by omega, by omega, fun h3 h4 => hB s (Nat.le_refl _) h3, fun h3 h4 => ?_⟩
  have := hA (s - 1) (by omega) (by omega)
  rw [show mid + m - 1 - (s - 1) = mid + m - s by omega] at this
  exact this
/-- Behind the rotation: four sorted rows, and nothing of the first two above the last two. -/
structure Turned4 (ky : α → κ) (lt : κ → κ → Bool) (L M : List α) [DecidableEq κ] (a s mid e b : Nat) : Prop where
  mv : Mv ky L M a b
  s1 : Srt ky lt M a s
  s2 : Srt ky lt M s mid
  s3 : Srt ky lt M mid e
  s4 : Srt ky lt M e b
  cross : ∀ x y, a ≤ x → x < mid → mid ≤ y → y < b → lt (ky (M.getD y default)) (ky (M.getD x default)) = false
theorem Cut.turned [DecidableEq κ] (ho : KOrd lt) {a m b mid s : Nat} (h : Cut ky lt L a m b mid s) (hb : b ≤ L.length) (hl : Srt ky lt L a m) (hr : Srt ky lt L m b) (hR : IsRot L s m (mid + m - s) M) : Turned4 ky lt L M a s mid (mid + m - s) b := by
  obtain ⟨e, he⟩ : ∃ e, e = mid + m - s := ⟨_, rfl⟩
  rw [← he] at hR ⊢
  have hlo := h.lo
  have hhi := h.hi
  have hsm := h.sm
  have hmbe := h.mb
  rw [← he] at hmbe
  have hme : m ≤ e := by omega
  have hlt : ∀ x y, s ≤ x → x < m → m ≤ y → y < e → lt (ky (L.getD y default)) (ky (L.getD x default)) = true := fun x y x1 x2 y1 y2 => by
    have h9 := h.left (by omega) (by omega)
    have h8 := hr.le ho (i := y) (j := mid + m - 1 - s) y1 (by omega) (by omega)
    have h7 := hl.le ho (i := s) (j := x) hlo x1 x2
    exact ho.lt_le (ho.le_lt h8 h9) h7
  have hmv : Mv ky L M s e := hR.mv ho hhi hme (by omega) hlt
  have key : ∀ z, M.getD z default = L.getD (if z < s ∨ e ≤ z then z else if z < mid then m + (z - s) else s + (z - mid)) default := fun z => by
    rw [hR.at_]
    congr 1
    unfold rotI
    have : s + (e - m) = mid := by omega
    rw [this]
  have k1 : ∀ z, z < s → M.getD z default = L.getD z default := fun z hz => by rw [key, if_pos (.inl hz)]
  have k2 : ∀ z, s ≤ z → z < mid → M.getD z default = L.getD (m + (z - s)) default := fun z h1 h2 => by rw [key, if_neg (by omega), if_pos h2]
  have k3 : ∀ z, mid ≤ z → z < e → M.getD z default = L.getD (s + (z - mid)) default := fun z h1 h2 => by rw [key, if_neg (by omega), if_neg (by omega)]
  have k4 : ∀ z, e ≤ z → M.getD z default = L.getD z default := fun z hz => by rw [key, if_pos (.inr hz)]
  refine ⟨hmv.mono hlo hmbe, ?_, ?_, ?_, ?_, ?_⟩
  · intro i j h1 h2 h3; rw [k1 i (by omega), k1 j h3]; exact hl i j h1 h2 (by omega)
  · intro i j h1 h2 h3; rw [k2 i h1 (by omega), k2 j (by omega) h3]; exact hr _ _ (by omega) (by omega) (by omega)
  · intro i j h1 h2 h3; rw [k3 i h1 (by omega), k3 j (by omega) h3]; exact hl _ _ (by omega) (by omega) (by omega)
  · intro i j h1 h2 h3; rw [k4 i h1, k4 j (by omega)]; exact hr i j (by omega) h2 h3
  · intro x y x1 x2 y1 y2
    by_cases cx : x < s
    · rw [k1 x cx]
      by_cases cy : y < e
      · rw [k3 y y1 cy]; exact hl _ _ x1 (by omega) (by omega)
      · rw [k4 y (by omega)]
        have h9 := h.right (by omega) (by omega)
        rw [← he] at h9
        have h8 := hl.le ho (i := x) (j := s - 1) x1 (by omega) (by omega)
        have h7 := hr.le ho (i := e) (j := y) hme (by omega) y2
        exact ho.le_tr h8 (ho.le_tr h9 h7)
    · rw [k2 x (by omega) x2]
      by_cases cy : y < e
      · rw [k3 y y1 cy]; exact ho.asym (hlt _ _ (by omega) (by omega) (by omega) (by omega))
      · rw [k4 y (by omega)]; exact hr _ _ (by omega) (by omega) y2
theorem Turned4.left [DecidableEq κ] {a s mid e b : Nat} (h : Turned4 ky lt L M a s mid e b) (hN : Mv ky M N a mid) (hs : Srt ky lt N a mid) (hab : mid ≤ b) (hme : mid ≤ e) : Mv ky L N a b ∧ Srt ky lt N a mid ∧ Srt ky lt N mid e ∧ Srt ky lt N e b ∧ ∀ x y, a ≤ x → x < mid → mid ≤ y → y < b → lt (ky (N.getD y default)) (ky (N.getD x default)) = false :=
  ⟨h.mv.trans (hN.mono (Nat.le_refl _) hab), hs, h.s3.kept hN (.inr (Nat.le_refl _)), h.s4.kept hN (.inr hme), fun x y x1 x2 y1 y2 => by
    obtain ⟨x', x1', x2', e1⟩ := hN.into x x1 x2
    rw [e1, hN.out y (.inr y1)]
    exact h.cross x' y x1' x2' y1 y2⟩
theorem merged [DecidableEq κ] {a mid b : Nat} {K : List α} (hM : Mv ky L N a b) (hs : Srt ky lt N a mid) (hc : ∀ x y, a ≤ x → x < mid → mid ≤ y → y < b → lt (ky (N.getD y default)) (ky (N.getD x default)) = false) (hK : Mv ky N K mid b) (hs2 : Srt ky lt K mid b) (ham : a ≤ mid) : Mv ky L K a b ∧ Srt ky lt K a b :=
  ⟨hM.trans (hK.mono ham (Nat.le_refl _)), (hs.kept hK (.inl (Nat.le_refl _))).join hs2 (fun x y x1 x2 y1 y2 => by
    obtain ⟨y', y1', y2', e1⟩ := hK.into y y1 y2
    rw [e1, hK.out x (.inl x2)]
    exact hc x y' x1 x2 y1' y2')⟩
/-! Rows of one length each sorted. -/
def Runs (ky : α → κ) (lt : κ → κ → Bool) (L : List α) (z n : Nat) : Prop := ∀ t, Srt ky lt L (t * z) (min (t * z + z) n)
/-- The first t double rows are merged, the others are as they were. -/
structure Half (ky : α → κ) (lt : κ → κ → Bool) (L : List α) (z n t : Nat) : Prop where
  done : ∀ q, q < t → Srt ky lt L (q * (2 * z)) (q * (2 * z) + 2 * z)
  left : ∀ q, 2 * t ≤ q → Srt ky lt L (q * z) (min (q * z + z) n)
theorem Runs.half {z n : Nat} (h : Runs ky lt L z n) : Half ky lt L z n 0 := ⟨fun q hq => by omega, fun q _ => h q⟩
theorem Half.pair {z n t : Nat} (h : Half ky lt L z n t) (hb : t * (2 * z) + 2 * z ≤ n) : Srt ky lt L (t * (2 * z)) (t * (2 * z) + z) ∧ Srt ky lt L (t * (2 * z) + z) (t * (2 * z) + 2 * z) := by
  have h1 := h.left (2 * t) (Nat.le_refl _)
  have h2 := h.left (2 * t + 1) (by omega)
  have e1 : 2 * t * z = t * (2 * z) := by rw [Nat.mul_comm 2 t, Nat.mul_assoc]
  have e2 : (2 * t + 1) * z = t * (2 * z) + z := by rw [Nat.add_mul, e1, Nat.one_mul]
  rw [e1] at h1
  rw [e2] at h2
  exact ⟨h1.mono (Nat.le_refl _) (by omega), h2.mono (Nat.le_refl _) (by omega)⟩
theorem Half.last {z n t : Nat} (h : Half ky lt L z n t) (hb : n ≤ t * (2 * z) + 2 * z) : Srt ky lt L (t * (2 * z)) (min (t * (2 * z) + z) n) ∧ Srt ky lt L (t * (2 * z) + z) n := by
  have h1 := h.left (2 * t) (Nat.le_refl _)
  have h2 := h.left (2 * t + 1) (by omega)
  have e1 : 2 * t * z = t * (2 * z) := by rw [Nat.mul_comm 2 t, Nat.mul_assoc]
  have e2 : (2 * t + 1) * z = t * (2 * z) + z := by rw [Nat.add_mul, e1, Nat.one_mul]
  rw [e1] at h1
  rw [e2] at h2
  exact ⟨h1, h2.mono (Nat.le_refl _) (by omega)⟩
theorem Half.next [DecidableEq κ] {z n t : Nat} (h : Half ky lt L z n t) (hM : Mv ky L M (t * (2 * z)) (t * (2 * z) + 2 * z)) (hs : Srt ky lt M (t * (2 * z)) (t * (2 * z) + 2 * z)) : Half ky lt M z n (t + 1) := by
  refine ⟨fun q hq => ?_, fun q hq => ?_⟩
  · by_cases e : q = t
    · subst e; exact hs
    · refine (h.done q (by omega)).kept hM (.inl ?_)
      have := Nat.mul_le_mul_right (2 * z) (show q + 1 ≤ t by omega)
      rw [Nat.add_mul, Nat.one_mul] at this
      exact this
  · refine (h.left q (by omega)).kept hM (.inr ?_)
    have := Nat.mul_le_mul_right z (show 2 * t + 2 ≤ q by omega)
    rw [show (2 * t + 2) * z = t * (2 * z) + 2 * z by rw [Nat.add_mul, Nat.mul_comm 2 t, Nat.mul_assoc]] at this
    exact this
theorem Half.runs [DecidableEq κ] {z n t : Nat} (h : Half ky lt L z n t) (hb : n ≤ t * (2 * z) + 2 * z) (hM : Mv ky L M (t * (2 * z)) n) (hs : Srt ky lt M (t * (2 * z)) n) : Runs ky lt M (2 * z) n := by
  intro q
  rcases Nat.lt_trichotomy q t with c | c | c
  · have := Nat.mul_le_mul_right (2 * z) (show q + 1 ≤ t by omega)
    rw [Nat.add_mul, Nat.one_mul] at this
    exact ((h.done q c).kept hM (.inl this)).mono (Nat.le_refl _) (by omega)
  · subst c; exact hs.mono (Nat.le_refl _) (by omega)
  · have := Nat.mul_le_mul_right (2 * z) (show t + 1 ≤ q by omega)
    rw [Nat.add_mul, Nat.one_mul] at this
    exact Srt.le_one (by omega)
/-- The first t rows are sorted. -/
theorem runs_of {z n t : Nat} (h : ∀ q, q < t → Srt ky lt L (q * z) (q * z + z)) (hb : n ≤ t * z + z) (hs : Srt ky lt L (t * z) n) : Runs ky lt L z n := by
  intro q
  rcases Nat.lt_trichotomy q t with c | c | c
  · exact (h q c).mono (Nat.le_refl _) (by omega)
  · subst c; exact hs.mono (Nat.le_refl _) (by omega)
  · have := Nat.mul_le_mul_right z (show t + 1 ≤ q by omega)
    rw [Nat.add_mul, Nat.one_mul] at this
    exact Srt.le_one (by omega)
theorem Runs.all {z n : Nat} (h : Runs ky lt L z n) (hz : n ≤ z) : Srt ky lt L 0 n := by
  have := h 0
  rw [Nat.zero_mul, Nat.zero_add, Nat.min_eq_right hz] at this
  exact this
/-! There is one such row. -/
theorem srt_tail {x : α} {r : List α} (h : Srt ky lt (x :: r) 0 (x :: r).length) : Srt ky lt r 0 r.length ∧ ∀ y ∈ r, lt (ky y) (ky x) = false := by
  refine ⟨fun i j h1 h2 h3 => ?_, fun y hy => ?_⟩
  · have := h (i + 1) (j + 1) (by omega) (by omega) (by simpa using h3)
    simpa using this
  · obtain ⟨i, hi, rfl⟩ := List.mem_iff_getElem.1 hy
    have := h 0 (i + 1) (Nat.le_refl _) (by omega) (by simpa using hi)
    simpa [List.getD, hi] using this
theorem same_of_cls [DecidableEq κ] (ho : KOrd lt) : ∀ {A B : List α}, Srt ky lt A 0 A.length → Srt ky lt B 0 B.length → (∀ p, A.filter (fun x => decide (ky x = p)) = B.filter (fun x => decide (ky x = p))) → A = B
  | [], [], _, _, _ => rfl
  | [], y :: s, _, _, h => by
    have := h (ky y)
    rw [List.filter_nil, List.filter_cons, if_pos (by simp)] at this
    cases this
  | x :: r, [], _, _, h => by
    have := h (ky x)
    rw [List.filter_nil, List.filter_cons, if_pos (by simp)] at this
    cases this
  | x :: r, y :: s, h1, h2, h => by
    obtain ⟨t1, m1⟩ := srt_tail h1
    obtain ⟨t2, m2⟩ := srt_tail h2
    have hk : ky x = ky y := by
      have a1 : lt (ky x) (ky y) = false := by
        have h9 := h (ky x)
        rw [List.filter_cons, if_pos (by simp)] at h9
        have h8 : x ∈ (y :: s).filter (fun z => decide (ky z = ky x)) := by rw [← h9]; exact List.mem_cons_self
        rw [List.mem_filter] at h8
        rcases List.mem_cons.1 h8.1 with e | e
        · rw [e]; exact ho.irr _
        · exact m2 x e
      have a2 : lt (ky y) (ky x) = false := by
        have h9 := h (ky y)
        rw [List.filter_cons (x := y), if_pos (by simp)] at h9
        have h8 : y ∈ (x :: r).filter (fun z => decide (ky z = ky y)) := by rw [h9]; exact List.mem_cons_self
        rw [List.mem_filter] at h8
        rcases List.mem_cons.1 h8.1 with e | e
        · rw [e]; exact ho.irr _
        · exact m1 y e
      exact ho.tri _ _ a1 a2
    have hx : x = y := by
      have h9 := h (ky x)
      rw [List.filter_cons, if_pos (by simp), List.filter_cons, if_pos (by simp [hk])] at h9
      exact (List.cons.inj h9).1
    subst hx
    congr 1
    refine same_of_cls ho t1 t2 (fun p => ?_)
    have h9 := h p
    rw [List.filter_cons, List.filter_cons] at h9
    split at h9
    · exact (List.cons.inj h9).2
    · exact h9
end
end Go.Proofs.YtkfkjcadmdcbnaaDoor
namespace Go.Proofs.YtkfkjcadmdcbnaaDoor
open Go.RowKit

/-! Texts in their order. -/
def lessB (x y : ByteArray) : Bool := Op.bytesLess x.toList y.toList
theorem bl_irr : ∀ a : List UInt8, Op.bytesLess a a = false
  | [] => rfl
  | x :: r => by rw [Op.bytesLess, bl_irr r]; simp
theorem bl_tr : ∀ a b c : List UInt8, Op.bytesLess a b = true → Op.bytesLess b c = true → Op.bytesLess a c = true
  | _, [], _, h, _ => by simp [Op.bytesLess] at h
  | _, y :: s, [], _, h => by simp [Op.bytesLess] at h
  | [], y :: s, z :: t, _, _ => rfl
  | x :: r, y :: s, z :: t, h1, h2 => by
    have ih := bl_tr r s t
    simp only [Op.bytesLess, Bool.or_eq_true, Bool.and_eq_true, decide_eq_true_eq, beq_iff_eq, UInt8.lt_iff_toNat_lt] at h1 h2 ⊢
    rcases h1 with h1 | ⟨rfl, h1⟩
    · rcases h2 with h2 | ⟨rfl, h2⟩
      · exact .inl (by omega)
      · exact .inl h1
    · rcases h2 with h2 | ⟨rfl, h2⟩
      · exact .inl h2
      · exact .inr ⟨rfl, ih h1 h2⟩
theorem bl_tri : ∀ a b : List UInt8, Op.bytesLess a b = false → Op.bytesLess b a = false → a = b
  | [], [], _, _ => rfl
  | [], y :: s, h, _ => by simp [Op.bytesLess] at h
  | x :: r, [], _, h => by simp [Op.bytesLess] at h
  | x :: r, y :: s, h1, h2 => by
    have ih := bl_tri r s
    simp only [Op.bytesLess, Bool.or_eq_false_iff, Bool.and_eq_false_iff, decide_eq_false_iff_not, UInt8.lt_iff_toNat_lt] at h1 h2
    have e : x = y := UInt8.toNat_inj.1 (by omega)
    subst e
    simp at h1 h2
    rw [ih h1 h2]
theorem text_back {x y : ByteArray} (h : x.toList = y.toList) : x = y := by
  rw [Go.ByteArray.toList_eq, Go.ByteArray.toList_eq] at h
  cases x; cases y
  simp at h
  rw [h]
theorem lessB_ord : KOrd lessB := ⟨fun _ => bl_irr _, fun _ _ _ => bl_tr _ _ _, fun _ _ h1 h2 => text_back (bl_tri _ _ h1 h2)⟩
/-! Items taken out, put in. -/
def dropR (L : List ItemR) (p : ByteArray) : List ItemR := L.filter fun x => !decide (x.path = p)
theorem dropR_append (A B : List ItemR) (p : ByteArray) : dropR (A ++ B) p = dropR A p ++ dropR B p := by unfold dropR; rw [List.filter_append]
theorem dropR_yes {x : ItemR} {p : ByteArray} (h : x.path = p) : dropR [x] p = [] := by unfold dropR; simp [h]
theorem dropR_no {x : ItemR} {p : ByteArray} (h : x.path ≠ p) : dropR [x] p = [x] := by unfold dropR; simp [h]
theorem dropR_len (L : List ItemR) (p : ByteArray) : (dropR L p).length ≤ L.length := List.length_filter_le _ _
theorem dropR_ne {L : List ItemR} {p : ByteArray} {y : ItemR} (h : y ∈ dropR L p) : y.path ≠ p := by
  unfold dropR at h
  rw [List.mem_filter] at h
  simpa using h.2
/-- The first item whose path is not less. -/
def geN : List ItemR → ByteArray → Nat
  | [], _ => 0
  | y :: r, p => if lessB y.path p = true then geN r p + 1 else 0
theorem geN_le : ∀ (L : List ItemR) (p : ByteArray), geN L p ≤ L.length
  | [], _ => Nat.le_refl _
  | y :: r, p => by
    have := geN_le r p
    unfold geN
    split <;> simp <;> omega
theorem geN_all : ∀ {L : List ItemR} {p : ByteArray}, (∀ j, j < L.length → lessB (L.getD j default).path p = true) → geN L p = L.length
  | [], _, _ => rfl
  | y :: r, p, h => by
    have h0 := h 0 (by simp)
    simp only [List.getD_cons_zero] at h0
    rw [geN, if_pos h0, geN_all (fun j hj => by have := h (j + 1) (by simpa using hj); simpa using this), List.length_cons]
theorem geN_at : ∀ {L : List ItemR} {p : ByteArray} {k : Nat}, k < L.length → (∀ j, j < k → lessB (L.getD j default).path p = true) → lessB (L.getD k default).path p = false → geN L p = k
  | y :: r, p, 0, _, _, h1 => by
    simp only [List.getD_cons_zero] at h1
    rw [geN, if_neg (by rw [h1]; simp)]
  | y :: r, p, k + 1, hk, h, h1 => by
    have h0 := h 0 (by omega)
    simp only [List.getD_cons_zero] at h0
    rw [geN, if_pos h0, geN_at (k := k) (by simpa using hk) (fun j hj => by have := h (j + 1) (by omega); simpa using this) (by simpa using h1)]
theorem geN_append_lt : ∀ {A : List ItemR} {p : ByteArray} (B : List ItemR), geN A p < A.length → geN (A ++ B) p = geN A p
  | y :: r, p, B, h => by
    rw [geN] at h ⊢
    rw [List.cons_append, geN]
    split
    · rename_i c
      rw [if_pos c] at h
      rw [geN_append_lt (A := r) B (by simpa using h)]
    · rfl
theorem geN_append_end {A : List ItemR} {p : ByteArray} {y : ItemR} (h : geN A p = A.length) (hy : lessB y.path p = false) : geN (A ++ [y]) p = A.length := by
  induction A with
  | nil => rw [List.nil_append, geN, if_neg (by rw [hy]; simp)]; rfl
  | cons z r ih =>
    rw [geN] at h
    rw [List.cons_append, geN]
    split at h
    · rename_i c
      rw [if_pos c, ih (by simpa using h), List.length_cons]
    · simp at h
def putAt (D : List ItemR) (x : ItemR) : List ItemR := D.take (geN D x.path) ++ x :: D.drop (geN D x.path)
def putR (L : List ItemR) (x : ItemR) : List ItemR := putAt (dropR L x.path) x
theorem putAt_end {D : List ItemR} {x : ItemR} (h : geN D x.path = D.length) : putAt D x = D ++ [x] := by
  unfold putAt
  rw [h, List.take_length, List.drop_length]
theorem putAt_next {D : List ItemR} {x y : ItemR} (h : geN D x.path < D.length) : putAt (D ++ [y]) x = putAt D x ++ [y] := by
  unfold putAt
  rw [geN_append_lt [y] h, List.take_append_of_le_length (by omega), List.drop_append_of_le_length (by omega)]
  simp
theorem putAt_turn {D : List ItemR} {x y : ItemR} (h : geN D x.path = D.length) (hy : lessB y.path x.path = false) : putAt (D ++ [y]) x = D ++ [x] ++ [y] := by
  unfold putAt
  rw [geN_append_end h hy, List.take_append_of_le_length (Nat.le_refl _), List.take_length, List.drop_append_of_le_length (Nat.le_refl _), List.drop_length]
  simp
/-- Whether the new item has come. -/
def laidB (M : List ItemR) (x : ItemR) : Bool := M.any fun y => lessB x.path y.path
theorem laid_geN {M : List ItemR} {x : ItemR} (h : laidB M x = true) : geN (dropR M x.path) x.path < (dropR M x.path).length := by
  unfold laidB at h
  rw [List.any_eq_true] at h
  obtain ⟨y, hy, hl⟩ := h
  have hne : y.path ≠ x.path := fun e => by rw [e, lessB_ord.irr] at hl; cases hl
  have hm : y ∈ dropR M x.path := by unfold dropR; rw [List.mem_filter]; exact ⟨hy, by simpa using hne⟩
  obtain ⟨j, hj, e⟩ := List.mem_iff_getElem.1 hm
  have gen : ∀ (D : List ItemR) (j : Nat), j < D.length → lessB (D.getD j default).path x.path = false → geN D x.path ≤ j := by
    intro D
    induction D with
    | nil => intro j hj _; simp at hj
    | cons z r ih =>
      intro j hj h
      rw [geN]
      match j, hj, h with
      | 0, _, h => simp only [List.getD_cons_zero] at h; rw [if_neg (by rw [h]; simp)]; exact Nat.le_refl _
      | j + 1, hj, h =>
        split
        · have := ih j (by simpa using hj) (by simpa using h); omega
        · omega
  have h9 := gen (dropR M x.path) j hj (by
    have : (dropR M x.path).getD j default = y := by simpa [List.getD, hj] using e
    rw [this]
    exact lessB_ord.asym hl)
  omega
theorem unlaid_geN {M : List ItemR} {x : ItemR} (h : laidB M x = false) : geN (dropR M x.path) x.path = (dropR M x.path).length := by
  refine geN_all (fun j hj => ?_)
  have hm : (dropR M x.path).getD j default ∈ dropR M x.path := by
    have : (dropR M x.path).getD j default = (dropR M x.path)[j] := by simp [List.getD, hj]
    rw [this]
    exact List.getElem_mem hj
  have hne := dropR_ne hm
  have hin : (dropR M x.path).getD j default ∈ M := (List.mem_filter.1 (show _ ∈ M.filter _ from hm)).1
  unfold laidB at h
  rw [List.any_eq_false] at h
  have h1 := h _ hin
  cases h2 : lessB ((dropR M x.path).getD j default).path x.path with
  | true => rfl
  | false => exact absurd (lessB_ord.tri _ _ h2 (by simpa using h1)) hne
/-- What the model has put out behind the first items. -/
def putTo (M : List ItemR) (x : ItemR) : List ItemR := if laidB M x = true then putR M x else dropR M x.path
theorem laid_snoc (M : List ItemR) (x y : ItemR) : laidB (M ++ [y]) x = (laidB M x || lessB x.path y.path) := by unfold laidB; rw [List.any_append]; simp
theorem putTo_laid {M : List ItemR} {x y : ItemR} (h : laidB M x = true) : putTo (M ++ [y]) x = putTo M x ++ dropR [y] x.path := by
  unfold putTo
  rw [laid_snoc, h, Bool.true_or, if_pos rfl, if_pos rfl]
  unfold putR
  rw [dropR_append]
  by_cases hy : y.path = x.path
  · rw [dropR_yes hy, List.append_nil, List.append_nil]
  · rw [dropR_no hy, putAt_next (laid_geN h)]
theorem putTo_turn {M : List ItemR} {x y : ItemR} (h : laidB M x = false) (hy : lessB x.path y.path = true) : putTo (M ++ [y]) x = putTo M x ++ [x] ++ [y] := by
  have hne : y.path ≠ x.path := fun e => by rw [e, lessB_ord.irr] at hy; cases hy
  unfold putTo
  rw [laid_snoc, h, hy, Bool.false_or, if_pos rfl, if_neg (by simp)]
  unfold putR
  rw [dropR_append, dropR_no hne, putAt_turn (unlaid_geN h) (lessB_ord.asym hy)]
theorem putTo_no {M : List ItemR} {x y : ItemR} (h : laidB M x = false) (hy : lessB x.path y.path = false) : putTo (M ++ [y]) x = putTo M x ++ dropR [y] x.path := by
  unfold putTo
  rw [laid_snoc, h, hy, Bool.false_or, if_neg (by simp), if_neg (by simp), dropR_append]
theorem putTo_end {L : List ItemR} {x : ItemR} (h : laidB L x = false) : putR L x = putTo L x ++ [x] := by
  unfold putTo
  rw [if_neg (by rw [h]; simp)]
  unfold putR
  rw [putAt_end (unlaid_geN h)]
theorem putTo_done {L : List ItemR} {x : ItemR} (h : laidB L x = true) : putR L x = putTo L x := by unfold putTo; rw [if_pos h]
theorem putTo_nil (x : ItemR) : putTo [] x = [] := rfl
theorem take_next {L : List ItemR} {k : Nat} (hk : k < L.length) : L.take (k + 1) = L.take k ++ [L.getD k default] := by
  rw [List.take_succ_eq_append_getElem hk]
  simp [List.getD, hk]
/-! Items moved, one put behind all that are not above it. -/
def gtN : List ItemR → ByteArray → Nat
  | [], _ => 0
  | y :: r, p => if lessB p y.path = true then 0 else gtN r p + 1
theorem gtN_le : ∀ (L : List ItemR) (p : ByteArray), gtN L p ≤ L.length
  | [], _ => Nat.le_refl _
  | y :: r, p => by
    have := gtN_le r p
    unfold gtN
    split <;> simp <;> omega
theorem gtN_low : ∀ {L : List ItemR} {p : ByteArray} {j : Nat}, j < gtN L p → lessB p (L.getD j default).path = false
  | y :: r, p, j, h => by
    rw [gtN] at h
    split at h
    · omega
    · rename_i c
      match j, h with
      | 0, _ => simpa using c
      | j + 1, h => simpa using gtN_low (L := r) (p := p) (j := j) (by omega)
theorem gtN_hit : ∀ {L : List ItemR} {p : ByteArray}, gtN L p < L.length → lessB p (L.getD (gtN L p) default).path = true
  | y :: r, p, h => by
    rw [gtN] at h ⊢
    split
    · rename_i c; simpa using c
    · rename_i c
      rw [if_neg c] at h
      simpa using gtN_hit (L := r) (p := p) (by simpa using h)
theorem gtN_all {L : List ItemR} {p : ByteArray} (h : ∀ j, j < L.length → lessB p (L.getD j default).path = false) : gtN L p = L.length := by
  rcases Nat.lt_or_ge (gtN L p) L.length with c | c
  · have := gtN_hit c
    rw [h _ c] at this
    cases this
  · have := gtN_le L p; omega
theorem gtN_at {L : List ItemR} {p : ByteArray} {k : Nat} (hk : k < L.length) (h : ∀ j, j < k → lessB p (L.getD j default).path = false) (h1 : lessB p (L.getD k default).path = true) : gtN L p = k := by
  rcases Nat.lt_trichotomy (gtN L p) k with c | c | c
  · have := gtN_hit (L := L) (p := p) (by omega)
    rw [h _ c] at this
    cases this
  · exact c
  · have := gtN_low c
    rw [h1] at this
    cases this
def insR (out : List ItemR) (x : ItemR) : List ItemR := out.take (gtN out x.path) ++ x :: out.drop (gtN out x.path)
theorem insR_len (out : List ItemR) (x : ItemR) : (insR out x).length = out.length + 1 := by
  have := gtN_le out x.path
  unfold insR
  rw [List.length_append, List.length_cons, List.length_take, List.length_drop]; omega
theorem insR_rot (out : List ItemR) (x : ItemR) : IsRot (out ++ [x]) (gtN out x.path) out.length (out.length + 1) (insR out x) := by
  have hg := gtN_le out x.path
  refine ⟨by rw [insR_len, List.length_append]; rfl, fun z => ?_⟩
  obtain ⟨k, hk⟩ : ∃ k, gtN out x.path = k := ⟨_, rfl⟩
  unfold insR
  rw [hk] at hg ⊢
  have l1 : (out.take k).length = k := by rw [List.length_take]; omega
  simp only [List.getD]
  congr 1
  have key : rotI k out.length (out.length + 1) z = if z < k ∨ out.length + 1 ≤ z then z else if z = k then out.length else z - 1 := by
    unfold rotI
    repeat' split
    all_goals omega
  rw [key]
  by_cases c1 : z < k
  · rw [if_pos (.inl c1), List.getElem?_append_left (by omega), List.getElem?_take_of_lt c1, List.getElem?_append_left (by omega)]
  · rw [List.getElem?_append_right (by omega), l1]
    by_cases c2 : out.length + 1 ≤ z
    · rw [if_pos (.inr c2), List.getElem?_eq_none (by rw [List.length_cons, List.length_drop]; omega), List.getElem?_eq_none (by rw [List.length_append, List.length_singleton]; omega)]
    · rw [if_neg (by omega)]
      by_cases c3 : z = k
      · subst c3
        rw [if_pos rfl, Nat.sub_self, List.getElem?_append_right (Nat.le_refl _), Nat.sub_self]
        rfl
      · rw [if_neg c3, show z - k = (z - k - 1) + 1 by omega, List.getElem?_cons_succ, List.getElem?_drop, List.getElem?_append_left (by omega)]
        congr 1
        omega
abbrev kyI : ItemR → ByteArray := ItemR.path
theorem srt_snoc {out : List ItemR} {x : ItemR} (h : Srt kyI lessB out 0 out.length) : Srt kyI lessB (out ++ [x]) 0 out.length := fun i j h1 h2 h3 => by
  have e : ∀ t, t < out.length → (out ++ [x]).getD t default = out.getD t default := fun t ht => by simp only [List.getD]; rw [List.getElem?_append_left ht]
  rw [e i (by omega), e j h3]
  exact h i j h1 h2 h3
theorem insR_srt {out : List ItemR} {x : ItemR} (h : Srt kyI lessB out 0 out.length) : Mv kyI (out ++ [x]) (insR out x) 0 (out.length + 1) ∧ Srt kyI lessB (insR out x) 0 (out.length + 1) := by
  have hg := gtN_le out x.path
  have e : ∀ t, t < out.length → (out ++ [x]).getD t default = out.getD t default := fun t ht => by simp only [List.getD]; rw [List.getElem?_append_left ht]
  have e2 : (out ++ [x]).getD out.length default = x := by simp [List.getD]
  refine put_down lessB_ord (srt_snoc h) (by simp) (Nat.zero_le _) hg (fun t _ ht => ?_) (fun t h1 h2 => ?_) (insR_rot out x)
  · rw [e2, e t (by omega)]; exact gtN_low ht
  · rw [e2, e t h2]
    have h3 := gtN_hit (L := out) (p := x.path) (by omega)
    have h4 := h.le lessB_ord (i := gtN out x.path) (j := t) (Nat.zero_le _) h1 h2
    exact lessB_ord.lt_le h3 h4
def sortR (M : List ItemR) : List ItemR := M.foldl insR []
theorem sortR_snoc (M : List ItemR) (x : ItemR) : sortR (M ++ [x]) = insR (sortR M) x := by unfold sortR; rw [List.foldl_append]; rfl
theorem sortR_all (n : Nat) : ∀ M : List ItemR, M.length = n → (sortR M).length = M.length ∧ Srt kyI lessB (sortR M) 0 (sortR M).length ∧ ∀ p, (sortR M).filter (fun x => decide (kyI x = p)) = M.filter (fun x => decide (kyI x = p)) := by
  induction n with
  | zero =>
    intro M h
    obtain rfl : M = [] := List.length_eq_zero_iff.1 h
    exact ⟨rfl, Srt.le_one (Nat.zero_le _), fun p => rfl⟩
  | succ n ih =>
    intro M h
    obtain ⟨A, x, rfl⟩ : ∃ A x, M = A ++ [x] := by
      rcases List.eq_nil_or_concat M with e | ⟨A, x, e⟩
      · rw [e] at h; cases h
      · exact ⟨A, x, by rw [e, List.concat_eq_append]⟩
    obtain ⟨h1, h2, h3⟩ := ih A (by simpa using h)
    obtain ⟨m, s⟩ := insR_srt (x := x) h2
    rw [sortR_snoc]
    refine ⟨by rw [insR_len, h1, List.length_append]; rfl, by rw [insR_len]; exact s, fun p => ?_⟩
    rw [m.cls, List.filter_append, List.filter_append, h3]
theorem sortR_is {M N : List ItemR} (hs : Srt kyI lessB N 0 N.length) (hc : ∀ p, N.filter (fun x => decide (kyI x = p)) = M.filter (fun x => decide (kyI x = p))) : N = sortR M := by
  obtain ⟨_, h2, h3⟩ := sortR_all M.length M rfl
  exact same_of_cls lessB_ord hs h2 (fun p => by rw [hc, h3])
end Go.Proofs.YtkfkjcadmdcbnaaDoor
namespace Go.Proofs.YtkfkjcadmdcbnaaDoor
open Go.RowKit

/-- A block of four cells. -/
def Four (w : World) (b : Nat) (T P I Q : Int) (t : TypeId) : Prop := w.heap[b]? = some (.cells #[.int .i64 T, .int .i64 P, .int .i64 I, .int .i64 Q] t (0, 0))
theorem Four.lt {w : World} {b : Nat} {T P I Q : Int} {t : TypeId} (h : Four w b T P I Q t) : b < w.heap.size := (Array.getElem?_eq_some_iff.1 h).1
theorem Four.later {w w' : World} {b : Nat} {T P I Q : Int} {t : TypeId} (h : Four w b T P I Q t) (hb : Below w.heap.size w w') : Four w' b T P I Q t := (hb.block b h.lt).trans h
theorem Four.alloc (w : World) (T P I Q : Int) (t : TypeId) : Four (w.alloc (.cells #[.int .i64 T, .int .i64 P, .int .i64 I, .int .i64 Q] t)) w.heap.size T P I Q t := heap_alloc_new w _
theorem Four.c0 {w : World} {b : Nat} {T P I Q : Int} {t : TypeId} (h : Four w b T P I Q t) : w.cell? ⟨b, 0, none⟩ = some (.int .i64 T) := by unfold Four at h; simp [World.cell?, h]
theorem Four.c1 {w : World} {b : Nat} {T P I Q : Int} {t : TypeId} (h : Four w b T P I Q t) : w.cell? ⟨b, 1, none⟩ = some (.int .i64 P) := by unfold Four at h; simp [World.cell?, h]
theorem Four.c2 {w : World} {b : Nat} {T P I Q : Int} {t : TypeId} (h : Four w b T P I Q t) : w.cell? ⟨b, 2, none⟩ = some (.int .i64 I) := by unfold Four at h; simp [World.cell?, h]
theorem Four.c3 {w : World} {b : Nat} {T P I Q : Int} {t : TypeId} (h : Four w b T P I Q t) : w.cell? ⟨b, 3, none⟩ = some (.int .i64 Q) := by unfold Four at h; simp [World.cell?, h]
theorem Four.fr {w : World} {b o : Nat} {T P I Q : Int} {t : TypeId} (h : Four w b T P I Q t) : w.frozen? ⟨b, o, none⟩ = false := by unfold Four at h; simp [World.frozen?, h]
theorem Four.drew {w : World} {b : Nat} {T P I Q : Int} {t : TypeId} (h : Four w b T P I Q t) : Four w.drew b T P I Q t := h
theorem Four.setOther' {w : World} {b c o : Nat} {T P I Q : Int} {t : TypeId} {v : Value} (h : Four w b T P I Q t) (hne : b ≠ c) : Four (w.setCell ⟨c, o, none⟩ v) b T P I Q t := (Below.heap_setCell _ _ _ _ hne).trans h
theorem below_al (w : World) (o : Obj) : Below w.heap.size w (w.alloc o) := (Below.refl _ _).alloc (Nat.le_refl _) _

/-- Whether a layout is valid. -/
def GeoR (T P I Q : Int) : Prop := 1 ≤ T ∧ T ≤ 3 ∧ 5 ≤ P ∧ P ≤ 12 ∧ 2 ≤ I ∧ I ≤ 6 ∧ 1 ≤ Q ∧ Q ≤ P - 4
instance (T P I Q : Int) : Decidable (GeoR T P I Q) := by unfold GeoR; infer_instance
theorem geo_cases {T P I Q : Int} (h : ¬ GeoR T P I Q) : (¬ (1 ≤ T ∧ T ≤ 3)) ∨ ((1 ≤ T ∧ T ≤ 3) ∧ ¬ (5 ≤ P ∧ P ≤ 12)) ∨ ((1 ≤ T ∧ T ≤ 3) ∧ (5 ≤ P ∧ P ≤ 12) ∧ ¬ (2 ≤ I ∧ I ≤ 6)) ∨ ((1 ≤ T ∧ T ≤ 3) ∧ (5 ≤ P ∧ P ≤ 12) ∧ (2 ≤ I ∧ I ≤ 6) ∧ ¬ (1 ≤ Q ∧ Q ≤ P - 4)) := by
  unfold GeoR at h; omega
theorem within_cases (n a b : Int) : (a ≤ n ∧ n ≤ b) ∨ n < a ∨ (a ≤ n ∧ b < n) := by omega

/-- The words of a part. -/
def wordsOf (P I : Int) : Int := 38 + 8 * I + 4 * P
end Go.Proofs.YtkfkjcadmdcbnaaDoor
namespace Go.Proofs.YtkfkjcadmdcbnaaDoor
open Go.RowKit Go.Proofs.YtkfkjcadmdcbnaaDoor.Parts Go.Proofs.YtkfkjcadmdcbnaaDoor.Hexa

def folderB (L : List ItemR) (p : ByteArray) : Bool := if p = slashB then true else if itemZ L p = -1 then false else (L.getD (itemZ L p).toNat default).dir
theorem folder_root (L : List ItemR) : folderB L slashB = true := if_pos rfl
theorem folder_none {L : List ItemR} {p : ByteArray} (h : p ≠ slashB) (h2 : itemZ L p = -1) : folderB L p = false := by unfold folderB; rw [if_neg h, if_pos h2]
theorem folder_at {L : List ItemR} {p : ByteArray} {k : Nat} (h : p ≠ slashB) (h2 : itemZ L p = (k : Int)) : folderB L p = (L.getD k default).dir := by
  unfold folderB
  rw [if_neg h, if_neg (by omega), h2]
  rfl
def kidsB (L : List ItemR) (f : ByteArray) : Bool := decide ((kidsR L f).length ≤ 6)
def itemB (L : List ItemR) (x : ItemR) : Bool := if parentB x.path = ⟨#[]⟩ ∨ folderB L (parentB x.path) = false then false else if x.dir = true then decide (x.text = ⟨#[]⟩) && kidsB L x.path else decide (x.text.size ≤ 128)
theorem item_noparent {L : List ItemR} {x : ItemR} (h : parentB x.path = ⟨#[]⟩) : itemB L x = false := if_pos (.inl h)
theorem item_nofolder {L : List ItemR} {x : ItemR} (h : folderB L (parentB x.path) = false) : itemB L x = false := if_pos (.inr h)
theorem item_dir {L : List ItemR} {x : ItemR} (h : parentB x.path ≠ ⟨#[]⟩) (h2 : folderB L (parentB x.path) = true) (h3 : x.dir = true) : itemB L x = (decide (x.text = ⟨#[]⟩) && kidsB L x.path) := by
  unfold itemB
  rw [if_neg (by rw [h2]; simp [h]), if_pos h3]
theorem item_file {L : List ItemR} {x : ItemR} (h : parentB x.path ≠ ⟨#[]⟩) (h2 : folderB L (parentB x.path) = true) (h3 : x.dir = false) : itemB L x = decide (x.text.size ≤ 128) := by
  unfold itemB
  rw [if_neg (by rw [h2]; simp [h]), if_neg (by rw [h3]; simp)]
/-- The path ahead of place j. -/
def prevP (L : List ItemR) : Nat → ByteArray
  | 0 => ⟨#[]⟩
  | j + 1 => (L.getD j default).path
def stepB (L : List ItemR) (j : Nat) : Bool := lessB (prevP L j) (L.getD j default).path && itemB L (L.getD j default)
def stepsB (L : List ItemR) (n : Nat) : Bool := (List.range n).all fun j => stepB L j
def itemsB (L : List ItemR) : Bool := stepsB L L.length && kidsB L slashB
theorem steps_next (L : List ItemR) (n : Nat) : stepsB L (n + 1) = (stepsB L n && stepB L n) := by unfold stepsB; rw [List.range_succ, List.all_append]; simp
theorem steps_bad {L : List ItemR} {n m : Nat} (h : n < m) (hb : stepB L n = false) : stepsB L m = false := by
  unfold stepsB
  rw [List.all_eq_false]
  exact ⟨n, by simpa using h, by rw [hb]; simp⟩
theorem items_bad {L : List ItemR} {n : Nat} (h : n < L.length) (hb : stepB L n = false) : itemsB L = false := by unfold itemsB; rw [steps_bad h hb]; rfl
def viewB (T P I Q : Int) (L : List ItemR) : Bool := decide (GeoR T P I Q) && (decide ((L.length : Int) < I) && (itemsB L && decide (pagesR L ≤ Q)))
theorem view_nogeo {T P I Q : Int} {L : List ItemR} (h : ¬ GeoR T P I Q) : viewB T P I Q L = false := by unfold viewB; rw [decide_eq_false h]; rfl
theorem view_many {T P I Q : Int} {L : List ItemR} (h : ¬ (L.length : Int) < I) : viewB T P I Q L = false := by unfold viewB; rw [decide_eq_false h]; simp
theorem view_items {T P I Q : Int} {L : List ItemR} (h : itemsB L = false) : viewB T P I Q L = false := by unfold viewB; rw [h]; simp
theorem view_all {T P I Q : Int} {L : List ItemR} (h1 : GeoR T P I Q) (h2 : (L.length : Int) < I) (h3 : itemsB L = true) : viewB T P I Q L = decide (pagesR L ≤ Q) := by unfold viewB; rw [decide_eq_true h1, decide_eq_true h2, h3]; rfl
theorem bytes_nil {f : ByteArray} (h : f.size = 0) : f = ⟨#[]⟩ := by
  cases f with | mk f => cases f with | mk l => cases l with
  | nil => rfl
  | cons x r => simp [ByteArray.size] at h
theorem bytes_full {f : ByteArray} (h : f ≠ ⟨#[]⟩) : 0 < f.size := by
  rcases Nat.eq_zero_or_pos f.size with h1 | h1
  · exact absurd (bytes_nil h1) h
  · exact h1
theorem slash_toList : slashB.toList = [47] := by rw [Go.ByteArray.toList_eq]; rfl
theorem text_noslash {p : ByteArray} (h : p ≠ slashB) : (p.toList == [47]) = false := by
  apply beq_eq_false_iff_ne.2
  intro e
  exact h (text_back (by rw [e, slash_toList]))
theorem text_noslash' {p : ByteArray} (h : p ≠ slashB) : ¬ p.toList = [47] := fun e => h (text_back (by rw [e, slash_toList]))
end Go.Proofs.YtkfkjcadmdcbnaaDoor
namespace Go.Proofs.YtkfkjcadmdcbnaaDoor
open Go.RowKit Go.Proofs.YtkfkjcadmdcbnaaDoor.Parts Go.Proofs.YtkfkjcadmdcbnaaDoor.Hexa

set_option maxRecDepth 100000 in
set_option maxHeartbeats 2000000 in
theorem specItem_any (a : Option Addr) (c : Nat) (L : List ItemR) (p : ByteArray) (w : World) (h : (celRow cItem L).Rd w (.slice a L.length c)) (hn : L.length ≤ 100000000) :
    Calls Tryd.prog 31 #[.agg #[.slice a L.length c], .string p] w (SaysI (itemZ L p) w) := by
  have B0 := Lib.hid (below_bk w (.cells #[.slice a L.length c] 30))
  have T0 := Lib.hid (Bk.alloc w #[.slice a L.length c] 30)
  have HS := Lib.hid h
  obtain ⟨z, hz⟩ : ∃ z, itemZ L p = z := ⟨_, rfl⟩
  have HZ := Lib.hid hz
  rw [hz]
  clear h hz
  go_enter Tryd.func31, Tryd.ntmps31
  go_wp2
  go_loopw [5] (fun jv wr => ∃ j : Nat, j ≤ L.length ∧ jv = .int .i64 j ∧ Hid (∀ r, r < j → (L.getD r default).path ≠ p) ∧ Hid (Below w.heap.size w wr) ∧ Hid (Bk wr w.heap.size #[.slice a L.length c] 30)) (fun jv _ => L.length - (intOf jv).toNat)
  case atStart => exact ⟨0, Nat.zero_le _, rfl, Lib.hid (fun r hr => by omega), B0, T0⟩
  case round =>
    clear T0 B0
    obtain ⟨j, hj, rfl, HA, HB, HT⟩ := hrel
    have t0 := HT.out.cell (j := 0) rfl
    by_cases hjt : j < L.length
    · obtain ⟨g, off, rfl, hg, d0, d1, d2⟩ := cItem_at (Cel.Rd.later HB.out _ _ HS.out) j hjt
      obtain ⟨x, hx⟩ : ∃ x, L.getD j default = x := ⟨_, rfl⟩
      rw [hx] at d0 d1 d2
      have HX := Lib.hid hx
      clear hx d1 d2
      by_cases hq : x.path = p
      · have HZ2 : Hid ((j : Int) = z) := Lib.hid (by rw [← HZ.out, itemZ_some hjt HA.out (by rw [HX.out]; exact hq)])
        subst hq
        go_wp2
        go_ret
        exact ⟨ret_i64m HZ2.out, HB.out⟩
      · have HA2 : Hid (∀ r, r < j + 1 → (L.getD r default).path ≠ p) := Lib.hid (fun r hr => by
          by_cases e : r = j
          · subst e; rw [HX.out]; exact hq
          · exact HA.out r (by omega))
        have i1 := text_neB hq
        have i3 := text_ne hq
        clear HA
        go_wp2
        go_roundw
        case rel => exact ⟨j + 1, by omega, by go_num, HA2, HB, HT⟩
        case measure => (simp [intOf]; try omega)
    · obtain rfl : j = L.length := by omega
      have HE : Hid (-1 = z) := Lib.hid (by rw [← HZ.out, itemZ_none HA.out])
      go_wp2
      go_ret
      exact ⟨ret_i64m HE.out, HB.out⟩
end Go.Proofs.YtkfkjcadmdcbnaaDoor
namespace Go.Proofs.YtkfkjcadmdcbnaaDoor
open Go.RowKit

theorem specPages_any (n : Int) (w : World) (h0 : -9223372036854775808 ≤ n) (h1 : n ≤ 9223372036854775807) : Calls Tryd.prog 52 #[.int .i64 n] w fun e w' => e = .returned (.int .i64 (pagesZ n)) ∧ w' = w := by
  by_cases h : n ≤ 0
  · have HE : Hid (pagesZ n = 0) := Lib.hid (if_pos h)
    go_enter Tryd.func52, Tryd.ntmps52
    go_wp2
    go_ret
    exact ⟨by rw [HE.out]; rfl, rfl⟩
  · have HE : Hid (pagesZ n = (n - 1) / 32 + 1) := Lib.hid (if_neg h)
    have hp : 1 ≤ n := by omega
    have hd : (n - 1) / 32 ≤ 288230376151711743 := by omega
    have hd0 : 0 ≤ (n - 1) / 32 := by omega
    go_enter Tryd.func52, Tryd.ntmps52
    go_wp2
    go_ret
    exact ⟨by rw [HE.out]; rfl, rfl⟩

end Go.Proofs.YtkfkjcadmdcbnaaDoor
namespace Go.Proofs.YtkfkjcadmdcbnaaDoor
open Go.RowKit

theorem implPages_any (n : Int) (w : World) (h0 : -9223372036854775808 ≤ n) (h1 : n ≤ 9223372036854775807) : Calls Tryd.prog 56 #[.int .i64 n] w fun e w' => e = .returned (.int .i64 (pagesZ n)) ∧ w' = w := by
  by_cases h : n ≤ 0
  · have HE : Hid (pagesZ n = 0) := Lib.hid (if_pos h)
    go_enter Tryd.func56, Tryd.ntmps56
    go_wp2
    go_ret
    exact ⟨by rw [HE.out]; rfl, rfl⟩
  · have HE : Hid (pagesZ n = (n - 1) / 32 + 1) := Lib.hid (if_neg h)
    have hp : 1 ≤ n := by omega
    have hd : (n - 1) / 32 ≤ 288230376151711743 := by omega
    have hd0 : 0 ≤ (n - 1) / 32 := by omega
    go_enter Tryd.func56, Tryd.ntmps56
    go_wp2
    go_ret
    exact ⟨by rw [HE.out]; rfl, rfl⟩

end Go.Proofs.YtkfkjcadmdcbnaaDoor
namespace Go.Proofs.YtkfkjcadmdcbnaaDoor
open Go.RowKit Go.Proofs.YtkfkjcadmdcbnaaDoor.Parts Go.Proofs.YtkfkjcadmdcbnaaDoor.Hexa

theorem pagesR_upto (L : List ItemR) (k : Nat) : pagesR (L.take k) ≤ pagesR L := by
  conv => rhs; rw [← List.take_append_drop k L, pagesR_append]
  have := (pagesR_bd (L.drop k)).1
  omega
theorem itemPg_file {x : ItemR} (h : x.dir = false) : itemPg x = pagesZ (x.text.size : Int) := by unfold itemPg; rw [h]; rfl
theorem itemPg_dir {x : ItemR} (h : x.dir = true) : itemPg x = 0 := by unfold itemPg; rw [h]; rfl
set_option maxRecDepth 100000 in
set_option maxHeartbeats 2000000 in
theorem specPgs_any (a : Option Addr) (c : Nat) (L : List ItemR) (w : World) (h : (celRow cItem L).Rd w (.slice a L.length c)) (hz : (celRow cItem L).sz ≤ 100000000) :
    Calls Tryd.prog 32 #[.agg #[.slice a L.length c]] w (SaysI (pagesR L) w) := by
  have B0 := Lib.hid (below_bk w (.cells #[.slice a L.length c] 30))
  have T0 := Lib.hid (Bk.alloc w #[.slice a L.length c] 30)
  have HS := Lib.hid h
  rw [sz_row'] at hz
  have hn : L.length ≤ 100000000 := by omega
  have HZ : Hid (szL (celsE cItem L) ≤ 100000000) := Lib.hid (by omega)
  have HM : Hid (pagesR L ≤ 100000000) := Lib.hid (by have := (pagesR_bd L).2; omega)
  clear h hz
  go_enter Tryd.func32, Tryd.ntmps32
  go_wp2
  go_loopw [3, 4] (fun nv jv wr => ∃ (j : Nat) (n : Int), j ≤ L.length ∧ jv = .int .i64 j ∧ nv = .int .i64 n ∧ 0 ≤ n ∧ n ≤ 100000000 ∧ Hid (n = pagesR (L.take j)) ∧ Hid (Below w.heap.size w wr) ∧ Hid (Bk wr w.heap.size #[.slice a L.length c] 30)) (fun _ jv _ => L.length - (intOf jv).toNat)
  case atStart => exact ⟨0, 0, Nat.zero_le _, rfl, rfl, Int.le_refl _, by omega, Lib.hid rfl, B0, T0⟩
  case round =>
    clear T0 B0
    obtain ⟨j, n, hj, rfl, rfl, hn0, hn1, HA, HB, HT⟩ := hrel
    have t0 := HT.out.cell (j := 0) rfl
    by_cases hjt : j < L.length
    · obtain ⟨g, off, rfl, hg, d0, d1, d2⟩ := cItem_at (Cel.Rd.later HB.out _ _ HS.out) j hjt
      have HX := Lib.hid (pagesR_next hjt)
      have HU := Lib.hid (pagesR_upto L (j + 1))
      have HY := Lib.hid (Nat.le_trans (szL_at cItem L j hjt) HZ.out)
      rw [cItem_sz] at HY
      obtain ⟨x, hx⟩ : ∃ x, L.getD j default = x := ⟨_, rfl⟩
      rw [hx] at d0 d1 d2 HX HY
      clear hx d0
      by_cases hq : x.dir = true
      · have HA2 : Hid (n = pagesR (L.take (j + 1))) := Lib.hid (by rw [HX.out, itemPg_dir hq, HA.out]; omega)
        rw [hq] at d1
        clear hq d2
        go_wp2
        go_roundw
        case rel => exact ⟨j + 1, n, by omega, by go_num, rfl, hn0, hn1, HA2, HB, HT⟩
        case measure => (simp [intOf]; try omega)
      · have hq' : x.dir = false := by simpa using hq
        have HP := Lib.hid (itemPg_file hq')
        have HQ := Lib.hid (itemPg_bd x)
        rw [hq'] at d1
        obtain ⟨m, hm⟩ : ∃ m, pagesZ (x.text.size : Int) = m := ⟨_, rfl⟩
        have hm0 : 0 ≤ m := by have := HQ.out.1; rw [HP.out, hm] at this; exact this
        have hm1 : n + m ≤ 100000000 := by have := HM.out; have := HU.out; have := HX.out; have := HA.out; have := HP.out; omega
        have hsz : x.text.size ≤ 100000000 := by have := HY.out; omega
        have HA2 : Hid (n + m = pagesR (L.take (j + 1))) := Lib.hid (by rw [HX.out, HP.out, hm, HA.out])
        have HMM := Lib.hid hm
        clear hq hq' hm
        go_wp2_with fail
        refine (specPages_any (x.text.size : Int) _ (by omega) (by omega)).mono ?_
        rw [HMM.out]
        rintro e w9 ⟨rfl, rfl⟩
        go_wp2
        go_roundw
        case rel => exact ⟨j + 1, n + m, by omega, by go_num, rfl, by omega, hm1, HA2, HB, HT⟩
        case measure => (simp [intOf]; try omega)
    · obtain rfl : j = L.length := by omega
      have HE : Hid (n = pagesR L) := Lib.hid (by have := HA.out; rw [List.take_length] at this; exact this)
      go_wp2
      go_ret
      exact ⟨ret_i64m HE.out, HB.out⟩
set_option maxRecDepth 100000 in
set_option maxHeartbeats 2000000 in
theorem implPgs_any (a : Option Addr) (c : Nat) (L : List ItemR) (w : World) (h : (celRow cItem L).Rd w (.slice a L.length c)) (hz : (celRow cItem L).sz ≤ 100000000) :
    Calls Tryd.prog 35 #[.agg #[.slice a L.length c]] w (SaysI (pagesR L) w) := by
  have B0 := Lib.hid (below_bk w (.cells #[.slice a L.length c] 30))
  have HS := Lib.hid h
  rw [sz_row'] at hz
  have hn : L.length ≤ 100000000 := by omega
  have HZ : Hid (szL (celsE cItem L) ≤ 100000000) := Lib.hid (by omega)
  have HM : Hid (pagesR L ≤ 100000000) := Lib.hid (by have := (pagesR_bd L).2; omega)
  clear h hz
  go_enter Tryd.func35, Tryd.ntmps35
  go_wp2
  go_loopw [3, 9] (fun nv jv wr => ∃ (j : Nat) (n : Int), j ≤ L.length ∧ jv = .int .i64 j ∧ nv = .int .i64 n ∧ 0 ≤ n ∧ n ≤ 100000000 ∧ Hid (n = pagesR (L.take j)) ∧ Hid (Below w.heap.size w wr)) (fun _ jv _ => L.length - (intOf jv).toNat)
  case atStart => exact ⟨0, 0, Nat.zero_le _, rfl, rfl, Int.le_refl _, by omega, Lib.hid rfl, B0⟩
  case round =>
    clear B0
    obtain ⟨j, n, hj, rfl, rfl, hn0, hn1, HA, HB⟩ := hrel
    by_cases hjt : j < L.length
    · obtain ⟨g, off, rfl, hg, d0, d1, d2⟩ := cItem_at (Cel.Rd.later HB.out _ _ HS.out) j hjt
      have HX := Lib.hid (pagesR_next hjt)
      have HU := Lib.hid (pagesR_upto L (j + 1))
      have HY := Lib.hid (Nat.le_trans (szL_at cItem L j hjt) HZ.out)
      rw [cItem_sz] at HY
      obtain ⟨x, hx⟩ : ∃ x, L.getD j default = x := ⟨_, rfl⟩
      rw [hx] at d0 d1 d2 HX HY
      clear hx
      have HB2 : Hid (Below w.heap.size w (wr.alloc (.cells #[.string x.path, .bool x.dir, .string x.text] 48))) := Lib.hid (HB.out.alloc HB.out.size _)
      by_cases hq : x.dir = true
      · have HA2 : Hid (n = pagesR (L.take (j + 1))) := Lib.hid (by rw [HX.out, itemPg_dir hq, HA.out]; omega)
        rw [hq] at d1 HB2
        clear hq
        go_wp2
        go_roundw
        case rel => exact ⟨j + 1, n, by omega, by go_num, rfl, hn0, hn1, HA2, HB2⟩
        case measure => (simp [intOf]; try omega)
      · have hq' : x.dir = false := by simpa using hq
        have HP := Lib.hid (itemPg_file hq')
        have HQ := Lib.hid (itemPg_bd x)
        rw [hq'] at d1 HB2
        obtain ⟨m, hm⟩ : ∃ m, pagesZ (x.text.size : Int) = m := ⟨_, rfl⟩
        have hm0 : 0 ≤ m := by have := HQ.out.1; rw [HP.out, hm] at this; exact this
        have hm1 : n + m ≤ 100000000 := by have := HM.out; have := HU.out; have := HX.out; have := HA.out; have := HP.out; omega
        have hsz : x.text.size ≤ 100000000 := by have := HY.out; omega
        have HA2 : Hid (n + m = pagesR (L.take (j + 1))) := Lib.hid (by rw [HX.out, HP.out, hm, HA.out])
        have HMM := Lib.hid hm
        clear hq hq' hm
        go_wp2_with fail
        refine (implPages_any (x.text.size : Int) _ (by omega) (by omega)).mono ?_
        rw [HMM.out]
        rintro e w9 ⟨rfl, rfl⟩
        go_wp2
        go_roundw
        case rel => exact ⟨j + 1, n + m, by omega, by go_num, rfl, by omega, hm1, HA2, HB2⟩
        case measure => (simp [intOf]; try omega)
    · obtain rfl : j = L.length := by omega
      have HE : Hid (n = pagesR L) := Lib.hid (by have := HA.out; rw [List.take_length] at this; exact this)
      go_wp2
      go_ret
      exact ⟨ret_i64m HE.out, HB.out⟩
end Go.Proofs.YtkfkjcadmdcbnaaDoor
namespace Go.Proofs.YtkfkjcadmdcbnaaDoor
open Go.RowKit

set_option maxRecDepth 100000 in
set_option maxHeartbeats 400000 in
theorem specIn_any (n a b : Int) (w : World) : Calls Tryd.prog 51 #[.int .i64 n, .int .i64 a, .int .i64 b] w fun e w' => e = .returned (.bool (decide (a ≤ n ∧ n ≤ b))) ∧ w' = w := by
  by_cases h1 : a ≤ n <;> by_cases h2 : n ≤ b
  all_goals
    go_enter Tryd.func51, Tryd.ntmps51
    go_wp2
    all_goals go_ret
    all_goals exact ⟨by simp [h1, h2], rfl⟩
theorem specIn_yes {n a b : Int} (w : World) (h : a ≤ n ∧ n ≤ b) : Calls Tryd.prog 51 #[.int .i64 n, .int .i64 a, .int .i64 b] w fun e w' => e = .returned (.bool true) ∧ w' = w :=
  (specIn_any n a b w).mono fun _ _ ⟨he, hw⟩ => ⟨by rw [he, decide_eq_true h], hw⟩
theorem specIn_no {n a b : Int} (w : World) (h : ¬ (a ≤ n ∧ n ≤ b)) : Calls Tryd.prog 51 #[.int .i64 n, .int .i64 a, .int .i64 b] w fun e w' => e = .returned (.bool false) ∧ w' = w :=
  (specIn_any n a b w).mono fun _ _ ⟨he, hw⟩ => ⟨by rw [he, decide_eq_false h], hw⟩

set_option maxRecDepth 100000 in
set_option maxHeartbeats 1000000 in
theorem specGeo_yes (T P I Q : Int) (w : World) (h : GeoR T P I Q) : Calls Tryd.prog 30 #[.agg #[.int .i64 T, .int .i64 P, .int .i64 I, .int .i64 Q]] w (SaysB true w) := by
  obtain ⟨a1, a2, b1, b2, c1, c2, d1, d2⟩ := h
  have H1 : (1 : Int) ≤ T ∧ T ≤ 3 := ⟨a1, a2⟩
  have H2 : (5 : Int) ≤ P ∧ P ≤ 12 := ⟨b1, b2⟩
  have H3 : (2 : Int) ≤ I ∧ I ≤ 6 := ⟨c1, c2⟩
  have H4 : (1 : Int) ≤ Q ∧ Q ≤ P - 4 := ⟨d1, d2⟩
  go_enter Tryd.func30, Tryd.ntmps30
  go_wp2_with (first | ((with_reducible refine (specIn_yes _ H1).mono ?_); rintro e w1 ⟨rfl, rfl⟩) | ((with_reducible refine (specIn_yes _ H2).mono ?_); rintro e w1 ⟨rfl, rfl⟩) | ((with_reducible refine (specIn_yes _ H3).mono ?_); rintro e w1 ⟨rfl, rfl⟩) | ((with_reducible refine (specIn_yes _ H4).mono ?_); rintro e w1 ⟨rfl, rfl⟩))
  go_ret
  exact ⟨rfl, below_al w _⟩
set_option maxRecDepth 100000 in
set_option maxHeartbeats 1000000 in
theorem specGeo_no (T P I Q : Int) (w : World) (h : ¬ GeoR T P I Q) : Calls Tryd.prog 30 #[.agg #[.int .i64 T, .int .i64 P, .int .i64 I, .int .i64 Q]] w (SaysB false w) := by
  rcases geo_cases h with H1 | ⟨H1, H2⟩ | ⟨H1, H2, H3⟩ | ⟨H1, H2, H3, H4⟩
  · go_enter Tryd.func30, Tryd.ntmps30
    go_wp2_with ((with_reducible refine (specIn_no _ H1).mono ?_); rintro e w1 ⟨rfl, rfl⟩)
    go_ret
    exact ⟨rfl, below_al w _⟩
  · go_enter Tryd.func30, Tryd.ntmps30
    go_wp2_with (first | ((with_reducible refine (specIn_yes _ H1).mono ?_); rintro e w1 ⟨rfl, rfl⟩) | ((with_reducible refine (specIn_no _ H2).mono ?_); rintro e w1 ⟨rfl, rfl⟩))
    go_ret
    exact ⟨rfl, below_al w _⟩
  · go_enter Tryd.func30, Tryd.ntmps30
    go_wp2_with (first | ((with_reducible refine (specIn_yes _ H1).mono ?_); rintro e w1 ⟨rfl, rfl⟩) | ((with_reducible refine (specIn_yes _ H2).mono ?_); rintro e w1 ⟨rfl, rfl⟩) | ((with_reducible refine (specIn_no _ H3).mono ?_); rintro e w1 ⟨rfl, rfl⟩))
    go_ret
    exact ⟨rfl, below_al w _⟩
  · obtain ⟨b1, b2⟩ := H2
    have H2 : (5 : Int) ≤ P ∧ P ≤ 12 := ⟨b1, b2⟩
    go_enter Tryd.func30, Tryd.ntmps30
    go_wp2_with (first | ((with_reducible refine (specIn_yes _ H1).mono ?_); rintro e w1 ⟨rfl, rfl⟩) | ((with_reducible refine (specIn_yes _ H2).mono ?_); rintro e w1 ⟨rfl, rfl⟩) | ((with_reducible refine (specIn_yes _ H3).mono ?_); rintro e w1 ⟨rfl, rfl⟩) | ((with_reducible refine (specIn_no _ H4).mono ?_); rintro e w1 ⟨rfl, rfl⟩))
    go_ret
    exact ⟨rfl, below_al w _⟩
end Go.Proofs.YtkfkjcadmdcbnaaDoor
namespace Go.Proofs.YtkfkjcadmdcbnaaDoor
open Go.RowKit

/-- A world that has grown out of w: what lay there lies there unchanged. -/
structure GrownW (w : World) where
  wd : World
  grown : Below w.heap.size w wd
instance (w : World) : Nonempty (GrownW w) := ⟨⟨w, Below.refl _ w⟩⟩
theorem GrownW.cell {w : World} {p : Addr} {v : Value} (h : w.cell? p = some v) (hp : p.block < w.heap.size) (g : GrownW w) : g.wd.cell? p = some v := (g.grown.cell hp).trans h
theorem Calls.grown_of {P : Program} {f : FuncId} {args : Array Value} {w : World} {g : GrownW w} {v : Value}
    (h : Calls P f args g.wd fun e w' => e = .returned v ∧ Below g.wd.heap.size g.wd w') : Calls P f args g.wd fun e w'' => e = .returned v ∧ ∃ g' : GrownW w, w'' = g'.wd :=
  h.mono fun _ w' ⟨he, hb⟩ => ⟨he, ⟨w', g.grown.trans (hb.mono g.grown.size)⟩, rfl⟩
theorem Calls.grown_same {P : Program} {f : FuncId} {args : Array Value} {w : World} {g : GrownW w} {v : Value}
    (h : Calls P f args g.wd fun e w' => e = .returned v ∧ w' = g.wd) : Calls P f args g.wd fun e w'' => e = .returned v ∧ ∃ g' : GrownW w, w'' = g'.wd :=
  h.mono fun _ _ ⟨he, hw⟩ => ⟨he, g, hw⟩
theorem wp_region_grown {P : Program} {id : Nat} {Q : Exit → Act → World → Prop} {a : Act} {w : World} {l : List Oper} (hm : P.follows .mixedOrders = true) (hB : Region.lexB .any l.toArray = true)
    (h : wpQuiet P l.toArray (fun w' => ∃ g : GrownW w, w' = g.wd) (fun a' => ∀ w', (∃ g : GrownW w, w' = g.wd) → Q .normal a' w') l a) : (Code.region id l.toArray true).wp P Q a w :=
  wp_region_quiet (C := fun w' => ∃ g : GrownW w, w' = g.wd) hm hB ⟨⟨_, (Below.refl _ w).drew⟩, rfl⟩ (by simpa using h)
end Go.Proofs.YtkfkjcadmdcbnaaDoor
namespace Go.Proofs.YtkfkjcadmdcbnaaDoor
open Go.RowKit Go.Proofs.YtkfkjcadmdcbnaaDoor.Parts Go.Proofs.YtkfkjcadmdcbnaaDoor.Hexa

/-- What the model asks at place j ahead of the item's own. -/
def headB (L : List ItemR) (j : Nat) (x : ItemR) : Bool := !decide (parentB x.path = ⟨#[]⟩) && (folderB L (parentB x.path) && (decide (j = 0) || lessB (prevP L j) x.path))
def tailB (L : List ItemR) (x : ItemR) : Bool := if x.dir = true then decide (x.text = ⟨#[]⟩) && kidsB L x.path else decide (x.text.size ≤ 128)
theorem parent_nil : parentB ⟨#[]⟩ = ⟨#[]⟩ := by decide
theorem step_split (L : List ItemR) (j : Nat) : stepB L j = (headB L j (L.getD j default) && tailB L (L.getD j default)) := by
  obtain ⟨x, hx⟩ : ∃ x, L.getD j default = x := ⟨_, rfl⟩
  unfold stepB headB
  rw [hx]
  by_cases h0 : parentB x.path = ⟨#[]⟩
  · rw [item_noparent h0, decide_eq_true h0]; simp
  · cases hf : folderB L (parentB x.path) with
    | false => rw [item_nofolder hf]; simp
    | true =>
      have hi : itemB L x = tailB L x := by unfold itemB tailB; rw [if_neg (by rw [hf]; simp [h0])]
      rw [hi, decide_eq_false h0]
      by_cases hj : j = 0
      · subst hj
        have hp : x.path ≠ ⟨#[]⟩ := fun e => h0 (by rw [e]; exact parent_nil)
        have hl : lessB (prevP L 0) x.path = true := by
          cases h9 : lessB (prevP L 0) x.path with
          | true => rfl
          | false =>
            have h8 : lessB x.path ⟨#[]⟩ = false := by unfold lessB; rw [show (⟨#[]⟩ : ByteArray).toList = [] by rw [Go.ByteArray.toList_eq]]; cases x.path.toList <;> rfl
            exact absurd (lessB_ord.tri _ _ h8 h9) hp
        rw [hl]; simp
      · rw [decide_eq_false hj]; simp
set_option maxRecDepth 100000 in
set_option maxHeartbeats 8000000 in
theorem specView_any (T P I Q : Int) (a : Option Addr) (c : Nat) (L : List ItemR) (w : World) (h : (celRow cItem L).Rd w (.slice a L.length c)) (hz : (celRow cItem L).sz ≤ 2000000) :
    Calls Tryd.prog 15 #[.agg #[.int .i64 T, .int .i64 P, .int .i64 I, .int .i64 Q], .agg #[.slice a L.length c]] w (SaysB (viewB T P I Q L) w) := by
  have hb1 := below_bk w (.cells #[.int .i64 T, .int .i64 P, .int .i64 I, .int .i64 Q] 40)
  have hb2 := below_bk (w.alloc (.cells #[.int .i64 T, .int .i64 P, .int .i64 I, .int .i64 Q] 40)) (.cells #[.slice a L.length c] 30)
  have B0 := Lib.hid (hb1.trans (hb2.mono hb1.size))
  have T0 := Lib.hid ((Bk.alloc w #[.int .i64 T, .int .i64 P, .int .i64 I, .int .i64 Q] 40).later hb2)
  have U0 : Hid (Bk ((w.alloc (.cells #[.int .i64 T, .int .i64 P, .int .i64 I, .int .i64 Q] 40)).alloc (.cells #[.slice a L.length c] 30)) (w.heap.size + 1) #[.slice a L.length c] 30) := Lib.hid (by
    have h := Bk.alloc (w.alloc (.cells #[.int .i64 T, .int .i64 P, .int .i64 I, .int .i64 Q] 40)) #[.slice a L.length c] 30
    simpa using h)
  have HS := Lib.hid h
  have HZ := Lib.hid hz
  rw [sz_row'] at hz
  have hn : L.length ≤ 2000000 := by omega
  have HZ2 : Hid (szL (celsE cItem L) ≤ 2000000) := Lib.hid (by omega)
  clear h hz hb1 hb2
  have k0 := T0.out.cell (j := 0) rfl
  have k1 := T0.out.cell (j := 1) rfl
  have k2 := T0.out.cell (j := 2) rfl
  have k3 := T0.out.cell (j := 3) rfl
  by_cases hgeo : GeoR T P I Q
  case neg =>
    have HV : Hid (false = viewB T P I Q L) := Lib.hid (view_nogeo hgeo).symm
    have CG := Lib.hid (fun W => specGeo_no T P I Q W hgeo)
    clear hgeo
    go_enter Tryd.func15, Tryd.ntmps15
    go_wp2_with fail
    clear k0 k1 k2 k3
    refine (CG.out _).mono ?_
    rintro e w1 ⟨rfl, hb⟩
    have B1 : Hid (Below w.heap.size w w1) := Lib.hid (B0.out.trans (hb.mono B0.out.size))
    clear hb
    go_wp2
    go_ret
    exact ⟨ret_boolv HV.out, B1.out⟩
  have CG := Lib.hid (fun W => specGeo_yes T P I Q W hgeo)
  have HGEO := Lib.hid hgeo
  clear hgeo
  go_enter Tryd.func15, Tryd.ntmps15
  go_wp2_with fail
  clear k0 k1 k2 k3
  refine (CG.out _).mono ?_
  rintro e w1 ⟨rfl, hb⟩
  have B1 : Hid (Below w.heap.size w w1) := Lib.hid (B0.out.trans (hb.mono B0.out.size))
  have T1 := Lib.hid (T0.out.later hb)
  have U1 := Lib.hid (U0.out.later hb)
  have k2 := T1.out.cell (j := 2) rfl
  have u0 := U1.out.cell (j := 0) rfl
  clear hb T0 U0 B0 CG
  by_cases hlen : (L.length : Int) < I
  case neg =>
    have HV : Hid (false = viewB T P I Q L) := Lib.hid (view_many hlen).symm
    have hl2 : I ≤ (L.length : Int) := by omega
    go_wp2
    go_ret
    exact ⟨ret_boolv HV.out, B1.out⟩
  have hl2 : ¬ I ≤ (L.length : Int) := by omega
  have HLEN := Lib.hid hlen
  obtain ⟨N, hN⟩ : ∃ N, kidsR L slashB = N := ⟨_, rfl⟩
  have HN := Lib.hid hN
  have hnn : N.length ≤ 2000000 := by have h1 := kids_len L slashB; rw [← hN]; omega
  clear hlen hN
  go_wp2_with fail
  clear k2 u0 hl2
  refine (specKids_any a c L slashB _ (Cel.Rd.later B1.out _ _ HS.out) HZ.out).mono ?_
  rw [HN.out]
  rintro e w2 ⟨v, rfl, ho, hb⟩
  obtain ⟨ad, cap, rfl, _, _, _⟩ := ownE_form ho
  have B2 : Hid (Below w.heap.size w w2) := Lib.hid (B1.out.trans (hb.mono B1.out.size))
  have T2 := Lib.hid (T1.out.later hb)
  have U2 := Lib.hid (U1.out.later hb)
  clear ho hb T1 U1 B1
  by_cases hk : N.length ≤ 6
  case neg =>
    have HV : Hid (false = viewB T P I Q L) := Lib.hid (view_items (by unfold itemsB kidsB; rw [HN.out, decide_eq_false hk, Bool.and_false])).symm
    have h6 : (6 : Int) < (N.length : Int) := by omega
    clear hk
    go_wp2
    go_ret
    exact ⟨ret_boolv HV.out, B2.out⟩
  have HK : Hid (kidsB L slashB = true) := Lib.hid (by unfold kidsB; rw [HN.out]; exact decide_eq_true hk)
  have h6 : ¬ (6 : Int) < (N.length : Int) := by omega
  have u0 := U2.out.cell (j := 0) rfl
  clear hk
  go_wp2
  clear h6 u0
  go_loopw [5] (fun jv wr => ∃ j : Nat, j ≤ L.length ∧ jv = .int .i64 j ∧ Hid (stepsB L j = true) ∧ Hid (Below w.heap.size w wr) ∧ Hid (Bk wr w.heap.size #[.int .i64 T, .int .i64 P, .int .i64 I, .int .i64 Q] 40) ∧ Hid (Bk wr (w.heap.size + 1) #[.slice a L.length c] 30)) (fun jv _ => L.length - (intOf jv).toNat)
  case atStart => exact ⟨0, Nat.zero_le _, rfl, Lib.hid rfl, B2, T2, U2⟩
  case round =>
    clear T2 U2 B2
    obtain ⟨j, hj, rfl, HA, HB, HT, HU⟩ := hrel
    have u0 := HU.out.cell (j := 0) rfl
    by_cases hjt : j < L.length
    · have HSJ := Lib.hid (step_split L j)
      have HNX := Lib.hid (steps_next L j)
      have HBAD := Lib.hid (fun (h : stepB L j = false) => items_bad hjt h)
      have HIT := Lib.hid (fun (W : World) (hW : Below w.heap.size w W) (i : Nat) (hi : i < L.length) => cItem_at (Cel.Rd.later hW _ _ HS.out) i hi)
      obtain ⟨g, off, rfl, hg, d0, d1, d2⟩ := cItem_at (Cel.Rd.later HB.out _ _ HS.out) j hjt
      have HZJ := Lib.hid (Nat.le_trans (szL_at cItem L j hjt) HZ2.out)
      rw [cItem_sz] at HZJ
      obtain ⟨x, hx⟩ : ∃ x, L.getD j default = x := ⟨_, rfl⟩
      rw [hx] at d0 d1 d2 HZJ HSJ
      clear hx
      have hps : x.path.size ≤ 2000000 := by have := HZJ.out; omega
      have hts : x.text.size ≤ 2000000 := by have := HZJ.out; omega
      have hba := below_bk wr (.cells #[.string x.path, .bool x.dir, .string x.text] 48)
      have HB1 : Hid (Below w.heap.size w (wr.alloc (.cells #[.string x.path, .bool x.dir, .string x.text] 48))) := Lib.hid (HB.out.alloc HB.out.size _)
      have HT1 := Lib.hid (HT.out.later hba)
      have HU1 := Lib.hid (HU.out.later hba)
      have XB := Lib.hid (Bk.alloc wr #[.string x.path, .bool x.dir, .string x.text] 48)
      obtain ⟨pp, hpp⟩ : ∃ q, parentB x.path = q := ⟨_, rfl⟩
      have HP := Lib.hid hpp
      clear hpp hba HB HT HU
      go_wp2_with fail
      clear u0 d0 d1 d2
      refine (specParent_any x.path _ hps).mono ?_
      rw [HP.out]
      rintro e w3 ⟨rfl, hb⟩
      have HB3 : Hid (Below w.heap.size w w3) := Lib.hid (HB1.out.trans (hb.mono HB1.out.size))
      have HT3 := Lib.hid (HT1.out.later hb)
      have HU3 := Lib.hid (HU1.out.later hb)
      have XB3 := Lib.hid (XB.out.later hb)
      have u0 := HU3.out.cell (j := 0) rfl
      obtain ⟨z, hzz⟩ : ∃ z, itemZ L pp = z := ⟨_, rfl⟩
      have HZZ := Lib.hid hzz
      have hcs := itemZ_cases L pp
      rw [hzz] at hcs
      have HCS := Lib.hid hcs
      clear hb HB1 HT1 HU1 XB hzz hcs
      go_wp2_with fail
      clear u0
      refine (specItem_any _ c L pp _ (Cel.Rd.later HB3.out _ _ HS.out) (by omega)).mono ?_
      rw [HZZ.out]
      rintro e w4 ⟨rfl, hb⟩
      have HB4 : Hid (Below w.heap.size w w4) := Lib.hid (HB3.out.trans (hb.mono HB3.out.size))
      have HT4 := Lib.hid (HT3.out.later hb)
      have HU4 := Lib.hid (HU3.out.later hb)
      have XB4 := Lib.hid (XB3.out.later hb)
      clear hb HB3 HT3 HU3 XB3
      go_upto_region 9 with fail
      obtain ⟨hd9, hh9⟩ : ∃ b, headB L j x = b := ⟨_, rfl⟩
      have HH := Lib.hid hh9
      clear hh9
      go_cut [78] (fun bv wx => bv = .bool (!hd9) ∧ Below w4.heap.size w4 wx)
      case first =>
        have x0 := XB4.out.cell (j := 0) rfl
        have u0 := HU4.out.cell (j := 0) rfl
        by_cases h0 : pp = ⟨#[]⟩
        case pos =>
          have HD : Hid (hd9 = false) := Lib.hid (by rw [← HH.out]; unfold headB; rw [HP.out, decide_eq_true h0]; rfl)
          have i1 : (pp.toList == []) = true := by rw [h0, Go.ByteArray.toList_eq]; rfl
          have i2 : pp.toList = [] := by rw [h0, Go.ByteArray.toList_eq]
          clear h0
          go_quiet (fail)
          go_wp2
          go_meet
          exact ⟨by rw [HD.out]; rfl, below_drewsN (Below.refl _ _) _⟩
        have i1 := text_full pp (bytes_full h0)
        have i2 := text_full' pp (bytes_full h0)
        have H0 := Lib.hid h0
        clear h0
        by_cases hs : pp = slashB
        case pos =>
          have j1 : (pp.toList == [47]) = true := by rw [hs, slash_toList]; rfl
          have j2 : pp.toList = [47] := by rw [hs, slash_toList]
          have j3 : (pp.toList != [47]) = false := by rw [bne, j1]; rfl
          have HF : Hid (folderB L pp = true) := Lib.hid (by rw [hs]; exact folder_root L)
          clear hs
          cases j with
          | zero =>
            have HD : Hid (hd9 = true) := Lib.hid (by rw [← HH.out]; unfold headB; rw [HP.out, HF.out, decide_eq_false H0.out]; rfl)
            go_quiet (fail)
            go_wp2
            go_meet
            exact ⟨by rw [HD.out]; rfl, below_drewsN (Below.refl _ _) _⟩
          | succ i =>
            obtain ⟨g8, off8, e8, hg8, p0, p1, p2⟩ := HIT.out _ HB4.out i (by omega)
            simp only [Option.some.injEq, Addr.mk.injEq, and_true] at e8
            obtain ⟨rfl, rfl⟩ := e8
            have HPV : Hid (prevP L (i + 1) = (L.getD i default).path) := Lib.hid rfl
            obtain ⟨y, hy⟩ : ∃ y, (L.getD i default).path = y := ⟨_, rfl⟩
            rw [hy] at p0 HPV
            clear hy p1 p2
            have w1 : IntKind.i64.wrap ((i : Int) + 1 - 1) = (i : Int) := by rw [show (i : Int) + 1 - 1 = i by omega]; exact IntWalk.i64_in _ (by omega)
            have w2 : (0 : Int) < (i : Int) + 1 := by omega
            have w3 : (i : Int) < (L.length : Int) := by omega
            cases hl : lessB y x.path with
            | true =>
              have HD : Hid (hd9 = true) := Lib.hid (by rw [← HH.out]; unfold headB; rw [HP.out, HF.out, decide_eq_false H0.out, HPV.out, hl]; simp)
              have b1 : Op.bytesLess y.toList x.path.toList = true := hl
              clear hl
              go_quiet (fail)
              go_wp2
              go_meet
              exact ⟨by rw [HD.out]; rfl, below_drewsN (Below.refl _ _) _⟩
            | false =>
              have HD : Hid (hd9 = false) := Lib.hid (by rw [← HH.out]; unfold headB; rw [HP.out, HF.out, decide_eq_false H0.out, HPV.out, hl]; simp)
              have b1 : Op.bytesLess y.toList x.path.toList = false := hl
              clear hl
              go_quiet (fail)
              go_wp2
              go_meet
              exact ⟨by rw [HD.out]; rfl, below_drewsN (Below.refl _ _) _⟩
        have j1 := text_noslash hs
        have j2 := text_noslash' hs
        have j3 : (pp.toList != [47]) = true := by rw [bne, j1]; rfl
        have HSL := Lib.hid hs
        clear hs
        rcases HCS.out with hm | ⟨k, hk, hm⟩
        · subst hm
          have HF : Hid (folderB L pp = false) := Lib.hid (folder_none HSL.out HZZ.out)
          have HD : Hid (hd9 = false) := Lib.hid (by rw [← HH.out]; unfold headB; rw [HP.out, HF.out]; simp)
          go_quiet (fail)
          go_wp2
          go_meet
          exact ⟨by rw [HD.out]; rfl, below_drewsN (Below.refl _ _) _⟩
        · subst hm
          have HFE := Lib.hid (folder_at HSL.out HZZ.out)
          obtain ⟨g9, off9, e9, hg9, q0, q1, q2⟩ := HIT.out _ HB4.out k hk
          simp only [Option.some.injEq, Addr.mk.injEq, and_true] at e9
          obtain ⟨rfl, rfl⟩ := e9
          have hk0 : ¬ ((k : Int) < 0) := by omega
          have hkl : (k : Int) < (L.length : Int) := by omega
          cases hd : (L.getD k default).dir with
          | false =>
            have HF : Hid (folderB L pp = false) := Lib.hid (by rw [HFE.out, hd])
            have HD : Hid (hd9 = false) := Lib.hid (by rw [← HH.out]; unfold headB; rw [HP.out, HF.out]; simp)
            rw [hd] at q1
            clear hd q0 q2
            go_quiet (fail)
            go_wp2
            go_meet
            exact ⟨by rw [HD.out]; rfl, below_drewsN (Below.refl _ _) _⟩
          | true =>
            have HF : Hid (folderB L pp = true) := Lib.hid (by rw [HFE.out, hd])
            rw [hd] at q1
            clear hd q0 q2
            cases j with
            | zero =>
              have HD : Hid (hd9 = true) := Lib.hid (by rw [← HH.out]; unfold headB; rw [HP.out, HF.out, decide_eq_false H0.out]; rfl)
              go_quiet (fail)
              go_wp2
              go_meet
              exact ⟨by rw [HD.out]; rfl, below_drewsN (Below.refl _ _) _⟩
            | succ i =>
              obtain ⟨g8, off8, e8, hg8, p0, p1, p2⟩ := HIT.out _ HB4.out i (by omega)
              simp only [Option.some.injEq, Addr.mk.injEq, and_true] at e8
              obtain ⟨rfl, rfl⟩ := e8
              have HPV : Hid (prevP L (i + 1) = (L.getD i default).path) := Lib.hid rfl
              obtain ⟨y, hy⟩ : ∃ y, (L.getD i default).path = y := ⟨_, rfl⟩
              rw [hy] at p0 HPV
              clear hy p1 p2
              have w1 : IntKind.i64.wrap ((i : Int) + 1 - 1) = (i : Int) := by rw [show (i : Int) + 1 - 1 = i by omega]; exact IntWalk.i64_in _ (by omega)
              have w2 : (0 : Int) < (i : Int) + 1 := by omega
              have w3 : (i : Int) < (L.length : Int) := by omega
              cases hl : lessB y x.path with
              | true =>
                have HD : Hid (hd9 = true) := Lib.hid (by rw [← HH.out]; unfold headB; rw [HP.out, HF.out, decide_eq_false H0.out, HPV.out, hl]; simp)
                have b1 : Op.bytesLess y.toList x.path.toList = true := hl
                clear hl
                go_quiet (fail)
                go_wp2
                go_meet
                exact ⟨by rw [HD.out]; rfl, below_drewsN (Below.refl _ _) _⟩
              | false =>
                have HD : Hid (hd9 = false) := Lib.hid (by rw [← HH.out]; unfold headB; rw [HP.out, HF.out, decide_eq_false H0.out, HPV.out, hl]; simp)
                have b1 : Op.bytesLess y.toList x.path.toList = false := hl
                clear hl
                go_quiet (fail)
                go_wp2
                go_meet
                exact ⟨by rw [HD.out]; rfl, below_drewsN (Below.refl _ _) _⟩
      case rest =>
        obtain ⟨rfl, hb⟩ := hcut
        obtain ⟨w5, hw5⟩ : ∃ y, y = wc := ⟨_, rfl⟩
        rw [← hw5] at hb ⊢
        clear hw5
        have HB5 : Hid (Below w.heap.size w w5) := Lib.hid (HB4.out.trans (hb.mono HB4.out.size))
        have HT5 := Lib.hid (HT4.out.later hb)
        have HU5 := Lib.hid (HU4.out.later hb)
        have XB5 := Lib.hid (XB4.out.later hb)
        clear hb HB4 HT4 HU4 XB4
        cases hd9 with
        | false =>
          have HE2 : Hid (false = viewB T P I Q L) := Lib.hid (view_items (HBAD.out (by rw [HSJ.out, HH.out]; rfl))).symm
          go_wp2
          go_ret
          exact ⟨ret_boolv HE2.out, HB5.out⟩
        | true =>
          have x0 := XB5.out.cell (j := 0) rfl
          have x1 := XB5.out.cell (j := 1) rfl
          have x2 := XB5.out.cell (j := 2) rfl
          have u0 := HU5.out.cell (j := 0) rfl
          have HTL : Hid (stepB L j = tailB L x) := Lib.hid (by rw [HSJ.out, HH.out]; rfl)
          cases hd : x.dir with
          | false =>
            have HI : Hid (tailB L x = decide (x.text.size ≤ 128)) := Lib.hid (by unfold tailB; rw [hd]; rfl)
            rw [hd] at x1
            by_cases hs : x.text.size ≤ 128
            · have HA2 : Hid (stepsB L (j + 1) = true) := Lib.hid (by rw [HNX.out, HA.out, HTL.out, HI.out, decide_eq_true hs]; rfl)
              have e2 : ¬ (128 : Int) < (x.text.size : Int) := by omega
              clear hs hd
              go_wp2
              go_roundw
              case rel => exact ⟨j + 1, by omega, by go_num, HA2, HB5, HT5, HU5⟩
              case measure => (simp [intOf]; try omega)
            · have HE2 : Hid (false = viewB T P I Q L) := Lib.hid (view_items (HBAD.out (by rw [HTL.out, HI.out, decide_eq_false hs]))).symm
              have e2 : (128 : Int) < (x.text.size : Int) := by omega
              clear hs hd
              go_wp2
              go_ret
              exact ⟨ret_boolv HE2.out, HB5.out⟩
          | true =>
            have HI : Hid (tailB L x = (decide (x.text = ⟨#[]⟩) && kidsB L x.path)) := Lib.hid (by unfold tailB; rw [hd]; rfl)
            rw [hd] at x1
            by_cases hs : x.text = ⟨#[]⟩
            case neg =>
              have HE2 : Hid (false = viewB T P I Q L) := Lib.hid (view_items (HBAD.out (by rw [HTL.out, HI.out, decide_eq_false hs]; rfl))).symm
              have e2 := text_full x.text (bytes_full hs)
              have e3 := text_full' x.text (bytes_full hs)
              clear hs hd
              go_wp2
              go_ret
              exact ⟨ret_boolv HE2.out, HB5.out⟩
            have e2 : (x.text.toList == []) = true := by rw [hs, Go.ByteArray.toList_eq]; rfl
            have e3 : x.text.toList = [] := by rw [hs, Go.ByteArray.toList_eq]
            have HI2 : Hid (tailB L x = kidsB L x.path) := Lib.hid (by rw [HI.out, decide_eq_true hs, Bool.true_and])
            have hz0 : x.text.size = 0 := by rw [hs]; rfl
            obtain ⟨M, hM⟩ : ∃ M, kidsR L x.path = M := ⟨_, rfl⟩
            have HM := Lib.hid hM
            have hmm : M.length ≤ 2000000 := by have h1 := kids_len L x.path; rw [← hM]; omega
            have HZ0 := Lib.hid hz0
            clear hs hd hM hz0
            go_wp2_with fail
            clear x0 x1 x2 u0 e2 e3
            refine (specKids_any _ c L x.path _ (Cel.Rd.later HB5.out _ _ HS.out) HZ.out).mono ?_
            rw [HM.out]
            rintro e w6 ⟨v6, rfl, ho, hb⟩
            obtain ⟨ad6, cap6, rfl, _, _, _⟩ := ownE_form ho
            have HB6 : Hid (Below w.heap.size w w6) := Lib.hid (HB5.out.trans (hb.mono HB5.out.size))
            have HT6 := Lib.hid (HT5.out.later hb)
            have HU6 := Lib.hid (HU5.out.later hb)
            have XB6 := Lib.hid (XB5.out.later hb)
            have x2 := XB6.out.cell (j := 2) rfl
            clear ho hb HB5 HT5 HU5 XB5
            by_cases hs : M.length ≤ 6
            · have HA2 : Hid (stepsB L (j + 1) = true) := Lib.hid (by rw [HNX.out, HA.out, HTL.out, HI2.out]; unfold kidsB; rw [HM.out, decide_eq_true hs]; rfl)
              have e2 : ¬ (6 : Int) < (M.length : Int) := by omega
              have e4 : ¬ (128 : Int) < (x.text.size : Int) := by have := HZ0.out; omega
              clear hs
              go_wp2
              go_roundw
              case rel => exact ⟨j + 1, by omega, by go_num, HA2, HB6, HT6, HU6⟩
              case measure => (simp [intOf]; try omega)
            · have HE2 : Hid (false = viewB T P I Q L) := Lib.hid (view_items (HBAD.out (by rw [HTL.out, HI2.out]; unfold kidsB; rw [HM.out, decide_eq_false hs]))).symm
              have e2 : (6 : Int) < (M.length : Int) := by omega
              clear hs
              go_wp2
              go_ret
              exact ⟨ret_boolv HE2.out, HB6.out⟩
    · obtain rfl : j = L.length := by omega
      have HI : Hid (itemsB L = true) := Lib.hid (by unfold itemsB; rw [HA.out, HK.out]; rfl)
      have HV : Hid (decide (pagesR L ≤ Q) = viewB T P I Q L) := Lib.hid (view_all HGEO.out HLEN.out HI.out).symm
      have z3 := GrownW.cell (HT.out.cell (j := 3) rfl) HT.out.lt
      have y0 := GrownW.cell (HU.out.cell (j := 0) rfl) HU.out.lt
      have CP : Hid (∀ g : GrownW wr, Calls Tryd.prog 32 #[.agg #[.slice a L.length c]] g.wd (SaysI (pagesR L) g.wd)) := Lib.hid (fun g => specPgs_any a c L _ (Cel.Rd.later (HB.out.trans (g.grown.mono HB.out.size)) _ _ HS.out) (by have := HZ.out; omega))
      obtain ⟨n, hn9⟩ : ∃ n, pagesR L = n := ⟨_, rfl⟩
      rw [hn9] at CP HV
      clear hn9
      go_wp2
      refine wp_region_grown (by kernel_rfl) (by kernel_rfl) ?_
      repeat (go_big_quiet_step ((go_at_call 32; exact Calls.grown_of (CP.out _))))
      refine wpQuiet_nil ?_
      rintro _ ⟨gq, rfl⟩
      go_wp2
      go_ret
      exact ⟨ret_boolv HV.out, HB.out.trans (gq.grown.mono HB.out.size)⟩
end Go.Proofs.YtkfkjcadmdcbnaaDoor
namespace Go.Proofs.YtkfkjcadmdcbnaaDoor
open Go.RowKit Go.Proofs.YtkfkjcadmdcbnaaDoor.Parts Go.Proofs.YtkfkjcadmdcbnaaDoor.Hexa

set_option maxRecDepth 100000 in
set_option maxHeartbeats 2000000 in
theorem implItem_any (a : Option Addr) (c : Nat) (L : List ItemR) (p : ByteArray) (w : World) (h : (celRow cItem L).Rd w (.slice a L.length c)) (hn : L.length ≤ 100000000) :
    Calls Tryd.prog 78 #[.agg #[.slice a L.length c], .string p] w (SaysI (itemZ L p) w) := by
  have B0 := Lib.hid (below_bk w (.cells #[.slice a L.length c] 30))
  have HS := Lib.hid h
  obtain ⟨z, hz⟩ : ∃ z, itemZ L p = z := ⟨_, rfl⟩
  have HZ := Lib.hid hz
  rw [hz]
  clear h hz
  go_enter Tryd.func78, Tryd.ntmps78
  go_wp2
  go_loopw [10] (fun jv wr => ∃ j : Nat, j ≤ L.length ∧ jv = .int .i64 j ∧ Hid (∀ r, r < j → (L.getD r default).path ≠ p) ∧ Hid (Below w.heap.size w wr)) (fun jv _ => L.length - (intOf jv).toNat)
  case atStart => exact ⟨0, Nat.zero_le _, rfl, Lib.hid (fun r hr => by omega), B0⟩
  case round =>
    clear B0
    obtain ⟨j, hj, rfl, HA, HB⟩ := hrel
    by_cases hjt : j < L.length
    · obtain ⟨g, off, rfl, hg, d0, d1, d2⟩ := cItem_at (Cel.Rd.later HB.out _ _ HS.out) j hjt
      obtain ⟨x, hx⟩ : ∃ x, L.getD j default = x := ⟨_, rfl⟩
      rw [hx] at d0 d1 d2
      have HX := Lib.hid hx
      clear hx
      have HB2 : Hid (Below w.heap.size w (wr.alloc (.cells #[.string x.path, .bool x.dir, .string x.text] 48))) := Lib.hid (HB.out.alloc HB.out.size _)
      by_cases hq : x.path = p
      · have HZ2 : Hid ((j : Int) = z) := Lib.hid (by rw [← HZ.out, itemZ_some hjt HA.out (by rw [HX.out]; exact hq)])
        subst hq
        go_wp2
        go_ret
        exact ⟨ret_i64m HZ2.out, HB2.out⟩
      · have HA2 : Hid (∀ r, r < j + 1 → (L.getD r default).path ≠ p) := Lib.hid (fun r hr => by
          by_cases e : r = j
          · subst e; rw [HX.out]; exact hq
          · exact HA.out r (by omega))
        have i1 := text_neB hq
        have i3 := text_ne hq
        clear HA
        go_wp2
        go_roundw
        case rel => exact ⟨j + 1, by omega, by go_num, HA2, HB2⟩
        case measure => (simp [intOf]; try omega)
    · obtain rfl : j = L.length := by omega
      have HE : Hid (-1 = z) := Lib.hid (by rw [← HZ.out, itemZ_none HA.out])
      go_wp2
      go_ret
      exact ⟨ret_i64m HE.out, HB.out⟩
end Go.Proofs.YtkfkjcadmdcbnaaDoor
namespace Go.Proofs.YtkfkjcadmdcbnaaDoor
open Go.RowKit

set_option maxRecDepth 100000 in
set_option maxHeartbeats 1000000 in
theorem implGeo_yes (T P I Q : Int) (w : World) (h : GeoR T P I Q) : Calls Tryd.prog 33 #[.agg #[.int .i64 T, .int .i64 P, .int .i64 I, .int .i64 Q]] w (SaysB true w) := by
  obtain ⟨a1, a2, b1, b2, c1, c2, d1, d2⟩ := h
  have H1 : (1 : Int) ≤ T ∧ T ≤ 3 := ⟨a1, a2⟩
  have H2 : (5 : Int) ≤ P ∧ P ≤ 12 := ⟨b1, b2⟩
  have H3 : (2 : Int) ≤ I ∧ I ≤ 6 := ⟨c1, c2⟩
  have H4 : (1 : Int) ≤ Q ∧ Q ≤ P - 4 := ⟨d1, d2⟩
  go_enter Tryd.func33, Tryd.ntmps33
  go_wp2_with (first | ((with_reducible refine (implIn_yes _ H1).mono ?_); rintro e w1 ⟨rfl, rfl⟩) | ((with_reducible refine (implIn_yes _ H2).mono ?_); rintro e w1 ⟨rfl, rfl⟩) | ((with_reducible refine (implIn_yes _ H3).mono ?_); rintro e w1 ⟨rfl, rfl⟩) | ((with_reducible refine (implIn_yes _ H4).mono ?_); rintro e w1 ⟨rfl, rfl⟩))
  go_ret
  exact ⟨rfl, below_al w _⟩
set_option maxRecDepth 100000 in
set_option maxHeartbeats 1000000 in
theorem implGeo_no (T P I Q : Int) (w : World) (h : ¬ GeoR T P I Q) : Calls Tryd.prog 33 #[.agg #[.int .i64 T, .int .i64 P, .int .i64 I, .int .i64 Q]] w (SaysB false w) := by
  rcases geo_cases h with H1 | ⟨H1, H2⟩ | ⟨H1, H2, H3⟩ | ⟨H1, H2, H3, H4⟩
  · go_enter Tryd.func33, Tryd.ntmps33
    go_wp2_with ((with_reducible refine (implIn_no _ H1).mono ?_); rintro e w1 ⟨rfl, rfl⟩)
    go_ret
    exact ⟨rfl, below_al w _⟩
  · go_enter Tryd.func33, Tryd.ntmps33
    go_wp2_with (first | ((with_reducible refine (implIn_yes _ H1).mono ?_); rintro e w1 ⟨rfl, rfl⟩) | ((with_reducible refine (implIn_no _ H2).mono ?_); rintro e w1 ⟨rfl, rfl⟩))
    go_ret
    exact ⟨rfl, below_al w _⟩
  · go_enter Tryd.func33, Tryd.ntmps33
    go_wp2_with (first | ((with_reducible refine (implIn_yes _ H1).mono ?_); rintro e w1 ⟨rfl, rfl⟩) | ((with_reducible refine (implIn_yes _ H2).mono ?_); rintro e w1 ⟨rfl, rfl⟩) | ((with_reducible refine (implIn_no _ H3).mono ?_); rintro e w1 ⟨rfl, rfl⟩))
    go_ret
    exact ⟨rfl, below_al w _⟩
  · obtain ⟨b1, b2⟩ := H2
    have H2 : (5 : Int) ≤ P ∧ P ≤ 12 := ⟨b1, b2⟩
    go_enter Tryd.func33, Tryd.ntmps33
    go_wp2_with (first | ((with_reducible refine (implIn_yes _ H1).mono ?_); rintro e w1 ⟨rfl, rfl⟩) | ((with_reducible refine (implIn_yes _ H2).mono ?_); rintro e w1 ⟨rfl, rfl⟩) | ((with_reducible refine (implIn_yes _ H3).mono ?_); rintro e w1 ⟨rfl, rfl⟩) | ((with_reducible refine (implIn_no _ H4).mono ?_); rintro e w1 ⟨rfl, rfl⟩))
    go_ret
    exact ⟨rfl, below_al w _⟩
end Go.Proofs.YtkfkjcadmdcbnaaDoor
namespace Go.Proofs.YtkfkjcadmdcbnaaDoor
open Go.RowKit Go.Proofs.YtkfkjcadmdcbnaaDoor.Parts Go.Proofs.YtkfkjcadmdcbnaaDoor.Hexa

set_option maxRecDepth 100000 in
set_option maxHeartbeats 2000000 in
theorem kidsFit_any (a : Option Addr) (c : Nat) (L : List ItemR) (f : ByteArray) (w : World) (h : (celRow cItem L).Rd w (.slice a L.length c)) (hz : (celRow cItem L).sz ≤ 2000000) (hE : ErrIs w) :
    Calls Tryd.prog 55 #[.agg #[.slice a L.length c], .string f] w (SaysB (kidsB L f) w) := by
  have B0 := Lib.hid (below_bk w (.cells #[.slice a L.length c] 30))
  have HS := Lib.hid h
  have HE := Lib.hid hE
  have HZ := Lib.hid hz
  obtain ⟨N, hN⟩ : ∃ N, kidsR L f = N := ⟨_, rfl⟩
  have HN := Lib.hid hN
  have HB : Hid (decide ((N.length : Int) ≤ 6) = kidsB L f) := Lib.hid (by
    rw [← hN]
    unfold kidsB
    by_cases c : (kidsR L f).length ≤ 6
    · rw [decide_eq_true c, decide_eq_true (by omega)]
    · rw [decide_eq_false c, decide_eq_false (by omega)])
  have hn : N.length ≤ 2000000 := by have h1 := kids_len L f; rw [sz_row'] at hz; rw [← hN]; omega
  clear h hz hE hN
  go_enter Tryd.func55, Tryd.ntmps55
  go_wp2_with fail
  refine (implKids_any a c L f _ (Cel.Rd.later B0.out _ _ HS.out) HZ.out (HE.out.later rfl B0.out)).mono ?_
  rw [HN.out]
  rintro e w1 ⟨v, rfl, ho, hb⟩
  have B1 : Hid (Below w.heap.size w w1) := Lib.hid (B0.out.trans (hb.mono B0.out.size))
  obtain ⟨ad, cap, rfl, _, _, _⟩ := ownE_form ho
  clear ho hb
  go_wp2
  go_ret
  exact ⟨ret_boolv HB.out, B1.out⟩
set_option maxRecDepth 100000 in
set_option maxHeartbeats 2000000 in
theorem isFolder_any (a : Option Addr) (c : Nat) (L : List ItemR) (p : ByteArray) (w : World) (h : (celRow cItem L).Rd w (.slice a L.length c)) (hn : L.length ≤ 100000000) :
    Calls Tryd.prog 64 #[.agg #[.slice a L.length c], .string p] w (SaysB (folderB L p) w) := by
  have B0 := Lib.hid (below_bk w (.cells #[.slice a L.length c] 30))
  have T0 := Lib.hid (Bk.alloc w #[.slice a L.length c] 30)
  have HS := Lib.hid h
  clear h
  by_cases hp : p = slashB
  · have HE : Hid (folderB L p = true) := Lib.hid (by rw [hp]; exact folder_root L)
    have e1 : (p.toList == [47]) = true := by rw [hp, slash_toList]; rfl
    have e2 : p.toList = [47] := by rw [hp, slash_toList]
    clear hp
    go_enter Tryd.func64, Tryd.ntmps64
    go_wp2
    go_ret
    exact ⟨ret_boolv HE.out.symm, B0.out⟩
  have e1 := text_noslash hp
  have e2 := text_noslash' hp
  have HP := Lib.hid hp
  obtain ⟨z, hz⟩ : ∃ z, itemZ L p = z := ⟨_, rfl⟩
  have HZ := Lib.hid hz
  have hcs := itemZ_cases L p
  rw [hz] at hcs
  clear hp hz
  go_enter Tryd.func64, Tryd.ntmps64
  go_wp2_with fail
  refine (implItem_any a c L p _ (Cel.Rd.later B0.out _ _ HS.out) hn).mono ?_
  rw [HZ.out]
  rintro e w1 ⟨rfl, hb⟩
  have B1 : Hid (Below w.heap.size w w1) := Lib.hid (B0.out.trans (hb.mono B0.out.size))
  have T1 := Lib.hid (T0.out.later hb)
  have t0 := T1.out.cell (j := 0) rfl
  clear hb e1 e2
  rcases hcs with hm | ⟨k, hk, hm⟩
  · subst hm
    have HE : Hid (folderB L p = false) := Lib.hid (folder_none HP.out HZ.out)
    go_wp2
    go_ret
    exact ⟨ret_boolv HE.out.symm, B1.out⟩
  · subst hm
    have HE : Hid (folderB L p = (L.getD k default).dir) := Lib.hid (folder_at HP.out HZ.out)
    have i1 : ((k : Int) == -1) = false := beq_eq_false_iff_ne.2 (by omega)
    have i2 : ((k : Int) != -1) = true := by rw [bne, i1]; rfl
    obtain ⟨g, off, rfl, hg, d0, d1, d2⟩ := cItem_at (Cel.Rd.later B1.out _ _ HS.out) k hk
    obtain ⟨x, hx⟩ : ∃ x, L.getD k default = x := ⟨_, rfl⟩
    rw [hx] at d0 d1 d2 HE
    clear hx
    go_wp2
    go_ret
    exact ⟨ret_boolv HE.out.symm, B1.out⟩
set_option maxRecDepth 100000 in
set_option maxHeartbeats 4000000 in
theorem itemOk_any (a : Option Addr) (c : Nat) (L : List ItemR) (x : ItemR) (w : World) (h : (celRow cItem L).Rd w (.slice a L.length c)) (hz : (celRow cItem L).sz ≤ 2000000) (hx : x.path.size ≤ 2000000) (ht : x.text.size ≤ 2000000) (hE : ErrIs w) :
    Calls Tryd.prog 54 #[.agg #[.slice a L.length c], .agg #[.string x.path, .bool x.dir, .string x.text]] w (SaysB (itemB L x) w) := by
  have hb1 := below_bk w (.cells #[.slice a L.length c] 30)
  have hb2 := below_bk (w.alloc (.cells #[.slice a L.length c] 30)) (.cells #[.string x.path, .bool x.dir, .string x.text] 48)
  have B0 := Lib.hid (hb1.trans (hb2.mono hb1.size))
  have T0 := Lib.hid ((Bk.alloc w #[.slice a L.length c] 30).later hb2)
  have U0 : Hid (Bk ((w.alloc (.cells #[.slice a L.length c] 30)).alloc (.cells #[.string x.path, .bool x.dir, .string x.text] 48)) (w.heap.size + 1) #[.string x.path, .bool x.dir, .string x.text] 48) := Lib.hid (by
    have h := Bk.alloc (w.alloc (.cells #[.slice a L.length c] 30)) #[.string x.path, .bool x.dir, .string x.text] 48
    simpa using h)
  have HS := Lib.hid h
  have HE := Lib.hid hE
  have HZ := Lib.hid hz
  have hn : L.length ≤ 2000000 := by rw [sz_row'] at hz; omega
  obtain ⟨pp, hpp⟩ : ∃ q, parentB x.path = q := ⟨_, rfl⟩
  have HP := Lib.hid hpp
  clear h hE hz hb1 hb2 hpp
  have u0 := U0.out.cell (j := 0) rfl
  go_enter Tryd.func54, Tryd.ntmps54
  go_wp2_with fail
  clear u0
  refine (implParent_any x.path _ hx (HE.out.later rfl B0.out)).mono ?_
  rw [HP.out]
  rintro e w1 ⟨rfl, hb⟩
  have B1 : Hid (Below w.heap.size w w1) := Lib.hid (B0.out.trans (hb.mono B0.out.size))
  have T1 := Lib.hid (T0.out.later hb)
  have U1 := Lib.hid (U0.out.later hb)
  clear hb T0 U0 B0
  by_cases h0 : pp = ⟨#[]⟩
  · have HI : Hid (itemB L x = false) := Lib.hid (item_noparent (by rw [HP.out]; exact h0))
    have i1 : (pp.toList == []) = true := by rw [h0, Go.ByteArray.toList_eq]; rfl
    have i2 : pp.toList = [] := by rw [h0, Go.ByteArray.toList_eq]
    clear h0
    go_wp2
    go_ret
    exact ⟨ret_boolv HI.out.symm, B1.out⟩
  have i1 := text_full pp (bytes_full h0)
  have i2 := text_full' pp (bytes_full h0)
  have H0 : Hid (parentB x.path ≠ ⟨#[]⟩) := Lib.hid (by rw [HP.out]; exact h0)
  have t0 := T1.out.cell (j := 0) rfl
  obtain ⟨fb, hfb⟩ : ∃ b, folderB L pp = b := ⟨_, rfl⟩
  have HF := Lib.hid hfb
  clear h0 hfb
  go_wp2_with fail
  clear t0 i1 i2
  refine (isFolder_any a c L pp _ (Cel.Rd.later B1.out _ _ HS.out) (by omega)).mono ?_
  rw [HF.out]
  rintro e w2 ⟨rfl, hb⟩
  have B2 : Hid (Below w.heap.size w w2) := Lib.hid (B1.out.trans (hb.mono B1.out.size))
  have T2 := Lib.hid (T1.out.later hb)
  have U2 := Lib.hid (U1.out.later hb)
  clear hb T1 U1 B1
  cases fb with
  | false =>
    have HI : Hid (itemB L x = false) := Lib.hid (item_nofolder (by rw [HP.out]; exact HF.out))
    go_wp2
    go_ret
    exact ⟨ret_boolv HI.out.symm, B2.out⟩
  | true =>
    have HG : Hid (folderB L (parentB x.path) = true) := Lib.hid (by rw [HP.out]; exact HF.out)
    have u0 := U2.out.cell (j := 0) rfl
    have u1 := U2.out.cell (j := 1) rfl
    have u2 := U2.out.cell (j := 2) rfl
    have t0 := T2.out.cell (j := 0) rfl
    cases hd : x.dir with
    | false =>
      have HI : Hid (itemB L x = decide (x.text.size ≤ 128)) := Lib.hid (item_file H0.out HG.out hd)
      rw [hd] at u1
      by_cases hs : x.text.size ≤ 128
      · have HR : Hid (true = itemB L x) := Lib.hid (by rw [HI.out, decide_eq_true hs])
        have e2 : (x.text.size : Int) ≤ 128 := by omega
        clear hs hd
        go_wp2
        go_ret
        exact ⟨ret_boolv HR.out, B2.out⟩
      · have HR : Hid (false = itemB L x) := Lib.hid (by rw [HI.out, decide_eq_false hs])
        have e2 : ¬ (x.text.size : Int) ≤ 128 := by omega
        have e3 : decide ((x.text.size : Int) ≤ 128) = false := decide_eq_false e2
        clear hs hd
        go_wp2
        go_ret
        exact ⟨ret_boolv (by first | exact HR.out | (rw [e3]; exact HR.out)), B2.out⟩
    | true =>
      have HI : Hid (itemB L x = (decide (x.text = ⟨#[]⟩) && kidsB L x.path)) := Lib.hid (item_dir H0.out HG.out hd)
      rw [hd] at u1
      by_cases hs : x.text = ⟨#[]⟩
      · have HR : Hid (kidsB L x.path = itemB L x) := Lib.hid (by rw [HI.out, decide_eq_true hs, Bool.true_and])
        have e2 : (x.text.toList == []) = true := by rw [hs, Go.ByteArray.toList_eq]; rfl
        have e3 : x.text.toList = [] := by rw [hs, Go.ByteArray.toList_eq]
        clear hs hd
        go_wp2_with fail
        clear u0 u1 u2 t0 e2 e3
        refine (kidsFit_any a c L x.path _ (Cel.Rd.later B2.out _ _ HS.out) HZ.out (HE.out.later rfl B2.out)).mono ?_
        rintro e w3 ⟨rfl, hb⟩
        have B3 : Hid (Below w.heap.size w w3) := Lib.hid (B2.out.trans (hb.mono B2.out.size))
        clear hb
        go_wp2
        go_ret
        exact ⟨ret_boolv HR.out, B3.out⟩
      · have HR : Hid (false = itemB L x) := Lib.hid (by rw [HI.out, decide_eq_false hs, Bool.false_and])
        have e2 := text_full x.text (bytes_full hs)
        have e3 := text_full' x.text (bytes_full hs)
        clear hs hd
        go_wp2
        go_ret
        exact ⟨ret_boolv HR.out, B2.out⟩
end Go.Proofs.YtkfkjcadmdcbnaaDoor
namespace Go.Proofs.YtkfkjcadmdcbnaaDoor
open Go.RowKit Go.Proofs.YtkfkjcadmdcbnaaDoor.Parts Go.Proofs.YtkfkjcadmdcbnaaDoor.Hexa

theorem prevP_next (L : List ItemR) (j : Nat) : prevP L (j + 1) = (L.getD j default).path := rfl
set_option maxRecDepth 100000 in
set_option maxHeartbeats 4000000 in
theorem itemsOk_any (a : Option Addr) (c : Nat) (L : List ItemR) (w : World) (h : (celRow cItem L).Rd w (.slice a L.length c)) (hz : (celRow cItem L).sz ≤ 2000000) (hE : ErrIs w) :
    Calls Tryd.prog 34 #[.agg #[.slice a L.length c]] w (SaysB (itemsB L) w) := by
  have B0 := Lib.hid (below_bk w (.cells #[.slice a L.length c] 30))
  have T0 := Lib.hid (Bk.alloc w #[.slice a L.length c] 30)
  have HS := Lib.hid h
  have HE := Lib.hid hE
  have HZ := Lib.hid hz
  rw [sz_row'] at hz
  have hn : L.length ≤ 2000000 := by omega
  have HZ2 : Hid (szL (celsE cItem L) ≤ 2000000) := Lib.hid (by omega)
  clear h hz hE
  have t0 := T0.out.cell (j := 0) rfl
  go_enter Tryd.func34, Tryd.ntmps34
  go_wp2
  clear t0
  go_loopw [3, 9] (fun pv jv wr => ∃ (j : Nat) (q : ByteArray), j ≤ L.length ∧ jv = .int .i64 j ∧ pv = .string q ∧ Hid (q = prevP L j) ∧ Hid (stepsB L j = true) ∧ Hid (Below w.heap.size w wr) ∧ Hid (Bk wr w.heap.size #[.slice a L.length c] 30)) (fun _ jv _ => L.length - (intOf jv).toNat)
  case atStart => exact ⟨0, ⟨#[]⟩, Nat.zero_le _, rfl, rfl, Lib.hid rfl, Lib.hid rfl, B0, T0⟩
  case round =>
    clear T0 B0
    obtain ⟨j, q, hj, rfl, rfl, HQ, HA, HB, HT⟩ := hrel
    by_cases hjt : j < L.length
    · obtain ⟨g, off, rfl, hg, d0, d1, d2⟩ := cItem_at (Cel.Rd.later HB.out _ _ HS.out) j hjt
      have HZJ := Lib.hid (Nat.le_trans (szL_at cItem L j hjt) HZ2.out)
      rw [cItem_sz] at HZJ
      have HN := Lib.hid (steps_next L j)
      have HP := Lib.hid (prevP_next L j)
      have HBAD := Lib.hid (fun (h : stepB L j = false) => items_bad hjt h)
      have HST : Hid (stepB L j = (lessB q (L.getD j default).path && itemB L (L.getD j default))) := Lib.hid (by rw [HQ.out]; rfl)
      obtain ⟨x, hx⟩ : ∃ x, L.getD j default = x := ⟨_, rfl⟩
      rw [hx] at d0 d1 d2 HZJ HP HST
      clear hx
      have hps : x.path.size ≤ 2000000 := by have := HZJ.out; omega
      have hts : x.text.size ≤ 2000000 := by have := HZJ.out; omega
      have HB1 : Hid (Below w.heap.size w (wr.alloc (.cells #[.string x.path, .bool x.dir, .string x.text] 48))) := Lib.hid (HB.out.alloc HB.out.size _)
      have HT1 := Lib.hid (HT.out.later (below_bk wr (.cells #[.string x.path, .bool x.dir, .string x.text] 48)))
      have XB := Lib.hid (Bk.alloc wr #[.string x.path, .bool x.dir, .string x.text] 48)
      cases hl : lessB q x.path with
      | false =>
        have HE2 : Hid (false = itemsB L) := Lib.hid (by rw [HBAD.out (by rw [HST.out, hl]; rfl)])
        by_cases he : x.path = q
        · have b1 : (x.path.toList == q.toList) = true := by rw [he]; exact beq_self_eq_true _
          have b2 : x.path.toList = q.toList := by rw [he]
          clear he hl
          go_wp2
          go_ret
          exact ⟨ret_boolv HE2.out, HB1.out⟩
        · have b1 : Op.bytesLess x.path.toList q.toList = true := by
            cases h9 : Op.bytesLess x.path.toList q.toList with
            | true => rfl
            | false => exact absurd (lessB_ord.tri _ _ h9 hl) he
          clear he hl
          go_wp2
          go_ret
          exact ⟨ret_boolv HE2.out, HB1.out⟩
      | true =>
        have b1 : Op.bytesLess x.path.toList q.toList = false := lessB_ord.asym hl
        have hne : ¬ x.path = q := fun e => by rw [e, lessB_ord.irr] at hl; cases hl
        have b2 := text_neB hne
        have b3 := text_ne hne
        have HST2 : Hid (stepB L j = itemB L x) := Lib.hid (by rw [HST.out, hl, Bool.true_and])
        obtain ⟨z, hz⟩ : ∃ z, itemB L x = z := ⟨_, rfl⟩
        have HZZ := Lib.hid hz
        have t0 := HT1.out.cell (j := 0) rfl
        clear hl hne hz
        go_wp2_with fail
        clear b1 b2 b3 t0 d0 d1 d2
        refine (itemOk_any _ c L x _ (Cel.Rd.later HB1.out _ _ HS.out) HZ.out hps hts (HE.out.later rfl HB1.out)).mono ?_
        rw [HZZ.out]
        rintro e w2 ⟨rfl, hb⟩
        have HB2 : Hid (Below w.heap.size w w2) := Lib.hid (HB1.out.trans (hb.mono HB1.out.size))
        have HT2 := Lib.hid (HT1.out.later hb)
        have XB2 := Lib.hid (XB.out.later hb)
        have x0 := XB2.out.cell (j := 0) rfl
        clear hb HB1 HT1 XB
        cases z with
        | false =>
          have HE2 : Hid (false = itemsB L) := Lib.hid (by rw [HBAD.out (by rw [HST2.out]; exact HZZ.out)])
          go_wp2
          go_ret
          exact ⟨ret_boolv HE2.out, HB2.out⟩
        | true =>
          have HA2 : Hid (stepsB L (j + 1) = true) := Lib.hid (by rw [HN.out, HA.out, HST2.out, HZZ.out]; rfl)
          have HQ2 : Hid (x.path = prevP L (j + 1)) := Lib.hid HP.out.symm
          go_wp2
          go_roundw
          case rel => exact ⟨j + 1, x.path, by omega, by go_num, rfl, HQ2, HA2, HB2, HT2⟩
          case measure => (simp [intOf]; try omega)
    · obtain rfl : j = L.length := by omega
      have HE2 : Hid (kidsB L slashB = itemsB L) := Lib.hid (by unfold itemsB; rw [HA.out, Bool.true_and])
      have t0 := HT.out.cell (j := 0) rfl
      go_wp2_with fail
      clear t0
      refine (kidsFit_any a c L slashB _ (Cel.Rd.later HB.out _ _ HS.out) HZ.out (HE.out.later rfl HB.out)).mono ?_
      rintro e w3 ⟨rfl, hb⟩
      have B3 : Hid (Below w.heap.size w w3) := Lib.hid (HB.out.trans (hb.mono HB.out.size))
      clear hb
      go_wp2
      go_ret
      exact ⟨ret_boolv HE2.out, B3.out⟩
set_option maxRecDepth 100000 in
set_option maxHeartbeats 8000000 in
theorem implView_any (T P I Q : Int) (a : Option Addr) (c : Nat) (L : List ItemR) (w : World) (h : (celRow cItem L).Rd w (.slice a L.length c)) (hz : (celRow cItem L).sz ≤ 2000000) (hE : ErrIs w) :
    Calls Tryd.prog 17 #[.agg #[.int .i64 T, .int .i64 P, .int .i64 I, .int .i64 Q], .agg #[.slice a L.length c]] w (SaysB (viewB T P I Q L) w) := by
  have hb1 := below_bk w (.cells #[.int .i64 T, .int .i64 P, .int .i64 I, .int .i64 Q] 40)
  have hb2 := below_bk (w.alloc (.cells #[.int .i64 T, .int .i64 P, .int .i64 I, .int .i64 Q] 40)) (.cells #[.slice a L.length c] 30)
  have B0 := Lib.hid (hb1.trans (hb2.mono hb1.size))
  have T0 := Lib.hid ((Bk.alloc w #[.int .i64 T, .int .i64 P, .int .i64 I, .int .i64 Q] 40).later hb2)
  have U0 : Hid (Bk ((w.alloc (.cells #[.int .i64 T, .int .i64 P, .int .i64 I, .int .i64 Q] 40)).alloc (.cells #[.slice a L.length c] 30)) (w.heap.size + 1) #[.slice a L.length c] 30) := Lib.hid (by
    have h := Bk.alloc (w.alloc (.cells #[.int .i64 T, .int .i64 P, .int .i64 I, .int .i64 Q] 40)) #[.slice a L.length c] 30
    simpa using h)
  have HS := Lib.hid h
  have HE := Lib.hid hE
  have HZ := Lib.hid hz
  clear h hz hE hb1 hb2
  go_enter Tryd.func17, Tryd.ntmps17
  go_wp2
  obtain ⟨W0, hW0⟩ : ∃ y, y = ((w.alloc (.cells #[.int .i64 T, .int .i64 P, .int .i64 I, .int .i64 Q] 40)).alloc (.cells #[.slice a L.length c] 30)) := ⟨_, rfl⟩
  rw [← hW0] at B0 T0 U0 ⊢
  clear hW0
  have z0 := GrownW.cell (T0.out.cell (j := 0) rfl) T0.out.lt
  have z1 := GrownW.cell (T0.out.cell (j := 1) rfl) T0.out.lt
  have z2 := GrownW.cell (T0.out.cell (j := 2) rfl) T0.out.lt
  have z3 := GrownW.cell (T0.out.cell (j := 3) rfl) T0.out.lt
  have y0 := GrownW.cell (U0.out.cell (j := 0) rfl) U0.out.lt
  have CI : Hid (∀ g : GrownW W0, Calls Tryd.prog 34 #[.agg #[.slice a L.length c]] g.wd (SaysB (itemsB L) g.wd)) := Lib.hid (fun g => itemsOk_any a c L _ (Cel.Rd.later (B0.out.trans (g.grown.mono B0.out.size)) _ _ HS.out) HZ.out (HE.out.later rfl (B0.out.trans (g.grown.mono B0.out.size))))
  have CP : Hid (∀ g : GrownW W0, Calls Tryd.prog 35 #[.agg #[.slice a L.length c]] g.wd (SaysI (pagesR L) g.wd)) := Lib.hid (fun g => implPgs_any a c L _ (Cel.Rd.later (B0.out.trans (g.grown.mono B0.out.size)) _ _ HS.out) (by have := HZ.out; omega))
  by_cases hgeo : GeoR T P I Q
  case neg =>
    have HV : Hid (false = viewB T P I Q L) := Lib.hid (view_nogeo hgeo).symm
    have CG := Lib.hid (fun W => implGeo_no T P I Q W hgeo)
    clear hgeo
    refine wp_region_grown (by kernel_rfl) (by kernel_rfl) ?_
    repeat (go_big_quiet_step ((go_at_call 33; exact Calls.grown_of (CG.out _))))
    refine wpQuiet_nil ?_
    rintro _ ⟨gq, rfl⟩
    go_wp2
    go_ret
    exact ⟨ret_boolv HV.out, B0.out.trans (gq.grown.mono B0.out.size)⟩
  have CG := Lib.hid (fun W => implGeo_yes T P I Q W hgeo)
  by_cases hlen : (L.length : Int) < I
  case neg =>
    have HV : Hid (false = viewB T P I Q L) := Lib.hid (view_many hlen).symm
    have hl2 : decide ((L.length : Int) < I) = false := decide_eq_false hlen
    clear hgeo
    refine wp_region_grown (by kernel_rfl) (by kernel_rfl) ?_
    repeat (go_big_quiet_step ((go_at_call 33; exact Calls.grown_of (CG.out _))))
    refine wpQuiet_nil ?_
    rintro _ ⟨gq, rfl⟩
    go_wp2
    go_ret
    exact ⟨ret_boolv HV.out, B0.out.trans (gq.grown.mono B0.out.size)⟩
  cases hi : itemsB L with
  | false =>
    have HV : Hid (false = viewB T P I Q L) := Lib.hid (view_items hi).symm
    rw [hi] at CI
    clear hgeo hi
    refine wp_region_grown (by kernel_rfl) (by kernel_rfl) ?_
    repeat (go_big_quiet_step (first | (go_at_call 33; exact Calls.grown_of (CG.out _)) | (go_at_call 34; exact Calls.grown_of (CI.out _))))
    refine wpQuiet_nil ?_
    rintro _ ⟨gq, rfl⟩
    go_wp2
    go_ret
    exact ⟨ret_boolv HV.out, B0.out.trans (gq.grown.mono B0.out.size)⟩
  | true =>
    have HV : Hid (decide (pagesR L ≤ Q) = viewB T P I Q L) := Lib.hid (view_all hgeo hlen hi).symm
    rw [hi] at CI
    obtain ⟨n, hn⟩ : ∃ n, pagesR L = n := ⟨_, rfl⟩
    rw [hn] at CP HV
    clear hgeo hi hn
    refine wp_region_grown (by kernel_rfl) (by kernel_rfl) ?_
    repeat (go_big_quiet_step (first | (go_at_call 33; exact Calls.grown_of (CG.out _)) | (go_at_call 34; exact Calls.grown_of (CI.out _)) | (go_at_call 35; exact Calls.grown_of (CP.out _))))
    refine wpQuiet_nil ?_
    rintro _ ⟨gq, rfl⟩
    go_wp2
    go_ret
    exact ⟨ret_boolv HV.out, B0.out.trans (gq.grown.mono B0.out.size)⟩
end Go.Proofs.YtkfkjcadmdcbnaaDoor
namespace Go.Proofs.YtkfkjcadmdcbnaaDoor
open Go.RowKit

set_option maxRecDepth 100000 in
set_option maxHeartbeats 1000000 in
theorem toGeo_any (T P I Q : Int) (w : World) : Calls Tryd.prog 16 #[.agg #[.int .i64 T, .int .i64 P, .int .i64 I, .int .i64 Q]] w fun e w' => e = .returned (.agg #[.int .i64 T, .int .i64 P, .int .i64 I, .int .i64 Q]) ∧ Below w.heap.size w w' := by
  go_enter Tryd.func16, Tryd.ntmps16
  go_wp2
  refine bodyPost_ret (v := .agg #[.int .i64 T, .int .i64 P, .int .i64 I, .int .i64 Q]) ?_ rfl ⟨rfl, ?_⟩
  · simp [results, Tryd.results16, go_sem]
  · exact (((Below.refl _ _).alloc (Nat.le_refl _) _).alloc (by simp) _).alloc (by simp; omega) _
end Go.Proofs.YtkfkjcadmdcbnaaDoor

namespace Go.Proofs.YtkfkjcadmdcbnaaDoor
open Go.RowKit Go.Proofs.YtkfkjcadmdcbnaaDoor.Parts Go.Proofs.YtkfkjcadmdcbnaaDoor.Hexa

set_option maxRecDepth 100000 in
set_option maxHeartbeats 4000000 in
theorem viewOk_law (Tg Pg Ig Qg : Int) (v : ViewR) (a0_v : Option Addr) (c0_v : Nat) (w : World) (ht_v : TyL (cView.cels v)) (h0_v : (celRow cItem v.items).Rd w (.slice a0_v v.items.length c0_v)) (hE : ErrIs w) :
    Calls Tryd.prog 4 #[.agg #[.int .i64 Tg, .int .i64 Pg, .int .i64 Ig, .int .i64 Qg], .agg #[.slice a0_v v.items.length c0_v]] w fun e w' => e = .returned (.bool true) ∧ Below w.heap.size w w' := by
  have HT_v := Lib.hid ht_v
  clear ht_v
  have HS0_v := Lib.hid h0_v
  clear h0_v
  have HE := Lib.hid hE
  clear hE
  obtain ⟨rv, hrv⟩ : ∃ b, viewB Tg Pg Ig Qg v.items = b := ⟨_, rfl⟩
  have HRV := Lib.hid hrv
  clear hrv
  have Xg_0 := Lib.hid ((Bk.alloc w #[.int .i64 Tg, .int .i64 Pg, .int .i64 Ig, .int .i64 Qg] 38).later (below_bk (w.alloc (.cells #[.int .i64 Tg, .int .i64 Pg, .int .i64 Ig, .int .i64 Qg] 38)) (.cells #[.slice a0_v v.items.length c0_v] 24)))
  have Xv_0 : Hid (Bk ((w.alloc (.cells #[.int .i64 Tg, .int .i64 Pg, .int .i64 Ig, .int .i64 Qg] 38)).alloc (.cells #[.slice a0_v v.items.length c0_v] 24)) (w.heap.size + 1) #[.slice a0_v v.items.length c0_v] 24) := Lib.hid (by have h := (Bk.alloc (w.alloc (.cells #[.int .i64 Tg, .int .i64 Pg, .int .i64 Ig, .int .i64 Qg] 38)) #[.slice a0_v v.items.length c0_v] 24); simpa using h)
  have BW_0 := Lib.hid ((below_bk w (.cells #[.int .i64 Tg, .int .i64 Pg, .int .i64 Ig, .int .i64 Qg] 38)).alloc (by simp) (.cells #[.slice a0_v v.items.length c0_v] 24))
  go_enter Tryd.func4, Tryd.ntmps4
  have dg0 := Xg_0.out.cell (j := 0) rfl
  have dg1 := Xg_0.out.cell (j := 1) rfl
  have dg2 := Xg_0.out.cell (j := 2) rfl
  have dg3 := Xg_0.out.cell (j := 3) rfl
  have dv0 := Xv_0.out.cell (j := 0) rfl
  go_wp2_with fail
  obtain ⟨V0, hV⟩ : ∃ y, y = ((w.alloc (.cells #[.int .i64 Tg, .int .i64 Pg, .int .i64 Ig, .int .i64 Qg] 38)).alloc (.cells #[.slice a0_v v.items.length c0_v] 24)) := ⟨_, rfl⟩
  clear dg0 dg1 dg2 dg3 dv0
  rw [← hV] at Xg_0 Xv_0 BW_0 ⊢
  have SZ_V0 : Hid (w.heap.size + 2 ≤ V0.heap.size) := Lib.hid (by rw [hV]; simp)
  clear hV
  refine (szView_st v a0_v c0_v 1048576 _ (by decide) (by decide) (Cel.Rd.later BW_0.out _ _ HS0_v.out) HT_v.out).mono ?_
  rintro e w1 ⟨l_v, rfl, hr, hb⟩
  have Xg_1 := Lib.hid (Xg_0.out.later hb)
  have Xv_1 := Lib.hid (Xv_0.out.later hb)
  have BW_1 : Hid (Below w.heap.size w w1) := Lib.hid (BW_0.out.trans (hb.mono BW_0.out.size))
  have SZ_w1 : Hid (V0.heap.size ≤ w1.heap.size) := Lib.hid hb.size
  clear hb Xg_0 Xv_0 BW_0
  rcases hr with hr | ⟨hl0, hl1⟩
  · go_wp2
    go_ret
    exact ⟨rfl, BW_1.out⟩
  have HZ_v : Hid (szL (cView.cels v) ≤ 1048576) := Lib.hid (by omega)
  have HZB_v : Hid (szL (cView.cels v) ≤ 100000000) := Lib.hid (by omega)
  have hq_v : ¬ (l_v < 0) := by omega
  have hp_v : l_v ≤ 1048576 := by omega
  clear hl1
  have HSV : Hid ((celRow cItem v.items).sz ≤ 2000000) := Lib.hid (by have := HZ_v.out; rw [cView_sz] at this; omega)
  have dg0 := Xg_1.out.cell (j := 0) rfl
  have dg1 := Xg_1.out.cell (j := 1) rfl
  have dg2 := Xg_1.out.cell (j := 2) rfl
  have dg3 := Xg_1.out.cell (j := 3) rfl
  have dv0 := Xv_1.out.cell (j := 0) rfl
  go_upto_region 5 with fail
  clear dg0 dg1 dg2 dg3 dv0
  go_cut [6] (fun sv wx => sv = .bool rv ∧ Below w1.heap.size w1 wx)
  case first =>
    have Zg := Lib.hid Xg_1.out.drew
    have Zv := Lib.hid Xv_1.out.drew
    have BD : Hid (Below w1.heap.size w1 w1.drew) := Lib.hid (Below.refl _ _).drew
    go_region_held3 (fun w' => w'.cell? ⟨w.heap.size, 0, none⟩ = some (.int .i64 Tg) ∧ w'.cell? ⟨w.heap.size, 1, none⟩ = some (.int .i64 Pg) ∧ w'.cell? ⟨w.heap.size, 2, none⟩ = some (.int .i64 Ig) ∧ w'.cell? ⟨w.heap.size, 3, none⟩ = some (.int .i64 Qg) ∧ w'.cell? ⟨w.heap.size + 1, 0, none⟩ = some (.slice a0_v v.items.length c0_v))
      (first
        | exact ⟨Zg.out.cell rfl, Zg.out.cell rfl, Zg.out.cell rfl, Zg.out.cell rfl, Zv.out.cell rfl⟩
        | exact ⟨(Zg.out.later (D01_1.out)).cell rfl, (Zg.out.later (D01_1.out)).cell rfl, (Zg.out.later (D01_1.out)).cell rfl, (Zg.out.later (D01_1.out)).cell rfl, (Zv.out.later (D01_1.out)).cell rfl⟩
        | exact ⟨(Zg.out.later (D01_2.out)).cell rfl, (Zg.out.later (D01_2.out)).cell rfl, (Zg.out.later (D01_2.out)).cell rfl, (Zg.out.later (D01_2.out)).cell rfl, (Zv.out.later (D01_2.out)).cell rfl⟩
        | exact ⟨(Zg.out.later (D01_3.out)).cell rfl, (Zg.out.later (D01_3.out)).cell rfl, (Zg.out.later (D01_3.out)).cell rfl, (Zg.out.later (D01_3.out)).cell rfl, (Zv.out.later (D01_3.out)).cell rfl⟩
        | exact ⟨(Zg.out.later (D10_1.out)).cell rfl, (Zg.out.later (D10_1.out)).cell rfl, (Zg.out.later (D10_1.out)).cell rfl, (Zg.out.later (D10_1.out)).cell rfl, (Zv.out.later (D10_1.out)).cell rfl⟩
        | exact ⟨(Zg.out.later (D10_2.out)).cell rfl, (Zg.out.later (D10_2.out)).cell rfl, (Zg.out.later (D10_2.out)).cell rfl, (Zg.out.later (D10_2.out)).cell rfl, (Zv.out.later (D10_2.out)).cell rfl⟩
        | exact ⟨(Zg.out.later (D10_3.out)).cell rfl, (Zg.out.later (D10_3.out)).cell rfl, (Zg.out.later (D10_3.out)).cell rfl, (Zg.out.later (D10_3.out)).cell rfl, (Zv.out.later (D10_3.out)).cell rfl⟩
        | go_keep)
      (first
        | (go_at_call 15; (with_reducible refine (specView_any Tg Pg Ig Qg _ _ v.items _ (cView_un (O01v_2.out.rd)) HSV.out).mono ?_); rw [HRV.out]; rintro e wz01_3 ⟨rfl, hb⟩; have D01_3 : Hid (Below w1.drew.heap.size w1.drew wz01_3) := Lib.hid (D01_2.out.trans (hb.mono D01_2.out.size)); have B01_3 : Hid (Below w1.heap.size w1 wz01_3) := Lib.hid (BD.out.trans (D01_3.out.mono BD.out.size)); clear hb)
        | (go_at_call 15; (with_reducible refine (specView_any Tg Pg Ig Qg _ _ v.items _ (cView_un (O10v_2.out.rd)) HSV.out).mono ?_); rw [HRV.out]; rintro e wz10_3 ⟨rfl, hb⟩; have D10_3 : Hid (Below w1.drew.heap.size w1.drew wz10_3) := Lib.hid (D10_2.out.trans (hb.mono D10_2.out.size)); have B10_3 : Hid (Below w1.heap.size w1 wz10_3) := Lib.hid (BD.out.trans (D10_3.out.mono BD.out.size)); clear hb)
        | (go_at_call 8; (with_reducible refine (toView_st v a0_v c0_v _ (Cel.Rd.later (BW_1.out.trans (B01_1.out.mono BW_1.out.size)) _ _ HS0_v.out) HZ_v.out).mono ?_); rintro e wz01_2 ⟨vs, rfl, ho, hb⟩; obtain ⟨a0_01v, c0_01v, rfl, _⟩ := cView_form ho.rd; have O01v_2 := Lib.hid ho; have D01_2 : Hid (Below w1.drew.heap.size w1.drew wz01_2) := Lib.hid (D01_1.out.trans (hb.mono D01_1.out.size)); have B01_2 : Hid (Below w1.heap.size w1 wz01_2) := Lib.hid (BD.out.trans (D01_2.out.mono BD.out.size)); clear hb ho)
        | (go_at_call 16; (with_reducible refine (toGeo_any Tg Pg Ig Qg _).mono ?_); rintro e wz10_2 ⟨rfl, hb⟩; have D10_2 : Hid (Below w1.drew.heap.size w1.drew wz10_2) := Lib.hid (D10_1.out.trans (hb.mono D10_1.out.size)); have B10_2 : Hid (Below w1.heap.size w1 wz10_2) := Lib.hid (BD.out.trans (D10_2.out.mono BD.out.size)); have O10v_2 := Lib.hid (O10v_1.out.later hb); clear hb)
        | (go_at_call 16; (with_reducible refine (toGeo_any Tg Pg Ig Qg _).mono ?_); rintro e wz01_1 ⟨rfl, hb⟩; have D01_1 : Hid (Below w1.drew.heap.size w1.drew wz01_1) := Lib.hid (hb); have B01_1 : Hid (Below w1.heap.size w1 wz01_1) := Lib.hid (BD.out.trans (D01_1.out.mono BD.out.size)); clear hb)
        | (go_at_call 8; (with_reducible refine (toView_st v a0_v c0_v _ (Cel.Rd.later (BW_1.out.trans (BD.out.mono BW_1.out.size)) _ _ HS0_v.out) HZ_v.out).mono ?_); rintro e wz10_1 ⟨vs, rfl, ho, hb⟩; obtain ⟨a0_10v, c0_10v, rfl, _⟩ := cView_form ho.rd; have O10v_1 := Lib.hid ho; have D10_1 : Hid (Below w1.drew.heap.size w1.drew wz10_1) := Lib.hid (hb); have B10_1 : Hid (Below w1.heap.size w1 wz10_1) := Lib.hid (BD.out.trans (D10_1.out.mono BD.out.size)); clear hb ho))
    all_goals
      go_wp2
      go_meet
      first | exact ⟨rfl, B01_3.out⟩ | exact ⟨rfl, B10_3.out⟩
  case rest =>
  obtain ⟨rfl, hb⟩ := hcut
  obtain ⟨w2, hnew⟩ : ∃ y, y = wc := ⟨_, rfl⟩
  rw [← hnew] at hb ⊢
  clear hnew
  have Xg_2 := Lib.hid (Xg_1.out.later hb)
  have Xv_2 := Lib.hid (Xv_1.out.later hb)
  have BW_2 : Hid (Below w.heap.size w w2) := Lib.hid (BW_1.out.trans (hb.mono BW_1.out.size))
  have SZ_w2 : Hid (w1.heap.size ≤ w2.heap.size) := Lib.hid hb.size
  clear hb Xg_1 Xv_1 BW_1
  have dg0 := Xg_2.out.cell (j := 0) rfl
  have dg1 := Xg_2.out.cell (j := 1) rfl
  have dg2 := Xg_2.out.cell (j := 2) rfl
  have dg3 := Xg_2.out.cell (j := 3) rfl
  have dv0 := Xv_2.out.cell (j := 0) rfl
  go_wp2_with fail
  clear dg0 dg1 dg2 dg3 dv0
  refine (toView_st v a0_v c0_v _ (Cel.Rd.later BW_2.out _ _ HS0_v.out) HZ_v.out).mono ?_
  rintro e w3 ⟨vs, rfl, ho, hb⟩
  have Xg_3 := Lib.hid (Xg_2.out.later hb)
  have Xv_3 := Lib.hid (Xv_2.out.later hb)
  have BW_3 : Hid (Below w.heap.size w w3) := Lib.hid (BW_2.out.trans (hb.mono BW_2.out.size))
  have SZ_w3 : Hid (w2.heap.size ≤ w3.heap.size) := Lib.hid hb.size
  clear hb Xg_2 Xv_2 BW_2
  obtain ⟨a0_x, c0_x, rfl, _⟩ := cView_form ho.rd
  have Ox_3x := Lib.hid ho
  clear ho
  have hba := below_bk w3 (.cells #[.slice a0_x v.items.length c0_x] 30)
  have Xg_4 := Lib.hid (Xg_3.out.later hba)
  have Xv_4 := Lib.hid (Xv_3.out.later hba)
  have Ox_4 := Lib.hid (Ox_3x.out.later hba)
  have BW_4 : Hid (Below w.heap.size w (w3.alloc (.cells #[.slice a0_x v.items.length c0_x] 30))) := Lib.hid (BW_3.out.trans (hba.mono BW_3.out.size))
  have Xx_4 := Lib.hid (Bk.alloc w3 #[.slice a0_x v.items.length c0_x] 30)
  clear hba Xg_3 Xv_3 Ox_3x BW_3
  have dg0 := Xg_4.out.cell (j := 0) rfl
  have dg1 := Xg_4.out.cell (j := 1) rfl
  have dg2 := Xg_4.out.cell (j := 2) rfl
  have dg3 := Xg_4.out.cell (j := 3) rfl
  have dv0 := Xv_4.out.cell (j := 0) rfl
  have dx0 := Xx_4.out.cell (j := 0) rfl
  go_upto_region 7 with fail
  clear dg0 dg1 dg2 dg3 dv0 dx0
  obtain ⟨V3, hV⟩ : ∃ y, y = (w3.alloc (.cells #[.slice a0_x v.items.length c0_x] 30)) := ⟨_, rfl⟩
  rw [← hV] at Xg_4 Xv_4 Xx_4 Ox_4 BW_4 ⊢
  have SZ_V3 : Hid (w3.heap.size + 1 ≤ V3.heap.size) := Lib.hid (by rw [hV]; simp)
  clear hV
  go_cut [8] (fun sv wx => sv = .bool rv ∧ Below V3.heap.size V3 wx)
  case first =>
    have Zg := Lib.hid Xg_4.out.drew
    have Zv := Lib.hid Xv_4.out.drew
    have Zx := Lib.hid Xx_4.out.drew
    have BD : Hid (Below V3.heap.size V3 V3.drew) := Lib.hid (Below.refl _ _).drew
    go_region_held3 (fun w' => w'.cell? ⟨w.heap.size, 0, none⟩ = some (.int .i64 Tg) ∧ w'.cell? ⟨w.heap.size, 1, none⟩ = some (.int .i64 Pg) ∧ w'.cell? ⟨w.heap.size, 2, none⟩ = some (.int .i64 Ig) ∧ w'.cell? ⟨w.heap.size, 3, none⟩ = some (.int .i64 Qg) ∧ w'.cell? ⟨w.heap.size + 1, 0, none⟩ = some (.slice a0_v v.items.length c0_v) ∧ w'.cell? ⟨w3.heap.size, 0, none⟩ = some (.slice a0_x v.items.length c0_x))
      (first
        | exact ⟨Zg.out.cell rfl, Zg.out.cell rfl, Zg.out.cell rfl, Zg.out.cell rfl, Zv.out.cell rfl, Zx.out.cell rfl⟩
        | exact ⟨(Zg.out.later (D0_1.out)).cell rfl, (Zg.out.later (D0_1.out)).cell rfl, (Zg.out.later (D0_1.out)).cell rfl, (Zg.out.later (D0_1.out)).cell rfl, (Zv.out.later (D0_1.out)).cell rfl, (Zx.out.later (D0_1.out)).cell rfl⟩
        | exact ⟨(Zg.out.later (D0_2.out)).cell rfl, (Zg.out.later (D0_2.out)).cell rfl, (Zg.out.later (D0_2.out)).cell rfl, (Zg.out.later (D0_2.out)).cell rfl, (Zv.out.later (D0_2.out)).cell rfl, (Zx.out.later (D0_2.out)).cell rfl⟩
        | go_keep)
      (first
        | (go_at_call 17; (with_reducible refine (implView_any Tg Pg Ig Qg _ _ v.items _ (Cel.Rd.later B0_1.out _ _ (cView_un Ox_4.out.rd)) HSV.out (HE.out.later rfl (BW_4.out.trans (B0_1.out.mono BW_4.out.size)))).mono ?_); rw [HRV.out]; rintro e wz0_2 ⟨rfl, hb⟩; have D0_2 : Hid (Below V3.drew.heap.size V3.drew wz0_2) := Lib.hid (D0_1.out.trans (hb.mono D0_1.out.size)); have B0_2 : Hid (Below V3.heap.size V3 wz0_2) := Lib.hid (BD.out.trans (D0_2.out.mono BD.out.size)); clear hb)
        | (go_at_call 16; (with_reducible refine (toGeo_any Tg Pg Ig Qg _).mono ?_); rintro e wz0_1 ⟨rfl, hb⟩; have D0_1 : Hid (Below V3.drew.heap.size V3.drew wz0_1) := Lib.hid (hb); have B0_1 : Hid (Below V3.heap.size V3 wz0_1) := Lib.hid (BD.out.trans (D0_1.out.mono BD.out.size)); clear hb))
    all_goals
      go_wp2
      go_meet
      first | exact ⟨rfl, B0_2.out⟩
  case rest =>
  obtain ⟨rfl, hb⟩ := hcut
  obtain ⟨w4, hnew⟩ : ∃ y, y = wc := ⟨_, rfl⟩
  rw [← hnew] at hb ⊢
  clear hnew
  have Xg_5 := Lib.hid (Xg_4.out.later hb)
  have Xv_5 := Lib.hid (Xv_4.out.later hb)
  have Xx_5 := Lib.hid (Xx_4.out.later hb)
  have Ox_5 := Lib.hid (Ox_4.out.later hb)
  have BW_5 : Hid (Below w.heap.size w w4) := Lib.hid (BW_4.out.trans (hb.mono BW_4.out.size))
  have SZ_w4 : Hid (V3.heap.size ≤ w4.heap.size) := Lib.hid hb.size
  clear hb Xg_4 Xv_4 Xx_4 Ox_4 BW_4
  go_wp2
  have XD := Lib.hid Xx_5.out.drew
  have AD := Lib.hid Xv_5.out.drew
  have BD := Lib.hid BW_5.out.drew
  have OD : Hid (Objs w4.drew w2.heap.size w3.heap.size _ _) := Lib.hid (Ox_5.out.later (Below.refl _ _).drew)
  have YDg := Lib.hid Xg_5.out.drew
  go_region_held3 (fun w' => w'.cell? ⟨w3.heap.size, 0, none⟩ = some (.slice a0_x v.items.length c0_x) ∧ w'.cell? ⟨w.heap.size + 1, 0, none⟩ = some (.slice a0_v v.items.length c0_v))
    (first
      | exact ⟨XD.out.cell rfl, AD.out.cell rfl⟩
      | exact ⟨XE.out.cell rfl, AE.out.cell rfl⟩
      | exact ⟨XF.out.cell rfl, AF.out.cell rfl⟩
      | go_keep)
    (first
      | (go_at_call 8; (with_reducible refine (toView_st v a0_v c0_v _ (Cel.Rd.later BD.out _ _ HS0_v.out) HZ_v.out).mono ?_); rintro e wa6 ⟨vs, rfl, ho, hb⟩; obtain ⟨a0_z9, c0_z9, rfl, q0⟩ := cView_form ho.rd; have XE := Lib.hid (XD.out.later hb); have AE := Lib.hid (AD.out.later hb); have OE := Lib.hid (OD.out.later hb); have BE : Hid (Below w.heap.size w wa6) := Lib.hid (BD.out.trans (hb.mono BD.out.size)); have SZ_wa6 : Hid (w4.heap.size ≤ wa6.heap.size) := Lib.hid hb.size; have YEg := Lib.hid (YDg.out.later hb); clear hb ho)
      | (go_at_call 11; (with_reducible refine (eqView_st v a0_x c0_x a0_z9 c0_z9 _ (cView_un OE.out.rd) q0 (view_len HZB_v.out)).mono ?_); rintro e wb6 ⟨rfl, hb⟩; have XF := Lib.hid (XE.out.later hb); have AF := Lib.hid (AE.out.later hb); have OF := Lib.hid (OE.out.later hb); have BF : Hid (Below w.heap.size w wb6) := Lib.hid (BE.out.trans (hb.mono BE.out.size)); have SZ_wb6 : Hid (wa6.heap.size ≤ wb6.heap.size) := Lib.hid hb.size; have YFg := Lib.hid (YEg.out.later hb); clear hb))
  have Xx_6 := XF
  have Xv_6 := AF
  have BW_6 := BF
  have Ox_6 := OF
  have Xg_6 := YFg
  clear Xg_5 Xv_5 Xx_5 Ox_5 BW_5 XD XE XF AD AE AF BD BE BF OD OE OF YDg YEg YFg
  go_wp2
  go_ret
  exact ⟨rfl, BW_6.out⟩
end Go.Proofs.YtkfkjcadmdcbnaaDoor
namespace Go.Proofs.YtkfkjcadmdcbnaaDoor
open Go.Joins Go.ChangeShapes Go.WideShapes

theorem cellsGeoT : Tryd.prog.cellsOf 38 = 4 := by kernel_rfl
set_option maxRecDepth 100000 in
theorem geo_of_trod {H : Type} {enc : TypeId × Value → H} {W : World} {sp : Nat → Bool} {held : Bool} {r : Reach} {b0 base : Nat} {v : Value} {d : DataW H} {p : List MemPlace}
    (hv : Value.okWide Tryd.prog W r b0 38 v) (h : DataW.Trod enc Tryd.prog W base sp held 38 v d p) : ∃ T P I Q : Int, v = .agg #[.int .i64 T, .int .i64 P, .int .i64 I, .int .i64 Q] := by
  obtain ⟨v0, v1, v2, v3, y0, y1, y2, y3, n, rfl, _, _, h0, h1, h2, h3⟩ := open_agg4 Tryd.underlying38 (by kernel_rfl) cellsGeoT hv h
  obtain ⟨s0, e0, _⟩ := DataW.trod_int Tryd.underlying3 h0
  obtain ⟨s1, e1, _⟩ := DataW.trod_int Tryd.underlying3 h1
  obtain ⟨s2, e2, _⟩ := DataW.trod_int Tryd.underlying3 h2
  obtain ⟨s3, e3, _⟩ := DataW.trod_int Tryd.underlying3 h3
  simp at e0 e1 e2 e3
  exact ⟨s0, s1, s2, s3, by rw [e0, e1, e2, e3]⟩
end Go.Proofs.YtkfkjcadmdcbnaaDoor
