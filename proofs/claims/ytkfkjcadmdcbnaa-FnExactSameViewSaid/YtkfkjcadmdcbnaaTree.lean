/- Trees of cells for typed data: rows of elements; measured, built, marked. -/
import Derived.Test.YtkfkjcadmdcbnaaDeep
import Derived.Test.YtkfkjcadmdcbnaaElem
namespace Go.Proofs.Ytkfkjcadmdcbnaa
open Go.RowKit Go.Proofs.Ytkfkjcadmdcbnaa.Parts

/-- How an element lies in its cells. -/
structure EncC (α : Type) where
  e : TypeId
  k : Nat
  cels : α → List Cel
  len : ∀ x, (cels x).length = k
def celsE {α : Type} (E : EncC α) : List α → List Cel
  | [] => []
  | x :: r => E.cels x ++ celsE E r
def celRow {α : Type} (E : EncC α) (L : List α) : Cel := .sl E.e E.k L.length (celsE E L)
section
variable {α : Type} [Inhabited α] (E : EncC α)
omit [Inhabited α] in
theorem celsE_length : ∀ L : List α, (celsE E L).length = L.length * E.k
  | [] => by simp [celsE]
  | x :: r => by simp [celsE, E.len, celsE_length r, Nat.add_mul]; omega
omit [Inhabited α] in
theorem celsE_append : ∀ L M : List α, celsE E (L ++ M) = celsE E L ++ celsE E M
  | [], M => rfl
  | x :: r, M => by simp [celsE, celsE_append r M]
theorem celsE_getD : ∀ (L : List α) (j o : Nat), j < L.length → o < E.k → (celsE E L).getD (j * E.k + o) default = (E.cels (L.getD j default)).getD o default
  | x :: r, 0, o, _, ho => by
    rw [celsE, Nat.zero_mul, Nat.zero_add]
    simp only [List.getD]
    rw [List.getElem?_append_left (by rw [E.len]; exact ho)]; rfl
  | x :: r, j + 1, o, h, ho => by
    have h1 := celsE_getD r j o (by simpa using h) ho
    rw [celsE]
    simp only [List.getD] at h1 ⊢
    rw [List.getElem?_append_right (by rw [E.len, Nat.add_mul]; omega), E.len, show (j + 1) * E.k + o - E.k = j * E.k + o by rw [Nat.add_mul]; omega]
    exact h1
omit [Inhabited α] in
theorem celsE_take : ∀ (L : List α) (j : Nat), (celsE E L).take (j * E.k) = celsE E (L.take j)
  | [], j => by simp [celsE]
  | x :: r, 0 => by simp [celsE]
  | x :: r, j + 1 => by
    rw [celsE, List.take_append, List.take_of_length_le (by rw [E.len, Nat.add_mul]; omega), E.len, show (j + 1) * E.k - E.k = j * E.k by rw [Nat.add_mul]; omega, celsE_take r j]
    rfl
theorem celsE_next {L : List α} {j : Nat} (hj : j < L.length) : celsE E (L.take (j + 1)) = celsE E (L.take j) ++ E.cels (L.getD j default) := by
  rw [List.take_succ_eq_append_getElem hj, celsE_append, celsE, celsE, List.append_nil]
  simp [List.getD, hj]
theorem celsE_in {L : List α} {j o : Nat} (hj : j < L.length) (ho : o ≤ E.k) : (celsE E L).take (j * E.k + o) = celsE E (L.take j) ++ (E.cels (L.getD j default)).take o := by
  have h1 : (celsE E L).take (j * E.k + o) = ((celsE E L).take ((j + 1) * E.k)).take (j * E.k + o) := by
    rw [List.take_take, Nat.min_eq_left (by rw [Nat.add_mul]; omega)]
  have h2 : (celsE E (L.take j)).length = j * E.k := by rw [celsE_length, List.length_take, Nat.min_eq_left (by omega)]
  rw [h1, celsE_take, celsE_next E hj, List.take_append, h2, List.take_of_length_le (by omega)]
  congr 2
  omega
end

/-! Measured. -/
mutual
def Cel.sz : Cel → Nat
  | .val (.string b) => b.size
  | .val _ => 0
  | .sl _ _ n cs => n + szL cs
def szL : List Cel → Nat
  | [] => 0
  | c :: cs => c.sz + szL cs
end
mutual
def Cel.Ty : Cel → Prop
  | .val (.string b) => b.size ≤ maxLen
  | .val (.int .i64 z) => -9223372036854775808 ≤ z ∧ z ≤ 9223372036854775807
  | .val _ => True
  | .sl _ _ n cs => n ≤ 9223372036854775807 ∧ TyL cs
def TyL : List Cel → Prop
  | [] => True
  | c :: cs => c.Ty ∧ TyL cs
end
theorem szL_append : ∀ (a b : List Cel), szL (a ++ b) = szL a + szL b
  | [], b => by rw [List.nil_append, szL, Nat.zero_add]
  | c :: a, b => by rw [List.cons_append, szL, szL, szL_append a b, Nat.add_assoc]
theorem TyL_append : ∀ (a b : List Cel), TyL (a ++ b) ↔ TyL a ∧ TyL b
  | [], b => by simp [TyL]
  | c :: a, b => by rw [List.cons_append, TyL, TyL, TyL_append a b, and_assoc]
theorem TyL_at {α : Type} [Inhabited α] (E : EncC α) : ∀ (L : List α) (j : Nat), TyL (celsE E L) → j < L.length → TyL (E.cels (L.getD j default))
  | x :: r, 0, h, _ => ((TyL_append _ _).1 (by exact h)).1
  | x :: r, j + 1, h, hj => TyL_at E r j ((TyL_append _ _).1 (by exact h)).2 (by simpa using hj)
theorem szL_at {α : Type} [Inhabited α] (E : EncC α) : ∀ (L : List α) (j : Nat), j < L.length → szL (E.cels (L.getD j default)) ≤ szL (celsE E L)
  | x :: r, 0, _ => by rw [celsE, szL_append]; exact Nat.le_add_right _ _
  | x :: r, j + 1, hj => by
    have := szL_at E r j (by simpa using hj)
    rw [celsE, szL_append]
    exact Nat.le_trans this (Nat.le_add_left _ _)
theorem szL_take {α : Type} (E : EncC α) (L : List α) (j : Nat) : szL (celsE E (L.take j)) ≤ szL (celsE E L) := by
  conv => rhs; rw [← List.take_append_drop j L, celsE_append, szL_append]
  exact Nat.le_add_right _ _
theorem szL_next {α : Type} [Inhabited α] (E : EncC α) {L : List α} {j : Nat} (hj : j < L.length) : szL (celsE E (L.take (j + 1))) = szL (celsE E (L.take j)) + szL (E.cels (L.getD j default)) := by rw [celsE_next E hj, szL_append]
def SzPost (z : Nat) (l : Int) (w : World) (e : Ending) (w' : World) : Prop := ∃ r : Int, e = .returned (.int .i64 r) ∧ (r < 0 ∨ (0 ≤ r ∧ r + (z : Int) = l)) ∧ Below w.heap.size w w'

/-! Read. -/
theorem Cel.Rd.cap {w : World} {e e' k n : Nat} {cs : List Cel} {a : Option Addr} {m c c' : Nat} (h : (Cel.sl e k n cs).Rd w (.slice a m c)) : m = n ∧ (Cel.sl e' k n cs).Rd w (.slice a n c') := by
  obtain ⟨hl, a1, c1, vs, hv, hr, h1⟩ := h
  cases hv
  exact ⟨rfl, hl, a, c', vs, rfl, hr, h1⟩
theorem row_form {α : Type} {E : EncC α} {w : World} {L : List α} {v : Value} (h : (celRow E L).Rd w v) : ∃ a n c, v = .slice a n c ∧ L.length = n := by
  obtain ⟨hl, a1, c1, vs, hv, hr, h1⟩ := h
  exact ⟨a1, L.length, c1, hv, rfl⟩
theorem row_at {α : Type} [Inhabited α] {E : EncC α} {w : World} {L : List α} {a : Option Addr} {n c : Nat} (h : (celRow E L).Rd w (.slice a n c)) (_ : 0 < E.k) (j : Nat) (hj : j < n) :
    ∃ g off vs, a = some ⟨g, off, none⟩ ∧ g < w.heap.size ∧ RdL w (E.cels (L.getD j default)) vs ∧ ∀ (o : Nat) (u : Value), vs[o]? = some u → w.cell? ⟨g, off + j * E.k + o, none⟩ = some u := by
  obtain ⟨hl, a1, c1, vs, hv, hr, h1⟩ := h
  cases hv
  have hm : (j + 1) * E.k ≤ L.length * E.k := Nat.mul_le_mul_right _ hj
  rw [Nat.add_mul, Nat.one_mul] at hm
  rcases h1 with h0 | ⟨g, off, ha, hg, hc⟩
  · omega
  refine ⟨g, off, (vs.drop (j * E.k)).take E.k, ha, hg, ?_, fun o u hu => ?_⟩
  · have key : ∀ (M : List α) (us : List Value) (i : Nat), RdL w (celsE E M) us → i < M.length → RdL w (E.cels (M.getD i default)) ((us.drop (i * E.k)).take E.k) := by
      intro M
      induction M with
      | nil => intro us i _ hi; exact absurd hi (Nat.not_lt_zero _)
      | cons x r ih =>
        have split : ∀ (A B : List Cel) (us : List Value), RdL w (A ++ B) us → RdL w A (us.take A.length) ∧ RdL w B (us.drop A.length) := by
          intro A
          induction A with
          | nil => intro B us h; exact ⟨rfl, h⟩
          | cons d A ihA =>
            intro B us h
            obtain ⟨v, s, rfl, h1, h2⟩ := h
            obtain ⟨p, q⟩ := ihA B s h2
            exact ⟨⟨v, s.take A.length, rfl, h1, p⟩, q⟩
        intro us i h hi
        obtain ⟨p, q⟩ := split (E.cels x) (celsE E r) us h
        rw [E.len] at p q
        cases i with
        | zero => rw [Nat.zero_mul, List.drop_zero]; exact p
        | succ i =>
          have := ih (us.drop E.k) i q (by simpa using hi)
          rw [List.drop_drop] at this
          rw [show (i + 1) * E.k = E.k + i * E.k by rw [Nat.add_mul]; omega]
          exact this
    exact key L vs j hr hj
  · rw [List.getElem?_take] at hu
    split at hu
    · rw [List.getElem?_drop] at hu
      rw [Nat.add_assoc]
      exact hc _ u hu
    · cases hu

/-! Owned, between two block numbers. -/
def Objs (w : World) (lo hi : Nat) (cs : List Cel) (vs : List Value) : Prop := ∃ F, F.Nodup ∧ (∀ g ∈ F, lo ≤ g ∧ g < hi) ∧ OwnL w cs F vs
def Obj1 (w : World) (lo hi : Nat) (c : Cel) (v : Value) : Prop := ∃ F, F.Nodup ∧ (∀ g ∈ F, lo ≤ g ∧ g < hi) ∧ c.Own w F v
section
variable {w w' : World} {lo hi : Nat} {cs : List Cel} {vs : List Value} {c : Cel} {v : Value}
theorem Objs.mono {lo' hi' : Nat} (h : Objs w lo hi cs vs) (h1 : lo' ≤ lo) (h2 : hi ≤ hi') : Objs w lo' hi' cs vs := by
  obtain ⟨F, hn, hb, ho⟩ := h
  exact ⟨F, hn, fun g hg => by have := hb g hg; omega, ho⟩
theorem Obj1.mono {lo' hi' : Nat} (h : Obj1 w lo hi c v) (h1 : lo' ≤ lo) (h2 : hi ≤ hi') : Obj1 w lo' hi' c v := by
  obtain ⟨F, hn, hb, ho⟩ := h
  exact ⟨F, hn, fun g hg => by have := hb g hg; omega, ho⟩
theorem Objs.kept (h : Objs w lo hi cs vs) (hk : ∀ g, lo ≤ g → g < hi → w'.heap[g]? = w.heap[g]?) : Objs w' lo hi cs vs := by
  obtain ⟨F, hn, hb, ho⟩ := h
  exact ⟨F, hn, hb, OwnL.kept _ _ _ (fun g hg => hk g (hb g hg).1 (hb g hg).2) ho⟩
theorem Obj1.kept (h : Obj1 w lo hi c v) (hk : ∀ g, lo ≤ g → g < hi → w'.heap[g]? = w.heap[g]?) : Obj1 w' lo hi c v := by
  obtain ⟨F, hn, hb, ho⟩ := h
  exact ⟨F, hn, hb, Cel.Own.kept _ _ _ (fun g hg => hk g (hb g hg).1 (hb g hg).2) ho⟩
theorem Objs.later (h : Objs w lo hi cs vs) (hb : Below w.heap.size w w') : Objs w' lo hi cs vs := by
  obtain ⟨F, hn, hb', ho⟩ := h
  exact ⟨F, hn, hb', OwnL.kept _ _ _ (fun g hg => hb.block g (OwnL.lt _ _ _ ho g hg)) ho⟩
theorem Obj1.later (h : Obj1 w lo hi c v) (hb : Below w.heap.size w w') : Obj1 w' lo hi c v := by
  obtain ⟨F, hn, hb', ho⟩ := h
  exact ⟨F, hn, hb', Cel.Own.kept _ _ _ (fun g hg => hb.block g (Cel.Own.lt _ _ _ ho g hg)) ho⟩
theorem Objs.rd (h : Objs w lo hi cs vs) : RdL w cs vs := by
  obtain ⟨F, _, _, ho⟩ := h
  exact OwnL.rd _ _ _ ho
theorem Obj1.rd (h : Obj1 w lo hi c v) : c.Rd w v := by
  obtain ⟨F, _, _, ho⟩ := h
  exact Cel.Own.rd _ _ _ ho
theorem Objs.nil (w : World) (lo hi : Nat) : Objs w lo hi [] [] := ⟨[], List.nodup_nil, fun g hg => (by cases hg), rfl, rfl⟩
theorem Objs.val (h : Objs w lo hi cs vs) (x : Value) : Objs w lo hi (.val x :: cs) (x :: vs) := by
  obtain ⟨F, hn, hb, ho⟩ := h
  exact ⟨F, hn, hb, x, vs, [], F, rfl, rfl, ⟨rfl, rfl⟩, ho⟩
theorem Objs.cons {mid mid' : Nat} (h1 : Obj1 w lo mid c v) (h2 : Objs w mid' hi cs vs) (hm : mid ≤ mid') (hl : lo ≤ mid') (hh : mid ≤ hi) : Objs w lo hi (c :: cs) (v :: vs) := by
  obtain ⟨F, hn, hb, ho⟩ := h1
  obtain ⟨G, hn', hb', ho'⟩ := h2
  refine ⟨F ++ G, List.nodup_append.2 ⟨hn, hn', fun a ha b hb2 e => ?_⟩, fun g hg => ?_, v, vs, F, G, rfl, rfl, ho, ho'⟩
  · have := hb a ha; have := hb' b hb2; omega
  · rcases List.mem_append.1 hg with hg | hg
    · have := hb g hg; omega
    · have := hb' g hg; omega
theorem Objs.one (h : Obj1 w lo hi c v) : Objs w lo hi [c] [v] := by
  obtain ⟨F, hn, hb, ho⟩ := h
  exact ⟨F, hn, hb, v, [], F, [], rfl, by simp, ho, rfl, rfl⟩
end
/-- Two slices in blocks of their own, in whatever order. -/
theorem obj_two {w : World} {a b lo hi : Nat} {c d : Cel} {v u : Value} (h1 : Obj1 w a (a + 1) c v) (h2 : Obj1 w b (b + 1) d u) (hne : a ≠ b) (ha : lo ≤ a ∧ a < hi) (hb : lo ≤ b ∧ b < hi) : Objs w lo hi [c, d] [v, u] := by
  obtain ⟨F, hn, hF, ho⟩ := h1
  obtain ⟨G, hn', hG, ho'⟩ := h2
  refine ⟨F ++ (G ++ []), ?_, ?_, v, [u], F, G ++ [], rfl, rfl, ho, u, [], G, [], rfl, rfl, ho', rfl, rfl⟩
  · rw [List.append_nil]
    exact List.nodup_append.2 ⟨hn, hn', fun x hx y hy e => by have := hF x hx; have := hG y hy; omega⟩
  · intro g hg
    rw [List.append_nil] at hg
    rcases List.mem_append.1 hg with hg | hg
    · have := hF g hg; omega
    · have := hG g hg; omega
theorem OwnL.append {w : World} : ∀ (A B : List Cel) (F G : List Nat) (us vs : List Value), OwnL w A F us → OwnL w B G vs → OwnL w (A ++ B) (F ++ G) (us ++ vs)
  | [], _, _, _, _, _, ⟨hF, hv⟩, h => by rw [hF, hv]; exact h
  | c :: A, B, _, G, _, vs, ⟨v, r, G1, H1, hv, hF, h1, h2⟩, h => by
    rw [hF, hv]
    exact ⟨v, r ++ vs, G1, H1 ++ G, rfl, by rw [List.append_assoc], h1, OwnL.append A B H1 G r vs h2 h⟩
/-- A row of the call's own whose cells own what they hold. -/
theorem own_of_row {w : World} {B e k n : Nat} {v : Value} {xs : List Value} {cs : List Cel} {G : List Nat} (ho : w.ownsRow B e k v n xs) (hl : cs.length = n * k) (hG : OwnL w cs G xs) :
    ∃ F, (Cel.sl e k n cs).Own w F v ∧ F = v.ownBlock.toList ++ G := by
  rcases ho.2 with ⟨rfl, rfl⟩ | ⟨g, cap, cur, rfl, hB, hg, hn, hm, hs, ht⟩
  · obtain rfl : cs = [] := List.length_eq_zero_iff.1 (by rw [hl, Nat.zero_mul])
    obtain ⟨rfl, _⟩ := hG
    exact ⟨[], ⟨hl, none, 0, rfl, Nat.le_refl _, by decide, .inl ⟨rfl, rfl⟩⟩, rfl⟩
  · refine ⟨g :: G, ⟨hl, _, cap, rfl, hn, hm, .inr ⟨g, cur, G, rfl, rfl, hg, by rw [hs]; exact Nat.mul_le_mul_right _ hn, by rw [ht]; exact hG⟩⟩, rfl⟩
theorem obj_of_row {w : World} {B e k n lo hi : Nat} {v : Value} {xs : List Value} {cs : List Cel} {G : List Nat} (ho : w.ownsRow B e k v n xs) (hl : cs.length = n * k) (hG : OwnL w cs G xs) (hn : G.Nodup)
    (hb : ∀ g ∈ G, lo ≤ g ∧ g < hi) (hv : ∀ g, v.ownBlock = some g → g ∉ G ∧ lo ≤ g ∧ g < hi) : Obj1 w lo hi (.sl e k n cs) v := by
  obtain ⟨F, h1, rfl⟩ := own_of_row ho hl hG
  refine ⟨_, ?_, ?_, h1⟩
  · cases hq : v.ownBlock with
    | none => simpa using hn
    | some q => simp only [Option.toList, List.cons_append, List.nil_append, List.nodup_cons]; exact ⟨(hv q hq).1, hn⟩
  · intro g hg
    cases hq : v.ownBlock with
    | none => rw [hq] at hg; exact hb g (by simpa using hg)
    | some q =>
      rw [hq] at hg
      simp only [Option.toList, List.cons_append, List.nil_append, List.mem_cons] at hg
      rcases hg with rfl | hg
      · exact (hv _ hq).2
      · exact hb g hg
/-- A copy under way: the first elements lie there and own what they hold. -/
structure Part2 {α : Type} (E : EncC α) (L : List α) (w : World) (g n k : Nat) : Prop where
  ex : ∃ xs G, w.ownsRow g E.e E.k (.slice (some ⟨g, 0, none⟩) n n) n xs ∧ OwnL w (celsE E (L.take k)) G (xs.take (k * E.k)) ∧ G.Nodup ∧ ∀ h ∈ G, g < h ∧ h < w.heap.size
theorem setsL_take : ∀ (vs xs : List Value) (o : Nat), o + vs.length ≤ xs.length → (setsL xs o vs).take (o + vs.length) = xs.take o ++ vs := by
  intro vs xs o h
  apply List.ext_getElem?
  intro j
  by_cases hj : j < o + vs.length
  · rw [List.getElem?_take_of_lt hj]
    by_cases hj0 : j < o
    · rw [setsL_out _ _ _ _ (.inl hj0), List.getElem?_append_left (by rw [List.length_take]; omega), List.getElem?_take_of_lt hj0]
    · obtain ⟨t, rfl⟩ : ∃ t, j = o + t := ⟨j - o, by omega⟩
      rw [setsL_in _ _ _ _ (by omega) h, List.getElem?_append_right (by rw [List.length_take]; omega), List.length_take, Nat.min_eq_left (by omega), Nat.add_sub_cancel_left]
  · rw [List.getElem?_eq_none (by rw [List.length_take]; omega), List.getElem?_eq_none (by rw [List.length_append, List.length_take]; omega)]
theorem Part2.start {α : Type} {E : EncC α} {L : List α} {w : World} {g n : Nat} {xs : List Value} (h : w.ownsRow g E.e E.k (.slice (some ⟨g, 0, none⟩) n n) n xs) : Part2 E L w g n 0 :=
  ⟨xs, [], h, by rw [List.take_zero, Nat.zero_mul, List.take_zero]; exact ⟨rfl, rfl⟩, List.nodup_nil, fun _ hh => by cases hh⟩
theorem Part2.later {α : Type} {E : EncC α} {L : List α} {w w' : World} {g n k : Nat} (h : Part2 E L w g n k) (hb : Below w.heap.size w w') : Part2 E L w' g n k := by
  obtain ⟨xs, G, h1, h2, h3, h4⟩ := h.ex
  exact ⟨xs, G, own_below h1 hb, OwnL.kept _ _ _ (fun q hq => hb.block q (h4 q hq).2) h2, h3, fun q hq => ⟨(h4 q hq).1, Nat.lt_of_lt_of_le (h4 q hq).2 hb.size⟩⟩
theorem heap_setCells_ne {q g : Nat} (hq : q ≠ g) : ∀ (vs : List Value) (w : World) (o : Nat), (w.setCells g o vs).heap[q]? = w.heap[q]?
  | [], _, _ => rfl
  | v :: r, w, o => by rw [World.setCells, heap_setCells_ne hq r, Below.heap_setCell _ _ _ _ (by exact hq)]
theorem size_setCells {g : Nat} : ∀ (vs : List Value) (w : World) (o : Nat), (w.setCells g o vs).heap.size = w.heap.size
  | [], _, _ => rfl
  | v :: r, w, o => by rw [World.setCells, size_setCells r]; simp [World.setCell]
theorem Part2.next {α : Type} [Inhabited α] {E : EncC α} {L : List α} {w w1 : World} {g n k hi : Nat} {vs : List Value} (h : Part2 E L w g n k) (hn : L.length = n) (hk : k < n) (hb : Below w.heap.size w w1)
    (ho : Objs w1 w.heap.size hi (E.cels (L.getD k default)) vs) : Part2 E L (w1.setCells g (k * E.k) vs) g n (k + 1) := by
  obtain ⟨xs, G, h1, h2, h3, h4⟩ := h.ex
  obtain ⟨F, hF, hr, hO⟩ := ho
  have hl : vs.length = E.k := by rw [OwnL.length _ _ _ hO, E.len]
  have h1' := own_below h1 hb
  have hg : g < w.heap.size := ownE_lt h1
  have hm : (k + 1) * E.k ≤ n * E.k := Nat.mul_le_mul_right _ hk
  rw [Nat.add_mul, Nat.one_mul] at hm
  have hne : ∀ q ∈ G ++ F, q ≠ g := by
    intro q hq
    rcases List.mem_append.1 hq with hq | hq
    · have := h4 q hq; omega
    · have := hr q hq; omega
  refine ⟨_, G ++ F, own_sets vs (k * E.k) h1', ?_, ?_, ?_⟩
  · rw [celsE_next E (by omega), show (k + 1) * E.k = k * E.k + vs.length by rw [hl, Nat.add_mul, Nat.one_mul], setsL_take _ _ _ (by rw [hl, h1.1]; exact hm)]
    refine OwnL.append _ _ _ _ _ _ ?_ ?_
    · exact OwnL.kept _ _ _ (fun q hq => by rw [heap_setCells_ne (hne q (List.mem_append_left _ hq))]; exact hb.block q (h4 q hq).2) h2
    · exact OwnL.kept _ _ _ (fun q hq => heap_setCells_ne (hne q (List.mem_append_right _ hq)) _ _ _) hO
  · exact List.nodup_append.2 ⟨h3, hF, fun a ha b hb2 e => by have := h4 a ha; have := hr b hb2; omega⟩
  · intro q hq
    rw [size_setCells]
    rcases List.mem_append.1 hq with hq | hq
    · have := h4 q hq; have := hb.size; omega
    · have := hr q hq; have := OwnL.lt _ _ _ hO q hq; omega
theorem Part2.done {α : Type} {E : EncC α} {L : List α} {w : World} {g n : Nat} (h : Part2 E L w g n n) (hn : L.length = n) : Obj1 w g w.heap.size (celRow E L) (.slice (some ⟨g, 0, none⟩) n n) := by
  obtain ⟨xs, G, h1, h2, h3, h4⟩ := h.ex
  rw [List.take_of_length_le (by omega), List.take_of_length_le (by rw [h1.1]; omega)] at h2
  unfold celRow
  rw [hn]
  exact obj_of_row h1 (by rw [celsE_length, hn]) h2 h3 (fun q hq => by have := h4 q hq; omega) (fun q hq => by
    have e : g = q := Option.some.inj hq
    have := ownE_lt h1
    exact ⟨fun hh => by have := h4 q hh; omega, by omega, by omega⟩)
def ToPost (c : Cel) (w : World) (e : Ending) (w' : World) : Prop := ∃ v, e = .returned v ∧ Obj1 w' w.heap.size w'.heap.size c v ∧ Below w.heap.size w w'
def ToPostS (cs : List Cel) (w : World) (e : Ending) (w' : World) : Prop := ∃ vs : List Value, e = .returned (.agg ⟨vs⟩) ∧ Objs w' w.heap.size w'.heap.size cs vs ∧ Below w.heap.size w w'

/-! Marked. -/
def MarkPost (c : Cel) (F : List Nat) (v : Value) (k : Nat) (w : World) (e : Ending) (w' : World) : Prop :=
  e = .returned (.int .i64 ((k + c.cnt : Nat) : Int)) ∧ OutF F w w' ∧ (c.mk k).Own w' F v
theorem own_set_same {w : World} {e k n : Nat} {cs : List Cel} {F : List Nat} {v : Value} {j : Nat} (h : (Cel.sl e k n cs).Own w F v) (hc : cs.set j (cs.getD j default) = cs) : (Cel.sl e k n (cs.set j (cs.getD j default))).Own w F v := by rw [hc]; exact h
/-- A plain place marked. -/
theorem mark_val {w : World} {e K n c i k : Nat} {cs : List Cel} {a : Option Addr} {F : List Nat} {y : Value} (h : (Cel.sl e K n (stM cs k i)).Own w F (.slice a n c)) (hF : F.Nodup) (hi : i < n * K) (hl : cs.length = n * K) (hy : cs.getD i default = .val y) :
    ∃ g, a = some ⟨g, 0, none⟩ ∧ g ∈ F ∧ (∃ u, w.cell? ⟨g, i, none⟩ = some u) ∧ w.frozen? ⟨g, i, none⟩ = false ∧
      (Cel.sl e K n (stM cs k (i + 1))).Own (w.setCell ⟨g, i, none⟩ (markV y (atM cs k i))) F (.slice a n c) ∧ OutF F w (w.setCell ⟨g, i, none⟩ (markV y (atM cs k i))) := by
  obtain ⟨g, G, u, ha, hg, _, _, _, hc, hz, _, _, hv⟩ := Cel.Own.sub h hF i hi
  have hget : (stM cs k i).getD i default = .val y := by rw [stM_getD (by omega) (Nat.le_refl _), hy]
  obtain ⟨h1, h2⟩ := hv y hget (markV y (atM cs k i))
  have e1 := stM_next (cs := cs) (k := k) (j := i) (by omega)
  rw [hy] at e1
  rw [show Cel.mk (.val y) (atM cs k i) = .val (markV y (atM cs k i)) from rfl] at e1
  rw [e1] at h1
  exact ⟨g, ha, hg, ⟨u, hc⟩, hz, h1, h2⟩
/-- A slice within marked. -/
theorem mark_sub {w : World} {e K n c i k : Nat} {cs : List Cel} {a : Option Addr} {F : List Nat} (h : (Cel.sl e K n (stM cs k i)).Own w F (.slice a n c)) (hF : F.Nodup) (hi : i < n * K) (hl : cs.length = n * K) :
    ∃ g G u, a = some ⟨g, 0, none⟩ ∧ G.Nodup ∧ w.cell? ⟨g, i, none⟩ = some u ∧ (cs.getD i default).Own w G u ∧
      ∀ w', OutF G w w' → ((cs.getD i default).mk (atM cs k i)).Own w' G u → (Cel.sl e K n (stM cs k (i + 1))).Own w' F (.slice a n c) ∧ OutF F w w' := by
  obtain ⟨g, G, u, ha, hg, hGF, _, hGn, hc, hz, ho, hk, _⟩ := Cel.Own.sub h hF i hi
  have hget : (stM cs k i).getD i default = cs.getD i default := stM_getD (by omega) (Nat.le_refl _)
  rw [hget] at ho
  refine ⟨g, G, u, ha, hGn, hc, ho, fun w' hO ho' => ⟨?_, hO.mono hGF⟩⟩
  have h1 := hk w' _ ho' hO
  rw [stM_next (by omega)] at h1
  exact h1
/-- The count at a place. -/
theorem atM_in {α : Type} [Inhabited α] (E : EncC α) {L : List α} {k j o : Nat} (hj : j < L.length) (ho : o ≤ E.k) : atM (celsE E L) k (j * E.k + o) = k + cntL (celsE E (L.take j)) + cntL ((E.cels (L.getD j default)).take o) := by
  unfold atM
  rw [celsE_in E hj ho, cntL_append, Nat.add_assoc]
theorem cntL_next {α : Type} [Inhabited α] (E : EncC α) {L : List α} {j : Nat} (hj : j < L.length) : cntL (celsE E (L.take (j + 1))) = cntL (celsE E (L.take j)) + cntL (E.cels (L.getD j default)) := by rw [celsE_next E hj, cntL_append]
theorem cntL_take {α : Type} (E : EncC α) (L : List α) (j : Nat) : cntL (celsE E (L.take j)) ≤ cntL (celsE E L) := by
  conv => rhs; rw [← List.take_append_drop j L, celsE_append, cntL_append]
  exact Nat.le_add_right _ _
/-- What is marked, read. -/
theorem rowM_at {α : Type} [Inhabited α] {E : EncC α} {w : World} {L : List α} {a : Option Addr} {n c k : Nat} (h : ((celRow E L).mk k).Rd w (.slice a n c)) (_ : 0 < E.k) (j : Nat) (hj : j < n) :
    ∃ g off vs, a = some ⟨g, off, none⟩ ∧ g < w.heap.size ∧ RdL w (mkL (E.cels (L.getD j default)) (k + cntL (celsE E (L.take j)))) vs ∧ ∀ (o : Nat) (u : Value), vs[o]? = some u → w.cell? ⟨g, off + j * E.k + o, none⟩ = some u := by
  obtain ⟨hl, a1, c1, vs, hv, hr, h1⟩ := h
  cases hv
  have hm : (j + 1) * E.k ≤ L.length * E.k := Nat.mul_le_mul_right _ hj
  rw [Nat.add_mul, Nat.one_mul] at hm
  rcases h1 with h0 | ⟨g, off, ha, hg, hc⟩
  · omega
  refine ⟨g, off, (vs.drop (j * E.k)).take E.k, ha, hg, ?_, fun o u hu => ?_⟩
  · have split : ∀ (A B : List Cel) (us : List Value), RdL w (A ++ B) us → RdL w A (us.take A.length) ∧ RdL w B (us.drop A.length) := by
      intro A
      induction A with
      | nil => intro B us h; exact ⟨rfl, h⟩
      | cons d A ihA =>
        intro B us h
        obtain ⟨v, s, rfl, h1, h2⟩ := h
        obtain ⟨p, q⟩ := ihA B s h2
        exact ⟨⟨v, s.take A.length, rfl, h1, p⟩, q⟩
    have e1 : celsE E L = celsE E (L.take j) ++ (E.cels (L.getD j default) ++ celsE E (L.drop (j + 1))) := by
      conv => lhs; rw [← List.take_append_drop (j + 1) L, celsE_append, celsE_next E hj]
      rw [List.append_assoc]
    have hr' : RdL w (mkL (celsE E L) k) vs := hr
    rw [e1, mkL_append, mkL_append] at hr'
    have h2 := (split _ _ _ hr').2
    rw [mkL_length, celsE_length, List.length_take, Nat.min_eq_left (by omega)] at h2
    have h3 := (split _ _ _ h2).1
    rw [mkL_length, E.len] at h3
    exact h3
  · rw [List.getElem?_take] at hu
    split at hu
    · rw [List.getElem?_drop] at hu
      rw [Nat.add_assoc]
      exact hc _ u hu
    · cases hu
/-! A struct alone: only its slices are marked. -/
def mkTop : List Cel → Nat → List Cel
  | [], _ => []
  | .val v :: cs, k => .val v :: mkTop cs k
  | .sl e s n c :: cs, k => (Cel.sl e s n c).mk k :: mkTop cs (k + (Cel.sl e s n c).cnt)
def cntTop : List Cel → Nat
  | [] => 0
  | .val _ :: cs => cntTop cs
  | .sl e s n c :: cs => (Cel.sl e s n c).cnt + cntTop cs
theorem own_nil {w : World} {F : List Nat} (h : OwnL w [] F []) : F = [] := h.1
theorem own_cons {w : World} {c : Cel} {cs : List Cel} {F : List Nat} {v : Value} {vs : List Value} (h : OwnL w (c :: cs) F (v :: vs)) : ∃ G H, F = G ++ H ∧ c.Own w G v ∧ OwnL w cs H vs := by
  obtain ⟨v', r', G, H, hv, hF, h1, h2⟩ := h
  cases hv
  exact ⟨G, H, hF, h1, h2⟩
theorem own_cons_val {w : World} {x : Value} {cs : List Cel} {F : List Nat} {v : Value} {vs : List Value} (h : OwnL w (.val x :: cs) F (v :: vs)) : OwnL w cs F vs := by
  obtain ⟨G, H, hF, ⟨hG, _⟩, h2⟩ := own_cons h
  subst hG
  rw [hF]
  exact h2
theorem rd_cons {w : World} {c : Cel} {cs : List Cel} {v : Value} {vs : List Value} (h : RdL w (c :: cs) (v :: vs)) : c.Rd w v ∧ RdL w cs vs := by
  obtain ⟨v', r', hv, h1, h2⟩ := h
  cases hv
  exact ⟨h1, h2⟩
/-- Blocks outside a range lie as they lay. -/
structure OutR (lo hi : Nat) (w w' : World) : Prop where
  os : w'.os = w.os
  tape : w'.tape = w.tape
  output : w'.output = w.output
  size : w.heap.size ≤ w'.heap.size
  block : ∀ g, (g < lo ∨ hi ≤ g) → g < w.heap.size → w'.heap[g]? = w.heap[g]?
theorem OutR.of {F : List Nat} {lo hi : Nat} {w w' : World} (h : OutF F w w') (hF : ∀ g ∈ F, lo ≤ g ∧ g < hi) : OutR lo hi w w' :=
  ⟨h.os, h.tape, h.output, h.size, fun g hg hl => h.block g (fun hh => by have := hF g hh; omega) hl⟩
theorem OutR.below {lo hi B : Nat} {w w' : World} (h : OutR lo hi w w') (h1 : B ≤ lo) (h2 : B ≤ w.heap.size) : Below B w w' :=
  ⟨h.os, h.tape, h.output, h.size, fun g hg => h.block g (by omega) (by omega)⟩
theorem Objs.out {w w' : World} {lo hi lo' hi' : Nat} {cs : List Cel} {vs : List Value} (h : Objs w lo hi cs vs) (ho : OutR lo' hi' w w') (hd : hi ≤ lo' ∨ hi' ≤ lo) : Objs w' lo hi cs vs := by
  obtain ⟨F, hn, hb, hO⟩ := h
  exact ⟨F, hn, hb, OwnL.kept _ _ _ (fun g hg => ho.block g (by have := hb g hg; omega) (OwnL.lt _ _ _ hO g hg)) hO⟩
theorem Obj1.out {w w' : World} {lo hi lo' hi' : Nat} {c : Cel} {v : Value} (h : Obj1 w lo hi c v) (ho : OutR lo' hi' w w') (hd : hi ≤ lo' ∨ hi' ≤ lo) : Obj1 w' lo hi c v := by
  obtain ⟨F, hn, hb, hO⟩ := h
  exact ⟨F, hn, hb, Cel.Own.kept _ _ _ (fun g hg => ho.block g (by have := hb g hg; omega) (Cel.Own.lt _ _ _ hO g hg)) hO⟩
theorem OutR.bk {w w' : World} {lo hi b : Nat} {cs : Array Value} {t : TypeId} (h : OutR lo hi w w') (hk : Bk w b cs t) (hd : b < lo ∨ hi ≤ b) : Bk w' b cs t := (h.block b hd hk.lt).trans hk
theorem sz_row' {α : Type} (E : EncC α) (L : List α) : (celRow E L).sz = L.length + szL (celsE E L) := rfl
theorem Cel.Rd.drew {w : World} {c : Cel} {v : Value} (h : c.Rd w v) : c.Rd w.drew v := Cel.Rd.later ((Below.refl _ _).drew) c v h
theorem rowK_form {α : Type} {E : EncC α} {w : World} {L : List α} {k : Nat} {v : Value} (h : ((celRow E L).mk k).Rd w v) : ∃ a n c, v = .slice a n c ∧ L.length = n := by
  obtain ⟨hl, a1, c1, vs, hv, hr, h1⟩ := h
  exact ⟨a1, L.length, c1, hv, rfl⟩
theorem mark3_eq {a b : Nat} {c : Int} (h : a = b) (hc : c = (b : Int)) : (a % 3 == 0) = (c % 3 == 0) := by
  subst h hc
  rw [Bool.eq_iff_iff]
  simp only [beq_iff_eq]
  omega
theorem own_vals {w : World} : ∀ xs : List Value, OwnL w (xs.map .val) [] xs
  | [] => ⟨rfl, rfl⟩
  | x :: r => ⟨x, r, [], [], rfl, rfl, ⟨rfl, rfl⟩, own_vals r⟩
end Go.Proofs.Ytkfkjcadmdcbnaa
