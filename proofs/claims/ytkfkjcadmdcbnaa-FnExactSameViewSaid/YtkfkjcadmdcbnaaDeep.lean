/- Nested rows: a tree of cells (a plain value, or a slice of n elements of k cells). -/
import Derived.Test.YtkfkjcadmdcbnaaMarkText
import Derived.Test.YtkfkjcadmdcbnaaBk
import Derived.OwnWalk
namespace Go.Proofs.Ytkfkjcadmdcbnaa
open Go.RowKit Go.Proofs.Ytkfkjcadmdcbnaa.Parts

inductive Cel where
  | val (v : Value)
  | sl (e : TypeId) (k n : Nat) (cs : List Cel)
instance : Inhabited Cel := ⟨.val undef⟩

/-! What reads as a tree. -/
mutual
def Cel.Rd (w : World) : Cel → Value → Prop
  | .val x, v => v = x
  | .sl _ k n cs, v => cs.length = n * k ∧ ∃ a c vs, v = .slice a n c ∧ RdL w cs vs ∧ (n = 0 ∨ ∃ g off, a = some ⟨g, off, none⟩ ∧ g < w.heap.size ∧ ∀ (j : Nat) (u : Value), vs[j]? = some u → w.cell? ⟨g, off + j, none⟩ = some u)
def RdL (w : World) : List Cel → List Value → Prop
  | [], vs => vs = []
  | c :: cs, vs => ∃ v r, vs = v :: r ∧ Cel.Rd w c v ∧ RdL w cs r
end

/-! What the call owns: F are its blocks. -/
mutual
def Cel.Own (w : World) : Cel → List Nat → Value → Prop
  | .val x, F, v => F = [] ∧ v = x
  | .sl e k n cs, F, v => cs.length = n * k ∧ ∃ a c, v = .slice a n c ∧ n ≤ c ∧ c ≤ maxLen ∧ ((n = 0 ∧ F = []) ∨ ∃ g cur G, a = some ⟨g, 0, none⟩ ∧ F = g :: G ∧ w.heap[g]? = some (.cells cur e (0, 0)) ∧ n * k ≤ cur.size ∧ OwnL w cs G (cur.toList.take (n * k)))
def OwnL (w : World) : List Cel → List Nat → List Value → Prop
  | [], F, vs => F = [] ∧ vs = []
  | c :: cs, F, vs => ∃ v r G H, vs = v :: r ∧ F = G ++ H ∧ Cel.Own w c G v ∧ OwnL w cs H r
end

section
variable {w w' : World}
mutual
theorem Cel.Rd.later (hb : Below w.heap.size w w') : ∀ (c : Cel) (v : Value), c.Rd w v → c.Rd w' v
  | .val _, _, h => h
  | .sl _ _ _ cs, _, ⟨hl, a, c, vs, hv, hr, h⟩ => ⟨hl, a, c, vs, hv, RdL.later hb cs vs hr, h.imp id fun ⟨g, off, ha, hg, hc⟩ => ⟨g, off, ha, Nat.lt_of_lt_of_le hg hb.size, fun j u hu => by rw [hb.cell (by exact hg)]; exact hc j u hu⟩⟩
theorem RdL.later (hb : Below w.heap.size w w') : ∀ (cs : List Cel) (vs : List Value), RdL w cs vs → RdL w' cs vs
  | [], _, h => h
  | c :: cs, _, ⟨v, r, hv, h1, h2⟩ => ⟨v, r, hv, Cel.Rd.later hb c v h1, RdL.later hb cs r h2⟩
end

mutual
theorem Cel.Own.kept : ∀ (c : Cel) (F : List Nat) (v : Value), (∀ g ∈ F, w'.heap[g]? = w.heap[g]?) → c.Own w F v → c.Own w' F v
  | .val _, _, _, _, h => h
  | .sl _ _ _ cs, F, _, hk, ⟨hl, a, c, hv, h1, h2, h⟩ => ⟨hl, a, c, hv, h1, h2, h.imp id fun ⟨g, cur, G, ha, hF, hg, hn, ho⟩ => ⟨g, cur, G, ha, hF, by rw [hk g (by rw [hF]; exact List.mem_cons_self)]; exact hg, hn, OwnL.kept cs G _ (fun h hh => hk h (by rw [hF]; exact List.mem_cons_of_mem _ hh)) ho⟩⟩
theorem OwnL.kept : ∀ (cs : List Cel) (F : List Nat) (vs : List Value), (∀ g ∈ F, w'.heap[g]? = w.heap[g]?) → OwnL w cs F vs → OwnL w' cs F vs
  | [], _, _, _, h => h
  | c :: cs, F, _, hk, ⟨v, r, G, H, hv, hF, h1, h2⟩ => ⟨v, r, G, H, hv, hF, Cel.Own.kept c G v (fun g hg => hk g (by rw [hF]; exact List.mem_append_left _ hg)) h1, OwnL.kept cs H r (fun g hg => hk g (by rw [hF]; exact List.mem_append_right _ hg)) h2⟩
end

mutual
theorem Cel.Own.lt : ∀ (c : Cel) (F : List Nat) (v : Value), c.Own w F v → ∀ g ∈ F, g < w.heap.size
  | .val _, _, _, ⟨hF, _⟩, g, hg => by rw [hF] at hg; cases hg
  | .sl _ _ _ cs, F, _, ⟨_, _, _, _, _, _, h⟩, g, hg => by
    rcases h with ⟨_, hF⟩ | ⟨b, cur, G, _, hF, hb, _, ho⟩
    · rw [hF] at hg; cases hg
    · rw [hF] at hg
      rcases List.mem_cons.1 hg with rfl | hg
      · exact (Array.getElem?_eq_some_iff.1 hb).1
      · exact OwnL.lt cs G _ ho g hg
theorem OwnL.lt : ∀ (cs : List Cel) (F : List Nat) (vs : List Value), OwnL w cs F vs → ∀ g ∈ F, g < w.heap.size
  | [], _, _, ⟨hF, _⟩, g, hg => by rw [hF] at hg; cases hg
  | c :: cs, F, _, ⟨v, r, G, H, _, hF, h1, h2⟩, g, hg => by
    rw [hF] at hg
    rcases List.mem_append.1 hg with hg | hg
    · exact Cel.Own.lt c G v h1 g hg
    · exact OwnL.lt cs H r h2 g hg
end

theorem RdL.length : ∀ (cs : List Cel) (vs : List Value), RdL w cs vs → vs.length = cs.length
  | [], _, h => by rw [show _ = [] from h]; rfl
  | _ :: cs, _, ⟨v, r, hv, _, h2⟩ => by rw [hv, List.length_cons, RdL.length cs r h2, List.length_cons]
theorem OwnL.length : ∀ (cs : List Cel) (F : List Nat) (vs : List Value), OwnL w cs F vs → vs.length = cs.length
  | [], _, _, ⟨_, h⟩ => by rw [h]; rfl
  | _ :: cs, _, _, ⟨v, r, _, H, hv, _, _, h2⟩ => by rw [hv, List.length_cons, OwnL.length cs H r h2, List.length_cons]

mutual
theorem Cel.Own.rd : ∀ (c : Cel) (F : List Nat) (v : Value), c.Own w F v → c.Rd w v
  | .val _, _, _, ⟨_, h⟩ => h
  | .sl _ k n cs, _, _, ⟨hl, a, c, hv, _, _, h⟩ => by
    rcases h with ⟨h0, _⟩ | ⟨g, cur, G, ha, hF, hg, hn, ho⟩
    · obtain rfl : cs = [] := List.length_eq_zero_iff.1 (by rw [hl, h0, Nat.zero_mul])
      exact ⟨hl, a, c, [], hv, rfl, .inl h0⟩
    · refine ⟨hl, a, c, _, hv, OwnL.rd cs G _ ho, .inr ⟨g, 0, ha, (Array.getElem?_eq_some_iff.1 hg).1, fun j u hu => ?_⟩⟩
      rw [List.getElem?_take] at hu
      split at hu
      · rw [Nat.zero_add]
        simp only [World.cell?, hg]
        simpa using hu
      · cases hu
theorem OwnL.rd : ∀ (cs : List Cel) (F : List Nat) (vs : List Value), OwnL w cs F vs → RdL w cs vs
  | [], _, _, ⟨_, h⟩ => h
  | c :: cs, _, _, ⟨v, r, G, H, hv, _, h1, h2⟩ => ⟨v, r, hv, Cel.Own.rd c G v h1, OwnL.rd cs H r h2⟩
end

theorem RdL.get : ∀ (cs : List Cel) (vs : List Value) (j : Nat), RdL w cs vs → j < cs.length → ∃ u, vs[j]? = some u ∧ (cs.getD j default).Rd w u
  | [], _, _, _, hj => absurd hj (Nat.not_lt_zero _)
  | c :: cs, _, 0, ⟨v, r, hv, h1, _⟩, _ => ⟨v, by rw [hv]; rfl, h1⟩
  | c :: cs, _, j + 1, ⟨v, r, hv, _, h2⟩, hj => by
    obtain ⟨u, hu, h⟩ := RdL.get cs r j h2 (by simpa using hj)
    exact ⟨u, by rw [hv]; exact hu, h⟩
/-- A place of a slice that reads as a tree. -/
theorem Cel.Rd.at {e k n c : Nat} {a : Option Addr} {cs : List Cel} (h : (Cel.sl e k n cs).Rd w (.slice a n c)) (j : Nat) (hj : j < n * k) :
    ∃ g off u, a = some ⟨g, off, none⟩ ∧ g < w.heap.size ∧ w.cell? ⟨g, off + j, none⟩ = some u ∧ (cs.getD j default).Rd w u := by
  obtain ⟨hl, a', c', vs, hv, hr, h⟩ := h
  cases hv
  rcases h with h0 | ⟨g, off, ha, hg, hc⟩
  · rw [h0, Nat.zero_mul] at hj; omega
  · obtain ⟨u, hu, h⟩ := RdL.get cs vs j hr (by omega)
    exact ⟨g, off, u, ha, hg, hc j u hu, h⟩

theorem OwnL.sub : ∀ (cs : List Cel) (F : List Nat) (vs : List Value) (j : Nat), OwnL w cs F vs → j < cs.length →
    ∃ P G Q u, F = P ++ (G ++ Q) ∧ vs[j]? = some u ∧ (cs.getD j default).Own w G u ∧
      ∀ (w' : World) (c' : Cel) (u' : Value), c'.Own w' G u' → (∀ h ∈ P, w'.heap[h]? = w.heap[h]?) → (∀ h ∈ Q, w'.heap[h]? = w.heap[h]?) → OwnL w' (cs.set j c') F (vs.set j u')
  | [], _, _, _, _, hj => absurd hj (Nat.not_lt_zero _)
  | c :: cs, F, _, 0, ⟨v, r, G, H, hv, hF, h1, h2⟩, _ => ⟨[], G, H, v, by rw [hF]; rfl, by rw [hv]; rfl, h1, fun w' c' u' ho _ hQ => by
      rw [hv]; exact ⟨u', r, G, H, rfl, hF, ho, OwnL.kept cs H r hQ h2⟩⟩
  | c :: cs, F, _, j + 1, ⟨v, r, G, H, hv, hF, h1, h2⟩, hj => by
    obtain ⟨P, G', Q, u, hH, hu, ho, hk⟩ := OwnL.sub cs H r j h2 (by simpa using hj)
    refine ⟨G ++ P, G', Q, u, by rw [hF, hH, List.append_assoc], by rw [hv]; exact hu, ho, fun w' c' u' ho' hP hQ => ?_⟩
    rw [hv]
    exact ⟨v, r.set j u', G, H, rfl, hF, Cel.Own.kept c G v (fun h hh => hP h (List.mem_append_left _ hh)) h1, hk w' c' u' ho' (fun h hh => hP h (List.mem_append_right _ hh)) hQ⟩

/-- Blocks outside F lie as they lay. -/
structure OutF (F : List Nat) (w w' : World) : Prop where
  os : w'.os = w.os
  tape : w'.tape = w.tape
  output : w'.output = w.output
  size : w.heap.size ≤ w'.heap.size
  block : ∀ g, g ∉ F → g < w.heap.size → w'.heap[g]? = w.heap[g]?
theorem OutF.refl (F : List Nat) (w : World) : OutF F w w := ⟨rfl, rfl, rfl, Nat.le_refl _, fun _ _ _ => rfl⟩
theorem OutF.trans {F : List Nat} {a b c : World} (h : OutF F a b) (h' : OutF F b c) : OutF F a c :=
  ⟨h'.os.trans h.os, h'.tape.trans h.tape, h'.output.trans h.output, Nat.le_trans h.size h'.size, fun g hg hl => (h'.block g hg (Nat.lt_of_lt_of_le hl h.size)).trans (h.block g hg hl)⟩
theorem OutF.mono {F G : List Nat} {a b : World} (h : OutF F a b) (hs : ∀ g ∈ F, g ∈ G) : OutF G a b := ⟨h.os, h.tape, h.output, h.size, fun g hg hl => h.block g (fun hh => hg (hs g hh)) hl⟩
theorem OutF.of_below {F : List Nat} {a b : World} (h : Below a.heap.size a b) : OutF F a b := ⟨h.os, h.tape, h.output, h.size, fun g _ hl => h.block g hl⟩
theorem OutF.below {F : List Nat} {B : Nat} {a b : World} (h : OutF F a b) (hF : ∀ g ∈ F, B ≤ g) (hB : B ≤ a.heap.size) : Below B a b := ⟨h.os, h.tape, h.output, h.size, fun g hg => h.block g (fun hh => by have := hF g hh; omega) (by omega)⟩

/-- The place j of a slice that the call owns: what lies there, and what becomes of the whole when it changes. -/
theorem Cel.Own.sub {e k n c : Nat} {a : Option Addr} {cs : List Cel} {F : List Nat} (h : (Cel.sl e k n cs).Own w F (.slice a n c)) (hF : F.Nodup) (j : Nat) (hj : j < n * k) :
    ∃ g G u, a = some ⟨g, 0, none⟩ ∧ g ∈ F ∧ (∀ x ∈ G, x ∈ F) ∧ g ∉ G ∧ G.Nodup ∧ w.cell? ⟨g, j, none⟩ = some u ∧ w.frozen? ⟨g, j, none⟩ = false ∧ (cs.getD j default).Own w G u ∧
      (∀ (w' : World) (c' : Cel), c'.Own w' G u → OutF G w w' → (Cel.sl e k n (cs.set j c')).Own w' F (.slice a n c)) ∧
      (∀ y, cs.getD j default = .val y → ∀ x, (Cel.sl e k n (cs.set j (.val x))).Own (w.setCell ⟨g, j, none⟩ x) F (.slice a n c) ∧ OutF F w (w.setCell ⟨g, j, none⟩ x)) := by
  have hlt := Cel.Own.lt _ _ _ h
  obtain ⟨hl, a', c', hv, hnc, hcm, h⟩ := h
  cases hv
  rcases h with ⟨h0, _⟩ | ⟨g, cur, G0, ha, hFG, hg, hn, ho⟩
  · rw [h0, Nat.zero_mul] at hj; omega
  obtain ⟨P, G, Q, u, hG0, hu, hou, hk⟩ := OwnL.sub cs G0 _ j ho (by omega)
  have hF0 := hF
  rw [hFG, List.nodup_cons, hG0] at hF
  obtain ⟨hgn, hnd⟩ := hF
  have hju : cur.toList[j]? = some u := by
    rw [List.getElem?_take, if_pos hj] at hu
    exact hu
  have hcell : w.cell? ⟨g, j, none⟩ = some u := by simp only [World.cell?, hg]; simpa using hju
  have hPG : ∀ x ∈ P, x ∉ G := fun x hx hx' => (List.nodup_append.1 hnd).2.2 x hx x (List.mem_append_left _ hx') rfl
  have hQG : ∀ x ∈ Q, x ∉ G := fun x hx hx' => (List.nodup_append.1 (List.nodup_append.1 hnd).2.1).2.2 x hx' x hx rfl
  have hGn : g ∉ G := fun hx => hgn (List.mem_append_right _ (List.mem_append_left _ hx))
  have hin : ∀ x ∈ P ++ (G ++ Q), x ∈ F := fun x hx => by rw [hFG, hG0]; exact List.mem_cons_of_mem _ hx
  refine ⟨g, G, u, ha, by rw [hFG]; exact List.mem_cons_self, fun x hx => hin x (List.mem_append_right _ (List.mem_append_left _ hx)), hGn, (List.nodup_append.1 (List.nodup_append.1 hnd).2.1).1, hcell, by simp [World.frozen?, hg], hou, ?_, ?_⟩
  · intro w1 c1 ho1 hout
    refine ⟨by rw [List.length_set]; exact hl, a, c, rfl, hnc, hcm, .inr ⟨g, cur, G0, ha, hFG, ?_, hn, ?_⟩⟩
    · rw [hout.block g hGn (hlt g (by rw [hFG]; exact List.mem_cons_self))]; exact hg
    · have h9 := hk w1 c1 u ho1 (fun x hx => hout.block x (hPG x hx) (hlt x (hin x (List.mem_append_left _ hx)))) (fun x hx => hout.block x (hQG x hx) (hlt x (hin x (List.mem_append_right _ (List.mem_append_right _ hx)))))
      have e9 : (cur.toList.take (n * k)).set j u = cur.toList.take (n * k) := by
        apply List.ext_getElem?
        intro i
        by_cases e : i = j
        · subst e
          rw [List.getElem?_set_self (by have := OwnL.length _ _ _ ho; rw [this]; omega), hu]
        · rw [List.getElem?_set_ne (fun x => e x.symm)]
      rw [e9] at h9
      exact h9
  · intro y hy x
    rw [hy] at hou
    obtain ⟨hGe, _⟩ := hou
    subst hGe
    have hset := heap_setCell_same w g j cur e x hg
    have hother : ∀ z, z ∈ P ++ ([] ++ Q) → (w.setCell ⟨g, j, none⟩ x).heap[z]? = w.heap[z]? := fun z hz => Below.heap_setCell _ _ _ _ (by show z ≠ g; exact fun e => hgn (by rw [← e]; exact hz))
    refine ⟨⟨by rw [List.length_set]; exact hl, a, c, rfl, hnc, hcm, .inr ⟨g, cur.setIfInBounds j x, G0, ha, hFG, hset, by rw [Array.size_setIfInBounds]; exact hn, ?_⟩⟩, ?_⟩
    · have h9 := hk (w.setCell ⟨g, j, none⟩ x) (.val x) x ⟨rfl, rfl⟩ (fun z hz => hother z (List.mem_append_left _ hz)) (fun z hz => hother z (List.mem_append_right _ hz))
      rw [Array.toList_setIfInBounds, List.take_set]
      exact h9
    · exact ⟨rfl, rfl, rfl, by simp [World.setCell], fun z hz _ => Below.heap_setCell _ _ _ _ (by show z ≠ g; exact fun e => hz (by rw [e, hFG]; exact List.mem_cons_self))⟩
end

/-! Marks, in the order of the cells. -/
mutual
def Cel.cnt : Cel → Nat
  | .val _ => 1
  | .sl _ _ _ cs => cntL cs
def cntL : List Cel → Nat
  | [] => 0
  | c :: cs => c.cnt + cntL cs
end
def markV : Value → Nat → Value
  | .int _ _, k => .int .i64 (k : Int)
  | .string _, k => .string (markT k)
  | .bool _, k => .bool (k % 3 == 0)
  | v, _ => v
mutual
def Cel.mk : Cel → Nat → Cel
  | .val v, k => .val (markV v k)
  | .sl e s n cs, k => .sl e s n (mkL cs k)
def mkL : List Cel → Nat → List Cel
  | [], _ => []
  | c :: cs, k => c.mk k :: mkL cs (k + c.cnt)
end
theorem mkL_length : ∀ (cs : List Cel) (k : Nat), (mkL cs k).length = cs.length
  | [], _ => rfl
  | _ :: cs, k => by rw [mkL, List.length_cons, mkL_length cs, List.length_cons]
theorem cntL_append : ∀ (a b : List Cel), cntL (a ++ b) = cntL a + cntL b
  | [], b => by rw [List.nil_append, cntL, Nat.zero_add]
  | c :: a, b => by rw [List.cons_append, cntL, cntL, cntL_append a b, Nat.add_assoc]
theorem mkL_append : ∀ (a b : List Cel) (k : Nat), mkL (a ++ b) k = mkL a k ++ mkL b (k + cntL a)
  | [], b, k => by rw [List.nil_append, mkL, cntL, Nat.add_zero, List.nil_append]
  | c :: a, b, k => by rw [List.cons_append, mkL, mkL, mkL_append a b, cntL, List.cons_append, Nat.add_assoc]
/-- The first j cells marked. -/
def stM (cs : List Cel) (k j : Nat) : List Cel := mkL (cs.take j) k ++ cs.drop j
def atM (cs : List Cel) (k j : Nat) : Nat := k + cntL (cs.take j)
theorem stM_zero (cs : List Cel) (k : Nat) : stM cs k 0 = cs := rfl
theorem stM_all (cs : List Cel) (k : Nat) {j : Nat} (h : cs.length ≤ j) : stM cs k j = mkL cs k := by
  unfold stM; rw [List.take_of_length_le h, List.drop_eq_nil_of_le h, List.append_nil]
theorem atM_zero (cs : List Cel) (k : Nat) : atM cs k 0 = k := rfl
theorem atM_all (cs : List Cel) (k : Nat) {j : Nat} (h : cs.length ≤ j) : atM cs k j = k + cntL cs := by unfold atM; rw [List.take_of_length_le h]
theorem getD_eq {cs : List Cel} {j : Nat} (h : j < cs.length) : cs.getD j default = cs[j] := by simp [List.getD, h]
theorem atM_next {cs : List Cel} {k j : Nat} (h : j < cs.length) : atM cs k (j + 1) = atM cs k j + (cs.getD j default).cnt := by
  unfold atM
  rw [List.take_succ_eq_append_getElem h, cntL_append, getD_eq h, cntL, cntL, Nat.add_zero, Nat.add_assoc]
theorem stM_getD {cs : List Cel} {k j i : Nat} (hi : i < cs.length) (hj : j ≤ i) : (stM cs k j).getD i default = cs.getD i default := by
  unfold stM
  simp only [List.getD]
  rw [List.getElem?_append_right (by rw [mkL_length, List.length_take]; omega), mkL_length, List.length_take, List.getElem?_drop]
  congr 2
  omega
theorem stM_next {cs : List Cel} {k j : Nat} (h : j < cs.length) : (stM cs k j).set j ((cs.getD j default).mk (atM cs k j)) = stM cs k (j + 1) := by
  have hl : (mkL (cs.take j) k).length = j := by rw [mkL_length, List.length_take]; omega
  unfold stM
  rw [List.take_succ_eq_append_getElem h, mkL_append, List.set_append_right _ _ (by omega), hl, Nat.sub_self, getD_eq h, List.drop_eq_getElem_cons h, List.set_cons_zero, List.append_assoc]
  rfl
theorem mkL_getD {cs : List Cel} {k j : Nat} (h : j < cs.length) : (mkL cs k).getD j default = (cs.getD j default).mk (atM cs k j) := by
  have h1 : mkL cs k = mkL (cs.take j) k ++ mkL (cs.drop j) (k + cntL (cs.take j)) := by rw [← mkL_append, List.take_append_drop]
  have hl : (mkL (cs.take j) k).length = j := by rw [mkL_length, List.length_take]; omega
  rw [h1, List.drop_eq_getElem_cons h, mkL]
  simp only [List.getD]
  rw [List.getElem?_append_right (by omega), hl, Nat.sub_self]
  simp [atM, h]
theorem atM_mono (cs : List Cel) (k j : Nat) : atM cs k j ≤ k + cntL cs := by
  have : cntL cs = cntL (cs.take j) + cntL (cs.drop j) := by rw [← cntL_append, List.take_append_drop]
  unfold atM; omega
end Go.Proofs.Ytkfkjcadmdcbnaa
