/- An append of a memory's cells; copies of slices of them. -/
import Derived.Test.YtlemlgadjapamaaMemNewLaw
import Derived.Maps.AppendAt
import Derived.Lib.AppendZeros
import Derived.Lib.SliceRun
namespace Go.Proofs.Ytlemlgadjapamaa
open Go.RowKit Go.Proofs.Ytlemlgadjapamaa.Parts Go.Proofs.Ytlemlgadjapamaa.Hexa

theorem SrcE.news {α : Type} [Inhabited α] {E : Enc α} {w : World} {p : Addr} {n : Nat} {L : List α} (h : SrcE E w (some p) n L) (hk0 : 0 < E.k) : ∀ j u, (cellsE E L)[j]? = some u → w.cell? (p.add j) = some u := by
  intro j u hu
  have hj : j < L.length * E.k := by
    rcases Nat.lt_or_ge j (L.length * E.k) with h | h
    · exact h
    · rw [List.getElem?_eq_none (by rw [cellsE_length]; exact h)] at hu; cases hu
  have hd : j = j / E.k * E.k + j % E.k := by rw [Nat.mul_comm]; exact (Nat.div_add_mod j E.k).symm
  have hq : j / E.k < L.length := (Nat.div_lt_iff_lt_mul hk0).2 hj
  have hr := Nat.mod_lt j hk0
  rw [hd, cellsE_at E L _ _ hq hr] at hu
  obtain ⟨g, off, e, _, c⟩ := h.cell (j / E.k) (by rw [← h.len]; exact hq)
  cases e
  have := c _ _ hu
  rw [Nat.add_assoc, ← hd] at this
  rw [Addr.add_lit]; exact this

/-- What an append gives: a slice that owns the cells, in the row that it had or in a new one. -/
def AppE (P : Program) (args : Array TypeId) (ty : TypeId) (vs : Array Value) (w : World) (B e k n : Nat) (xs : List Value) (v : Value) : Prop :=
  ∃ v' w', (Builtin.append_ args ty vs).run P w = .ok v' w' ∧ w'.ownsRow B e k v' n xs ∧ w.grownBy w' v.ownBlock ∧ (v'.ownBlock = v.ownBlock ∨ v'.ownBlock = some w.heap.size)

theorem run_append_nothing {P : Program} (w : World) (base : Nat) (t ty e : TypeId) (i : TypeInfo) (size : Nat) (ht : P.underlying t = some (.slice e)) (hi : P.info? e = some i)
    (v : Value) (n c : Nat) (xs : List Value) (hown : w.ownsRow base e size v n xs) :
    (Builtin.append_ #[t, t] ty #[v, .slice none 0 c]).run P w = .ok v w := by
  rcases hown.2 with ⟨rfl, rfl⟩ | ⟨g, cap, cur, rfl, _, _, hnc, _⟩
  · simp [Builtin.append_, run_underlying ht, sizeOf, typeInfo, hi, Builtin.lenOf, Builtin.firstCells]
  · simp [Builtin.append_, run_underlying ht, sizeOf, typeInfo, hi, Builtin.lenOf, Builtin.firstCells, hnc, storeCells]

/-- Cells appended to cells that the call owns. -/
theorem appC (w : World) (ty : TypeId) (B : Nat) (v : Value) (n : Nat) (L : List C3) (hown : w.ownsRow B 68 3 v n (cellsE encC L)) (hB : B ≤ w.heap.size) (a : Option Addr) (m c : Nat) (M : List C3) (hs : SrcC w a m M) (hnm : n + m ≤ 100000000) :
    AppE Try.prog #[24, 24] ty #[v, .slice a m c] w B 68 3 (n + m) (cellsE encC (L ++ M)) v := by
  obtain ⟨i0, hi, hz0, hz1, hz2⟩ := info_parts infoCell
  rw [cellsE_append]
  cases a with
  | none =>
    have hm0 : m = 0 := by
      rcases Nat.eq_zero_or_pos m with h | h
      · exact h
      · obtain ⟨g, off, e, _⟩ := hs.cell 0 h; cases e
    subst hm0
    have hM : M = [] := List.length_eq_zero_iff.1 hs.len
    subst hM
    exact ⟨v, w, run_append_nothing w B _ ty _ i0 3 Try.underlying24 hi v n c _ hown, by simpa [cellsE] using hown, ⟨rfl, rfl, rfl, Nat.le_refl _, fun _ _ _ => rfl⟩, .inl rfl⟩
  | some p =>
    obtain ⟨v', w', hr, h2, h3, _, h5⟩ := run_append_own_at (P := Try.prog) w B 24 ty 68 i0 _ 3 32 Try.underlying24 hi hz0 hz1 hz2 rfl (by decide) v n _ hown p m c (cellsE encC M) (by rw [cellsC_length, hs.len]) (hs.news (by decide)) (cellsC_one M) (by unfold maxLen; omega) (by omega) hB
    exact ⟨v', w', hr, h2, h3, h5⟩

theorem wpList_appE {P : Program} {ops : Array Oper} {rest : List Oper} {o : Oper} {a : Act} {w : World} {Q : Exit → Act → World → Prop} (hgd : o.guard = none) (s x : Operand) (t tn : TypeId)
    (ho : o.op = .call { callee := .builtin .append, args := #[s, x], argTypes := #[t, tn] }) (vs vx : Value) (hs : a.eval s = vs) (hx : a.eval x = vx) {B e k n : Nat} {xs : List Value}
    (hr : AppE P #[t, tn] o.type #[vs, vx] w B e k n xs vs) (h : ∀ v' w', w'.ownsRow B e k v' n xs → w.grownBy w' vs.ownBlock → (v'.ownBlock = vs.ownBlock ∨ v'.ownBlock = some w.heap.size) → wpList P ops Q rest (a.put o.dst v') w') : wpList P ops Q (o :: rest) a w := by
  obtain ⟨v', w', r, h1, h2, h3⟩ := hr
  exact Lib.wpList_append_run w hgd s x t tn ho vs vx hs hx v' w' r (h v' w' h1 h2 h3)
/-- At a step of a region that draws its order. -/
theorem step_appE {P : Program} {ops : Array Oper} {o : Oper} {a : Act} {w : World} {K : Act → World → Prop} {Q : Exit → Act → World → Prop} {E : Prop} (hgd : o.guard = none) (s x : Operand) (t tn : TypeId)
    (ho : o.op = .call { callee := .builtin .append, args := #[s, x], argTypes := #[t, tn] }) (vs vx : Value) (hs : a.eval s = vs) (hx : a.eval x = vx) {B e k n : Nat} {xs : List Value}
    (hr : AppE P #[t, tn] o.type #[vs, vx] w B e k n xs vs) (h : ∀ v' w', w'.ownsRow B e k v' n xs → w.grownBy w' vs.ownBlock → (v'.ownBlock = vs.ownBlock ∨ v'.ownBlock = some w.heap.size) → K (a.put o.dst v') w') :
    if Region.wanted o (yielded ops a.tmps) = true then Oper.wp P o a w K Q else E := by
  obtain ⟨v', w', r, h1, h2, h3⟩ := hr
  rw [if_pos (by simp [Region.wanted, hgd])]
  exact Lib.wp_append_run w s x t tn ho vs vx hs hx v' w' r (h v' w' h1 h2 h3)

theorem nilC (w : World) (B : Nat) : w.ownsRow B 68 3 (.slice none 0 0) 0 (cellsE encC []) := World.ownsRow_nil _ _ _ _
theorem emptyC (w : World) (B : Nat) (hB : B ≤ w.heap.size) : (w.alloc (.cells #[] 68)).ownsRow B 68 3 (.slice (some ⟨w.heap.size, 0, none⟩) 0 0) 0 (cellsE encC []) := World.ownsRow_lit w #[] 0 hB (by decide) rfl

/-- What a call gives that returns cells. -/
def GivesC (L : List C3) (w : World) (e : Ending) (w' : World) : Prop :=
  ∃ v, e = .returned v ∧ w'.ownsRow w.heap.size 68 3 v L.length (cellsE encC L) ∧ Below w.heap.size w w'
/-- What a call gives that returns a memory. -/
def GivesM (K : ByteArray) (L : List C3) (w : World) (e : Ending) (w' : World) : Prop :=
  ∃ v, e = .returned (.agg #[.string K, v]) ∧ w'.ownsRow w.heap.size 68 3 v L.length (cellsE encC L) ∧ Below w.heap.size w w'

set_option maxRecDepth 100000 in
set_option maxHeartbeats 1000000 in
theorem cloneC_any (a : Option Addr) (n c : Nat) (L : List C3) (w : World) (hs : SrcC w a n L) (hn : n ≤ 1048600) :
    Calls Try.prog 78 #[.slice a n c] w (GivesC L w) := by
  have hL := hs.len
  cases a with
  | none =>
    have hm0 : n = 0 := by
      rcases Nat.eq_zero_or_pos n with h | h
      · exact h
      · obtain ⟨g, off, e, _⟩ := hs.cell 0 h; cases e
    subst hm0
    have hM : L = [] := List.length_eq_zero_iff.1 hL
    subst hM
    have hq := Lib.run_eql_slice_nil (P := Try.prog) w 24 68 none 0 c 0 0 Try.underlying24
    clear hs hL
    go_enter Try.func78, Try.ntmps78
    go_wp2
    go_ret
    exact ⟨_, rfl, nilC _ _, Below.refl _ _⟩
  | some p =>
    have HA := Lib.hid (appC (w.alloc (.cells #[] 68)) 24 w.heap.size _ 0 [] (emptyC w w.heap.size (Nat.le_refl _)) (by simp) (some p) n c L (hs.later (below_alloc w (.cells #[] 68))) (by omega))
    rw [Nat.zero_add, List.nil_append] at HA
    have HL := Lib.hid hL
    clear hs hL
    obtain ⟨pb, po, ps⟩ := p
    have hq := Lib.run_eql_slice_nil (P := Try.prog) w 24 68 (some ⟨pb, po, ps⟩) n c 0 0 Try.underlying24
    go_enter Try.func78, Try.ntmps78
    go_wp2_with (at_builtin; refine wpList_appE rfl _ _ _ _ rfl _ _ rfl rfl HA.out ?_; intro v1 w1 hown1 hgrow1 hat1)
    have hb1 : Below w.heap.size w w1 := (below_alloc w (.cells #[] 68)).grown hgrow1 (by simp) (fun k hk => by cases hk; exact Nat.le_refl _)
    have H1 := Lib.hid hown1
    clear hown1 hgrow1 hat1
    go_wp2
    go_ret
    exact ⟨_, rfl, by rw [HL.out]; exact H1.out, hb1⟩
end Go.Proofs.Ytlemlgadjapamaa
