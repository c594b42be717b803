/- An int appended to ints that the call owns: what is kept besides. -/
import Derived.Test.YtmcelfiljnlmoaaIntsAt
import Derived.Maps.AppendAt
import Derived.Lib.AppendZeros
import Derived.Deep.AppendLies
namespace Go.Proofs.Ytmcelfiljnlmoaa
open Go.RowKit Go.Proofs.Ytmcelfiljnlmoaa.Parts Go.Proofs.Ytmcelfiljnlmoaa.Hexa

/-- What an append gives: a slice that owns the cells, in the row that it had or in a new one. -/
def AppG (P : Program) (args : Array TypeId) (ty : TypeId) (vs : Array Value) (w : World) (B e k n : Nat) (xs : List Value) (v : Value) : Prop :=
  ∃ v' w', (Builtin.append_ args ty vs).run P w = .ok v' w' ∧ w'.ownsRow B e k v' n xs ∧ w.grownBy w' v.ownBlock ∧ (v'.ownBlock = v.ownBlock ∨ v'.ownBlock = some w.heap.size)
theorem icells_append (L M : List Int) : icells (L ++ M) = icells L ++ icells M := by simp [icells]
theorem icells_one (L : List Int) : ∀ v ∈ icells L, v.oneCell' = true := by
  intro v hv
  simp only [icells, List.mem_map] at hv
  obtain ⟨x, _, rfl⟩ := hv
  rfl
/-- One int appended, in the block of the walk's own one-cell slice. -/
theorem appI (w : World) (ty : TypeId) (B : Nat) (v : Value) (n : Nat) (P : List Int) (hown : w.ownsRow B 3 1 v n (icells P)) (hB : B ≤ w.heap.size) (x : Int) (hn : n ≤ 100000000) :
    AppG Try.prog #[24, 24] ty #[v, .slice (some ⟨w.heap.size, 0, none⟩) 1 1] (w.alloc (.cells #[.int .i64 x] 3)) B 3 1 (n + 1) (icells (P ++ [x])) v := by
  obtain ⟨i0, hi, hz0, hz1, hz2⟩ := info_parts infoInt
  rw [icells_append]
  obtain ⟨v', w', hr, h2, h3, _, h5⟩ := run_append_own_at (P := Try.prog) (w := w.alloc (.cells #[.int .i64 x] 3)) B 24 ty 3 i0 _ 1 8 Try.underlying24 hi hz0 hz1 hz2 rfl (by decide) v n _ (own_below hown ((Below.refl _ _).alloc (Nat.le_refl _) _)) ⟨w.heap.size, 0, none⟩ 1 1 (icells [x]) rfl (World.news_of_block (heap_alloc_new _ _)) (icells_one [x]) (by unfold maxLen; omega) (by omega) (by simp; omega)
  exact ⟨v', w', hr, h2, h3, h5⟩
theorem wpList_appG {P : Program} {ops : Array Oper} {rest : List Oper} {o : Oper} {a : Act} {w : World} {Q : Exit → Act → World → Prop} (hgd : o.guard = none) (s x : Operand) (t tn : TypeId)
    (ho : o.op = .call { callee := .builtin .append, args := #[s, x], argTypes := #[t, tn] }) (vs vx : Value) (hs : a.eval s = vs) (hx : a.eval x = vx) {B e k n : Nat} {xs : List Value}
    (hr : AppG P #[t, tn] o.type #[vs, vx] w B e k n xs vs) (h : ∀ v' w', w'.ownsRow B e k v' n xs → w.grownBy w' vs.ownBlock → (v'.ownBlock = vs.ownBlock ∨ v'.ownBlock = some w.heap.size) → wpList P ops Q rest (a.put o.dst v') w') : wpList P ops Q (o :: rest) a w := by
  obtain ⟨v', w', r, h1, h2, h3⟩ := hr
  exact Lib.wpList_append_run w hgd s x t tn ho vs vx hs hx v' w' r (h v' w' h1 h2 h3)
end Go.Proofs.Ytmcelfiljnlmoaa
