/- FnPlaces: what its loops keep: the layout's box, which words were met, the places of a tenant and their kinds. -/
import Derived.Test.YtmcelfiljnlmoaaAppI
import Derived.Test.YtmcelfiljnlmoaaPlcMath
import Derived.Laws.MakeOwn
namespace Go.Proofs.Ytmcelfiljnlmoaa
open Go.RowKit Go.Proofs.Ytmcelfiljnlmoaa.Parts Go.Proofs.Ytmcelfiljnlmoaa.Hexa Go.Proofs.Ytmcelfiljnlmoaa.Plc

def bools (M : List Bool) : List Value := M.map fun b => Value.bool b
theorem bools_length (M : List Bool) : (bools M).length = M.length := by simp [bools]
theorem infoBool : (Try.prog.info? 4).map (fun i => (i.zero, i.size, i.bytes)) = some (some (.bool false), 1, 1) := by kernel_rfl
theorem made_false (n : Nat) : (madeCells (Value.bool false).cells (n * 1)).toList = bools (List.replicate n false) := by
  apply List.ext_getElem?
  intro j
  have hcl : (Value.bool false).cells = #[Value.bool false] := rfl
  by_cases hj : j < n
  · simp [madeCells, hj, hcl, Nat.mod_one, bools]
  · rw [List.getElem?_eq_none (by simp [madeCells]; omega), List.getElem?_eq_none (by simp [bools]; omega)]

theorem atL_cell {c : Int} {m j : Nat} (h : j < m) : (icells (atL c m))[j]? = some (.int .i64 (c + ((pl j : Nat) : Int))) := by simp [icells, atL, h]
theorem kdL_cell {I : Int} {m j : Nat} (h : j < m) : (icells (kdL I m))[j]? = some (.int .i64 (Plc.kd I j)) := by simp [icells, kdL, h]

/-- The layout in block b, the words met in block gm: those that were met lie below u. -/
structure PSt (w wr : World) (b gm n : Nat) (T P I Q : Int) (u : Int) (M : List Bool) : Prop where
  box : Four wr b T P I Q 29
  low : w.heap.size ≤ b
  met : wr.ownsRow w.heap.size 4 1 (.slice (some ⟨gm, 0, none⟩) n n) n (bools M)
  ne : gm ≠ b
  up : ∀ x : Nat, M[x]? = some true → (x : Int) < u
  below : Below w.heap.size w wr
/-- Besides, a tenant's places and their kinds. -/
structure LSt (w wr : World) (b gm n : Nat) (T P I Q : Int) (u : Int) (M : List Bool) (c : Int) (va vk : Value) (m k : Nat) : Prop where
  ps : PSt w wr b gm n T P I Q u M
  at_ : wr.ownsRow w.heap.size 3 1 va m (icells (atL c m))
  kd : wr.ownsRow w.heap.size 3 1 vk k (icells (kdL I k))
  na : ∀ g, va.ownBlock = some g → g ≠ b ∧ g ≠ gm ∧ vk.ownBlock ≠ some g
  nk : ∀ g, vk.ownBlock = some g → g ≠ b ∧ g ≠ gm
section
variable {w wr w' : World} {b gm n : Nat} {T P I Q u c : Int} {M : List Bool} {va vk : Value} {m k : Nat}
theorem PSt.later (h : PSt w wr b gm n T P I Q u M) (hb : Below wr.heap.size wr w') : PSt w w' b gm n T P I Q u M :=
  ⟨h.box.later hb, h.low, own_below h.met hb, h.ne, h.up, h.below.trans (hb.mono h.below.size)⟩
theorem PSt.grown {r : Option Nat} (h : PSt w wr b gm n T P I Q u M) (hg : wr.grownBy w' r) (hr : ∀ g, r = some g → w.heap.size ≤ g ∧ g ≠ b ∧ g ≠ gm) : PSt w w' b gm n T P I Q u M :=
  ⟨(hg.block b h.box.lt (fun e => (hr b e.symm).2.1 rfl)).trans h.box, h.low, h.met.kept hg (.inr (fun e => by
      have h2 := hr gm (by simpa [Value.ownBlock] using e.symm)
      exact h2.2.2 rfl)), h.ne, h.up, h.below.grown hg h.below.size (fun g e => (hr g e).1)⟩
theorem LSt.later (h : LSt w wr b gm n T P I Q u M c va vk m k) (hb : Below wr.heap.size wr w') : LSt w w' b gm n T P I Q u M c va vk m k :=
  ⟨h.ps.later hb, own_below h.at_ hb, own_below h.kd hb, h.na, h.nk⟩
theorem LSt.drew (h : LSt w wr b gm n T P I Q u M c va vk m k) : LSt w wr.drew b gm n T P I Q u M c va vk m k := h.later (Below.refl _ _).drew
theorem al_kept {w' : World} {e B : Nat} {v : Value} {n : Nat} {xs : List Value} {r : Option Nat} (h : wr.ownsRow B e 1 v n xs) (hg : wr.grownBy w' r) (hr : ∀ g, v.ownBlock = some g → r ≠ some g) : w'.ownsRow B e 1 v n xs := by
  refine own_kept h (fun g hv => hg.block g (own_block_lt h g hv) (fun e => hr g hv e.symm))
/-- A place appended. -/
theorem LSt.app (h : LSt w wr b gm n T P I Q u M c va vk m k) (ty : TypeId) (x : Int) (hx : c + pl m = x) (hm : m ≤ 1000) :
    AppG Try.prog #[24, 24] ty #[va, .slice (some ⟨wr.heap.size, 0, none⟩) 1 1] (wr.alloc (.cells #[.int .i64 x] 3)) w.heap.size 3 1 (m + 1) (icells (atL c (m + 1))) va := by
  rw [atL_succ, hx]; exact appI wr ty _ va m _ h.at_ h.ps.below.size x (by omega)
theorem LSt.apped {va' : Value} {o : Obj} (h : LSt w wr b gm n T P I Q u M c va vk m k) (ho : w'.ownsRow w.heap.size 3 1 va' (m + 1) (icells (atL c (m + 1)))) (hg : (wr.alloc o).grownBy w' va.ownBlock) (hat : va'.ownBlock = va.ownBlock ∨ va'.ownBlock = some (wr.alloc o).heap.size) :
    LSt w w' b gm n T P I Q u M c va' vk (m + 1) k := by
  have hba := below_al wr o
  have h1 := h.later hba
  have hn : ∀ g, va'.ownBlock = some g → g ≠ b ∧ g ≠ gm ∧ vk.ownBlock ≠ some g := fun g hv => by
    rcases hat with e | e
    · rw [e] at hv; exact h.na g hv
    · rw [e] at hv; cases hv
      have h2 := h1.ps.box.lt
      have h3 := (h1.ps.met.lt gm rfl).2
      refine ⟨by omega, by omega, fun e2 => ?_⟩
      have := own_block_lt h1.kd _ e2
      omega
  exact ⟨h1.ps.grown hg (fun g e => ⟨own_block_ge h.at_ g e, (h.na g e).1, (h.na g e).2.1⟩), ho, al_kept h1.kd hg (fun g hv e => (h.na g e).2.2 hv), hn, h.nk⟩
/-- A kind appended. -/
theorem LSt.kapp (h : LSt w wr b gm n T P I Q u M c va vk m k) (ty : TypeId) (x : Int) (hx : Plc.kd I k = x) (hm : k ≤ 1000) :
    AppG Try.prog #[24, 24] ty #[vk, .slice (some ⟨wr.heap.size, 0, none⟩) 1 1] (wr.alloc (.cells #[.int .i64 x] 3)) w.heap.size 3 1 (k + 1) (icells (kdL I (k + 1))) vk := by
  rw [kdL_succ, hx]; exact appI wr ty _ vk k _ h.kd h.ps.below.size x (by omega)
theorem LSt.kapped {vk' : Value} {o : Obj} (h : LSt w wr b gm n T P I Q u M c va vk m k) (ho : w'.ownsRow w.heap.size 3 1 vk' (k + 1) (icells (kdL I (k + 1)))) (hg : (wr.alloc o).grownBy w' vk.ownBlock) (hat : vk'.ownBlock = vk.ownBlock ∨ vk'.ownBlock = some (wr.alloc o).heap.size) :
    LSt w w' b gm n T P I Q u M c va vk' m (k + 1) := by
  have hba := below_al wr o
  have h1 := h.later hba
  have hsz : (wr.alloc o).heap.size = wr.heap.size + 1 := by simp
  have hn : ∀ g, vk'.ownBlock = some g → g ≠ b ∧ g ≠ gm := fun g hv => by
    rcases hat with e | e
    · rw [e] at hv; exact h.nk g hv
    · rw [e] at hv; cases hv
      have h2 := h1.ps.box.lt
      have h3 := (h1.ps.met.lt gm rfl).2
      exact ⟨by omega, by omega⟩
  refine ⟨h1.ps.grown hg (fun g e => ⟨own_block_ge h.kd g e, (h.nk g e).1, (h.nk g e).2⟩), al_kept h1.at_ hg (fun g hv e => (h.na g hv).2.2 e), ho, fun g hv => ⟨(h.na g hv).1, (h.na g hv).2.1, fun e2 => ?_⟩, hn⟩
  rcases hat with e | e
  · rw [e] at e2; exact (h.na g hv).2.2 e2
  · rw [e] at e2; cases e2
    have := own_block_lt h1.at_ _ hv
    omega
/-- The two slices at their beginning. -/
theorem LSt.start {g7 g8 : Nat} (h : PSt w wr b gm n T P I Q u M) (h7 : wr.ownsRow w.heap.size 3 1 (.slice (some ⟨g7, 0, none⟩) 2 2) 2 (icells (atL c 2))) (h8 : wr.ownsRow w.heap.size 3 1 (.slice (some ⟨g8, 0, none⟩) 2 2) 2 (icells (kdL I 2)))
    (e7 : g7 ≠ b ∧ g7 ≠ gm ∧ g8 ≠ g7) (e8 : g8 ≠ b ∧ g8 ≠ gm) : LSt w wr b gm n T P I Q u M c (.slice (some ⟨g7, 0, none⟩) 2 2) (.slice (some ⟨g8, 0, none⟩) 2 2) 2 2 :=
  ⟨h, h7, h8, fun g hv => by simp [Value.ownBlock] at hv; subst hv; exact ⟨e7.1, e7.2.1, by simp [Value.ownBlock]; exact e7.2.2⟩, fun g hv => by simp [Value.ownBlock] at hv; subst hv; exact e8⟩
/-- A word met. -/
theorem LSt.mark (h : LSt w wr b gm n T P I Q u M c va vk m k) (x : Nat) (hu : u ≤ (x : Int)) {u2 : Int} (hu2 : (x : Int) < u2) : LSt w (wr.setCell ⟨gm, x, none⟩ (.bool true)) b gm n T P I Q u2 (M.set x true) c va vk m k := by
  have hM : M.length = n := by have := own_length h.ps.met; rwa [bools_length] at this
  have hb : bools (M.set x true) = (bools M).set x (.bool true) := by simp [bools, List.map_set]
  have hgm := (h.ps.met.lt gm rfl).1
  have hs : ∀ {v : Value} {N : Nat} {xs : List Value}, wr.ownsRow w.heap.size 3 1 v N xs → (∀ g, v.ownBlock = some g → g ≠ gm) → (wr.setCell ⟨gm, x, none⟩ (.bool true)).ownsRow w.heap.size 3 1 v N xs := fun hv hne => own_kept hv (fun g e => Below.heap_setCell _ _ _ _ (hne g e))
  refine ⟨⟨h.ps.box.setOther' (fun e => h.ps.ne e.symm), h.ps.low, by rw [hb]; exact (h.ps.met.stored x (.bool true)).1, h.ps.ne, fun y hy => ?_, h.ps.below.setCell hgm _⟩, hs h.at_ (fun g e => (h.na g e).2.1), hs h.kd (fun g e => (h.nk g e).2), h.na, h.nk⟩
  rw [List.getElem?_set] at hy
  split at hy
  · rename_i e; subst e; exact hu2
  · have := h.ps.up y hy; omega
theorem PSt.unmet (h : PSt w wr b gm n T P I Q u M) (x : Nat) (hx : x < n) (hu : u ≤ (x : Int)) : wr.cell? ⟨gm, x, none⟩ = some (.bool false) := by
  have hM : M.length = n := by have := own_length h.met; rwa [bools_length] at this
  rw [h.met.cellAt x (by omega)]
  have hxM : x < M.length := by omega
  have hv : M[x]? = some M[x] := List.getElem?_eq_getElem hxM
  cases hb : M[x] with
  | true => rw [hb] at hv; have := h.up x hv; omega
  | false => simp [bools, hxM, hb]
theorem PSt.free (h : PSt w wr b gm n T P I Q u M) (x : Nat) : wr.frozen? ⟨gm, x, none⟩ = false := h.met.frozenAt x
end
end Go.Proofs.Ytmcelfiljnlmoaa
