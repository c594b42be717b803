/- A block of cells whose contents are known. -/
import Derived.Test.YtkfkjcadmdcbnaaRows
import Derived.WalkKit
import Derived.WalkSpells
import Derived.WalkLawsBesides
import Derived.RowKit3
import Derived.Below
import Derived.Lib.Hide
import Derived.OwnWalk
import Derived.OneCell
import Derived.Deep.QuietTactic
import Derived.BigQuiet
namespace Go.Proofs.Ytkfkjcadmdcbnaa
open Go.RowKit

/-- Block b holds just these cells. -/
def Bk (w : World) (b : Nat) (cs : Array Value) (t : TypeId) : Prop := w.heap[b]? = some (.cells cs t (0, 0))
section
variable {w w' : World} {b : Nat} {cs : Array Value} {t : TypeId}
theorem Bk.lt (h : Bk w b cs t) : b < w.heap.size := (Array.getElem?_eq_some_iff.1 h).1
theorem Bk.later (h : Bk w b cs t) (hb : Below w.heap.size w w') : Bk w' b cs t := (hb.block b h.lt).trans h
theorem Bk.drew (h : Bk w b cs t) : Bk w.drew b cs t := h
theorem Bk.alloc (w : World) (cs : Array Value) (t : TypeId) : Bk (w.alloc (.cells cs t)) w.heap.size cs t := heap_alloc_new w _
theorem Bk.cell (h : Bk w b cs t) {j : Nat} {v : Value} (hv : cs[j]? = some v) : w.cell? ⟨b, j, none⟩ = some v := by unfold Bk at h; simp [World.cell?, h, hv]
theorem Bk.fr (h : Bk w b cs t) {o : Nat} : w.frozen? ⟨b, o, none⟩ = false := by unfold Bk at h; simp [World.frozen?, h]
theorem Bk.set (h : Bk w b cs t) (j : Nat) (v : Value) : Bk (w.setCell ⟨b, j, none⟩ v) b (cs.setIfInBounds j v) t := heap_setCell_same w b j cs t v h
theorem Bk.other (h : Bk w b cs t) {c o : Nat} (hne : b ≠ c) (v : Value) : Bk (w.setCell ⟨c, o, none⟩ v) b cs t := (Below.heap_setCell _ _ _ _ hne).trans h
theorem Bk.grown {r : Option Nat} (h : Bk w b cs t) (hg : w.grownBy w' r) (hne : r ≠ some b) : Bk w' b cs t := (hg.block b h.lt (fun e => hne e.symm)).trans h
end
theorem below_bk (w : World) (o : Obj) : Below w.heap.size w (w.alloc o) := (Below.refl _ _).alloc (Nat.le_refl _) _
end Go.Proofs.Ytkfkjcadmdcbnaa
