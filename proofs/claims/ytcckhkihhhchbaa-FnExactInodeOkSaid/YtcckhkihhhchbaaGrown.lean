/- A region that draws its order, reads only, and whose callees may make memory of their own: one walk, in the order of the text. -/
import Derived.Test.YtcckhkihhhchbaaBk
import Derived.Deep.QuietTactic
import Derived.BigQuiet
namespace Go.Proofs.Ytcckhkihhhchbaa
open Go.RowKit

/-- A world that has grown out of w: what lay there lies there unchanged. -/
structure GrownW (w : World) where
  wd : World
  grown : Below w.heap.size w wd
instance (w : World) : Nonempty (GrownW w) := ⟨⟨w, Below.refl _ w⟩⟩
theorem GrownW.cell {w : World} {p : Addr} {v : Value} (h : w.cell? p = some v) (hp : p.block < w.heap.size) (g : GrownW w) : g.wd.cell? p = some v := (g.grown.cell hp).trans h
theorem Calls.grown_of {P : Program} {f : FuncId} {args : Array Value} {w : World} {g : GrownW w} {v : Value}
    (h : Calls P f args g.wd fun e w' => e = .returned v ∧ Below g.wd.heap.size g.wd w') : Calls P f args g.wd fun e w'' => e = .returned v ∧ ∃ g' : GrownW w, w'' = g'.wd :=
  h.mono fun _ w' ⟨he, hb⟩ => ⟨he, ⟨w', g.grown.trans (hb.mono g.grown.size)⟩, rfl⟩
theorem Calls.grown_same {P : Program} {f : FuncId} {args : Array Value} {w : World} {g : GrownW w} {v : Value}
    (h : Calls P f args g.wd fun e w' => e = .returned v ∧ w' = g.wd) : Calls P f args g.wd fun e w'' => e = .returned v ∧ ∃ g' : GrownW w, w'' = g'.wd :=
  h.mono fun _ _ ⟨he, hw⟩ => ⟨he, g, hw⟩
theorem wp_region_grown {P : Program} {id : Nat} {Q : Exit → Act → World → Prop} {a : Act} {w : World} {l : List Oper} (hm : P.follows .mixedOrders = true) (hB : Region.lexB .any l.toArray = true)
    (h : wpQuiet P l.toArray (fun w' => ∃ g : GrownW w, w' = g.wd) (fun a' => ∀ w', (∃ g : GrownW w, w' = g.wd) → Q .normal a' w') l a) : (Code.region id l.toArray true).wp P Q a w :=
  wp_region_quiet (C := fun w' => ∃ g : GrownW w, w' = g.wd) hm hB ⟨⟨_, (Below.refl _ w).drew⟩, rfl⟩ (by simpa using h)
end Go.Proofs.Ytcckhkihhhchbaa
