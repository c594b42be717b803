/- The cursor of the draws across growth: what it reads and where it stands stays. -/
import Derived.Test.YtmcelfiljnlmoaaDraw
import Derived.Test.YtmcelfiljnlmoaaPartsMath
import Derived.Deep.AppendLies
namespace Go.Proofs.Ytmcelfiljnlmoaa
open Go.RowKit
namespace Draw

theorem cur_grown {w w' : World} {c : Nat} {ad : Option Addr} {len cap : Nat} {row : Option Nat} (h : Cur w c ad len cap) (hg : w.grownBy w' row) (hr : some c ≠ row) : Cur w' c ad len cap := by
  have hl := cur_lt h
  obtain ⟨i, x, hi, hb⟩ := h
  exact ⟨i, x, hi, by rw [hg.block c hl hr]; exact hb⟩
theorem src_grown' {w w' : World} {B : Nat} {ad : Option Addr} {len : Nat} {row : Option Nat} (hs : Src w B ad len) (hg : w.grownBy w' row) (hr : ∀ k, row = some k → B ≤ k) (hB : B ≤ w.heap.size) : Src w' B ad len := by
  intro i hi
  obtain ⟨b, off, z, h1, h2, h3, h4, h5⟩ := hs i hi
  exact ⟨b, off, z, h1, h2, h3, h4, by rw [World.cell?_of_block (w := w) (hg.block b (by omega) (fun e => by have := hr b e.symm; omega))]; exact h5⟩
theorem grown_alloc (w : World) (o : Obj) (r : Option Nat) : w.grownBy (w.alloc o) r := ⟨rfl, rfl, rfl, by simp, fun k hk _ => Below.heap_alloc _ _ _ hk⟩
theorem own_not {w : World} {c e : Nat} {v : Value} {n : Nat} {xs : List Value} (h : w.ownsRow (c + 1) e 1 v n xs) : some c ≠ v.ownBlock := fun e => by
  have := Hexa.own_block_ge h c e.symm
  omega
theorem own_kept {w w' : World} {c e : Nat} {v : Value} {n : Nat} {xs : List Value} (h : w.ownsRow (c + 1) e 1 v n xs) (hg : w.grownBy w' (some c)) : w'.ownsRow (c + 1) e 1 v n xs :=
  h.kept hg (Or.inr (fun e => own_not h e.symm))
theorem below_of_grown {w w' : World} {B : Nat} {row : Option Nat} (hg : w.grownBy w' row) (hr : ∀ k, row = some k → B ≤ k) (hB : B ≤ w.heap.size) : Below B w w' := (Below.refl B w).grown hg hB hr

theorem cur_below {w w' : World} {c B : Nat} {ad : Option Addr} {len cap : Nat} (h : Cur w c ad len cap) (hb : Below B w w') (hc : c < B) : Cur w' c ad len cap := by
  obtain ⟨i, x, hi, hh⟩ := h
  exact ⟨i, x, hi, by rw [hb.block c hc]; exact hh⟩
theorem src_below {w w' : World} {c B : Nat} {ad : Option Addr} {len : Nat} (h : Src w c ad len) (hb : Below B w w') (hc : c ≤ B) : Src w' c ad len := by
  intro i hi
  obtain ⟨b, off, z, h1, h2, h3, h4, h5⟩ := h i hi
  exact ⟨b, off, z, h1, h2, h3, h4, by rw [World.cell?_of_block (w := w) (hb.block b (by omega))]; exact h5⟩
theorem grown_below {a w w' : World} {c B : Nat} (h : a.grownBy w (some c)) (hb : Below B w w') (hB : a.heap.size ≤ B) : a.grownBy w' (some c) :=
  ⟨hb.os.trans h.os, hb.tape.trans h.tape, hb.output.trans h.output, Nat.le_trans h.size hb.size, fun i hi hr => (hb.block i (by omega)).trans (h.block i hi hr)⟩

/-- What a draw leaves: a value, the cursor where it may stand, nothing else written. -/
def DrawPost (Pv : Value → Prop) (w : World) (c : Nat) (ad : Option Addr) (len cap : Nat) (e : Ending) (w' : World) : Prop :=
  ∃ v, Pv v ∧ e = .returned v ∧ Cur w' c ad len cap ∧ w.grownBy w' (some c)
end Draw
end Go.Proofs.Ytmcelfiljnlmoaa
