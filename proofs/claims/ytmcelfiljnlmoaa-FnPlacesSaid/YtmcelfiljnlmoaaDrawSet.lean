/- A cell of another block written: the cursor and the text that is drawn from stay. -/
import Derived.Test.YtmcelfiljnlmoaaDrawLem
namespace Go.Proofs.Ytmcelfiljnlmoaa
open Go.RowKit Go.Proofs.Ytmcelfiljnlmoaa.Hexa Go.Proofs.Ytmcelfiljnlmoaa.Draw

theorem grown_of_below {w w' : World} {r : Option Nat} (h : Below w.heap.size w w') : w.grownBy w' r := ⟨h.os, h.tape, h.output, h.size, fun k hk _ => h.block k hk⟩
theorem grown_setCell {a w : World} {c b o : Nat} (h : a.grownBy w (some c)) (hb : a.heap.size ≤ b) (v : Value) : a.grownBy (w.setCell ⟨b, o, none⟩ v) (some c) :=
  ⟨h.os, h.tape, h.output, Nat.le_trans h.size (by simp), fun k hk hne => by rw [Below.heap_setCell _ _ _ _ (by show k ≠ b; omega)]; exact h.block k hk hne⟩
theorem cur_setCell {w : World} {c b o : Nat} {ad : Option Addr} {len cap : Nat} (h : Cur w c ad len cap) (hb : b ≠ c) (v : Value) : Cur (w.setCell ⟨b, o, none⟩ v) c ad len cap := by
  obtain ⟨i, x, hi, hh⟩ := h
  exact ⟨i, x, hi, (Below.heap_setCell _ _ _ _ (by show c ≠ b; omega)).trans hh⟩
theorem src_setCell {w : World} {c b o : Nat} {ad : Option Addr} {len : Nat} (h : Draw.Src w c ad len) (hb : c ≤ b) (v : Value) : Draw.Src (w.setCell ⟨b, o, none⟩ v) c ad len := fun i hi => by
  obtain ⟨q, off, z, e, hq, z0, z1, hz⟩ := h i hi
  exact ⟨q, off, z, e, hq, z0, z1, by rw [World.cell?_of_block (w := w) (Below.heap_setCell _ _ _ _ (by show q ≠ b; omega))]; exact hz⟩
end Go.Proofs.Ytmcelfiljnlmoaa
