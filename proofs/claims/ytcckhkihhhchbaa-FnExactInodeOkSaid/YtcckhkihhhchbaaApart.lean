/- No block is written but one row's. -/
import Derived.Test.YtcckhkihhhchbaaElem
namespace Go.Proofs.Ytcckhkihhhchbaa
open Go.RowKit Go.Proofs.Ytcckhkihhhchbaa.Parts Go.Proofs.Ytcckhkihhhchbaa.Hexa

/-- No block is written but v's. -/
structure Apart (v : Value) (w w' : World) : Prop where
  size : w.heap.size ≤ w'.heap.size
  block : ∀ g, g < w.heap.size → v.ownBlock ≠ some g → w'.heap[g]? = w.heap[g]?
theorem Apart.own {v : Value} {w w' : World} (h : Apart v w w') {v2 : Value} {M e k n : Nat} {xs : List Value} (ho : w.ownsRow M e k v2 n xs) (hne : ∀ g, v2.ownBlock = some g → v.ownBlock ≠ some g) : w'.ownsRow M e k v2 n xs := by
  refine ⟨ho.1, ho.2.imp id fun ⟨g, cap, cur, hv, hg, hh, r⟩ => ⟨g, cap, cur, hv, hg, ?_, r⟩⟩
  rw [h.block g (Array.getElem?_eq_some_iff.1 hh).1 (hne g (by rw [hv]; rfl))]; exact hh
theorem Apart.of_below {v : Value} {w w' : World} (h : Below w.heap.size w w') : Apart v w w' := ⟨h.size, fun g hg _ => h.block g hg⟩
theorem Apart.after_below {v : Value} {w w1 w2 : World} (hb : Below w.heap.size w w1) (h : Apart v w1 w2) : Apart v w w2 := ⟨Nat.le_trans hb.size h.size, fun g hg hn => (h.block g (Nat.lt_of_lt_of_le hg hb.size) hn).trans (hb.block g hg)⟩
end Go.Proofs.Ytcckhkihhhchbaa
