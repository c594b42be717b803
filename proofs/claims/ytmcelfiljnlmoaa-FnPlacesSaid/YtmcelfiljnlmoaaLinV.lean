/- The lines of a layout, as a number. -/
import Derived.Test.YtmcelfiljnlmoaaPlcMath
namespace Go.Proofs.Ytmcelfiljnlmoaa
open Go.RowKit

/-- The lines of a layout. -/
def linesV (T P I Q : Int) : Int := if GeoR T P I Q then T * wordsOf P I / 2 else 0
theorem linesV_no {T P I Q : Int} (h : ¬ GeoR T P I Q) : linesV T P I Q = 0 := if_neg h
theorem linesV_yes {T P I Q : Int} (h : GeoR T P I Q) : linesV T P I Q * 2 = T * wordsOf P I ∧ 0 ≤ linesV T P I Q ∧ linesV T P I Q ≤ 201 := by
  rw [show linesV T P I Q = T * wordsOf P I / 2 from if_pos h]
  obtain ⟨g1, g2, g3, g4, g5, g6, g7, g8⟩ := h
  have ht : T = 1 ∨ T = 2 ∨ T = 3 := by omega
  unfold wordsOf
  rcases ht with rfl | rfl | rfl <;> omega
end Go.Proofs.Ytmcelfiljnlmoaa
