/- What a word of a layout is. -/
import Derived.Test.YtmcelfiljnlmoaaLinV
namespace Go.Proofs.Ytmcelfiljnlmoaa
open Go.RowKit

/-- Which tenant and what kind. -/
def KindR (I k z : Int) : Prop := Plc.kindZ I k = z
theorem kind_cases {I k : Int} (hI : 0 ≤ I) (hk : 0 ≤ k) : (k = 0) ∨ (k = 2) ∨ (k ≠ 0 ∧ k ≠ 2 ∧ k < 4) ∨ (4 ≤ k ∧ k < 36) ∨ (36 ≤ k ∧ k < 38) ∨ (38 ≤ k ∧ k < 38 + 8 * I) ∨ (38 + 8 * I ≤ k ∧ 38 ≤ k) := by omega
theorem kind1 {I k : Int} (h : k = 0) : Plc.kindZ I k = 1 := if_pos h
theorem kind2 {I k : Int} (h : k = 2) : Plc.kindZ I k = 2 := by unfold Plc.kindZ; rw [if_neg (by omega), if_pos h]
theorem kind0 {I k : Int} (h : k ≠ 0 ∧ k ≠ 2 ∧ k < 4) : Plc.kindZ I k = 0 := by unfold Plc.kindZ; rw [if_neg h.1, if_neg h.2.1, if_pos h.2.2]
theorem kind3 {I k : Int} (h : 4 ≤ k ∧ k < 36) : Plc.kindZ I k = 3 := by unfold Plc.kindZ; rw [if_neg (by omega), if_neg (by omega), if_neg (by omega), if_pos h.2]
theorem kind4 {I k : Int} (h : 36 ≤ k ∧ k < 38) : Plc.kindZ I k = 4 := by unfold Plc.kindZ; rw [if_neg (by omega), if_neg (by omega), if_neg (by omega), if_neg (by omega), if_pos h.2]
theorem kind5 {I k : Int} (h : 38 ≤ k ∧ k < 38 + 8 * I) : Plc.kindZ I k = 5 := by unfold Plc.kindZ; rw [if_neg (by omega), if_neg (by omega), if_neg (by omega), if_neg (by omega), if_neg (by omega), if_pos h.2]
theorem kind6 {I k : Int} (h : 38 + 8 * I ≤ k ∧ 38 ≤ k) : Plc.kindZ I k = 6 := by unfold Plc.kindZ; rw [if_neg (by omega), if_neg (by omega), if_neg (by omega), if_neg (by omega), if_neg (by omega), if_neg (by omega)]
def partT (T P I Q a : Int) : Int := if GeoR T P I Q ∧ 0 ≤ a ∧ a ≤ T * wordsOf P I - 1 then a / wordsOf P I else -1
def partK (T P I Q a : Int) : Int := if GeoR T P I Q ∧ 0 ≤ a ∧ a ≤ T * wordsOf P I - 1 then Plc.kindZ I (a % wordsOf P I) else 0
def SaysII (m n : Int) (w : World) (e : Ending) (w' : World) : Prop := e = .returned (.tuple #[.int .i64 m, .int .i64 n]) ∧ Below w.heap.size w w'
end Go.Proofs.Ytmcelfiljnlmoaa
