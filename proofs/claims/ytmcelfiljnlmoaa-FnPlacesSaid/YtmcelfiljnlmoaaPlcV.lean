/- The places of a layout, as numbers. -/
import Derived.Test.YtmcelfiljnlmoaaPlcMath
namespace Go.Proofs.Ytmcelfiljnlmoaa
open Go.RowKit

/-- A place of a tenant, or -1. -/
def placeV (T P I Q t a : Int) : Int := if GeoR T P I Q ∧ 0 ≤ t ∧ t ≤ T - 1 then t * wordsOf P I + a else -1
theorem placeV_yes {T P I Q t a : Int} (h : GeoR T P I Q ∧ 0 ≤ t ∧ t ≤ T - 1) : placeV T P I Q t a = t * wordsOf P I + a := if_pos h
theorem placeV_no {T P I Q t a : Int} (h : ¬ (GeoR T P I Q ∧ 0 ≤ t ∧ t ≤ T - 1)) : placeV T P I Q t a = -1 := if_neg h
def jourV (T P I Q t i : Int) : Int := if 0 ≤ i ∧ i ≤ 15 then placeV T P I Q t (4 + 2 * i) else -1
def inodV (T P I Q t i : Int) : Int := if GeoR T P I Q ∧ 0 ≤ i ∧ i ≤ I - 1 then placeV T P I Q t (38 + 8 * i) else -1
def pageV (T P I Q t i : Int) : Int := if GeoR T P I Q ∧ 0 ≤ i ∧ i ≤ P - 1 then placeV T P I Q t (38 + 8 * I + 4 * i) else -1
theorem saysI_eq {a b : Int} {w : World} (h : a = b) : (fun e w' => SaysI a w e w') = SaysI b w := by rw [h]
end Go.Proofs.Ytmcelfiljnlmoaa
