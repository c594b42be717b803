/- A serial number's word. -/
import Derived.Test.YtmcelfiljnlmoaaNumMath
import Derived.Test.YtmcelfiljnlmoaaRows
import Derived.Below
namespace Go.Proofs.Ytmcelfiljnlmoaa
open Go.Proofs.Ytmcelfiljnlmoaa.Byt

def SerR (n : Int) : Prop := 0 ≤ n ∧ n ≤ 16777215
noncomputable def serB (n : Int) : ByteArray := @ite _ (SerR n) (Classical.propDecidable _) (wordB (numTextB n 3)) ⟨#[]⟩
theorem serB_yes {n : Int} (h : SerR n) : serB n = wordB (numTextB n 3) := by unfold serB; rw [if_pos h]
theorem serB_no {n : Int} (h : ¬ SerR n) : serB n = ⟨#[]⟩ := by unfold serB; rw [if_neg h]
end Go.Proofs.Ytmcelfiljnlmoaa
