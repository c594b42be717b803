/- strings.Clone. -/
import Derived.Test.YtgpjklnlchbbbaaSealHas
import Derived.Test.YtgpjklnlchbbbaaShelf
namespace Go.Proofs.Ytgpjklnlchbbbaa
open Go.RowKit Go.Proofs.Ytgpjklnlchbbbaa.Parts Go.Proofs.Ytgpjklnlchbbbaa.Hexa

set_option maxRecDepth 100000 in
set_option maxHeartbeats 400000 in
theorem textClone_any (s : ByteArray) (w : World) (hs : s.size ≤ 1048576) :
    Calls Try.prog 21 #[.string s] w fun e w' => e = .returned (.string s) ∧ Below w.heap.size w w' := by
  go_enter Try.func21, Try.ntmps21
  go_wp2_with (go_at_call 30; refine (Try.stringslite_Clone _ _ (by omega)).mono ?_; rintro e w1 ⟨rfl, hb1⟩)
  go_ret
  exact ⟨rfl, hb1⟩
end Go.Proofs.Ytgpjklnlchbbbaa
