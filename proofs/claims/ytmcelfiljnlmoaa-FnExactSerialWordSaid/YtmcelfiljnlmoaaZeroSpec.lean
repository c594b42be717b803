/- The model's ZeroText. -/
import Derived.Test.YtmcelfiljnlmoaaLong
import Derived.Test.YtmcelfiljnlmoaaNumMath
namespace Go.Proofs.Ytmcelfiljnlmoaa
open Go.RowKit Go.Proofs.Ytmcelfiljnlmoaa.Hexa Go.Proofs.Ytmcelfiljnlmoaa.Byt Go.Proofs.Ytmcelfiljnlmoaa.BitsM Go.Proofs.Ytmcelfiljnlmoaa.Parts

set_option maxRecDepth 100000 in
set_option maxHeartbeats 400000 in
theorem specZero_any (n : Int) (w : World) :
    Calls Try.prog 100 #[.int .i64 n] w fun e w' => e = .returned (.string (zeroB n)) ∧ Below w.heap.size w w' := by
  by_cases h : 0 ≤ n ∧ n ≤ 20000
  · have HE : Hid (zeroB n = longB n.toNat 0) := Lib.hid (if_pos h)
    have HR := Lib.hid h
    obtain ⟨k, rfl⟩ : ∃ k : Nat, n = k := ⟨n.toNat, by omega⟩
    have KL := Lib.hid fun w => long_any k 0 w (by omega)
    clear h
    go_enter Try.func100, Try.ntmps100
    go_wp2_with (first
      | (go_at_call 64; refine (range_yes _ HR.out).mono ?_; rintro e w1 ⟨rfl, rfl⟩)
      | (go_at_call 117; refine (KL.out _).mono ?_; rintro e w2 ⟨rfl, hb2⟩))
    go_ret
    exact ⟨by rw [HE.out]; rfl, hb2⟩
  · have HE : Hid (zeroB n = ⟨#[]⟩) := Lib.hid (if_neg h)
    have HR := Lib.hid h
    clear h
    go_enter Try.func100, Try.ntmps100
    go_wp2_with (first
      | (go_at_call 64; refine (range_no _ HR.out).mono ?_; rintro e w1 ⟨rfl, rfl⟩))
    go_ret
    exact ⟨by rw [HE.out]; rfl, Below.refl _ _⟩

end Go.Proofs.Ytmcelfiljnlmoaa
