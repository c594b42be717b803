/- SerialWord: the impl. -/
import Derived.Test.YtmcelfiljnlmoaaSerMath
import Derived.Test.YtmcelfiljnlmoaaRangeImpl
import Derived.Test.YtmcelfiljnlmoaaNumImplB
import Derived.Test.YtmcelfiljnlmoaaWordImpl
import Derived.Test.YtmcelfiljnlmoaaBk
namespace Go.Proofs.Ytmcelfiljnlmoaa
open Go.RowKit Go.Proofs.Ytmcelfiljnlmoaa.Parts Go.Proofs.Ytmcelfiljnlmoaa.Hexa Go.Proofs.Ytmcelfiljnlmoaa.Byt

set_option maxRecDepth 100000 in
set_option maxHeartbeats 1000000 in
theorem implSer_any (n : Int) (w : World) :
    Calls Try.prog 32 #[.int .i64 n] w fun e w' => e = .returned (.string (serB n)) ∧ Below w.heap.size w w' := by
  by_cases h : SerR n
  · have H := Lib.hid h
    rw [serB_yes h]
    obtain ⟨D, hD⟩ : ∃ D, numTextB n 3 = D := ⟨_, rfl⟩
    have HD := Lib.hid hD
    rw [hD]
    obtain ⟨Q, hQ⟩ : ∃ Q, wordB D = Q := ⟨_, rfl⟩
    have HQ := Lib.hid hQ
    rw [hQ]
    clear h hD hQ
    go_enter Try.func32, Try.ntmps32
    go_wp2_with fail
    refine (implIn_yes _ H.out).mono ?_
    rintro e w1 ⟨rfl, rfl⟩
    go_wp2_with fail
    refine (implNum_any n 3 _ (by have := H.out.2; omega)).mono ?_
    rw [HD.out]
    rintro e w2 ⟨rfl, hb⟩
    go_wp2_with fail
    refine (implWord_any D _).mono ?_
    rw [HQ.out]
    rintro e w3 ⟨rfl, hb3⟩
    go_wp2
    go_ret
    exact ⟨rfl, hb.trans (hb3.mono hb.size)⟩
  · have H := Lib.hid h
    rw [serB_no h]
    clear h
    go_enter Try.func32, Try.ntmps32
    go_wp2_with fail
    refine (implIn_no _ H.out).mono ?_
    rintro e w1 ⟨rfl, rfl⟩
    go_wp2
    go_ret
    exact ⟨rfl, Below.refl _ _⟩
end Go.Proofs.Ytmcelfiljnlmoaa
