/- FnExactShaStart: the law's walk. -/
import Derived.Test.YteohmifmfgbmaaaDoorShaNum
namespace Go.Proofs.YteohmifmfgbmaaaDoor
open Go.RowKit Go.Proofs.YteohmifmfgbmaaaDoor.Sha Go.Proofs.YteohmifmfgbmaaaDoor.Hexa Go.Proofs.YteohmifmfgbmaaaDoor.Parts

theorem below_draws {B : Nat} {a w : World} (h : Below B a w) (m : Nat) : Below B a (w.drewN m) := ⟨h.os, h.tape, h.output, h.size, h.block⟩
theorem own_draws {w : World} {base e : Nat} {v : Value} {n : Nat} {xs : List Value} (h : w.ownsRow base e 1 v n xs) (m : Nat) : (w.drewN m).ownsRow base e 1 v n xs := h

set_option maxHeartbeats 1000000 in
theorem start_law (w : World) (hk : IsTab w 0 firstS.list) :
    Calls Tryd.prog 4 #[] w fun e w' => e = .returned (.bool true) ∧ Below w.heap.size w w' := by
  have HK := Lib.hid hk
  clear hk
  go_enter Tryd.func4, Tryd.ntmps4
  go_wp2_with fail
  refine (specStart_any _).mono ?_
  rintro e w1 ⟨v1, rfl, hown1, hb1⟩
  obtain ⟨ad1, cap1, rfl, hc1, hn1, hr1⟩ := own_form hown1
  have O1 := Lib.hid hown1
  have B1 := Lib.hid hb1
  clear hown1 hr1 hc1 hn1 hb1
  go_wp2_with fail
  refine (implStart_any _ (HK.out.below HK.out.lt B1.out)).mono ?_
  rintro e w2 ⟨v2, rfl, hown2, hb2⟩
  obtain ⟨ad2, cap2, rfl, hc2, hn2, hr2⟩ := own_form hown2
  have O2 := Lib.hid hown2
  have B2 := Lib.hid hb2
  have O12 := Lib.hid (own_below O1.out hb2)
  clear hown2 hr2 hc2 hn2 hb2
  go_wp2_with fail
  refine (eqInts_any _ _ 8 _ _ (ints firstS) _ (ints_length _) (by omega) (own_reads O2.out) (own_reads O12.out)).mono ?_
  rintro e w3 ⟨rfl, m, rfl⟩
  have O2' := Lib.hid (own_draws O2.out m)
  go_wp2_with fail
  refine (markInts_any w1.heap.size _ 8 1 (icells (ints firstS)) (w2.drewN m) (by omega) O2'.out).mono ?_
  rintro e w4 ⟨ys, rfl, hown4, hm4, hb4⟩
  have O4 := Lib.hid hown4
  have M4 := Lib.hid hm4
  have B4 : Hid (Below w1.heap.size w1 w4) := Lib.hid ((below_draws B2.out m).trans hb4)
  clear hown4 hm4 hb4
  go_wp2_with fail
  refine (heldInts_any w1.heap.size _ 8 1 ys _ (by omega) O4.out M4.out).mono ?_
  rintro e w5 ⟨rfl, rfl⟩
  go_wp2_with fail
  refine (implStart_any _ (HK.out.below HK.out.lt (B1.out.trans (B4.out.mono B1.out.size)))).mono ?_
  rintro e w6 ⟨v6, rfl, hown6, hb6⟩
  obtain ⟨ad6, cap6, rfl, hc6, hn6, hr6⟩ := own_form hown6
  have O6 := Lib.hid hown6
  have B16 : Hid (Below w1.heap.size w1 w6) := Lib.hid (B4.out.trans (hb6.mono B4.out.size))
  have O16 := Lib.hid (own_below O1.out B16.out)
  have O46 := Lib.hid (own_below O4.out hb6)
  clear hown6 hr6 hc6 hn6 hb6
  go_wp2_with fail
  refine (eqInts_any _ _ 8 _ _ (ints firstS) _ (ints_length _) (by omega) (own_reads O6.out) (own_reads O16.out)).mono ?_
  rintro e w7 ⟨rfl, m7, rfl⟩
  have O47 := Lib.hid (own_draws O46.out m7)
  go_wp2_with fail
  refine (heldInts_any w1.heap.size _ 8 1 ys (w6.drewN m7) (by omega) O47.out M4.out).mono ?_
  rintro e w8 ⟨rfl, rfl⟩
  go_wp2
  go_ret
  exact ⟨rfl, B1.out.trans ((below_draws B16.out m7).mono B1.out.size)⟩
end Go.Proofs.YteohmifmfgbmaaaDoor
