/- FnExactStatesOk: the law's walk. -/
import Derived.Test.YtppdjhchangikaaStImpl
import Derived.Test.YtppdjhchangikaaOwnC
import Derived.Test.YtppdjhchangikaaDrewsS
namespace Go.Proofs.Ytppdjhchangikaa
open Go.RowKit Go.Proofs.Ytppdjhchangikaa.Parts Go.Proofs.Ytppdjhchangikaa.Hexa

set_option maxRecDepth 100000 in
set_option maxHeartbeats 1000000 in
theorem statesOk_law (a0 : Option Addr) (n0 c0 : Nat) (z0 : List Int) (p1 : Int) (w : World) (hs0 : SrcI w a0 n0 z0) (hl0 : n0 ≤ 9223372036854775807) :
    Calls Try.prog 4 #[.slice a0 n0 c0, .int .i64 p1] w fun e w' => e = .returned (.bool true) ∧ Below w.heap.size w w' := by
  by_cases hn : n0 ≤ 1048576
  case neg =>
    have hn' : 1048576 < n0 := by omega
    go_enter Try.func4, Try.ntmps4
    go_wp2
    go_ret
    exact ⟨rfl, Below.refl _ _⟩
  have HS := Lib.hid hs0
  have HZ := Lib.hid hs0.len
  clear hs0
  go_enter Try.func4, Try.ntmps4
  go_wp2_with fail
  refine (toInts_any a0 n0 c0 z0 _ HS.out (by omega)).mono ?_
  rintro e w1 ⟨rfl, ho, hb⟩
  have X1 := Lib.hid ho
  have B1 := Lib.hid hb
  clear ho hb
  go_wp2_with fail
  refine (specStOk_any _ n0 n0 z0 p1 _ (srcI_of_own X1.out) (by omega)).mono ?_
  rintro e w2 ⟨rfl, hw2⟩
  rw [hw2]
  clear hw2
  go_wp2_with fail
  refine (toInts_any a0 n0 c0 z0 _ (HS.out.later B1.out) (by omega)).mono ?_
  rintro e w3 ⟨rfl, ho, hb⟩
  have X3 := Lib.hid ho
  have B3 : Hid (Below w.heap.size w w3) := Lib.hid (B1.out.trans (hb.mono B1.out.size))
  clear ho hb X1
  go_wp2_with fail
  refine (implStOk_any _ n0 n0 z0 p1 _ (srcI_of_own X3.out) (by omega)).mono ?_
  rintro e w4 ⟨rfl, hw4⟩
  rw [hw4]
  clear hw4
  go_wp2_with fail
  refine (toInts_any a0 n0 c0 z0 _ (HS.out.later B3.out) (by omega)).mono ?_
  rintro e w5 ⟨rfl, ho, hb⟩
  have X5 := Lib.hid ho
  have X35 := Lib.hid (own_below X3.out hb)
  have B5 : Hid (Below w.heap.size w w5) := Lib.hid (B3.out.trans (hb.mono B3.out.size))
  clear ho hb X3
  go_wp2_with fail
  refine (eqT _ _ _ _ _ _ _ z0 _ HZ.out (by omega) (ownT_of_own X35.out) (ownT_of_own X5.out)).mono ?_
  rintro e w6 ⟨rfl, m, rfl⟩
  go_wp2
  go_ret
  exact ⟨rfl, below_draws' B5.out m⟩
end Go.Proofs.Ytppdjhchangikaa
