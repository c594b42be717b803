/- FnExactWithState: the law's walk. -/
import Derived.Test.YtppdjhchangikaaStImplB
import Derived.Test.YtppdjhchangikaaStSpecB
import Derived.Test.YtppdjhchangikaaIntsB
import Derived.Test.YtppdjhchangikaaOwnC
import Derived.Test.YtppdjhchangikaaDrewsS
namespace Go.Proofs.Ytppdjhchangikaa
open Go.RowKit Go.Proofs.Ytppdjhchangikaa.Parts Go.Proofs.Ytppdjhchangikaa.Hexa Go.Proofs.Ytppdjhchangikaa.Byt

set_option maxRecDepth 100000 in
set_option maxHeartbeats 4000000 in
theorem withState_law_of (a0 : Option Addr) (n0 c0 : Nat) (z0 : List Int) (a1 : Option Addr) (n1 c1 : Nat) (z1 : List Int) (p2 : Int) (L : List Int) (w : World) (hs0 : SrcI w a0 n0 z0) (hn0 : n0 ≤ 1048576) (hs1 : SrcI w a1 n1 z1) (hn1 : n1 ≤ 1048576) (hL : L.length ≤ 4000000)
    (h1 : ∀ (W : World) (b0 : Option Addr) (d0 : Nat) (b1 : Option Addr) (d1 : Nat), n0 ≤ d0 → d0 ≤ 9223372036854775807 → n1 ≤ d1 → d1 ≤ 9223372036854775807 → SrcI W b0 n0 z0 → SrcI W b1 n1 z1 → Calls Try.prog 14 #[.slice b0 n0 d0, .slice b1 n1 d1, .int .i64 p2] W (GivesI L W))
    (h2 : ∀ (W : World) (b0 : Option Addr) (d0 : Nat) (b1 : Option Addr) (d1 : Nat), n0 ≤ d0 → d0 ≤ 9223372036854775807 → n1 ≤ d1 → d1 ≤ 9223372036854775807 → SrcI W b0 n0 z0 → SrcI W b1 n1 z1 → Calls Try.prog 12 #[.slice b0 n0 d0, .slice b1 n1 d1, .int .i64 p2] W (GivesC L W)) :
    Calls Try.prog 8 #[.slice a0 n0 c0, .slice a1 n1 c1, .int .i64 p2] w fun e w' => e = .returned (.bool true) ∧ Below w.heap.size w w' := by
  have K1 := Lib.hid h1
  have K2 := Lib.hid h2
  have HS0 := Lib.hid hs0
  have HZ0 := Lib.hid hs0.len
  have HS1 := Lib.hid hs1
  have HZ1 := Lib.hid hs1.len
  clear h1 h2 hs0 hs1
  go_enter Try.func8, Try.ntmps8
  have BW_0 : Hid (Below w.heap.size w w) := Lib.hid (Below.refl _ _)
  go_wp2_with fail
  refine (toInts_any a0 n0 c0 z0 _ (HS0.out.later BW_0.out) (by omega)).mono ?_
  rintro e w1 ⟨rfl, ho, hb⟩
  have LT_w1 : Hid (w.heap.size < w1.heap.size) := Lib.hid (own_lt ho)
  have BW_1 : Hid (Below w.heap.size w w1) := Lib.hid (BW_0.out.trans (hb.mono BW_0.out.size))
  have SZ_w1 : Hid (w.heap.size ≤ w1.heap.size) := Lib.hid hb.size
  clear hb BW_0
  have Y0_0 := Lib.hid (ho)
  clear ho
  go_wp2_with fail
  refine (toInts_any a1 n1 c1 z1 _ (HS1.out.later BW_1.out) (by omega)).mono ?_
  rintro e w2 ⟨rfl, ho, hb⟩
  have LT_w2 : Hid (w1.heap.size < w2.heap.size) := Lib.hid (own_lt ho)
  have Y0_1 := Lib.hid (own_below Y0_0.out hb)
  have BW_2 : Hid (Below w.heap.size w w2) := Lib.hid (BW_1.out.trans (hb.mono BW_1.out.size))
  have SZ_w2 : Hid (w1.heap.size ≤ w2.heap.size) := Lib.hid hb.size
  clear hb Y0_0 BW_1
  have Y1_0 := Lib.hid (ho)
  clear ho
  go_wp2_with fail
  refine (K1.out _ _ _ _ _ (Nat.le_refl _) (by omega) (Nat.le_refl _) (by omega) (srcI_of_own Y0_1.out) (srcI_of_own Y1_0.out)).mono ?_
  rintro e w3 ⟨v, rfl, ho, hb⟩
  have Y0_2 := Lib.hid (own_below Y0_1.out hb)
  have Y1_1 := Lib.hid (own_below Y1_0.out hb)
  have BW_3 : Hid (Below w.heap.size w w3) := Lib.hid (BW_2.out.trans (hb.mono BW_2.out.size))
  have SZ_w3 : Hid (w2.heap.size ≤ w3.heap.size) := Lib.hid hb.size
  clear hb Y0_1 Y1_0 BW_2
  have Ov_0 := Lib.hid (ownT_of_own ho)
  clear ho
  clear Y0_2
  clear Y1_1
  go_wp2_with fail
  refine (toInts_any a0 n0 c0 z0 _ (HS0.out.later BW_3.out) (by omega)).mono ?_
  rintro e w4 ⟨rfl, ho, hb⟩
  have LT_w4 : Hid (w3.heap.size < w4.heap.size) := Lib.hid (own_lt ho)
  have Ov_1 := Lib.hid (OwnT.below Ov_0.out hb)
  have BW_4 : Hid (Below w.heap.size w w4) := Lib.hid (BW_3.out.trans (hb.mono BW_3.out.size))
  have SZ_w4 : Hid (w3.heap.size ≤ w4.heap.size) := Lib.hid hb.size
  clear hb Ov_0 BW_3
  have X0_0 := Lib.hid (ho)
  clear ho
  go_wp2_with fail
  refine (toInts_any a1 n1 c1 z1 _ (HS1.out.later BW_4.out) (by omega)).mono ?_
  rintro e w5 ⟨rfl, ho, hb⟩
  have LT_w5 : Hid (w4.heap.size < w5.heap.size) := Lib.hid (own_lt ho)
  have Ov_2 := Lib.hid (OwnT.below Ov_1.out hb)
  have X0_1 := Lib.hid (own_below X0_0.out hb)
  have BW_5 : Hid (Below w.heap.size w w5) := Lib.hid (BW_4.out.trans (hb.mono BW_4.out.size))
  have SZ_w5 : Hid (w4.heap.size ≤ w5.heap.size) := Lib.hid hb.size
  clear hb Ov_1 X0_0 BW_4
  have X1_0 := Lib.hid (ho)
  clear ho
  go_wp2_with fail
  refine (K2.out _ _ _ _ _ (Nat.le_refl _) (by omega) (Nat.le_refl _) (by omega) (srcI_of_own X0_1.out) (srcI_of_own X1_0.out)).mono ?_
  rintro e w6 ⟨g, rfl, ho, hb⟩
  have Ov_3 := Lib.hid (OwnT.below Ov_2.out hb)
  have X0_2 := Lib.hid (own_below X0_1.out hb)
  have X1_1 := Lib.hid (own_below X1_0.out hb)
  have BW_6 : Hid (Below w.heap.size w w6) := Lib.hid (BW_5.out.trans (hb.mono BW_5.out.size))
  have SZ_w6 : Hid (w5.heap.size ≤ w6.heap.size) := Lib.hid hb.size
  clear hb Ov_2 X0_1 X1_0 BW_5
  have Og_0 := Lib.hid (ownT_of_C ho)
  clear ho
  go_wp2_with fail
  refine (eqT _ _ _ _ _ _ _ L _ rfl (by omega) Og_0.out Ov_3.out).mono ?_
  rintro e w7 ⟨rfl, m6_81, rfl⟩
  have Ov_4 := Lib.hid (OwnT.draws Ov_3.out m6_81)
  have X0_3 := Lib.hid (own_draws' X0_2.out m6_81)
  have X1_2 := Lib.hid (own_draws' X1_1.out m6_81)
  have Og_1 := Lib.hid (OwnT.draws Og_0.out m6_81)
  have BW_7 := Lib.hid (below_draws' BW_6.out m6_81)
  clear Ov_3 X0_2 X1_1 Og_0 BW_6
  go_wp2_with fail
  refine (toInts_any a0 n0 c0 z0 _ (HS0.out.later BW_7.out) (by omega)).mono ?_
  rintro e w8 ⟨rfl, ho, hb⟩
  have LT_w8 : Hid (w6.heap.size < w8.heap.size) := Lib.hid (own_lt ho)
  have Ov_5 := Lib.hid (OwnT.below Ov_4.out hb)
  have X0_4 := Lib.hid (own_below X0_3.out hb)
  have X1_3 := Lib.hid (own_below X1_2.out hb)
  have Og_2 := Lib.hid (OwnT.below Og_1.out hb)
  have BW_8 : Hid (Below w.heap.size w w8) := Lib.hid (BW_7.out.trans (hb.mono BW_7.out.size))
  have SZ_w8 : Hid (w6.heap.size ≤ w8.heap.size) := Lib.hid hb.size
  clear hb Ov_4 X0_3 X1_2 Og_1 BW_7
  have Z0_0 := Lib.hid (ho)
  clear ho
  go_wp2_with fail
  refine (eqT _ _ _ _ _ _ _ z0 _ HZ0.out (by omega) (ownT_of_own X0_4.out) (ownT_of_own Z0_0.out)).mono ?_
  rintro e w9 ⟨rfl, m8_103, rfl⟩
  have Ov_6 := Lib.hid (OwnT.draws Ov_5.out m8_103)
  have X0_5 := Lib.hid (own_draws' X0_4.out m8_103)
  have X1_4 := Lib.hid (own_draws' X1_3.out m8_103)
  have Og_3 := Lib.hid (OwnT.draws Og_2.out m8_103)
  have Z0_1 := Lib.hid (own_draws' Z0_0.out m8_103)
  have BW_9 := Lib.hid (below_draws' BW_8.out m8_103)
  clear Ov_5 X0_4 X1_3 Og_2 Z0_0 BW_8
  clear Z0_1
  go_wp2_with fail
  refine (toInts_any a1 n1 c1 z1 _ (HS1.out.later BW_9.out) (by omega)).mono ?_
  rintro e w10 ⟨rfl, ho, hb⟩
  have LT_w10 : Hid (w8.heap.size < w10.heap.size) := Lib.hid (own_lt ho)
  have Ov_7 := Lib.hid (OwnT.below Ov_6.out hb)
  have X0_6 := Lib.hid (own_below X0_5.out hb)
  have X1_5 := Lib.hid (own_below X1_4.out hb)
  have Og_4 := Lib.hid (OwnT.below Og_3.out hb)
  have BW_10 : Hid (Below w.heap.size w w10) := Lib.hid (BW_9.out.trans (hb.mono BW_9.out.size))
  have SZ_w10 : Hid (w8.heap.size ≤ w10.heap.size) := Lib.hid hb.size
  clear hb Ov_6 X0_5 X1_4 Og_3 BW_9
  have Z1_0 := Lib.hid (ho)
  clear ho
  go_wp2_with fail
  refine (eqT _ _ _ _ _ _ _ z1 _ HZ1.out (by omega) (ownT_of_own X1_5.out) (ownT_of_own Z1_0.out)).mono ?_
  rintro e w11 ⟨rfl, m10_127, rfl⟩
  have Ov_8 := Lib.hid (OwnT.draws Ov_7.out m10_127)
  have X0_7 := Lib.hid (own_draws' X0_6.out m10_127)
  have X1_6 := Lib.hid (own_draws' X1_5.out m10_127)
  have Og_5 := Lib.hid (OwnT.draws Og_4.out m10_127)
  have Z1_1 := Lib.hid (own_draws' Z1_0.out m10_127)
  have BW_11 := Lib.hid (below_draws' BW_10.out m10_127)
  clear Ov_7 X0_6 X1_5 Og_4 Z1_0 BW_10
  clear Z1_1
  go_wp2_with fail
  refine (markIntsB_any w3.heap.size _ n0 1 _ _ (by omega) X0_7.out).mono ?_
  rintro e w12 ⟨_, rfl, _, _, hb, hk⟩
  have Ov_9 := Lib.hid (OwnT.kept Ov_8.out (fun g h1 h2 => hk g (by intro h; have h3 : w3.heap.size = g := Option.some.inj h; have := LT_w1.out; have := SZ_w1.out; have := LT_w2.out; have := SZ_w2.out; have := SZ_w3.out; have := LT_w4.out; have := SZ_w4.out; have := LT_w5.out; have := SZ_w5.out; have := SZ_w6.out; have := LT_w8.out; have := SZ_w8.out; have := LT_w10.out; have := SZ_w10.out; omega)))
  have X1_7 := Lib.hid (own_kept X1_6.out (fun g h1 => hk g (by intro h; have h3 : w3.heap.size = g := Option.some.inj h; have h4 : w4.heap.size = g := Option.some.inj h1; have := LT_w1.out; have := SZ_w1.out; have := LT_w2.out; have := SZ_w2.out; have := SZ_w3.out; have := LT_w4.out; have := SZ_w4.out; have := LT_w5.out; have := SZ_w5.out; have := SZ_w6.out; have := LT_w8.out; have := SZ_w8.out; have := LT_w10.out; have := SZ_w10.out; omega)))
  have Og_6 := Lib.hid (OwnT.kept Og_5.out (fun g h1 h2 => hk g (by intro h; have h3 : w3.heap.size = g := Option.some.inj h; have := LT_w1.out; have := SZ_w1.out; have := LT_w2.out; have := SZ_w2.out; have := SZ_w3.out; have := LT_w4.out; have := SZ_w4.out; have := LT_w5.out; have := SZ_w5.out; have := SZ_w6.out; have := LT_w8.out; have := SZ_w8.out; have := LT_w10.out; have := SZ_w10.out; omega)))
  have BW_12 : Hid (Below w.heap.size w w12) := Lib.hid (BW_11.out.trans (hb.mono (by have := LT_w1.out; have := SZ_w1.out; have := LT_w2.out; have := SZ_w2.out; have := SZ_w3.out; have := LT_w4.out; have := SZ_w4.out; have := LT_w5.out; have := SZ_w5.out; have := SZ_w6.out; have := LT_w8.out; have := SZ_w8.out; have := LT_w10.out; have := SZ_w10.out; have := BW_11.out.size; omega)))
  have SZ_w12 : Hid (w10.heap.size ≤ w12.heap.size) := Lib.hid hb.size
  clear hb hk X0_7 Ov_8 X1_6 Og_5 BW_11
  have hp0 : ¬ (((1 : Nat) : Int) + (n0 : Int) < 0) := by omega
  go_wp2_with fail
  refine (markIntsB_any w4.heap.size _ n1 (1 + n0) _ _ (by omega) X1_7.out).mono ?_
  rintro e w13 ⟨_, rfl, _, _, hb, hk⟩
  have Ov_10 := Lib.hid (OwnT.kept Ov_9.out (fun g h1 h2 => hk g (by intro h; have h3 : w4.heap.size = g := Option.some.inj h; have := LT_w1.out; have := SZ_w1.out; have := LT_w2.out; have := SZ_w2.out; have := SZ_w3.out; have := LT_w4.out; have := SZ_w4.out; have := LT_w5.out; have := SZ_w5.out; have := SZ_w6.out; have := LT_w8.out; have := SZ_w8.out; have := LT_w10.out; have := SZ_w10.out; have := SZ_w12.out; omega)))
  have Og_7 := Lib.hid (OwnT.kept Og_6.out (fun g h1 h2 => hk g (by intro h; have h3 : w4.heap.size = g := Option.some.inj h; have := LT_w1.out; have := SZ_w1.out; have := LT_w2.out; have := SZ_w2.out; have := SZ_w3.out; have := LT_w4.out; have := SZ_w4.out; have := LT_w5.out; have := SZ_w5.out; have := SZ_w6.out; have := LT_w8.out; have := SZ_w8.out; have := LT_w10.out; have := SZ_w10.out; have := SZ_w12.out; omega)))
  have BW_13 : Hid (Below w.heap.size w w13) := Lib.hid (BW_12.out.trans (hb.mono (by have := LT_w1.out; have := SZ_w1.out; have := LT_w2.out; have := SZ_w2.out; have := SZ_w3.out; have := LT_w4.out; have := SZ_w4.out; have := LT_w5.out; have := SZ_w5.out; have := SZ_w6.out; have := LT_w8.out; have := SZ_w8.out; have := LT_w10.out; have := SZ_w10.out; have := SZ_w12.out; have := BW_12.out.size; omega)))
  have SZ_w13 : Hid (w12.heap.size ≤ w13.heap.size) := Lib.hid hb.size
  clear hb hk X1_7 Ov_9 Og_6 BW_12
  have hp1 : ¬ (((1 : Nat) : Int) + (n0 : Int) + (n1 : Int) < 0) := by omega
  have hpk : ¬ ((1 : Int) + (n0 : Int) + (n1 : Int) < 0) := by omega
  go_wp2_with fail
  refine (eqT _ _ _ _ _ _ _ L _ rfl (by omega) Og_7.out Ov_10.out).mono ?_
  rintro e w14 ⟨rfl, m13_158, rfl⟩
  have Ov_11 := Lib.hid (OwnT.draws Ov_10.out m13_158)
  have Og_8 := Lib.hid (OwnT.draws Og_7.out m13_158)
  have BW_14 := Lib.hid (below_draws' BW_13.out m13_158)
  clear Ov_10 Og_7 BW_13
  go_wp2_with fail
  refine (markIntsC_any w5.heap.size _ L.length 1 (icells L) _ (by omega) Og_8.out.toC).mono ?_
  rintro e w15 ⟨ys, rfl, hog, hmg, hb⟩
  have Ov_12 := Lib.hid (OwnT.kept Ov_11.out (fun g h1 h2 => hb.block g (by have := LT_w1.out; have := SZ_w1.out; have := LT_w2.out; have := SZ_w2.out; have := SZ_w3.out; have := LT_w4.out; have := SZ_w4.out; have := LT_w5.out; have := SZ_w5.out; have := SZ_w6.out; have := LT_w8.out; have := SZ_w8.out; have := LT_w10.out; have := SZ_w10.out; have := SZ_w12.out; have := SZ_w13.out; omega)))
  clear Ov_11
  have BW_15 : Hid (Below w.heap.size w w15) := Lib.hid (BW_14.out.trans (hb.mono (by have := LT_w1.out; have := SZ_w1.out; have := LT_w2.out; have := SZ_w2.out; have := SZ_w3.out; have := LT_w4.out; have := SZ_w4.out; have := LT_w5.out; have := SZ_w5.out; have := SZ_w6.out; have := LT_w8.out; have := SZ_w8.out; have := LT_w10.out; have := SZ_w10.out; have := SZ_w12.out; have := SZ_w13.out; omega)))
  have SZ_w15 : Hid (w13.heap.size ≤ w15.heap.size) := Lib.hid hb.size
  have HM := Lib.hid hmg
  clear BW_14 hmg hb Og_8
  have Og_9 := Lib.hid (hog)
  clear hog
  go_wp2_with fail
  refine (heldIntsC_any w5.heap.size _ L.length 1 ys _ (by omega) Og_9.out HM.out).mono ?_
  rintro e w16 ⟨rfl, hww⟩
  subst hww
  have hpg : ¬ ((1 : Int) + (L.length : Int) < 0) := by omega
  go_wp2_with fail
  refine (toInts_any a0 n0 c0 z0 _ (HS0.out.later BW_15.out) (by omega)).mono ?_
  rintro e w17 ⟨rfl, ho, hb⟩
  have LT_w17 : Hid (w16.heap.size < w17.heap.size) := Lib.hid (own_lt ho)
  have Ov_13 := Lib.hid (OwnT.below Ov_12.out hb)
  have Og_10 := Lib.hid (OwnC.below Og_9.out hb)
  have BW_16 : Hid (Below w.heap.size w w17) := Lib.hid (BW_15.out.trans (hb.mono BW_15.out.size))
  have SZ_w17 : Hid (w16.heap.size ≤ w17.heap.size) := Lib.hid hb.size
  clear hb Ov_12 Og_9 BW_15
  have U0_0 := Lib.hid (ho)
  clear ho
  go_wp2_with fail
  refine (toInts_any a1 n1 c1 z1 _ (HS1.out.later BW_16.out) (by omega)).mono ?_
  rintro e w18 ⟨rfl, ho, hb⟩
  have LT_w18 : Hid (w17.heap.size < w18.heap.size) := Lib.hid (own_lt ho)
  have Ov_14 := Lib.hid (OwnT.below Ov_13.out hb)
  have Og_11 := Lib.hid (OwnC.below Og_10.out hb)
  have U0_1 := Lib.hid (own_below U0_0.out hb)
  have BW_17 : Hid (Below w.heap.size w w18) := Lib.hid (BW_16.out.trans (hb.mono BW_16.out.size))
  have SZ_w18 : Hid (w17.heap.size ≤ w18.heap.size) := Lib.hid hb.size
  clear hb Ov_13 Og_10 U0_0 BW_16
  have U1_0 := Lib.hid (ho)
  clear ho
  go_wp2_with fail
  refine (K2.out _ _ _ _ _ (Nat.le_refl _) (by omega) (Nat.le_refl _) (by omega) (srcI_of_own U0_1.out) (srcI_of_own U1_0.out)).mono ?_
  rintro e w19 ⟨h, rfl, ho, hb⟩
  have Ov_15 := Lib.hid (OwnT.below Ov_14.out hb)
  have Og_12 := Lib.hid (OwnC.below Og_11.out hb)
  have U0_2 := Lib.hid (own_below U0_1.out hb)
  have U1_1 := Lib.hid (own_below U1_0.out hb)
  have BW_18 : Hid (Below w.heap.size w w19) := Lib.hid (BW_17.out.trans (hb.mono BW_17.out.size))
  have SZ_w19 : Hid (w18.heap.size ≤ w19.heap.size) := Lib.hid hb.size
  clear hb Ov_14 Og_11 U0_1 U1_0 BW_17
  have Oh_0 := Lib.hid (ownT_of_C ho)
  clear ho
  go_wp2_with fail
  refine (eqT _ _ _ _ _ _ _ L _ rfl (by omega) Oh_0.out Ov_15.out).mono ?_
  rintro e w20 ⟨rfl, m19_215, rfl⟩
  have Ov_16 := Lib.hid (OwnT.draws Ov_15.out m19_215)
  have Og_13 := Lib.hid (OwnC.draws Og_12.out m19_215)
  have U0_3 := Lib.hid (own_draws' U0_2.out m19_215)
  have U1_2 := Lib.hid (own_draws' U1_1.out m19_215)
  have Oh_1 := Lib.hid (OwnT.draws Oh_0.out m19_215)
  have BW_19 := Lib.hid (below_draws' BW_18.out m19_215)
  clear Ov_15 Og_12 U0_2 U1_1 Oh_0 BW_18
  go_wp2_with fail
  refine (heldIntsC_any w5.heap.size _ L.length 1 ys _ (by omega) Og_13.out HM.out).mono ?_
  rintro e w21 ⟨rfl, hww⟩
  subst hww
  go_wp2
  go_ret
  exact ⟨rfl, BW_19.out⟩

set_option maxRecDepth 100000 in
set_option maxHeartbeats 1000000 in
theorem withState_law (a0 : Option Addr) (n0 c0 : Nat) (z0 : List Int) (a1 : Option Addr) (n1 c1 : Nat) (z1 : List Int) (p2 : Int) (w : World) (hs0 : SrcI w a0 n0 z0) (hl0 : n0 ≤ 9223372036854775807) (hs1 : SrcI w a1 n1 z1) (hl1 : n1 ≤ 9223372036854775807) :
    Calls Try.prog 8 #[.slice a0 n0 c0, .slice a1 n1 c1, .int .i64 p2] w fun e w' => e = .returned (.bool true) ∧ Below w.heap.size w w' := by
  by_cases hn0 : n0 ≤ 1048576
  case neg =>
    have hn' : 1048576 < n0 := by omega
    go_enter Try.func8, Try.ntmps8
    go_wp2
    go_ret
    exact ⟨rfl, Below.refl _ _⟩
  by_cases hn1 : n1 ≤ 1048576
  case neg =>
    have hn' : 1048576 < n1 := by omega
    have hm0 : ¬ (1048576 < n0) := by omega
    go_enter Try.func8, Try.ntmps8
    go_wp2
    go_ret
    exact ⟨rfl, Below.refl _ _⟩
  exact withState_law_of a0 n0 c0 z0 a1 n1 c1 z1 p2 (setAll z0 z1 p2) w hs0 hn0 hs1 hn1 (by rw [setAll_len, hs0.len]; omega) (fun W b d b2 d2 _ _ _ _ h h2 => specWithSt_any b b2 n0 d n1 d2 z0 z1 p2 W h h2 (by omega) (by omega)) (fun W b d b2 d2 h1 h3 _ _ h h2 => implWithSt_any b b2 n0 d n1 d2 z0 z1 p2 W h3 h1 h h2 (by omega) (by omega))
end Go.Proofs.Ytppdjhchangikaa
