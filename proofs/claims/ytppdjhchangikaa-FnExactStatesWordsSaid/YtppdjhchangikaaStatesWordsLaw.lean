/- FnExactStatesWords: the law's walk. -/
import Derived.Test.YtppdjhchangikaaStImplC
import Derived.Test.YtppdjhchangikaaIntsB
import Derived.Test.YtppdjhchangikaaOwnC
import Derived.Test.YtppdjhchangikaaEqTT
import Derived.Test.YtppdjhchangikaaMarkStr
import Derived.Test.YtppdjhchangikaaDrewsS
namespace Go.Proofs.Ytppdjhchangikaa
open Go.RowKit Go.Proofs.Ytppdjhchangikaa.Parts Go.Proofs.Ytppdjhchangikaa.Hexa Go.Proofs.Ytppdjhchangikaa.Byt

set_option maxRecDepth 100000 in
set_option maxHeartbeats 4000000 in
theorem statesWords_law_of (a0 : Option Addr) (n0 c0 : Nat) (z0 : List Int) (L : List ByteArray) (w : World) (hs0 : SrcI w a0 n0 z0) (hn0 : n0 ≤ 1048576) (hL : L.length ≤ 4000000)
    (h1 : ∀ (W : World) (b0 : Option Addr) (d0 : Nat), n0 ≤ d0 → d0 ≤ 9223372036854775807 → SrcI W b0 n0 z0 → Calls Try.prog 24 #[.slice b0 n0 d0] W (GivesT L W))
    (h2 : ∀ (W : World) (b0 : Option Addr) (d0 : Nat), n0 ≤ d0 → d0 ≤ 9223372036854775807 → SrcI W b0 n0 z0 → Calls Try.prog 16 #[.slice b0 n0 d0] W (GivesT L W)) :
    Calls Try.prog 5 #[.slice a0 n0 c0] w fun e w' => e = .returned (.bool true) ∧ Below w.heap.size w w' := by
  have K1 := Lib.hid h1
  have K2 := Lib.hid h2
  have HS0 := Lib.hid hs0
  have HZ0 := Lib.hid hs0.len
  clear h1 h2 hs0
  go_enter Try.func5, Try.ntmps5
  have BW_0 : Hid (Below w.heap.size w w) := Lib.hid (Below.refl _ _)
  go_wp2_with fail
  refine (toInts_any a0 n0 c0 z0 _ (HS0.out.later BW_0.out) (by omega)).mono ?_
  rintro e w1 ⟨rfl, ho, hb⟩
  have LT_w1 : Hid (w.heap.size < w1.heap.size) := Lib.hid (own_lt ho)
  have BW_1 : Hid (Below w.heap.size w w1) := Lib.hid (BW_0.out.trans (hb.mono BW_0.out.size))
  have SZ_w1 : Hid (w.heap.size ≤ w1.heap.size) := Lib.hid hb.size
  clear hb BW_0
  have Y0_0 := Lib.hid (ho)
  clear ho
  go_wp2_with fail
  refine (K1.out _ _ _ (Nat.le_refl _) (by omega) (srcI_of_own Y0_0.out)).mono ?_
  rintro e w2 ⟨v, rfl, ho, hb⟩
  have Y0_1 := Lib.hid (own_below Y0_0.out hb)
  have BW_2 : Hid (Below w.heap.size w w2) := Lib.hid (BW_1.out.trans (hb.mono BW_1.out.size))
  have SZ_w2 : Hid (w1.heap.size ≤ w2.heap.size) := Lib.hid hb.size
  clear hb Y0_0 BW_1
  have Ov_0 := Lib.hid (ownT_of_own ho)
  clear ho
  clear Y0_1
  go_wp2_with fail
  refine (toInts_any a0 n0 c0 z0 _ (HS0.out.later BW_2.out) (by omega)).mono ?_
  rintro e w3 ⟨rfl, ho, hb⟩
  have LT_w3 : Hid (w2.heap.size < w3.heap.size) := Lib.hid (own_lt ho)
  have Ov_1 := Lib.hid (OwnT.below Ov_0.out hb)
  have BW_3 : Hid (Below w.heap.size w w3) := Lib.hid (BW_2.out.trans (hb.mono BW_2.out.size))
  have SZ_w3 : Hid (w2.heap.size ≤ w3.heap.size) := Lib.hid hb.size
  clear hb Ov_0 BW_2
  have X0_0 := Lib.hid (ho)
  clear ho
  go_wp2_with fail
  refine (K2.out _ _ _ (Nat.le_refl _) (by omega) (srcI_of_own X0_0.out)).mono ?_
  rintro e w4 ⟨g, rfl, ho, hb⟩
  have Ov_2 := Lib.hid (OwnT.below Ov_1.out hb)
  have X0_1 := Lib.hid (own_below X0_0.out hb)
  have BW_4 : Hid (Below w.heap.size w w4) := Lib.hid (BW_3.out.trans (hb.mono BW_3.out.size))
  have SZ_w4 : Hid (w3.heap.size ≤ w4.heap.size) := Lib.hid hb.size
  clear hb Ov_1 X0_0 BW_3
  have Og_0 := Lib.hid (ho)
  have LG : Hid (∀ k, g.ownBlock = some k → w3.heap.size ≤ k ∧ k < w4.heap.size) := Lib.hid (fun k hk => ho.lt k hk)
  clear ho
  go_wp2_with fail
  refine (eqTT _ _ _ _ _ _ _ L _ rfl (by omega) (ownT_of_own Og_0.out) Ov_2.out).mono ?_
  rintro e w5 ⟨rfl, m4_58, rfl⟩
  have Ov_3 := Lib.hid (OwnT.draws Ov_2.out m4_58)
  have X0_2 := Lib.hid (own_draws' X0_1.out m4_58)
  have Og_1 := Lib.hid (own_draws' Og_0.out m4_58)
  have BW_5 := Lib.hid (below_draws' BW_4.out m4_58)
  clear Ov_2 X0_1 Og_0 BW_4
  go_wp2_with fail
  refine (toInts_any a0 n0 c0 z0 _ (HS0.out.later BW_5.out) (by omega)).mono ?_
  rintro e w6 ⟨rfl, ho, hb⟩
  have LT_w6 : Hid (w4.heap.size < w6.heap.size) := Lib.hid (own_lt ho)
  have Ov_4 := Lib.hid (OwnT.below Ov_3.out hb)
  have X0_3 := Lib.hid (own_below X0_2.out hb)
  have Og_2 := Lib.hid (own_below Og_1.out hb)
  have BW_6 : Hid (Below w.heap.size w w6) := Lib.hid (BW_5.out.trans (hb.mono BW_5.out.size))
  have SZ_w6 : Hid (w4.heap.size ≤ w6.heap.size) := Lib.hid hb.size
  clear hb Ov_3 X0_2 Og_1 BW_5
  have Z0_0 := Lib.hid (ho)
  clear ho
  go_wp2_with fail
  refine (eqT _ _ _ _ _ _ _ z0 _ HZ0.out (by omega) (ownT_of_own X0_3.out) (ownT_of_own Z0_0.out)).mono ?_
  rintro e w7 ⟨rfl, m6_78, rfl⟩
  have Ov_5 := Lib.hid (OwnT.draws Ov_4.out m6_78)
  have X0_4 := Lib.hid (own_draws' X0_3.out m6_78)
  have Og_3 := Lib.hid (own_draws' Og_2.out m6_78)
  have Z0_1 := Lib.hid (own_draws' Z0_0.out m6_78)
  have BW_7 := Lib.hid (below_draws' BW_6.out m6_78)
  clear Ov_4 X0_3 Og_2 Z0_0 BW_6
  clear Z0_1
  go_wp2_with fail
  refine (markIntsB_any w2.heap.size _ n0 1 _ _ (by omega) X0_4.out).mono ?_
  rintro e w8 ⟨_, rfl, _, _, hb, hk⟩
  have Ov_6 := Lib.hid (OwnT.kept Ov_5.out (fun g h1 h2 => hk g (by intro h; have h3 : w2.heap.size = g := Option.some.inj h; have := LT_w1.out; have := SZ_w1.out; have := SZ_w2.out; have := LT_w3.out; have := SZ_w3.out; have := SZ_w4.out; have := LT_w6.out; have := SZ_w6.out; omega)))
  have Og_4 := Lib.hid (own_kept Og_3.out (fun g h1 => hk g (by intro h; have h3 : w2.heap.size = g := Option.some.inj h; have h4 := LG.out g h1; have := LT_w1.out; have := SZ_w1.out; have := SZ_w2.out; have := LT_w3.out; have := SZ_w3.out; have := SZ_w4.out; have := LT_w6.out; have := SZ_w6.out; omega)))
  have BW_8 : Hid (Below w.heap.size w w8) := Lib.hid (BW_7.out.trans (hb.mono (by have := LT_w1.out; have := SZ_w1.out; have := SZ_w2.out; have := LT_w3.out; have := SZ_w3.out; have := SZ_w4.out; have := LT_w6.out; have := SZ_w6.out; have := BW_7.out.size; omega)))
  have SZ_w8 : Hid (w6.heap.size ≤ w8.heap.size) := Lib.hid hb.size
  clear hb hk X0_4 Ov_5 Og_3 BW_7
  have hp0 : ¬ (((1 : Nat) : Int) + (n0 : Int) < 0) := by omega
  have hpk : ¬ ((1 : Int) + (n0 : Int) < 0) := by omega
  go_wp2_with fail
  refine (eqTT _ _ _ _ _ _ _ L _ rfl (by omega) (ownT_of_own Og_4.out) Ov_6.out).mono ?_
  rintro e w9 ⟨rfl, m8_98, rfl⟩
  have Ov_7 := Lib.hid (OwnT.draws Ov_6.out m8_98)
  have Og_5 := Lib.hid (own_draws' Og_4.out m8_98)
  have BW_9 := Lib.hid (below_draws' BW_8.out m8_98)
  clear Ov_6 Og_4 BW_8
  go_wp2_with fail
  obtain ⟨ys0, hmk⟩ : ∃ ys, (w8.drewN m8_98).ownsRow w3.heap.size 9 1 g L.length ys := ⟨_, Og_5.out⟩
  refine (markStrings_any w3.heap.size _ L.length 1 ys0 _ (by decide) (by omega) (by have := LT_w1.out; have := SZ_w1.out; have := SZ_w2.out; have := LT_w3.out; have := SZ_w3.out; have := SZ_w4.out; have := LT_w6.out; have := SZ_w6.out; have := SZ_w8.out; simp only [drewN_size]; omega) hmk).mono ?_
  rintro e w10 ⟨ys, rfl, hog, hmg, hb⟩
  have Ov_8 := Lib.hid (OwnT.kept Ov_7.out (fun g h1 h2 => hb.block g (by have := LT_w1.out; have := SZ_w1.out; have := SZ_w2.out; have := LT_w3.out; have := SZ_w3.out; have := SZ_w4.out; have := LT_w6.out; have := SZ_w6.out; have := SZ_w8.out; omega)))
  clear Ov_7
  have BW_10 : Hid (Below w.heap.size w w10) := Lib.hid (BW_9.out.trans (hb.mono (by have := LT_w1.out; have := SZ_w1.out; have := SZ_w2.out; have := LT_w3.out; have := SZ_w3.out; have := SZ_w4.out; have := LT_w6.out; have := SZ_w6.out; have := SZ_w8.out; omega)))
  have SZ_w10 : Hid (w8.heap.size ≤ w10.heap.size) := Lib.hid hb.size
  have HM := Lib.hid hmg
  clear BW_9 hmg hb Og_5
  have Og_6 := Lib.hid (hog)
  clear hog
  go_wp2_with fail
  refine (heldStrings_any w3.heap.size _ L.length 1 ys _ (by decide) (by omega) Og_6.out HM.out).mono ?_
  rintro e w11 ⟨rfl, hb⟩
  have Ov_9 := Lib.hid (OwnT.below Ov_8.out hb)
  have Og_7 := Lib.hid (own_below Og_6.out hb)
  have BW_11 : Hid (Below w.heap.size w w11) := Lib.hid (BW_10.out.trans (hb.mono BW_10.out.size))
  have SZ_w11 : Hid (w10.heap.size ≤ w11.heap.size) := Lib.hid hb.size
  clear hb Ov_8 Og_6 BW_10
  have hpg : ¬ ((1 : Int) + (L.length : Int) < 0) := by omega
  go_wp2_with fail
  refine (toInts_any a0 n0 c0 z0 _ (HS0.out.later BW_11.out) (by omega)).mono ?_
  rintro e w12 ⟨rfl, ho, hb⟩
  have LT_w12 : Hid (w11.heap.size < w12.heap.size) := Lib.hid (own_lt ho)
  have Ov_10 := Lib.hid (OwnT.below Ov_9.out hb)
  have Og_8 := Lib.hid (own_below Og_7.out hb)
  have BW_12 : Hid (Below w.heap.size w w12) := Lib.hid (BW_11.out.trans (hb.mono BW_11.out.size))
  have SZ_w12 : Hid (w11.heap.size ≤ w12.heap.size) := Lib.hid hb.size
  clear hb Ov_9 Og_7 BW_11
  have U0_0 := Lib.hid (ho)
  clear ho
  go_wp2_with fail
  refine (K2.out _ _ _ (Nat.le_refl _) (by omega) (srcI_of_own U0_0.out)).mono ?_
  rintro e w13 ⟨h, rfl, ho, hb⟩
  have Ov_11 := Lib.hid (OwnT.below Ov_10.out hb)
  have Og_9 := Lib.hid (own_below Og_8.out hb)
  have U0_1 := Lib.hid (own_below U0_0.out hb)
  have BW_13 : Hid (Below w.heap.size w w13) := Lib.hid (BW_12.out.trans (hb.mono BW_12.out.size))
  have SZ_w13 : Hid (w12.heap.size ≤ w13.heap.size) := Lib.hid hb.size
  clear hb Ov_10 Og_8 U0_0 BW_12
  have Oh_0 := Lib.hid (ownT_of_own ho)
  clear ho
  go_wp2_with fail
  refine (eqTT _ _ _ _ _ _ _ L _ rfl (by omega) Oh_0.out Ov_11.out).mono ?_
  rintro e w14 ⟨rfl, m13_148, rfl⟩
  have Ov_12 := Lib.hid (OwnT.draws Ov_11.out m13_148)
  have Og_10 := Lib.hid (own_draws' Og_9.out m13_148)
  have U0_2 := Lib.hid (own_draws' U0_1.out m13_148)
  have Oh_1 := Lib.hid (OwnT.draws Oh_0.out m13_148)
  have BW_14 := Lib.hid (below_draws' BW_13.out m13_148)
  clear Ov_11 Og_9 U0_1 Oh_0 BW_13
  go_wp2_with fail
  refine (heldStrings_any w3.heap.size _ L.length 1 ys _ (by decide) (by omega) Og_10.out HM.out).mono ?_
  rintro e w15 ⟨rfl, hb⟩
  have Ov_13 := Lib.hid (OwnT.below Ov_12.out hb)
  have Og_11 := Lib.hid (own_below Og_10.out hb)
  have U0_3 := Lib.hid (own_below U0_2.out hb)
  have Oh_2 := Lib.hid (OwnT.below Oh_1.out hb)
  have BW_15 : Hid (Below w.heap.size w w15) := Lib.hid (BW_14.out.trans (hb.mono BW_14.out.size))
  have SZ_w15 : Hid (w13.heap.size ≤ w15.heap.size) := Lib.hid hb.size
  clear hb Ov_12 Og_10 U0_2 Oh_1 BW_14
  go_wp2
  go_ret
  exact ⟨rfl, BW_15.out⟩

set_option maxRecDepth 100000 in
set_option maxHeartbeats 1000000 in
theorem statesWords_law (a0 : Option Addr) (n0 c0 : Nat) (z0 : List Int) (w : World) (hs0 : SrcI w a0 n0 z0) (hl0 : n0 ≤ 9223372036854775807) :
    Calls Try.prog 5 #[.slice a0 n0 c0] w fun e w' => e = .returned (.bool true) ∧ Below w.heap.size w w' := by
  by_cases hn0 : n0 ≤ 1048576
  case neg =>
    have hn' : 1048576 < n0 := by omega
    go_enter Try.func5, Try.ntmps5
    go_wp2
    go_ret
    exact ⟨rfl, Below.refl _ _⟩
  exact statesWords_law_of a0 n0 c0 z0 (stWords z0) w hs0 hn0 (by have := stWords_len z0; omega) (fun W b d _ _ h => specStWords_any b n0 d z0 W h (by omega)) (fun W b d _ _ h => implStWords_any b n0 d z0 W h (by omega))
end Go.Proofs.Ytppdjhchangikaa
