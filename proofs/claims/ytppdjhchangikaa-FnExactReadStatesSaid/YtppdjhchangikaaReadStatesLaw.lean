/- FnExactReadStates: the law's walk. -/
import Derived.Test.YtppdjhchangikaaStImplD
import Derived.Test.YtppdjhchangikaaStSpecD
import Derived.Test.YtppdjhchangikaaIntsB
import Derived.Test.YtppdjhchangikaaOwnC
import Derived.Test.YtppdjhchangikaaEqTT
import Derived.Test.YtppdjhchangikaaTexts
import Derived.Test.YtppdjhchangikaaMarkTexts
import Derived.Test.YtppdjhchangikaaDrewsS
namespace Go.Proofs.Ytppdjhchangikaa
open Go.RowKit Go.Proofs.Ytppdjhchangikaa.Parts Go.Proofs.Ytppdjhchangikaa.Hexa Go.Proofs.Ytppdjhchangikaa.Byt

set_option maxRecDepth 100000 in
set_option maxHeartbeats 4000000 in
theorem readStates_law_of (a0 : Option Addr) (n0 c0 : Nat) (z0 : List ByteArray) (p1 : Int) (L : List Int) (bb : Bool) (w : World) (hs0 : SrcT w a0 n0 z0) (hm0 : FitT2 z0 n0 maxLen) (hl0 : n0 ≤ 9223372036854775807) (hL : L.length ≤ 4000000)
    (h1 : ∀ (W : World) (b0 : Option Addr) (d0 : Nat), n0 ≤ d0 → d0 ≤ 9223372036854775807 → SrcT W b0 n0 z0 → (∀ j, j < n0 → (z0.getD j default).size ≤ 1048576) → Calls Try.prog 30 #[.slice b0 n0 d0, .int .i64 p1] W (GivesIB L bb W))
    (h2 : ∀ (W : World) (b0 : Option Addr) (d0 : Nat), n0 ≤ d0 → d0 ≤ 9223372036854775807 → SrcT W b0 n0 z0 → (∀ j, j < n0 → (z0.getD j default).size ≤ 1048576) → Calls Try.prog 17 #[.slice b0 n0 d0, .int .i64 p1] W (GivesCB L bb W)) :
    Calls Try.prog 6 #[.slice a0 n0 c0, .int .i64 p1] w fun e w' => e = .returned (.bool true) ∧ Below w.heap.size w w' := by
  have K1 := Lib.hid h1
  have K2 := Lib.hid h2
  have HS0 := Lib.hid hs0
  have HZ0 := Lib.hid hs0.len
  have HM0 := Lib.hid hm0
  clear hm0
  clear h1 h2 hs0
  go_enter Try.func6, Try.ntmps6
  go_wp2_with fail
  refine (szTexts_any a0 n0 c0 z0 _ _ (by decide) (by decide) HS0.out hl0 HM0.out).mono ?_
  rintro e w1x ⟨r, rfl, hr | ⟨h0, _, hn0, hf2⟩, hww⟩
  · rw [hww]
    go_wp2
    go_ret
    exact ⟨rfl, Below.refl _ _⟩
  have HF0 : Hid (∀ j, j < n0 → (z0.getD j default).size ≤ 1048576) := Lib.hid hf2
  have hr : ¬ (r < 0) := by omega
  clear h0 hf2 hl0
  have BW_0 : Hid (Below w.heap.size w w) := Lib.hid (Below.refl _ _)
  rw [hww]
  clear hww
  go_wp2_with fail
  refine (toTexts_any a0 n0 c0 z0 _ (HS0.out.later BW_0.out) (by omega)).mono ?_
  rintro e w1 ⟨rfl, ho, hb⟩
  have LT_w1 : Hid (w.heap.size < w1.heap.size) := Lib.hid (own_lt ho)
  have BW_1 : Hid (Below w.heap.size w w1) := Lib.hid (BW_0.out.trans (hb.mono BW_0.out.size))
  have SZ_w1 : Hid (w.heap.size ≤ w1.heap.size) := Lib.hid hb.size
  clear hb BW_0
  have Y0_0 := Lib.hid (ho)
  clear ho
  go_wp2_with fail
  refine (K1.out _ _ _ (Nat.le_refl _) (by omega) (srcT_of_own Y0_0.out) HF0.out).mono ?_
  rintro e w2 ⟨v, rfl, ho, hb⟩
  have Y0_1 := Lib.hid (own_below Y0_0.out hb)
  have BW_2 : Hid (Below w.heap.size w w2) := Lib.hid (BW_1.out.trans (hb.mono BW_1.out.size))
  have SZ_w2 : Hid (w1.heap.size ≤ w2.heap.size) := Lib.hid hb.size
  clear hb Y0_0 BW_1
  have Ov_0 := Lib.hid (ownT_of_own ho)
  clear ho
  clear Y0_1
  go_wp2_with fail
  refine (toTexts_any a0 n0 c0 z0 _ (HS0.out.later BW_2.out) (by omega)).mono ?_
  rintro e w3 ⟨rfl, ho, hb⟩
  have LT_w3 : Hid (w2.heap.size < w3.heap.size) := Lib.hid (own_lt ho)
  have Ov_1 := Lib.hid (OwnT.below Ov_0.out hb)
  have BW_3 : Hid (Below w.heap.size w w3) := Lib.hid (BW_2.out.trans (hb.mono BW_2.out.size))
  have SZ_w3 : Hid (w2.heap.size ≤ w3.heap.size) := Lib.hid hb.size
  clear hb Ov_0 BW_2
  have X0_0 := Lib.hid (ho)
  clear ho
  go_wp2_with fail
  refine (K2.out _ _ _ (Nat.le_refl _) (by omega) (srcT_of_own X0_0.out) HF0.out).mono ?_
  rintro e w4 ⟨g, rfl, ho, hb⟩
  have Ov_2 := Lib.hid (OwnT.below Ov_1.out hb)
  have X0_1 := Lib.hid (own_below X0_0.out hb)
  have BW_4 : Hid (Below w.heap.size w w4) := Lib.hid (BW_3.out.trans (hb.mono BW_3.out.size))
  have SZ_w4 : Hid (w3.heap.size ≤ w4.heap.size) := Lib.hid hb.size
  clear hb Ov_1 X0_0 BW_3
  have Og_0 := Lib.hid (ownT_of_C ho)
  clear ho
  go_wp2_with fail
  refine (eqT _ _ _ _ _ _ _ L _ rfl (by omega) Og_0.out Ov_2.out).mono ?_
  rintro e w5 ⟨rfl, m4_62, rfl⟩
  have Ov_3 := Lib.hid (OwnT.draws Ov_2.out m4_62)
  have X0_2 := Lib.hid (own_draws' X0_1.out m4_62)
  have Og_1 := Lib.hid (OwnT.draws Og_0.out m4_62)
  have BW_5 := Lib.hid (below_draws' BW_4.out m4_62)
  clear Ov_2 X0_1 Og_0 BW_4
  go_wp2_with fail
  refine (toTexts_any a0 n0 c0 z0 _ (HS0.out.later BW_5.out) (by omega)).mono ?_
  rintro e w6 ⟨rfl, ho, hb⟩
  have LT_w6 : Hid (w4.heap.size < w6.heap.size) := Lib.hid (own_lt ho)
  have Ov_4 := Lib.hid (OwnT.below Ov_3.out hb)
  have X0_3 := Lib.hid (own_below X0_2.out hb)
  have Og_2 := Lib.hid (OwnT.below Og_1.out hb)
  have BW_6 : Hid (Below w.heap.size w w6) := Lib.hid (BW_5.out.trans (hb.mono BW_5.out.size))
  have SZ_w6 : Hid (w4.heap.size ≤ w6.heap.size) := Lib.hid hb.size
  clear hb Ov_3 X0_2 Og_1 BW_5
  have Z0_0 := Lib.hid (ho)
  clear ho
  go_wp2_with fail
  refine (eqTT _ _ _ _ _ _ _ z0 _ HZ0.out (by omega) (ownT_of_own X0_3.out) (ownT_of_own Z0_0.out)).mono ?_
  rintro e w7 ⟨rfl, m6_82, rfl⟩
  have Ov_5 := Lib.hid (OwnT.draws Ov_4.out m6_82)
  have X0_4 := Lib.hid (own_draws' X0_3.out m6_82)
  have Og_3 := Lib.hid (OwnT.draws Og_2.out m6_82)
  have Z0_1 := Lib.hid (own_draws' Z0_0.out m6_82)
  have BW_7 := Lib.hid (below_draws' BW_6.out m6_82)
  clear Ov_4 X0_3 Og_2 Z0_0 BW_6
  clear Z0_1
  go_wp2_with fail
  refine (markTexts_some w2.heap.size n0 n0 1 _ _ (by omega) (by omega) X0_4.out).mono ?_
  rintro e w8 ⟨rfl, hb, hk⟩
  have Ov_6 := Lib.hid (OwnT.kept Ov_5.out (fun g h1 h2 => hk.block g (by intro h; have := LT_w1.out; have := SZ_w1.out; have := SZ_w2.out; have := LT_w3.out; have := SZ_w3.out; have := SZ_w4.out; have := LT_w6.out; have := SZ_w6.out; omega) (by show g < w6.heap.size; have := LT_w1.out; have := SZ_w1.out; have := SZ_w2.out; have := LT_w3.out; have := SZ_w3.out; have := SZ_w4.out; have := LT_w6.out; have := SZ_w6.out; omega)))
  have Og_4 := Lib.hid (OwnT.kept Og_3.out (fun g h1 h2 => hk.block g (by intro h; have := LT_w1.out; have := SZ_w1.out; have := SZ_w2.out; have := LT_w3.out; have := SZ_w3.out; have := SZ_w4.out; have := LT_w6.out; have := SZ_w6.out; omega) (by show g < w6.heap.size; have := LT_w1.out; have := SZ_w1.out; have := SZ_w2.out; have := LT_w3.out; have := SZ_w3.out; have := SZ_w4.out; have := LT_w6.out; have := SZ_w6.out; omega)))
  have BW_8 : Hid (Below w.heap.size w w8) := Lib.hid (BW_7.out.trans (hb.mono (by have := LT_w1.out; have := SZ_w1.out; have := SZ_w2.out; have := LT_w3.out; have := SZ_w3.out; have := SZ_w4.out; have := LT_w6.out; have := SZ_w6.out; have := BW_7.out.size; omega)))
  have SZ_w8 : Hid (w6.heap.size ≤ w8.heap.size) := Lib.hid hb.size
  clear hb hk X0_4 Ov_5 Og_3 BW_7
  have hp0 : ¬ (((1 : Nat) : Int) + (n0 : Int) < 0) := by omega
  have hpk : ¬ ((1 : Int) + (n0 : Int) < 0) := by omega
  go_wp2_with fail
  refine (eqT _ _ _ _ _ _ _ L _ rfl (by omega) Og_4.out Ov_6.out).mono ?_
  rintro e w9 ⟨rfl, m8_102, rfl⟩
  have Ov_7 := Lib.hid (OwnT.draws Ov_6.out m8_102)
  have Og_5 := Lib.hid (OwnT.draws Og_4.out m8_102)
  have BW_9 := Lib.hid (below_draws' BW_8.out m8_102)
  clear Ov_6 Og_4 BW_8
  go_wp2_with fail
  refine (markIntsC_any w3.heap.size _ L.length 1 (icells L) _ (by omega) Og_5.out.toC).mono ?_
  rintro e w10 ⟨ys, rfl, hog, hmg, hb⟩
  have Ov_8 := Lib.hid (OwnT.kept Ov_7.out (fun g h1 h2 => hb.block g (by have := LT_w1.out; have := SZ_w1.out; have := SZ_w2.out; have := LT_w3.out; have := SZ_w3.out; have := SZ_w4.out; have := LT_w6.out; have := SZ_w6.out; have := SZ_w8.out; omega)))
  clear Ov_7
  have BW_10 : Hid (Below w.heap.size w w10) := Lib.hid (BW_9.out.trans (hb.mono (by have := LT_w1.out; have := SZ_w1.out; have := SZ_w2.out; have := LT_w3.out; have := SZ_w3.out; have := SZ_w4.out; have := LT_w6.out; have := SZ_w6.out; have := SZ_w8.out; omega)))
  have SZ_w10 : Hid (w8.heap.size ≤ w10.heap.size) := Lib.hid hb.size
  have HM := Lib.hid hmg
  clear BW_9 hmg hb Og_5
  have Og_6 := Lib.hid (hog)
  clear hog
  go_wp2_with fail
  refine (heldIntsC_any w3.heap.size _ L.length 1 ys _ (by omega) Og_6.out HM.out).mono ?_
  rintro e w11 ⟨rfl, hww⟩
  subst hww
  have hpg : ¬ ((1 : Int) + (L.length : Int) < 0) := by omega
  go_wp2_with fail
  refine (toTexts_any a0 n0 c0 z0 _ (HS0.out.later BW_10.out) (by omega)).mono ?_
  rintro e w12 ⟨rfl, ho, hb⟩
  have LT_w12 : Hid (w11.heap.size < w12.heap.size) := Lib.hid (own_lt ho)
  have Ov_9 := Lib.hid (OwnT.below Ov_8.out hb)
  have Og_7 := Lib.hid (OwnC.below Og_6.out hb)
  have BW_11 : Hid (Below w.heap.size w w12) := Lib.hid (BW_10.out.trans (hb.mono BW_10.out.size))
  have SZ_w12 : Hid (w11.heap.size ≤ w12.heap.size) := Lib.hid hb.size
  clear hb Ov_8 Og_6 BW_10
  have U0_0 := Lib.hid (ho)
  clear ho
  go_wp2_with fail
  refine (K2.out _ _ _ (Nat.le_refl _) (by omega) (srcT_of_own U0_0.out) HF0.out).mono ?_
  rintro e w13 ⟨h, rfl, ho, hb⟩
  have Ov_10 := Lib.hid (OwnT.below Ov_9.out hb)
  have Og_8 := Lib.hid (OwnC.below Og_7.out hb)
  have U0_1 := Lib.hid (own_below U0_0.out hb)
  have BW_12 : Hid (Below w.heap.size w w13) := Lib.hid (BW_11.out.trans (hb.mono BW_11.out.size))
  have SZ_w13 : Hid (w12.heap.size ≤ w13.heap.size) := Lib.hid hb.size
  clear hb Ov_9 Og_7 U0_0 BW_11
  have Oh_0 := Lib.hid (ownT_of_C ho)
  clear ho
  go_wp2_with fail
  refine (eqT _ _ _ _ _ _ _ L _ rfl (by omega) Oh_0.out Ov_10.out).mono ?_
  rintro e w14 ⟨rfl, m13_146, rfl⟩
  have Ov_11 := Lib.hid (OwnT.draws Ov_10.out m13_146)
  have Og_9 := Lib.hid (OwnC.draws Og_8.out m13_146)
  have U0_2 := Lib.hid (own_draws' U0_1.out m13_146)
  have Oh_1 := Lib.hid (OwnT.draws Oh_0.out m13_146)
  have BW_13 := Lib.hid (below_draws' BW_12.out m13_146)
  clear Ov_10 Og_8 U0_1 Oh_0 BW_12
  go_wp2_with fail
  refine (heldIntsC_any w3.heap.size _ L.length 1 ys _ (by omega) Og_9.out HM.out).mono ?_
  rintro e w15 ⟨rfl, hww⟩
  subst hww
  go_wp2
  go_ret
  exact ⟨rfl, BW_13.out⟩

theorem readStates_law (a0 : Option Addr) (n0 c0 : Nat) (z0 : List ByteArray) (p1 : Int) (w : World) (hs0 : SrcT w a0 n0 z0) (hm0 : FitT2 z0 n0 maxLen) (hl0 : n0 ≤ 9223372036854775807) :
    Calls Try.prog 6 #[.slice a0 n0 c0, .int .i64 p1] w fun e w' => e = .returned (.bool true) ∧ Below w.heap.size w w' :=
  readStates_law_of a0 n0 c0 z0 p1 (rdR z0 p1) (rdB z0 p1) w hs0 hm0 hl0 (by have := rdR_len z0 p1; omega) (fun W b d _ _ h hf => specReadSt_any b n0 d z0 p1 W h (fun j hj => Nat.le_trans (hf j hj) (by decide))) (fun W b d _ _ h hf => implReadSt_any b n0 d z0 p1 W h (fun j hj => Nat.le_trans (hf j hj) (by decide)))
end Go.Proofs.Ytppdjhchangikaa
