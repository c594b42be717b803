/- FnStates: the law's walk. -/
import Derived.Test.YtppdjhchangikaaDraw13
import Derived.Test.YtppdjhchangikaaStImplB
import Derived.Test.YtppdjhchangikaaStatesMath
import Derived.Test.YtppdjhchangikaaSameInts
import Derived.Deep.RegionLaw
namespace Go.Proofs.Ytppdjhchangikaa
open Go.RowKit Go.Proofs.Ytppdjhchangikaa.Parts Go.Proofs.Ytppdjhchangikaa.Hexa Go.Proofs.Ytppdjhchangikaa.Byt

theorem sameT (a1 a2 : Option Addr) (n c1 c2 B1 T1 B2 T2 : Nat) (P : List Int) (w : World) (hn : n ≤ 100000000) (hP : P.length = n) (h1 : OwnT 3 w B1 T1 (.slice a1 n c1) n (icells P)) (h2 : OwnT 3 w B2 T2 (.slice a2 n c2) n (icells P)) :
    Calls Try.prog 13 #[.slice a1 n c1, .slice a2 n c2] w fun e w' => e = .returned (.bool true) ∧ ∃ m, w' = w.drewN m := by
  obtain ⟨b1, d1, e1, r1⟩ := h1.reads
  obtain ⟨b2, d2, e2, r2⟩ := h2.reads
  cases e1; cases e2
  exact sameInts_any a1 a2 n c1 c2 P w hP hn r1 r2

set_option maxRecDepth 100000 in
set_option maxHeartbeats 4000000 in
theorem fnStates_law (ad : Option Addr) (len cap : Nat) (w : World) (hs : Draw.Src w w.heap.size ad len) :
    Calls Try.prog 3 #[.slice ad len cap] w fun e w' => e = .returned (.bool true) ∧ Below w.heap.size w w' := by
  by_cases hlen : len ≤ 1048576
  case neg =>
    have hlt : 1048576 < len := by omega
    go_enter Try.func3, Try.ntmps3
    go_wp2_with (go_at_call 10; go_in)
    go_ret
    exact ⟨rfl, Below.refl _ _⟩
  have HS := Lib.hid hs
  clear hs
  go_enter Try.func3, Try.ntmps3
  go_wp2_with (go_at_call 10; go_in)
  refine (Draw.drawWith_any ad len cap _ hlen HS.out).mono ?_
  rintro e w1 ⟨v1, v2, L, P, s, rfl, hL, hP, o1, o2, hb1⟩
  obtain ⟨n, hn⟩ : ∃ n, L.length = n := ⟨_, rfl⟩
  obtain ⟨p, hp⟩ : ∃ p, P.length = p := ⟨_, rfl⟩
  have HN := Lib.hid hn
  have HPN := Lib.hid hp
  rw [hn] at o1 hL
  rw [hp] at o2 hP
  obtain ⟨a1, c1, q1, rfl, r1⟩ := o1
  obtain ⟨a2, c2, q2, rfl, r2⟩ := o2
  have O1 : Hid (OwnT 3 w1 w.heap.size w1.heap.size (.slice a1 n c1) n (icells L)) := Lib.hid ⟨a1, c1, q1, rfl, r1⟩
  have O2 : Hid (OwnT 3 w1 w.heap.size w1.heap.size (.slice a2 p c2) p (icells P)) := Lib.hid ⟨a2, c2, q2, rfl, r2⟩
  have B1 := Lib.hid hb1
  have hc1 : c1 ≤ 9223372036854775807 := Nat.le_trans r1.2.2.1 (by decide)
  have hc2 : c2 ≤ 9223372036854775807 := Nat.le_trans r2.2.2.1 (by decide)
  have hn1 : n ≤ c1 := r1.2.1
  clear hn hp r1 r2 hb1
  go_wp2_with fail
  refine (implWithSt_any a1 a2 n c1 p c2 L P s _ hc1 hn1 (srcI_of_T O1.out).1 (srcI_of_T O2.out).1 (by omega) (by omega)).mono ?_
  rintro e w2 ⟨v3, rfl, o3, hb2⟩
  have O3 := Lib.hid (ownT_of_C o3)
  have O12 := Lib.hid (O1.out.below hb2)
  have O22 := Lib.hid (O2.out.below hb2)
  have B2 : Hid (Below w.heap.size w w2) := Lib.hid (B1.out.trans (hb2.mono B1.out.size))
  clear o3 hb2 O1 O2 B1
  go_wp2_with fail
  refine (specWithSt_any a1 a2 n c1 p c2 L P s _ (srcI_of_T O12.out).1 (srcI_of_T O22.out).1 (by omega) (by omega)).mono ?_
  rintro e w3 ⟨v4, rfl, o4, hb3⟩
  have O4 := Lib.hid (ownT_of_own o4)
  have O33 := Lib.hid (O3.out.below hb3)
  have O13 := Lib.hid (O12.out.below hb3)
  have B3 : Hid (Below w.heap.size w w3) := Lib.hid (B2.out.trans (hb3.mono B2.out.size))
  clear o4 hb3 O3 O12 O22 B2
  have hsl : (setAll L P s).length = n := by rw [setAll_len]; exact HN.out
  have HSL := Lib.hid hsl
  rw [hsl] at O4 O33
  clear hsl
  obtain ⟨a3, c3, e3, _⟩ := O33.out.reads
  obtain ⟨a4, c4, e4, _⟩ := O4.out.reads
  subst e3 e4
  go_wp2_with fail
  refine (sameT a3 a4 n c3 c4 _ _ _ _ (setAll L P s) _ (by omega) HSL.out O33.out O4.out).mono ?_
  rintro e w4 ⟨rfl, m4, rfl⟩
  have O14 := Lib.hid (O13.out.draws m4)
  have B4 := Lib.hid (below_draws' B3.out m4)
  clear O33 O4 O13 B3
  obtain ⟨W, hW⟩ : ∃ W, w3.drewN m4 = W := ⟨_, rfl⟩
  rw [hW] at O14 B4 ⊢
  clear hW
  go_wp2_with fail
  refine (specStOk_any a1 n c1 L n _ (srcI_of_T O14.out).1 (by omega)).mono ?_
  by_cases hok : StOk L n
  · have HOK := Lib.hid hok
    have HNN : Hid (StOk L L.length) := Lib.hid (by rw [HN.out]; exact hok)
    rw [stB_yes hok]
    clear hok
    rintro e w5 ⟨rfl, hw5⟩
    rw [hw5]
    clear hw5
    go_wp2_with fail
    refine (implStWords_any a1 n c1 L _ (srcI_of_T O14.out).1 (by omega)).mono ?_
    rintro e w5 ⟨v5, rfl, o5, hb5⟩
    obtain ⟨hr1, hr2⟩ := list_back HNN.out
    rw [HN.out] at hr1 hr2
    have h2 : (stWords L).length = 2 := hr1.1
    have HR := Lib.hid hr1
    have HR2 := Lib.hid hr2
    rw [h2] at o5
    obtain ⟨a5, c5, rfl, hcc5, _, _⟩ := own_form o5
    have O5 := Lib.hid o5
    have O15 := Lib.hid (O14.out.below hb5)
    have B5 : Hid (Below w.heap.size w w5) := Lib.hid (B4.out.trans (hb5.mono B4.out.size))
    clear o5 hb5 O14 B4 hr1 hr2 h2
    go_wp2_with fail
    refine (implReadSt_any a5 2 c5 (stWords L) n _ (srcT_of_own O5.out) (fun j hj => by
      obtain h | h : j = 0 ∨ j = 1 := by omega
      · subst h; rw [HR.out.2.1]; omega
      · subst h; rw [HR.out.2.2.1]; omega)).mono ?_
    rw [rdB_yes HR.out, rdR_yes HR.out, HR2.out]
    rintro e w6 ⟨v6, rfl, o6, hb6⟩
    rw [HN.out] at o6
    have O6 := Lib.hid (ownT_of_C o6)
    obtain ⟨a6, c6, e6, _⟩ := O6.out.reads
    subst e6
    have O16 := Lib.hid (O15.out.below hb6)
    have B6 : Hid (Below w.heap.size w w6) := Lib.hid (B5.out.trans (hb6.mono B5.out.size))
    clear o6 hb6 O5 O15 B5
    have HSUM := Lib.hid (three_sum HOK.out.1)
    rw [HN.out] at HSUM
    obtain ⟨m0, hm0⟩ : ∃ m, (withSt L 0 n).length = m := ⟨_, rfl⟩
    obtain ⟨m1, hm1⟩ : ∃ m, (withSt L 1 n).length = m := ⟨_, rfl⟩
    obtain ⟨m2, hm2⟩ : ∃ m, (withSt L 2 n).length = m := ⟨_, rfl⟩
    have HM0 := Lib.hid hm0
    have hsum : m0 + m1 + m2 = n := by rw [← hm0, ← hm1, ← hm2]; exact HSUM.out
    clear HSUM
    go_wp2_with fail
    refine (implPagesWith_any a1 n c1 L 0 _ (srcI_of_T O16.out).1 (by omega)).mono ?_
    rintro e w7 ⟨v7, rfl, o7, hb7⟩
    rw [hm0] at o7
    obtain ⟨a7, c7, rfl, hcc7, hnc7, _⟩ := own_form o7
    have O17 := Lib.hid (O16.out.below hb7)
    have O67 := Lib.hid (O6.out.below hb7)
    have B7 : Hid (Below w.heap.size w w7) := Lib.hid (B6.out.trans (hb7.mono B6.out.size))
    have hc7 : c7 ≤ 9223372036854775807 := Nat.le_trans hcc7 (by decide)
    clear o7 hb7 O16 O6 B6 hcc7
    go_wp2_with fail
    refine (implPagesWith_any a1 n c1 L 1 _ (srcI_of_T O17.out).1 (by omega)).mono ?_
    rintro e w8 ⟨v8, rfl, o8, hb8⟩
    rw [hm1] at o8
    obtain ⟨a8, c8, rfl, hcc8, hnc8, _⟩ := own_form o8
    have O18 := Lib.hid (O17.out.below hb8)
    have O68 := Lib.hid (O67.out.below hb8)
    have B8 : Hid (Below w.heap.size w w8) := Lib.hid (B7.out.trans (hb8.mono B7.out.size))
    clear o8 hb8 O17 O67 B7 hcc8
    go_wp2_with fail
    refine (implPagesWith_any a1 n c1 L 2 _ (srcI_of_T O18.out).1 (by omega)).mono ?_
    rintro e w9 ⟨v9, rfl, o9, hb9⟩
    rw [hm2] at o9
    obtain ⟨a9, c9, rfl, hcc9, hnc9, _⟩ := own_form o9
    have O19 := Lib.hid (O18.out.below hb9)
    have O69 := Lib.hid (O68.out.below hb9)
    have B9 : Hid (Below w.heap.size w w9) := Lib.hid (B8.out.trans (hb9.mono B8.out.size))
    clear o9 hb9 O18 O68 B8 hcc9 hm1 hm2
    go_wp2_with fail
    refine (implFirst_any a1 n c1 L 1 _ (srcI_of_T O19.out).1 (by omega)).mono ?_
    rintro e w10 ⟨v10, rfl, o10, hb10⟩
    have O110 := Lib.hid (O19.out.below hb10)
    have O610 := Lib.hid (O69.out.below hb10)
    have B10 : Hid (Below w.heap.size w w10) := Lib.hid (B9.out.trans (hb10.mono B9.out.size))
    have HT := Lib.hid (stB_yes HOK.out)
    clear hb10 O19 O69 B9
    have hsumI : (m0 : Int) + m1 + m2 = n := by omega
    by_cases h1 : 1 ≤ m0
    · have hF : firstB L 1 = true := by unfold firstB; rw [HN.out, hm0]; exact decide_eq_true ⟨by decide, by omega⟩
      have hR : (firstR L 1).length = 1 := by unfold firstR; rw [if_pos hF, HN.out, List.length_take, hm0]; show min 1 m0 = 1; omega
      obtain ⟨z, r, hzr⟩ : ∃ z r, withSt L 0 n = z :: r := by
        cases hw : withSt L 0 n with
        | nil => rw [hw] at hm0; simp at hm0; omega
        | cons z r => exact ⟨z, r, rfl⟩
      have hR2 : firstR L 1 = [z] := by unfold firstR; rw [if_pos hF, HN.out, hzr]; rfl
      rw [hF]
      rw [hR, hR2] at o10
      obtain ⟨a10, c10, q10, rfl, _, hn10, hcm10, h10⟩ := o10
      have hown : w10.ownsRow w9.heap.size 3 1 (.slice a10 1 q10) 1 (icells [z]) := by
        rcases h10 with h | h
        · omega
        · exact h
      obtain ⟨g, rfl⟩ : ∃ g, a10 = some ⟨g, 0, none⟩ := by
        rcases hown.2 with ⟨e, h⟩ | ⟨g, _, _, e, _⟩
        · omega
        · cases e; exact ⟨_, rfl⟩
      have hg := own_lt hown
      have hz : w10.cell? ⟨g, 0, none⟩ = some (.int .i64 z) := by rw [hown.cellAt 0 (by omega)]; rfl
      have HZ := Lib.hid hz
      have HG := Lib.hid hg
      have HZR := Lib.hid hzr
      have hc10 : c10 ≤ 9223372036854775807 := Nat.le_trans hcm10 (by decide)
      have h0m : (0 : Int) < (m0 : Int) := by omega
      clear hown h10 hz hF hR hR2 hzr hm0 hg
      have D1 : Hid (OwnT 3 w10.drew w.heap.size w1.heap.size (.slice a1 n c1) n (icells L)) := Lib.hid O110.out
      have D6 : Hid (OwnT 3 w10.drew w5.heap.size w6.heap.size (.slice a6 n c6) n (icells L)) := Lib.hid O610.out
      have BD : Hid (Below w.heap.size w w10.drew) := Lib.hid B10.out.drew
      have ED : Hid (Below w10.heap.size w10 w10.drew) := Lib.hid (Below.refl _ _).drew
      go_wp2
      -- BEGIN YES
      refine wp_region_any (by kernel_rfl) ?_
      change wpAny _ _ _ _ _ _ _ (World.drew w10)
      refine wpAny_take (i := 0) (v := .bool true) rfl (by kernel_rfl) (by kernel_rfl) (by kernel_rfl) (fun _ _ _ h => h) (Or.inl ⟨by kernel_rfl, ?_⟩) ?_
      · (intro w; go_simp; (try with_reducible rfl); (try first | omega | (intro h9; omega)))
      refine wpAny_take (i := 1) (v := .bool true) rfl (by kernel_rfl) (by kernel_rfl) (by kernel_rfl) (fun _ _ _ h => h) (Or.inl ⟨by kernel_rfl, ?_⟩) ?_
      · (intro w; go_simp; (try with_reducible rfl); (try first | omega | (intro h9; omega)))
      refine wpAny_take (i := 2) (v := .slice a6 n c6) rfl (by kernel_rfl) (by kernel_rfl) (by kernel_rfl) (fun _ _ _ h => h) (Or.inl ⟨by kernel_rfl, ?_⟩) ?_
      · (intro w; go_simp; (try with_reducible rfl); (try first | omega | (intro h9; omega)))
      refine wpAny_take (i := 3) (v := .slice a1 n c1) rfl (by kernel_rfl) (by kernel_rfl) (by kernel_rfl) (fun _ _ _ h => h) (Or.inl ⟨by kernel_rfl, ?_⟩) ?_
      · (intro w; go_simp; (try with_reducible rfl); (try first | omega | (intro h9; omega)))
      refine wpAny_ready (rs := [4]) (by kernel_rfl) (by simp) ?_
      refine AllReady.cons rfl (fun K hK => ?_) AllReady.nil
      go_simp
      refine (sameT a6 a1 n c6 c1 _ _ _ _ L _ (by omega) HN.out D6.out D1.out).mono ?_
      rintro e w11 ⟨rfl, m11, hw11⟩
      have O11 : Hid (OwnT 3 w11 w.heap.size w1.heap.size (.slice a1 n c1) n (icells L)) := Lib.hid (by rw [hw11]; exact D1.out.draws m11)
      have B11 : Hid (Below w.heap.size w w11) := Lib.hid (by rw [hw11]; exact below_draws' BD.out m11)
      have E11 : Hid (Below w10.heap.size w10 w11) := Lib.hid (by rw [hw11]; exact below_draws' ED.out m11)
      clear hw11
      refine hK _ _ ?_
      clear hK K
      refine wpAny_take (i := 5) (v := .bool true) rfl (by kernel_rfl) (by kernel_rfl) (by kernel_rfl) (fun _ _ _ h => h) (Or.inl ⟨by kernel_rfl, ?_⟩) ?_
      · (intro w; go_simp; (try with_reducible rfl); (try first | omega | (intro h9; omega)))
      refine wpAny_take (i := 6) (v := .bool true) rfl (by kernel_rfl) (by kernel_rfl) (by kernel_rfl) (fun _ _ _ h => h) (Or.inl ⟨by kernel_rfl, ?_⟩) ?_
      · (intro w; go_simp; (try with_reducible rfl); (try first | omega | (intro h9; omega)))
      refine wpAny_take (i := 7) (v := .int .i64 n) rfl (by kernel_rfl) (by kernel_rfl) (by kernel_rfl) (fun _ _ _ h => h) (Or.inl ⟨by kernel_rfl, ?_⟩) ?_
      · (intro w; go_simp; (try with_reducible rfl); (try first | omega | (intro h9; omega)))
      refine wpAny_take (i := 8) (v := .slice a1 n c1) rfl (by kernel_rfl) (by kernel_rfl) (by kernel_rfl) (fun _ _ _ h => h) (Or.inl ⟨by kernel_rfl, ?_⟩) ?_
      · (intro w; go_simp; (try with_reducible rfl); (try first | omega | (intro h9; omega)))
      refine wpAny_take (i := 9) (v := .int .i64 n) rfl (by kernel_rfl) (by kernel_rfl) (by kernel_rfl) (fun _ _ _ h => h) (Or.inl ⟨by kernel_rfl, ?_⟩) ?_
      · (intro w; go_simp; (try with_reducible rfl); (try first | omega | (intro h9; omega)))
      refine wpAny_take (i := 10) (v := .bool true) rfl (by kernel_rfl) (by kernel_rfl) (by kernel_rfl) (fun _ _ _ h => h) (Or.inl ⟨by kernel_rfl, ?_⟩) ?_
      · (intro w; go_simp; (try with_reducible rfl); (try first | omega | (intro h9; omega)))
      refine wpAny_take (i := 11) (v := .bool true) rfl (by kernel_rfl) (by kernel_rfl) (by kernel_rfl) (fun _ _ _ h => h) (Or.inl ⟨by kernel_rfl, ?_⟩) ?_
      · (intro w; go_simp; (try with_reducible rfl); (try first | omega | (intro h9; omega)))
      refine wpAny_take (i := 12) (v := .bool true) rfl (by kernel_rfl) (by kernel_rfl) (by kernel_rfl) (fun _ _ _ h => h) (Or.inl ⟨by kernel_rfl, ?_⟩) ?_
      · (intro w; go_simp; (try with_reducible rfl); (try first | omega | (intro h9; omega)))
      refine wpAny_take (i := 13) (v := .bool true) rfl (by kernel_rfl) (by kernel_rfl) (by kernel_rfl) (fun _ _ _ h => h) (Or.inl ⟨by kernel_rfl, ?_⟩) ?_
      · (intro w; go_simp; (try with_reducible rfl); (try first | omega | (intro h9; omega)))
      refine wpAny_take (i := 14) (v := .slice a1 n c1) rfl (by kernel_rfl) (by kernel_rfl) (by kernel_rfl) (fun _ _ _ h => h) (Or.inl ⟨by kernel_rfl, ?_⟩) ?_
      · (intro w; go_simp; (try with_reducible rfl); (try first | omega | (intro h9; omega)))
      refine wpAny_ready (rs := [15]) (by kernel_rfl) (by simp) ?_
      refine AllReady.cons rfl (fun K hK => ?_) AllReady.nil
      go_simp
      refine (specPagesWith_any a1 n c1 L 0 _ (srcI_of_T O11.out).1 (by omega)).mono ?_
      rintro e w12 ⟨v12, rfl, o12, hb12⟩
      rw [HM0.out] at o12
      obtain ⟨a12, c12, rfl, hcc12, hnc12, _⟩ := own_form o12
      have hc12 : c12 ≤ 9223372036854775807 := Nat.le_trans hcc12 (by decide)
      have O12 := Lib.hid (O11.out.below hb12)
      have B12 : Hid (Below w.heap.size w w12) := Lib.hid (B11.out.trans (hb12.mono B11.out.size))
      have E12 : Hid (Below w10.heap.size w10 w12) := Lib.hid (E11.out.trans (hb12.mono E11.out.size))
      clear o12 hb12 hcc12
      refine hK _ _ ?_
      clear hK K
      refine wpAny_take (i := 16) (v := .int .i64 m0) rfl (by kernel_rfl) (by kernel_rfl) (by kernel_rfl) (fun _ _ _ h => h) (Or.inl ⟨by kernel_rfl, ?_⟩) ?_
      · (intro w; go_simp; (try with_reducible rfl); (try first | omega | (intro h9; omega)))
      refine wpAny_take (i := 17) (v := .bool true) rfl (by kernel_rfl) (by kernel_rfl) (by kernel_rfl) (fun _ _ _ h => h) (Or.inl ⟨by kernel_rfl, ?_⟩) ?_
      · (intro w; go_simp; (try with_reducible rfl); (try first | omega | (intro h9; omega)))
      refine wpAny_take (i := 18) (v := .bool true) rfl (by kernel_rfl) (by kernel_rfl) (by kernel_rfl) (fun _ _ _ h => h) (Or.inl ⟨by kernel_rfl, ?_⟩) ?_
      · (intro w; go_simp; (try with_reducible rfl); (try first | omega | (intro h9; omega)))
      refine wpAny_take (i := 19) (v := .bool true) rfl (by kernel_rfl) (by kernel_rfl) (by kernel_rfl) (fun _ _ _ h => h) (Or.inl ⟨by kernel_rfl, ?_⟩) ?_
      · (intro w; go_simp; (try with_reducible rfl); (try first | omega | (intro h9; omega)))
      refine wpAny_take (i := 20) (v := .bool true) rfl (by kernel_rfl) (by kernel_rfl) (by kernel_rfl) (fun _ _ _ h => h) (Or.inl ⟨by kernel_rfl, ?_⟩) ?_
      · (intro w; go_simp; (try with_reducible rfl); (try first | omega | (intro h9; omega)))
      refine wpAny_take (i := 21) (v := .bool true) rfl (by kernel_rfl) (by kernel_rfl) (by kernel_rfl) (fun _ _ _ h => h) (Or.inl ⟨by kernel_rfl, ?_⟩) ?_
      · (intro w; go_simp; (try with_reducible rfl); (try first | omega | (intro h9; omega)))
      refine wpAny_take (i := 22) (v := .bool false) rfl (by kernel_rfl) (by kernel_rfl) (by kernel_rfl) (fun _ _ _ h => h) (Or.inl ⟨by kernel_rfl, ?_⟩) ?_
      · (intro w; go_simp; (try with_reducible rfl); (try first | omega | (intro h9; omega)))
      refine wpAny_take (i := 23) (v := .bool false) rfl (by kernel_rfl) (by kernel_rfl) (by kernel_rfl) (fun _ _ _ h => h) (Or.inl ⟨by kernel_rfl, ?_⟩) ?_
      · (intro w; go_simp; (try with_reducible rfl); (try first | omega | (intro h9; omega)))
      refine wpAny_take (i := 24) (v := .slice (some ⟨g, 0, none⟩) 1 c10) rfl (by kernel_rfl) (by kernel_rfl) (by kernel_rfl) (fun _ _ _ h => h) (Or.inl ⟨by kernel_rfl, ?_⟩) ?_
      · (intro w; go_simp; (try with_reducible rfl); (try first | omega | (intro h9; omega)))
      refine wpAny_take (i := 25) (v := .int .i64 1) rfl (by kernel_rfl) (by kernel_rfl) (by kernel_rfl) (fun _ _ _ h => h) (Or.inl ⟨by kernel_rfl, ?_⟩) ?_
      · (intro w; go_simp; (try with_reducible rfl); (try first | omega | (intro h9; omega)))
      refine wpAny_take (i := 26) (v := .bool true) rfl (by kernel_rfl) (by kernel_rfl) (by kernel_rfl) (fun _ _ _ h => h) (Or.inl ⟨by kernel_rfl, ?_⟩) ?_
      · (intro w; go_simp; (try with_reducible rfl); (try first | omega | (intro h9; omega)))
      refine wpAny_take (i := 27) (v := .bool true) rfl (by kernel_rfl) (by kernel_rfl) (by kernel_rfl) (fun _ _ _ h => h) (Or.inl ⟨by kernel_rfl, ?_⟩) ?_
      · (intro w; go_simp; (try with_reducible rfl); (try first | omega | (intro h9; omega)))
      refine wpAny_take (i := 28) (v := .slice (some ⟨g, 0, none⟩) 1 c10) rfl (by kernel_rfl) (by kernel_rfl) (by kernel_rfl) (fun _ _ _ h => h) (Or.inl ⟨by kernel_rfl, ?_⟩) ?_
      · (intro w; go_simp; (try with_reducible rfl); (try first | omega | (intro h9; omega)))
      refine wpAny_take (i := 29) (v := .pointer (some ⟨g, 0, none⟩)) rfl (by kernel_rfl) (by kernel_rfl) (by kernel_rfl) (fun _ _ _ h => h) (Or.inl ⟨by kernel_rfl, ?_⟩) ?_
      · (intro w; go_simp; (try with_reducible rfl); (try first | omega | (intro h9; omega)))
      refine wpAny_take (i := 31) (v := .slice a1 n c1) rfl (by kernel_rfl) (by kernel_rfl) (by kernel_rfl) (fun _ _ _ h => h) (Or.inl ⟨by kernel_rfl, ?_⟩) ?_
      · (intro w; go_simp; (try with_reducible rfl); (try first | omega | (intro h9; omega)))
      have x12 : w12.cell? ⟨g, 0, none⟩ = some (.int .i64 z) := by rw [E12.out.cell HG.out]; exact HZ.out
      refine wpAny_ready (rs := [30, 32]) (by kernel_rfl) (by simp) ?_
      refine AllReady.cons rfl (fun K hK => ?_) (AllReady.cons rfl (fun K hK => ?_) AllReady.nil)
      · go_simp
        refine hK _ _ ?_
        clear hK K
        refine wpAny_ready (rs := [32]) (by kernel_rfl) (by simp) ?_
        refine AllReady.cons rfl (fun K hK => ?_) AllReady.nil
        go_simp
        refine (specPagesWith_any a1 n c1 L 0 _ (srcI_of_T O12.out).1 (by omega)).mono ?_
        rintro e w13 ⟨v13, rfl, o13, hb13⟩
        rw [HM0.out, HZR.out] at o13
        obtain ⟨a13, c13, rfl, hcc13, hnc13, _⟩ := own_form o13
        obtain ⟨g13, rfl⟩ : ∃ g, a13 = some ⟨g, 0, none⟩ := by
          rcases o13.2 with ⟨_, h⟩ | ⟨g, _, _, e, _⟩
          · omega
          · cases e; exact ⟨_, rfl⟩
        have hc13 : c13 ≤ 9223372036854775807 := Nat.le_trans hcc13 (by decide)
        have x13 : w13.cell? ⟨g, 0, none⟩ = some (.int .i64 z) := by rw [hb13.cell (by show g < w12.heap.size; have := E12.out.size; have := HG.out; omega)]; exact x12
        have y13 : w13.cell? ⟨g13, 0, none⟩ = some (.int .i64 z) := by rw [o13.cellAt 0 (by omega)]; rfl
        have O13 := Lib.hid (O12.out.below hb13)
        have B13 : Hid (Below w.heap.size w w13) := Lib.hid (B12.out.trans (hb13.mono B12.out.size))
        clear o13 hb13 hcc13
        refine hK _ _ ?_
        clear hK K
        refine wpAny_take (i := 33) (v := .pointer (some ⟨g13, 0, none⟩)) rfl (by kernel_rfl) (by kernel_rfl) (by kernel_rfl) (fun _ _ _ h => h) (Or.inl ⟨by kernel_rfl, ?_⟩) ?_
        · (intro w; go_simp; (try with_reducible rfl); (try first | omega | (intro h9; omega)))
        refine wpAny_ready (rs := [34]) (by kernel_rfl) (by simp) ?_
        refine AllReady.cons rfl (fun K hK => ?_) AllReady.nil
        go_simp

        refine hK _ _ ?_
        clear hK K
        refine wpAny_take (i := 35) (v := .bool true) rfl (by kernel_rfl) (by kernel_rfl) (by kernel_rfl) (fun _ _ _ h => h) (Or.inl ⟨by kernel_rfl, ?_⟩) ?_
        · (intro w; go_simp; (try with_reducible rfl); (try first | omega | (intro h9; omega)))
        refine wpAny_take (i := 36) (v := .bool true) rfl (by kernel_rfl) (by kernel_rfl) (by kernel_rfl) (fun _ _ _ h => h) (Or.inl ⟨by kernel_rfl, ?_⟩) ?_
        · (intro w; go_simp; (try with_reducible rfl); (try first | omega | (intro h9; omega)))
        refine wpAny_take (i := 37) (v := .bool true) rfl (by kernel_rfl) (by kernel_rfl) (by kernel_rfl) (fun _ _ _ h => h) (Or.inl ⟨by kernel_rfl, ?_⟩) ?_
        · (intro w; go_simp; (try with_reducible rfl); (try first | omega | (intro h9; omega)))
        refine wpAny_take (i := 38) (v := .bool true) rfl (by kernel_rfl) (by kernel_rfl) (by kernel_rfl) (fun _ _ _ h => h) (Or.inl ⟨by kernel_rfl, ?_⟩) ?_
        · (intro w; go_simp; (try with_reducible rfl); (try first | omega | (intro h9; omega)))
        refine wpAny_take (i := 39) (v := .bool true) rfl (by kernel_rfl) (by kernel_rfl) (by kernel_rfl) (fun _ _ _ h => h) (Or.inl ⟨by kernel_rfl, ?_⟩) ?_
        · (intro w; go_simp; (try with_reducible rfl); (try first | omega | (intro h9; omega)))
        refine wpAny_take (i := 40) (v := .slice a1 n c1) rfl (by kernel_rfl) (by kernel_rfl) (by kernel_rfl) (fun _ _ _ h => h) (Or.inl ⟨by kernel_rfl, ?_⟩) ?_
        · (intro w; go_simp; (try with_reducible rfl); (try first | omega | (intro h9; omega)))
        refine wpAny_take (i := 41) (v := .slice a1 n c1) rfl (by kernel_rfl) (by kernel_rfl) (by kernel_rfl) (fun _ _ _ h => h) (Or.inl ⟨by kernel_rfl, ?_⟩) ?_
        · (intro w; go_simp; (try with_reducible rfl); (try first | omega | (intro h9; omega)))
        refine wpAny_take (i := 42) (v := .int .i64 n) rfl (by kernel_rfl) (by kernel_rfl) (by kernel_rfl) (fun _ _ _ h => h) (Or.inl ⟨by kernel_rfl, ?_⟩) ?_
        · (intro w; go_simp; (try with_reducible rfl); (try first | omega | (intro h9; omega)))
        refine wpAny_ready (rs := [43]) (by kernel_rfl) (by simp) ?_
        refine AllReady.cons rfl (fun K hK => ?_) AllReady.nil
        go_simp
        refine (implStOk_any a1 n c1 L n _ (srcI_of_T O13.out).1 (by omega)).mono ?_
        rw [HT.out]
        rintro e w14 ⟨rfl, hw14⟩
        rw [hw14]
        clear hw14
        refine hK _ _ ?_
        clear hK K
        refine wpAny_take (i := 44) (v := .bool true) rfl (by kernel_rfl) (by kernel_rfl) (by kernel_rfl) (fun _ _ _ h => h) (Or.inl ⟨by kernel_rfl, ?_⟩) ?_
        · (intro w; go_simp; (try with_reducible rfl); (try first | omega | (intro h9; omega)))
        refine wpAny_take (i := 45) (v := .bool true) rfl (by kernel_rfl) (by kernel_rfl) (by kernel_rfl) (fun _ _ _ h => h) (Or.inl ⟨by kernel_rfl, ?_⟩) ?_
        · (intro w; go_simp; (try with_reducible rfl); (try first | omega | (intro h9; omega)))
        refine wpAny_done (by kernel_rfl) ?_ _
        go_simp
        go_wp2
        go_ret
        exact ⟨rfl, B13.out⟩
      · go_simp
        refine (specPagesWith_any a1 n c1 L 0 _ (srcI_of_T O12.out).1 (by omega)).mono ?_
        rintro e w13 ⟨v13, rfl, o13, hb13⟩
        rw [HM0.out, HZR.out] at o13
        obtain ⟨a13, c13, rfl, hcc13, hnc13, _⟩ := own_form o13
        obtain ⟨g13, rfl⟩ : ∃ g, a13 = some ⟨g, 0, none⟩ := by
          rcases o13.2 with ⟨_, h⟩ | ⟨g, _, _, e, _⟩
          · omega
          · cases e; exact ⟨_, rfl⟩
        have hc13 : c13 ≤ 9223372036854775807 := Nat.le_trans hcc13 (by decide)
        have x13 : w13.cell? ⟨g, 0, none⟩ = some (.int .i64 z) := by rw [hb13.cell (by show g < w12.heap.size; have := E12.out.size; have := HG.out; omega)]; exact x12
        have y13 : w13.cell? ⟨g13, 0, none⟩ = some (.int .i64 z) := by rw [o13.cellAt 0 (by omega)]; rfl
        have O13 := Lib.hid (O12.out.below hb13)
        have B13 : Hid (Below w.heap.size w w13) := Lib.hid (B12.out.trans (hb13.mono B12.out.size))
        clear o13 hb13 hcc13
        refine hK _ _ ?_
        clear hK K
        refine wpAny_take (i := 33) (v := .pointer (some ⟨g13, 0, none⟩)) rfl (by kernel_rfl) (by kernel_rfl) (by kernel_rfl) (fun _ _ _ h => h) (Or.inl ⟨by kernel_rfl, ?_⟩) ?_
        · (intro w; go_simp; (try with_reducible rfl); (try first | omega | (intro h9; omega)))
        refine wpAny_ready (rs := [30, 34]) (by kernel_rfl) (by simp) ?_
        refine AllReady.cons rfl (fun K hK => ?_) (AllReady.cons rfl (fun K hK => ?_) AllReady.nil)
        · go_simp
          refine hK _ _ ?_
          clear hK K
          refine wpAny_ready (rs := [34]) (by kernel_rfl) (by simp) ?_
          refine AllReady.cons rfl (fun K hK => ?_) AllReady.nil
          go_simp

          refine hK _ _ ?_
          clear hK K
          refine wpAny_take (i := 35) (v := .bool true) rfl (by kernel_rfl) (by kernel_rfl) (by kernel_rfl) (fun _ _ _ h => h) (Or.inl ⟨by kernel_rfl, ?_⟩) ?_
          · (intro w; go_simp; (try with_reducible rfl); (try first | omega | (intro h9; omega)))
          refine wpAny_take (i := 36) (v := .bool true) rfl (by kernel_rfl) (by kernel_rfl) (by kernel_rfl) (fun _ _ _ h => h) (Or.inl ⟨by kernel_rfl, ?_⟩) ?_
          · (intro w; go_simp; (try with_reducible rfl); (try first | omega | (intro h9; omega)))
          refine wpAny_take (i := 37) (v := .bool true) rfl (by kernel_rfl) (by kernel_rfl) (by kernel_rfl) (fun _ _ _ h => h) (Or.inl ⟨by kernel_rfl, ?_⟩) ?_
          · (intro w; go_simp; (try with_reducible rfl); (try first | omega | (intro h9; omega)))
          refine wpAny_take (i := 38) (v := .bool true) rfl (by kernel_rfl) (by kernel_rfl) (by kernel_rfl) (fun _ _ _ h => h) (Or.inl ⟨by kernel_rfl, ?_⟩) ?_
          · (intro w; go_simp; (try with_reducible rfl); (try first | omega | (intro h9; omega)))
          refine wpAny_take (i := 39) (v := .bool true) rfl (by kernel_rfl) (by kernel_rfl) (by kernel_rfl) (fun _ _ _ h => h) (Or.inl ⟨by kernel_rfl, ?_⟩) ?_
          · (intro w; go_simp; (try with_reducible rfl); (try first | omega | (intro h9; omega)))
          refine wpAny_take (i := 40) (v := .slice a1 n c1) rfl (by kernel_rfl) (by kernel_rfl) (by kernel_rfl) (fun _ _ _ h => h) (Or.inl ⟨by kernel_rfl, ?_⟩) ?_
          · (intro w; go_simp; (try with_reducible rfl); (try first | omega | (intro h9; omega)))
          refine wpAny_take (i := 41) (v := .slice a1 n c1) rfl (by kernel_rfl) (by kernel_rfl) (by kernel_rfl) (fun _ _ _ h => h) (Or.inl ⟨by kernel_rfl, ?_⟩) ?_
          · (intro w; go_simp; (try with_reducible rfl); (try first | omega | (intro h9; omega)))
          refine wpAny_take (i := 42) (v := .int .i64 n) rfl (by kernel_rfl) (by kernel_rfl) (by kernel_rfl) (fun _ _ _ h => h) (Or.inl ⟨by kernel_rfl, ?_⟩) ?_
          · (intro w; go_simp; (try with_reducible rfl); (try first | omega | (intro h9; omega)))
          refine wpAny_ready (rs := [43]) (by kernel_rfl) (by simp) ?_
          refine AllReady.cons rfl (fun K hK => ?_) AllReady.nil
          go_simp
          refine (implStOk_any a1 n c1 L n _ (srcI_of_T O13.out).1 (by omega)).mono ?_
          rw [HT.out]
          rintro e w14 ⟨rfl, hw14⟩
          rw [hw14]
          clear hw14
          refine hK _ _ ?_
          clear hK K
          refine wpAny_take (i := 44) (v := .bool true) rfl (by kernel_rfl) (by kernel_rfl) (by kernel_rfl) (fun _ _ _ h => h) (Or.inl ⟨by kernel_rfl, ?_⟩) ?_
          · (intro w; go_simp; (try with_reducible rfl); (try first | omega | (intro h9; omega)))
          refine wpAny_take (i := 45) (v := .bool true) rfl (by kernel_rfl) (by kernel_rfl) (by kernel_rfl) (fun _ _ _ h => h) (Or.inl ⟨by kernel_rfl, ?_⟩) ?_
          · (intro w; go_simp; (try with_reducible rfl); (try first | omega | (intro h9; omega)))
          refine wpAny_done (by kernel_rfl) ?_ _
          go_simp
          go_wp2
          go_ret
          exact ⟨rfl, B13.out⟩
        · go_simp
          refine hK _ _ ?_
          clear hK K
          refine wpAny_ready (rs := [30]) (by kernel_rfl) (by simp) ?_
          refine AllReady.cons rfl (fun K hK => ?_) AllReady.nil
          go_simp

          refine hK _ _ ?_
          clear hK K
          refine wpAny_take (i := 35) (v := .bool true) rfl (by kernel_rfl) (by kernel_rfl) (by kernel_rfl) (fun _ _ _ h => h) (Or.inl ⟨by kernel_rfl, ?_⟩) ?_
          · (intro w; go_simp; (try with_reducible rfl); (try first | omega | (intro h9; omega)))
          refine wpAny_take (i := 36) (v := .bool true) rfl (by kernel_rfl) (by kernel_rfl) (by kernel_rfl) (fun _ _ _ h => h) (Or.inl ⟨by kernel_rfl, ?_⟩) ?_
          · (intro w; go_simp; (try with_reducible rfl); (try first | omega | (intro h9; omega)))
          refine wpAny_take (i := 37) (v := .bool true) rfl (by kernel_rfl) (by kernel_rfl) (by kernel_rfl) (fun _ _ _ h => h) (Or.inl ⟨by kernel_rfl, ?_⟩) ?_
          · (intro w; go_simp; (try with_reducible rfl); (try first | omega | (intro h9; omega)))
          refine wpAny_take (i := 38) (v := .bool true) rfl (by kernel_rfl) (by kernel_rfl) (by kernel_rfl) (fun _ _ _ h => h) (Or.inl ⟨by kernel_rfl, ?_⟩) ?_
          · (intro w; go_simp; (try with_reducible rfl); (try first | omega | (intro h9; omega)))
          refine wpAny_take (i := 39) (v := .bool true) rfl (by kernel_rfl) (by kernel_rfl) (by kernel_rfl) (fun _ _ _ h => h) (Or.inl ⟨by kernel_rfl, ?_⟩) ?_
          · (intro w; go_simp; (try with_reducible rfl); (try first | omega | (intro h9; omega)))
          refine wpAny_take (i := 40) (v := .slice a1 n c1) rfl (by kernel_rfl) (by kernel_rfl) (by kernel_rfl) (fun _ _ _ h => h) (Or.inl ⟨by kernel_rfl, ?_⟩) ?_
          · (intro w; go_simp; (try with_reducible rfl); (try first | omega | (intro h9; omega)))
          refine wpAny_take (i := 41) (v := .slice a1 n c1) rfl (by kernel_rfl) (by kernel_rfl) (by kernel_rfl) (fun _ _ _ h => h) (Or.inl ⟨by kernel_rfl, ?_⟩) ?_
          · (intro w; go_simp; (try with_reducible rfl); (try first | omega | (intro h9; omega)))
          refine wpAny_take (i := 42) (v := .int .i64 n) rfl (by kernel_rfl) (by kernel_rfl) (by kernel_rfl) (fun _ _ _ h => h) (Or.inl ⟨by kernel_rfl, ?_⟩) ?_
          · (intro w; go_simp; (try with_reducible rfl); (try first | omega | (intro h9; omega)))
          refine wpAny_ready (rs := [43]) (by kernel_rfl) (by simp) ?_
          refine AllReady.cons rfl (fun K hK => ?_) AllReady.nil
          go_simp
          refine (implStOk_any a1 n c1 L n _ (srcI_of_T O13.out).1 (by omega)).mono ?_
          rw [HT.out]
          rintro e w14 ⟨rfl, hw14⟩
          rw [hw14]
          clear hw14
          refine hK _ _ ?_
          clear hK K
          refine wpAny_take (i := 44) (v := .bool true) rfl (by kernel_rfl) (by kernel_rfl) (by kernel_rfl) (fun _ _ _ h => h) (Or.inl ⟨by kernel_rfl, ?_⟩) ?_
          · (intro w; go_simp; (try with_reducible rfl); (try first | omega | (intro h9; omega)))
          refine wpAny_take (i := 45) (v := .bool true) rfl (by kernel_rfl) (by kernel_rfl) (by kernel_rfl) (fun _ _ _ h => h) (Or.inl ⟨by kernel_rfl, ?_⟩) ?_
          · (intro w; go_simp; (try with_reducible rfl); (try first | omega | (intro h9; omega)))
          refine wpAny_done (by kernel_rfl) ?_ _
          go_simp
          go_wp2
          go_ret
          exact ⟨rfl, B13.out⟩
      -- END YES
    · have hm00 : m0 = 0 := by omega
      have HM00 := Lib.hid hm00
      have hF : firstB L 1 = false := by unfold firstB; rw [HN.out, hm0]; exact decide_eq_false (by omega)
      have hR : firstR L 1 = [] := by unfold firstR; rw [hF]; rfl
      rw [hF]
      rw [hR] at o10
      obtain ⟨a10, c10, q10, rfl, _, hn10, hcm10, h10⟩ := o10
      have hc10 : c10 ≤ 9223372036854775807 := Nat.le_trans hcm10 (by decide)
      clear h10 hF hR hm0 hm00 h1
      have D1 : Hid (OwnT 3 w10.drew w.heap.size w1.heap.size (.slice a1 n c1) n (icells L)) := Lib.hid O110.out
      have D6 : Hid (OwnT 3 w10.drew w5.heap.size w6.heap.size (.slice a6 n c6) n (icells L)) := Lib.hid O610.out
      have BD : Hid (Below w.heap.size w w10.drew) := Lib.hid B10.out.drew
      have ED : Hid (Below w10.heap.size w10 w10.drew) := Lib.hid (Below.refl _ _).drew
      go_wp2
      -- BEGIN NO
      refine wp_region_any (by kernel_rfl) ?_
      change wpAny _ _ _ _ _ _ _ (World.drew w10)
      refine wpAny_take (i := 0) (v := .bool true) rfl (by kernel_rfl) (by kernel_rfl) (by kernel_rfl) (fun _ _ _ h => h) (Or.inl ⟨by kernel_rfl, ?_⟩) ?_
      · (intro w; go_simp; (try with_reducible rfl); (try first | omega | (intro h9; omega)))
      refine wpAny_take (i := 1) (v := .bool true) rfl (by kernel_rfl) (by kernel_rfl) (by kernel_rfl) (fun _ _ _ h => h) (Or.inl ⟨by kernel_rfl, ?_⟩) ?_
      · (intro w; go_simp; (try with_reducible rfl); (try first | omega | (intro h9; omega)))
      refine wpAny_take (i := 2) (v := .slice a6 n c6) rfl (by kernel_rfl) (by kernel_rfl) (by kernel_rfl) (fun _ _ _ h => h) (Or.inl ⟨by kernel_rfl, ?_⟩) ?_
      · (intro w; go_simp; (try with_reducible rfl); (try first | omega | (intro h9; omega)))
      refine wpAny_take (i := 3) (v := .slice a1 n c1) rfl (by kernel_rfl) (by kernel_rfl) (by kernel_rfl) (fun _ _ _ h => h) (Or.inl ⟨by kernel_rfl, ?_⟩) ?_
      · (intro w; go_simp; (try with_reducible rfl); (try first | omega | (intro h9; omega)))
      refine wpAny_ready (rs := [4]) (by kernel_rfl) (by simp) ?_
      refine AllReady.cons rfl (fun K hK => ?_) AllReady.nil
      go_simp
      refine (sameT a6 a1 n c6 c1 _ _ _ _ L _ (by omega) HN.out D6.out D1.out).mono ?_
      rintro e w11 ⟨rfl, m11, hw11⟩
      have O11 : Hid (OwnT 3 w11 w.heap.size w1.heap.size (.slice a1 n c1) n (icells L)) := Lib.hid (by rw [hw11]; exact D1.out.draws m11)
      have B11 : Hid (Below w.heap.size w w11) := Lib.hid (by rw [hw11]; exact below_draws' BD.out m11)
      have E11 : Hid (Below w10.heap.size w10 w11) := Lib.hid (by rw [hw11]; exact below_draws' ED.out m11)
      clear hw11
      refine hK _ _ ?_
      clear hK K
      refine wpAny_take (i := 5) (v := .bool true) rfl (by kernel_rfl) (by kernel_rfl) (by kernel_rfl) (fun _ _ _ h => h) (Or.inl ⟨by kernel_rfl, ?_⟩) ?_
      · (intro w; go_simp; (try with_reducible rfl); (try first | omega | (intro h9; omega)))
      refine wpAny_take (i := 6) (v := .bool true) rfl (by kernel_rfl) (by kernel_rfl) (by kernel_rfl) (fun _ _ _ h => h) (Or.inl ⟨by kernel_rfl, ?_⟩) ?_
      · (intro w; go_simp; (try with_reducible rfl); (try first | omega | (intro h9; omega)))
      refine wpAny_take (i := 7) (v := .int .i64 n) rfl (by kernel_rfl) (by kernel_rfl) (by kernel_rfl) (fun _ _ _ h => h) (Or.inl ⟨by kernel_rfl, ?_⟩) ?_
      · (intro w; go_simp; (try with_reducible rfl); (try first | omega | (intro h9; omega)))
      refine wpAny_take (i := 8) (v := .slice a1 n c1) rfl (by kernel_rfl) (by kernel_rfl) (by kernel_rfl) (fun _ _ _ h => h) (Or.inl ⟨by kernel_rfl, ?_⟩) ?_
      · (intro w; go_simp; (try with_reducible rfl); (try first | omega | (intro h9; omega)))
      refine wpAny_take (i := 9) (v := .int .i64 n) rfl (by kernel_rfl) (by kernel_rfl) (by kernel_rfl) (fun _ _ _ h => h) (Or.inl ⟨by kernel_rfl, ?_⟩) ?_
      · (intro w; go_simp; (try with_reducible rfl); (try first | omega | (intro h9; omega)))
      refine wpAny_take (i := 10) (v := .bool true) rfl (by kernel_rfl) (by kernel_rfl) (by kernel_rfl) (fun _ _ _ h => h) (Or.inl ⟨by kernel_rfl, ?_⟩) ?_
      · (intro w; go_simp; (try with_reducible rfl); (try first | omega | (intro h9; omega)))
      refine wpAny_take (i := 11) (v := .bool true) rfl (by kernel_rfl) (by kernel_rfl) (by kernel_rfl) (fun _ _ _ h => h) (Or.inl ⟨by kernel_rfl, ?_⟩) ?_
      · (intro w; go_simp; (try with_reducible rfl); (try first | omega | (intro h9; omega)))
      refine wpAny_take (i := 12) (v := .bool true) rfl (by kernel_rfl) (by kernel_rfl) (by kernel_rfl) (fun _ _ _ h => h) (Or.inl ⟨by kernel_rfl, ?_⟩) ?_
      · (intro w; go_simp; (try with_reducible rfl); (try first | omega | (intro h9; omega)))
      refine wpAny_take (i := 13) (v := .bool false) rfl (by kernel_rfl) (by kernel_rfl) (by kernel_rfl) (fun _ _ _ h => h) (Or.inl ⟨by kernel_rfl, ?_⟩) ?_
      · (intro w; go_simp; (try with_reducible rfl); (try first | omega | (intro h9; omega)))
      refine wpAny_take (i := 14) (v := .slice a1 n c1) rfl (by kernel_rfl) (by kernel_rfl) (by kernel_rfl) (fun _ _ _ h => h) (Or.inl ⟨by kernel_rfl, ?_⟩) ?_
      · (intro w; go_simp; (try with_reducible rfl); (try first | omega | (intro h9; omega)))
      refine wpAny_ready (rs := [15]) (by kernel_rfl) (by simp) ?_
      refine AllReady.cons rfl (fun K hK => ?_) AllReady.nil
      go_simp
      refine (specPagesWith_any a1 n c1 L 0 _ (srcI_of_T O11.out).1 (by omega)).mono ?_
      rintro e w12 ⟨v12, rfl, o12, hb12⟩
      rw [HM0.out] at o12
      obtain ⟨a12, c12, rfl, hcc12, hnc12, _⟩ := own_form o12
      have hc12 : c12 ≤ 9223372036854775807 := Nat.le_trans hcc12 (by decide)
      have O12 := Lib.hid (O11.out.below hb12)
      have B12 : Hid (Below w.heap.size w w12) := Lib.hid (B11.out.trans (hb12.mono B11.out.size))
      have E12 : Hid (Below w10.heap.size w10 w12) := Lib.hid (E11.out.trans (hb12.mono E11.out.size))
      clear o12 hb12 hcc12
      refine hK _ _ ?_
      clear hK K
      refine wpAny_take (i := 16) (v := .int .i64 m0) rfl (by kernel_rfl) (by kernel_rfl) (by kernel_rfl) (fun _ _ _ h => h) (Or.inl ⟨by kernel_rfl, ?_⟩) ?_
      · (intro w; go_simp; (try with_reducible rfl); (try first | omega | (intro h9; omega)))
      refine wpAny_take (i := 17) (v := .bool false) rfl (by kernel_rfl) (by kernel_rfl) (by kernel_rfl) (fun _ _ _ h => h) (Or.inl ⟨by kernel_rfl, ?_⟩) ?_
      · (intro w; go_simp; try (have := HM00.out; omega); (try with_reducible rfl); (try first | omega | (intro h9; omega)))
      refine wpAny_take (i := 18) (v := .bool true) rfl (by kernel_rfl) (by kernel_rfl) (by kernel_rfl) (fun _ _ _ h => h) (Or.inl ⟨by kernel_rfl, ?_⟩) ?_
      · (intro w; go_simp; (try with_reducible rfl); (try first | omega | (intro h9; omega)))
      refine wpAny_take (i := 19) (v := .bool true) rfl (by kernel_rfl) (by kernel_rfl) (by kernel_rfl) (fun _ _ _ h => h) (Or.inl ⟨by kernel_rfl, ?_⟩) ?_
      · (intro w; go_simp; (try with_reducible rfl); (try first | omega | (intro h9; omega)))
      refine wpAny_take (i := 20) (v := .bool true) rfl (by kernel_rfl) (by kernel_rfl) (by kernel_rfl) (fun _ _ _ h => h) (Or.inl ⟨by kernel_rfl, ?_⟩) ?_
      · (intro w; go_simp; (try with_reducible rfl); (try first | omega | (intro h9; omega)))
      refine wpAny_take (i := 21) (v := .bool false) rfl (by kernel_rfl) (by kernel_rfl) (by kernel_rfl) (fun _ _ _ h => h) (Or.inl ⟨by kernel_rfl, ?_⟩) ?_
      · (intro w; go_simp; (try with_reducible rfl); (try first | omega | (intro h9; omega)))
      refine wpAny_take (i := 22) (v := .bool true) rfl (by kernel_rfl) (by kernel_rfl) (by kernel_rfl) (fun _ _ _ h => h) (Or.inl ⟨by kernel_rfl, ?_⟩) ?_
      · (intro w; go_simp; (try with_reducible rfl); (try first | omega | (intro h9; omega)))
      refine wpAny_take (i := 23) (v := .bool true) rfl (by kernel_rfl) (by kernel_rfl) (by kernel_rfl) (fun _ _ _ h => h) (Or.inl ⟨by kernel_rfl, ?_⟩) ?_
      · (intro w; go_simp; (try with_reducible rfl); (try first | omega | (intro h9; omega)))
      refine wpAny_take (i := 24) (v := undef) rfl (by kernel_rfl) (by kernel_rfl) (by kernel_rfl) (fun _ _ _ h => h) (Or.inr ⟨by kernel_rfl, rfl⟩) ?_
      refine wpAny_take (i := 25) (v := undef) rfl (by kernel_rfl) (by kernel_rfl) (by kernel_rfl) (fun _ _ _ h => h) (Or.inr ⟨by kernel_rfl, rfl⟩) ?_
      refine wpAny_take (i := 26) (v := undef) rfl (by kernel_rfl) (by kernel_rfl) (by kernel_rfl) (fun _ _ _ h => h) (Or.inr ⟨by kernel_rfl, rfl⟩) ?_
      refine wpAny_take (i := 27) (v := undef) rfl (by kernel_rfl) (by kernel_rfl) (by kernel_rfl) (fun _ _ _ h => h) (Or.inr ⟨by kernel_rfl, rfl⟩) ?_
      refine wpAny_take (i := 28) (v := undef) rfl (by kernel_rfl) (by kernel_rfl) (by kernel_rfl) (fun _ _ _ h => h) (Or.inr ⟨by kernel_rfl, rfl⟩) ?_
      refine wpAny_take (i := 29) (v := undef) rfl (by kernel_rfl) (by kernel_rfl) (by kernel_rfl) (fun _ _ _ h => h) (Or.inr ⟨by kernel_rfl, rfl⟩) ?_
      refine wpAny_take (i := 31) (v := undef) rfl (by kernel_rfl) (by kernel_rfl) (by kernel_rfl) (fun _ _ _ h => h) (Or.inr ⟨by kernel_rfl, rfl⟩) ?_
      refine wpAny_ready (rs := [30, 32]) (by kernel_rfl) (by simp) ?_
      refine AllReady.cons rfl (fun K hK => ?_) (AllReady.cons rfl (fun K hK => ?_) AllReady.nil)
      · go_simp
        refine hK _ _ ?_
        clear hK K
        refine wpAny_ready (rs := [32]) (by kernel_rfl) (by simp) ?_
        refine AllReady.cons rfl (fun K hK => ?_) AllReady.nil
        go_simp

        refine hK _ _ ?_
        clear hK K
        refine wpAny_take (i := 33) (v := undef) rfl (by kernel_rfl) (by kernel_rfl) (by kernel_rfl) (fun _ _ _ h => h) (Or.inr ⟨by kernel_rfl, rfl⟩) ?_
        refine wpAny_ready (rs := [34]) (by kernel_rfl) (by simp) ?_
        refine AllReady.cons rfl (fun K hK => ?_) AllReady.nil
        go_simp

        refine hK _ _ ?_
        clear hK K
        refine wpAny_take (i := 35) (v := undef) rfl (by kernel_rfl) (by kernel_rfl) (by kernel_rfl) (fun _ _ _ h => h) (Or.inr ⟨by kernel_rfl, rfl⟩) ?_
        refine wpAny_take (i := 36) (v := undef) rfl (by kernel_rfl) (by kernel_rfl) (by kernel_rfl) (fun _ _ _ h => h) (Or.inr ⟨by kernel_rfl, rfl⟩) ?_
        refine wpAny_take (i := 37) (v := .bool true) rfl (by kernel_rfl) (by kernel_rfl) (by kernel_rfl) (fun _ _ _ h => h) (Or.inl ⟨by kernel_rfl, ?_⟩) ?_
        · (intro w; go_simp; (try with_reducible rfl); (try first | omega | (intro h9; omega)))
        refine wpAny_take (i := 38) (v := .bool true) rfl (by kernel_rfl) (by kernel_rfl) (by kernel_rfl) (fun _ _ _ h => h) (Or.inl ⟨by kernel_rfl, ?_⟩) ?_
        · (intro w; go_simp; (try with_reducible rfl); (try first | omega | (intro h9; omega)))
        refine wpAny_take (i := 39) (v := .bool true) rfl (by kernel_rfl) (by kernel_rfl) (by kernel_rfl) (fun _ _ _ h => h) (Or.inl ⟨by kernel_rfl, ?_⟩) ?_
        · (intro w; go_simp; (try with_reducible rfl); (try first | omega | (intro h9; omega)))
        refine wpAny_take (i := 40) (v := .slice a1 n c1) rfl (by kernel_rfl) (by kernel_rfl) (by kernel_rfl) (fun _ _ _ h => h) (Or.inl ⟨by kernel_rfl, ?_⟩) ?_
        · (intro w; go_simp; (try with_reducible rfl); (try first | omega | (intro h9; omega)))
        refine wpAny_take (i := 41) (v := .slice a1 n c1) rfl (by kernel_rfl) (by kernel_rfl) (by kernel_rfl) (fun _ _ _ h => h) (Or.inl ⟨by kernel_rfl, ?_⟩) ?_
        · (intro w; go_simp; (try with_reducible rfl); (try first | omega | (intro h9; omega)))
        refine wpAny_take (i := 42) (v := .int .i64 n) rfl (by kernel_rfl) (by kernel_rfl) (by kernel_rfl) (fun _ _ _ h => h) (Or.inl ⟨by kernel_rfl, ?_⟩) ?_
        · (intro w; go_simp; (try with_reducible rfl); (try first | omega | (intro h9; omega)))
        refine wpAny_ready (rs := [43]) (by kernel_rfl) (by simp) ?_
        refine AllReady.cons rfl (fun K hK => ?_) AllReady.nil
        go_simp
        refine (implStOk_any a1 n c1 L n _ (srcI_of_T O12.out).1 (by omega)).mono ?_
        rw [HT.out]
        rintro e w14 ⟨rfl, hw14⟩
        rw [hw14]
        clear hw14
        refine hK _ _ ?_
        clear hK K
        refine wpAny_take (i := 44) (v := .bool true) rfl (by kernel_rfl) (by kernel_rfl) (by kernel_rfl) (fun _ _ _ h => h) (Or.inl ⟨by kernel_rfl, ?_⟩) ?_
        · (intro w; go_simp; (try with_reducible rfl); (try first | omega | (intro h9; omega)))
        refine wpAny_take (i := 45) (v := .bool true) rfl (by kernel_rfl) (by kernel_rfl) (by kernel_rfl) (fun _ _ _ h => h) (Or.inl ⟨by kernel_rfl, ?_⟩) ?_
        · (intro w; go_simp; (try with_reducible rfl); (try first | omega | (intro h9; omega)))
        refine wpAny_done (by kernel_rfl) ?_ _
        go_simp
        go_wp2
        go_ret
        exact ⟨rfl, B12.out⟩
      · go_simp
        refine hK _ _ ?_
        clear hK K
        refine wpAny_take (i := 33) (v := undef) rfl (by kernel_rfl) (by kernel_rfl) (by kernel_rfl) (fun _ _ _ h => h) (Or.inr ⟨by kernel_rfl, rfl⟩) ?_
        refine wpAny_ready (rs := [30, 34]) (by kernel_rfl) (by simp) ?_
        refine AllReady.cons rfl (fun K hK => ?_) (AllReady.cons rfl (fun K hK => ?_) AllReady.nil)
        · go_simp
          refine hK _ _ ?_
          clear hK K
          refine wpAny_ready (rs := [34]) (by kernel_rfl) (by simp) ?_
          refine AllReady.cons rfl (fun K hK => ?_) AllReady.nil
          go_simp

          refine hK _ _ ?_
          clear hK K
          refine wpAny_take (i := 35) (v := undef) rfl (by kernel_rfl) (by kernel_rfl) (by kernel_rfl) (fun _ _ _ h => h) (Or.inr ⟨by kernel_rfl, rfl⟩) ?_
          refine wpAny_take (i := 36) (v := undef) rfl (by kernel_rfl) (by kernel_rfl) (by kernel_rfl) (fun _ _ _ h => h) (Or.inr ⟨by kernel_rfl, rfl⟩) ?_
          refine wpAny_take (i := 37) (v := .bool true) rfl (by kernel_rfl) (by kernel_rfl) (by kernel_rfl) (fun _ _ _ h => h) (Or.inl ⟨by kernel_rfl, ?_⟩) ?_
          · (intro w; go_simp; (try with_reducible rfl); (try first | omega | (intro h9; omega)))
          refine wpAny_take (i := 38) (v := .bool true) rfl (by kernel_rfl) (by kernel_rfl) (by kernel_rfl) (fun _ _ _ h => h) (Or.inl ⟨by kernel_rfl, ?_⟩) ?_
          · (intro w; go_simp; (try with_reducible rfl); (try first | omega | (intro h9; omega)))
          refine wpAny_take (i := 39) (v := .bool true) rfl (by kernel_rfl) (by kernel_rfl) (by kernel_rfl) (fun _ _ _ h => h) (Or.inl ⟨by kernel_rfl, ?_⟩) ?_
          · (intro w; go_simp; (try with_reducible rfl); (try first | omega | (intro h9; omega)))
          refine wpAny_take (i := 40) (v := .slice a1 n c1) rfl (by kernel_rfl) (by kernel_rfl) (by kernel_rfl) (fun _ _ _ h => h) (Or.inl ⟨by kernel_rfl, ?_⟩) ?_
          · (intro w; go_simp; (try with_reducible rfl); (try first | omega | (intro h9; omega)))
          refine wpAny_take (i := 41) (v := .slice a1 n c1) rfl (by kernel_rfl) (by kernel_rfl) (by kernel_rfl) (fun _ _ _ h => h) (Or.inl ⟨by kernel_rfl, ?_⟩) ?_
          · (intro w; go_simp; (try with_reducible rfl); (try first | omega | (intro h9; omega)))
          refine wpAny_take (i := 42) (v := .int .i64 n) rfl (by kernel_rfl) (by kernel_rfl) (by kernel_rfl) (fun _ _ _ h => h) (Or.inl ⟨by kernel_rfl, ?_⟩) ?_
          · (intro w; go_simp; (try with_reducible rfl); (try first | omega | (intro h9; omega)))
          refine wpAny_ready (rs := [43]) (by kernel_rfl) (by simp) ?_
          refine AllReady.cons rfl (fun K hK => ?_) AllReady.nil
          go_simp
          refine (implStOk_any a1 n c1 L n _ (srcI_of_T O12.out).1 (by omega)).mono ?_
          rw [HT.out]
          rintro e w14 ⟨rfl, hw14⟩
          rw [hw14]
          clear hw14
          refine hK _ _ ?_
          clear hK K
          refine wpAny_take (i := 44) (v := .bool true) rfl (by kernel_rfl) (by kernel_rfl) (by kernel_rfl) (fun _ _ _ h => h) (Or.inl ⟨by kernel_rfl, ?_⟩) ?_
          · (intro w; go_simp; (try with_reducible rfl); (try first | omega | (intro h9; omega)))
          refine wpAny_take (i := 45) (v := .bool true) rfl (by kernel_rfl) (by kernel_rfl) (by kernel_rfl) (fun _ _ _ h => h) (Or.inl ⟨by kernel_rfl, ?_⟩) ?_
          · (intro w; go_simp; (try with_reducible rfl); (try first | omega | (intro h9; omega)))
          refine wpAny_done (by kernel_rfl) ?_ _
          go_simp
          go_wp2
          go_ret
          exact ⟨rfl, B12.out⟩
        · go_simp
          refine hK _ _ ?_
          clear hK K
          refine wpAny_ready (rs := [30]) (by kernel_rfl) (by simp) ?_
          refine AllReady.cons rfl (fun K hK => ?_) AllReady.nil
          go_simp

          refine hK _ _ ?_
          clear hK K
          refine wpAny_take (i := 35) (v := undef) rfl (by kernel_rfl) (by kernel_rfl) (by kernel_rfl) (fun _ _ _ h => h) (Or.inr ⟨by kernel_rfl, rfl⟩) ?_
          refine wpAny_take (i := 36) (v := undef) rfl (by kernel_rfl) (by kernel_rfl) (by kernel_rfl) (fun _ _ _ h => h) (Or.inr ⟨by kernel_rfl, rfl⟩) ?_
          refine wpAny_take (i := 37) (v := .bool true) rfl (by kernel_rfl) (by kernel_rfl) (by kernel_rfl) (fun _ _ _ h => h) (Or.inl ⟨by kernel_rfl, ?_⟩) ?_
          · (intro w; go_simp; (try with_reducible rfl); (try first | omega | (intro h9; omega)))
          refine wpAny_take (i := 38) (v := .bool true) rfl (by kernel_rfl) (by kernel_rfl) (by kernel_rfl) (fun _ _ _ h => h) (Or.inl ⟨by kernel_rfl, ?_⟩) ?_
          · (intro w; go_simp; (try with_reducible rfl); (try first | omega | (intro h9; omega)))
          refine wpAny_take (i := 39) (v := .bool true) rfl (by kernel_rfl) (by kernel_rfl) (by kernel_rfl) (fun _ _ _ h => h) (Or.inl ⟨by kernel_rfl, ?_⟩) ?_
          · (intro w; go_simp; (try with_reducible rfl); (try first | omega | (intro h9; omega)))
          refine wpAny_take (i := 40) (v := .slice a1 n c1) rfl (by kernel_rfl) (by kernel_rfl) (by kernel_rfl) (fun _ _ _ h => h) (Or.inl ⟨by kernel_rfl, ?_⟩) ?_
          · (intro w; go_simp; (try with_reducible rfl); (try first | omega | (intro h9; omega)))
          refine wpAny_take (i := 41) (v := .slice a1 n c1) rfl (by kernel_rfl) (by kernel_rfl) (by kernel_rfl) (fun _ _ _ h => h) (Or.inl ⟨by kernel_rfl, ?_⟩) ?_
          · (intro w; go_simp; (try with_reducible rfl); (try first | omega | (intro h9; omega)))
          refine wpAny_take (i := 42) (v := .int .i64 n) rfl (by kernel_rfl) (by kernel_rfl) (by kernel_rfl) (fun _ _ _ h => h) (Or.inl ⟨by kernel_rfl, ?_⟩) ?_
          · (intro w; go_simp; (try with_reducible rfl); (try first | omega | (intro h9; omega)))
          refine wpAny_ready (rs := [43]) (by kernel_rfl) (by simp) ?_
          refine AllReady.cons rfl (fun K hK => ?_) AllReady.nil
          go_simp
          refine (implStOk_any a1 n c1 L n _ (srcI_of_T O12.out).1 (by omega)).mono ?_
          rw [HT.out]
          rintro e w14 ⟨rfl, hw14⟩
          rw [hw14]
          clear hw14
          refine hK _ _ ?_
          clear hK K
          refine wpAny_take (i := 44) (v := .bool true) rfl (by kernel_rfl) (by kernel_rfl) (by kernel_rfl) (fun _ _ _ h => h) (Or.inl ⟨by kernel_rfl, ?_⟩) ?_
          · (intro w; go_simp; (try with_reducible rfl); (try first | omega | (intro h9; omega)))
          refine wpAny_take (i := 45) (v := .bool true) rfl (by kernel_rfl) (by kernel_rfl) (by kernel_rfl) (fun _ _ _ h => h) (Or.inl ⟨by kernel_rfl, ?_⟩) ?_
          · (intro w; go_simp; (try with_reducible rfl); (try first | omega | (intro h9; omega)))
          refine wpAny_done (by kernel_rfl) ?_ _
          go_simp
          go_wp2
          go_ret
          exact ⟨rfl, B12.out⟩
      -- END NO
  · have HSW : Hid (stWords L = []) := Lib.hid (stWords_no (by rw [HN.out]; exact hok))
    have HS0 : Hid ((stWords [0]).length = 2) := Lib.hid (by rw [stWords_yes ⟨fun j hj => by
      obtain rfl : j = 0 := by simpa using hj
      exact ⟨by decide, by decide⟩, by decide, by decide, by decide⟩]; rfl)
    rw [stB_no hok]
    clear hok
    rintro e w5 ⟨rfl, hw5⟩
    rw [hw5]
    clear hw5
    go_wp2_with fail
    refine (implStWords_any a1 n c1 L _ (srcI_of_T O14.out).1 (by omega)).mono ?_
    rw [HSW.out]
    rintro e w5 ⟨v5, rfl, o5, hb5⟩
    obtain ⟨a5, c5, rfl, hcc5, _, _⟩ := own_form o5
    have B5 : Hid (Below w.heap.size w w5) := Lib.hid (B4.out.trans (hb5.mono B4.out.size))
    have X5 : Hid (SrcI (w5.alloc (.cells #[.int .i64 0] 3)) (some ⟨w5.heap.size, 0, none⟩) 1 [0]) := Lib.hid ⟨rfl, fun j hj => by
      obtain rfl : j = 0 := by omega
      exact ⟨w5.heap.size, 0, rfl, by simp, (Bk.alloc w5 #[.int .i64 0] 3).cell rfl⟩⟩
    have B6 : Hid (Below w.heap.size w (w5.alloc (.cells #[.int .i64 0] 3))) := Lib.hid (B5.out.alloc B5.out.size _)
    clear o5 hb5 hcc5
    go_wp2_with fail
    refine (implStWords_any _ 1 1 [0] _ X5.out (by omega)).mono ?_
    rintro e w6 ⟨v6, rfl, o6, hb6⟩
    rw [HS0.out] at o6
    obtain ⟨a6, c6, rfl, hcc6, _, _⟩ := own_form o6
    have B7 : Hid (Below w.heap.size w w6) := Lib.hid (B6.out.trans (hb6.mono B6.out.size))
    clear o6 hb6 hcc6
    go_wp2
    go_ret
    exact ⟨rfl, B7.out⟩
end Go.Proofs.Ytppdjhchangikaa
