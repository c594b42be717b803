/- FnDigests: the law's walk. -/
import Derived.Test.YtbojcphcjggccaaDoorDigsMath
import Derived.Test.YtbojcphcjggccaaDoorDrawMore
import Derived.BigRegion
import Derived.StillTailTactics
namespace Go.Proofs.YtbojcphcjggccaaDoor
open Go.RowKit Go.Proofs.YtbojcphcjggccaaDoor.Sha Go.Proofs.YtbojcphcjggccaaDoor.Hexa Go.Proofs.YtbojcphcjggccaaDoor.Byt Go.Proofs.YtbojcphcjggccaaDoor.Parts
namespace Draw

/-- A number picked out of a list that the call has just laid. -/
theorem pickNum_new (c : Nat) (ad : Option Addr) (len cap : Nat) (n : Nat) (zs : List Int) (cs : Array Value) (t : TypeId) (w : World) (hcs : cs = (zs.map fun z => Value.int .i64 z).toArray) (hlen : len ≤ 1048576) (hn : 0 < n) (hn2 : n ≤ 200) (hz : zs.length = n) (hc : Cur w c ad len cap) (hs : Src w c ad len) :
    Calls Tryd.prog 39 #[.pointer (some ⟨c, 0, none⟩), .slice (some ⟨w.heap.size, 0, none⟩) n n] (w.alloc (.cells cs t)) fun e w' => ∃ z ∈ zs, e = .returned (.int .i64 z) ∧ Cur w' c ad len cap ∧ w.grownBy w' (some c) := by
  have hh := heap_alloc_new w (.cells cs t)
  have hlt := cur_lt hc
  refine (pickInt_any c ad len cap w.heap.size n n zs _ hlen hn (by omega) hz (fun j hj => ?_) (by simp) (by omega) (cur_grown hc (grown_alloc _ _ none) (by simp)) (src_grown' hs (grown_alloc _ _ none) (fun k e => by cases e) (by omega))).mono ?_
  · have h1 : ∀ (o : Option Obj), o = some (.cells cs t) → (match o with | some (.cells c _ _) => c[j]? | _ => none) = some (.int .i64 (zs.getD j 0)) := fun o ho => by
      subst ho
      subst hcs
      have hj' : j < zs.length := by omega
      simp [List.getD, hj']
    exact h1 _ hh
  · rintro e w' ⟨v, ⟨z, hz, rfl⟩, rfl, hc', hg'⟩
    exact ⟨z, hz, rfl, hc', grownBy_trans (grown_alloc w _ _) hg'⟩

def DigPost (w : World) (e : Ending) (w' : World) : Prop := ∃ t : ByteArray, e = .returned (.string t) ∧ t.size ≤ 200 ∧ Below w.heap.size w w'

set_option maxRecDepth 100000 in
set_option maxHeartbeats 1000000 in
theorem some_any (c : Nat) (ad : Option Addr) (len cap : Nat) (w : World) (hlen : len ≤ 1048576) (hc : Cur w c ad len cap) (hs : Src w c ad len) :
    Calls Tryd.prog 22 #[.pointer (some ⟨c, 0, none⟩)] w (DrawPost (fun v => ∃ t : ByteArray, v = .string t ∧ t.size ≤ 200) w c ad len cap) := by
  have HC := Lib.hid hc
  have HS := Lib.hid hs
  clear hc hs
  go_enter Tryd.func22, Tryd.ntmps22
  go_wp2_with fail
  refine (pickNum_new c ad len cap 13 [0, 1, 3, 9, 54, 55, 56, 63, 64, 65, 119, 120, 200] _ _ w rfl hlen (by decide) (by decide) rfl HC.out HS.out).mono ?_
  rintro e w2 ⟨z, hz, rfl, hc2, hg2⟩
  have S2 := Lib.hid (src_grown HS.out hg2 (cur_lt HC.out))
  have C2 := Lib.hid hc2
  have G2 := Lib.hid hg2
  have hz' : 0 ≤ z ∧ z ≤ 200 := by simp at hz; omega
  obtain ⟨m, rfl⟩ : ∃ m : Nat, z = m := ⟨z.toNat, by omega⟩
  clear hc2 hg2 hz
  go_wp2_with fail
  refine (text_any c ad len cap m w2 hlen (by omega) C2.out S2.out).mono ?_
  rintro e w3 ⟨v, ⟨a, rfl, ha⟩, rfl, hc3, hg3⟩
  have C3 := Lib.hid hc3
  have G3 := Lib.hid (grownBy_trans G2.out hg3)
  clear hc3 hg3
  go_wp2
  go_ret
  exact ⟨_, ⟨a, rfl, by omega⟩, rfl, C3.out, G3.out⟩

set_option maxRecDepth 100000 in
set_option maxHeartbeats 1000000 in
theorem drawDigest_any (ad : Option Addr) (len cap : Nat) (w : World) (hlen : len ≤ 1048576) (hs : Src w w.heap.size ad len) :
    Calls Tryd.prog 6 #[.slice ad len cap] w (DigPost w) := by
  have HS := Lib.hid hs
  clear hs
  go_enter Tryd.func6, Tryd.ntmps6
  go_wp2_with fail
  refine (new_any ad len cap w hlen HS.out).mono ?_
  rintro e w1 ⟨rfl, h, rfl⟩
  have C1 : Hid (Cur (w.alloc (.cells #[.slice ad len cap, .int .i64 0, .int .i64 h] 66)) w.heap.size ad len cap) := Lib.hid ⟨0, h, Nat.zero_le _, heap_alloc_new w _⟩
  have S1 : Hid (Src (w.alloc (.cells #[.slice ad len cap, .int .i64 0, .int .i64 h] 66)) w.heap.size ad len) := Lib.hid (src_grown' HS.out (grown_alloc _ _ none) (fun k e => by cases e) (Nat.le_refl _))
  have B1 : Hid (Below w.heap.size w (w.alloc (.cells #[.slice ad len cap, .int .i64 0, .int .i64 h] 66))) := Lib.hid ((Below.refl _ _).alloc (Nat.le_refl _) _)
  generalize w.alloc (.cells #[.slice ad len cap, .int .i64 0, .int .i64 h] 66) = W1 at C1 S1 B1 ⊢
  go_wp2_with fail
  refine (some_any w.heap.size ad len cap W1 hlen C1.out S1.out).mono ?_
  rintro e w2 ⟨v, ⟨t, rfl, ht⟩, rfl, hc2, hg2⟩
  have B2 := Lib.hid (B1.out.grown hg2 (B1.out.size) (fun k e => by simp at e; omega))
  clear hc2 hg2
  go_wp2
  go_ret
  exact ⟨t, rfl, ht, B2.out⟩
end Draw

theorem own_eight {w : World} {B e : Nat} {v : Value} {xs : List Value} (h : w.ownsRow B e 1 v 8 xs) : ∃ g cap, v = .slice (some ⟨g, 0, none⟩) 8 cap := by
  rcases h.2 with ⟨_, h1⟩ | ⟨g, cap, cur, h1, _⟩
  · omega
  · exact ⟨g, cap, h1⟩

set_option maxRecDepth 100000 in
set_option maxHeartbeats 4000000 in
theorem fnDigests_law (ad : Option Addr) (len cap : Nat) (w : World) (hlen : len ≤ 1048576) (hs : Draw.Src w w.heap.size ad len) (hT : Tabs w) :
    Calls Tryd.prog 3 #[.slice ad len cap] w fun e w' => e = .returned (.bool true) ∧ Below w.heap.size w w' := by
  have HS := Lib.hid hs
  have HT := Lib.hid hT
  clear hs hT
  go_enter Tryd.func3, Tryd.ntmps3
  go_wp2_with (go_at_call 5; go_in)
  refine (Draw.drawDigest_any ad len cap w hlen HS.out).mono ?_
  rintro e w1 ⟨t, rfl, ht, hb1⟩
  have B1 := Lib.hid hb1
  clear hb1
  have kp : Hid (∀ w : World, Calls Tryd.prog 7 #[.string t] w fun e w' => e = .returned (.string (padB t)) ∧ Below w.heap.size w w') := Lib.hid fun w => Pad.impl_any t w (by omega)
  have kD := Lib.hid fun w (hT : Tabs w) => implDigest_any t w (by omega) hT.1 hT.2
  have kC := Lib.hid fun w (hT : Tabs w) => implCut_any t 20 w (by omega) hT
  have kH0 := fun w (hT : Tabs w) => implDigestHex_any ⟨#[97, 98, 99]⟩ w (by decide) hT
  rw [abc_known] at kH0
  have kH := Lib.hid kH0
  clear kH0
  have hpl := pad_len t
  have hzl := Pad.zer_lt t.size
  have hph := pad_head t
  have hp64 := padB_size t
  have hpn := padN_le t (by omega)
  have HD : Hid (digB t = ⟨(textL (blocksS (padB t) (padN t))).toArray⟩) := Lib.hid rfl
  have HB : Hid (∀ k, blocksS (padB t) (k + 1) = blockS (blocksS (padB t) k) keyL ((padB t).extract (64 * k) (64 * k + 64))) := Lib.hid fun k => rfl
  have H0 : Hid (blocksS (padB t) 0 = firstS) := Lib.hid rfl
  have hcut : cutB t 20 = (digB t).extract 0 20 := if_pos ⟨by omega, by omega⟩
  rw [hcut] at kC
  have hdz := digB_size t
  generalize digB t = D at kD kC HD hdz
  generalize padB t = p at kp hpl hph hp64 HD HB H0
  generalize padN t = N at hp64 hpn HD
  clear hcut
  have e1 : (p.size : Int) % 64 = 0 := by omega
  have e2 : ¬ ((p.size : Int) < (t.size : Int) + 9) := by omega
  have e3 : ¬ ((t.size : Int) + 72 < (p.size : Int)) := by omega
  have e4 : ((t.size : Int)).toNat = t.size := by omega
  have e5 : (t.size : Int) ≤ (p.size : Int) := by omega
  go_wp2_with fail
  refine (kp.out _).mono ?_
  rintro e w2 ⟨rfl, hb2⟩
  have B2 := Lib.hid (B1.out.trans (hb2.mono B1.out.size))
  clear hb2
  go_wp2_with fail
  clear e1 e2 e3 e4 e5 hph hpl hzl
  refine (implStart_any _ (HT.out.below B2.out).1).mono ?_
  rintro e w3 ⟨v3, rfl, hown3, hb3⟩
  obtain ⟨g3, c3, rfl⟩ := own_eight hown3
  have I3 : Hid (IntsAt w3 g3 8 (ints (blocksS p 0))) := Lib.hid (by rw [H0.out]; exact intsAt_of_own hown3)
  have B3 := Lib.hid (B2.out.trans (hb3.mono B2.out.size))
  have hz64 : (p.size : Int) = 64 * (N : Int) := by omega
  clear hown3 hb3 H0
  go_wp2
  go_loopw [5, 6] (fun v iv wr => ∃ (k g c : Nat), k ≤ N ∧ iv = .int .i64 (64 * (k : Int)) ∧ v = .slice (some ⟨g, 0, none⟩) 8 c ∧ Hid (IntsAt wr g 8 (ints (blocksS p k))) ∧ Hid (Below w.heap.size w wr)) (fun _ iv _ => N - (intOf iv / 64).toNat)
  case atStart => exact ⟨0, g3, c3, Nat.zero_le _, rfl, rfl, I3, B3⟩
  case round =>
    clear I3 B3
    obtain ⟨k, g, c, hk, rfl, rfl, HI, HL⟩ := hrel
    by_cases hlt : k < N
    · have hbs : (p.extract (64 * k) (64 * k + 64)).size = 64 := by rw [ByteArray.size_extract]; omega
      have kb := Lib.hid (implBlock_good g c (ints (blocksS p k)) (p.extract (64 * k) (64 * k + 64)) wr HI.out (ints_good _) hbs (HT.out.below HL.out).2)
      rw [stOf_ints, ← HB.out] at kb
      have hbe : Hid (∃ b, p.extract (64 * k) (64 * k + 64) = b) := Lib.hid ⟨_, rfl⟩
      have f1 : (64 * (k : Int)).toNat = 64 * k := by omega
      have f2 : (64 * (k : Int) + 64).toNat = 64 * k + 64 := by omega
      have f3 : 64 * (k : Int) + 64 ≤ (p.size : Int) := by omega
      have f4 : 64 * (k : Int) < (p.size : Int) := by omega
      have f5 : 64 * (k : Int) < 64 * (N : Int) := by omega
      clear hbs hbe
      go_wp2_with fail
      refine kb.out.mono ?_
      rintro e w4 ⟨v4, rfl, hown4, hb4⟩
      rw [show (ints (blocksS p (k + 1))).length = 8 from rfl] at hown4
      obtain ⟨g4, c4, rfl⟩ := own_eight hown4
      have I4 : Hid (IntsAt w4 g4 8 (ints (blocksS p (k + 1)))) := Lib.hid (intsAt_of_own hown4)
      have B4 := Lib.hid (HL.out.trans (hb4.mono HL.out.size))
      clear hown4 hb4 kb f1 f2 f3 f4 f5
      go_wp2
      go_roundw
      case rel => exact ⟨k + 1, g4, c4, by omega, by go_num, rfl, I4, B4⟩
      case measure => (simp [intOf]; try omega)
    · obtain rfl : k = N := by omega
      have f5 : ¬ (64 * (k : Int) < (p.size : Int)) := by omega
      obtain ⟨S, hS⟩ : ∃ S, blocksS p k = S := ⟨_, rfl⟩
      have HI' : Hid (IntsAt wr g 8 (ints S)) := Lib.hid (by rw [← hS]; exact HI.out)
      have HD' : Hid (D = ⟨(textL S).toArray⟩) := Lib.hid (by rw [← hS]; exact HD.out)
      clear HI HD HB hS
      go_wp2
      go_loopw [7, 8] (fun sv iv wq => ∃ (i : Nat) (s : ByteArray), i ≤ 8 ∧ iv = .int .i64 i ∧ sv = .string s ∧ s.size ≤ 32 ∧ Hid (s = ⟨((S.list.take i).flatMap be4).toArray⟩) ∧ Hid (IntsAt wq g 8 (ints S)) ∧ Hid (Below w.heap.size w wq)) (fun _ iv _ => 8 - (intOf iv).toNat)
      case atStart => exact ⟨0, ⟨#[]⟩, Nat.zero_le _, rfl, rfl, Nat.zero_le _, Lib.hid rfl, HI', HL⟩
      case round =>
        clear HI' HL
        obtain ⟨i, s, hi, rfl, rfl, hss, HE, HI, HL⟩ := hrel
        by_cases hit : i < 8
        · have ci := HI.out.cell i hit
          rw [ints_get S i hit] at ci
          have hx := u_bd (S.list.getD i 0)
          have kn := Lib.hid fun w => specNum_yes (S.list.getD i 0).toNat 4 w (by omega) (by omega) (by have := (S.list.getD i 0).toNat_lt; omega)
          have hn4 : (numB (S.list.getD i 0).toNat 4).size = 4 := by show (numL _ 4 4).toArray.size = 4; rw [List.size_toArray, numL_length]
          have HE2 : Hid (s ++ numB (S.list.getD i 0).toNat 4 = ⟨((S.list.take (i + 1)).flatMap be4).toArray⟩) := Lib.hid (by
            rw [HE.out, num_be4, ← text_snoc S.list i (by show i < 8; exact hit)]
            apply ByteArray.ext
            rw [ByteArray.data_append]
            apply Array.toList_inj.1
            simp)
          have HZ2 : (s ++ numB (S.list.getD i 0).toNat 4).size ≤ 32 := by
            rw [HE2.out]
            show ((S.list.take (i + 1)).flatMap be4).toArray.size ≤ 32
            rw [List.size_toArray, flat_length, List.length_take]
            have : S.list.length = 8 := rfl
            omega
          have hun : u (S.list.getD i 0) = ((S.list.getD i 0).toNat : Int) := rfl
          rw [hun] at ci
          generalize numB (S.list.getD i 0).toNat 4 = b at kn hn4 HE2 HZ2
          generalize (S.list.getD i 0).toNat = x at kn ci
          clear hx hun
          have f1 : (i : Int) < 8 := by omega
          go_wp2_with fail
          refine (kn.out _).mono ?_
          rintro e w5 ⟨rfl, hb5⟩
          have I5 : Hid (IntsAt w5 g 8 (ints S)) := Lib.hid (HI.out.later hb5)
          have B5 := Lib.hid (HL.out.trans (hb5.mono HL.out.size))
          have hsum : s.size + b.size ≤ 36 := by omega
          clear hb5 ci
          go_wp2
          go_roundw
          case rel => exact ⟨i + 1, s ++ b, by omega, by go_num, rfl, HZ2, HE2, I5, B5⟩
          case measure => (simp [intOf]; try omega)
        · obtain rfl : i = 8 := by omega
          have hsD : s = D := by rw [HE.out, HD'.out]; rfl
          subst hsD
          have B5 := HL
          have HX : Hid ((s : ByteArray).size = 32) := Lib.hid hdz
          clear HE HI HL
          go_wp2_with fail
          refine wp_region_any (by kernel_rfl) ?_
          change wpAny _ _ _ _ _ _ _ (World.drew wr)
          refine wpAny_take (i := 0) (v := .string t) rfl (by kernel_rfl) (by kernel_rfl) (by kernel_rfl) (fun _ _ _ h => h) (Or.inl ⟨by kernel_rfl, ?_⟩) ?_
          · (intro w; go_simp; try with_reducible rfl)
          refine wpAny_take (i := 2) (v := .string s) rfl (by kernel_rfl) (by kernel_rfl) (by kernel_rfl) (fun _ _ _ h => h) (Or.inl ⟨by kernel_rfl, ?_⟩) ?_
          · (intro w; go_simp; try with_reducible rfl)
          refine wpAny_ready (rs := [1]) (by kernel_rfl) (by simp) ?_
          refine AllReady.cons rfl (fun K hK => ?_) AllReady.nil
          go_simp
          refine (kD.out _ (HT.out.below B5.out.drew)).mono ?_
          rintro e w6 ⟨rfl, hb6⟩
          have B6 := Lib.hid (B5.out.drew.trans (hb6.mono B5.out.drew.size))
          refine hK _ _ ?_
          clear hK K hb6
          refine wpAny_take (i := 3) (v := .bool true) rfl (by kernel_rfl) (by kernel_rfl) (by kernel_rfl) (fun _ _ _ h => h) (Or.inl ⟨by kernel_rfl, ?_⟩) ?_
          · (intro w; go_simp; try with_reducible rfl)
          refine wpAny_take (i := 4) (v := .bool true) rfl (by kernel_rfl) (by kernel_rfl) (by kernel_rfl) (fun _ _ _ h => h) (Or.inl ⟨by kernel_rfl, ?_⟩) ?_
          · (intro w; go_simp; try with_reducible rfl)
          refine wpAny_take (i := 5) (v := .string s) rfl (by kernel_rfl) (by kernel_rfl) (by kernel_rfl) (fun _ _ _ h => h) (Or.inl ⟨by kernel_rfl, ?_⟩) ?_
          · (intro w; go_simp; try with_reducible rfl)
          refine wpAny_take (i := 6) (v := .int .i64 32) rfl (by kernel_rfl) (by kernel_rfl) (by kernel_rfl) (fun _ _ _ h => h) (Or.inl ⟨by kernel_rfl, ?_⟩) ?_
          · (intro w; go_simp; try simp [hdz]; try with_reducible rfl)
          refine wpAny_take (i := 7) (v := .bool true) rfl (by kernel_rfl) (by kernel_rfl) (by kernel_rfl) (fun _ _ _ h => h) (Or.inl ⟨by kernel_rfl, ?_⟩) ?_
          · (intro w; go_simp; try with_reducible rfl)
          refine wpAny_take (i := 8) (v := .bool true) rfl (by kernel_rfl) (by kernel_rfl) (by kernel_rfl) (fun _ _ _ h => h) (Or.inl ⟨by kernel_rfl, ?_⟩) ?_
          · (intro w; go_simp; try with_reducible rfl)
          refine wpAny_take (i := 9) (v := .bool true) rfl (by kernel_rfl) (by kernel_rfl) (by kernel_rfl) (fun _ _ _ h => h) (Or.inl ⟨by kernel_rfl, ?_⟩) ?_
          · (intro w; go_simp; try with_reducible rfl)
          refine wpAny_take (i := 10) (v := .string t) rfl (by kernel_rfl) (by kernel_rfl) (by kernel_rfl) (fun _ _ _ h => h) (Or.inl ⟨by kernel_rfl, ?_⟩) ?_
          · (intro w; go_simp; try with_reducible rfl)
          refine wpAny_take (i := 12) (v := .string s) rfl (by kernel_rfl) (by kernel_rfl) (by kernel_rfl) (fun _ _ _ h => h) (Or.inl ⟨by kernel_rfl, ?_⟩) ?_
          · (intro w; go_simp; try with_reducible rfl)
          refine wpAny_take (i := 13) (v := .string (s.extract 0 20)) rfl (by kernel_rfl) (by kernel_rfl) (by kernel_rfl) (fun _ _ _ h => h) (Or.inl ⟨by kernel_rfl, ?_⟩) ?_
          · (intro w; go_simp; try simp [hdz]; try with_reducible rfl)
          refine wpAny_ready (rs := [11]) (by kernel_rfl) (by simp) ?_
          refine AllReady.cons rfl (fun K hK => ?_) AllReady.nil
          go_simp
          refine (kC.out _ (HT.out.below B6.out)).mono ?_
          rintro e w7 ⟨rfl, hb7⟩
          have B7 := Lib.hid (B6.out.trans (hb7.mono B6.out.size))
          refine hK _ _ ?_
          clear hK K hb7
          refine wpAny_take (i := 14) (v := .bool true) rfl (by kernel_rfl) (by kernel_rfl) (by kernel_rfl) (fun _ _ _ h => h) (Or.inl ⟨by kernel_rfl, ?_⟩) ?_
          · (intro w; go_simp; try with_reducible rfl)
          refine wpAny_take (i := 15) (v := .bool true) rfl (by kernel_rfl) (by kernel_rfl) (by kernel_rfl) (fun _ _ _ h => h) (Or.inl ⟨by kernel_rfl, ?_⟩) ?_
          · (intro w; go_simp; try with_reducible rfl)
          refine wpAny_take (i := 16) (v := .bool true) rfl (by kernel_rfl) (by kernel_rfl) (by kernel_rfl) (fun _ _ _ h => h) (Or.inl ⟨by kernel_rfl, ?_⟩) ?_
          · (intro w; go_simp; try with_reducible rfl)
          refine wpAny_ready (rs := [17]) (by kernel_rfl) (by simp) ?_
          refine AllReady.cons rfl (fun K hK => ?_) AllReady.nil
          go_simp
          refine (kH.out _ (HT.out.below B7.out)).mono ?_
          rintro e w8 ⟨rfl, hb8⟩
          have B8 := Lib.hid (B7.out.trans (hb8.mono B7.out.size))
          refine hK _ _ ?_
          clear hK K hb8
          refine wpAny_take (i := 18) (v := .bool true) rfl (by kernel_rfl) (by kernel_rfl) (by kernel_rfl) (fun _ _ _ h => h) (Or.inl ⟨by kernel_rfl, ?_⟩) ?_
          · (intro w; go_simp; try exact abc_list; try with_reducible rfl)
          refine wpAny_take (i := 19) (v := .bool true) rfl (by kernel_rfl) (by kernel_rfl) (by kernel_rfl) (fun _ _ _ h => h) (Or.inl ⟨by kernel_rfl, ?_⟩) ?_
          · (intro w; go_simp; try with_reducible rfl)
          refine wpAny_take (i := 20) (v := .bool true) rfl (by kernel_rfl) (by kernel_rfl) (by kernel_rfl) (fun _ _ _ h => h) (Or.inl ⟨by kernel_rfl, ?_⟩) ?_
          · (intro w; go_simp; try with_reducible rfl)
          refine wpAny_done (by kernel_rfl) ?_ _
          go_simp
          go_wp2
          go_ret
          exact ⟨rfl, B8.out⟩
theorem fnDigests_big (ad : Option Addr) (len cap : Nat) (w : World) (hlen : 1048576 < len) :
    Calls Tryd.prog 3 #[.slice ad len cap] w fun e w' => e = .returned (.bool true) ∧ Below w.heap.size w w' := by
  go_enter Tryd.func3, Tryd.ntmps3
  go_wp2_with (go_at_call 5; go_in)
  go_ret
  exact ⟨rfl, Below.refl _ _⟩
theorem fnDigests_all (ad : Option Addr) (len cap : Nat) (w : World) (hs : Draw.Src w w.heap.size ad len) (hT : Tabs w) :
    Calls Tryd.prog 3 #[.slice ad len cap] w fun e w' => e = .returned (.bool true) ∧ Below w.heap.size w w' := by
  by_cases h : len ≤ 1048576
  · exact fnDigests_law ad len cap w h hs hT
  · exact fnDigests_big ad len cap w (by omega)
end Go.Proofs.YtbojcphcjggccaaDoor
