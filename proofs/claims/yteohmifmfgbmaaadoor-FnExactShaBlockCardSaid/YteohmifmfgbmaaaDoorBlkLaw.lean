/- FnExactShaBlock: the law's walk. -/
import Derived.Test.YteohmifmfgbmaaaDoorBlkSpec
namespace Go.Proofs.YteohmifmfgbmaaaDoor
open Go.RowKit Go.Proofs.YteohmifmfgbmaaaDoor.Sha Go.Proofs.YteohmifmfgbmaaaDoor.Hexa Go.Proofs.YteohmifmfgbmaaaDoor.Parts

theorem below_draws' {B : Nat} {a w : World} (h : Below B a w) (m : Nat) : Below B a (w.drewN m) := ⟨h.os, h.tape, h.output, h.size, h.block⟩
theorem own_draws' {w : World} {base e : Nat} {v : Value} {n : Nat} {xs : List Value} (h : w.ownsRow base e 1 v n xs) (m : Nat) : (w.drewN m).ownsRow base e 1 v n xs := h
theorem eq_own (v1 v2 : Value) (B1 B2 n : Nat) (P : List Int) (w : World) (hP : P.length = n) (hn : n ≤ 100000000) (h1 : w.ownsRow B1 3 1 v1 n (icells P)) (h2 : w.ownsRow B2 3 1 v2 n (icells P)) :
    Calls Tryd.prog 11 #[v1, v2] w fun e w' => e = .returned (.bool true) ∧ ∃ m, w' = w.drewN m := by
  obtain ⟨a1, c1, rfl, _, _, r1⟩ := own_form h1
  obtain ⟨a2, c2, rfl, _, _, r2⟩ := own_form h2
  exact eqInts_any a1 a2 n c1 c2 P w hP hn r1 r2

set_option maxRecDepth 100000 in
set_option maxHeartbeats 2000000 in
theorem block_law_of (a : Option Addr) (n c : Nat) (zs L : List Int) (b : ByteArray) (w : World) (hs : SrcI w a n zs) (hn : n ≤ 1048576) (hb : b.size ≤ 1048576) (hL : L.length ≤ 1048576)
    (hk : IsTab w 1 keyL)
    (h1 : ∀ w g c, IntsAt w g n zs → Calls Tryd.prog 8 #[.slice (some ⟨g, 0, none⟩) n c, .string b] w (GivesL L w))
    (h2 : ∀ w g c, IntsAt w g n zs → IsTab w 1 keyL → Calls Tryd.prog 10 #[.slice (some ⟨g, 0, none⟩) n c, .string b] w (GivesL L w)) :
    Calls Tryd.prog 3 #[.slice a n c, .string b] w fun e w' => e = .returned (.bool true) ∧ Below w.heap.size w w' := by
  have k1 := Lib.hid h1
  have k2 := Lib.hid h2
  have HS := Lib.hid hs
  have HK := Lib.hid hk
  have hz : zs.length = n := hs.len
  have HZ := Lib.hid hz
  clear h1 h2 hs hk hz
  go_enter Tryd.func3, Tryd.ntmps3
  -- the model's answer
  go_wp2_with fail
  refine (toInts_any a n c zs _ HS.out (by omega)).mono ?_
  rintro e w1 ⟨rfl, hown1, hb1⟩
  have I1 := Lib.hid (intsAt_of_own hown1)
  have B1 := Lib.hid hb1
  clear hown1 hb1
  go_wp2_with fail
  refine (k1.out w1 _ n I1.out).mono ?_
  rintro e w2 ⟨v5, rfl, hown5, hb5⟩
  have O5 := Lib.hid hown5
  have B2 : Hid (Below w.heap.size w w2) := Lib.hid (B1.out.trans (hb5.mono B1.out.size))
  clear hown5 hb5 I1
  go_wp2_with fail
  refine (toInts_any a n c zs _ (HS.out.later B2.out) (by omega)).mono ?_
  rintro e w3 ⟨rfl, hown6, hb6⟩
  have O6 := Lib.hid hown6
  have O53 := Lib.hid (own_below O5.out hb6)
  have B3 : Hid (Below w.heap.size w w3) := Lib.hid (B2.out.trans (hb6.mono B2.out.size))
  have S23 := Lib.hid hb6.size
  have S6L : Hid (w2.heap.size < w3.heap.size) := Lib.hid (own_lt hown6)
  clear hown6 hb6
  go_wp2_with fail
  refine (k2.out w3 _ n (intsAt_of_own O6.out) (HK.out.below HK.out.lt B3.out)).mono ?_
  rintro e w4 ⟨v7, rfl, hown7, hb7⟩
  have O7 := Lib.hid hown7
  have O54 := Lib.hid (own_below O53.out hb7)
  have O64 := Lib.hid (own_below O6.out hb7)
  have B4 : Hid (Below w.heap.size w w4) := Lib.hid (B3.out.trans (hb7.mono B3.out.size))
  have S34 := Lib.hid hb7.size
  clear hown7 hb7 O6 O53
  go_wp2_with fail
  refine (eq_own _ _ _ _ L.length L w4 rfl (by omega) O7.out O54.out).mono ?_
  rintro e w4d ⟨rfl, m4, rfl⟩
  go_wp2_with fail
  refine (toInts_any a n c zs _ (HS.out.later (below_draws' B4.out m4)) (by omega)).mono ?_
  rintro e w5 ⟨rfl, hown10, hb10⟩
  have hb10' : Below w4.heap.size w4 w5 := (below_draws' (Below.refl _ _) m4).trans hb10
  have O10 := Lib.hid hown10
  have O65 := Lib.hid (own_below O64.out hb10')
  have O55 := Lib.hid (own_below O54.out hb10')
  have O75 := Lib.hid (own_below O7.out hb10')
  have B5 : Hid (Below w.heap.size w w5) := Lib.hid (B4.out.trans (hb10'.mono B4.out.size))
  have S45 := Lib.hid hb10'.size
  clear hown10 hb10 hb10' O64 O54
  go_wp2_with fail
  refine (eq_own _ _ _ _ n zs w5 HZ.out (by omega) O65.out O10.out).mono ?_
  rintro e w5d ⟨rfl, m5, rfl⟩
  clear O10
  go_wp2_with fail
  refine (markIntsB_any w2.heap.size _ n 1 (icells zs) (w5.drewN m5) (by omega) (own_draws' O65.out m5)).mono ?_
  rintro e w6 ⟨ys6, rfl, hown66, _, hb66, hkeep⟩
  have O76 : Hid (w6.ownsRow w3.heap.size 3 1 v7 L.length (icells L)) := Lib.hid (own_kept (own_draws' O75.out m5) (fun g hg => hkeep g (by
    intro h
    have h1 := own_block_ge O75.out g hg
    have h2 : g = w2.heap.size := by simpa [Value.ownBlock] using h.symm
    have h3 := S6L.out
    omega)))
  have O56 : Hid (w6.ownsRow w1.heap.size 3 1 v5 L.length (icells L)) := Lib.hid (own_kept (own_draws' O55.out m5) (fun g hg => hb66.block g (own_block_lt O5.out g hg)))
  have B6 : Hid (Below w.heap.size w w6) := Lib.hid ((below_draws' B5.out m5).trans (hb66.mono B2.out.size))
  have hp6 : ¬ ((1 : Int) + (n : Int) < 0) := by omega
  have BW26 : Hid (Below w2.heap.size w5 w6) := Lib.hid ((below_draws' (Below.refl _ _) m5).trans hb66)
  clear hown66 hb66 hkeep O65
  go_wp2_with fail
  refine (eq_own _ _ _ _ L.length L w6 rfl (by omega) O76.out O56.out).mono ?_
  rintro e w6d ⟨rfl, m6, rfl⟩
  go_wp2_with fail
  refine (markIntsB_any w3.heap.size v7 L.length 1 (icells L) (w6.drewN m6) (by omega) (own_draws' O76.out m6)).mono ?_
  rintro e w7 ⟨ys7, rfl, hown77, hm77, hb77, _⟩
  have O77 := Lib.hid hown77
  have M77 := Lib.hid hm77
  have O57 : Hid (w7.ownsRow w1.heap.size 3 1 v5 L.length (icells L)) := Lib.hid (own_kept (own_draws' O56.out m6) (fun g hg => hb77.block g (by have := own_block_lt O5.out g hg; have := S23.out; omega)))
  have B7 : Hid (Below w.heap.size w w7) := Lib.hid ((below_draws' B6.out m6).trans (hb77.mono B3.out.size))
  clear hown77 hm77 hb77
  go_wp2_with fail
  refine (heldInts_any w3.heap.size v7 L.length 1 ys7 w7 (by omega) O77.out M77.out).mono ?_
  rintro e w7' ⟨rfl, rfl⟩
  have hp7 : ¬ ((1 : Int) + (L.length : Int) < 0) := by omega
  go_wp2_with fail
  refine (toInts_any a n c zs _ (HS.out.later B7.out) (by omega)).mono ?_
  rintro e w8 ⟨rfl, hown8, hb8⟩
  have O8 := Lib.hid hown8
  have O58 := Lib.hid (own_below O57.out hb8)
  have O78 := Lib.hid (own_below O77.out hb8)
  have B8 : Hid (Below w.heap.size w w8) := Lib.hid (B7.out.trans (hb8.mono B7.out.size))
  clear hown8 hb8
  go_wp2_with fail
  refine (k2.out w8 _ n (intsAt_of_own O8.out) (HK.out.below HK.out.lt B8.out)).mono ?_
  rintro e w9 ⟨v11, rfl, hown11, hb11⟩
  have O11 := Lib.hid hown11
  have O59 := Lib.hid (own_below O58.out hb11)
  have O79 := Lib.hid (own_below O78.out hb11)
  have B9 : Hid (Below w.heap.size w w9) := Lib.hid (B8.out.trans (hb11.mono B8.out.size))
  clear hown11 hb11 O8 O58 O78
  go_wp2_with fail
  refine (eq_own _ _ _ _ L.length L w9 rfl (by omega) O11.out O59.out).mono ?_
  rintro e w9d ⟨rfl, m9, rfl⟩
  go_wp2_with fail
  refine (heldInts_any w3.heap.size v7 L.length 1 ys7 (w9.drewN m9) (by omega) (own_draws' O79.out m9) M77.out).mono ?_
  rintro e w10 ⟨rfl, rfl⟩
  go_wp2
  go_ret
  exact ⟨rfl, below_draws' B9.out m9⟩

set_option maxHeartbeats 1000000 in
theorem block_law (a : Option Addr) (n c : Nat) (zs : List Int) (b : ByteArray) (w : World) (hs : SrcI w a n zs) (hk : IsTab w 1 keyL) :
    Calls Tryd.prog 3 #[.slice a n c, .string b] w fun e w' => e = .returned (.bool true) ∧ Below w.heap.size w w' := by
  by_cases hn : n ≤ 1048576
  · by_cases hb : b.size ≤ 1048576
    · by_cases hG : Good zs ∧ b.size = 64
      · have h8 : n = 8 := by have := hs.len; have := hG.1.1; omega
        subst h8
        refine block_law_of a 8 c zs (ints (blockS (stOf zs) keyL b)) b w hs hn hb (by rw [ints_length]; omega) hk ?_ ?_
        · intro w g c hI
          refine (specBlock_eight g c zs b w hI hG.2).mono fun e w' h => ?_
          rcases h with ⟨_, h⟩ | ⟨h, _⟩
          · exact h
          · exact absurd hG.1 h
        · intro w g c hI hk
          exact implBlock_good g c zs b w hI hG.1 hG.2 hk
      · refine block_law_of a n c zs zs b w hs hn hb (by have := hs.len; omega) hk ?_ ?_
        · intro w g c hI
          by_cases h8 : n = 8 ∧ b.size = 64
          · obtain ⟨rfl, h64⟩ := h8
            refine (specBlock_eight g c zs b w hI h64).mono fun e w' h => ?_
            rcases h with ⟨h, _⟩ | ⟨_, h⟩
            · exact absurd ⟨h, h64⟩ hG
            · exact h
          · exact specBlock_short g n c zs b w hI (by omega) h8
        · intro w g c hI _
          exact implBlock_bad g n c zs b w hI (by omega) hG
    · have hb' : 1048576 < b.size := by omega
      go_enter Tryd.func3, Tryd.ntmps3
      go_wp2
      go_ret
      exact ⟨rfl, Below.refl _ _⟩
  · have hn' : 1048576 < n := by omega
    go_enter Tryd.func3, Tryd.ntmps3
    go_wp2
    go_ret
    exact ⟨rfl, Below.refl _ _⟩

def IsRow (k : IntKind) (w : World) (a : Option Addr) (len cap : Nat) (zs : List Int) : Prop :=
  (a = none ∧ len = 0 ∧ cap = 0 ∧ zs = []) ∨
  ∃ x, a = some x ∧ len ≤ cap ∧ cap ≤ maxLen ∧ zs.length = cap ∧ (∀ i, i < zs.length → w.cell? (x.add i) = some (.int k (zs.getD i 0))) ∧ ∀ n ∈ zs, (Lit.int k n).wf = true

theorem srcI_of_row {w : World} {a : Option Addr} {len cap : Nat} {zs : List Int} (h : IsRow .i64 w a len cap zs) : SrcI w a len (zs.take len) := by
  rcases h with ⟨rfl, rfl, _, rfl⟩ | ⟨x, rfl, hl, _, hz, hcell, _⟩
  · exact ⟨rfl, fun j hj => by omega⟩
  · refine ⟨by rw [List.length_take]; omega, fun i hi => ?_⟩
    obtain ⟨b, off, spot⟩ := x
    have hc := hcell i (by omega)
    have h0 := hcell 0 (by omega)
    have hspot : spot = none := by simpa [Addr.add] using World.cell?_spot h0
    subst hspot
    have ha : (⟨b, off, none⟩ : Addr).add i = ⟨b, off + i, none⟩ := by unfold Addr.add; split <;> simp_all
    rw [ha] at hc
    have e : (zs.take len).getD i 0 = zs.getD i 0 := by simp [List.getD, hi]
    refine ⟨b, off, rfl, ?_, by rw [e]; exact hc⟩
    rcases Nat.lt_or_ge b w.heap.size with hlt | hge
    · exact hlt
    · simp [World.cell?, Array.getElem?_eq_none hge] at hc
end Go.Proofs.YteohmifmfgbmaaaDoor
