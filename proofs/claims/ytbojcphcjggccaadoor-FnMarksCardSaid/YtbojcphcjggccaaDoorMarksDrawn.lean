/- Merged: MarksDraw, MarksSpoil, MarksDrawOk. -/
import Derived.Test.YtbojcphcjggccaaDoorMarksMath
import Derived.Test.YtbojcphcjggccaaDoorPickText
import Derived.Test.YtbojcphcjggccaaDoorDrawMore
import Derived.Test.YtbojcphcjggccaaDoorLong
import Derived.Test.YtbojcphcjggccaaDoorMarkSpec
import Derived.Test.YtbojcphcjggccaaDoorBitsMath
import Derived.BigRegion
import Derived.StillTailTactics
namespace Go.Proofs.YtbojcphcjggccaaDoor
open Go.RowKit Go.Proofs.YtbojcphcjggccaaDoor.Hexa Go.Proofs.YtbojcphcjggccaaDoor.Byt
namespace Draw

/-- A number picked out of a list that the call has just laid. -/
theorem pickNum3 (c : Nat) (ad : Option Addr) (len cap : Nat) (n : Nat) (zs : List Int) (cs : Array Value) (t : TypeId) (w : World) (hcs : cs = (zs.map fun z => Value.int .i64 z).toArray) (hlen : len ≤ 1048576) (hn : 0 < n) (hn2 : n ≤ 200) (hz : zs.length = n) (hc : Cur w c ad len cap) (hs : Src w c ad len) :
    Calls Tryd.prog 39 #[.pointer (some ⟨c, 0, none⟩), .slice (some ⟨w.heap.size, 0, none⟩) n n] (w.alloc (.cells cs t)) fun e w' => ∃ z ∈ zs, e = .returned (.int .i64 z) ∧ Cur w' c ad len cap ∧ w.grownBy w' (some c) := by
  have hh := heap_alloc_new w (.cells cs t)
  have hlt := cur_lt hc
  refine (pickInt_any c ad len cap w.heap.size n n zs _ hlen hn (by omega) hz (fun j hj => ?_) (by simp) (by omega) (cur_grown hc (grown_alloc _ _ none) (by simp)) (src_grown' hs (grown_alloc _ _ none) (fun k e => by cases e) (by omega))).mono ?_
  · have h1 : ∀ (o : Option Obj), o = some (.cells cs t) → (match o with | some (.cells c _ _) => c[j]? | _ => none) = some (.int .i64 (zs.getD j 0)) := fun o ho => by
      subst ho
      subst hcs
      have hj' : j < zs.length := by omega
      simp [List.getD, hj']
    exact h1 _ hh
  · rintro e w' ⟨v, ⟨z, hz, rfl⟩, rfl, hc', hg'⟩
    exact ⟨z, hz, rfl, hc', grownBy_trans (grown_alloc w _ _) hg'⟩

/-- A drawn key. -/
def KeyD (s : ByteArray) : Prop := ∃ n b, n ∈ Simd.keyNs ∧ b < 256 ∧ s = longB n (UInt8.ofNat b)
/-- A drawn text. -/
def TextD (s : ByteArray) : Prop := ∃ q j, q < 4 ∧ j < 70 ∧ s = ⟨(Simd.drawT q j).toArray⟩

set_option maxRecDepth 100000 in
set_option maxHeartbeats 1000000 in
theorem key3_any (c : Nat) (ad : Option Addr) (len cap : Nat) (w : World) (hlen : len ≤ 1048576) (hc : Cur w c ad len cap) (hs : Src w c ad len) :
    Calls Tryd.prog 44 #[.pointer (some ⟨c, 0, none⟩)] w (DrawPost (fun v => ∃ t : ByteArray, v = .string t ∧ KeyD t) w c ad len cap) := by
  have HC := Lib.hid hc
  have HS := Lib.hid hs
  clear hc hs
  go_enter Tryd.func44, Tryd.ntmps44
  go_wp2_with fail
  refine (pickNum3 c ad len cap 8 [0, 1, 20, 32, 63, 64, 65, 100] _ _ w rfl hlen (by decide) (by decide) rfl HC.out HS.out).mono ?_
  rintro e w2 ⟨z, hz, rfl, hc2, hg2⟩
  have S2 := Lib.hid (src_grown HS.out hg2 (cur_lt HC.out))
  have C2 := Lib.hid hc2
  have G2 := Lib.hid hg2
  obtain ⟨m, rfl, hm⟩ : ∃ m : Nat, z = m ∧ m ∈ Simd.keyNs := ⟨z.toNat, by simp at hz; omega, by simp [Simd.keyNs] at hz ⊢; omega⟩
  have hm2 : m ≤ 100 := by simp [Simd.keyNs] at hm; omega
  have HM := Lib.hid hm
  clear hc2 hg2 hz hm
  go_wp2_with fail
  refine (byte_any c ad len cap w2 hlen C2.out S2.out).mono ?_
  rintro e w3 ⟨x, x0, x1, rfl, hc3, hg3⟩
  have C3 := Lib.hid hc3
  have G3 := Lib.hid (grownBy_trans G2.out hg3)
  clear hc3 hg3
  obtain ⟨b, rfl⟩ : ∃ b : Nat, x = b := ⟨x.toNat, by omega⟩
  have hb : b < 256 := by omega
  have kl := long_any m (UInt8.ofNat b) w3 (by omega)
  rw [UInt8.toNat_ofNat', Nat.mod_eq_of_lt hb] at kl
  have KL := Lib.hid kl
  clear kl
  go_wp2_with fail
  refine KL.out.mono ?_
  rintro e w4 ⟨rfl, hb4⟩
  have C4 := Lib.hid (cur_below C3.out hb4 (cur_lt C3.out))
  have G4 := Lib.hid (grown_below G3.out hb4 G3.out.size)
  clear hb4
  go_wp2
  go_ret
  exact ⟨_, ⟨_, rfl, m, b, HM.out, hb, rfl⟩, rfl, C4.out, G4.out⟩

set_option maxRecDepth 100000 in
set_option maxHeartbeats 1000000 in
theorem text3_any (c : Nat) (ad : Option Addr) (len cap : Nat) (w : World) (hlen : len ≤ 1048576) (hc : Cur w c ad len cap) (hs : Src w c ad len) :
    Calls Tryd.prog 45 #[.pointer (some ⟨c, 0, none⟩)] w (DrawPost (fun v => ∃ t : ByteArray, v = .string t ∧ TextD t) w c ad len cap) := by
  have HC := Lib.hid hc
  have HS := Lib.hid hs
  clear hc hs
  go_enter Tryd.func45, Tryd.ntmps45
  go_wp2_with fail
  refine (pickNew_any c ad len cap 4 [⟨#[]⟩, ⟨#[97]⟩, ⟨#[72, 105, 32, 84, 104, 101, 114, 101]⟩, ⟨#[119, 104, 97, 116, 32, 100, 111, 32, 121, 97, 32, 119, 97, 110, 116, 32, 102, 111, 114, 32, 110, 111, 116, 104, 105, 110, 103, 63]⟩] _ _ w rfl hlen (by decide) (by decide) rfl HC.out HS.out).mono ?_
  rintro e w2 ⟨p, hp, rfl, hc2, hg2⟩
  have S2 := Lib.hid (src_grown HS.out hg2 (cur_lt HC.out))
  have C2 := Lib.hid hc2
  have G2 := Lib.hid hg2
  obtain ⟨q, hq, hpq⟩ : ∃ q, q < 4 ∧ p = ⟨(Simd.pres.getD q []).toArray⟩ := by
    simp only [List.mem_cons, List.not_mem_nil, or_false] at hp
    rcases hp with rfl | rfl | rfl | rfl
    · exact ⟨0, by omega, rfl⟩
    · exact ⟨1, by omega, rfl⟩
    · exact ⟨2, by omega, rfl⟩
    · exact ⟨3, by omega, rfl⟩
  have hps : p.size ≤ 28 := by
    rw [hpq]
    rcases q with _ | _ | _ | _ | q
    all_goals first | decide | omega
  have HP := Lib.hid hpq
  clear hc2 hg2 hp hpq
  go_wp2_with fail
  refine (below_any c ad len cap 70 w2 hlen (by decide) (by decide) C2.out S2.out).mono ?_
  rintro e w3 ⟨x, x0, x1, rfl, hc3, hg3⟩
  have C3 := Lib.hid hc3
  have G3 := Lib.hid (grownBy_trans G2.out hg3)
  clear hc3 hg3
  obtain ⟨j, rfl⟩ : ∃ j : Nat, x = j := ⟨x.toNat, by omega⟩
  have hj : j < 70 := by omega
  have kl : Hid (Calls Tryd.prog 49 #[.int .i64 j, .int .u8 7] w3 fun e w' => e = .returned (.string (longB j 7)) ∧ Below w3.heap.size w3 w') := Lib.hid (long_any j 7 w3 (by omega))
  have hl : (longB j 7).size = j := longB_size j 7
  have HE : Hid (p ++ longB j 7 = ⟨(Simd.drawT q j).toArray⟩) := Lib.hid (by
    rw [HP.out]
    apply ByteArray.ext
    rw [ByteArray.data_append]
    apply Array.toList_inj.1
    rw [Array.toList_append]
    rfl)
  generalize longB j 7 = L at kl hl HE
  go_wp2_with fail
  refine kl.out.mono ?_
  rintro e w4 ⟨rfl, hb4⟩
  have C4 := Lib.hid (cur_below C3.out hb4 (cur_lt C3.out))
  have G4 := Lib.hid (grown_below G3.out hb4 G3.out.size)
  have hsum : p.size + L.size ≤ 100 := by omega
  clear hb4 x0 x1
  go_wp2
  go_ret
  exact ⟨_, ⟨_, rfl, q, j, hq, hj, HE.out⟩, rfl, C4.out, G4.out⟩

def TwoD (w : World) (e : Ending) (w' : World) : Prop := ∃ k t : ByteArray, e = .returned (.tuple #[.string k, .string t]) ∧ KeyD k ∧ TextD t ∧ Below w.heap.size w w'
set_option maxRecDepth 100000 in
set_option maxHeartbeats 1000000 in
theorem drawHmac_any (ad : Option Addr) (len cap : Nat) (w : World) (hlen : len ≤ 1048576) (hs : Src w w.heap.size ad len) :
    Calls Tryd.prog 31 #[.slice ad len cap] w (TwoD w) := by
  have HS := Lib.hid hs
  clear hs
  go_enter Tryd.func31, Tryd.ntmps31
  go_wp2_with fail
  refine (new_any ad len cap w hlen HS.out).mono ?_
  rintro e w1 ⟨rfl, h, rfl⟩
  have C1 : Hid (Cur (w.alloc (.cells #[.slice ad len cap, .int .i64 0, .int .i64 h] 66)) w.heap.size ad len cap) := Lib.hid ⟨0, h, Nat.zero_le _, heap_alloc_new w _⟩
  have S1 : Hid (Src (w.alloc (.cells #[.slice ad len cap, .int .i64 0, .int .i64 h] 66)) w.heap.size ad len) := Lib.hid (src_grown' HS.out (grown_alloc _ _ none) (fun k e => by cases e) (Nat.le_refl _))
  have B1 : Hid (Below w.heap.size w (w.alloc (.cells #[.slice ad len cap, .int .i64 0, .int .i64 h] 66))) := Lib.hid ((Below.refl _ _).alloc (Nat.le_refl _) _)
  generalize w.alloc (.cells #[.slice ad len cap, .int .i64 0, .int .i64 h] 66) = W1 at C1 S1 B1 ⊢
  go_wp2_with fail
  refine (key3_any w.heap.size ad len cap W1 hlen C1.out S1.out).mono ?_
  rintro e w2 ⟨v, ⟨k, rfl, hk⟩, rfl, hc2, hg2⟩
  have S2 := Lib.hid (src_grown S1.out hg2 (cur_lt C1.out))
  have C2 := Lib.hid hc2
  have B2 := Lib.hid (B1.out.grown hg2 (B1.out.size) (fun k e => by simp at e; omega))
  clear hc2 hg2 C1 S1 B1
  go_wp2_with fail
  refine (text3_any w.heap.size ad len cap w2 hlen C2.out S2.out).mono ?_
  rintro e w3 ⟨v, ⟨t, rfl, ht⟩, rfl, hc3, hg3⟩
  have B3 := Lib.hid (B2.out.grown hg3 (B2.out.size) (fun k e => by simp at e; omega))
  clear hc3 hg3
  go_wp2
  go_ret2
  exact ⟨k, t, rfl, hk, ht, B3.out⟩
end Draw
end Go.Proofs.YtbojcphcjggccaaDoor
namespace Go.Proofs.YtbojcphcjggccaaDoor
open Go.RowKit Go.Proofs.YtbojcphcjggccaaDoor.Hexa Go.Proofs.YtbojcphcjggccaaDoor.Byt
namespace Draw

theorem grown_set_other (w : World) (g k : Nat) (v : Value) : w.grownBy (w.setCell ⟨g, k, none⟩ v) (some g) :=
  ⟨rfl, rfl, rfl, by simp [World.setCell], fun i _ hr => Below.heap_setCell _ _ _ _ (fun e => hr (by rw [e]))⟩
theorem grownBy_trans3 {a b c : World} {r : Option Nat} {g : Nat} (h : a.grownBy b r) (k : b.grownBy c (some g)) (hg : a.heap.size ≤ g) : a.grownBy c r :=
  ⟨k.os.trans h.os, k.tape.trans h.tape, k.output.trans h.output, Nat.le_trans h.size k.size, fun i hi hr => (k.block i (Nat.lt_of_lt_of_le hi h.size) (fun e => by simp at e; omega)).trans (h.block i hi hr)⟩

set_option maxRecDepth 100000 in
set_option maxHeartbeats 1000000 in
theorem once_any (c : Nat) (ad : Option Addr) (len cap : Nat) (n : Int) (w : World) (hlen : len ≤ 1048576) (hn : 0 < n) (hn2 : n ≤ 256) (hc : Cur w c ad len cap) (hs : Src w c ad len) :
    Calls Tryd.prog 46 #[.pointer (some ⟨c, 0, none⟩), .int .i64 n] w (DrawPost (fun v => ∃ b : Bool, v = .bool b) w c ad len cap) := by
  have HC := Lib.hid hc
  have HS := Lib.hid hs
  clear hc hs
  go_enter Tryd.func46, Tryd.ntmps46
  go_wp2_with fail
  refine (below_small c ad len cap n w hlen hn hn2 HC.out HS.out).mono ?_
  rintro e w1 ⟨x, x0, x1, rfl, hc1, hg1⟩
  have C1 := Lib.hid hc1
  have G1 := Lib.hid hg1
  clear hc1 hg1
  go_wp2
  go_ret
  exact ⟨_, ⟨_, rfl⟩, rfl, C1.out, G1.out⟩

set_option maxRecDepth 100000 in
set_option maxHeartbeats 4000000 in
theorem spoilt_any (c : Nat) (ad : Option Addr) (len cap : Nat) (s : ByteArray) (w : World) (hlen : len ≤ 1048576) (h0 : 0 < s.size) (h1 : s.size ≤ 200) (hc : Cur w c ad len cap) (hs : Src w c ad len) :
    Calls Tryd.prog 32 #[.pointer (some ⟨c, 0, none⟩), .string s] w (DrawPost (fun v => ∃ t : ByteArray, v = .string t) w c ad len cap) := by
  have HC := Lib.hid hc
  have HS := Lib.hid hs
  have e0 : ((s.size : Int) == 0) = false := by rw [beq_eq_false_iff_ne]; omega
  have hn0 : (0 : Int) < (s.size : Int) := by omega
  have hn1 : (s.size : Int) ≤ 256 := by omega
  clear hc hs
  go_enter Tryd.func32, Tryd.ntmps32
  go_wp2_with fail
  refine (below_small c ad len cap (s.size : Int) w hlen hn0 hn1 HC.out HS.out).mono ?_
  rintro e w1 ⟨x, x0, x1, rfl, hc1, hg1⟩
  have S1 := Lib.hid (src_grown HS.out hg1 (cur_lt HC.out))
  have C1 := Lib.hid hc1
  have G1 := Lib.hid hg1
  obtain ⟨k, rfl⟩ : ∃ k : Nat, x = k := ⟨x.toNat, by omega⟩
  have hk : k < s.size := by omega
  clear hc1 hg1 x0 x1
  go_wp2_with fail
  refine (once_any c ad len cap 4 w1 hlen (by decide) (by decide) C1.out S1.out).mono ?_
  rintro e w2 ⟨v, ⟨b, rfl⟩, rfl, hc2, hg2⟩
  have S2 := Lib.hid (src_grown S1.out hg2 (cur_lt C1.out))
  have C2 := Lib.hid hc2
  have G2 := Lib.hid (grownBy_trans G1.out hg2)
  clear hc2 hg2 S1 C1 G1
  cases b
  · have kc0 := run_bytes_of_string (P := Tryd.prog) w2 9 22 5 s Tryd.underlying9 Tryd.underlying22 Tryd.underlying5
    have b0 := bytes_conv w2 5 s w2.heap.size (Nat.le_refl _) (by omega)
    have hlt2 := cur_lt C2.out
    have gn : w2.grownBy (w2.drew.alloc (.cells (bytesRow s (grownCap w2 s.size 0 5)) 5 ((bytesRow s (grownCap w2 s.size 0 5)).size, (bytesRow s (grownCap w2 s.size 0 5)).size + 1))) none := grownBy_trans (grownBy_draws (grownBy_refl w2 _) 1) (grown_alloc _ _ _)
    generalize w2.drew.alloc (.cells (bytesRow s (grownCap w2 s.size 0 5)) 5 ((bytesRow s (grownCap w2 s.size 0 5)).size, (bytesRow s (grownCap w2 s.size 0 5)).size + 1)) = W0 at b0 gn kc0
    generalize grownCap w2 s.size 0 5 = c0 at b0 kc0
    go_wp2
    refine wp_region_any (by kernel_rfl) ?_
    change wpAny _ _ _ _ _ _ _ (World.drew W0)
    have g0 : w2.grownBy W0 (some c) := ⟨gn.os, gn.tape, gn.output, gn.size, fun i hi _ => gn.block i hi (by simp)⟩
    have hkl : k < s.data.toList.length := by simp; omega
    have hls : s.data.toList.length = s.size := by simp
    obtain ⟨hc0, hz0, hB0⟩ := bytes_at b0 k hkl
    have b4 : Bytes W0.drew w2.heap.size 5 (.slice (some ⟨w2.heap.size, 0, none⟩) s.size c0) s.data.toList := b0
    have C4 : Hid (Cur W0.drew c ad len cap) := Lib.hid (cur_grown C2.out (grownBy_trans gn (grownBy_draws (grownBy_refl W0 _) 1)) (by simp))
    have S4 : Hid (Src W0.drew c ad len) := Lib.hid (src_grown S2.out (grownBy_trans g0 (grownBy_draws (grownBy_refl W0 _) 1)) hlt2)
    have G4 : Hid (w.grownBy W0.drew (some c)) := Lib.hid (grownBy_trans G2.out (grownBy_trans g0 (grownBy_draws (grownBy_refl W0 _) 1)))
    obtain ⟨X, hX⟩ : ∃ X, s.data.toList[k] = X := ⟨_, rfl⟩
    rw [hX] at hc0
    refine wpAny_take (i := 0) (v := .slice (some ⟨w2.heap.size, 0, none⟩) s.size c0) rfl (by kernel_rfl) (by kernel_rfl) (by kernel_rfl) (fun _ _ _ h => h) (Or.inl ⟨by kernel_rfl, ?_⟩) ?_
    · (intro w; go_simp; try with_reducible rfl)
    refine wpAny_take (i := 1) (v := .int .i64 k) rfl (by kernel_rfl) (by kernel_rfl) (by kernel_rfl) (fun _ _ _ h => h) (Or.inl ⟨by kernel_rfl, ?_⟩) ?_
    · (intro w; go_simp; try with_reducible rfl)
    refine wpAny_take (i := 2) (v := .slice (some ⟨w2.heap.size, 0, none⟩) s.size c0) rfl (by kernel_rfl) (by kernel_rfl) (by kernel_rfl) (fun _ _ _ h => h) (Or.inl ⟨by kernel_rfl, ?_⟩) ?_
    · (intro w; go_simp; try with_reducible rfl)
    refine wpAny_take (i := 3) (v := .int .i64 k) rfl (by kernel_rfl) (by kernel_rfl) (by kernel_rfl) (fun _ _ _ h => h) (Or.inl ⟨by kernel_rfl, ?_⟩) ?_
    · (intro w; go_simp; try with_reducible rfl)
    refine wpAny_take (i := 4) (v := .pointer (some ⟨w2.heap.size, k, none⟩)) rfl (by kernel_rfl) (by kernel_rfl) (by kernel_rfl) (fun _ _ _ h => h) (Or.inl ⟨by kernel_rfl, ?_⟩) ?_
    · (intro w; go_simp; try with_reducible rfl)
    refine wpAny_take (i := 6) (v := .pointer (some ⟨c, 0, none⟩)) rfl (by kernel_rfl) (by kernel_rfl) (by kernel_rfl) (fun _ _ _ h => h) (Or.inl ⟨by kernel_rfl, ?_⟩) ?_
    · (intro w; go_simp; try with_reducible rfl)
    refine wpAny_ready (rs := [5, 7]) (by kernel_rfl) (by simp) ?_
    refine AllReady.cons rfl (fun K hK => ?_) (AllReady.cons rfl (fun K hK => ?_) AllReady.nil)
    · go_simp
      refine hK _ _ ?_
      clear hK K
      refine wpAny_ready (rs := [7]) (by kernel_rfl) (by simp) ?_
      refine AllReady.cons rfl (fun K hK => ?_) AllReady.nil
      go_simp
      refine (below_small c ad len cap 255 W0.drew hlen (by decide) (by decide) C4.out S4.out).mono ?_
      rintro e w5 ⟨y, y0, y1, rfl, hc5, hg5⟩
      have C5 := Lib.hid hc5
      have G5 := Lib.hid (grownBy_trans G4.out hg5)
      have hb5 := bytes_kept b4 hg5 hlt2
      obtain ⟨Y, hY⟩ : ∃ Y : UInt8, IntKind.u8.wrap (1 + y) = (Y.toNat : Int) := ⟨UInt8.ofNat (1 + y).toNat, by rw [← byte_of (1 + y) (by omega) (by omega), IntKind.wrap_u8]; omega⟩
      have hXY := BitsM.xor8 X Y
      obtain ⟨Z, hZ⟩ : ∃ Z, X ^^^ Y = Z := ⟨_, rfl⟩
      rw [hZ] at hXY
      obtain ⟨hc6, hz6, hB6⟩ := bytes_at hb5 k hkl
      rw [hX] at hc6
      have N6 := bytes_set hb5 k Z
      have C6 := Lib.hid (cur_grown C5.out (grown_set_other w5 w2.heap.size k (.int .u8 (Z.toNat : Int))) (by simp; omega))
      have G6 := Lib.hid (grownBy_trans3 G5.out (grown_set_other w5 w2.heap.size k (.int .u8 (Z.toNat : Int))) G2.out.size)
      have hconv := bytes_string (P := Tryd.prog) 22 9 Tryd.underlying22 Tryd.underlying5 Tryd.underlying9 N6
      rw [hls] at hconv
      clear N6 hb5 hc5 hg5
      refine hK _ _ ?_
      clear hK K
      refine wpAny_take (i := 8) (v := .int .i64 (1 + y)) rfl (by kernel_rfl) (by kernel_rfl) (by kernel_rfl) (fun _ _ _ h => h) (Or.inl ⟨by kernel_rfl, ?_⟩) ?_
      · (intro w; go_simp; rw [IntWalk.i64_in _ (by omega)])
      refine wpAny_take (i := 9) (v := .int .u8 Y.toNat) rfl (by kernel_rfl) (by kernel_rfl) (by kernel_rfl) (fun _ _ _ h => h) (Or.inl ⟨by kernel_rfl, ?_⟩) ?_
      · (intro w; go_simp; try rw [hY])
      refine wpAny_take (i := 10) (v := .int .u8 Z.toNat) rfl (by kernel_rfl) (by kernel_rfl) (by kernel_rfl) (fun _ _ _ h => h) (Or.inl ⟨by kernel_rfl, ?_⟩) ?_
      · (intro w; go_simp; try first | rw [hXY] | (rw [← hZ]; simp))
      refine wpAny_take (i := 11) (v := .pointer (some ⟨w2.heap.size, k, none⟩)) rfl (by kernel_rfl) (by kernel_rfl) (by kernel_rfl) (fun _ _ _ h => h) (Or.inl ⟨by kernel_rfl, ?_⟩) ?_
      · (intro w; go_simp; try with_reducible rfl)
      refine wpAny_ready (rs := [12]) (by kernel_rfl) (by simp) ?_
      refine AllReady.cons rfl (fun K hK => ?_) AllReady.nil
      go_simp
      refine hK _ _ ?_
      clear hK K
      refine wpAny_done (by kernel_rfl) ?_ _
      go_simp
      go_wp2
      go_ret
      exact ⟨_, ⟨_, rfl⟩, rfl, C6.out, G6.out⟩
    · go_simp
      refine (below_small c ad len cap 255 W0.drew hlen (by decide) (by decide) C4.out S4.out).mono ?_
      rintro e w5 ⟨y, y0, y1, rfl, hc5, hg5⟩
      have C5 := Lib.hid hc5
      have G5 := Lib.hid (grownBy_trans G4.out hg5)
      have hb5 := bytes_kept b4 hg5 hlt2
      obtain ⟨Y, hY⟩ : ∃ Y : UInt8, IntKind.u8.wrap (1 + y) = (Y.toNat : Int) := ⟨UInt8.ofNat (1 + y).toNat, by rw [← byte_of (1 + y) (by omega) (by omega), IntKind.wrap_u8]; omega⟩
      have hXY := BitsM.xor8 X Y
      obtain ⟨Z, hZ⟩ : ∃ Z, X ^^^ Y = Z := ⟨_, rfl⟩
      rw [hZ] at hXY
      obtain ⟨hc6, hz6, hB6⟩ := bytes_at hb5 k hkl
      rw [hX] at hc6
      have N6 := bytes_set hb5 k Z
      have C6 := Lib.hid (cur_grown C5.out (grown_set_other w5 w2.heap.size k (.int .u8 (Z.toNat : Int))) (by simp; omega))
      have G6 := Lib.hid (grownBy_trans3 G5.out (grown_set_other w5 w2.heap.size k (.int .u8 (Z.toNat : Int))) G2.out.size)
      have hconv := bytes_string (P := Tryd.prog) 22 9 Tryd.underlying22 Tryd.underlying5 Tryd.underlying9 N6
      rw [hls] at hconv
      clear N6 hb5 hc5 hg5
      refine hK _ _ ?_
      clear hK K
      refine wpAny_take (i := 8) (v := .int .i64 (1 + y)) rfl (by kernel_rfl) (by kernel_rfl) (by kernel_rfl) (fun _ _ _ h => h) (Or.inl ⟨by kernel_rfl, ?_⟩) ?_
      · (intro w; go_simp; rw [IntWalk.i64_in _ (by omega)])
      refine wpAny_take (i := 9) (v := .int .u8 Y.toNat) rfl (by kernel_rfl) (by kernel_rfl) (by kernel_rfl) (fun _ _ _ h => h) (Or.inl ⟨by kernel_rfl, ?_⟩) ?_
      · (intro w; go_simp; try rw [hY])
      refine wpAny_ready (rs := [5]) (by kernel_rfl) (by simp) ?_
      refine AllReady.cons rfl (fun K hK => ?_) AllReady.nil
      go_simp
      refine hK _ _ ?_
      clear hK K
      refine wpAny_take (i := 10) (v := .int .u8 Z.toNat) rfl (by kernel_rfl) (by kernel_rfl) (by kernel_rfl) (fun _ _ _ h => h) (Or.inl ⟨by kernel_rfl, ?_⟩) ?_
      · (intro w; go_simp; try first | rw [hXY] | (rw [← hZ]; simp))
      refine wpAny_take (i := 11) (v := .pointer (some ⟨w2.heap.size, k, none⟩)) rfl (by kernel_rfl) (by kernel_rfl) (by kernel_rfl) (fun _ _ _ h => h) (Or.inl ⟨by kernel_rfl, ?_⟩) ?_
      · (intro w; go_simp; try with_reducible rfl)
      refine wpAny_ready (rs := [12]) (by kernel_rfl) (by simp) ?_
      refine AllReady.cons rfl (fun K hK => ?_) AllReady.nil
      go_simp
      refine hK _ _ ?_
      clear hK K
      refine wpAny_done (by kernel_rfl) ?_ _
      go_simp
      go_wp2
      go_ret
      exact ⟨_, ⟨_, rfl⟩, rfl, C6.out, G6.out⟩
  · have f1 : (k : Int) ≤ (s.size : Int) := by omega
    have f2 : (k : Int) + 1 ≤ (s.size : Int) := by omega
    have f3 : ((k : Int) + 1).toNat = k + 1 := by omega
    have f4 : (s.extract 0 k).size = k := by rw [ByteArray.size_extract]; omega
    have f5 : (s.extract (k + 1) s.size).size = s.size - (k + 1) := by rw [ByteArray.size_extract]; omega
    go_wp2
    go_quiet (fail)
    go_wp2
    go_ret
    exact ⟨_, ⟨_, rfl⟩, rfl, C2.out, grownBy_draws G2.out _⟩
end Draw
end Go.Proofs.YtbojcphcjggccaaDoor
namespace Go.Proofs.YtbojcphcjggccaaDoor
open Go.RowKit Go.Proofs.YtbojcphcjggccaaDoor.Hexa Go.Proofs.YtbojcphcjggccaaDoor.Byt
namespace Draw

theorem src_wide {w : World} {B B' : Nat} {ad : Option Addr} {len : Nat} (h : Src w B ad len) (hB : B ≤ B') : Src w B' ad len := fun i hi => by
  obtain ⟨b, off, z, e, hb, r⟩ := h i hi
  exact ⟨b, off, z, e, by omega, r⟩
theorem key_size {s : ByteArray} (h : KeyD s) : s.size ≤ 100 := by
  obtain ⟨n, b, hn, _, rfl⟩ := h
  rw [longB_size]
  simp [Simd.keyNs] at hn
  omega
theorem drawT_length (q j : Nat) (hq : q < 4) (hj : j < 70) : (Simd.drawT q j).length ≤ 97 := by
  have h : (Simd.pres.getD q []).length ≤ 28 := by
    rcases q with _ | _ | _ | _ | q
    all_goals first | decide | omega
  unfold Simd.drawT
  rw [List.length_append, List.length_replicate]
  omega
theorem text_size {s : ByteArray} (h : TextD s) : s.size ≤ 97 := by
  obtain ⟨q, j, hq, hj, rfl⟩ := h
  have := drawT_length q j hq hj
  show (Simd.drawT q j).toArray.size ≤ 97
  rw [List.size_toArray]
  exact this
def ThreeD (w : World) (e : Ending) (w' : World) : Prop := ∃ k t g : ByteArray, e = .returned (.tuple #[.string k, .string t, .string g]) ∧ KeyD k ∧ TextD t ∧ Below w.heap.size w w'

set_option maxRecDepth 100000 in
set_option maxHeartbeats 1000000 in
theorem drawOk_any (ad : Option Addr) (len cap : Nat) (w : World) (hlen : len ≤ 1048576) (hs : Src w w.heap.size ad len) :
    Calls Tryd.prog 14 #[.slice ad len cap] w (ThreeD w) := by
  have HS := Lib.hid hs
  clear hs
  go_enter Tryd.func14, Tryd.ntmps14
  go_wp2_with fail
  refine (new_any ad len cap w hlen HS.out).mono ?_
  rintro e w1 ⟨rfl, h, rfl⟩
  have C1 : Hid (Cur (w.alloc (.cells #[.slice ad len cap, .int .i64 0, .int .i64 h] 66)) w.heap.size ad len cap) := Lib.hid ⟨0, h, Nat.zero_le _, heap_alloc_new w _⟩
  have S1 : Hid (Src (w.alloc (.cells #[.slice ad len cap, .int .i64 0, .int .i64 h] 66)) w.heap.size ad len) := Lib.hid (src_grown' HS.out (grown_alloc _ _ none) (fun k e => by cases e) (Nat.le_refl _))
  have B1 : Hid (Below w.heap.size w (w.alloc (.cells #[.slice ad len cap, .int .i64 0, .int .i64 h] 66))) := Lib.hid ((Below.refl _ _).alloc (Nat.le_refl _) _)
  generalize w.alloc (.cells #[.slice ad len cap, .int .i64 0, .int .i64 h] 66) = W1 at C1 S1 B1 ⊢
  go_wp2_with fail
  refine (below_small w.heap.size ad len cap 3 W1 hlen (by decide) (by decide) C1.out S1.out).mono ?_
  rintro e w2 ⟨x, x0, x1, rfl, hc2, hg2⟩
  have S2 := Lib.hid (src_grown S1.out hg2 (cur_lt C1.out))
  have C2 := Lib.hid hc2
  have B2 := Lib.hid (B1.out.grown hg2 (B1.out.size) (fun k e => by simp at e; omega))
  have hlt2 := cur_lt C2.out
  clear hc2 hg2 C1 S1 B1
  go_wp2_with fail
  refine (drawHmac_any ad len cap w2 hlen (src_wide S2.out (by omega))).mono ?_
  rintro e w3 ⟨k, t, rfl, hk, ht, hb3⟩
  have S3 := Lib.hid (src_below S2.out hb3 (by omega))
  have C3 := Lib.hid (cur_below C2.out hb3 hlt2)
  have B3 := Lib.hid (B2.out.trans (hb3.mono B2.out.size))
  have HK := Lib.hid hk
  have HT := Lib.hid ht
  have kh := Lib.hid (specHmac_any k t w3 (by have := key_size hk; omega) (by have := text_size ht; omega))
  have hmz : (hmacB k t).size = 32 := rfl
  generalize hmacB k t = M at kh hmz
  have hlt3 := cur_lt C3.out
  clear hb3 C2 S2 B2 hk ht
  go_wp2_with fail
  refine kh.out.mono ?_
  rintro e w4 ⟨rfl, hb4⟩
  have S4 := Lib.hid (src_below S3.out hb4 (by omega))
  have C4 := Lib.hid (cur_below C3.out hb4 hlt3)
  have B4 := Lib.hid (B3.out.trans (hb4.mono B3.out.size))
  clear hb4 C3 S3 B3 kh
  by_cases hx : x = 0
  · subst hx
    clear x0 x1
    go_wp2_with fail
    refine (spoilt_any w.heap.size ad len cap M w4 hlen (by omega) (by omega) C4.out S4.out).mono ?_
    rintro e w5 ⟨v, ⟨g, rfl⟩, rfl, hc5, hg5⟩
    have B5 := Lib.hid (B4.out.grown hg5 (B4.out.size) (fun k e => by simp at e; omega))
    clear hc5 hg5
    go_wp2
    go_ret3
    exact ⟨k, t, g, rfl, HK.out, HT.out, B5.out⟩
  · have hx0 : (x == 0) = false := by rw [beq_eq_false_iff_ne]; exact hx
    go_wp2
    go_ret3
    exact ⟨k, t, M, rfl, HK.out, HT.out, B4.out⟩
end Draw
end Go.Proofs.YtbojcphcjggccaaDoor
