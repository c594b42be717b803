/- Merged texts: TurnImpl, AfterImpl, KeysImpl, BlockImpl, GenBlock, NumImpl, NumImplB, CtrBlk, CtrNext. -/
import Derived.Test.YtgpjklnlchbbbaaGreatDoorP9E
import Derived.StillTailTactics
import Derived.WalkKit
import Derived.WalkSpells
import Derived.WalkLawsBesides
import Derived.Deep.RegionLaw
import Derived.Lib.Hide
import Derived.OneCell
namespace Go.Proofs.YtgpjklnlchbbbaaGreatDoor
open Go.RowKit Go.Proofs.YtgpjklnlchbbbaaGreatDoor.Hexa Go.Proofs.YtgpjklnlchbbbaaGreatDoor.Byt Go.Proofs.YtgpjklnlchbbbaaGreatDoor.Aes Go.Proofs.YtgpjklnlchbbbaaGreatDoor.Fld Go.Proofs.YtgpjklnlchbbbaaGreatDoor.BitsM

theorem turn_list (t : ByteArray) (ht : t.size = 4) : ∃ a b c d, t.data.toList = [a, b, c, d] ∧ (t.extract 1 4 ++ t.extract 0 1).data.toList = [b, c, d, a] := by
  have hl : t.data.toList.length = 4 := by simpa using ht
  match h : t.data.toList, hl with
  | [a, b, c, d], _ =>
    refine ⟨a, b, c, d, rfl, ?_⟩
    rw [ByteArray.data_append, Array.toList_append, ByteArray.data_extract, ByteArray.data_extract, Array.toList_extract, Array.toList_extract, h]
    rfl

theorem two_pow (m : Nat) (hm : m ≤ 1000) (w : World) : Calls Tryz.prog 121 #[.int .i64 2, .int .i64 (m : Int)] w fun e w' => e = .returned (.int .i64 (pow 2 m : Nat)) ∧ w' = w :=
  implPow_yes 2 m w (by omega) hm
theorem xor_ofNat (x : UInt8) (r : Nat) (hr : r < 256) : bits .xor .u8 (x.toNat : Int) (r : Int) = ((x ^^^ UInt8.ofNat r).toNat : Int) := by
  rw [← xor8, UInt8.toNat_ofNat', Nat.mod_eq_of_lt hr]

set_option maxRecDepth 100000 in
set_option maxHeartbeats 1000000 in
theorem implTurned_any (t : ByteArray) (k : Nat) (w : World) (ht : t.size = 4) (hk1 : 1 ≤ k) (hk : k ≤ 10) :
    Calls Tryz.prog 118 #[.string t, .int .i64 k] w fun e w' => e = .returned (.string ⟨(turnedL t.data.toList k).toArray⟩) ∧ Below w.heap.size w w' := by
  obtain ⟨m, rfl⟩ : ∃ m, k = m + 1 := ⟨k - 1, by omega⟩
  obtain ⟨xa, xb, xc, xd, hT, hT2⟩ := turn_list t ht
  have HT := Lib.hid hT
  have HT2 := Lib.hid hT2
  have hz : (t.extract 1 4 ++ t.extract 0 1).size ≤ 8000000 := by rw [ByteArray.size_append, ByteArray.size_extract, ByteArray.size_extract]; omega
  have k1 := Lib.hid fun w => implBoxText_any (t.extract 1 4 ++ t.extract 0 1) w hz
  clear hT hT2 hz
  go_enter Tryz.func118, Tryz.ntmps118
  go_wp2_with fail
  refine wp_region_still_tail 5 (by kernel_rfl) (by kernel_rfl) ?_
  simp only [List.take_succ_cons, List.take_zero, List.drop_succ_cons, List.drop_zero]
  still_step
  still_step
  still_step
  still_step
  still_step
  refine wpStill_nil ?_
  change wpList _ _ _ _ _ w.drew
  go_wp2_with fail
  refine (k1.out _).mono ?_
  rintro e w1 ⟨rfl, hb1⟩
  have hb1 : Below w.heap.size w w1 := ((Below.refl _ _).drew).trans hb1
  obtain ⟨s1, hs1⟩ : ∃ s1 : ByteArray, s1 = ⟨(boxL (t.extract 1 4 ++ t.extract 0 1).data.toList).toArray⟩ := ⟨_, rfl⟩
  have hs2 : s1.data.toList = [boxU xb, boxU xc, boxU xd, boxU xa] := by rw [hs1, HT2.out]; rfl
  have hs3 : s1.size = 4 := by have : s1.data.toList.length = s1.size := by simp
                               rw [hs2] at this; exact this.symm
  rw [← hs1]
  clear hs1 k1
  have kc0 := run_bytes_of_string (P := Tryz.prog) w1 9 22 5 s1 Tryz.underlying9 Tryz.underlying22 Tryz.underlying5
  have b0 := bytes_conv w1 5 s1 w1.heap.size (by simp) (by omega)
  have g0 : Below w1.heap.size w1 (w1.drew.alloc (.cells (bytesRow s1 (grownCap w1 s1.size 0 5)) 5 ((bytesRow s1 (grownCap w1 s1.size 0 5)).size, (bytesRow s1 (grownCap w1 s1.size 0 5)).size + 1))) := below_grown _ (by simp) _
  generalize w1.drew.alloc (.cells (bytesRow s1 (grownCap w1 s1.size 0 5)) 5 ((bytesRow s1 (grownCap w1 s1.size 0 5)).size, (bytesRow s1 (grownCap w1 s1.size 0 5)).size + 1)) = W0 at b0 g0 kc0
  generalize grownCap w1 s1.size 0 5 = c0 at b0 kc0
  rw [hs2, hs3] at b0
  rw [hs3] at kc0
  have hB := bytes_at (l := [boxU xb, boxU xc, boxU xd, boxU xa]) b0 0 (by simp)
  have N1 := Lib.hid (bytes_set (l := [boxU xb, boxU xc, boxU xd, boxU xa]) b0 0 (boxU xb ^^^ UInt8.ofNat (pow 2 m)))
  obtain ⟨cc, cz, _⟩ := hB
  have G0 := Lib.hid (hb1.trans (g0.mono hb1.size))
  clear b0 g0 hs2 hs3
  go_wp2_with fail
  have cc1 : W0.cell? ⟨w1.heap.size, 0, none⟩ = some (.int .u8 ((boxU xb).toNat : Int)) := cc
  clear cc
  have wm : IntKind.i64.wrap (m : Int) = (m : Int) := IntWalk.i64_in _ (by omega)
  have hp := pow_lt 2 m
  have kp := Lib.hid (two_pow m (by omega))
  have hx8 := xor_ofNat (boxU xb) (pow 2 m) hp
  obtain ⟨r, hr⟩ : ∃ r, pow 2 m = r := ⟨_, rfl⟩
  rw [hr] at kp hx8 N1 hp
  have HR : Hid (pow 2 (m + 1 - 1) = r) := Lib.hid hr
  have hr8 : (r : Int) % 256 = (r : Int) := by omega
  refine wp_region_still_tail 9 (by kernel_rfl) (by kernel_rfl) ?_
  simp only [List.take_succ_cons, List.take_zero, List.drop_succ_cons, List.drop_zero]
  still_step
  still_step
  still_step
  still_step
  still_step
  still_call (kp.out _)
  still_step
  still_step
  still_step
  refine wpStill_nil ?_
  change wpList _ _ _ _ _ W0.drew
  have hw8 : IntKind.u8.wrap (r : Int) = (r : Int) := by have := IntKind.wrap_u8 (r : Int); rw [this]; omega
  rw [hw8, hx8]
  have HE : Hid ([boxU xb ^^^ UInt8.ofNat r, boxU xc, boxU xd, boxU xa] = turnedL t.data.toList (m + 1)) := Lib.hid (by rw [HT.out, ← HR.out]; rfl)
  generalize boxU xb ^^^ UInt8.ofNat r = z at N1 HE ⊢
  have hconv := bytes_string (P := Tryz.prog) (w := (W0.setCell ⟨w1.heap.size, 0, none⟩ (.int .u8 (z.toNat : Int))).drew) (B := w1.heap.size) (l := [z, boxU xc, boxU xd, boxU xa]) 22 9 Tryz.underlying22 Tryz.underlying5 Tryz.underlying9 (v := .slice (some ⟨w1.heap.size, 0, none⟩) 4 c0) N1.out
  have hB2 : Below w.heap.size w (W0.setCell ⟨w1.heap.size, 0, none⟩ (.int .u8 (z.toNat : Int))).drew := (G0.out.setCell (by exact hb1.size) _).drew
  rw [HE.out] at hconv
  clear hx8 hw8 hr8 kp kc0
  go_wp2
  go_ret
  exact ⟨rfl, hB2⟩
end Go.Proofs.YtgpjklnlchbbbaaGreatDoor
namespace Go.Proofs.YtgpjklnlchbbbaaGreatDoor
open Go.RowKit Go.Proofs.YtgpjklnlchbbbaaGreatDoor.Hexa Go.Proofs.YtgpjklnlchbbbaaGreatDoor.Byt Go.Proofs.YtgpjklnlchbbbaaGreatDoor.Aes Go.Proofs.YtgpjklnlchbbbaaGreatDoor.Fld Go.Proofs.YtgpjklnlchbbbaaGreatDoor.BitsM

set_option maxRecDepth 100000 in
set_option maxHeartbeats 1000000 in
theorem implAfter_any (s : ByteArray) (k : Nat) (w : World) (hs : s.size = 16) (hk1 : 1 ≤ k) (hk : k ≤ 10) :
    Calls Tryz.prog 114 #[.string s, .int .i64 k] w fun e w' => e = .returned (.string (txt (afterL s.data.toList k))) ∧ Below w.heap.size w w' := by
  have HL : Hid (s.data.toList.length = 16) := Lib.hid (by simpa using hs)
  have k1 := Lib.hid fun w => implTurned_any (s.extract 12 16) k w (by rw [ByteArray.size_extract]; omega) hk1 hk
  have k2 := Lib.hid fun (j : Nat) (_ : j < 4) w => implXor_any (s.extract (4 * j) (4 * j + 4)) (txt (goneW s.data.toList k j)) w (by rw [ByteArray.size_extract]; omega)
  have k3 := Lib.hid fun (j : Nat) (hj : j < 4) => xor_words s hs k j hj
  go_enter Tryz.func114, Tryz.ntmps114
  go_wp2_with fail
  refine (k1.out _).mono ?_
  rintro e w1 ⟨rfl, hb1⟩
  rw [show (⟨(turnedL (s.extract 12 16).data.toList k).toArray⟩ : ByteArray) = txt (goneW s.data.toList k 0) by rw [turn_words]; rfl]
  go_wp2_with fail
  go_loopw [5, 6, 7] (fun wv nv av wr => ∃ j : Nat, j ≤ 4 ∧ av = .int .i64 (4 * (j : Int)) ∧ wv = .string (txt (goneW s.data.toList k j)) ∧ nv = .string (txt (goneT s.data.toList k j)) ∧ Below w.heap.size w wr)
    (fun _ _ av _ => 16 - (intOf av).toNat)
  case atStart => exact ⟨0, Nat.zero_le _, by go_num, rfl, rfl, hb1⟩
  case round =>
    obtain ⟨j, hj, rfl, rfl, rfl, hbel⟩ := hrel
    by_cases hlt : j < 4
    · have n1 : (4 * (j : Int)).toNat = 4 * j := by omega
      have n2 : (4 * (j : Int) + 4).toNat = 4 * j + 4 := by omega
      have hlen : 4 * j + 4 ≤ s.size := by omega
      go_wp2_with fail
      refine (k2.out j hlt _).mono ?_
      rintro e w2 ⟨rfl, hb2⟩
      have hb3 : Below w.heap.size w w2 := hbel.trans (hb2.mono hbel.size)
      rw [k3.out j hlt]
      have hz1 : (txt (goneT s.data.toList k j)).size = 4 * j := by rw [txt_size]; exact goneT_length _ k (HL.out) j hj
      have hz2 : (txt (goneW s.data.toList k (j + 1))).size = 4 := by rw [txt_size]; exact goneW_length _ k (HL.out) (j + 1) (by omega)
      have H4 := Lib.hid (step_words s.data.toList k j)
      go_wp2_with fail
      rw [H4.out]
      go_roundw
      case rel => exact ⟨j + 1, by omega, by go_num, rfl, rfl, hb3⟩
      case measure => (simp [intOf]; try omega)
    · obtain rfl : j = 4 := by omega
      go_wp2
      go_ret
      exact ⟨rfl, hbel⟩
end Go.Proofs.YtgpjklnlchbbbaaGreatDoor
namespace Go.Proofs.YtgpjklnlchbbbaaGreatDoor
open Go.RowKit Go.Proofs.YtgpjklnlchbbbaaGreatDoor.Hexa Go.Proofs.YtgpjklnlchbbbaaGreatDoor.Byt Go.Proofs.YtgpjklnlchbbbaaGreatDoor.Aes Go.Proofs.YtgpjklnlchbbbaaGreatDoor.Parts

theorem implAfter_key (s : ByteArray) (hs : s.size = 16) (j : Nat) (hj : j < 10) (w : World) :
    Calls Tryz.prog 114 #[.string (keyT s j), .int .i64 ((j : Int) + 1)] w fun e w' => e = .returned (.string (keyT s (j + 1))) ∧ Below w.heap.size w w' := by
  have := implAfter_any (keyT s j) (j + 1) w (keyT_size s hs j (by omega)) (by omega) (by omega)
  rw [keyT_next s hs j hj] at this
  exact this

set_option maxRecDepth 100000 in
set_option maxHeartbeats 1000000 in
theorem implKeys_yes (s : ByteArray) (w : World) (hs : s.size = 16) :
    Calls Tryz.prog 112 #[.string s] w (GivesK (keysTo s 11) w) := by
  obtain ⟨i0, hi, hz0, hz1, hz2⟩ := info_parts infoKeys
  unfold GivesK
  rw [keysTo_length]
  have k1 := Lib.hid fun j hj w => implAfter_key s hs j hj w
  have HK := Lib.hid fun n => keysTo_next s n
  have HA := Lib.hid fun n i h => keysTo_at s n i h
  have H1 := Lib.hid (keysTo_one s hs)
  go_enter Tryz.func112, Tryz.ntmps112
  go_wp2_with fail
  go_loopw [3, 4] (fun v kv wr => ∃ j : Nat, j ≤ 10 ∧ kv = .int .i64 ((j : Int) + 1) ∧ Hid (wr.ownsRow w.heap.size 9 1 v (j + 1) (scells (keysTo s (j + 1)))) ∧ Below w.heap.size w wr)
    (fun _ kv _ => 11 - (intOf kv).toNat)
  case atStart => exact ⟨0, Nat.zero_le _, rfl, Lib.hid (by rw [H1.out]; exact World.ownsRow_lit w #[.string s] 1 (Nat.le_refl _) (by decide) rfl), (Below.refl _ _).alloc (Nat.le_refl _) _⟩
  case round =>
    obtain ⟨j, hj, rfl, HW, hbel⟩ := hrel
    obtain ⟨ad, cap, hv, hc1, hc2, hr⟩ := own_form HW.out
    subst hv
    obtain ⟨g, hg, hc⟩ := hr j (by simp [scells, keysTo_length])
    subst hg
    rw [HA.out (j + 1) j (by omega)] at hc
    clear hr
    by_cases hlt : j < 10
    · go_wp2_with (first
        | (go_at_call 114; refine (k1.out j hlt _).mono ?_; rintro e w1 ⟨rfl, hb1⟩; have hb2 : Below w.heap.size w w1 := hbel.trans (hb1.mono hbel.size); have HW1 := Lib.hid (own_below HW.out hb1))
        | (at_builtin; refine wpList_append_own _ rfl (.tmp 14) (.tmp 22) 29 rfl w.heap.size 9 i0 (.string ⟨#[]⟩) 1 16 Tryz.underlying29 hi hz0 hz1 hz2 rfl (by decide) _ _ _ rfl (HW1.out.alloc _) ⟨w1.heap.size, 0, none⟩ 1 1 [.string (keyT s (j + 1))] rfl rfl (World.news_of_block (heap_alloc_new _ _)) (by simp [Value.oneCell']) (by unfold maxLen; omega) (by omega) (by have := hb2.size; simp; omega) ?_; intro v2 w2 hown2 hgrow2 hn2))
      have hb3 : Below w.heap.size w w2 := (hb2.alloc hb2.size _).grown hgrow2 (by have := hb2.size; simp; omega) (own_block_ge HW1.out)
      rw [HK.out (j + 1)] at hown2
      have HO2 := Lib.hid hown2
      clear hown2 hgrow2 hn2
      go_roundw
      case rel => exact ⟨j + 1, by omega, by go_num, HO2, hb3⟩
      case measure => (simp [intOf]; try omega)
    · obtain rfl : j = 10 := by omega
      go_wp2
      go_ret
      exact ⟨_, rfl, HW.out, hbel⟩

set_option maxRecDepth 100000 in
set_option maxHeartbeats 400000 in
theorem implKeys_no (s : ByteArray) (w : World) (hs : ¬ s.size = 16) :
    Calls Tryz.prog 112 #[.string s] w (GivesK [] w) := by
  go_enter Tryz.func112, Tryz.ntmps112
  go_wp2
  go_ret
  exact ⟨_, rfl, World.ownsRow_nil _ _ _ 1, Below.refl _ _⟩
end Go.Proofs.YtgpjklnlchbbbaaGreatDoor
namespace Go.Proofs.YtgpjklnlchbbbaaGreatDoor
open Go.RowKit Go.Proofs.YtgpjklnlchbbbaaGreatDoor.Hexa Go.Proofs.YtgpjklnlchbbbaaGreatDoor.Byt Go.Proofs.YtgpjklnlchbbbaaGreatDoor.Aes Go.Proofs.YtgpjklnlchbbbaaGreatDoor.Parts

/-- The steps of round k, as values. -/
def stepsC (k : Nat) : Array Value :=
  if k = 10 then #[.func (.func 115) #[] #[], .func (.func 116) #[] #[]]
  else #[.func (.func 115) #[] #[], .func (.func 116) #[] #[], .func (.func 117) #[] #[]]
theorem stepsC_zero (k : Nat) : (stepsC k)[0]? = some (.func (.func 115) #[] #[]) := by unfold stepsC; split <;> rfl
theorem stepsC_one (k : Nat) : (stepsC k)[1]? = some (.func (.func 116) #[] #[]) := by unfold stepsC; split <;> rfl
theorem stepsC_two (k : Nat) (h : 2 < stepsN k) : (stepsC k)[2]? = some (.func (.func 117) #[] #[]) := by
  unfold stepsN at h
  unfold stepsC
  split
  · rw [if_pos (by assumption)] at h; omega
  · rfl
theorem implSteps_any (k : Nat) (w : World) :
    Calls Tryz.prog 113 #[.int .i64 k] w fun e w' => e = .returned (.slice (some ⟨w.heap.size, 0, none⟩) (stepsN k) (stepsN k)) ∧ w' = w.alloc (.cells (stepsC k) 134) := by
  by_cases h : k = 10
  · subst h
    go_enter Tryz.func113, Tryz.ntmps113
    go_wp2
    go_ret
    exact ⟨rfl, rfl⟩
  · have h1 : stepsN k = 3 := if_neg h
    have h2 : stepsC k = #[.func (.func 115) #[] #[], .func (.func 116) #[] #[], .func (.func 117) #[] #[]] := if_neg h
    rw [h1, h2]
    have h3 : ¬ ((k : Int) = 10) := by omega
    have h4 : ((k : Int) == 10) = false := beq_eq_false_iff_ne.2 h3
    clear h1 h2 h
    go_enter Tryz.func113, Tryz.ntmps113
    go_wp2
    go_ret
    exact ⟨rfl, rfl⟩

set_option maxRecDepth 100000 in
set_option maxHeartbeats 2000000 in
theorem implBlock_yes (key s : ByteArray) (w : World) (hk : key.size = 16) (hs : s.size = 16) (hT : MixTab w) :
    Calls Tryz.prog 110 #[.string key, .string s] w fun e w' => e = .returned (.string (blockT key s)) ∧ Below w.heap.size w w' := by
  have HT := Lib.hid hT
  have HK := Lib.hid hk
  have HS := Lib.hid hs
  have kk := Lib.hid fun w => implKeys_yes key w hk
  have kb : Hid (∀ (s : ByteArray) (w : World), s.size = 16 → Calls Tryz.prog 115 #[.string s] w fun e w' => e = .returned (.string (boxT s)) ∧ Below w.heap.size w w') := Lib.hid fun s w hs => implBoxText_any s w (by omega)
  have ks : Hid (∀ (s : ByteArray) (w : World), s.size = 16 → Calls Tryz.prog 116 #[.string s] w fun e w' => e = .returned (.string (shiftT s)) ∧ Below w.heap.size w w') := Lib.hid fun s w hs => implShift_yes s w hs
  have km : Hid (∀ (s : ByteArray) (w : World), s.size = 16 → MixTab w → Calls Tryz.prog 117 #[.string s] w fun e w' => e = .returned (.string (mixT s)) ∧ Below w.heap.size w w') := Lib.hid fun s w hs hT => implMix_yes s w hs hT
  have kx := Lib.hid fun a b w ha => implXor_any a b w ha
  have kr := Lib.hid fun k w => implSteps_any k w
  clear hT
  go_enter Tryz.func110, Tryz.ntmps110
  go_wp2_with fail
  refine (kk.out _).mono ?_
  rintro e w1 ⟨v1, rfl, hown1, hb1⟩
  rw [keysTo_length] at hown1
  obtain ⟨ad, cap, rfl, hc1, hn1, hr1⟩ := own_form hown1
  have HB1 := Lib.hid hb1
  have HR := Lib.hid hr1
  obtain ⟨g, rfl, c0⟩ := reads_key hr1 0 (by omega)
  clear hown1 hb1 hr1
  go_wp2_with fail
  refine (kx.out s (keyT key 0) _ (by omega)).mono ?_
  rintro e w2 ⟨rfl, hb2⟩
  rw [stT_zero key s hk hs]
  have HB2 := Lib.hid hb2
  clear hk hs hb2 c0
  go_wp2_with fail
  go_loopw [1, 6, 8] (fun sv iv _ wr => ∃ n : Nat, n ≤ 10 ∧ iv = .int .i64 ((n : Int) + 1) ∧ sv = .string (stT key s n) ∧ Hid (Below w1.heap.size w1 wr))
    (fun _ iv _ _ => 11 - (intOf iv).toNat)
  case atStart => exact ⟨0, Nat.zero_le _, rfl, rfl, HB2⟩
  case round =>
    clear HB2
    obtain ⟨n, hn, rfl, rfl, HL⟩ := hrel
    by_cases hlt : n < 10
    · have HN := Lib.hid (stT_next key s HK.out n hlt)
      have hz := stT_size key s HK.out HS.out n (by omega)
      have hz2 : ∀ j, (stepT (stT key s n) j).size = 16 := fun j => by
        match j with
        | 0 => exact hz
        | 1 => exact (boxT_size _).trans hz
        | 2 => exact shiftT_size _
        | _ + 3 => exact mixT_size _
      have HZ := Lib.hid hz2
      have HJ2 := Lib.hid (stepsC_two (n + 1))
      have hm : 2 ≤ stepsN (n + 1) ∧ stepsN (n + 1) ≤ 3 := by unfold stepsN; split <;> omega
      have krn := kr.out (n + 1)
      have HC0 := Lib.hid (stepsC_zero (n + 1))
      have HC1 := Lib.hid (stepsC_one (n + 1))
      generalize stepsN (n + 1) = m at HN HJ2 hm krn
      generalize stepsC (n + 1) = C at HJ2 krn HC0 HC1
      have KR : Hid (∀ w : World, Calls Tryz.prog 113 #[.int .i64 ((n : Int) + 1)] w fun e w' => e = .returned (.slice (some ⟨w.heap.size, 0, none⟩) m m) ∧ w' = w.alloc (.cells C 134)) := Lib.hid krn
      have hd : decide ((n : Int) + 1 ≤ 10) = true := decide_eq_true (by omega)
      clear krn hz hz2
      go_wp2_with fail
      refine (KR.out _).mono ?_
      rintro e w3 ⟨rfl, rfl⟩
      have HG0 : Hid ((wr.alloc (.cells C 134)).heap[wr.heap.size]? = some (.cells C 134 (0, 0))) := Lib.hid (heap_alloc_new wr _)
      have HL0 : Hid (Below w1.heap.size w1 (wr.alloc (.cells C 134))) := Lib.hid (HL.out.alloc HL.out.size _)
      generalize wr.alloc (.cells C 134) = w3 at HG0 HL0 ⊢
      generalize wr.heap.size = g3 at HG0 ⊢
      clear KR
      go_wp2_with fail
      go_loopw [1, 8, 31] (fun sv _ jv wq => ∃ j : Nat, j ≤ m ∧ jv = .int .i64 j ∧ sv = .string (stepT (stT key s n) j) ∧ Hid (wq.heap[g3]? = some (.cells C 134 (0, 0))) ∧ Hid (Below w1.heap.size w1 wq))
        (fun _ _ jv _ => m - (intOf jv).toNat)
      case atStart => exact ⟨0, Nat.zero_le _, rfl, rfl, HG0, HL0⟩
      case round =>
        clear HG0 HL0 HL
        obtain ⟨j, hj, rfl, rfl, HG, HL3⟩ := hrel
        by_cases hjt : j < m
        · have hzj := HZ.out j
          rcases (by omega : j = 0 ∨ j = 1 ∨ j = 2) with hj | hj | hj
          · have HE : Hid (stepT (stT key s n) (j + 1) = boxT (stepT (stT key s n) j)) := Lib.hid (by subst hj; rfl)
            have cj : wr.cell? ⟨g3, j, none⟩ = some (.func (.func 115) #[] #[]) := by subst hj; simp only [World.cell?, HG.out]; exact HC0.out
            generalize stepT (stT key s n) j = sj at HE hzj ⊢
            clear hj
            go_wp2_with fail
            refine (kb.out sj _ hzj).mono ?_
            rintro e w4 ⟨rfl, hb4⟩
            rw [← HE.out]
            have HG4 : Hid (w4.heap[g3]? = some (.cells C 134 (0, 0))) := Lib.hid (by rw [hb4.block g3 (Array.getElem?_eq_some_iff.1 HG.out).1]; exact HG.out)
            have HL4 := Lib.hid (HL3.out.trans (hb4.mono HL3.out.size))
            clear hb4 cj
            go_wp2
            go_roundw
            case rel => exact ⟨j + 1, by omega, by go_num, rfl, HG4, HL4⟩
            case measure => (simp [intOf]; try omega)
          · have HE : Hid (stepT (stT key s n) (j + 1) = shiftT (stepT (stT key s n) j)) := Lib.hid (by subst hj; rfl)
            have cj : wr.cell? ⟨g3, j, none⟩ = some (.func (.func 116) #[] #[]) := by subst hj; simp only [World.cell?, HG.out]; exact HC1.out
            generalize stepT (stT key s n) j = sj at HE hzj ⊢
            clear hj
            go_wp2_with fail
            refine (ks.out sj _ hzj).mono ?_
            rintro e w4 ⟨rfl, hb4⟩
            rw [← HE.out]
            have HG4 : Hid (w4.heap[g3]? = some (.cells C 134 (0, 0))) := Lib.hid (by rw [hb4.block g3 (Array.getElem?_eq_some_iff.1 HG.out).1]; exact HG.out)
            have HL4 := Lib.hid (HL3.out.trans (hb4.mono HL3.out.size))
            clear hb4 cj
            go_wp2
            go_roundw
            case rel => exact ⟨j + 1, by omega, by go_num, rfl, HG4, HL4⟩
            case measure => (simp [intOf]; try omega)
          · have HE : Hid (stepT (stT key s n) (j + 1) = mixT (stepT (stT key s n) j)) := Lib.hid (by subst hj; rfl)
            have cj : wr.cell? ⟨g3, j, none⟩ = some (.func (.func 117) #[] #[]) := by simp only [World.cell?, HG.out]; subst hj; exact (HJ2.out hjt)
            generalize stepT (stT key s n) j = sj at HE hzj ⊢
            clear hj
            go_wp2_with fail
            refine (km.out sj _ hzj (HT.out.below (HB1.out.trans (HL3.out.mono HB1.out.size)))).mono ?_
            rintro e w4 ⟨rfl, hb4⟩
            rw [← HE.out]
            have HG4 : Hid (w4.heap[g3]? = some (.cells C 134 (0, 0))) := Lib.hid (by rw [hb4.block g3 (Array.getElem?_eq_some_iff.1 HG.out).1]; exact HG.out)
            have HL4 := Lib.hid (HL3.out.trans (hb4.mono HL3.out.size))
            clear hb4 cj
            go_wp2
            go_roundw
            case rel => exact ⟨j + 1, by omega, by go_num, rfl, HG4, HL4⟩
            case measure => (simp [intOf]; try omega)
        · obtain rfl : j = m := by omega
          obtain ⟨g', hg', ck⟩ := reads_key (reads_below HR.out HL3.out) (n + 1) (by omega)
          cases hg'
          have hzx : (stepT (stT key s n) j).size ≤ 8000000 := by rw [HZ.out j]; omega
          generalize keyT key (n + 1) = kt at ck HN
          generalize stepT (stT key s n) j = sj at HN hzx ⊢
          go_wp2_with fail
          refine (kx.out _ _ _ hzx).mono ?_
          rintro e w5 ⟨rfl, hb5⟩
          rw [HN.out]
          have HL5 := Lib.hid (HL3.out.trans (hb5.mono HL3.out.size))
          clear hb5 ck
          go_wp2
          go_roundw
          case rel => exact ⟨n + 1, by omega, by go_num, rfl, HL5⟩
          case measure => (simp [intOf]; try omega)
    · obtain rfl : n = 10 := by omega
      go_wp2
      go_ret
      exact ⟨rfl, HB1.out.trans (HL.out.mono HB1.out.size)⟩

theorem implBlock_no (key s : ByteArray) (w : World) (h : ¬ (key.size = 16 ∧ s.size = 16)) :
    Calls Tryz.prog 110 #[.string key, .string s] w fun e w' => e = .returned (.string ⟨#[]⟩) ∧ Below w.heap.size w w' := by
  by_cases hk : key.size = 16
  · have hs : ¬ s.size = 16 := fun e => h ⟨hk, e⟩
    go_enter Tryz.func110, Tryz.ntmps110
    go_wp2
    go_ret
    exact ⟨rfl, Below.refl _ _⟩
  · go_enter Tryz.func110, Tryz.ntmps110
    go_wp2
    go_ret
    exact ⟨rfl, Below.refl _ _⟩
end Go.Proofs.YtgpjklnlchbbbaaGreatDoor
namespace Go.Proofs.YtgpjklnlchbbbaaGreatDoor.Gen
open Go.RowKit Go.Proofs.YtgpjklnlchbbbaaGreatDoor.Hexa Go.Proofs.YtgpjklnlchbbbaaGreatDoor.Byt Go.Proofs.YtgpjklnlchbbbaaGreatDoor.Aes Go.Proofs.YtgpjklnlchbbbaaGreatDoor.Fld Go.Proofs.YtgpjklnlchbbbaaGreatDoor.BitsM Go.Proofs.YtgpjklnlchbbbaaGreatDoor.Parts
variable [Inhabited Mix4]
/-- A block behind the steps of round i. -/
def roundL (k s : List UInt8) (i : Nat) : List UInt8 := xorB (if i < 10 then mixL (shiftL (boxL s)) else shiftL (boxL s)) k
def roundsL (keys : Nat → List UInt8) (s : List UInt8) : Nat → List UInt8
  | 0 => xorB s (keys 0)
  | n + 1 => roundL (keys (n + 1)) (roundsL keys s n) (n + 1)
def blockL (key s : List UInt8) : List UInt8 := roundsL (keyAt key) s 10
theorem roundL_length (k s : List UInt8) (i : Nat) (hk : k.length = 16) (_hs : s.length = 16) : (roundL k s i).length = 16 := by
  unfold roundL
  refine xorB_length ?_ hk
  split
  · exact mixL_length _
  · exact shiftL_length _
theorem roundsL_length (keys : Nat → List UInt8) (s : List UInt8) (hk : ∀ i, i < 11 → (keys i).length = 16) (hs : s.length = 16) : ∀ n, n < 11 → (roundsL keys s n).length = 16
  | 0, _ => xorB_length hs (hk 0 (by omega))
  | n + 1, h => roundL_length _ _ _ (hk (n + 1) h) (roundsL_length keys s hk hs n (by omega))
def mixT (s : ByteArray) : ByteArray := txt (mixL s.data.toList)
theorem mixT_size (s : ByteArray) : (mixT s).size = 16 := by unfold mixT; rw [txt_size, mixL_length]
/-- A block behind its first n rounds. -/
def stT (key s : ByteArray) (n : Nat) : ByteArray := txt (roundsL (keyAt key.data.toList) s.data.toList n)
theorem stT_size (key s : ByteArray) (hk : key.size = 16) (hs : s.size = 16) (n : Nat) (hn : n < 11) : (stT key s n).size = 16 := by
  unfold stT
  rw [txt_size]
  exact roundsL_length _ _ (fun i hi => keyAt_length _ (by simpa using hk) i hi) (by simpa using hs) n hn
theorem stT_zero (key s : ByteArray) (hk : key.size = 16) (hs : s.size = 16) : xorT s (keyT key 0) = stT key s 0 := by
  rw [xorT_txt _ _ (by rw [hs, keyT_size key hk 0 (by omega)])]
  unfold stT keyT
  rw [txt_list]
  rfl
/-- The steps of a round, one after another: boxes, rows, columns. -/
def stepT (s : ByteArray) : Nat → ByteArray
  | 0 => s
  | 1 => boxT s
  | 2 => shiftT (boxT s)
  | _ => mixT (shiftT (boxT s))
theorem stT_next (key s : ByteArray) (hk : key.size = 16) (n : Nat) (hn : n < 10) : xorT (stepT (stT key s n) (stepsN (n + 1))) (keyT key (n + 1)) = stT key s (n + 1) := by
  have hsz : (stepT (stT key s n) (stepsN (n + 1))).size = 16 := by
    unfold stepsN
    split
    · exact shiftT_size _
    · exact mixT_size _
  rw [xorT_txt _ _ (by rw [hsz, keyT_size key hk (n + 1) (by omega)])]
  have e : (stepT (stT key s n) (stepsN (n + 1))).data.toList = if n + 1 < 10 then mixL (shiftL (boxL (roundsL (keyAt key.data.toList) s.data.toList n))) else shiftL (boxL (roundsL (keyAt key.data.toList) s.data.toList n)) := by
    unfold stepsN
    by_cases h : n + 1 = 10
    · rw [if_pos h, if_neg (by omega)]
      show (txt _).data.toList = _
      rw [txt_list]
      show shiftL (txt _).data.toList = _
      rw [txt_list]
      show shiftL (boxL (txt _).data.toList) = _
      rw [txt_list]
    · rw [if_neg h, if_pos (by omega)]
      show (txt _).data.toList = _
      rw [txt_list]
      show mixL (txt _).data.toList = _
      rw [txt_list]
      show mixL (shiftL (txt _).data.toList) = _
      rw [txt_list]
      show mixL (shiftL (boxL (txt _).data.toList)) = _
      rw [txt_list]
  rw [e]
  unfold stT keyT
  rw [txt_list]
  rfl
/-- What BlockText returns. -/
def blockT (key s : ByteArray) : ByteArray := txt (blockL key.data.toList s.data.toList)
theorem blockT_eq (key s : ByteArray) : stT key s 10 = blockT key s := rfl
theorem blockT_size (key s : ByteArray) (hk : key.size = 16) (hs : s.size = 16) : (blockT key s).size = 16 := stT_size key s hk hs 10 (by omega)
set_option maxRecDepth 100000 in
set_option maxHeartbeats 2000000 in
theorem implBlock_yes (key s : ByteArray) (w : World) (hk : key.size = 16) (hs : s.size = 16) (hT : MixTab w) :
    Calls Tryz.prog 110 #[.string key, .string s] w fun e w' => e = .returned (.string (blockT key s)) ∧ Below w.heap.size w w' := by
  have HT := Lib.hid hT
  have HK := Lib.hid hk
  have HS := Lib.hid hs
  have kk := Lib.hid fun w => implKeys_yes key w hk
  have kb : Hid (∀ (s : ByteArray) (w : World), s.size = 16 → Calls Tryz.prog 115 #[.string s] w fun e w' => e = .returned (.string (boxT s)) ∧ Below w.heap.size w w') := Lib.hid fun s w hs => implBoxText_any s w (by omega)
  have ks : Hid (∀ (s : ByteArray) (w : World), s.size = 16 → Calls Tryz.prog 116 #[.string s] w fun e w' => e = .returned (.string (shiftT s)) ∧ Below w.heap.size w w') := Lib.hid fun s w hs => implShift_yes s w hs
  have km : Hid (∀ (s : ByteArray) (w : World), s.size = 16 → MixTab w → Calls Tryz.prog 117 #[.string s] w fun e w' => e = .returned (.string (mixT s)) ∧ Below w.heap.size w w') := Lib.hid fun s w hs hT => implMix_yes s w hs hT
  have kx := Lib.hid fun a b w ha => implXor_any a b w ha
  have kr := Lib.hid fun k w => implSteps_any k w
  clear hT
  go_enter Tryz.func110, Tryz.ntmps110
  go_wp2_with fail
  refine (kk.out _).mono ?_
  rintro e w1 ⟨v1, rfl, hown1, hb1⟩
  rw [keysTo_length] at hown1
  obtain ⟨ad, cap, rfl, hc1, hn1, hr1⟩ := own_form hown1
  have HB1 := Lib.hid hb1
  have HR := Lib.hid hr1
  obtain ⟨g, rfl, c0⟩ := reads_key hr1 0 (by omega)
  clear hown1 hb1 hr1
  go_wp2_with fail
  refine (kx.out s (keyT key 0) _ (by omega)).mono ?_
  rintro e w2 ⟨rfl, hb2⟩
  rw [stT_zero key s hk hs]
  have HB2 := Lib.hid hb2
  clear hk hs hb2 c0
  go_wp2_with fail
  go_loopw [1, 6, 8] (fun sv iv _ wr => ∃ n : Nat, n ≤ 10 ∧ iv = .int .i64 ((n : Int) + 1) ∧ sv = .string (stT key s n) ∧ Hid (Below w1.heap.size w1 wr))
    (fun _ iv _ _ => 11 - (intOf iv).toNat)
  case atStart => exact ⟨0, Nat.zero_le _, rfl, rfl, HB2⟩
  case round =>
    clear HB2
    obtain ⟨n, hn, rfl, rfl, HL⟩ := hrel
    by_cases hlt : n < 10
    · have HN := Lib.hid (stT_next key s HK.out n hlt)
      have hz := stT_size key s HK.out HS.out n (by omega)
      have hz2 : ∀ j, (stepT (stT key s n) j).size = 16 := fun j => by
        match j with
        | 0 => exact hz
        | 1 => exact (boxT_size _).trans hz
        | 2 => exact shiftT_size _
        | _ + 3 => exact mixT_size _
      have HZ := Lib.hid hz2
      have HJ2 := Lib.hid (stepsC_two (n + 1))
      have hm : 2 ≤ stepsN (n + 1) ∧ stepsN (n + 1) ≤ 3 := by unfold stepsN; split <;> omega
      have krn := kr.out (n + 1)
      have HC0 := Lib.hid (stepsC_zero (n + 1))
      have HC1 := Lib.hid (stepsC_one (n + 1))
      generalize stepsN (n + 1) = m at HN HJ2 hm krn
      generalize stepsC (n + 1) = C at HJ2 krn HC0 HC1
      have KR : Hid (∀ w : World, Calls Tryz.prog 113 #[.int .i64 ((n : Int) + 1)] w fun e w' => e = .returned (.slice (some ⟨w.heap.size, 0, none⟩) m m) ∧ w' = w.alloc (.cells C 134)) := Lib.hid krn
      have hd : decide ((n : Int) + 1 ≤ 10) = true := decide_eq_true (by omega)
      clear krn hz hz2
      go_wp2_with fail
      refine (KR.out _).mono ?_
      rintro e w3 ⟨rfl, rfl⟩
      have HG0 : Hid ((wr.alloc (.cells C 134)).heap[wr.heap.size]? = some (.cells C 134 (0, 0))) := Lib.hid (heap_alloc_new wr _)
      have HL0 : Hid (Below w1.heap.size w1 (wr.alloc (.cells C 134))) := Lib.hid (HL.out.alloc HL.out.size _)
      generalize wr.alloc (.cells C 134) = w3 at HG0 HL0 ⊢
      generalize wr.heap.size = g3 at HG0 ⊢
      clear KR
      go_wp2_with fail
      go_loopw [1, 8, 31] (fun sv _ jv wq => ∃ j : Nat, j ≤ m ∧ jv = .int .i64 j ∧ sv = .string (stepT (stT key s n) j) ∧ Hid (wq.heap[g3]? = some (.cells C 134 (0, 0))) ∧ Hid (Below w1.heap.size w1 wq))
        (fun _ _ jv _ => m - (intOf jv).toNat)
      case atStart => exact ⟨0, Nat.zero_le _, rfl, rfl, HG0, HL0⟩
      case round =>
        clear HG0 HL0 HL
        obtain ⟨j, hj, rfl, rfl, HG, HL3⟩ := hrel
        by_cases hjt : j < m
        · have hzj := HZ.out j
          rcases (by omega : j = 0 ∨ j = 1 ∨ j = 2) with hj | hj | hj
          · have HE : Hid (stepT (stT key s n) (j + 1) = boxT (stepT (stT key s n) j)) := Lib.hid (by subst hj; rfl)
            have cj : wr.cell? ⟨g3, j, none⟩ = some (.func (.func 115) #[] #[]) := by subst hj; simp only [World.cell?, HG.out]; exact HC0.out
            generalize stepT (stT key s n) j = sj at HE hzj ⊢
            clear hj
            go_wp2_with fail
            refine (kb.out sj _ hzj).mono ?_
            rintro e w4 ⟨rfl, hb4⟩
            rw [← HE.out]
            have HG4 : Hid (w4.heap[g3]? = some (.cells C 134 (0, 0))) := Lib.hid (by rw [hb4.block g3 (Array.getElem?_eq_some_iff.1 HG.out).1]; exact HG.out)
            have HL4 := Lib.hid (HL3.out.trans (hb4.mono HL3.out.size))
            clear hb4 cj
            go_wp2
            go_roundw
            case rel => exact ⟨j + 1, by omega, by go_num, rfl, HG4, HL4⟩
            case measure => (simp [intOf]; try omega)
          · have HE : Hid (stepT (stT key s n) (j + 1) = shiftT (stepT (stT key s n) j)) := Lib.hid (by subst hj; rfl)
            have cj : wr.cell? ⟨g3, j, none⟩ = some (.func (.func 116) #[] #[]) := by subst hj; simp only [World.cell?, HG.out]; exact HC1.out
            generalize stepT (stT key s n) j = sj at HE hzj ⊢
            clear hj
            go_wp2_with fail
            refine (ks.out sj _ hzj).mono ?_
            rintro e w4 ⟨rfl, hb4⟩
            rw [← HE.out]
            have HG4 : Hid (w4.heap[g3]? = some (.cells C 134 (0, 0))) := Lib.hid (by rw [hb4.block g3 (Array.getElem?_eq_some_iff.1 HG.out).1]; exact HG.out)
            have HL4 := Lib.hid (HL3.out.trans (hb4.mono HL3.out.size))
            clear hb4 cj
            go_wp2
            go_roundw
            case rel => exact ⟨j + 1, by omega, by go_num, rfl, HG4, HL4⟩
            case measure => (simp [intOf]; try omega)
          · have HE : Hid (stepT (stT key s n) (j + 1) = mixT (stepT (stT key s n) j)) := Lib.hid (by subst hj; rfl)
            have cj : wr.cell? ⟨g3, j, none⟩ = some (.func (.func 117) #[] #[]) := by simp only [World.cell?, HG.out]; subst hj; exact (HJ2.out hjt)
            generalize stepT (stT key s n) j = sj at HE hzj ⊢
            clear hj
            go_wp2_with fail
            refine (km.out sj _ hzj (HT.out.below (HB1.out.trans (HL3.out.mono HB1.out.size)))).mono ?_
            rintro e w4 ⟨rfl, hb4⟩
            rw [← HE.out]
            have HG4 : Hid (w4.heap[g3]? = some (.cells C 134 (0, 0))) := Lib.hid (by rw [hb4.block g3 (Array.getElem?_eq_some_iff.1 HG.out).1]; exact HG.out)
            have HL4 := Lib.hid (HL3.out.trans (hb4.mono HL3.out.size))
            clear hb4 cj
            go_wp2
            go_roundw
            case rel => exact ⟨j + 1, by omega, by go_num, rfl, HG4, HL4⟩
            case measure => (simp [intOf]; try omega)
        · obtain rfl : j = m := by omega
          obtain ⟨g', hg', ck⟩ := reads_key (reads_below HR.out HL3.out) (n + 1) (by omega)
          cases hg'
          have hzx : (stepT (stT key s n) j).size ≤ 8000000 := by rw [HZ.out j]; omega
          generalize keyT key (n + 1) = kt at ck HN
          generalize stepT (stT key s n) j = sj at HN hzx ⊢
          go_wp2_with fail
          refine (kx.out _ _ _ hzx).mono ?_
          rintro e w5 ⟨rfl, hb5⟩
          rw [HN.out]
          have HL5 := Lib.hid (HL3.out.trans (hb5.mono HL3.out.size))
          clear hb5 ck
          go_wp2
          go_roundw
          case rel => exact ⟨n + 1, by omega, by go_num, rfl, HL5⟩
          case measure => (simp [intOf]; try omega)
    · obtain rfl : n = 10 := by omega
      go_wp2
      go_ret
      exact ⟨rfl, HB1.out.trans (HL.out.mono HB1.out.size)⟩

end Go.Proofs.YtgpjklnlchbbbaaGreatDoor.Gen
namespace Go.Proofs.YtgpjklnlchbbbaaGreatDoor
open Go.RowKit Go.Proofs.YtgpjklnlchbbbaaGreatDoor.Hexa Go.Proofs.YtgpjklnlchbbbaaGreatDoor.Byt Go.Proofs.YtgpjklnlchbbbaaGreatDoor.BitsM

set_option maxRecDepth 100000 in
set_option maxHeartbeats 1000000 in
theorem implNum_yes (m k : Nat) (w : World) (hk : 1 ≤ k) (hk' : k ≤ 7) (hm : m < 256 ^ k) :
    Calls Tryz.prog 111 #[.int .i64 m, .int .i64 k] w fun e w' => e = .returned (.string (numB m k)) ∧ Below w.heap.size w w' := by
  obtain ⟨i0, hi, hz0, hz1, hz2⟩ := info_parts infoByte
  have hmb : m < 72057594037927936 := Nat.lt_of_lt_of_le hm (Nat.le_trans (Nat.pow_le_pow_right (by omega) hk') (by decide))
  have hq := shift_zero hm
  have h0 : ¬ ((m : Int) < 0) := by omega
  have hsh0 : (8 * (k : Int)).toNat = 8 * k := by omega
  clear hm
  go_enter Tryz.func111, Tryz.ntmps111
  go_wp2_with (at_make; refine wpList_make_full _ rfl _ _ 22 rfl w.heap.size 5 i0 (.int .u8 0) 1 Tryz.underlying22 hi hz0 hz1 .i64 .i64 _ _ k rfl rfl rfl rfl (by rw [hz2]; omega) (by unfold maxLen; omega) (Nat.le_refl _) ?_; intro w0 hown0 hgrow0)
  have hg0 : Below w.heap.size w w0 := (Below.refl _ _).grown hgrow0 (Nat.le_refl _) (fun k h => by cases h)
  have HO0 := Lib.hid (part_start hown0)
  clear hown0 hgrow0 hq hsh0
  go_loopw [6, 28] (fun jv iv wr => ∃ j : Nat, j ≤ k ∧ iv = .int .i64 j ∧ Hid (Bytes wr w.heap.size 5 (.slice (some ⟨w.heap.size, 0, none⟩) k k) (partB (numL m k j) k)) ∧ Below w.heap.size w wr)
    (fun _ iv _ => k - (intOf iv).toNat)
  case atStart => exact ⟨0, Nat.zero_le _, rfl, HO0, hg0⟩
  case round =>
    clear HO0 hg0
    obtain ⟨j, hj, rfl, HW, hbel⟩ := hrel
    have hl := numL_length m k j
    by_cases hlt : j < k
    · have hsh : (8 * ((k : Int) - 1 - j)).toNat = 8 * (k - 1 - j) := by omega
      have hge : 0 ≤ (k : Int) - 1 - j := by omega
      have hby := num_byte m (k - 1 - j)
      have HNX := Lib.hid (numL_next m k j)
      obtain ⟨⟨v, c3⟩, z3, hB⟩ := part_at HW.out (by omega)
      have N3 := Lib.hid (part_next HW.out (UInt8.ofNat (m / 256 ^ (k - 1 - j))) (by omega))
      rw [hl] at c3 z3 N3
      rw [HNX.out] at N3
      generalize UInt8.ofNat (m / 256 ^ (k - 1 - j)) = z at hby N3
      have hb1 : Below w.heap.size w (wr.setCell ⟨w.heap.size, j, none⟩ (.int .u8 (z.toNat : Int))) := hbel.setCell (Nat.le_refl _) _
      clear HNX
      go_wp2
      go_roundw
      case rel => exact ⟨j + 1, by omega, by go_num, N3, hb1⟩
      case measure => (simp [intOf]; try omega)
    · obtain rfl : j = k := by omega
      have h9 := HW.out
      rw [partB_full _ _ hl] at h9
      have hconv := bytes_string (P := Tryz.prog) 22 9 Tryz.underlying22 Tryz.underlying5 Tryz.underlying9 h9
      clear h9
      go_wp2
      go_ret
      exact ⟨rfl, hbel⟩
end Go.Proofs.YtgpjklnlchbbbaaGreatDoor
namespace Go.Proofs.YtgpjklnlchbbbaaGreatDoor
open Go.RowKit Go.Proofs.YtgpjklnlchbbbaaGreatDoor.Hexa Go.Proofs.YtgpjklnlchbbbaaGreatDoor.Byt Go.Proofs.YtgpjklnlchbbbaaGreatDoor.BitsM

set_option maxRecDepth 100000 in
set_option maxHeartbeats 1000000 in
theorem implNum_no (n width : Int) (w : World) (h : ¬ NumFits n width) (hn : n ≤ 9223372036854775807) :
    Calls Tryz.prog 111 #[.int .i64 n, .int .i64 width] w fun e w' => e = .returned (.string ⟨#[]⟩) ∧ w' = w := by
  by_cases h0 : n < 0
  · go_enter Tryz.func111, Tryz.ntmps111
    go_wp2
    go_ret
    exact ⟨rfl, rfl⟩
  · by_cases hr1 : width < 1
    · go_enter Tryz.func111, Tryz.ntmps111
      go_wp2
      go_ret
      exact ⟨rfl, rfl⟩
    · by_cases hr2 : 7 < width
      · go_enter Tryz.func111, Tryz.ntmps111
        go_wp2
        go_ret
        exact ⟨rfl, rfl⟩
      · have hbig : ¬ n < 256 ^ width.toNat := fun hlt => h ⟨by omega, ⟨by omega, by omega⟩, hlt⟩
        obtain ⟨k, rfl⟩ : ∃ k : Nat, width = k := ⟨width.toNat, by omega⟩
        obtain ⟨m, rfl⟩ : ∃ m : Nat, n = m := ⟨n.toNat, by omega⟩
        have hm : 256 ^ k ≤ m := by
          have e : ((k : Int).toNat) = k := by omega
          rw [e] at hbig
          have e2 : (256 : Int) ^ k = ((256 ^ k : Nat) : Int) := by simp
          rw [e2] at hbig
          omega
        have hq0 := shift_pos hm
        have hq : ¬ ((m : Int) / 2 ^ (8 * k) = 0) := by omega
        have hsh0 : (8 * (k : Int)).toNat = 8 * k := by omega
        clear h hbig hm hq0
        go_enter Tryz.func111, Tryz.ntmps111
        go_wp2
        go_ret
        exact ⟨rfl, rfl⟩

theorem implNum_any (n width : Int) (w : World) (hn : n ≤ 9223372036854775807) :
    Calls Tryz.prog 111 #[.int .i64 n, .int .i64 width] w fun e w' => e = .returned (.string (numTextB n width)) ∧ Below w.heap.size w w' := by
  by_cases h : NumFits n width
  · have hE : numTextB n width = numB n.toNat width.toNat := by unfold numTextB; exact if_pos h
    obtain ⟨h0, ⟨h1, h7⟩, hf⟩ := h
    obtain ⟨m, rfl⟩ : ∃ m : Nat, n = m := ⟨n.toNat, by omega⟩
    obtain ⟨k, rfl⟩ : ∃ k : Nat, width = k := ⟨width.toNat, by omega⟩
    rw [hE]
    simp only [Int.toNat_natCast] at hf ⊢
    have e2 : (256 : Int) ^ k = ((256 ^ k : Nat) : Int) := by simp
    rw [e2] at hf
    exact implNum_yes m k w (by omega) (by omega) (by omega)
  · have hE : numTextB n width = ⟨#[]⟩ := by unfold numTextB; exact if_neg h
    rw [hE]
    exact (implNum_no n width w h hn).mono fun e w' ⟨he, hw⟩ => ⟨he, by rw [hw]; exact Below.refl _ _⟩
end Go.Proofs.YtgpjklnlchbbbaaGreatDoor
namespace Go.Proofs.YtgpjklnlchbbbaaGreatDoor
open Go.RowKit Go.Proofs.YtgpjklnlchbbbaaGreatDoor.Hexa Go.Proofs.YtgpjklnlchbbbaaGreatDoor.Byt Go.Proofs.YtgpjklnlchbbbaaGreatDoor.Aes Go.Proofs.YtgpjklnlchbbbaaGreatDoor.Parts

set_option maxRecDepth 100000 in
set_option maxHeartbeats 400000 in
theorem implStreamBlock_yes (key nonce : ByteArray) (i : Nat) (w : World) (hk : key.size = 16) (hn : nonce.size = 12) (hi : i < 256) (hT : MixTab w) :
    Calls Tryz.prog 109 #[.string key, .string nonce, .int .i64 i] w fun e w' => e = .returned (.string (blkAt key nonce i)) ∧ Below w.heap.size w w' := by
  have h1 := fun w => implNum_yes i 4 w (by omega) (by omega) (by omega)
  have hz4 := numB_four i
  have h2 := fun w hT => implBlock_yes key (nonce ++ numB i 4) w hk (blkIn_size nonce hn i) hT
  have HE : Hid (blkAt key nonce i = blockT key (nonce ++ numB i 4)) := Lib.hid rfl
  rw [HE.out]
  clear HE
  generalize numB i 4 = c at h1 hz4 h2 ⊢
  have hm : nonce.size + c.size ≤ 16 := by omega
  generalize blockT key (nonce ++ c) = d at h2 ⊢
  have k1 := Lib.hid h1
  have k2 := Lib.hid h2
  have HT := Lib.hid hT
  clear h1 h2 hT
  go_enter Tryz.func109, Tryz.ntmps109
  go_wp2_with (first
    | (go_at_call 111; refine (k1.out _).mono ?_; rintro e w1 ⟨rfl, hb1⟩)
    | (go_at_call 110; refine (k2.out _ (HT.out.below hb1)).mono ?_; rintro e w2 ⟨rfl, hb2⟩))
  go_ret
  exact ⟨rfl, hb1.trans (hb2.mono hb1.size)⟩

set_option maxRecDepth 100000 in
set_option maxHeartbeats 400000 in
theorem implStreamBlock_no (key nonce : ByteArray) (i : Int) (w : World) (hm : nonce.size ≤ 8000000) (h : ¬ BlkFits key nonce i) :
    Calls Tryz.prog 109 #[.string key, .string nonce, .int .i64 i] w fun e w' => e = .returned (.string ⟨#[]⟩) ∧ Below w.heap.size w w' := by
  by_cases hi : 0 ≤ i ∧ i < 256
  · obtain ⟨m, rfl⟩ : ∃ m : Nat, i = m := ⟨i.toNat, by omega⟩
    have hkn : ¬ (key.size = 16 ∧ nonce.size = 12) := fun e => h ⟨e, hi⟩
    have hz4 := numB_four m
    have h1 := fun w => implNum_yes m 4 w (by omega) (by omega) (by omega)
    have h2 := fun w => implBlock_no key (nonce ++ numB m 4) w (by rw [ByteArray.size_append, hz4]; omega)
    generalize numB m 4 = c at h1 hz4 h2 ⊢
    have hm2 : nonce.size + c.size ≤ 8000004 := by omega
    have k1 := Lib.hid h1
    have k2 := Lib.hid h2
    have hlt : m < 256 := by omega
    clear h1 h2 h hkn hi hz4 hm
    go_enter Tryz.func109, Tryz.ntmps109
    go_wp2_with (first
      | (go_at_call 111; refine (k1.out _).mono ?_; rintro e w1 ⟨rfl, hb1⟩)
      | (go_at_call 110; refine (k2.out _).mono ?_; rintro e w2 ⟨rfl, hb2⟩))
    go_ret
    exact ⟨rfl, hb1.trans (hb2.mono hb1.size)⟩
  · rcases (by omega : i < 0 ∨ (0 ≤ i ∧ 256 ≤ i)) with hneg | ⟨hge, hbig⟩
    · clear h hi
      go_enter Tryz.func109, Tryz.ntmps109
      go_wp2
      go_ret
      exact ⟨rfl, Below.refl _ _⟩
    · clear h hi
      go_enter Tryz.func109, Tryz.ntmps109
      go_wp2
      go_ret
      exact ⟨rfl, Below.refl _ _⟩
end Go.Proofs.YtgpjklnlchbbbaaGreatDoor
namespace Go.Proofs.YtgpjklnlchbbbaaGreatDoor
open Go.RowKit Go.Proofs.YtgpjklnlchbbbaaGreatDoor.Hexa Go.Proofs.YtgpjklnlchbbbaaGreatDoor.Byt Go.Proofs.YtgpjklnlchbbbaaGreatDoor.Aes Go.Proofs.YtgpjklnlchbbbaaGreatDoor.Parts

set_option maxRecDepth 100000 in
set_option maxHeartbeats 400000 in
theorem implNext_any (key nonce : ByteArray) (i g0 g1 g2 : Nat) (w : World) (hk : key.size = 16) (hn : nonce.size = 12) (hi : i < 256) (hT : MixTab w)
    (h0 : w.heap[g0]? = some (.cells #[.string key] 9 (0, 0))) (h1 : w.heap[g1]? = some (.cells #[.string nonce] 9 (0, 0))) (h2 : w.heap[g2]? = some (.cells #[.int .i64 i] 3 (0, 0))) :
    Calls Tryz.prog 108 #[.pointer (some ⟨g0, 0, none⟩), .pointer (some ⟨g1, 0, none⟩), .pointer (some ⟨g2, 0, none⟩)] w fun e w' =>
      e = .returned (.string (blkAt key nonce i)) ∧ w'.heap[g2]? = some (.cells #[.int .i64 ((i : Int) + 1)] 3 (0, 0)) ∧ w.grownBy w' (some g2) := by
  have k1 := Lib.hid fun w hT => implStreamBlock_yes key nonce i w hk hn hi hT
  have c0 := cell_of_one h0
  have c1 := cell_of_one h1
  have c2 := cell_of_one h2
  have HT := Lib.hid hT
  have H2 := Lib.hid h2
  generalize blkAt key nonce i = d at k1
  clear hk hn hT h0 h1 h2
  go_enter Tryz.func108, Tryz.ntmps108
  go_wp2_with fail
  refine (k1.out _ HT.out).mono ?_
  rintro e w1 ⟨rfl, hb1⟩
  have hh := (hb1.block g2 (lt_of_block H2.out)).trans H2.out
  have d2 := cell_of_one hh
  have f2 := free_of_one hh
  have HH := Lib.hid hh
  have HB := Lib.hid hb1
  clear hh hb1 c0 c1 c2
  go_wp2
  go_ret
  have hb := HB.out
  refine ⟨rfl, one_setCell HH.out, hb.os, hb.tape, hb.output, ?_, ?_⟩
  · show w.heap.size ≤ (w1.heap.modify _ _).size; rw [Array.size_modify]; exact hb.size
  · intro k hk hne
    rw [Below.heap_setCell _ _ _ _ (fun e => hne (by simp at e; rw [e]))]
    exact hb.block k hk
end Go.Proofs.YtgpjklnlchbbbaaGreatDoor
