/- Merged texts: KeysImpl, BlockImpl, NumImpl, NumImplB, CtrBlk, CtrNext, CtrImpl, CtrLaw, MixTab. -/
import Derived.Test.YtmkhflcnkpmhiaaDoorP7E
import Derived.WalkKit
import Derived.WalkSpells
import Derived.WalkLawsBesides
import Derived.Deep.RegionLaw
import Derived.Lib.Hide
import Derived.OneCell
import Derived.Lib.LaidTab
namespace Go.Proofs.YtmkhflcnkpmhiaaDoor
open Go.RowKit Go.Proofs.YtmkhflcnkpmhiaaDoor.Hexa Go.Proofs.YtmkhflcnkpmhiaaDoor.Byt Go.Proofs.YtmkhflcnkpmhiaaDoor.Aes Go.Proofs.YtmkhflcnkpmhiaaDoor.Parts

theorem implAfter_key (s : ByteArray) (hs : s.size = 16) (j : Nat) (hj : j < 10) (w : World) :
    Calls Tryd.prog 43 #[.string (keyT s j), .int .i64 ((j : Int) + 1)] w fun e w' => e = .returned (.string (keyT s (j + 1))) ∧ Below w.heap.size w w' := by
  have := implAfter_any (keyT s j) (j + 1) w (keyT_size s hs j (by omega)) (by omega) (by omega)
  rw [keyT_next s hs j hj] at this
  exact this

set_option maxHeartbeats 1000000 in
theorem implKeys_yes (s : ByteArray) (w : World) (hs : s.size = 16) :
    Calls Tryd.prog 35 #[.string s] w (GivesK (keysTo s 11) w) := by
  obtain ⟨i0, hi, hz0, hz1, hz2⟩ := info_parts infoKeys
  unfold GivesK
  rw [keysTo_length]
  have k1 := Lib.hid fun j hj w => implAfter_key s hs j hj w
  have HK := Lib.hid fun n => keysTo_next s n
  have HA := Lib.hid fun n i h => keysTo_at s n i h
  have H1 := Lib.hid (keysTo_one s hs)
  go_enter Tryd.func35, Tryd.ntmps35
  go_wp2_with fail
  go_loopw [3, 4] (fun v kv wr => ∃ j : Nat, j ≤ 10 ∧ kv = .int .i64 ((j : Int) + 1) ∧ Hid (wr.ownsRow w.heap.size 9 1 v (j + 1) (scells (keysTo s (j + 1)))) ∧ Below w.heap.size w wr)
    (fun _ kv _ => 11 - (intOf kv).toNat)
  case atStart => exact ⟨0, Nat.zero_le _, rfl, Lib.hid (by rw [H1.out]; exact World.ownsRow_lit w #[.string s] 1 (Nat.le_refl _) (by decide) rfl), (Below.refl _ _).alloc (Nat.le_refl _) _⟩
  case round =>
    obtain ⟨j, hj, rfl, HW, hbel⟩ := hrel
    obtain ⟨ad, cap, hv, hc1, hc2, hr⟩ := own_form HW.out
    subst hv
    obtain ⟨g, hg, hc⟩ := hr j (by simp [scells, keysTo_length])
    subst hg
    rw [HA.out (j + 1) j (by omega)] at hc
    clear hr
    by_cases hlt : j < 10
    · go_wp2_with (first
        | (go_at_call 43; refine (k1.out j hlt _).mono ?_; rintro e w1 ⟨rfl, hb1⟩; have hb2 : Below w.heap.size w w1 := hbel.trans (hb1.mono hbel.size); have HW1 := Lib.hid (own_below HW.out hb1))
        | (at_builtin; refine wpList_append_own _ rfl (.tmp 14) (.tmp 22) 44 rfl w.heap.size 9 i0 (.string ⟨#[]⟩) 1 16 Tryd.underlying44 hi hz0 hz1 hz2 rfl (by decide) _ _ _ rfl (HW1.out.alloc _) ⟨w1.heap.size, 0, none⟩ 1 1 [.string (keyT s (j + 1))] rfl rfl (World.news_of_block (heap_alloc_new _ _)) (by simp [Value.oneCell']) (by unfold maxLen; omega) (by omega) (by have := hb2.size; simp; omega) ?_; intro v2 w2 hown2 hgrow2 hn2))
      have hb3 : Below w.heap.size w w2 := (hb2.alloc hb2.size _).grown hgrow2 (by have := hb2.size; simp; omega) (own_block_ge HW1.out)
      rw [HK.out (j + 1)] at hown2
      have HO2 := Lib.hid hown2
      clear hown2 hgrow2 hn2
      go_roundw
      case rel => exact ⟨j + 1, by omega, by go_num, HO2, hb3⟩
      case measure => (simp [intOf]; try omega)
    · obtain rfl : j = 10 := by omega
      go_wp2
      go_ret
      exact ⟨_, rfl, HW.out, hbel⟩

set_option maxHeartbeats 400000 in
theorem implKeys_no (s : ByteArray) (w : World) (hs : ¬ s.size = 16) :
    Calls Tryd.prog 35 #[.string s] w (GivesK [] w) := by
  go_enter Tryd.func35, Tryd.ntmps35
  go_wp2
  go_ret
  exact ⟨_, rfl, World.ownsRow_nil _ _ _ 1, Below.refl _ _⟩
end Go.Proofs.YtmkhflcnkpmhiaaDoor
namespace Go.Proofs.YtmkhflcnkpmhiaaDoor
open Go.RowKit Go.Proofs.YtmkhflcnkpmhiaaDoor.Hexa Go.Proofs.YtmkhflcnkpmhiaaDoor.Byt Go.Proofs.YtmkhflcnkpmhiaaDoor.Aes Go.Proofs.YtmkhflcnkpmhiaaDoor.Parts

/-- The steps of round k, as values. -/
def stepsC (k : Nat) : Array Value :=
  if k = 10 then #[.func (.func 44) #[] #[], .func (.func 45) #[] #[]]
  else #[.func (.func 44) #[] #[], .func (.func 45) #[] #[], .func (.func 46) #[] #[]]
theorem stepsC_zero (k : Nat) : (stepsC k)[0]? = some (.func (.func 44) #[] #[]) := by unfold stepsC; split <;> rfl
theorem stepsC_one (k : Nat) : (stepsC k)[1]? = some (.func (.func 45) #[] #[]) := by unfold stepsC; split <;> rfl
theorem stepsC_two (k : Nat) (h : 2 < stepsN k) : (stepsC k)[2]? = some (.func (.func 46) #[] #[]) := by
  unfold stepsN at h
  unfold stepsC
  split
  · rw [if_pos (by assumption)] at h; omega
  · rfl
theorem implSteps_any (k : Nat) (w : World) :
    Calls Tryd.prog 36 #[.int .i64 k] w fun e w' => e = .returned (.slice (some ⟨w.heap.size, 0, none⟩) (stepsN k) (stepsN k)) ∧ w' = w.alloc (.cells (stepsC k) 57) := by
  by_cases h : k = 10
  · subst h
    go_enter Tryd.func36, Tryd.ntmps36
    go_wp2
    go_ret
    exact ⟨rfl, rfl⟩
  · have h1 : stepsN k = 3 := if_neg h
    have h2 : stepsC k = #[.func (.func 44) #[] #[], .func (.func 45) #[] #[], .func (.func 46) #[] #[]] := if_neg h
    rw [h1, h2]
    have h3 : ¬ ((k : Int) = 10) := by omega
    have h4 : ((k : Int) == 10) = false := beq_eq_false_iff_ne.2 h3
    clear h1 h2 h
    go_enter Tryd.func36, Tryd.ntmps36
    go_wp2
    go_ret
    exact ⟨rfl, rfl⟩

set_option maxHeartbeats 2000000 in
theorem implBlock_yes (key s : ByteArray) (w : World) (hk : key.size = 16) (hs : s.size = 16) (hT : MixTab w) :
    Calls Tryd.prog 23 #[.string key, .string s] w fun e w' => e = .returned (.string (blockT key s)) ∧ Below w.heap.size w w' := by
  have HT := Lib.hid hT
  have HK := Lib.hid hk
  have HS := Lib.hid hs
  have kk := Lib.hid fun w => implKeys_yes key w hk
  have kb : Hid (∀ (s : ByteArray) (w : World), s.size = 16 → Calls Tryd.prog 44 #[.string s] w fun e w' => e = .returned (.string (boxT s)) ∧ Below w.heap.size w w') := Lib.hid fun s w hs => implBoxText_any s w (by omega)
  have ks : Hid (∀ (s : ByteArray) (w : World), s.size = 16 → Calls Tryd.prog 45 #[.string s] w fun e w' => e = .returned (.string (shiftT s)) ∧ Below w.heap.size w w') := Lib.hid fun s w hs => implShift_yes s w hs
  have km : Hid (∀ (s : ByteArray) (w : World), s.size = 16 → MixTab w → Calls Tryd.prog 46 #[.string s] w fun e w' => e = .returned (.string (mixT s)) ∧ Below w.heap.size w w') := Lib.hid fun s w hs hT => implMix_yes s w hs hT
  have kx := Lib.hid fun a b w ha => implXor_any a b w ha
  have kr := Lib.hid fun k w => implSteps_any k w
  clear hT
  go_enter Tryd.func23, Tryd.ntmps23
  go_wp2_with fail
  refine (kk.out _).mono ?_
  rintro e w1 ⟨v1, rfl, hown1, hb1⟩
  rw [keysTo_length] at hown1
  obtain ⟨ad, cap, rfl, hc1, hn1, hr1⟩ := own_form hown1
  have HB1 := Lib.hid hb1
  have HR := Lib.hid hr1
  obtain ⟨g, rfl, c0⟩ := reads_key hr1 0 (by omega)
  clear hown1 hb1 hr1
  go_wp2_with fail
  refine (kx.out s (keyT key 0) _ (by omega)).mono ?_
  rintro e w2 ⟨rfl, hb2⟩
  rw [stT_zero key s hk hs]
  have HB2 := Lib.hid hb2
  clear hk hs hb2 c0
  go_wp2_with fail
  go_loopw [1, 6, 8] (fun sv iv _ wr => ∃ n : Nat, n ≤ 10 ∧ iv = .int .i64 ((n : Int) + 1) ∧ sv = .string (stT key s n) ∧ Hid (Below w1.heap.size w1 wr))
    (fun _ iv _ _ => 11 - (intOf iv).toNat)
  case atStart => exact ⟨0, Nat.zero_le _, rfl, rfl, HB2⟩
  case round =>
    clear HB2
    obtain ⟨n, hn, rfl, rfl, HL⟩ := hrel
    by_cases hlt : n < 10
    · have HN := Lib.hid (stT_next key s HK.out n hlt)
      have hz := stT_size key s HK.out HS.out n (by omega)
      have hz2 : ∀ j, (stepT (stT key s n) j).size = 16 := fun j => by
        match j with
        | 0 => exact hz
        | 1 => exact (boxT_size _).trans hz
        | 2 => exact shiftT_size _
        | _ + 3 => exact mixT_size _
      have HZ := Lib.hid hz2
      have HJ2 := Lib.hid (stepsC_two (n + 1))
      have hm : 2 ≤ stepsN (n + 1) ∧ stepsN (n + 1) ≤ 3 := by unfold stepsN; split <;> omega
      have krn := kr.out (n + 1)
      have HC0 := Lib.hid (stepsC_zero (n + 1))
      have HC1 := Lib.hid (stepsC_one (n + 1))
      generalize stepsN (n + 1) = m at HN HJ2 hm krn
      generalize stepsC (n + 1) = C at HJ2 krn HC0 HC1
      have KR : Hid (∀ w : World, Calls Tryd.prog 36 #[.int .i64 ((n : Int) + 1)] w fun e w' => e = .returned (.slice (some ⟨w.heap.size, 0, none⟩) m m) ∧ w' = w.alloc (.cells C 57)) := Lib.hid krn
      have hd : decide ((n : Int) + 1 ≤ 10) = true := decide_eq_true (by omega)
      clear krn hz hz2
      go_wp2_with fail
      refine (KR.out _).mono ?_
      rintro e w3 ⟨rfl, rfl⟩
      have HG0 : Hid ((wr.alloc (.cells C 57)).heap[wr.heap.size]? = some (.cells C 57 (0, 0))) := Lib.hid (heap_alloc_new wr _)
      have HL0 : Hid (Below w1.heap.size w1 (wr.alloc (.cells C 57))) := Lib.hid (HL.out.alloc HL.out.size _)
      generalize wr.alloc (.cells C 57) = w3 at HG0 HL0 ⊢
      generalize wr.heap.size = g3 at HG0 ⊢
      clear KR
      go_wp2_with fail
      go_loopw [1, 8, 31] (fun sv _ jv wq => ∃ j : Nat, j ≤ m ∧ jv = .int .i64 j ∧ sv = .string (stepT (stT key s n) j) ∧ Hid (wq.heap[g3]? = some (.cells C 57 (0, 0))) ∧ Hid (Below w1.heap.size w1 wq))
        (fun _ _ jv _ => m - (intOf jv).toNat)
      case atStart => exact ⟨0, Nat.zero_le _, rfl, rfl, HG0, HL0⟩
      case round =>
        clear HG0 HL0 HL
        obtain ⟨j, hj, rfl, rfl, HG, HL3⟩ := hrel
        by_cases hjt : j < m
        · have hzj := HZ.out j
          rcases (by omega : j = 0 ∨ j = 1 ∨ j = 2) with hj | hj | hj
          · have HE : Hid (stepT (stT key s n) (j + 1) = boxT (stepT (stT key s n) j)) := Lib.hid (by subst hj; rfl)
            have cj : wr.cell? ⟨g3, j, none⟩ = some (.func (.func 44) #[] #[]) := by subst hj; simp only [World.cell?, HG.out]; exact HC0.out
            generalize stepT (stT key s n) j = sj at HE hzj ⊢
            clear hj
            go_wp2_with fail
            refine (kb.out sj _ hzj).mono ?_
            rintro e w4 ⟨rfl, hb4⟩
            rw [← HE.out]
            have HG4 : Hid (w4.heap[g3]? = some (.cells C 57 (0, 0))) := Lib.hid (by rw [hb4.block g3 (Array.getElem?_eq_some_iff.1 HG.out).1]; exact HG.out)
            have HL4 := Lib.hid (HL3.out.trans (hb4.mono HL3.out.size))
            clear hb4 cj
            go_wp2
            go_roundw
            case rel => exact ⟨j + 1, by omega, by go_num, rfl, HG4, HL4⟩
            case measure => (simp [intOf]; try omega)
          · have HE : Hid (stepT (stT key s n) (j + 1) = shiftT (stepT (stT key s n) j)) := Lib.hid (by subst hj; rfl)
            have cj : wr.cell? ⟨g3, j, none⟩ = some (.func (.func 45) #[] #[]) := by subst hj; simp only [World.cell?, HG.out]; exact HC1.out
            generalize stepT (stT key s n) j = sj at HE hzj ⊢
            clear hj
            go_wp2_with fail
            refine (ks.out sj _ hzj).mono ?_
            rintro e w4 ⟨rfl, hb4⟩
            rw [← HE.out]
            have HG4 : Hid (w4.heap[g3]? = some (.cells C 57 (0, 0))) := Lib.hid (by rw [hb4.block g3 (Array.getElem?_eq_some_iff.1 HG.out).1]; exact HG.out)
            have HL4 := Lib.hid (HL3.out.trans (hb4.mono HL3.out.size))
            clear hb4 cj
            go_wp2
            go_roundw
            case rel => exact ⟨j + 1, by omega, by go_num, rfl, HG4, HL4⟩
            case measure => (simp [intOf]; try omega)
          · have HE : Hid (stepT (stT key s n) (j + 1) = mixT (stepT (stT key s n) j)) := Lib.hid (by subst hj; rfl)
            have cj : wr.cell? ⟨g3, j, none⟩ = some (.func (.func 46) #[] #[]) := by simp only [World.cell?, HG.out]; subst hj; exact (HJ2.out hjt)
            generalize stepT (stT key s n) j = sj at HE hzj ⊢
            clear hj
            go_wp2_with fail
            refine (km.out sj _ hzj (HT.out.below (HB1.out.trans (HL3.out.mono HB1.out.size)))).mono ?_
            rintro e w4 ⟨rfl, hb4⟩
            rw [← HE.out]
            have HG4 : Hid (w4.heap[g3]? = some (.cells C 57 (0, 0))) := Lib.hid (by rw [hb4.block g3 (Array.getElem?_eq_some_iff.1 HG.out).1]; exact HG.out)
            have HL4 := Lib.hid (HL3.out.trans (hb4.mono HL3.out.size))
            clear hb4 cj
            go_wp2
            go_roundw
            case rel => exact ⟨j + 1, by omega, by go_num, rfl, HG4, HL4⟩
            case measure => (simp [intOf]; try omega)
        · obtain rfl : j = m := by omega
          obtain ⟨g', hg', ck⟩ := reads_key (reads_below HR.out HL3.out) (n + 1) (by omega)
          cases hg'
          have hzx : (stepT (stT key s n) j).size ≤ 8000000 := by rw [HZ.out j]; omega
          generalize keyT key (n + 1) = kt at ck HN
          generalize stepT (stT key s n) j = sj at HN hzx ⊢
          go_wp2_with fail
          refine (kx.out _ _ _ hzx).mono ?_
          rintro e w5 ⟨rfl, hb5⟩
          rw [HN.out]
          have HL5 := Lib.hid (HL3.out.trans (hb5.mono HL3.out.size))
          clear hb5 ck
          go_wp2
          go_roundw
          case rel => exact ⟨n + 1, by omega, by go_num, rfl, HL5⟩
          case measure => (simp [intOf]; try omega)
    · obtain rfl : n = 10 := by omega
      go_wp2
      go_ret
      exact ⟨rfl, HB1.out.trans (HL.out.mono HB1.out.size)⟩

theorem implBlock_no (key s : ByteArray) (w : World) (h : ¬ (key.size = 16 ∧ s.size = 16)) :
    Calls Tryd.prog 23 #[.string key, .string s] w fun e w' => e = .returned (.string ⟨#[]⟩) ∧ Below w.heap.size w w' := by
  by_cases hk : key.size = 16
  · have hs : ¬ s.size = 16 := fun e => h ⟨hk, e⟩
    go_enter Tryd.func23, Tryd.ntmps23
    go_wp2
    go_ret
    exact ⟨rfl, Below.refl _ _⟩
  · go_enter Tryd.func23, Tryd.ntmps23
    go_wp2
    go_ret
    exact ⟨rfl, Below.refl _ _⟩
end Go.Proofs.YtmkhflcnkpmhiaaDoor
namespace Go.Proofs.YtmkhflcnkpmhiaaDoor
open Go.RowKit Go.Proofs.YtmkhflcnkpmhiaaDoor.Hexa Go.Proofs.YtmkhflcnkpmhiaaDoor.Byt Go.Proofs.YtmkhflcnkpmhiaaDoor.BitsM

set_option maxHeartbeats 1000000 in
theorem implNum_yes (m k : Nat) (w : World) (hk : 1 ≤ k) (hk' : k ≤ 7) (hm : m < 256 ^ k) :
    Calls Tryd.prog 22 #[.int .i64 m, .int .i64 k] w fun e w' => e = .returned (.string (numB m k)) ∧ Below w.heap.size w w' := by
  obtain ⟨i0, hi, hz0, hz1, hz2⟩ := info_parts infoByte
  have hmb : m < 72057594037927936 := Nat.lt_of_lt_of_le hm (Nat.le_trans (Nat.pow_le_pow_right (by omega) hk') (by decide))
  have hq := shift_zero hm
  have h0 : ¬ ((m : Int) < 0) := by omega
  have hsh0 : (8 * (k : Int)).toNat = 8 * k := by omega
  clear hm
  go_enter Tryd.func22, Tryd.ntmps22
  go_wp2_with (at_make; refine wpList_make_full _ rfl _ _ 22 rfl w.heap.size 5 i0 (.int .u8 0) 1 Tryd.underlying22 hi hz0 hz1 .i64 .i64 _ _ k rfl rfl rfl rfl (by rw [hz2]; omega) (by unfold maxLen; omega) (Nat.le_refl _) ?_; intro w0 hown0 hgrow0)
  have hg0 : Below w.heap.size w w0 := (Below.refl _ _).grown hgrow0 (Nat.le_refl _) (fun k h => by cases h)
  have HO0 := Lib.hid (part_start hown0)
  clear hown0 hgrow0 hq hsh0
  go_loopw [6, 28] (fun jv iv wr => ∃ j : Nat, j ≤ k ∧ iv = .int .i64 j ∧ Hid (Bytes wr w.heap.size 5 (.slice (some ⟨w.heap.size, 0, none⟩) k k) (partB (numL m k j) k)) ∧ Below w.heap.size w wr)
    (fun _ iv _ => k - (intOf iv).toNat)
  case atStart => exact ⟨0, Nat.zero_le _, rfl, HO0, hg0⟩
  case round =>
    clear HO0 hg0
    obtain ⟨j, hj, rfl, HW, hbel⟩ := hrel
    have hl := numL_length m k j
    by_cases hlt : j < k
    · have hsh : (8 * ((k : Int) - 1 - j)).toNat = 8 * (k - 1 - j) := by omega
      have hge : 0 ≤ (k : Int) - 1 - j := by omega
      have hby := num_byte m (k - 1 - j)
      have HNX := Lib.hid (numL_next m k j)
      obtain ⟨⟨v, c3⟩, z3, hB⟩ := part_at HW.out (by omega)
      have N3 := Lib.hid (part_next HW.out (UInt8.ofNat (m / 256 ^ (k - 1 - j))) (by omega))
      rw [hl] at c3 z3 N3
      rw [HNX.out] at N3
      generalize UInt8.ofNat (m / 256 ^ (k - 1 - j)) = z at hby N3
      have hb1 : Below w.heap.size w (wr.setCell ⟨w.heap.size, j, none⟩ (.int .u8 (z.toNat : Int))) := hbel.setCell (Nat.le_refl _) _
      clear HNX
      go_wp2
      go_roundw
      case rel => exact ⟨j + 1, by omega, by go_num, N3, hb1⟩
      case measure => (simp [intOf]; try omega)
    · obtain rfl : j = k := by omega
      have h9 := HW.out
      rw [partB_full _ _ hl] at h9
      have hconv := bytes_string (P := Tryd.prog) 22 9 Tryd.underlying22 Tryd.underlying5 Tryd.underlying9 h9
      clear h9
      go_wp2
      go_ret
      exact ⟨rfl, hbel⟩
end Go.Proofs.YtmkhflcnkpmhiaaDoor
namespace Go.Proofs.YtmkhflcnkpmhiaaDoor
open Go.RowKit Go.Proofs.YtmkhflcnkpmhiaaDoor.Hexa Go.Proofs.YtmkhflcnkpmhiaaDoor.Byt Go.Proofs.YtmkhflcnkpmhiaaDoor.BitsM

set_option maxHeartbeats 1000000 in
theorem implNum_no (n width : Int) (w : World) (h : ¬ NumFits n width) (hn : n ≤ 9223372036854775807) :
    Calls Tryd.prog 22 #[.int .i64 n, .int .i64 width] w fun e w' => e = .returned (.string ⟨#[]⟩) ∧ w' = w := by
  by_cases h0 : n < 0
  · go_enter Tryd.func22, Tryd.ntmps22
    go_wp2
    go_ret
    exact ⟨rfl, rfl⟩
  · by_cases hr1 : width < 1
    · go_enter Tryd.func22, Tryd.ntmps22
      go_wp2
      go_ret
      exact ⟨rfl, rfl⟩
    · by_cases hr2 : 7 < width
      · go_enter Tryd.func22, Tryd.ntmps22
        go_wp2
        go_ret
        exact ⟨rfl, rfl⟩
      · have hbig : ¬ n < 256 ^ width.toNat := fun hlt => h ⟨by omega, ⟨by omega, by omega⟩, hlt⟩
        obtain ⟨k, rfl⟩ : ∃ k : Nat, width = k := ⟨width.toNat, by omega⟩
        obtain ⟨m, rfl⟩ : ∃ m : Nat, n = m := ⟨n.toNat, by omega⟩
        have hm : 256 ^ k ≤ m := by
          have e : ((k : Int).toNat) = k := by omega
          rw [e] at hbig
          have e2 : (256 : Int) ^ k = ((256 ^ k : Nat) : Int) := by simp
          rw [e2] at hbig
          omega
        have hq0 := shift_pos hm
        have hq : ¬ ((m : Int) / 2 ^ (8 * k) = 0) := by omega
        have hsh0 : (8 * (k : Int)).toNat = 8 * k := by omega
        clear h hbig hm hq0
        go_enter Tryd.func22, Tryd.ntmps22
        go_wp2
        go_ret
        exact ⟨rfl, rfl⟩

theorem implNum_any (n width : Int) (w : World) (hn : n ≤ 9223372036854775807) :
    Calls Tryd.prog 22 #[.int .i64 n, .int .i64 width] w fun e w' => e = .returned (.string (numTextB n width)) ∧ Below w.heap.size w w' := by
  by_cases h : NumFits n width
  · have hE : numTextB n width = numB n.toNat width.toNat := by unfold numTextB; exact if_pos h
    obtain ⟨h0, ⟨h1, h7⟩, hf⟩ := h
    obtain ⟨m, rfl⟩ : ∃ m : Nat, n = m := ⟨n.toNat, by omega⟩
    obtain ⟨k, rfl⟩ : ∃ k : Nat, width = k := ⟨width.toNat, by omega⟩
    rw [hE]
    simp only [Int.toNat_natCast] at hf ⊢
    have e2 : (256 : Int) ^ k = ((256 ^ k : Nat) : Int) := by simp
    rw [e2] at hf
    exact implNum_yes m k w (by omega) (by omega) (by omega)
  · have hE : numTextB n width = ⟨#[]⟩ := by unfold numTextB; exact if_neg h
    rw [hE]
    exact (implNum_no n width w h hn).mono fun e w' ⟨he, hw⟩ => ⟨he, by rw [hw]; exact Below.refl _ _⟩
end Go.Proofs.YtmkhflcnkpmhiaaDoor
namespace Go.Proofs.YtmkhflcnkpmhiaaDoor
open Go.RowKit Go.Proofs.YtmkhflcnkpmhiaaDoor.Hexa Go.Proofs.YtmkhflcnkpmhiaaDoor.Byt Go.Proofs.YtmkhflcnkpmhiaaDoor.Aes Go.Proofs.YtmkhflcnkpmhiaaDoor.Parts

set_option maxHeartbeats 400000 in
theorem implStreamBlock_yes (key nonce : ByteArray) (i : Nat) (w : World) (hk : key.size = 16) (hn : nonce.size = 12) (hi : i < 256) (hT : MixTab w) :
    Calls Tryd.prog 12 #[.string key, .string nonce, .int .i64 i] w fun e w' => e = .returned (.string (blkAt key nonce i)) ∧ Below w.heap.size w w' := by
  have h1 := fun w => implNum_yes i 4 w (by omega) (by omega) (by omega)
  have hz4 := numB_four i
  have h2 := fun w hT => implBlock_yes key (nonce ++ numB i 4) w hk (blkIn_size nonce hn i) hT
  have HE : Hid (blkAt key nonce i = blockT key (nonce ++ numB i 4)) := Lib.hid rfl
  rw [HE.out]
  clear HE
  generalize numB i 4 = c at h1 hz4 h2 ⊢
  have hm : nonce.size + c.size ≤ 16 := by omega
  generalize blockT key (nonce ++ c) = d at h2 ⊢
  have k1 := Lib.hid h1
  have k2 := Lib.hid h2
  have HT := Lib.hid hT
  clear h1 h2 hT
  go_enter Tryd.func12, Tryd.ntmps12
  go_wp2_with (first
    | (go_at_call 22; refine (k1.out _).mono ?_; rintro e w1 ⟨rfl, hb1⟩)
    | (go_at_call 23; refine (k2.out _ (HT.out.below hb1)).mono ?_; rintro e w2 ⟨rfl, hb2⟩))
  go_ret
  exact ⟨rfl, hb1.trans (hb2.mono hb1.size)⟩

set_option maxRecDepth 100000 in
set_option maxHeartbeats 400000 in
theorem implStreamBlock_no (key nonce : ByteArray) (i : Int) (w : World) (hm : nonce.size ≤ 8000000) (h : ¬ BlkFits key nonce i) :
    Calls Tryd.prog 12 #[.string key, .string nonce, .int .i64 i] w fun e w' => e = .returned (.string ⟨#[]⟩) ∧ Below w.heap.size w w' := by
  by_cases hi : 0 ≤ i ∧ i < 256
  · obtain ⟨m, rfl⟩ : ∃ m : Nat, i = m := ⟨i.toNat, by omega⟩
    have hkn : ¬ (key.size = 16 ∧ nonce.size = 12) := fun e => h ⟨e, hi⟩
    have hz4 := numB_four m
    have h1 := fun w => implNum_yes m 4 w (by omega) (by omega) (by omega)
    have h2 := fun w => implBlock_no key (nonce ++ numB m 4) w (by rw [ByteArray.size_append, hz4]; omega)
    generalize numB m 4 = c at h1 hz4 h2 ⊢
    have hm2 : nonce.size + c.size ≤ 8000004 := by omega
    have k1 := Lib.hid h1
    have k2 := Lib.hid h2
    have hlt : m < 256 := by omega
    clear h1 h2 h hkn hi hz4 hm
    go_enter Tryd.func12, Tryd.ntmps12
    go_wp2_with (first
      | (go_at_call 22; refine (k1.out _).mono ?_; rintro e w1 ⟨rfl, hb1⟩)
      | (go_at_call 23; refine (k2.out _).mono ?_; rintro e w2 ⟨rfl, hb2⟩))
    go_ret
    exact ⟨rfl, hb1.trans (hb2.mono hb1.size)⟩
  · rcases (by omega : i < 0 ∨ (0 ≤ i ∧ 256 ≤ i)) with hneg | ⟨hge, hbig⟩
    · clear h hi
      go_enter Tryd.func12, Tryd.ntmps12
      go_wp2
      go_ret
      exact ⟨rfl, Below.refl _ _⟩
    · clear h hi
      go_enter Tryd.func12, Tryd.ntmps12
      go_wp2
      go_ret
      exact ⟨rfl, Below.refl _ _⟩
end Go.Proofs.YtmkhflcnkpmhiaaDoor
namespace Go.Proofs.YtmkhflcnkpmhiaaDoor
open Go.RowKit Go.Proofs.YtmkhflcnkpmhiaaDoor.Hexa Go.Proofs.YtmkhflcnkpmhiaaDoor.Byt Go.Proofs.YtmkhflcnkpmhiaaDoor.Aes Go.Proofs.YtmkhflcnkpmhiaaDoor.Parts

set_option maxHeartbeats 400000 in
theorem implNext_any (key nonce : ByteArray) (i g0 g1 g2 : Nat) (w : World) (hk : key.size = 16) (hn : nonce.size = 12) (hi : i < 256) (hT : MixTab w)
    (h0 : w.heap[g0]? = some (.cells #[.string key] 9 (0, 0))) (h1 : w.heap[g1]? = some (.cells #[.string nonce] 9 (0, 0))) (h2 : w.heap[g2]? = some (.cells #[.int .i64 i] 3 (0, 0))) :
    Calls Tryd.prog 34 #[.pointer (some ⟨g0, 0, none⟩), .pointer (some ⟨g1, 0, none⟩), .pointer (some ⟨g2, 0, none⟩)] w fun e w' =>
      e = .returned (.string (blkAt key nonce i)) ∧ w'.heap[g2]? = some (.cells #[.int .i64 ((i : Int) + 1)] 3 (0, 0)) ∧ w.grownBy w' (some g2) := by
  have k1 := Lib.hid fun w hT => implStreamBlock_yes key nonce i w hk hn hi hT
  have c0 := cell_of_one h0
  have c1 := cell_of_one h1
  have c2 := cell_of_one h2
  have HT := Lib.hid hT
  have H2 := Lib.hid h2
  generalize blkAt key nonce i = d at k1
  clear hk hn hT h0 h1 h2
  go_enter Tryd.func34, Tryd.ntmps34
  go_wp2_with fail
  refine (k1.out _ HT.out).mono ?_
  rintro e w1 ⟨rfl, hb1⟩
  have hh := (hb1.block g2 (lt_of_block H2.out)).trans H2.out
  have d2 := cell_of_one hh
  have f2 := free_of_one hh
  have HH := Lib.hid hh
  have HB := Lib.hid hb1
  clear hh hb1 c0 c1 c2
  go_wp2
  go_ret
  have hb := HB.out
  refine ⟨rfl, one_setCell HH.out, hb.os, hb.tape, hb.output, ?_, ?_⟩
  · show w.heap.size ≤ (w1.heap.modify _ _).size; rw [Array.size_modify]; exact hb.size
  · intro k hk hne
    rw [Below.heap_setCell _ _ _ _ (fun e => hne (by simp at e; rw [e]))]
    exact hb.block k hk
end Go.Proofs.YtmkhflcnkpmhiaaDoor
namespace Go.Proofs.YtmkhflcnkpmhiaaDoor
open Go.RowKit Go.Proofs.YtmkhflcnkpmhiaaDoor.Hexa Go.Proofs.YtmkhflcnkpmhiaaDoor.Byt Go.Proofs.YtmkhflcnkpmhiaaDoor.Aes Go.Proofs.YtmkhflcnkpmhiaaDoor.Parts

theorem implBlocksOf_any (key nonce : ByteArray) (w : World) :
    Calls Tryd.prog 21 #[.string key, .string nonce] w fun e w' =>
      e = .returned (.func (.func 34) #[] #[.pointer (some ⟨w.heap.size, 0, none⟩), .pointer (some ⟨w.heap.size + 1, 0, none⟩), .pointer (some ⟨w.heap.size + 1 + 1, 0, none⟩)]) ∧
      w' = ((w.alloc (.cells #[.string key] 9)).alloc (.cells #[.string nonce] 9)).alloc (.cells #[.int .i64 0] 3) := by
  go_enter Tryd.func21, Tryd.ntmps21
  go_wp2
  go_ret
  exact ⟨rfl, rfl⟩

/-- The three variables that the closure has: the key, the nonce, the counter. -/
def Ctr (w : World) (B : Nat) (key nonce : ByteArray) (i : Nat) : Prop :=
  w.heap[B]? = some (.cells #[.string key] 9 (0, 0)) ∧ w.heap[B + 1]? = some (.cells #[.string nonce] 9 (0, 0)) ∧ w.heap[B + 1 + 1]? = some (.cells #[.int .i64 i] 3 (0, 0))
theorem ctr_start (w : World) (key nonce : ByteArray) : Ctr (((w.alloc (.cells #[.string key] 9)).alloc (.cells #[.string nonce] 9)).alloc (.cells #[.int .i64 0] 3)) w.heap.size key nonce 0 := by
  refine ⟨?_, ?_, ?_⟩
  · rw [Below.heap_alloc _ _ _ (by simp; omega), Below.heap_alloc _ _ _ (by simp)]
    exact heap_alloc_new w _
  · rw [Below.heap_alloc _ _ _ (by simp)]
    have := heap_alloc_new (w.alloc (.cells #[.string key] 9)) (.cells #[.string nonce] 9)
    simpa using this
  · have := heap_alloc_new ((w.alloc (.cells #[.string key] 9)).alloc (.cells #[.string nonce] 9)) (.cells #[.int .i64 0] 3)
    simpa using this
theorem ctr_lt {w : World} {B : Nat} {key nonce : ByteArray} {i : Nat} (h : Ctr w B key nonce i) : B + 1 + 1 + 1 ≤ w.heap.size := lt_of_block h.2.2
theorem ctr_next {w w' : World} {B : Nat} {key nonce : ByteArray} {i : Nat} (h : Ctr w B key nonce i) (h2 : w'.heap[B + 1 + 1]? = some (.cells #[.int .i64 ((i : Int) + 1)] 3 (0, 0))) (hg : w.grownBy w' (some (B + 1 + 1))) : Ctr w' B key nonce (i + 1) := by
  have hl := ctr_lt h
  refine ⟨(hg.block B (by omega) (fun e => by simp at e; omega)).trans h.1, (hg.block (B + 1) (by omega) (fun e => by simp at e)).trans h.2.1, ?_⟩
  rw [h2]
  rfl
theorem ctr_below {w w' : World} {B B' : Nat} {key nonce : ByteArray} {i : Nat} (h : Ctr w B key nonce i) (hb : Below B' w w') (hB : B + 1 + 1 + 1 ≤ B') : Ctr w' B key nonce i :=
  ⟨(hb.block B (by omega)).trans h.1, (hb.block (B + 1) (by omega)).trans h.2.1, (hb.block (B + 1 + 1) (by omega)).trans h.2.2⟩
theorem bytes_ctr {w w' : World} {B e : Nat} {v : Value} {l : List UInt8} (h : Bytes w (B + 1 + 1 + 1) e v l) (hg : w.grownBy w' (some (B + 1 + 1))) : Bytes w' (B + 1 + 1 + 1) e v l := by
  rcases h with h | ⟨g, cap, cur, fz, rfl, hb, hh, r⟩
  · exact .inl h
  · exact .inr ⟨g, cap, cur, fz, rfl, hb, (hg.block g (lt_of_block hh) (fun e => by simp at e; omega)).trans hh, r⟩
theorem bytes_not {w : World} {B e : Nat} {v : Value} {l : List UInt8} (h : Bytes w B e v l) (hl : 0 < l.length) : v ≠ .slice none 0 0 := by
  rintro rfl
  rcases h with ⟨_, rfl⟩ | ⟨g, cap, cur, fz, h1, _⟩
  · simp at hl
  · cases h1

set_option maxHeartbeats 1000000 in
theorem implStreamOf_yes (key nonce : ByteArray) (n : Nat) (w : World) (hk : key.size = 16) (hn : nonce.size = 12) (hn0 : n ≤ 4096) (hT : MixTab w) :
    Calls Tryd.prog 10 #[.string key, .string nonce, .int .i64 n] w fun e w' => e = .returned (.string (streamT key nonce n)) ∧ Below w.heap.size w w' := by
  obtain ⟨i0, hi, hz0, hz1, hz2⟩ := info_parts infoByte
  have HK := Lib.hid hk
  have HN := Lib.hid hn
  have HT := Lib.hid hT
  have kb := Lib.hid fun w => implBlocksOf_any key nonce w
  clear hT
  go_enter Tryd.func10, Tryd.ntmps10
  go_wp2_with fail
  refine (kb.out _).mono ?_
  rintro e w3 ⟨rfl, rfl⟩
  have C3 := Lib.hid (ctr_start w key nonce)
  have B3 : Hid (Below w.heap.size w (((w.alloc (.cells #[.string key] 9)).alloc (.cells #[.string nonce] 9)).alloc (.cells #[.int .i64 0] 3))) := Lib.hid ((((Below.refl _ _).alloc (Nat.le_refl _) _).alloc (by simp) _).alloc (by simp; omega) _)
  have Z3 : Hid ((((w.alloc (.cells #[.string key] 9)).alloc (.cells #[.string nonce] 9)).alloc (.cells #[.int .i64 0] 3)).heap.size = w.heap.size + 1 + 1 + 1) := Lib.hid (by simp)
  generalize ((w.alloc (.cells #[.string key] 9)).alloc (.cells #[.string nonce] 9)).alloc (.cells #[.int .i64 0] 3) = w3 at C3 B3 Z3 ⊢
  clear kb
  go_wp2_with (at_make; refine wpList_make_own _ rfl _ _ 22 rfl (w.heap.size + 1 + 1 + 1) 5 i0 (.int .u8 0) 1 Tryd.underlying22 hi hz0 hz1 .i64 .i64 _ (n + 16) rfl rfl (by omega) (by rw [hz2]; omega) (by unfold maxLen; omega) (by rw [Z3.out]; exact Nat.le_refl _) ?_; intro w4 hown4 hgrow4)
  have hb4 : Bytes w4 (w.heap.size + 1 + 1 + 1) 5 (.slice (some ⟨w3.heap.size, 0, none⟩) 0 (n + 16)) [] := bytes_of_own (l := []) hown4
  have hg4 : Below (w.heap.size + 1 + 1 + 1) w3 w4 := (Below.refl _ _).grown hgrow4 (by rw [Z3.out]; exact Nat.le_refl _) (fun k e => by cases e)
  have HB4 := Lib.hid hb4
  have HC4 := Lib.hid (ctr_below C3.out hg4 (Nat.le_refl _))
  have HL4 := Lib.hid (B3.out.trans (hg4.mono (by omega)))
  obtain ⟨m, hm⟩ : ∃ m : Nat, (n + 16 - 1) / 16 = m := ⟨_, rfl⟩
  have hq : ((n : Int) + 16 - 1) / 16 = (m : Int) := by omega
  rw [hq]
  have HM : Hid (n ≤ 16 * m ∧ m ≤ 256) := Lib.hid (by omega)
  clear hq hm hb4 hg4 hown4 hgrow4 C3 B3
  go_loopw [8, 35] (fun v iv wr => ∃ k : Nat, k ≤ m ∧ iv = .int .i64 k ∧ Hid (Bytes wr (w.heap.size + 1 + 1 + 1) 5 v (strL key nonce k)) ∧ Hid (v ≠ .slice none 0 0) ∧ Hid (Ctr wr w.heap.size key nonce k) ∧ Hid (Below w.heap.size w wr))
    (fun _ iv _ => m - (intOf iv).toNat)
  case atStart => exact ⟨0, Nat.zero_le _, rfl, HB4, Lib.hid (by simp), HC4, HL4⟩
  case round =>
    clear HB4 HC4 HL4
    obtain ⟨k, hkm, rfl, HB, HV, HC, HL⟩ := hrel
    by_cases hlt : k < m
    · have kn := Lib.hid fun g0 g1 g2 w hT h0 h1 h2 => implNext_any key nonce k g0 g1 g2 w HK.out HN.out (by have := HM.out; omega) hT h0 h1 h2
      obtain ⟨a, c, rfl⟩ := bytes_len HB.out
      go_wp2_with fail
      refine (kn.out _ _ _ _ (HT.out.below HL.out) HC.out.1 HC.out.2.1 HC.out.2.2).mono ?_
      rintro e w5 ⟨rfl, h5, hg5⟩
      have hsz := blkAt_size key nonce HK.out HN.out k
      have hbl := bytes_ctr HB.out hg5
      have hc5 := Lib.hid (ctr_next HC.out h5 hg5)
      have hl5 := Lib.hid (HL.out.grown hg5 HL.out.size (fun k e => by simp at e; omega))
      have hnx : strL key nonce k ++ (blkAt key nonce k).data.toList = strL key nonce (k + 1) := rfl
      have hlen := strL_length key nonce HK.out HN.out k
      have hlen2 := strL_length key nonce HK.out HN.out (k + 1)
      have hB5 : w.heap.size + 1 + 1 + 1 ≤ w5.heap.size := ctr_lt hc5.out
      generalize blkAt key nonce k = d at hsz hnx ⊢
      have hm2 : m ≤ 256 := HM.out.2
      have HX := Lib.hid (append_text (P := Tryd.prog) Tryd.underlying22 hi hz0 hz1 hz2 Tryd.underlying9 w5 hbl hB5 22 d (by omega))
      rw [hnx] at HX
      have HL2 := Lib.hid hlen2
      clear hsz hbl hnx hlen hlen2 h5 hg5 kn
      go_wp2_with (at_builtin; refine wpList_append_out rfl (.tmp 37) (.tmp 39) 22 9 rfl _ _ rfl rfl HX.out ?_; intro v1 w6 hb6 hg6)
      go_roundw
      case rel => exact ⟨k + 1, by omega, by go_num, Lib.hid hb6, Lib.hid (bytes_not hb6 (by have := HL2.out; omega)), Lib.hid (ctr_below hc5.out hg6 (Nat.le_refl _)), Lib.hid (hl5.out.trans (hg6.mono (by omega)))⟩
      case measure => (simp [intOf]; try omega)
    · obtain rfl : k = m := by omega
      have hlen := strL_length key nonce HK.out HN.out k
      obtain ⟨g, c, rfl, hg, hlg, hlc, hcm⟩ := bytes_some HB.out HV.out
      have hnl : n ≤ (strL key nonce k).length := by have := HM.out; omega
      have HE : Hid (streamT key nonce n = ⟨((strL key nonce k).take n).toArray⟩) := Lib.hid (by unfold streamT; rw [streamL_of key nonce HK.out HN.out k n HM.out.1 HM.out.2])
      have hconv := bytes_string_cut (P := Tryd.prog) 22 9 Tryd.underlying22 Tryd.underlying5 Tryd.underlying9 HB.out 0 n c (by omega)
      rw [List.drop_zero] at hconv
      have hnc : n ≤ c := by omega
      generalize (strL key nonce k).length = ln at hlen hlc hnl ⊢
      go_wp2
      go_ret
      exact ⟨by rw [HE.out]; rfl, HL.out⟩

theorem implStreamOf_no (key nonce : ByteArray) (n : Int) (w : World) (h : ¬ StreamFits key nonce n) :
    Calls Tryd.prog 10 #[.string key, .string nonce, .int .i64 n] w fun e w' => e = .returned (.string ⟨#[]⟩) ∧ w' = w := by
  by_cases hk : key.size = 16
  · by_cases hn : nonce.size = 12
    · rcases (by unfold StreamFits at h; omega : n < 0 ∨ (0 ≤ n ∧ 4096 < n)) with hneg | ⟨hge, hbig⟩
      · clear h
        go_enter Tryd.func10, Tryd.ntmps10
        go_wp2
        go_ret
        exact ⟨rfl, rfl⟩
      · clear h
        go_enter Tryd.func10, Tryd.ntmps10
        go_wp2
        go_ret
        exact ⟨rfl, rfl⟩
    · clear h
      go_enter Tryd.func10, Tryd.ntmps10
      go_wp2
      go_ret
      exact ⟨rfl, rfl⟩
  · clear h
    go_enter Tryd.func10, Tryd.ntmps10
    go_wp2
    go_ret
    exact ⟨rfl, rfl⟩
theorem implStreamOf_any (key nonce : ByteArray) (n : Int) (w : World) (hT : MixTab w) :
    Calls Tryd.prog 10 #[.string key, .string nonce, .int .i64 n] w fun e w' => e = .returned (.string (streamB key nonce n)) ∧ Below w.heap.size w w' := by
  by_cases h : StreamFits key nonce n
  · rw [streamB_yes h]
    obtain ⟨hk, hn, h0, h1⟩ := h
    obtain ⟨m, rfl⟩ : ∃ m : Nat, n = m := ⟨n.toNat, by omega⟩
    exact implStreamOf_yes key nonce m w hk hn (by omega) hT
  · rw [streamB_no h]
    exact (implStreamOf_no key nonce n w h).mono fun e w' ⟨he, hw⟩ => ⟨he, by rw [hw]; exact Below.refl _ _⟩
theorem implStreamBlock_any (key nonce : ByteArray) (i : Int) (w : World) (hm : nonce.size ≤ 8000000) (hT : MixTab w) :
    Calls Tryd.prog 12 #[.string key, .string nonce, .int .i64 i] w fun e w' => e = .returned (.string (blkB key nonce i)) ∧ Below w.heap.size w w' := by
  by_cases h : BlkFits key nonce i
  · rw [blkB_yes h]
    obtain ⟨⟨hk, hn⟩, h0, h1⟩ := h
    obtain ⟨m, rfl⟩ : ∃ m : Nat, i = m := ⟨i.toNat, by omega⟩
    exact implStreamBlock_yes key nonce m w hk hn (by omega) hT
  · rw [blkB_no h]
    exact implStreamBlock_no key nonce i w hm h

set_option maxHeartbeats 400000 in
theorem implStreamed_any (key nonce text : ByteArray) (w : World) (ht : text.size ≤ 8000000) (hT : MixTab w) :
    Calls Tryd.prog 9 #[.string key, .string nonce, .string text] w fun e w' => e = .returned (.string (xorT text (streamB key nonce text.size))) ∧ Below w.heap.size w w' := by
  have k1 := Lib.hid fun w hT => implStreamOf_any key nonce text.size w hT
  have k2 := Lib.hid fun b w => implXor_any text b w ht
  have HT := Lib.hid hT
  generalize streamB key nonce text.size = b at k1 ⊢
  clear hT
  go_enter Tryd.func9, Tryd.ntmps9
  go_wp2_with (first
    | (go_at_call 10; refine (k1.out _ HT.out).mono ?_; rintro e w1 ⟨rfl, hb1⟩)
    | (go_at_call 20; refine (k2.out _ _).mono ?_; rintro e w2 ⟨rfl, hb2⟩))
  go_ret
  exact ⟨rfl, hb1.trans (hb2.mono hb1.size)⟩
end Go.Proofs.YtmkhflcnkpmhiaaDoor
namespace Go.Proofs.YtmkhflcnkpmhiaaDoor
open Go.RowKit Go.Proofs.YtmkhflcnkpmhiaaDoor.Hexa Go.Proofs.YtmkhflcnkpmhiaaDoor.Byt Go.Proofs.YtmkhflcnkpmhiaaDoor.Aes Go.Proofs.YtmkhflcnkpmhiaaDoor.Parts

set_option maxHeartbeats 400000 in
theorem streamOf_law (key nonce : ByteArray) (n : Int) (w : World) (hT : MixTab w) :
    Calls Tryd.prog 4 #[.string key, .string nonce, .int .i64 n] w fun e w' => e = .returned (.bool true) ∧ Below w.heap.size w w' := by
  by_cases h0 : key.size ≤ 1048576
  · skip
    by_cases h1 : nonce.size ≤ 1048576
    · skip
      have k1 := Lib.hid fun w => specStreamOf_any key nonce n w
      have k2 := Lib.hid fun w hT => implStreamOf_any key nonce n w hT
      have HT := Lib.hid hT
      generalize streamB key nonce n = t at k1 k2
      clear hT
      go_enter Tryd.func4, Tryd.ntmps4
      go_wp2_with (first
        | (go_at_call 13; refine (k1.out _).mono ?_; rintro e w1 ⟨rfl, hb1⟩)
        | (go_at_call 10; refine (k2.out _ (HT.out.below hb1)).mono ?_; rintro e w2 ⟨rfl, hb2⟩))
      go_ret
      exact ⟨rfl, hb1.trans (hb2.mono hb1.size)⟩
    · have hn : 1048576 < nonce.size := by omega
      clear h1
      go_enter Tryd.func4, Tryd.ntmps4
      go_wp2
      go_ret
      exact ⟨rfl, Below.refl _ _⟩
  · have hn : 1048576 < key.size := by omega
    clear h0
    go_enter Tryd.func4, Tryd.ntmps4
    go_wp2
    go_ret
    exact ⟨rfl, Below.refl _ _⟩

set_option maxHeartbeats 400000 in
theorem streamed_law (key nonce : ByteArray) (text : ByteArray) (w : World) (hT : MixTab w) :
    Calls Tryd.prog 5 #[.string key, .string nonce, .string text] w fun e w' => e = .returned (.bool true) ∧ Below w.heap.size w w' := by
  by_cases h0 : key.size ≤ 1048576
  · skip
    by_cases h1 : nonce.size ≤ 1048576
    · skip
      by_cases h2 : text.size ≤ 1048576
      · skip
        have k1 := Lib.hid fun w => specStreamed_any key nonce text w (by omega)
        have k2 := Lib.hid fun w hT => implStreamed_any key nonce text w (by omega) hT
        have HT := Lib.hid hT
        generalize xorT text (streamB key nonce text.size) = t at k1 k2
        clear hT
        go_enter Tryd.func5, Tryd.ntmps5
        go_wp2_with (first
          | (go_at_call 14; refine (k1.out _).mono ?_; rintro e w1 ⟨rfl, hb1⟩)
          | (go_at_call 9; refine (k2.out _ (HT.out.below hb1)).mono ?_; rintro e w2 ⟨rfl, hb2⟩))
        go_ret
        exact ⟨rfl, hb1.trans (hb2.mono hb1.size)⟩
      · have hn : 1048576 < text.size := by omega
        clear h2
        go_enter Tryd.func5, Tryd.ntmps5
        go_wp2
        go_ret
        exact ⟨rfl, Below.refl _ _⟩
    · have hn : 1048576 < nonce.size := by omega
      clear h1
      go_enter Tryd.func5, Tryd.ntmps5
      go_wp2
      go_ret
      exact ⟨rfl, Below.refl _ _⟩
  · have hn : 1048576 < key.size := by omega
    clear h0
    go_enter Tryd.func5, Tryd.ntmps5
    go_wp2
    go_ret
    exact ⟨rfl, Below.refl _ _⟩

set_option maxHeartbeats 400000 in
theorem streamBlock_law (key nonce : ByteArray) (n : Int) (w : World) (hT : MixTab w) :
    Calls Tryd.prog 6 #[.string key, .string nonce, .int .i64 n] w fun e w' => e = .returned (.bool true) ∧ Below w.heap.size w w' := by
  by_cases h0 : key.size ≤ 1048576
  · skip
    by_cases h1 : nonce.size ≤ 1048576
    · skip
      have k1 := Lib.hid fun w => specStreamBlock_any key nonce n w
      have k2 := Lib.hid fun w hT => implStreamBlock_any key nonce n w (by omega) hT
      have HT := Lib.hid hT
      generalize blkB key nonce n = t at k1 k2
      clear hT
      go_enter Tryd.func6, Tryd.ntmps6
      go_wp2_with (first
        | (go_at_call 15; refine (k1.out _).mono ?_; rintro e w1 ⟨rfl, hb1⟩)
        | (go_at_call 12; refine (k2.out _ (HT.out.below hb1)).mono ?_; rintro e w2 ⟨rfl, hb2⟩))
      go_ret
      exact ⟨rfl, hb1.trans (hb2.mono hb1.size)⟩
    · have hn : 1048576 < nonce.size := by omega
      clear h1
      go_enter Tryd.func6, Tryd.ntmps6
      go_wp2
      go_ret
      exact ⟨rfl, Below.refl _ _⟩
  · have hn : 1048576 < key.size := by omega
    clear h0
    go_enter Tryd.func6, Tryd.ntmps6
    go_wp2
    go_ret
    exact ⟨rfl, Below.refl _ _⟩
end Go.Proofs.YtmkhflcnkpmhiaaDoor
namespace Go.Proofs.YtmkhflcnkpmhiaaDoor
open Go.RowKit

theorem gMix : Tryd.prog.globalNamed "loop.example/g00969/impl.mixFactors" = some 0 := by kernel_rfl
theorem gMixType : (Tryd.prog.globals[0]?).map (·.type) = some 65 := by kernel_rfl
theorem datumMix : (Rows.laid_loop_example_g00969_impl_mixFactors : DataW Unit) = Lib.tabData .i64 [2, 3, 1, 1] := by kernel_rfl
theorem mixTab_of {w : World} (h : Lib.TabIs Tryd.prog w "loop.example/g00969/impl.mixFactors" .i64 [2, 3, 1, 1]) : MixTab w := by
  unfold Lib.TabIs World.var? at h
  rw [gMix] at h
  simp only [Option.bind_some] at h
  split at h
  · rename_i cs t fr hh
    obtain rfl := Option.some.inj h
    exact ⟨t, fr, hh⟩
  · cases h
theorem mix_of_head {W : World} {rest : List (String × DataW Unit)} (h : laidMet Tryd.prog (("loop.example/g00969/impl.mixFactors", Rows.laid_loop_example_g00969_impl_mixFactors) :: rest) W) : MixTab W := by
  rw [datumMix] at h
  exact mixTab_of (Lib.tabIs_of_head gMix gMixType Tryd.underlying65 Tryd.underlying3 (by kernel_rfl) (by kernel_rfl) h)
end Go.Proofs.YtmkhflcnkpmhiaaDoor
