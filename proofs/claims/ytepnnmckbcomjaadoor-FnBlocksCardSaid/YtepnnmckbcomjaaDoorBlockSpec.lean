/- The model's block: l06Block. -/
import Derived.Test.YtepnnmckbcomjaaDoorBlockText
import Derived.Test.YtepnnmckbcomjaaDoorAesBox
import Derived.Test.YtepnnmckbcomjaaDoorShiftSpec
import Derived.Test.YtepnnmckbcomjaaDoorMixSpec
import Derived.Test.YtepnnmckbcomjaaDoorXorSpec
namespace Go.Proofs.YtepnnmckbcomjaaDoor
open Go.RowKit Go.Proofs.YtepnnmckbcomjaaDoor.Hexa Go.Proofs.YtepnnmckbcomjaaDoor.Byt Go.Proofs.YtepnnmckbcomjaaDoor.Aes Go.Proofs.YtepnnmckbcomjaaDoor.Parts

set_option maxHeartbeats 1000000 in
theorem specBlocks_any (key s : ByteArray) (ad : Option Addr) (cap : Nat) (w : World) (hk : key.size = 16) (hs : s.size = 16) (hr : Reads w ad (scells (keysTo key 11))) :
    Calls Tryd.prog 26 #[.slice ad 11 cap, .string s, .agg boxCells] w fun e w' => e = .returned (.string (blockT key s)) ∧ Below w.heap.size w w' := by
  have HK := Lib.hid hk
  have HS := Lib.hid hs
  have hb := fun s w hs => specBoxed_any s w hs
  have hs8 : boxCells.size = 256 := by show (bcells boxTab).toArray.size = 256; rw [List.size_toArray, bcells_length, boxTab_length]
  generalize boxCells = bc at hb hs8 ⊢
  have kb : Hid (∀ (s : ByteArray) (w : World), s.size ≤ 8000000 → Calls Tryd.prog 36 #[.string s, .agg bc] w fun e w' => e = .returned (.string (boxT s)) ∧ Below w.heap.size w w') := Lib.hid hb
  have s8 := Lib.hid hs8
  clear hb hs8
  have ks : Hid (∀ (s : ByteArray) (w : World), s.size = 16 → Calls Tryd.prog 35 #[.string s] w fun e w' => e = .returned (.string (shiftT s)) ∧ Below w.heap.size w w') := Lib.hid fun s w hs => specShift_yes s w hs
  have km : Hid (∀ (s : ByteArray) (w : World), s.size = 16 → Calls Tryd.prog 19 #[.string s] w fun e w' => e = .returned (.string (mixT s)) ∧ Below w.heap.size w w') := Lib.hid fun s w hs => specMix_yes s w hs
  have kx := Lib.hid fun a b w ha => specXor_any a b w ha
  have HR := Lib.hid hr
  have hbA : Below w.heap.size w (w.alloc (.cells bc 43)) := (Below.refl _ _).alloc (Nat.le_refl _) _
  obtain ⟨g, rfl, c0⟩ := reads_key (reads_below hr hbA) 0 (by omega)
  have HX : Hid ((w.alloc (.cells bc 43)).heap[w.heap.size]? = some (.cells bc 43 (0, 0))) := Lib.hid (heap_alloc_new w _)
  have HSZ : Hid ((w.alloc (.cells bc 43)).heap.size = w.heap.size + 1) := Lib.hid (by simp)
  have HA := Lib.hid hbA
  clear hr hbA
  go_enter Tryd.func26, Tryd.ntmps26
  go_wp2_with fail
  generalize w.alloc (.cells bc 43) = W1 at HX HSZ HA ⊢
  refine (kx.out s (keyT key 0) _ (by omega)).mono ?_
  rintro e w1 ⟨rfl, hb1⟩
  rw [stT_zero key s hk hs]
  have HB1 := Lib.hid hb1
  clear hk hs hb1 c0
  go_wp2_with fail
  go_loopw [7, 8] (fun sv iv wr => ∃ n : Nat, n ≤ 10 ∧ iv = .int .i64 ((n : Int) + 1) ∧ sv = .string (stT key s n) ∧ Hid (Below W1.heap.size W1 wr))
    (fun _ iv _ => 11 - (intOf iv).toNat)
  case atStart => exact ⟨0, Nat.zero_le _, rfl, rfl, HB1⟩
  case round =>
    clear HB1
    obtain ⟨n, hn, rfl, rfl, HL⟩ := hrel
    by_cases hlt : n < 10
    · have hz := stT_size key s HK.out HS.out n (by omega)
      have hload := (HL.out.block w.heap.size (by have := HSZ.out; omega)).trans HX.out
      have hbz := boxT_size (stT key s n)
      go_wp2_with (first
        | (refine wpList_load_row rfl 43 (.tmp 5) rfl w.heap.size rfl 43 bc (0, 0) _ hload Tryd.underlying43 rfl (by rw [s8.out]; kernel_rfl) ?_))
      refine (kb.out _ _ (by omega)).mono ?_
      rintro e w2 ⟨rfl, hb2⟩
      have HN := Lib.hid (stT_next key s HK.out n hlt)
      have hL2 : Below W1.heap.size W1 w2 := HL.out.trans (hb2.mono HL.out.size)
      have hzb : (boxT (stT key s n)).size = 16 := by rw [hbz]; exact hz
      have HL2 := Lib.hid hL2
      clear hload hb2 hL2 hbz hz
      go_wp2_with fail
      refine (ks.out _ _ hzb).mono ?_
      rintro e w3 ⟨rfl, hb3⟩
      have HL3 := Lib.hid (HL2.out.trans (hb3.mono HL2.out.size))
      have hzs := shiftT_size (boxT (stT key s n))
      clear hb3 hzb
      by_cases hlast : n + 1 = 10
      · have HE : Hid (stepT (stT key s n) (stepsN (n + 1)) = shiftT (boxT (stT key s n))) := Lib.hid (by unfold stepsN; rw [if_pos hlast]; rfl)
        rw [HE.out] at HN
        have hg : ¬ ((n : Int) + 1 < 10) := by omega
        clear hlast
        have hd : decide ((n : Int) + 1 < 10) = false := decide_eq_false hg
        obtain ⟨g', hg', ck⟩ := reads_key (reads_below (reads_below HR.out HA.out) (by have := HL3.out; rw [HSZ.out] at this ⊢; exact this)) (n + 1) (by omega)
        cases hg'
        generalize keyT key (n + 1) = kt at ck HN
        have hzx : (shiftT (boxT (stT key s n))).size ≤ 8000000 := by omega
        go_wp2_with fail
        refine (kx.out _ _ _ hzx).mono ?_
        rintro e w4 ⟨rfl, hb4⟩
        rw [HN.out]
        have HL4 := Lib.hid (HL3.out.trans (hb4.mono HL3.out.size))
        clear hb4 ck
        go_wp2
        go_roundw
        case rel => exact ⟨n + 1, by omega, by go_num, rfl, HL4⟩
        case measure => (simp [intOf]; try omega)
      · have HE : Hid (stepT (stT key s n) (stepsN (n + 1)) = mixT (shiftT (boxT (stT key s n)))) := Lib.hid (by unfold stepsN; rw [if_neg hlast]; rfl)
        rw [HE.out] at HN
        have hg : (n : Int) + 1 < 10 := by omega
        clear hlast
        have hd : decide ((n : Int) + 1 < 10) = true := decide_eq_true hg
        go_wp2_with fail
        refine (km.out _ _ hzs).mono ?_
        rintro e w4 ⟨rfl, hb4⟩
        have HL4 := Lib.hid (HL3.out.trans (hb4.mono HL3.out.size))
        clear hb4
        obtain ⟨g', hg', ck⟩ := reads_key (reads_below (reads_below HR.out HA.out) (by have := HL4.out; rw [HSZ.out] at this ⊢; exact this)) (n + 1) (by omega)
        cases hg'
        generalize keyT key (n + 1) = kt at ck HN
        have hzx : (mixT (shiftT (boxT (stT key s n)))).size ≤ 8000000 := by rw [mixT_size]; omega
        go_wp2_with fail
        refine (kx.out _ _ _ hzx).mono ?_
        rintro e w5 ⟨rfl, hb5⟩
        rw [HN.out]
        have HL5 := Lib.hid (HL4.out.trans (hb5.mono HL4.out.size))
        clear hb5 ck
        go_wp2
        go_roundw
        case rel => exact ⟨n + 1, by omega, by go_num, rfl, HL5⟩
        case measure => (simp [intOf]; try omega)
    · obtain rfl : n = 10 := by omega
      go_wp2
      go_ret
      exact ⟨rfl, HA.out.trans (HL.out.mono HA.out.size)⟩
end Go.Proofs.YtepnnmckbcomjaaDoor
