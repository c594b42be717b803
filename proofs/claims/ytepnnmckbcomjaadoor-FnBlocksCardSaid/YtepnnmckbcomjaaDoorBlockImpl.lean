/- The program's BlockText. -/
import Derived.Test.YtepnnmckbcomjaaDoorBlockText
import Derived.Test.YtepnnmckbcomjaaDoorMixImpl
import Derived.Test.YtepnnmckbcomjaaDoorShiftImpl
import Derived.Test.YtepnnmckbcomjaaDoorKeysImpl
namespace Go.Proofs.YtepnnmckbcomjaaDoor
open Go.RowKit Go.Proofs.YtepnnmckbcomjaaDoor.Hexa Go.Proofs.YtepnnmckbcomjaaDoor.Byt Go.Proofs.YtepnnmckbcomjaaDoor.Aes Go.Proofs.YtepnnmckbcomjaaDoor.Parts

/-- The steps of round k, as values. -/
def stepsC (k : Nat) : Array Value :=
  if k = 10 then #[.func (.func 17) #[] #[], .func (.func 15) #[] #[]]
  else #[.func (.func 17) #[] #[], .func (.func 15) #[] #[], .func (.func 16) #[] #[]]
theorem stepsC_zero (k : Nat) : (stepsC k)[0]? = some (.func (.func 17) #[] #[]) := by unfold stepsC; split <;> rfl
theorem stepsC_one (k : Nat) : (stepsC k)[1]? = some (.func (.func 15) #[] #[]) := by unfold stepsC; split <;> rfl
theorem stepsC_two (k : Nat) (h : 2 < stepsN k) : (stepsC k)[2]? = some (.func (.func 16) #[] #[]) := by
  unfold stepsN at h
  unfold stepsC
  split
  · rw [if_pos (by assumption)] at h; omega
  · rfl
theorem implSteps_any (k : Nat) (w : World) :
    Calls Tryd.prog 23 #[.int .i64 k] w fun e w' => e = .returned (.slice (some ⟨w.heap.size, 0, none⟩) (stepsN k) (stepsN k)) ∧ w' = w.alloc (.cells (stepsC k) 40) := by
  by_cases h : k = 10
  · subst h
    go_enter Tryd.func23, Tryd.ntmps23
    go_wp2
    go_ret
    exact ⟨rfl, rfl⟩
  · have h1 : stepsN k = 3 := if_neg h
    have h2 : stepsC k = #[.func (.func 17) #[] #[], .func (.func 15) #[] #[], .func (.func 16) #[] #[]] := if_neg h
    rw [h1, h2]
    have h3 : ¬ ((k : Int) = 10) := by omega
    have h4 : ((k : Int) == 10) = false := beq_eq_false_iff_ne.2 h3
    clear h1 h2 h
    go_enter Tryd.func23, Tryd.ntmps23
    go_wp2
    go_ret
    exact ⟨rfl, rfl⟩

set_option maxHeartbeats 2000000 in
theorem implBlock_yes (key s : ByteArray) (w : World) (hk : key.size = 16) (hs : s.size = 16) (hT : MixTab w) :
    Calls Tryd.prog 9 #[.string key, .string s] w fun e w' => e = .returned (.string (blockT key s)) ∧ Below w.heap.size w w' := by
  have HT := Lib.hid hT
  have HK := Lib.hid hk
  have HS := Lib.hid hs
  have kk := Lib.hid fun w => implKeys_yes key w hk
  have kb : Hid (∀ (s : ByteArray) (w : World), s.size = 16 → Calls Tryd.prog 17 #[.string s] w fun e w' => e = .returned (.string (boxT s)) ∧ Below w.heap.size w w') := Lib.hid fun s w hs => implBoxText_any s w (by omega)
  have ks : Hid (∀ (s : ByteArray) (w : World), s.size = 16 → Calls Tryd.prog 15 #[.string s] w fun e w' => e = .returned (.string (shiftT s)) ∧ Below w.heap.size w w') := Lib.hid fun s w hs => implShift_yes s w hs
  have km : Hid (∀ (s : ByteArray) (w : World), s.size = 16 → MixTab w → Calls Tryd.prog 16 #[.string s] w fun e w' => e = .returned (.string (mixT s)) ∧ Below w.heap.size w w') := Lib.hid fun s w hs hT => implMix_yes s w hs hT
  have kx := Lib.hid fun a b w ha => implXor_any a b w ha
  have kr := Lib.hid fun k w => implSteps_any k w
  clear hT
  go_enter Tryd.func9, Tryd.ntmps9
  go_wp2_with fail
  refine (kk.out _).mono ?_
  rintro e w1 ⟨v1, rfl, hown1, hb1⟩
  rw [keysTo_length] at hown1
  obtain ⟨ad, cap, rfl, hc1, hn1, hr1⟩ := own_form hown1
  have HB1 := Lib.hid hb1
  have HR := Lib.hid hr1
  obtain ⟨g, rfl, c0⟩ := reads_key hr1 0 (by omega)
  clear hown1 hb1 hr1
  go_wp2_with fail
  refine (kx.out s (keyT key 0) _ (by omega)).mono ?_
  rintro e w2 ⟨rfl, hb2⟩
  rw [stT_zero key s hk hs]
  have HB2 := Lib.hid hb2
  clear hk hs hb2 c0
  go_wp2_with fail
  go_loopw [1, 6, 8] (fun sv iv _ wr => ∃ n : Nat, n ≤ 10 ∧ iv = .int .i64 ((n : Int) + 1) ∧ sv = .string (stT key s n) ∧ Hid (Below w1.heap.size w1 wr))
    (fun _ iv _ _ => 11 - (intOf iv).toNat)
  case atStart => exact ⟨0, Nat.zero_le _, rfl, rfl, HB2⟩
  case round =>
    clear HB2
    obtain ⟨n, hn, rfl, rfl, HL⟩ := hrel
    by_cases hlt : n < 10
    · have HN := Lib.hid (stT_next key s HK.out n hlt)
      have hz := stT_size key s HK.out HS.out n (by omega)
      have hz2 : ∀ j, (stepT (stT key s n) j).size = 16 := fun j => by
        match j with
        | 0 => exact hz
        | 1 => exact (boxT_size _).trans hz
        | 2 => exact shiftT_size _
        | _ + 3 => exact mixT_size _
      have HZ := Lib.hid hz2
      have HJ2 := Lib.hid (stepsC_two (n + 1))
      have hm : 2 ≤ stepsN (n + 1) ∧ stepsN (n + 1) ≤ 3 := by unfold stepsN; split <;> omega
      have krn := kr.out (n + 1)
      have HC0 := Lib.hid (stepsC_zero (n + 1))
      have HC1 := Lib.hid (stepsC_one (n + 1))
      generalize stepsN (n + 1) = m at HN HJ2 hm krn
      generalize stepsC (n + 1) = C at HJ2 krn HC0 HC1
      have KR : Hid (∀ w : World, Calls Tryd.prog 23 #[.int .i64 ((n : Int) + 1)] w fun e w' => e = .returned (.slice (some ⟨w.heap.size, 0, none⟩) m m) ∧ w' = w.alloc (.cells C 40)) := Lib.hid krn
      have hd : decide ((n : Int) + 1 ≤ 10) = true := decide_eq_true (by omega)
      clear krn hz hz2
      go_wp2_with fail
      refine (KR.out _).mono ?_
      rintro e w3 ⟨rfl, rfl⟩
      have HG0 : Hid ((wr.alloc (.cells C 40)).heap[wr.heap.size]? = some (.cells C 40 (0, 0))) := Lib.hid (heap_alloc_new wr _)
      have HL0 : Hid (Below w1.heap.size w1 (wr.alloc (.cells C 40))) := Lib.hid (HL.out.alloc HL.out.size _)
      generalize wr.alloc (.cells C 40) = w3 at HG0 HL0 ⊢
      generalize wr.heap.size = g3 at HG0 ⊢
      clear KR
      go_wp2_with fail
      go_loopw [1, 8, 31] (fun sv _ jv wq => ∃ j : Nat, j ≤ m ∧ jv = .int .i64 j ∧ sv = .string (stepT (stT key s n) j) ∧ Hid (wq.heap[g3]? = some (.cells C 40 (0, 0))) ∧ Hid (Below w1.heap.size w1 wq))
        (fun _ _ jv _ => m - (intOf jv).toNat)
      case atStart => exact ⟨0, Nat.zero_le _, rfl, rfl, HG0, HL0⟩
      case round =>
        clear HG0 HL0 HL
        obtain ⟨j, hj, rfl, rfl, HG, HL3⟩ := hrel
        by_cases hjt : j < m
        · have hzj := HZ.out j
          rcases (by omega : j = 0 ∨ j = 1 ∨ j = 2) with hj | hj | hj
          · have HE : Hid (stepT (stT key s n) (j + 1) = boxT (stepT (stT key s n) j)) := Lib.hid (by subst hj; rfl)
            have cj : wr.cell? ⟨g3, j, none⟩ = some (.func (.func 17) #[] #[]) := by subst hj; simp only [World.cell?, HG.out]; exact HC0.out
            generalize stepT (stT key s n) j = sj at HE hzj ⊢
            clear hj
            go_wp2_with fail
            refine (kb.out sj _ hzj).mono ?_
            rintro e w4 ⟨rfl, hb4⟩
            rw [← HE.out]
            have HG4 : Hid (w4.heap[g3]? = some (.cells C 40 (0, 0))) := Lib.hid (by rw [hb4.block g3 (Array.getElem?_eq_some_iff.1 HG.out).1]; exact HG.out)
            have HL4 := Lib.hid (HL3.out.trans (hb4.mono HL3.out.size))
            clear hb4 cj
            go_wp2
            go_roundw
            case rel => exact ⟨j + 1, by omega, by go_num, rfl, HG4, HL4⟩
            case measure => (simp [intOf]; try omega)
          · have HE : Hid (stepT (stT key s n) (j + 1) = shiftT (stepT (stT key s n) j)) := Lib.hid (by subst hj; rfl)
            have cj : wr.cell? ⟨g3, j, none⟩ = some (.func (.func 15) #[] #[]) := by subst hj; simp only [World.cell?, HG.out]; exact HC1.out
            generalize stepT (stT key s n) j = sj at HE hzj ⊢
            clear hj
            go_wp2_with fail
            refine (ks.out sj _ hzj).mono ?_
            rintro e w4 ⟨rfl, hb4⟩
            rw [← HE.out]
            have HG4 : Hid (w4.heap[g3]? = some (.cells C 40 (0, 0))) := Lib.hid (by rw [hb4.block g3 (Array.getElem?_eq_some_iff.1 HG.out).1]; exact HG.out)
            have HL4 := Lib.hid (HL3.out.trans (hb4.mono HL3.out.size))
            clear hb4 cj
            go_wp2
            go_roundw
            case rel => exact ⟨j + 1, by omega, by go_num, rfl, HG4, HL4⟩
            case measure => (simp [intOf]; try omega)
          · have HE : Hid (stepT (stT key s n) (j + 1) = mixT (stepT (stT key s n) j)) := Lib.hid (by subst hj; rfl)
            have cj : wr.cell? ⟨g3, j, none⟩ = some (.func (.func 16) #[] #[]) := by simp only [World.cell?, HG.out]; subst hj; exact (HJ2.out hjt)
            generalize stepT (stT key s n) j = sj at HE hzj ⊢
            clear hj
            go_wp2_with fail
            refine (km.out sj _ hzj (HT.out.below (HB1.out.trans (HL3.out.mono HB1.out.size)))).mono ?_
            rintro e w4 ⟨rfl, hb4⟩
            rw [← HE.out]
            have HG4 : Hid (w4.heap[g3]? = some (.cells C 40 (0, 0))) := Lib.hid (by rw [hb4.block g3 (Array.getElem?_eq_some_iff.1 HG.out).1]; exact HG.out)
            have HL4 := Lib.hid (HL3.out.trans (hb4.mono HL3.out.size))
            clear hb4 cj
            go_wp2
            go_roundw
            case rel => exact ⟨j + 1, by omega, by go_num, rfl, HG4, HL4⟩
            case measure => (simp [intOf]; try omega)
        · obtain rfl : j = m := by omega
          obtain ⟨g', hg', ck⟩ := reads_key (reads_below HR.out HL3.out) (n + 1) (by omega)
          cases hg'
          have hzx : (stepT (stT key s n) j).size ≤ 8000000 := by rw [HZ.out j]; omega
          generalize keyT key (n + 1) = kt at ck HN
          generalize stepT (stT key s n) j = sj at HN hzx ⊢
          go_wp2_with fail
          refine (kx.out _ _ _ hzx).mono ?_
          rintro e w5 ⟨rfl, hb5⟩
          rw [HN.out]
          have HL5 := Lib.hid (HL3.out.trans (hb5.mono HL3.out.size))
          clear hb5 ck
          go_wp2
          go_roundw
          case rel => exact ⟨n + 1, by omega, by go_num, rfl, HL5⟩
          case measure => (simp [intOf]; try omega)
    · obtain rfl : n = 10 := by omega
      go_wp2
      go_ret
      exact ⟨rfl, HB1.out.trans (HL.out.mono HB1.out.size)⟩

theorem implBlock_no (key s : ByteArray) (w : World) (h : ¬ (key.size = 16 ∧ s.size = 16)) :
    Calls Tryd.prog 9 #[.string key, .string s] w fun e w' => e = .returned (.string ⟨#[]⟩) ∧ Below w.heap.size w w' := by
  by_cases hk : key.size = 16
  · have hs : ¬ s.size = 16 := fun e => h ⟨hk, e⟩
    go_enter Tryd.func9, Tryd.ntmps9
    go_wp2
    go_ret
    exact ⟨rfl, Below.refl _ _⟩
  · go_enter Tryd.func9, Tryd.ntmps9
    go_wp2
    go_ret
    exact ⟨rfl, Below.refl _ _⟩
end Go.Proofs.YtepnnmckbcomjaaDoor
