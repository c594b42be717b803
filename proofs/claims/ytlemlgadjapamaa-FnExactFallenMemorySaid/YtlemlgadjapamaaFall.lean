/- FallenMemory: the model's and the program's. -/
import Derived.Test.YtlemlgadjapamaaFence
import Derived.Test.YtlemlgadjapamaaFallPtr
namespace Go.Proofs.Ytlemlgadjapamaa
open Go.RowKit Go.Proofs.Ytlemlgadjapamaa.Parts Go.Proofs.Ytlemlgadjapamaa.Hexa

noncomputable def fellB (K : ByteArray) (L : List C3) (p : Int) : Bool := memOkB K L && decide (0 ≤ p)
noncomputable def fallenK (K : ByteArray) (L : List C3) (p : Int) : ByteArray := if fellB K L p = true then fallK K L p else K
noncomputable def fallenL (K : ByteArray) (L : List C3) (p : Int) : List C3 := if fellB K L p = true then [] else L
theorem fellB_ok {K : ByteArray} {L : List C3} {p : Int} (h : MemOk K L) (h0 : 0 ≤ p) : fellB K L p = true := by unfold fellB; rw [memOkB_yes h, decide_eq_true h0]; rfl
theorem fellB_bad {K : ByteArray} {L : List C3} {p : Int} (h : ¬ MemOk K L) : fellB K L p = false := by unfold fellB; rw [memOkB_no h]; rfl
theorem fellB_neg {K : ByteArray} {L : List C3} {p : Int} (h0 : ¬ 0 ≤ p) : fellB K L p = false := by unfold fellB; rw [decide_eq_false h0]; simp
theorem fallenK_yes {K : ByteArray} {L : List C3} {p : Int} (h : fellB K L p = true) : fallenK K L p = fallK K L p := if_pos h
theorem fallenK_no {K : ByteArray} {L : List C3} {p : Int} (h : fellB K L p = false) : fallenK K L p = K := if_neg (by rw [h]; simp)
theorem fallenL_yes {K : ByteArray} {L : List C3} {p : Int} (h : fellB K L p = true) : fallenL K L p = [] := if_pos h
theorem fallenL_no {K : ByteArray} {L : List C3} {p : Int} (h : fellB K L p = false) : fallenL K L p = L := if_neg (by rw [h]; simp)
theorem keptTo_high (K : ByteArray) (L : List C3) (p : Int) (h0 : 0 ≤ p) (h1 : p ≤ 9223372036854775807) (hk : 63 ≤ L.length) : keptTo K (fallL p 0 L) 63 = fallK K L p := by
  have step : ∀ d, 63 + d ≤ L.length → keptTo K (fallL p 0 L) (63 + d) = keptTo K (fallL p 0 L) 63 := by
    intro d
    induction d with
    | zero => intro _; rfl
    | succ d ih =>
      intro hd
      have hf : ((fallL p 0 L).getD (63 + d) default).f = false := by
        rw [fallL_at p L 0 (63 + d) (by omega), Nat.zero_add]
        exact pickB_high h0 h1 (by omega)
      rw [show 63 + (d + 1) = (63 + d) + 1 by omega, keptTo_no (by rw [fallL_length]; omega) hf]
      exact ih (by omega)
  have := step (L.length - 63) (by omega)
  rw [show 63 + (L.length - 63) = (fallL p 0 L).length by rw [fallL_length]; omega, keptTo_all] at this
  exact this.symm
theorem fallenL_len (K : ByteArray) (L : List C3) (p : Int) : (fallenL K L p).length ≤ L.length + 1 := by
  unfold fallenL
  split
  · simp
  · omega

set_option maxRecDepth 100000 in
set_option maxHeartbeats 2000000 in
theorem implFall_any (K : ByteArray) (a : Option Addr) (n c : Nat) (L : List C3) (p : Int) (w : World) (hs : SrcC w a n L) (hn : n ≤ 1048600) (hK : K.size ≤ 1048600) (hF : FitT L 1048600) (hp2 : p ≤ 9223372036854775807) :
    Calls Try.prog 23 #[.agg #[.string K, .slice a n c], .int .i64 p] w (GivesM (fallenK K L p) (fallenL K L p) w) := by
  have HS := Lib.hid hs
  have HL := Lib.hid hs.len
  have HF := Lib.hid hF
  have hb0 : Below w.heap.size w ((w.alloc (.cells #[.string K, .slice a n c] 26)).alloc (.cells #[.string ⟨#[]⟩, .slice none 0 0] 26)) := ((Below.refl _ _).alloc (Nat.le_refl _) _).alloc (by simp) _
  have k0 : Two ((w.alloc (.cells #[.string K, .slice a n c] 26)).alloc (.cells #[.string ⟨#[]⟩, .slice none 0 0] 26)) w.heap.size (.string K) (.slice a n c) 26 := (Two.alloc w _ _ _).later (below_alloc _ _)
  have k1 : Two ((w.alloc (.cells #[.string K, .slice a n c] 26)).alloc (.cells #[.string ⟨#[]⟩, .slice none 0 0] 26)) (w.heap.size + 1) (.string ⟨#[]⟩) (.slice none 0 0) 26 := by
    have h := Two.alloc (w.alloc (.cells #[.string K, .slice a n c] 26)) (.string ⟨#[]⟩) (.slice none 0 0) 26
    simpa using h
  have k3 : ((w.alloc (.cells #[.string K, .slice a n c] 26)).alloc (.cells #[.string ⟨#[]⟩, .slice none 0 0] 26)).heap.size = w.heap.size + 2 := by simp
  have K0 := Lib.hid k0
  have K1 := Lib.hid k1
  have K3 := Lib.hid k3
  have B0 := Lib.hid hb0
  clear hs hF hb0 k0 k1 k3
  go_enter Try.func23, Try.ntmps23
  go_wp2_with fail
  obtain ⟨W2, hW⟩ : ∃ x, x = (w.alloc (.cells #[.string K, .slice a n c] 26)).alloc (.cells #[.string ⟨#[]⟩, .slice none 0 0] 26) := ⟨_, rfl⟩
  rw [← hW] at K0 K1 K3 B0 ⊢
  clear hW
  refine (memoryCopy_any K a n c L W2 (HS.out.later B0.out) hn hK HF.out).mono ?_
  rintro e w1 ⟨v, rfl, hown, hb1⟩
  rw [HL.out, K3.out] at hown
  obtain ⟨ad, cap, rfl, hnc, hcm, hpl⟩ := ownE_form hown
  have T3 := Lib.hid ((K0.out.later hb1).later (below_alloc w1 (.cells #[.string K, .slice ad n cap] 26)))
  have R3 := Lib.hid ((K1.out.later hb1).later (below_alloc w1 (.cells #[.string K, .slice ad n cap] 26)))
  have X3 : Hid (BoxM (w1.alloc (.cells #[.string K, .slice ad n cap] 26)) (w.heap.size + 2) w1.heap.size K ad n cap L) := Lib.hid ⟨Two.alloc w1 _ _ _, own_below hown (below_alloc w1 _), by have := hb1.size; rw [K3.out] at this; exact this, fun p hp => by
    obtain ⟨g, e, _, hg⟩ := hpl p hp
    rw [e]; exact Nat.ne_of_lt hg⟩
  have B3 : Hid (Below w.heap.size w (w1.alloc (.cells #[.string K, .slice ad n cap] 26))) := Lib.hid (B0.out.trans ((hb1.trans ((below_alloc w1 _).mono hb1.size)).mono B0.out.size))
  have c0 := T3.out.c0
  have c1 := T3.out.c1
  unfold maxLen at hcm
  clear hown hb1 hpl K0 K1
  go_wp2_with fail
  clear c0 c1
  obtain ⟨b, hb⟩ : ∃ b, w1.heap.size = b := ⟨_, rfl⟩
  obtain ⟨w3, h3⟩ : ∃ x, x = w1.alloc (.cells #[.string K, .slice ad n cap] 26) := ⟨_, rfl⟩
  rw [hb] at X3 ⊢
  rw [← h3] at X3 T3 R3 B3 ⊢
  clear hb h3
  refine (implOk_any K a n c L w3 (HS.out.later B3.out) hn hK).mono ?_
  rintro e w4 ⟨rfl, hb4⟩
  have R4 := Lib.hid (R3.out.later hb4)
  have X4 := Lib.hid (X3.out.later hb4)
  have B4 : Hid (Below w.heap.size w w4) := Lib.hid (B3.out.trans (hb4.mono B3.out.size))
  clear hb4
  by_cases hok : MemOk K L
  · rw [memOkB_yes hok]
    by_cases h0 : 0 ≤ p
    · have HOK := Lib.hid hok
      have HEK := Lib.hid (fallenK_yes (fellB_ok hok h0))
      have HE := Lib.hid (fallenL_yes (fellB_ok hok h0))
      clear hok
      go_wp2_with fail
      refine (fall_any (w.heap.size + 2) b K ad n cap L p w4 X4.out hn HOK.out.2.1 HOK.out.lies h0 hp2).mono ?_
      rintro e w5 ⟨rfl, hx5, hb5⟩
      have X5 := Lib.hid hx5
      have R5 : Hid (Two w5 (w.heap.size + 1) (.string ⟨#[]⟩) (.slice none 0 0) 26) := Lib.hid ((hb5.block _ (by omega)).trans R4.out)
      have B5 : Hid (Below w.heap.size w w5) := Lib.hid (B4.out.trans (hb5.mono (by omega)))
      clear hx5 hb5
      obtain ⟨FK, hFK⟩ : ∃ FK, fallK K L p = FK := ⟨_, rfl⟩
      rw [hFK] at X5 HEK
      clear hFK
      have c0 := X5.out.two.c0
      have c1 := X5.out.two.c1
      have r0 := R5.out.c0
      have r1 := R5.out.c1
      have f0 := R5.out.fr (o := 0)
      have f1 := R5.out.fr (o := 1)
      have q := two_set1 (two_set0 R5.out (x := .string FK)) (x := .slice none 0 0)
      have q0 := cell0_of_two q
      have q1 := cell1_of_two q
      have HG := Lib.hid (gives_box (w := w) (b2 := w.heap.size + 1) (u := .string FK) (v := .slice none 0 0) X5.out (by omega) B5.out (by omega) (fun p hp => by
        obtain ⟨ad9, cap9, hv9, _, _, hpl9⟩ := ownE_form X5.out.own
        cases hv9
        obtain ⟨g9, e9, h9, _⟩ := hpl9 p hp
        rw [e9]; show g9 ≠ w.heap.size + 1; omega))
      clear q
      go_wp2
      refine bodyPost_ret (v := .agg #[.string FK, .slice none 0 0]) ?_ rfl ⟨_, by rw [HEK.out], by rw [HE.out]; exact HG.out.1, HG.out.2⟩
      simp [results, Try.results23, go_sem, q0, q1]
    · have HEK := Lib.hid (fallenK_no (fellB_neg (K := K) (L := L) h0))
      have HE := Lib.hid (fallenL_no (fellB_neg (K := K) (L := L) h0))
      clear hok
      have c0 := X4.out.two.c0
      have c1 := X4.out.two.c1
      have r0 := R4.out.c0
      have r1 := R4.out.c1
      have f0 := R4.out.fr (o := 0)
      have f1 := R4.out.fr (o := 1)
      have q := two_set1 (two_set0 R4.out (x := .string K)) (x := .slice ad n cap)
      have q0 := cell0_of_two q
      have q1 := cell1_of_two q
      have HG := Lib.hid (gives_box (w := w) (b2 := w.heap.size + 1) (u := .string K) (v := .slice ad n cap) X4.out (by omega) B4.out (by omega) (fun p hp => by
        obtain ⟨ad9, cap9, hv9, _, _, hpl9⟩ := ownE_form X4.out.own
        cases hv9
        obtain ⟨g9, e9, h9, _⟩ := hpl9 p hp
        rw [e9]; show g9 ≠ w.heap.size + 1; omega))
      clear q
      go_wp2
      refine bodyPost_ret (v := .agg #[.string K, .slice ad n cap]) ?_ rfl ⟨_, by rw [HEK.out], by rw [HE.out]; exact HG.out.1, HG.out.2⟩
      simp [results, Try.results23, go_sem, q0, q1]
  · rw [memOkB_no hok]
    have HEK := Lib.hid (fallenK_no (fellB_bad (p := p) hok))
    have HE := Lib.hid (fallenL_no (fellB_bad (p := p) hok))
    clear hok
    have c0 := X4.out.two.c0
    have c1 := X4.out.two.c1
    have r0 := R4.out.c0
    have r1 := R4.out.c1
    have f0 := R4.out.fr (o := 0)
    have f1 := R4.out.fr (o := 1)
    have q := two_set1 (two_set0 R4.out (x := .string K)) (x := .slice ad n cap)
    have q0 := cell0_of_two q
    have q1 := cell1_of_two q
    have HG := Lib.hid (gives_box (w := w) (b2 := w.heap.size + 1) (u := .string K) (v := .slice ad n cap) X4.out (by omega) B4.out (by omega) (fun p hp => by
      obtain ⟨ad9, cap9, hv9, _, _, hpl9⟩ := ownE_form X4.out.own
      cases hv9
      obtain ⟨g9, e9, h9, _⟩ := hpl9 p hp
      rw [e9]; show g9 ≠ w.heap.size + 1; omega))
    clear q
    go_wp2
    refine bodyPost_ret (v := .agg #[.string K, .slice ad n cap]) ?_ rfl ⟨_, by rw [HEK.out], by rw [HE.out]; exact HG.out.1, HG.out.2⟩
    simp [results, Try.results23, go_sem, q0, q1]

set_option maxRecDepth 100000 in
set_option maxHeartbeats 2000000 in
theorem specFall_any (K : ByteArray) (a : Option Addr) (n c : Nat) (L : List C3) (p : Int) (w : World) (hs : SrcC w a n L) (hn : n ≤ 1048600) (hK : K.size ≤ 1048600) (hF : FitT L 1048600) (hp2 : p ≤ 9223372036854775807) :
    Calls Try.prog 27 #[.agg #[.string K, .slice a n c], .int .i64 p] w (GivesM (fallenK K L p) (fallenL K L p) w) := by
  have HS := Lib.hid hs
  have HL := Lib.hid hs.len
  have HF := Lib.hid hF
  have hb0 : Below w.heap.size w ((w.alloc (.cells #[.string K, .slice a n c] 26)).alloc (.cells #[.string ⟨#[]⟩, .slice none 0 0] 26)) := ((Below.refl _ _).alloc (Nat.le_refl _) _).alloc (by simp) _
  have k0 : Two ((w.alloc (.cells #[.string K, .slice a n c] 26)).alloc (.cells #[.string ⟨#[]⟩, .slice none 0 0] 26)) w.heap.size (.string K) (.slice a n c) 26 := (Two.alloc w _ _ _).later (below_alloc _ _)
  have k1 : Two ((w.alloc (.cells #[.string K, .slice a n c] 26)).alloc (.cells #[.string ⟨#[]⟩, .slice none 0 0] 26)) (w.heap.size + 1) (.string ⟨#[]⟩) (.slice none 0 0) 26 := by
    have h := Two.alloc (w.alloc (.cells #[.string K, .slice a n c] 26)) (.string ⟨#[]⟩) (.slice none 0 0) 26
    simpa using h
  have k3 : ((w.alloc (.cells #[.string K, .slice a n c] 26)).alloc (.cells #[.string ⟨#[]⟩, .slice none 0 0] 26)).heap.size = w.heap.size + 2 := by simp
  have K0 := Lib.hid k0
  have K1 := Lib.hid k1
  have K3 := Lib.hid k3
  have B0 := Lib.hid hb0
  clear hs hF hb0 k0 k1 k3
  go_enter Try.func27, Try.ntmps27
  go_wp2_with fail
  obtain ⟨W2, hW⟩ : ∃ x, x = (w.alloc (.cells #[.string K, .slice a n c] 26)).alloc (.cells #[.string ⟨#[]⟩, .slice none 0 0] 26) := ⟨_, rfl⟩
  rw [← hW] at K0 K1 K3 B0 ⊢
  clear hW
  refine (specOk_any K a n c L W2 (HS.out.later B0.out) hn hK).mono ?_
  rintro e w1 ⟨rfl, hb1⟩
  have T1 := Lib.hid (K0.out.later hb1)
  have R1 := Lib.hid (K1.out.later hb1)
  have B1 : Hid (Below w.heap.size w w1) := Lib.hid (B0.out.trans (hb1.mono B0.out.size))
  have S1 : Hid (w.heap.size + 2 ≤ w1.heap.size) := Lib.hid (by have := hb1.size; rw [K3.out] at this; exact this)
  clear hb1 K0 K1
  by_cases hok : MemOk K L
  · rw [memOkB_yes hok]
    by_cases h0 : 0 ≤ p
    · have HOK := Lib.hid hok
      have HLI := Lib.hid hok.lies
      have HEK := Lib.hid (fallenK_yes (fellB_ok hok h0))
      have HE := Lib.hid (fallenL_yes (fellB_ok hok h0))
      have hK16 := hok.2.1
      have h0' : ¬ (p < 0) := by omega
      clear hok
      have X3 : Hid (BoxM (w1.alloc (.cells #[.string K, .slice none 0 0] 26)) w1.heap.size w1.heap.size K none 0 0 []) := Lib.hid ⟨Two.alloc w1 _ _ _, nilC _ _, Nat.le_refl _, fun p hp => by cases hp⟩
      have B3 := Lib.hid (below_alloc w1 (.cells #[.string K, .slice none 0 0] 26))
      have z0 := T1.out.c0
      have z1 := T1.out.c1
      go_wp2
      clear z0 z1
      go_loopw [6] (fun iv wr => ∃ (k : Nat), k ≤ n ∧ k ≤ 63 ∧ iv = .int .i64 k ∧ Hid (BoxM wr w1.heap.size w1.heap.size (keptTo K (fallL p 0 L) k) none 0 0 []) ∧ Hid (Below w1.heap.size w1 wr)) (fun iv _ => n - (intOf iv).toNat)
      case atStart => exact ⟨0, Nat.zero_le _, by omega, rfl, Lib.hid (by rw [keptTo_zero]; exact X3.out), B3⟩
      case round =>
        clear X3 B3
        obtain ⟨k, hk, hk63, rfl, HX, HW⟩ := hrel
        have BW : Hid (Below w.heap.size w wr) := Lib.hid (B1.out.trans (HW.out.mono B1.out.size))
        have Tr : Hid (Two wr w.heap.size (.string K) (.slice a n c) 26) := Lib.hid (T1.out.later HW.out)
        have Rr : Hid (Two wr (w.heap.size + 1) (.string ⟨#[]⟩) (.slice none 0 0) 26) := Lib.hid (R1.out.later HW.out)
        have z1 := Tr.out.c1
        have x0 := HX.out.two.c0
        have x1 := HX.out.two.c1
        by_cases hlt : k < n ∧ k < 63
        · have hlt1 := hlt.1
          have hlt2 := hlt.2
          clear hlt
          have hkl : Hid (k < L.length) := Lib.hid (by rw [HL.out]; exact hlt1)
          have hkf : Hid (k < (fallL p 0 L).length) := Lib.hid (by rw [fallL_length]; exact hkl.out)
          obtain ⟨g, off, rfl, hg, d1, d2, d3⟩ := HS.out.cells3_at BW.out (Nat.le_refl _) k hlt1
          obtain ⟨x, hx⟩ : ∃ x, L.getD k default = x := ⟨_, rfl⟩
          rw [hx] at d1 d2 d3
          have hlx := HLI.out k hkl.out
          rw [hx] at hlx
          have HFX : Hid ((fallL p 0 L).getD k default = ⟨x.l, x.t, pickB p k⟩) := Lib.hid (by rw [fallL_at p L 0 k hkl.out, hx, Nat.zero_add])
          have HLX := Lib.hid hlx
          have hbit := pick_bit (p := p) k h0 hp2
          have hmin : min k 64 = k := by omega
          rw [hmin] at hbit
          clear hx hlx hmin
          cases hf : pickB p k with
          | true =>
            rw [hf] at hbit HFX
            obtain ⟨KT, hKT⟩ : ∃ KT, keptTo K (fallL p 0 L) k = KT := ⟨_, rfl⟩
            have hKs : KT.size = K.size := by rw [← hKT]; exact keptTo_size (fall_lies p HLI.out) k (by have := hkf.out; omega)
            have HKn : Hid (keptTo K (fallL p 0 L) (k + 1) = keepB KT x) := Lib.hid (by rw [keptTo_yes hkf.out (by rw [HFX.out]), hKT, HFX.out]; rfl)
            rw [hKT] at HX x0
            have HKS := Lib.hid hKs
            clear hf hKT hKs
            go_wp2
            go_still_tail 7, (by kernel_rfl)
            change wpList _ _ _ _ _ wr.drew
            go_wp2_with fail
            refine (specKeep_any KT x x.l.toNat wr.drew (by have := HLX.out.1; omega) (by rw [HKS.out]; have := HLX.out; omega) (by rw [HKS.out]; exact hK16) HLX.out.2.2).mono ?_
            rintro e w2 ⟨rfl, hb2⟩
            have X5 := Lib.hid (HX.out.drew0.later hb2)
            have y0 := X5.out.two.c0
            have y2 := X5.out.two.fr (o := 0)
            have X6 : Hid (BoxM (w2.setCell ⟨w1.heap.size, 0, none⟩ (.string (keepB KT x))) w1.heap.size w1.heap.size (keptTo K (fallL p 0 L) (k + 1)) none 0 0 []) := Lib.hid (by rw [HKn.out]; exact X5.out.set0 _)
            have W6 : Hid (Below w1.heap.size w1 (w2.setCell ⟨w1.heap.size, 0, none⟩ (.string (keepB KT x)))) := Lib.hid ((HW.out.drew.trans (hb2.mono HW.out.size)).setCell (Nat.le_refl _) _)
            clear hb2 x0 x1 z1 d1 d2 d3
            go_wp2
            go_roundw
            case rel => exact ⟨k + 1, by omega, by omega, by go_num, X6, W6⟩
            case measure => (simp [intOf]; try omega)
          | false =>
            rw [hf] at hbit HFX
            have X6 : Hid (BoxM wr w1.heap.size w1.heap.size (keptTo K (fallL p 0 L) (k + 1)) none 0 0 []) := Lib.hid (by rw [keptTo_no hkf.out (by rw [HFX.out])]; exact HX.out)
            clear hf
            go_wp2
            go_roundw
            case rel => exact ⟨k + 1, by omega, by omega, by go_num, X6, HW⟩
            case measure => (simp [intOf]; try omega)
        · have hfin : keptTo K (fallL p 0 L) k = fallK K L p := by
            have hkn : k = n ∨ k = 63 := by omega
            rcases hkn with e | e
            · subst e
              rw [show k = (fallL p 0 L).length by rw [fallL_length, HL.out], keptTo_all]; rfl
            · subst e
              exact keptTo_high K L p h0 hp2 (by rw [HL.out]; exact hk)
          obtain ⟨FK, hFK⟩ : ∃ FK, fallK K L p = FK := ⟨_, rfl⟩
          rw [hfin, hFK] at HX
          rw [hFK] at HEK
          have hbH := S1.out
          clear hfin hFK x0 x1
          by_cases hkn : k = n
          · subst hkn
            clear hlt
            have c0 := HX.out.two.c0
            have c1 := HX.out.two.c1
            have r0 := Rr.out.c0
            have r1 := Rr.out.c1
            have f0 := Rr.out.fr (o := 0)
            have f1 := Rr.out.fr (o := 1)
            have q := two_set1 (two_set0 Rr.out (x := .string FK)) (x := .slice none 0 0)
            have q0 := cell0_of_two q
            have q1 := cell1_of_two q
            have HG := Lib.hid (gives_box (w := w) (b2 := w.heap.size + 1) (u := .string FK) (v := .slice none 0 0) HX.out (by omega) BW.out (by omega) (fun p hp => by
              obtain ⟨ad9, cap9, hv9, _, _, hpl9⟩ := ownE_form HX.out.own
              cases hv9
              obtain ⟨g9, e9, h9, _⟩ := hpl9 p hp
              rw [e9]; show g9 ≠ w.heap.size + 1; omega))
            clear q
            go_wp2
            refine bodyPost_ret (v := .agg #[.string FK, .slice none 0 0]) ?_ rfl ⟨_, by rw [HEK.out], by rw [HE.out]; exact HG.out.1, HG.out.2⟩
            simp [results, Try.results27, go_sem, q0, q1]
          · obtain rfl : k = 63 := by omega
            have hlt3 : (63 : Int) < (n : Int) := by omega
            clear hlt
            have c0 := HX.out.two.c0
            have c1 := HX.out.two.c1
            have r0 := Rr.out.c0
            have r1 := Rr.out.c1
            have f0 := Rr.out.fr (o := 0)
            have f1 := Rr.out.fr (o := 1)
            have q := two_set1 (two_set0 Rr.out (x := .string FK)) (x := .slice none 0 0)
            have q0 := cell0_of_two q
            have q1 := cell1_of_two q
            have HG := Lib.hid (gives_box (w := w) (b2 := w.heap.size + 1) (u := .string FK) (v := .slice none 0 0) HX.out (by omega) BW.out (by omega) (fun p hp => by
              obtain ⟨ad9, cap9, hv9, _, _, hpl9⟩ := ownE_form HX.out.own
              cases hv9
              obtain ⟨g9, e9, h9, _⟩ := hpl9 p hp
              rw [e9]; show g9 ≠ w.heap.size + 1; omega))
            clear q
            go_wp2
            refine bodyPost_ret (v := .agg #[.string FK, .slice none 0 0]) ?_ rfl ⟨_, by rw [HEK.out], by rw [HE.out]; exact HG.out.1, HG.out.2⟩
            simp [results, Try.results27, go_sem, q0, q1]
    · have HEK := Lib.hid (fallenK_no (fellB_neg (K := K) (L := L) h0))
      have HE := Lib.hid (fallenL_no (fellB_neg (K := K) (L := L) h0))
      have h0' : p < 0 := by omega
      clear hok
      have z0 := T1.out.c0
      have z1 := T1.out.c1
      go_wp2_with fail
      clear z0 z1
      refine (specCopy_any K a n c L w1 (HS.out.later B1.out) hn).mono ?_
      rintro e w2 ⟨v, rfl, hown, hb2⟩
      obtain ⟨ad, cap, rfl, hnc, hcm, hpl⟩ := ownE_form hown
      have R2 := Lib.hid (R1.out.later hb2)
      have B2 : Hid (Below w.heap.size w w2) := Lib.hid (B1.out.trans (hb2.mono B1.out.size))
      have O2 := Lib.hid hown
      have r0 := R2.out.c0
      have r1 := R2.out.c1
      have f0 := R2.out.fr (o := 0)
      have f1 := R2.out.fr (o := 1)
      have q := two_set1 (two_set0 R2.out (x := .string K)) (x := .slice ad L.length cap)
      have q0 := cell0_of_two q
      have q1 := cell1_of_two q
      clear q hown hb2 hpl hcm hnc
      go_wp2
      refine bodyPost_ret (v := .agg #[.string K, .slice ad L.length cap]) ?_ rfl ⟨_, by rw [HEK.out], ?_, (B2.out.setCell (by simp) _).setCell (by simp) _⟩
      · simp [results, Try.results27, go_sem, q0, q1]
      · rw [HE.out]
        have hne : ∀ g, (Value.slice ad L.length cap).ownBlock = some g → w.heap.size + 2 ≤ g := fun g hg => Nat.le_trans S1.out (O2.out.lt g hg).1
        exact ownsRow_setCell_other (ownsRow_setCell_other (ownE_mono O2.out B1.out.size) (fun h => by have := hne _ h; simp at this) _) (fun h => by have := hne _ h; simp at this) _
  · rw [memOkB_no hok]
    have HEK := Lib.hid (fallenK_no (fellB_bad (p := p) hok))
    have HE := Lib.hid (fallenL_no (fellB_bad (p := p) hok))
    clear hok
    have z0 := T1.out.c0
    have z1 := T1.out.c1
    go_wp2_with fail
    clear z0 z1
    refine (specCopy_any K a n c L w1 (HS.out.later B1.out) hn).mono ?_
    rintro e w2 ⟨v, rfl, hown, hb2⟩
    obtain ⟨ad, cap, rfl, hnc, hcm, hpl⟩ := ownE_form hown
    have R2 := Lib.hid (R1.out.later hb2)
    have B2 : Hid (Below w.heap.size w w2) := Lib.hid (B1.out.trans (hb2.mono B1.out.size))
    have O2 := Lib.hid hown
    have r0 := R2.out.c0
    have r1 := R2.out.c1
    have f0 := R2.out.fr (o := 0)
    have f1 := R2.out.fr (o := 1)
    have q := two_set1 (two_set0 R2.out (x := .string K)) (x := .slice ad L.length cap)
    have q0 := cell0_of_two q
    have q1 := cell1_of_two q
    clear q hown hb2 hpl hcm hnc
    go_wp2
    refine bodyPost_ret (v := .agg #[.string K, .slice ad L.length cap]) ?_ rfl ⟨_, by rw [HEK.out], ?_, (B2.out.setCell (by simp) _).setCell (by simp) _⟩
    · simp [results, Try.results27, go_sem, q0, q1]
    · rw [HE.out]
      have hne : ∀ g, (Value.slice ad L.length cap).ownBlock = some g → w.heap.size + 2 ≤ g := fun g hg => Nat.le_trans S1.out (O2.out.lt g hg).1
      exact ownsRow_setCell_other (ownsRow_setCell_other (ownE_mono O2.out B1.out.size) (fun h => by have := hne _ h; simp at this) _) (fun h => by have := hne _ h; simp at this) _
end Go.Proofs.Ytlemlgadjapamaa
