/- Merged texts: Fence, InsMath, Ins. -/
import Derived.Test.YtpahihcnmpeenaaP10D
import Derived.Lib.AppendZerosOnto
import Derived.Lib.Overlaps
import Derived.StillTailTactics
namespace Go.Proofs.Ytpahihcnmpeenaa
open Go.RowKit Go.Proofs.Ytpahihcnmpeenaa.Parts Go.Proofs.Ytpahihcnmpeenaa.Hexa

noncomputable def fencedK (K : ByteArray) (L : List C3) : ByteArray := if memOkB K L = true then fenceK K L else K
noncomputable def fencedL (K : ByteArray) (L : List C3) : List C3 := if memOkB K L = true then fenceL L else L
theorem fencedK_ok {K : ByteArray} {L : List C3} (h : MemOk K L) : fencedK K L = fenceK K L := if_pos (memOkB_yes h)
theorem fencedK_bad {K : ByteArray} {L : List C3} (h : ¬ MemOk K L) : fencedK K L = K := if_neg (by rw [memOkB_no h]; simp)
theorem fencedL_ok {K : ByteArray} {L : List C3} (h : MemOk K L) : fencedL K L = fenceL L := if_pos (memOkB_yes h)
theorem fencedL_bad {K : ByteArray} {L : List C3} (h : ¬ MemOk K L) : fencedL K L = L := if_neg (by rw [memOkB_no h]; simp)
theorem fencedL_len (K : ByteArray) (L : List C3) : (fencedL K L).length ≤ L.length + 1 := by
  unfold fencedL
  split
  · exact Nat.le_succ_of_le (fenceL_length L)
  · omega
theorem BoxM.drew0 {w : World} {M b : Nat} {K : ByteArray} {a : Option Addr} {n c : Nat} {L : List C3} (h : BoxM w M b K a n c L) : BoxM w.drew M b K a n c L := ⟨h.two, h.own, h.low, h.ne⟩
theorem BoxM.set0 {w : World} {M b : Nat} {K : ByteArray} {a : Option Addr} {n c : Nat} {L : List C3} (h : BoxM w M b K a n c L) (K2 : ByteArray) : BoxM (w.setCell ⟨b, 0, none⟩ (.string K2)) M b K2 a n c L :=
  ⟨two_set0 h.two, ownsRow_setCell_other h.own (by
    cases a with
    | none => simp [Value.ownBlock]
    | some p => have := h.ne p rfl; simpa [Value.ownBlock] using this) _, h.low, h.ne⟩
theorem BoxM.set1 {w : World} {M b : Nat} {K : ByteArray} {u : Value} {a : Option Addr} {n c : Nat} {L : List C3} (hT : Two w b (.string K) u 26) (ho : w.ownsRow M 68 3 (.slice a n c) n (cellsE encC L)) (hl : M ≤ b) (hne : ∀ p, a = some p → p.block ≠ b) : BoxM (w.setCell ⟨b, 1, none⟩ (.slice a n c)) M b K a n c L :=
  ⟨two_set1 hT, ownsRow_setCell_other ho (by
    cases a with
    | none => simp [Value.ownBlock]
    | some p => have := hne p rfl; simpa [Value.ownBlock] using this) _, hl, hne⟩

set_option maxRecDepth 100000 in
set_option maxHeartbeats 2000000 in
theorem implFence_any (K : ByteArray) (a : Option Addr) (n c : Nat) (L : List C3) (w : World) (hs : SrcC w a n L) (hn : n ≤ 1048600) (hK : K.size ≤ 1048600) (hF : FitT L 1048600) :
    Calls Try.prog 20 #[.agg #[.string K, .slice a n c]] w (GivesM (fencedK K L) (fencedL K L) w) := by
  have HS := Lib.hid hs
  have HL := Lib.hid hs.len
  have HF := Lib.hid hF
  have hb0 : Below w.heap.size w ((w.alloc (.cells #[.string K, .slice a n c] 26)).alloc (.cells #[.string ⟨#[]⟩, .slice none 0 0] 26)) := ((Below.refl _ _).alloc (Nat.le_refl _) _).alloc (by simp) _
  have k0 : Two ((w.alloc (.cells #[.string K, .slice a n c] 26)).alloc (.cells #[.string ⟨#[]⟩, .slice none 0 0] 26)) w.heap.size (.string K) (.slice a n c) 26 := (Two.alloc w _ _ _).later (below_alloc _ _)
  have k1 : Two ((w.alloc (.cells #[.string K, .slice a n c] 26)).alloc (.cells #[.string ⟨#[]⟩, .slice none 0 0] 26)) (w.heap.size + 1) (.string ⟨#[]⟩) (.slice none 0 0) 26 := by
    have h := Two.alloc (w.alloc (.cells #[.string K, .slice a n c] 26)) (.string ⟨#[]⟩) (.slice none 0 0) 26
    simpa using h
  have k3 : ((w.alloc (.cells #[.string K, .slice a n c] 26)).alloc (.cells #[.string ⟨#[]⟩, .slice none 0 0] 26)).heap.size = w.heap.size + 2 := by simp
  have K0 := Lib.hid k0
  have K1 := Lib.hid k1
  have K3 := Lib.hid k3
  have B0 := Lib.hid hb0
  clear hs hF hb0 k0 k1 k3
  go_enter Try.func20, Try.ntmps20
  go_wp2_with fail
  obtain ⟨W2, hW⟩ : ∃ x, x = (w.alloc (.cells #[.string K, .slice a n c] 26)).alloc (.cells #[.string ⟨#[]⟩, .slice none 0 0] 26) := ⟨_, rfl⟩
  rw [← hW] at K0 K1 K3 B0 ⊢
  clear hW
  refine (memoryCopy_any K a n c L W2 (HS.out.later B0.out) hn hK HF.out).mono ?_
  rintro e w1 ⟨v, rfl, hown, hb1⟩
  rw [HL.out, K3.out] at hown
  obtain ⟨ad, cap, rfl, hnc, hcm, hpl⟩ := ownE_form hown
  have T3 := Lib.hid ((K0.out.later hb1).later (below_alloc w1 (.cells #[.string K, .slice ad n cap] 26)))
  have R3 := Lib.hid ((K1.out.later hb1).later (below_alloc w1 (.cells #[.string K, .slice ad n cap] 26)))
  have X3 : Hid (BoxM (w1.alloc (.cells #[.string K, .slice ad n cap] 26)) (w.heap.size + 2) w1.heap.size K ad n cap L) := Lib.hid ⟨Two.alloc w1 _ _ _, own_below hown (below_alloc w1 _), by have := hb1.size; rw [K3.out] at this; exact this, fun p hp => by
    obtain ⟨g, e, _, hg⟩ := hpl p hp
    rw [e]; exact Nat.ne_of_lt hg⟩
  have B3 : Hid (Below w.heap.size w (w1.alloc (.cells #[.string K, .slice ad n cap] 26))) := Lib.hid (B0.out.trans ((hb1.trans ((below_alloc w1 _).mono hb1.size)).mono B0.out.size))
  have c0 := T3.out.c0
  have c1 := T3.out.c1
  unfold maxLen at hcm
  clear hown hb1 hpl K0 K1
  go_wp2_with fail
  clear c0 c1
  obtain ⟨b, hb⟩ : ∃ b, w1.heap.size = b := ⟨_, rfl⟩
  obtain ⟨w3, h3⟩ : ∃ x, x = w1.alloc (.cells #[.string K, .slice ad n cap] 26) := ⟨_, rfl⟩
  rw [hb] at X3 ⊢
  rw [← h3] at X3 T3 R3 B3 ⊢
  clear hb h3
  refine (implOk_any K a n c L w3 (HS.out.later B3.out) hn hK).mono ?_
  rintro e w4 ⟨rfl, hb4⟩
  have R4 := Lib.hid (R3.out.later hb4)
  have X4 := Lib.hid (X3.out.later hb4)
  have B4 : Hid (Below w.heap.size w w4) := Lib.hid (B3.out.trans (hb4.mono B3.out.size))
  clear hb4
  by_cases hok : MemOk K L
  · rw [memOkB_yes hok]
    have HOK := Lib.hid hok
    have HEK := Lib.hid (fencedK_ok hok)
    have HE := Lib.hid (fencedL_ok hok)
    clear hok
    go_wp2_with fail
    refine (fence_any (w.heap.size + 2) b K ad n cap L w4 X4.out hn HOK.out.2.1 HOK.out.lies).mono ?_
    rintro e w5 ⟨rfl, a2, n2, c2, hx5, hb5⟩
    have X5 := Lib.hid hx5
    have R5 : Hid (Two w5 (w.heap.size + 1) (.string ⟨#[]⟩) (.slice none 0 0) 26) := Lib.hid ((hb5.block _ (by omega)).trans R4.out)
    have B5 : Hid (Below w.heap.size w w5) := Lib.hid (B4.out.trans (hb5.mono (by omega)))
    clear hx5 hb5
    obtain ⟨FK, hFK⟩ : ∃ FK, fenceK K L = FK := ⟨_, rfl⟩
    rw [hFK] at X5 HEK
    clear hFK
    have c0 := X5.out.two.c0
    have c1 := X5.out.two.c1
    have r0 := R5.out.c0
    have r1 := R5.out.c1
    have f0 := R5.out.fr (o := 0)
    have f1 := R5.out.fr (o := 1)
    have q := two_set1 (two_set0 R5.out (x := .string FK)) (x := .slice a2 n2 c2)
    have q0 := cell0_of_two q
    have q1 := cell1_of_two q
    have HG := Lib.hid (gives_box (w := w) (b2 := w.heap.size + 1) (u := .string FK) (v := .slice a2 n2 c2) X5.out (by omega) B5.out (by omega) (fun p hp => by
      obtain ⟨ad9, cap9, hv9, _, _, hpl9⟩ := ownE_form X5.out.own
      cases hv9
      obtain ⟨g9, e9, h9, _⟩ := hpl9 p hp
      rw [e9]; show g9 ≠ w.heap.size + 1; omega))
    clear q
    go_wp2
    refine bodyPost_ret (v := .agg #[.string FK, .slice a2 n2 c2]) ?_ rfl ⟨_, by rw [HEK.out], by rw [HE.out]; exact HG.out.1, HG.out.2⟩
    simp [results, Try.results20, go_sem, q0, q1]
  · rw [memOkB_no hok]
    have HEK := Lib.hid (fencedK_bad hok)
    have HE := Lib.hid (fencedL_bad hok)
    clear hok
    have c0 := X4.out.two.c0
    have c1 := X4.out.two.c1
    have r0 := R4.out.c0
    have r1 := R4.out.c1
    have f0 := R4.out.fr (o := 0)
    have f1 := R4.out.fr (o := 1)
    have q := two_set1 (two_set0 R4.out (x := .string K)) (x := .slice ad n cap)
    have q0 := cell0_of_two q
    have q1 := cell1_of_two q
    have HG := Lib.hid (gives_box (w := w) (b2 := w.heap.size + 1) (u := .string K) (v := .slice ad n cap) X4.out (by omega) B4.out (by omega) (fun p hp => by
      obtain ⟨ad9, cap9, hv9, _, _, hpl9⟩ := ownE_form X4.out.own
      cases hv9
      obtain ⟨g9, e9, h9, _⟩ := hpl9 p hp
      rw [e9]; show g9 ≠ w.heap.size + 1; omega))
    clear q
    go_wp2
    refine bodyPost_ret (v := .agg #[.string K, .slice ad n cap]) ?_ rfl ⟨_, by rw [HEK.out], by rw [HE.out]; exact HG.out.1, HG.out.2⟩
    simp [results, Try.results20, go_sem, q0, q1]

set_option maxRecDepth 100000 in
set_option maxHeartbeats 2000000 in
theorem specFence_any (K : ByteArray) (a : Option Addr) (n c : Nat) (L : List C3) (w : World) (hs : SrcC w a n L) (hn : n ≤ 1048600) (hK : K.size ≤ 1048600) (hF : FitT L 1048600) :
    Calls Try.prog 39 #[.agg #[.string K, .slice a n c]] w (GivesM (fencedK K L) (fencedL K L) w) := by
  have HS := Lib.hid hs
  have HL := Lib.hid hs.len
  have HF := Lib.hid hF
  have hb0 : Below w.heap.size w ((w.alloc (.cells #[.string K, .slice a n c] 26)).alloc (.cells #[.string ⟨#[]⟩, .slice none 0 0] 26)) := ((Below.refl _ _).alloc (Nat.le_refl _) _).alloc (by simp) _
  have k0 : Two ((w.alloc (.cells #[.string K, .slice a n c] 26)).alloc (.cells #[.string ⟨#[]⟩, .slice none 0 0] 26)) w.heap.size (.string K) (.slice a n c) 26 := (Two.alloc w _ _ _).later (below_alloc _ _)
  have k1 : Two ((w.alloc (.cells #[.string K, .slice a n c] 26)).alloc (.cells #[.string ⟨#[]⟩, .slice none 0 0] 26)) (w.heap.size + 1) (.string ⟨#[]⟩) (.slice none 0 0) 26 := by
    have h := Two.alloc (w.alloc (.cells #[.string K, .slice a n c] 26)) (.string ⟨#[]⟩) (.slice none 0 0) 26
    simpa using h
  have k3 : ((w.alloc (.cells #[.string K, .slice a n c] 26)).alloc (.cells #[.string ⟨#[]⟩, .slice none 0 0] 26)).heap.size = w.heap.size + 2 := by simp
  have K0 := Lib.hid k0
  have K1 := Lib.hid k1
  have K3 := Lib.hid k3
  have B0 := Lib.hid hb0
  clear hs hF hb0 k0 k1 k3
  go_enter Try.func39, Try.ntmps39
  go_wp2_with fail
  obtain ⟨W2, hW⟩ : ∃ x, x = (w.alloc (.cells #[.string K, .slice a n c] 26)).alloc (.cells #[.string ⟨#[]⟩, .slice none 0 0] 26) := ⟨_, rfl⟩
  rw [← hW] at K0 K1 K3 B0 ⊢
  clear hW
  refine (specOk_any K a n c L W2 (HS.out.later B0.out) hn hK).mono ?_
  rintro e w1 ⟨rfl, hb1⟩
  have T1 := Lib.hid (K0.out.later hb1)
  have R1 := Lib.hid (K1.out.later hb1)
  have B1 : Hid (Below w.heap.size w w1) := Lib.hid (B0.out.trans (hb1.mono B0.out.size))
  have S1 : Hid (w.heap.size + 2 ≤ w1.heap.size) := Lib.hid (by have := hb1.size; rw [K3.out] at this; exact this)
  clear hb1 K0 K1
  by_cases hok : MemOk K L
  · rw [memOkB_yes hok]
    have HOK := Lib.hid hok
    have HLI := Lib.hid hok.lies
    have HEK := Lib.hid (fencedK_ok hok)
    have HE := Lib.hid (fencedL_ok hok)
    have hK16 := hok.2.1
    clear hok
    have X3 : Hid (BoxM (w1.alloc (.cells #[.string K, .slice none 0 0] 26)) w1.heap.size w1.heap.size K none 0 0 []) := Lib.hid ⟨Two.alloc w1 _ _ _, nilC _ _, Nat.le_refl _, fun p hp => by cases hp⟩
    have B3 := Lib.hid (below_alloc w1 (.cells #[.string K, .slice none 0 0] 26))
    have z0 := T1.out.c0
    have z1 := T1.out.c1
    go_wp2
    clear z0 z1
    have hbH : Hid (w.heap.size + 2 ≤ w1.heap.size) := S1
    go_loopw [4] (fun iv wr => ∃ (k p : Nat) (a' : Option Addr) (c' : Nat), k ≤ n ∧ iv = .int .i64 k ∧ p ≤ k ∧ Hid (BoxM wr w1.heap.size w1.heap.size (keptTo K L k) a' p c' (openTo L k)) ∧ Hid (Below w1.heap.size w1 wr)) (fun iv _ => n - (intOf iv).toNat)
    case atStart => exact ⟨0, 0, none, 0, Nat.zero_le _, rfl, Nat.le_refl _, Lib.hid (by rw [keptTo_zero, openTo_zero]; exact X3.out), B3⟩
    case round =>
      clear X3 B3
      obtain ⟨k, p, a', c', hk, rfl, hpk, HX, HW⟩ := hrel
      have BW : Hid (Below w.heap.size w wr) := Lib.hid (B1.out.trans (HW.out.mono B1.out.size))
      have Tr : Hid (Two wr w.heap.size (.string K) (.slice a n c) 26) := Lib.hid (T1.out.later HW.out)
      have Rr : Hid (Two wr (w.heap.size + 1) (.string ⟨#[]⟩) (.slice none 0 0) 26) := Lib.hid (R1.out.later HW.out)
      have z1 := Tr.out.c1
      have x0 := HX.out.two.c0
      have x1 := HX.out.two.c1
      by_cases hlt : k < n
      · have hkl : Hid (k < L.length) := Lib.hid (by rw [HL.out]; exact hlt)
        obtain ⟨g, off, rfl, hg, d1, d2, d3⟩ := HS.out.cells3_at BW.out (Nat.le_refl _) k hlt
        obtain ⟨x, hx⟩ : ∃ x, L.getD k default = x := ⟨_, rfl⟩
        rw [hx] at d1 d2 d3
        have hlx := HLI.out k hkl.out
        rw [hx] at hlx
        have HX2 := Lib.hid hx
        have HLX := Lib.hid hlx
        clear hx hlx
        cases hf : x.f with
        | true =>
          have HF2 : Hid ((L.getD k default).f = true) := Lib.hid (by rw [HX2.out]; exact hf)
          rw [hf] at d3
          have HF3 := Lib.hid hf
          obtain ⟨KT, hKT⟩ : ∃ KT, keptTo K L k = KT := ⟨_, rfl⟩
          have hKs : KT.size = K.size := by rw [← hKT]; exact keptTo_size HLI.out k (by have := hkl.out; omega)
          have HKn : Hid (keptTo K L (k + 1) = keepB KT x) := Lib.hid (by rw [keptTo_yes hkl.out HF2.out, hKT, HX2.out])
          rw [hKT] at HX x0
          have HKS := Lib.hid hKs
          clear hf hKT hKs
          go_wp2
          go_still_tail 7, (by kernel_rfl)
          change wpList _ _ _ _ _ wr.drew
          have hcall := fun W => specKeep_any KT x x.l.toNat W (by have := HLX.out.1; omega) (by rw [HKS.out]; have := HLX.out; omega) (by rw [HKS.out]; exact hK16) HLX.out.2.2
          rw [HF3.out] at hcall
          have HC := Lib.hid hcall
          clear hcall
          go_wp2_with fail
          refine (HC.out wr.drew).mono ?_
          rintro e w2 ⟨rfl, hb2⟩
          have X5 := Lib.hid (HX.out.drew0.later hb2)
          have y0 := X5.out.two.c0
          have y2 := X5.out.two.fr (o := 0)
          have X6 : Hid (BoxM (w2.setCell ⟨w1.heap.size, 0, none⟩ (.string (keepB KT x))) w1.heap.size w1.heap.size (keptTo K L (k + 1)) a' p c' (openTo L (k + 1))) := Lib.hid (by rw [HKn.out, openTo_yes hkl.out HF2.out]; exact X5.out.set0 _)
          have W6 : Hid (Below w1.heap.size w1 (w2.setCell ⟨w1.heap.size, 0, none⟩ (.string (keepB KT x)))) := Lib.hid ((HW.out.drew.trans (hb2.mono HW.out.size)).setCell (Nat.le_refl _) _)
          clear hb2 x0 x1 z1 d1 d2 d3
          go_wp2
          go_roundw
          case rel => exact ⟨k + 1, p, a', c', by omega, by go_num, by omega, X6, W6⟩
          case measure => (simp [intOf]; try omega)
        | false =>
          have HF2 : Hid ((L.getD k default).f = false) := Lib.hid (by rw [HX2.out]; exact hf)
          rw [hf] at d3
          have HF3 := Lib.hid hf
          have hsrc : SrcC (wr.drew.alloc (.cells #[.int .i64 x.l, .string x.t, .bool false] 68)) (some ⟨wr.heap.size, 0, none⟩) 1 [x] := by
            have h := World.ownsRow_lit (base := 0) (e := 68) (size := 3) wr.drew #[.int .i64 x.l, .string x.t, .bool false] 1 (Nat.zero_le _) (by decide) rfl
            have e : (#[.int .i64 x.l, .string x.t, .bool false] : Array Value).toList = cellsE encC [x] := by rw [cellsE_one, encC_cells, hf]
            rw [e] at h
            exact srcC_of_own h
          have hbd : Below wr.heap.size wr (wr.drew.alloc (.cells #[.int .i64 x.l, .string x.t, .bool false] 68)) := (Below.refl _ _).drew.alloc (Nat.le_refl _) _
          have HA := Lib.hid (appC _ 24 w1.heap.size (.slice a' p c') p (openTo L k) (own_below HX.out.own hbd) (by have := HX.out.two.lt; have := hbd.size; omega) (some ⟨wr.heap.size, 0, none⟩) 1 1 [x] hsrc (by omega))
          have X5 := Lib.hid (HX.out.later hbd)
          have W5 : Hid (Below w1.heap.size w1 (wr.drew.alloc (.cells #[.int .i64 x.l, .string x.t, .bool false] 68))) := Lib.hid (HW.out.trans (hbd.mono HW.out.size))
          have SZ5 : Hid (w1.heap.size < wr.heap.size) := Lib.hid HX.out.two.lt
          clear hf hsrc hbd
          have x1' : (wr.alloc (.cells #[.int .i64 x.l, .string x.t, .bool false] 68)).cell? ⟨w1.heap.size, 1, none⟩ = some (.slice a' p c') := X5.out.two.c1
          have HT2 : Hid (∀ w2 : World, (wr.drew.alloc (.cells #[.int .i64 x.l, .string x.t, .bool false] 68)).grownBy w2 (Value.slice a' p c').ownBlock → Two w2 w1.heap.size (.string (keptTo K L k)) (.slice a' p c') 26) := Lib.hid (fun w2 hgrow2 => (hgrow2.block _ X5.out.two.lt (fun e => by
            cases a' with
            | none => simp [Value.ownBlock] at e
            | some q => exact X5.out.ne q rfl (by simpa [Value.ownBlock] using e.symm))).trans X5.out.two)
          go_wp2
          go_region_law (first
            | (refine step_appE rfl (.tmp 36) (.tmp 42) 24 24 rfl (.slice a' p c') (.slice (some ⟨wr.heap.size, 0, none⟩) 1 1) (by simp [Act.eval]) (by simp [Act.eval]) HA.out ?_
               intro v1 w2 hown2 hgrow2 hat2; obtain ⟨a2, c2, rfl, _, _, hpl2⟩ := ownE_form hown2; have T2 := Lib.hid (HT2.out w2 hgrow2); have y1 := T2.out.c1; have y2 := T2.out.fr (o := 1); have O2 := Lib.hid hown2; have G2 := Lib.hid hgrow2; have A2 := Lib.hid hat2; clear hown2 hgrow2 hat2 hpl2))
          all_goals
            have hne2 : ∀ q, a2 = some q → q.block ≠ w1.heap.size := fun q hq e => by
              rcases A2.out with h | h
              · rw [hq] at h
                have h' : (Value.slice a' p c').ownBlock = some q.block := h.symm
                cases a' with
                | none => simp [Value.ownBlock] at h'
                | some r => exact X5.out.ne r rfl (by rw [← e]; simpa [Value.ownBlock] using h')
              · rw [hq] at h
                have h' : q.block = (wr.drew.alloc (.cells #[.int .i64 x.l, .string x.t, .bool false] 68)).heap.size := by simpa [Value.ownBlock] using h
                have h3 : (wr.drew.alloc (.cells #[.int .i64 x.l, .string x.t, .bool false] 68)).heap.size = wr.heap.size + 1 := by simp
                have := SZ5.out
                omega
            have X6 : Hid (BoxM (w2.setCell ⟨w1.heap.size, 1, none⟩ (.slice a2 (p + 1) c2)) w1.heap.size w1.heap.size (keptTo K L (k + 1)) a2 (p + 1) c2 (openTo L (k + 1))) := Lib.hid (by
              rw [keptTo_no hkl.out HF2.out, openTo_no hkl.out HF2.out, HX2.out]
              exact BoxM.set1 T2.out O2.out (Nat.le_refl _) hne2)
            have W6 : Hid (Below w1.heap.size w1 (w2.setCell ⟨w1.heap.size, 1, none⟩ (.slice a2 (p + 1) c2))) := Lib.hid ((W5.out.grown G2.out (by have := W5.out.size; exact this) (fun q hq => (X5.out.own.lt q hq).1)).setCell (Nat.le_refl _) _)
            clear hne2 HA x0 x1 x1' z1 d1 d2 d3
            go_wp2
            go_roundw
            case rel => exact ⟨k + 1, p + 1, a2, c2, by omega, by go_num, by omega, X6, W6⟩
            case measure => (simp [intOf]; try omega)
      · obtain rfl : k = n := by omega
        have hfin : keptTo K L k = fenceK K L := by rw [← keptTo_all, HL.out]
        have hopen : openTo L k = fenceL L := by rw [← openTo_all, HL.out]
        obtain ⟨FK, hFK⟩ : ∃ FK, fenceK K L = FK := ⟨_, rfl⟩
        rw [hfin, hopen, hFK] at HX
        rw [hFK] at HEK
        clear hfin hopen hFK x0 x1
        have hbH := S1.out
        have c0 := HX.out.two.c0
        have c1 := HX.out.two.c1
        have r0 := Rr.out.c0
        have r1 := Rr.out.c1
        have f0 := Rr.out.fr (o := 0)
        have f1 := Rr.out.fr (o := 1)
        have q := two_set1 (two_set0 Rr.out (x := .string FK)) (x := .slice a' p c')
        have q0 := cell0_of_two q
        have q1 := cell1_of_two q
        have HG := Lib.hid (gives_box (w := w) (b2 := w.heap.size + 1) (u := .string FK) (v := .slice a' p c') HX.out (by omega) BW.out (by omega) (fun p hp => by
          obtain ⟨ad9, cap9, hv9, _, _, hpl9⟩ := ownE_form HX.out.own
          cases hv9
          obtain ⟨g9, e9, h9, _⟩ := hpl9 p hp
          rw [e9]; show g9 ≠ w.heap.size + 1; omega))
        clear q
        go_wp2
        refine bodyPost_ret (v := .agg #[.string FK, .slice a' p c']) ?_ rfl ⟨_, by rw [HEK.out], by rw [HE.out]; exact HG.out.1, HG.out.2⟩
        simp [results, Try.results39, go_sem, q0, q1]
  · rw [memOkB_no hok]
    have HEK := Lib.hid (fencedK_bad hok)
    have HE := Lib.hid (fencedL_bad hok)
    clear hok
    have z0 := T1.out.c0
    have z1 := T1.out.c1
    go_wp2_with fail
    clear z0 z1
    refine (specCopy_any K a n c L w1 (HS.out.later B1.out) hn).mono ?_
    rintro e w2 ⟨v, rfl, hown, hb2⟩
    obtain ⟨ad, cap, rfl, hnc, hcm, hpl⟩ := ownE_form hown
    have R2 := Lib.hid (R1.out.later hb2)
    have B2 : Hid (Below w.heap.size w w2) := Lib.hid (B1.out.trans (hb2.mono B1.out.size))
    have O2 := Lib.hid hown
    have r0 := R2.out.c0
    have r1 := R2.out.c1
    have f0 := R2.out.fr (o := 0)
    have f1 := R2.out.fr (o := 1)
    have q := two_set1 (two_set0 R2.out (x := .string K)) (x := .slice ad L.length cap)
    have q0 := cell0_of_two q
    have q1 := cell1_of_two q
    clear q hown hb2 hpl hcm hnc
    go_wp2
    refine bodyPost_ret (v := .agg #[.string K, .slice ad L.length cap]) ?_ rfl ⟨_, by rw [HEK.out], ?_, (B2.out.setCell (by simp) _).setCell (by simp) _⟩
    · simp [results, Try.results39, go_sem, q0, q1]
    · rw [HE.out]
      have hne : ∀ g, (Value.slice ad L.length cap).ownBlock = some g → w.heap.size + 2 ≤ g := fun g hg => Nat.le_trans S1.out (O2.out.lt g hg).1
      exact ownsRow_setCell_other (ownsRow_setCell_other (ownE_mono O2.out B1.out.size) (fun h => by have := hne _ h; simp at this) _) (fun h => by have := hne _ h; simp at this) _
end Go.Proofs.Ytpahihcnmpeenaa
namespace Go.Proofs.Ytpahihcnmpeenaa
open Go.RowKit Go.Proofs.Ytpahihcnmpeenaa.Parts Go.Proofs.Ytpahihcnmpeenaa.Hexa

theorem run_copy_rowK {P : Program} (w : World) (dT sT ty elem : TypeId) (i : TypeInfo) (k : Nat) (g o dLen dCap : Nat) (a : Addr) (sLen sCap : Nat) (cur : Array Value) (t : TypeId) (cs : List Value) (m : Nat)
    (hu : P.underlying dT = some (.slice elem)) (hi : P.info? elem = some i) (hk : i.size = k)
    (hg : w.heap[g]? = some (.cells cur t (0, 0))) (hm : m = Nat.min sLen dLen) (hn : cs.length = m * k)
    (hsrc : ∀ j v, cs[j]? = some v → w.cell? (a.add j) = some v) (hfit : o + cs.length ≤ cur.size) (h1 : ∀ v ∈ cs, v.oneCell' = true) :
    (Builtin.copy_ #[dT, sT] ty #[.slice (some ⟨g, o, none⟩) dLen dCap, .slice (some a) sLen sCap]).run P w =
      .ok (goInt m) (w.setRow g (cur.toList.take o ++ cs ++ cur.toList.drop (o + cs.length)).toArray) := by
  have hf := run_firstCells_some (P := P) w k m a sLen sCap cs hn hsrc
  have hst := run_storeCells_at P g o t cs 0 cur w hg (by simpa using hfit) h1
  simp [Builtin.copy_, run_underlying hu, Builtin.lenOf, sizeOf, typeInfo, hi, hk, ← hm, hf, hst]

theorem wpList_copyK {P : Program} {w : World} {ops : Array Oper} {rest : List Oper} {o : Oper} {a : Act} {Q : Exit → Act → World → Prop} (hgd : o.guard = none) (d s : Operand) (dT sT : TypeId)
    (ho : o.op = .call { callee := .builtin .copy, args := #[d, s], argTypes := #[dT, sT] }) (v0 v1 r : Value) (w' : World) (hd : a.eval d = v0) (hs : a.eval s = v1)
    (hrun : (Builtin.copy_ #[dT, sT] o.type #[v0, v1]).run P w = .ok r w') (h : wpList P ops Q rest (a.put o.dst r) w') : wpList P ops Q (o :: rest) a w := by
  refine wpList_plain hgd fun K hK => ?_
  unfold Oper.wp
  simp [execOp, ho, resolve, invoke, builtin, hd, hs, hrun, Result.andThen]
  exact hK _ _ h

theorem lay_shift {c A X D r : List Value} (hc : c = A ++ D ++ r) (_hX : X.length = 3) (hr : 3 ≤ r.length) :
    ∃ r', (((c.take (A.length + 3) ++ D ++ c.drop (A.length + 3 + D.length)).take A.length ++ X) ++ (c.take (A.length + 3) ++ D ++ c.drop (A.length + 3 + D.length)).drop (A.length + 3)) = A ++ X ++ D ++ r' := by
  have hl : c.length = A.length + D.length + r.length := by rw [hc]; simp; omega
  have h1 : (c.take (A.length + 3)).length = A.length + 3 := by rw [List.length_take]; omega
  have h2 : (c.take (A.length + 3) ++ D ++ c.drop (A.length + 3 + D.length)).take A.length = A := by
    rw [List.append_assoc, List.take_append_of_le_length (by omega), List.take_take, Nat.min_eq_left (by omega), hc, List.append_assoc, List.take_left]
  have h3 : (c.take (A.length + 3) ++ D ++ c.drop (A.length + 3 + D.length)).drop (A.length + 3) = D ++ c.drop (A.length + 3 + D.length) := by
    rw [List.append_assoc]
    have := List.drop_left (l₁ := c.take (A.length + 3)) (l₂ := D ++ c.drop (A.length + 3 + D.length))
    rwa [h1] at this
  exact ⟨_, by rw [h2, h3, ← List.append_assoc]⟩
theorem lay_grow {c A X D r : List Value} (hc : c = A ++ r) (hX : X.length = 3) (_hr : 3 + D.length ≤ r.length) :
    ∃ r', ((((c.take A.length ++ X) ++ c.drop (A.length + 3)).take (A.length + 3) ++ D) ++ ((c.take A.length ++ X) ++ c.drop (A.length + 3)).drop (A.length + 3 + D.length)) = A ++ X ++ D ++ r' := by
  have h0 : c.take A.length = A := by rw [hc, List.take_left]
  have h1 : (A ++ X).length = A.length + 3 := by simp [hX]
  have h2 : ((A ++ X) ++ c.drop (A.length + 3)).take (A.length + 3) = A ++ X := by rw [← h1, List.take_left]
  exact ⟨_, by rw [h0, h2]⟩

/-- A row that the call owns, taken apart. -/
theorem own_parts {w : World} {M g n cap : Nat} {L : List C3} (h : w.ownsRow M 68 3 (.slice (some ⟨g, 0, none⟩) n cap) n (cellsE encC L)) :
    ∃ cur r, M ≤ g ∧ w.heap[g]? = some (.cells cur 68 (0, 0)) ∧ n ≤ cap ∧ cap ≤ maxLen ∧ cur.size = cap * 3 ∧ cur.toList = cellsE encC L ++ r ∧ r.length = (cap - n) * 3 := by
  rcases h.2 with ⟨h', _⟩ | ⟨g', cap', cur, h', hb, hg, hnc, hcm, hcs, htk⟩
  · simp at h'
  · simp only [Value.slice.injEq, Option.some.injEq, Addr.mk.injEq, and_true, true_and] at h'
    obtain ⟨rfl, rfl⟩ := h'
    have e : cur.toList = cellsE encC L ++ cur.toList.drop (n * 3) := by rw [← htk, List.take_append_drop]
    refine ⟨cur, cur.toList.drop (n * 3), hb, hg, hnc, hcm, hcs, e, ?_⟩
    rw [List.length_drop, Array.length_toList, hcs, Nat.sub_mul]
/-- .. and put together. -/
theorem own_whole {w : World} {M g n cap : Nat} {L : List C3} {c : List Value} {r : List Value} (hb : M ≤ g) (hg : w.heap[g]? = some (.cells c.toArray 68 (0, 0))) (hn : L.length = n) (hnc : n ≤ cap) (hcm : cap ≤ maxLen) (hl : c.length = cap * 3) (hc : c = cellsE encC L ++ r) :
    w.ownsRow M 68 3 (.slice (some ⟨g, 0, none⟩) n cap) n (cellsE encC L) := by
  refine ⟨by rw [cellsC_length, hn], .inr ⟨g, cap, _, rfl, hb, hg, hnc, hcm, by rw [List.size_toArray]; exact hl, ?_⟩⟩
  have h1 : (cellsE encC L).length = n * 3 := by rw [cellsC_length, hn]
  rw [hc, ← h1]
  simp
theorem cells_ins (L : List C3) (p : Nat) (x : C3) : cellsE encC (L.take p ++ x :: L.drop p) = cellsE encC (L.take p) ++ encC.cells x ++ cellsE encC (L.drop p) := by
  rw [cellsE_append, cellsE, List.append_assoc]
theorem zero_len (k : Nat) : (Builtin.zeroCells (Value.agg #[.int .i64 0, .string ByteArray.empty, .bool false]).cells k).size = k * 3 := by
  rw [size_zeroCells]; rfl
end Go.Proofs.Ytpahihcnmpeenaa
namespace Go.Proofs.Ytpahihcnmpeenaa
open Go.RowKit Go.Proofs.Ytpahihcnmpeenaa.Parts Go.Proofs.Ytpahihcnmpeenaa.Hexa

/-- What an insertion gives: the cells with one more, in the row that they had or in a new one; no other block is written. -/
def InsPost (M : Nat) (v : Value) (n p : Nat) (L : List C3) (x : C3) (w : World) (e : Ending) (w' : World) : Prop :=
  ∃ v', e = .returned v' ∧ w'.ownsRow M 68 3 v' (n + 1) (cellsE encC (L.take p ++ x :: L.drop p)) ∧ w.grownBy w' v.ownBlock ∧ (v'.ownBlock = v.ownBlock ∨ v'.ownBlock = some w.heap.size)

theorem one_src {w : World} {vb : Nat} {x : C3} (h : w.heap[vb]? = some (.cells #[.int .i64 x.l, .string x.t, .bool x.f] 68 (0, 0))) : SrcC w (some ⟨vb, 0, none⟩) 1 [x] :=
  ⟨rfl, fun j hj => by
    obtain rfl : j = 0 := by omega
    refine ⟨vb, 0, rfl, lt_of_block h, fun o v hv => ?_⟩
    match o, hv with
    | 0, hv => cases hv; simp [World.cell?, h, encC, List.getD]
    | 1, hv => cases hv; simp [World.cell?, h, encC, List.getD]
    | 2, hv => cases hv; simp [World.cell?, h, encC, List.getD]
    | o + 3, hv => simp [encC] at hv⟩

set_option maxRecDepth 100000 in
set_option maxHeartbeats 2000000 in
theorem ins_end (M : Nat) (a : Option Addr) (n c vb : Nat) (L : List C3) (x : C3) (w : World) (hown : w.ownsRow M 68 3 (.slice a n c) n (cellsE encC L)) (hM : M ≤ w.heap.size) (hn : n ≤ 1048600)
    (hv : w.heap[vb]? = some (.cells #[.int .i64 x.l, .string x.t, .bool x.f] 68 (0, 0))) :
    Calls Try.prog 80 #[.slice a n c, .int .i64 n, .slice (some ⟨vb, 0, none⟩) 1 1] w (InsPost M (.slice a n c) n n L x w) := by
  have hL : L.length = n := (srcC_of_own hown).len
  have HA := Lib.hid (appC w 24 M _ n L hown hM (some ⟨vb, 0, none⟩) 1 1 [x] (one_src hv) (by omega))
  have HE : Hid (L.take n ++ x :: L.drop n = L ++ [x]) := Lib.hid (by rw [← hL, List.take_length, List.drop_length])
  obtain ⟨ad, cap, hve, hnc, hcm, hpl⟩ := ownE_form hown
  cases hve
  unfold maxLen at hcm
  clear hown hv hL hpl
  cases a with
  | none =>
    go_enter Try.func80, Try.ntmps80
    go_wp2_with (at_builtin; refine wpList_appE rfl _ _ _ _ rfl _ _ rfl rfl HA.out ?_; intro v1 w1 hown1 hgrow1 hat1)
    all_goals
      have H1 := Lib.hid hown1
      clear hown1
      go_ret
      exact ⟨_, rfl, by rw [HE.out]; exact H1.out, hgrow1, hat1⟩
  | some q =>
    obtain ⟨qb, qo, qs⟩ := q
    go_enter Try.func80, Try.ntmps80
    go_wp2_with (at_builtin; refine wpList_appE rfl _ _ _ _ rfl _ _ rfl rfl HA.out ?_; intro v1 w1 hown1 hgrow1 hat1)
    all_goals
      have H1 := Lib.hid hown1
      clear hown1
      go_ret
      exact ⟨_, rfl, by rw [HE.out]; exact H1.out, hgrow1, hat1⟩

theorem overlaps_no (w : World) (vb g o lb cb : Nat) (cv cs : Array Value) (hv : w.heap[vb]? = some (.cells cv 68 (0, 0))) (hg : w.heap[g]? = some (.cells cs 68 (0, 0))) (hne : vb ≠ g) (hcs : cs.size ≠ 0) :
    (callFunc 90 #[.slice (some ⟨vb, 0, none⟩) 1 1, .slice (some ⟨g, o, none⟩) lb cb]).run Try.prog w = .ok (.value (.bool false)) w := by
  rw [run_callFunc_extern Try.func90 (by kernel_rfl) (by kernel_rfl) (by kernel_rfl) (e := Extern.SlicesOverlaps.overlaps #[24, 24] #[4]) (by kernel_rfl),
    Lib.run_overlaps_apart w 24 4 68 Try.underlying24 3 Try.sizeOf68 ⟨vb, 0, none⟩ ⟨g, o, none⟩ 1 1 lb cb hne 68 68 cv.size cs.size (by simp [World.shape?, hv]) (by simp [World.shape?, hg]) hcs (by simp [World.frozen?, hv]) (by simp [World.frozen?, hv])]
  rfl

set_option maxRecDepth 100000 in
set_option maxHeartbeats 4000000 in
theorem ins_shift (M g n c p vb : Nat) (L : List C3) (x : C3) (w : World) (hown : w.ownsRow M 68 3 (.slice (some ⟨g, 0, none⟩) n c) n (cellsE encC L)) (hn : n ≤ 1048600) (hp : p < n) (hroom : n + 1 ≤ c)
    (hv : w.heap[vb]? = some (.cells #[.int .i64 x.l, .string x.t, .bool x.f] 68 (0, 0))) (hne : vb ≠ g) :
    Calls Try.prog 80 #[.slice (some ⟨g, 0, none⟩) n c, .int .i64 p, .slice (some ⟨vb, 0, none⟩) 1 1] w (InsPost M (.slice (some ⟨g, 0, none⟩) n c) n p L x w) := by
  have hL : L.length = n := (srcC_of_own hown).len
  obtain ⟨i0, hi, hz0, hz1, hz2⟩ := info_parts infoCell
  obtain ⟨cur, r, hMg, hg, hnc, hcm, hcs, hcur, hrl⟩ := own_parts hown
  have hov := fun lb cb => overlaps_no w vb g ((p + 1) * 3) lb cb _ cur hv hg hne (by omega)
  have hLA : (cellsE encC (L.take p)).length = p * 3 := by rw [cellsC_length, List.length_take]; omega
  have hLD : (cellsE encC (L.drop p)).length = (n - p) * 3 := by rw [cellsC_length, List.length_drop]; omega
  have hcur2 : cur.toList = cellsE encC (L.take p) ++ cellsE encC (L.drop p) ++ r := by rw [hcur, ← cellsE_append, List.take_append_drop]
  have hsrc1 : ∀ j v, (cellsE encC (L.drop p))[j]? = some v → w.drew.cell? ((⟨g, p * 3, none⟩ : Addr).add j) = some v := fun j v hj => by
    rw [Addr.add_lit]
    have h1 : cur.toList[p * 3 + j]? = some v := by
      rw [hcur2, List.append_assoc, List.getElem?_append_right (by omega), hLA, show p * 3 + j - p * 3 = j by omega, List.getElem?_append_left (by
        rcases Nat.lt_or_ge j (cellsE encC (L.drop p)).length with h | h
        · exact h
        · rw [List.getElem?_eq_none h] at hj; cases hj)]
      exact hj
    show w.cell? ⟨g, p * 3 + j, none⟩ = some v
    simpa [World.cell?, hg] using h1
  have hcp1 : ∀ ty dc sc, (Builtin.copy_ #[24, 24] ty #[.slice (some ⟨g, (p + 1) * 3, none⟩) (n - p) dc, .slice (some ⟨g, p * 3, none⟩) (n + 1 - p) sc]).run Try.prog w.drew =   .ok (goInt ((n - p : Nat) : Int)) (w.drew.setRow g (cur.toList.take ((p + 1) * 3) ++ cellsE encC (L.drop p) ++ cur.toList.drop ((p + 1) * 3 + (cellsE encC (L.drop p)).length)).toArray) := fun ty dc sc =>
    run_copy_rowK w.drew _ _ ty 68 i0 3 g ((p + 1) * 3) (n - p) dc ⟨g, p * 3, none⟩ (n + 1 - p) sc cur 68 (cellsE encC (L.drop p)) (n - p) Try.underlying24 hi hz1 hg (by simp only [Nat.min_def]; split <;> omega) hLD hsrc1 (by rw [hLD, hcs]; omega) (cellsC_one _)
  obtain ⟨c1, hc1⟩ : ∃ c1, c1 = cur.toList.take ((p + 1) * 3) ++ cellsE encC (L.drop p) ++ cur.toList.drop ((p + 1) * 3 + (cellsE encC (L.drop p)).length) := ⟨_, rfl⟩
  rw [← hc1] at hcp1
  have hl1 : c1.length = c * 3 := by
    rw [hc1, List.length_append, List.length_append, List.length_take, List.length_drop, hLD, Array.length_toList, hcs]; omega
  obtain ⟨W1, hW1⟩ : ∃ W1, W1 = w.drew.setRow g c1.toArray := ⟨_, rfl⟩
  rw [← hW1] at hcp1
  have hg1 : W1.heap[g]? = some (.cells c1.toArray 68 (0, 0)) := by rw [hW1]; exact setRow_heap w.drew g cur _ _ _ hg
  have hv1 : W1.heap[vb]? = some (.cells #[.int .i64 x.l, .string x.t, .bool x.f] 68 (0, 0)) := by rw [hW1, setRow_other _ _ _ _ hne]; exact hv
  have hcp2 : ∀ ty dc, (Builtin.copy_ #[24, 24] ty #[.slice (some ⟨g, p * 3, none⟩) (n + 1 - p) dc, .slice (some ⟨vb, 0, none⟩) 1 1]).run Try.prog W1 = .ok (goInt 1) (W1.setRow g (c1.take (p * 3) ++ encC.cells x ++ c1.drop (p * 3 + (encC.cells x).length)).toArray) := fun ty dc => by
    have h := run_copy_rowK (P := Try.prog) W1 24 24 ty 68 i0 3 g (p * 3) (n + 1 - p) dc ⟨vb, 0, none⟩ 1 1 c1.toArray 68 (encC.cells x) 1 Try.underlying24 hi hz1 hg1 (by simp only [Nat.min_def]; split <;> omega) rfl (fun j v hj => by have := (one_src hv1).news (by decide) j v (by rw [cellsE_one]; exact hj); exact this) (by rw [List.size_toArray, hl1]; show p * 3 + 3 ≤ c * 3; omega) (encC_one x)
    exact h
  have hfin : ∃ r', c1.take (p * 3) ++ encC.cells x ++ c1.drop (p * 3 + (encC.cells x).length) = cellsE encC (L.take p ++ x :: L.drop p) ++ r' := by
    obtain ⟨r', h⟩ := lay_shift (X := encC.cells x) hcur2 rfl (by omega)
    rw [hLA, show p * 3 + 3 = (p + 1) * 3 by omega, ← hc1] at h
    exact ⟨r', by rw [cells_ins, ← h, show p * 3 + (encC.cells x).length = (p + 1) * 3 by (show p * 3 + 3 = (p + 1) * 3; omega)]⟩
  obtain ⟨r', hfin⟩ := hfin
  have HOWN : Hid ((W1.setRow g (c1.take (p * 3) ++ encC.cells x ++ c1.drop (p * 3 + (encC.cells x).length)).toArray).ownsRow M 68 3 (.slice (some ⟨g, 0, none⟩) (n + 1) c) (n + 1) (cellsE encC (L.take p ++ x :: L.drop p))) := Lib.hid (own_whole hMg (setRow_heap W1 g _ _ _ _ hg1) (by simp; omega) hroom hcm (by
      rw [List.length_append, List.length_append, List.length_take, List.length_drop, hl1]; show min (p * 3) (c * 3) + 3 + (c * 3 - (p * 3 + 3)) = c * 3; omega) hfin)
  have HGR : Hid (w.grownBy (W1.setRow g (c1.take (p * 3) ++ encC.cells x ++ c1.drop (p * 3 + (encC.cells x).length)).toArray) (some g)) := Lib.hid ⟨by rw [hW1]; rfl, by rw [hW1]; rfl, by rw [hW1]; rfl, by rw [hW1]; simp, fun k _ hk => by
    have hkg : k ≠ g := fun e => hk (by rw [e])
    rw [setRow_other _ _ _ _ hkg, hW1, setRow_other _ _ _ _ hkg]; rfl⟩
  obtain ⟨W2, hW2⟩ : ∃ W2, W2 = W1.setRow g (c1.take (p * 3) ++ encC.cells x ++ c1.drop (p * 3 + (encC.cells x).length)).toArray := ⟨_, rfl⟩
  rw [← hW2] at HOWN HGR hcp2
  have HC1 := Lib.hid hcp1
  have HC2 := Lib.hid hcp2
  have h2 : ¬ (c = p + 1) := by omega
  have h3 : ¬ (c = p) := by omega
  have h4 : ¬ ((p : Int) = (n : Int)) := by omega
  have h5 : ¬ ((c : Int) < (n : Int) + 1) := by omega
  unfold maxLen at hcm
  clear hown hv hg hcur hcur2 hsrc1 hcp1 hcp2 hc1 hl1 hW1 hg1 hv1 hfin hW2 hL hLA hLD hrl hcs
  go_enter Try.func80, Try.ntmps80
  go_wp2_with (simp only [hov])
  have hw1 : IntKind.i64.wrap ((p : Int) + 1) = (p : Int) + 1 := IntWalk.i64_in _ (by omega)
  have hn1 : ((p : Int) + 1).toNat = p + 1 := by omega
  have hb1 : 0 ≤ (p : Int) + 1 ∧ (p : Int) + 1 ≤ ((n + 1 : Nat) : Int) := by omega
  have hb2 : (p : Int) ≤ ((n + 1 : Nat) : Int) := by omega
  have hb3 : (p : Int) ≤ (n : Int) + 1 := by omega
  have hb4 : p ≤ n := by omega
  have hb5 : p ≤ n + 1 := by omega
  go_still_tail 8, (by kernel_rfl)
  change wpList _ _ _ _ _ w.drew
  refine wpList_copyK rfl _ _ _ _ rfl _ _ _ _ rfl rfl (HC1.out _ _ _) ?_
  have e2 := HC2.out 3 (c - p)
  go_wp2
  go_ret
  exact ⟨_, rfl, HOWN.out, HGR.out, .inl rfl⟩

set_option maxRecDepth 100000 in
set_option maxHeartbeats 4000000 in
theorem ins_grow (M g n c p vb : Nat) (L : List C3) (x : C3) (w : World) (hown : w.ownsRow M 68 3 (.slice (some ⟨g, 0, none⟩) n c) n (cellsE encC L)) (hM : M ≤ w.heap.size) (hn : n ≤ 1048600) (hp : p < n) (hroom : c < n + 1)
    (hv : w.heap[vb]? = some (.cells #[.int .i64 x.l, .string x.t, .bool x.f] 68 (0, 0))) :
    Calls Try.prog 80 #[.slice (some ⟨g, 0, none⟩) n c, .int .i64 p, .slice (some ⟨vb, 0, none⟩) 1 1] w (InsPost M (.slice (some ⟨g, 0, none⟩) n c) n p L x w) := by
  have hL : L.length = n := (srcC_of_own hown).len
  obtain ⟨i0, hi, hz0, hz1, hz2⟩ := info_parts infoCell
  obtain ⟨cur, r, hMg, hg, hnc, hcm, hcs, hcur, hrl⟩ := own_parts hown
  obtain rfl : c = n := by omega
  have hglt := lt_of_block hg
  have hvlt := lt_of_block hv
  have hLA : (cellsE encC (L.take p)).length = p * 3 := by rw [cellsC_length, List.length_take]; omega
  have hLD : (cellsE encC (L.drop p)).length = (c - p) * 3 := by rw [cellsC_length, List.length_drop]; omega
  have hr0 : r = [] := List.length_eq_zero_iff.1 (by rw [hrl]; omega)
  have hcur2 : cur.toList = cellsE encC (L.take p) ++ cellsE encC (L.drop p) := by rw [hcur, hr0, List.append_nil, ← cellsE_append, List.take_append_drop]
  have hold : (Builtin.firstCells i0.size p (.slice (some ⟨g, 0, none⟩) p c)).run Try.prog w.drew = .ok (cellsE encC (L.take p)).toArray w.drew := by
    rw [hz1]
    refine run_firstCells_some w.drew 3 p ⟨g, 0, none⟩ p c (cellsE encC (L.take p)) hLA (fun j v hj => ?_)
    rw [Addr.add_lit, Nat.zero_add]
    have hjl : j < p * 3 := by
      rcases Nat.lt_or_ge j (cellsE encC (L.take p)).length with h | h
      · omega
      · rw [List.getElem?_eq_none h] at hj; cases hj
    have h1 : cur.toList[j]? = some v := by rw [hcur2, List.getElem?_append_left (by omega)]; exact hj
    show w.cell? ⟨g, j, none⟩ = some v
    simpa [World.cell?, hg] using h1
  have hfit : Builtin.nextslicecap (p + (c + 1 - p)) c * i0.bytes ≤ 281474976710656 := by
    rw [hz2]
    exact growslice_fits (by omega) (by omega)
  have hgrow := fun ty => Lib.run_append_grow_zeros (P := Try.prog) w 24 3 ty 68 i0 _ .i64 .i64 Try.underlying24 Try.underlying3 hi hz0 (some ⟨g, 0, none⟩) p c (cellsE encC (L.take p)) hold (c + 1 - p) (by omega) (by rw [hz1]; omega) (by omega) (by omega) (by rw [hz2]; omega) hfit
  obtain ⟨G, hG⟩ : ∃ G, grownCap w (p + (c + 1 - p)) c 68 = G := ⟨_, rfl⟩
  have hGge : c + 1 ≤ G := by have := grownCap_ge w (p + (c + 1 - p)) c 68; omega
  have hGm : G ≤ maxLen := by rw [← hG]; exact grownCap_le_maxLen _ _ _ _ (by unfold maxLen; omega)
  rw [hG] at hgrow
  obtain ⟨c0, hc0⟩ : ∃ c0, c0 = (cellsE encC (L.take p)) ++ ((Builtin.zeroCells (Value.agg #[.int .i64 0, .string ByteArray.empty, .bool false]).cells (c + 1 - p)).toList ++ (Builtin.zeroCells (Value.agg #[.int .i64 0, .string ByteArray.empty, .bool false]).cells (G - (p + (c + 1 - p)))).toList) := ⟨_, rfl⟩
  have hc0a : (cellsE encC (L.take p)).toArray ++ Builtin.zeroCells (Value.agg #[.int .i64 0, .string ByteArray.empty, .bool false]).cells (c + 1 - p) ++ Builtin.zeroCells (Value.agg #[.int .i64 0, .string ByteArray.empty, .bool false]).cells (G - (p + (c + 1 - p))) = c0.toArray := by
    apply Array.toList_inj.1
    rw [hc0]; simp
  rw [hc0a] at hgrow
  have hl0 : c0.length = G * 3 := by
    rw [hc0, List.length_append, List.length_append, hLA]; simp only [Array.length_toList, zero_len]; omega
  obtain ⟨W0, hW0⟩ : ∃ W0, W0 = w.drew.alloc (.cells c0.toArray 68) := ⟨_, rfl⟩
  rw [← hW0] at hgrow
  have hg0 : W0.heap[w.heap.size]? = some (.cells c0.toArray 68 (0, 0)) := by rw [hW0]; exact heap_alloc_new w.drew _
  have hb0 : Below w.heap.size w W0 := by rw [hW0]; exact (Below.refl _ _).drew.alloc (Nat.le_refl _) _
  have hv0 : W0.heap[vb]? = some (.cells #[.int .i64 x.l, .string x.t, .bool x.f] 68 (0, 0)) := (hb0.block _ hvlt).trans hv
  have hcp1 : ∀ ty dc, (Builtin.copy_ #[24, 24] ty #[.slice (some ⟨w.heap.size, p * 3, none⟩) (c + 1 - p) dc, .slice (some ⟨vb, 0, none⟩) 1 1]).run Try.prog W0 = .ok (goInt 1) (W0.setRow w.heap.size (c0.take (p * 3) ++ encC.cells x ++ c0.drop (p * 3 + (encC.cells x).length)).toArray) := fun ty dc =>
    run_copy_rowK (P := Try.prog) W0 24 24 ty 68 i0 3 w.heap.size (p * 3) (c + 1 - p) dc ⟨vb, 0, none⟩ 1 1 c0.toArray 68 (encC.cells x) 1 Try.underlying24 hi hz1 hg0 (by simp only [Nat.min_def]; split <;> omega) rfl (fun j v hj => (one_src hv0).news (by decide) j v (by rw [cellsE_one]; exact hj)) (by rw [List.size_toArray, hl0]; show p * 3 + 3 ≤ G * 3; omega) (encC_one x)
  obtain ⟨c1, hc1⟩ : ∃ c1, c1 = c0.take (p * 3) ++ encC.cells x ++ c0.drop (p * 3 + (encC.cells x).length) := ⟨_, rfl⟩
  rw [← hc1] at hcp1
  have hl1 : c1.length = G * 3 := by
    rw [hc1, List.length_append, List.length_append, List.length_take, List.length_drop, hl0]; show min (p * 3) (G * 3) + 3 + (G * 3 - (p * 3 + 3)) = G * 3; omega
  obtain ⟨W1, hW1⟩ : ∃ W1, W1 = W0.setRow w.heap.size c1.toArray := ⟨_, rfl⟩
  rw [← hW1] at hcp1
  have hg1 : W1.heap[w.heap.size]? = some (.cells c1.toArray 68 (0, 0)) := by rw [hW1]; exact setRow_heap W0 _ _ _ _ _ hg0
  have hgg : W1.drew.heap[g]? = some (.cells cur 68 (0, 0)) := by
    show W1.heap[g]? = _
    rw [hW1, setRow_other _ _ _ _ (by omega)]; exact (hb0.block _ hglt).trans hg
  have hsrc2 : ∀ j v, (cellsE encC (L.drop p))[j]? = some v → W1.drew.cell? ((⟨g, p * 3, none⟩ : Addr).add j) = some v := fun j v hj => by
    rw [Addr.add_lit]
    have h1 : cur.toList[p * 3 + j]? = some v := by
      rw [hcur2, List.getElem?_append_right (by omega), hLA, show p * 3 + j - p * 3 = j by omega]
      exact hj
    simpa [World.cell?, hgg] using h1
  have hcp2 : ∀ ty dc sc, (Builtin.copy_ #[24, 24] ty #[.slice (some ⟨w.heap.size, (p + 1) * 3, none⟩) (c - p) dc, .slice (some ⟨g, p * 3, none⟩) (c - p) sc]).run Try.prog W1.drew = .ok (goInt ((c - p : Nat) : Int)) (W1.drew.setRow w.heap.size (c1.take ((p + 1) * 3) ++ cellsE encC (L.drop p) ++ c1.drop ((p + 1) * 3 + (cellsE encC (L.drop p)).length)).toArray) := fun ty dc sc =>
    run_copy_rowK W1.drew _ _ ty 68 i0 3 w.heap.size ((p + 1) * 3) (c - p) dc ⟨g, p * 3, none⟩ (c - p) sc c1.toArray 68 (cellsE encC (L.drop p)) (c - p) Try.underlying24 hi hz1 hg1 (by simp only [Nat.min_def]; split <;> omega) hLD hsrc2 (by rw [hLD, List.size_toArray, hl1]; omega) (cellsC_one _)
  have hfin : ∃ r', c1.take ((p + 1) * 3) ++ cellsE encC (L.drop p) ++ c1.drop ((p + 1) * 3 + (cellsE encC (L.drop p)).length) = cellsE encC (L.take p ++ x :: L.drop p) ++ r' := by
    obtain ⟨r', h⟩ := lay_grow (X := encC.cells x) (D := cellsE encC (L.drop p)) hc0 rfl (by rw [List.length_append, hLD]; simp only [Array.length_toList, zero_len]; omega)
    rw [hLA, show c0.take (p * 3) ++ encC.cells x ++ c0.drop (p * 3 + 3) = c1 from hc1.symm, show p * 3 + 3 = (p + 1) * 3 by omega] at h
    exact ⟨r', by rw [cells_ins, ← h]⟩
  obtain ⟨r', hfin⟩ := hfin
  obtain ⟨W2, hW2⟩ : ∃ W2, W2 = W1.drew.setRow w.heap.size (c1.take ((p + 1) * 3) ++ cellsE encC (L.drop p) ++ c1.drop ((p + 1) * 3 + (cellsE encC (L.drop p)).length)).toArray := ⟨_, rfl⟩
  have HOWN : Hid (W2.ownsRow M 68 3 (.slice (some ⟨w.heap.size, 0, none⟩) (c + 1) G) (c + 1) (cellsE encC (L.take p ++ x :: L.drop p))) := Lib.hid (own_whole hM (by rw [hW2]; exact setRow_heap W1.drew _ _ _ _ _ hg1) (by simp; omega) hGge hGm (by
      rw [List.length_append, List.length_append, List.length_take, List.length_drop, hl1, hLD]; omega) hfin)
  have HGR : Hid (w.grownBy W2 (some g)) := Lib.hid ⟨by rw [hW2, hW1]; exact hb0.os, by rw [hW2, hW1]; exact hb0.tape, by rw [hW2, hW1]; exact hb0.output, by rw [hW2, hW1]; have := hb0.size; simpa using this, fun k hk _ => by
    rw [hW2, setRow_other _ _ _ _ (by omega)]
    show W1.heap[k]? = _
    rw [hW1, setRow_other _ _ _ _ (by omega)]
    exact hb0.block k hk⟩
  rw [← hW2] at hcp2
  have hk39 : ((c + 1 - p : Nat) : Int) = (c : Int) + 1 - (p : Int) := by omega
  rw [hk39] at hgrow
  have HA := Lib.hid hgrow
  have HC1 := Lib.hid hcp1
  have HC2 := Lib.hid hcp2
  clear hk39
  have hpp : p + (c + 1 - p) = c + 1 := by omega
  rw [hpp] at HA
  have h2 : ¬ (G = p + 1) := by omega
  have h3 : ¬ (c = p) := by omega
  have h3b : ¬ (G = p) := by omega
  have h4 : ¬ ((p : Int) = (c : Int)) := by omega
  unfold maxLen at hcm
  unfold maxLen at hGm
  clear hown hv hg hcur hcur2 hold hfit hgrow hG hc0 hc0a hl0 hW0 hg0 hb0 hv0 hcp1 hc1 hl1 hW1 hg1 hgg hsrc2 hcp2 hfin hW2 hL hLA hLD hrl hcs hr0 hpp
  go_enter Try.func80, Try.ntmps80
  have hw1 : IntKind.i64.wrap ((p : Int) + 1) = (p : Int) + 1 := IntWalk.i64_in _ (by omega)
  have hn1 : ((p : Int) + 1).toNat = p + 1 := by omega
  have hb4 : p ≤ c := by omega
  have hb5 : p ≤ c + 1 := by omega
  have hb6 : 0 ≤ (p : Int) + 1 := by omega
  have e1 := HC1.out 3 (G - p)
  go_wp2_with (at_builtin; refine Lib.wpList_append_run _ rfl _ _ _ _ rfl _ _ rfl rfl _ _ (HA.out _) ?_)
  go_still_tail 8, (by kernel_rfl)
  change wpList _ _ _ _ _ W1.drew
  refine wpList_copyK rfl _ _ _ _ rfl _ _ _ _ rfl rfl (HC2.out _ _ _) ?_
  go_wp2
  go_ret
  exact ⟨_, rfl, HOWN.out, HGR.out, .inr rfl⟩

/-- Whatever the room. -/
theorem insert_any (M : Nat) (a : Option Addr) (n c p vb : Nat) (L : List C3) (x : C3) (w : World) (hown : w.ownsRow M 68 3 (.slice a n c) n (cellsE encC L)) (hM : M ≤ w.heap.size) (hn : n ≤ 1048600) (hp : p ≤ n)
    (hv : w.heap[vb]? = some (.cells #[.int .i64 x.l, .string x.t, .bool x.f] 68 (0, 0))) (hne : ∀ q, a = some q → vb ≠ q.block) :
    Calls Try.prog 80 #[.slice a n c, .int .i64 p, .slice (some ⟨vb, 0, none⟩) 1 1] w (InsPost M (.slice a n c) n p L x w) := by
  by_cases h : p = n
  · subst h; exact ins_end M a p c vb L x w hown hM hn hv
  · obtain ⟨ad, cap, hve, hnc, hcm, hpl⟩ := ownE_form hown
    cases hve
    cases a with
    | none =>
      rcases hown.2 with ⟨_, h0⟩ | ⟨g', cap', cur, h', _⟩
      · omega
      · simp at h'
    | some q =>
      obtain ⟨g, rfl, _, _⟩ := hpl _ rfl
      by_cases hr : n + 1 ≤ c
      · exact ins_shift M g n c p vb L x w hown hn (by omega) hr hv (hne _ rfl)
      · exact ins_grow M g n c p vb L x w hown hM hn (by omega) (by omega) hv
end Go.Proofs.Ytpahihcnmpeenaa
