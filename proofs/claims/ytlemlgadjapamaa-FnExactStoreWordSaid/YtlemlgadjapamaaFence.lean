/- Fence: the model's and the program's. -/
import Derived.Test.YtlemlgadjapamaaFlush
import Derived.Test.YtlemlgadjapamaaFencePtr
import Derived.Test.YtlemlgadjapamaaKeepSpec
namespace Go.Proofs.Ytlemlgadjapamaa
open Go.RowKit Go.Proofs.Ytlemlgadjapamaa.Parts Go.Proofs.Ytlemlgadjapamaa.Hexa

noncomputable def fencedK (K : ByteArray) (L : List C3) : ByteArray := if memOkB K L = true then fenceK K L else K
noncomputable def fencedL (K : ByteArray) (L : List C3) : List C3 := if memOkB K L = true then fenceL L else L
theorem fencedK_ok {K : ByteArray} {L : List C3} (h : MemOk K L) : fencedK K L = fenceK K L := if_pos (memOkB_yes h)
theorem fencedK_bad {K : ByteArray} {L : List C3} (h : ¬ MemOk K L) : fencedK K L = K := if_neg (by rw [memOkB_no h]; simp)
theorem fencedL_ok {K : ByteArray} {L : List C3} (h : MemOk K L) : fencedL K L = fenceL L := if_pos (memOkB_yes h)
theorem fencedL_bad {K : ByteArray} {L : List C3} (h : ¬ MemOk K L) : fencedL K L = L := if_neg (by rw [memOkB_no h]; simp)
theorem fencedL_len (K : ByteArray) (L : List C3) : (fencedL K L).length ≤ L.length + 1 := by
  unfold fencedL
  split
  · exact Nat.le_succ_of_le (fenceL_length L)
  · omega
theorem BoxM.drew0 {w : World} {M b : Nat} {K : ByteArray} {a : Option Addr} {n c : Nat} {L : List C3} (h : BoxM w M b K a n c L) : BoxM w.drew M b K a n c L := ⟨h.two, h.own, h.low, h.ne⟩
theorem BoxM.set0 {w : World} {M b : Nat} {K : ByteArray} {a : Option Addr} {n c : Nat} {L : List C3} (h : BoxM w M b K a n c L) (K2 : ByteArray) : BoxM (w.setCell ⟨b, 0, none⟩ (.string K2)) M b K2 a n c L :=
  ⟨two_set0 h.two, ownsRow_setCell_other h.own (by
    cases a with
    | none => simp [Value.ownBlock]
    | some p => have := h.ne p rfl; simpa [Value.ownBlock] using this) _, h.low, h.ne⟩
theorem BoxM.set1 {w : World} {M b : Nat} {K : ByteArray} {u : Value} {a : Option Addr} {n c : Nat} {L : List C3} (hT : Two w b (.string K) u 26) (ho : w.ownsRow M 68 3 (.slice a n c) n (cellsE encC L)) (hl : M ≤ b) (hne : ∀ p, a = some p → p.block ≠ b) : BoxM (w.setCell ⟨b, 1, none⟩ (.slice a n c)) M b K a n c L :=
  ⟨two_set1 hT, ownsRow_setCell_other ho (by
    cases a with
    | none => simp [Value.ownBlock]
    | some p => have := hne p rfl; simpa [Value.ownBlock] using this) _, hl, hne⟩

set_option maxRecDepth 100000 in
set_option maxHeartbeats 2000000 in
theorem implFence_any (K : ByteArray) (a : Option Addr) (n c : Nat) (L : List C3) (w : World) (hs : SrcC w a n L) (hn : n ≤ 1048600) (hK : K.size ≤ 1048600) (hF : FitT L 1048600) :
    Calls Try.prog 20 #[.agg #[.string K, .slice a n c]] w (GivesM (fencedK K L) (fencedL K L) w) := by
  have HS := Lib.hid hs
  have HL := Lib.hid hs.len
  have HF := Lib.hid hF
  have hb0 : Below w.heap.size w ((w.alloc (.cells #[.string K, .slice a n c] 26)).alloc (.cells #[.string ⟨#[]⟩, .slice none 0 0] 26)) := ((Below.refl _ _).alloc (Nat.le_refl _) _).alloc (by simp) _
  have k0 : Two ((w.alloc (.cells #[.string K, .slice a n c] 26)).alloc (.cells #[.string ⟨#[]⟩, .slice none 0 0] 26)) w.heap.size (.string K) (.slice a n c) 26 := (Two.alloc w _ _ _).later (below_alloc _ _)
  have k1 : Two ((w.alloc (.cells #[.string K, .slice a n c] 26)).alloc (.cells #[.string ⟨#[]⟩, .slice none 0 0] 26)) (w.heap.size + 1) (.string ⟨#[]⟩) (.slice none 0 0) 26 := by
    have h := Two.alloc (w.alloc (.cells #[.string K, .slice a n c] 26)) (.string ⟨#[]⟩) (.slice none 0 0) 26
    simpa using h
  have k3 : ((w.alloc (.cells #[.string K, .slice a n c] 26)).alloc (.cells #[.string ⟨#[]⟩, .slice none 0 0] 26)).heap.size = w.heap.size + 2 := by simp
  have K0 := Lib.hid k0
  have K1 := Lib.hid k1
  have K3 := Lib.hid k3
  have B0 := Lib.hid hb0
  clear hs hF hb0 k0 k1 k3
  go_enter Try.func20, Try.ntmps20
  go_wp2_with fail
  obtain ⟨W2, hW⟩ : ∃ x, x = (w.alloc (.cells #[.string K, .slice a n c] 26)).alloc (.cells #[.string ⟨#[]⟩, .slice none 0 0] 26) := ⟨_, rfl⟩
  rw [← hW] at K0 K1 K3 B0 ⊢
  clear hW
  refine (memoryCopy_any K a n c L W2 (HS.out.later B0.out) hn hK HF.out).mono ?_
  rintro e w1 ⟨v, rfl, hown, hb1⟩
  rw [HL.out, K3.out] at hown
  obtain ⟨ad, cap, rfl, hnc, hcm, hpl⟩ := ownE_form hown
  have T3 := Lib.hid ((K0.out.later hb1).later (below_alloc w1 (.cells #[.string K, .slice ad n cap] 26)))
  have R3 := Lib.hid ((K1.out.later hb1).later (below_alloc w1 (.cells #[.string K, .slice ad n cap] 26)))
  have X3 : Hid (BoxM (w1.alloc (.cells #[.string K, .slice ad n cap] 26)) (w.heap.size + 2) w1.heap.size K ad n cap L) := Lib.hid ⟨Two.alloc w1 _ _ _, own_below hown (below_alloc w1 _), by have := hb1.size; rw [K3.out] at this; exact this, fun p hp => by
    obtain ⟨g, e, _, hg⟩ := hpl p hp
    rw [e]; exact Nat.ne_of_lt hg⟩
  have B3 : Hid (Below w.heap.size w (w1.alloc (.cells #[.string K, .slice ad n cap] 26))) := Lib.hid (B0.out.trans ((hb1.trans ((below_alloc w1 _).mono hb1.size)).mono B0.out.size))
  have c0 := T3.out.c0
  have c1 := T3.out.c1
  unfold maxLen at hcm
  clear hown hb1 hpl K0 K1
  go_wp2_with fail
  clear c0 c1
  obtain ⟨b, hb⟩ : ∃ b, w1.heap.size = b := ⟨_, rfl⟩
  obtain ⟨w3, h3⟩ : ∃ x, x = w1.alloc (.cells #[.string K, .slice ad n cap] 26) := ⟨_, rfl⟩
  rw [hb] at X3 ⊢
  rw [← h3] at X3 T3 R3 B3 ⊢
  clear hb h3
  refine (implOk_any K a n c L w3 (HS.out.later B3.out) hn hK).mono ?_
  rintro e w4 ⟨rfl, hb4⟩
  have R4 := Lib.hid (R3.out.later hb4)
  have X4 := Lib.hid (X3.out.later hb4)
  have B4 : Hid (Below w.heap.size w w4) := Lib.hid (B3.out.trans (hb4.mono B3.out.size))
  clear hb4
  by_cases hok : MemOk K L
  · rw [memOkB_yes hok]
    have HOK := Lib.hid hok
    have HEK := Lib.hid (fencedK_ok hok)
    have HE := Lib.hid (fencedL_ok hok)
    clear hok
    go_wp2_with fail
    refine (fence_any (w.heap.size + 2) b K ad n cap L w4 X4.out hn HOK.out.2.1 HOK.out.lies).mono ?_
    rintro e w5 ⟨rfl, a2, n2, c2, hx5, hb5⟩
    have X5 := Lib.hid hx5
    have R5 : Hid (Two w5 (w.heap.size + 1) (.string ⟨#[]⟩) (.slice none 0 0) 26) := Lib.hid ((hb5.block _ (by omega)).trans R4.out)
    have B5 : Hid (Below w.heap.size w w5) := Lib.hid (B4.out.trans (hb5.mono (by omega)))
    clear hx5 hb5
    obtain ⟨FK, hFK⟩ : ∃ FK, fenceK K L = FK := ⟨_, rfl⟩
    rw [hFK] at X5 HEK
    clear hFK
    have c0 := X5.out.two.c0
    have c1 := X5.out.two.c1
    have r0 := R5.out.c0
    have r1 := R5.out.c1
    have f0 := R5.out.fr (o := 0)
    have f1 := R5.out.fr (o := 1)
    have q := two_set1 (two_set0 R5.out (x := .string FK)) (x := .slice a2 n2 c2)
    have q0 := cell0_of_two q
    have q1 := cell1_of_two q
    have HG := Lib.hid (gives_box (w := w) (b2 := w.heap.size + 1) (u := .string FK) (v := .slice a2 n2 c2) X5.out (by omega) B5.out (by omega) (fun p hp => by
      obtain ⟨ad9, cap9, hv9, _, _, hpl9⟩ := ownE_form X5.out.own
      cases hv9
      obtain ⟨g9, e9, h9, _⟩ := hpl9 p hp
      rw [e9]; show g9 ≠ w.heap.size + 1; omega))
    clear q
    go_wp2
    refine bodyPost_ret (v := .agg #[.string FK, .slice a2 n2 c2]) ?_ rfl ⟨_, by rw [HEK.out], by rw [HE.out]; exact HG.out.1, HG.out.2⟩
    simp [results, Try.results20, go_sem, q0, q1]
  · rw [memOkB_no hok]
    have HEK := Lib.hid (fencedK_bad hok)
    have HE := Lib.hid (fencedL_bad hok)
    clear hok
    have c0 := X4.out.two.c0
    have c1 := X4.out.two.c1
    have r0 := R4.out.c0
    have r1 := R4.out.c1
    have f0 := R4.out.fr (o := 0)
    have f1 := R4.out.fr (o := 1)
    have q := two_set1 (two_set0 R4.out (x := .string K)) (x := .slice ad n cap)
    have q0 := cell0_of_two q
    have q1 := cell1_of_two q
    have HG := Lib.hid (gives_box (w := w) (b2 := w.heap.size + 1) (u := .string K) (v := .slice ad n cap) X4.out (by omega) B4.out (by omega) (fun p hp => by
      obtain ⟨ad9, cap9, hv9, _, _, hpl9⟩ := ownE_form X4.out.own
      cases hv9
      obtain ⟨g9, e9, h9, _⟩ := hpl9 p hp
      rw [e9]; show g9 ≠ w.heap.size + 1; omega))
    clear q
    go_wp2
    refine bodyPost_ret (v := .agg #[.string K, .slice ad n cap]) ?_ rfl ⟨_, by rw [HEK.out], by rw [HE.out]; exact HG.out.1, HG.out.2⟩
    simp [results, Try.results20, go_sem, q0, q1]

set_option maxRecDepth 100000 in
set_option maxHeartbeats 2000000 in
theorem specFence_any (K : ByteArray) (a : Option Addr) (n c : Nat) (L : List C3) (w : World) (hs : SrcC w a n L) (hn : n ≤ 1048600) (hK : K.size ≤ 1048600) (hF : FitT L 1048600) :
    Calls Try.prog 39 #[.agg #[.string K, .slice a n c]] w (GivesM (fencedK K L) (fencedL K L) w) := by
  have HS := Lib.hid hs
  have HL := Lib.hid hs.len
  have HF := Lib.hid hF
  have hb0 : Below w.heap.size w ((w.alloc (.cells #[.string K, .slice a n c] 26)).alloc (.cells #[.string ⟨#[]⟩, .slice none 0 0] 26)) := ((Below.refl _ _).alloc (Nat.le_refl _) _).alloc (by simp) _
  have k0 : Two ((w.alloc (.cells #[.string K, .slice a n c] 26)).alloc (.cells #[.string ⟨#[]⟩, .slice none 0 0] 26)) w.heap.size (.string K) (.slice a n c) 26 := (Two.alloc w _ _ _).later (below_alloc _ _)
  have k1 : Two ((w.alloc (.cells #[.string K, .slice a n c] 26)).alloc (.cells #[.string ⟨#[]⟩, .slice none 0 0] 26)) (w.heap.size + 1) (.string ⟨#[]⟩) (.slice none 0 0) 26 := by
    have h := Two.alloc (w.alloc (.cells #[.string K, .slice a n c] 26)) (.string ⟨#[]⟩) (.slice none 0 0) 26
    simpa using h
  have k3 : ((w.alloc (.cells #[.string K, .slice a n c] 26)).alloc (.cells #[.string ⟨#[]⟩, .slice none 0 0] 26)).heap.size = w.heap.size + 2 := by simp
  have K0 := Lib.hid k0
  have K1 := Lib.hid k1
  have K3 := Lib.hid k3
  have B0 := Lib.hid hb0
  clear hs hF hb0 k0 k1 k3
  go_enter Try.func39, Try.ntmps39
  go_wp2_with fail
  obtain ⟨W2, hW⟩ : ∃ x, x = (w.alloc (.cells #[.string K, .slice a n c] 26)).alloc (.cells #[.string ⟨#[]⟩, .slice none 0 0] 26) := ⟨_, rfl⟩
  rw [← hW] at K0 K1 K3 B0 ⊢
  clear hW
  refine (specOk_any K a n c L W2 (HS.out.later B0.out) hn hK).mono ?_
  rintro e w1 ⟨rfl, hb1⟩
  have T1 := Lib.hid (K0.out.later hb1)
  have R1 := Lib.hid (K1.out.later hb1)
  have B1 : Hid (Below w.heap.size w w1) := Lib.hid (B0.out.trans (hb1.mono B0.out.size))
  have S1 : Hid (w.heap.size + 2 ≤ w1.heap.size) := Lib.hid (by have := hb1.size; rw [K3.out] at this; exact this)
  clear hb1 K0 K1
  by_cases hok : MemOk K L
  · rw [memOkB_yes hok]
    have HOK := Lib.hid hok
    have HLI := Lib.hid hok.lies
    have HEK := Lib.hid (fencedK_ok hok)
    have HE := Lib.hid (fencedL_ok hok)
    have hK16 := hok.2.1
    clear hok
    have X3 : Hid (BoxM (w1.alloc (.cells #[.string K, .slice none 0 0] 26)) w1.heap.size w1.heap.size K none 0 0 []) := Lib.hid ⟨Two.alloc w1 _ _ _, nilC _ _, Nat.le_refl _, fun p hp => by cases hp⟩
    have B3 := Lib.hid (below_alloc w1 (.cells #[.string K, .slice none 0 0] 26))
    have z0 := T1.out.c0
    have z1 := T1.out.c1
    go_wp2
    clear z0 z1
    have hbH : Hid (w.heap.size + 2 ≤ w1.heap.size) := S1
    go_loopw [4] (fun iv wr => ∃ (k p : Nat) (a' : Option Addr) (c' : Nat), k ≤ n ∧ iv = .int .i64 k ∧ p ≤ k ∧ Hid (BoxM wr w1.heap.size w1.heap.size (keptTo K L k) a' p c' (openTo L k)) ∧ Hid (Below w1.heap.size w1 wr)) (fun iv _ => n - (intOf iv).toNat)
    case atStart => exact ⟨0, 0, none, 0, Nat.zero_le _, rfl, Nat.le_refl _, Lib.hid (by rw [keptTo_zero, openTo_zero]; exact X3.out), B3⟩
    case round =>
      clear X3 B3
      obtain ⟨k, p, a', c', hk, rfl, hpk, HX, HW⟩ := hrel
      have BW : Hid (Below w.heap.size w wr) := Lib.hid (B1.out.trans (HW.out.mono B1.out.size))
      have Tr : Hid (Two wr w.heap.size (.string K) (.slice a n c) 26) := Lib.hid (T1.out.later HW.out)
      have Rr : Hid (Two wr (w.heap.size + 1) (.string ⟨#[]⟩) (.slice none 0 0) 26) := Lib.hid (R1.out.later HW.out)
      have z1 := Tr.out.c1
      have x0 := HX.out.two.c0
      have x1 := HX.out.two.c1
      by_cases hlt : k < n
      · have hkl : Hid (k < L.length) := Lib.hid (by rw [HL.out]; exact hlt)
        obtain ⟨g, off, rfl, hg, d1, d2, d3⟩ := HS.out.cells3_at BW.out (Nat.le_refl _) k hlt
        obtain ⟨x, hx⟩ : ∃ x, L.getD k default = x := ⟨_, rfl⟩
        rw [hx] at d1 d2 d3
        have hlx := HLI.out k hkl.out
        rw [hx] at hlx
        have HX2 := Lib.hid hx
        have HLX := Lib.hid hlx
        clear hx hlx
        cases hf : x.f with
        | true =>
          have HF2 : Hid ((L.getD k default).f = true) := Lib.hid (by rw [HX2.out]; exact hf)
          rw [hf] at d3
          have HF3 := Lib.hid hf
          obtain ⟨KT, hKT⟩ : ∃ KT, keptTo K L k = KT := ⟨_, rfl⟩
          have hKs : KT.size = K.size := by rw [← hKT]; exact keptTo_size HLI.out k (by have := hkl.out; omega)
          have HKn : Hid (keptTo K L (k + 1) = keepB KT x) := Lib.hid (by rw [keptTo_yes hkl.out HF2.out, hKT, HX2.out])
          rw [hKT] at HX x0
          have HKS := Lib.hid hKs
          clear hf hKT hKs
          go_wp2
          go_still_tail 7, (by kernel_rfl)
          change wpList _ _ _ _ _ wr.drew
          have hcall := fun W => specKeep_any KT x x.l.toNat W (by have := HLX.out.1; omega) (by rw [HKS.out]; have := HLX.out; omega) (by rw [HKS.out]; exact hK16) HLX.out.2.2
          rw [HF3.out] at hcall
          have HC := Lib.hid hcall
          clear hcall
          go_wp2_with fail
          refine (HC.out wr.drew).mono ?_
          rintro e w2 ⟨rfl, hb2⟩
          have X5 := Lib.hid (HX.out.drew0.later hb2)
          have y0 := X5.out.two.c0
          have y2 := X5.out.two.fr (o := 0)
          have X6 : Hid (BoxM (w2.setCell ⟨w1.heap.size, 0, none⟩ (.string (keepB KT x))) w1.heap.size w1.heap.size (keptTo K L (k + 1)) a' p c' (openTo L (k + 1))) := Lib.hid (by rw [HKn.out, openTo_yes hkl.out HF2.out]; exact X5.out.set0 _)
          have W6 : Hid (Below w1.heap.size w1 (w2.setCell ⟨w1.heap.size, 0, none⟩ (.string (keepB KT x)))) := Lib.hid ((HW.out.drew.trans (hb2.mono HW.out.size)).setCell (Nat.le_refl _) _)
          clear hb2 x0 x1 z1 d1 d2 d3
          go_wp2
          go_roundw
          case rel => exact ⟨k + 1, p, a', c', by omega, by go_num, by omega, X6, W6⟩
          case measure => (simp [intOf]; try omega)
        | false =>
          have HF2 : Hid ((L.getD k default).f = false) := Lib.hid (by rw [HX2.out]; exact hf)
          rw [hf] at d3
          have HF3 := Lib.hid hf
          have hsrc : SrcC (wr.drew.alloc (.cells #[.int .i64 x.l, .string x.t, .bool false] 68)) (some ⟨wr.heap.size, 0, none⟩) 1 [x] := by
            have h := World.ownsRow_lit (base := 0) (e := 68) (size := 3) wr.drew #[.int .i64 x.l, .string x.t, .bool false] 1 (Nat.zero_le _) (by decide) rfl
            have e : (#[.int .i64 x.l, .string x.t, .bool false] : Array Value).toList = cellsE encC [x] := by rw [cellsE_one, encC_cells, hf]
            rw [e] at h
            exact srcC_of_own h
          have hbd : Below wr.heap.size wr (wr.drew.alloc (.cells #[.int .i64 x.l, .string x.t, .bool false] 68)) := (Below.refl _ _).drew.alloc (Nat.le_refl _) _
          have HA := Lib.hid (appC _ 24 w1.heap.size (.slice a' p c') p (openTo L k) (own_below HX.out.own hbd) (by have := HX.out.two.lt; have := hbd.size; omega) (some ⟨wr.heap.size, 0, none⟩) 1 1 [x] hsrc (by omega))
          have X5 := Lib.hid (HX.out.later hbd)
          have W5 : Hid (Below w1.heap.size w1 (wr.drew.alloc (.cells #[.int .i64 x.l, .string x.t, .bool false] 68))) := Lib.hid (HW.out.trans (hbd.mono HW.out.size))
          have SZ5 : Hid (w1.heap.size < wr.heap.size) := Lib.hid HX.out.two.lt
          clear hf hsrc hbd
          have x1' : (wr.alloc (.cells #[.int .i64 x.l, .string x.t, .bool false] 68)).cell? ⟨w1.heap.size, 1, none⟩ = some (.slice a' p c') := X5.out.two.c1
          have HT2 : Hid (∀ w2 : World, (wr.drew.alloc (.cells #[.int .i64 x.l, .string x.t, .bool false] 68)).grownBy w2 (Value.slice a' p c').ownBlock → Two w2 w1.heap.size (.string (keptTo K L k)) (.slice a' p c') 26) := Lib.hid (fun w2 hgrow2 => (hgrow2.block _ X5.out.two.lt (fun e => by
            cases a' with
            | none => simp [Value.ownBlock] at e
            | some q => exact X5.out.ne q rfl (by simpa [Value.ownBlock] using e.symm))).trans X5.out.two)
          go_wp2
          go_region_law (first
            | (refine step_appE rfl (.tmp 36) (.tmp 42) 24 24 rfl (.slice a' p c') (.slice (some ⟨wr.heap.size, 0, none⟩) 1 1) (by simp [Act.eval]) (by simp [Act.eval]) HA.out ?_
               intro v1 w2 hown2 hgrow2 hat2; obtain ⟨a2, c2, rfl, _, _, hpl2⟩ := ownE_form hown2; have T2 := Lib.hid (HT2.out w2 hgrow2); have y1 := T2.out.c1; have y2 := T2.out.fr (o := 1); have O2 := Lib.hid hown2; have G2 := Lib.hid hgrow2; have A2 := Lib.hid hat2; clear hown2 hgrow2 hat2 hpl2))
          all_goals
            have hne2 : ∀ q, a2 = some q → q.block ≠ w1.heap.size := fun q hq e => by
              rcases A2.out with h | h
              · rw [hq] at h
                have h' : (Value.slice a' p c').ownBlock = some q.block := h.symm
                cases a' with
                | none => simp [Value.ownBlock] at h'
                | some r => exact X5.out.ne r rfl (by rw [← e]; simpa [Value.ownBlock] using h')
              · rw [hq] at h
                have h' : q.block = (wr.drew.alloc (.cells #[.int .i64 x.l, .string x.t, .bool false] 68)).heap.size := by simpa [Value.ownBlock] using h
                have h3 : (wr.drew.alloc (.cells #[.int .i64 x.l, .string x.t, .bool false] 68)).heap.size = wr.heap.size + 1 := by simp
                have := SZ5.out
                omega
            have X6 : Hid (BoxM (w2.setCell ⟨w1.heap.size, 1, none⟩ (.slice a2 (p + 1) c2)) w1.heap.size w1.heap.size (keptTo K L (k + 1)) a2 (p + 1) c2 (openTo L (k + 1))) := Lib.hid (by
              rw [keptTo_no hkl.out HF2.out, openTo_no hkl.out HF2.out, HX2.out]
              exact BoxM.set1 T2.out O2.out (Nat.le_refl _) hne2)
            have W6 : Hid (Below w1.heap.size w1 (w2.setCell ⟨w1.heap.size, 1, none⟩ (.slice a2 (p + 1) c2))) := Lib.hid ((W5.out.grown G2.out (by have := W5.out.size; exact this) (fun q hq => (X5.out.own.lt q hq).1)).setCell (Nat.le_refl _) _)
            clear hne2 HA x0 x1 x1' z1 d1 d2 d3
            go_wp2
            go_roundw
            case rel => exact ⟨k + 1, p + 1, a2, c2, by omega, by go_num, by omega, X6, W6⟩
            case measure => (simp [intOf]; try omega)
      · obtain rfl : k = n := by omega
        have hfin : keptTo K L k = fenceK K L := by rw [← keptTo_all, HL.out]
        have hopen : openTo L k = fenceL L := by rw [← openTo_all, HL.out]
        obtain ⟨FK, hFK⟩ : ∃ FK, fenceK K L = FK := ⟨_, rfl⟩
        rw [hfin, hopen, hFK] at HX
        rw [hFK] at HEK
        clear hfin hopen hFK x0 x1
        have hbH := S1.out
        have c0 := HX.out.two.c0
        have c1 := HX.out.two.c1
        have r0 := Rr.out.c0
        have r1 := Rr.out.c1
        have f0 := Rr.out.fr (o := 0)
        have f1 := Rr.out.fr (o := 1)
        have q := two_set1 (two_set0 Rr.out (x := .string FK)) (x := .slice a' p c')
        have q0 := cell0_of_two q
        have q1 := cell1_of_two q
        have HG := Lib.hid (gives_box (w := w) (b2 := w.heap.size + 1) (u := .string FK) (v := .slice a' p c') HX.out (by omega) BW.out (by omega) (fun p hp => by
          obtain ⟨ad9, cap9, hv9, _, _, hpl9⟩ := ownE_form HX.out.own
          cases hv9
          obtain ⟨g9, e9, h9, _⟩ := hpl9 p hp
          rw [e9]; show g9 ≠ w.heap.size + 1; omega))
        clear q
        go_wp2
        refine bodyPost_ret (v := .agg #[.string FK, .slice a' p c']) ?_ rfl ⟨_, by rw [HEK.out], by rw [HE.out]; exact HG.out.1, HG.out.2⟩
        simp [results, Try.results39, go_sem, q0, q1]
  · rw [memOkB_no hok]
    have HEK := Lib.hid (fencedK_bad hok)
    have HE := Lib.hid (fencedL_bad hok)
    clear hok
    have z0 := T1.out.c0
    have z1 := T1.out.c1
    go_wp2_with fail
    clear z0 z1
    refine (specCopy_any K a n c L w1 (HS.out.later B1.out) hn).mono ?_
    rintro e w2 ⟨v, rfl, hown, hb2⟩
    obtain ⟨ad, cap, rfl, hnc, hcm, hpl⟩ := ownE_form hown
    have R2 := Lib.hid (R1.out.later hb2)
    have B2 : Hid (Below w.heap.size w w2) := Lib.hid (B1.out.trans (hb2.mono B1.out.size))
    have O2 := Lib.hid hown
    have r0 := R2.out.c0
    have r1 := R2.out.c1
    have f0 := R2.out.fr (o := 0)
    have f1 := R2.out.fr (o := 1)
    have q := two_set1 (two_set0 R2.out (x := .string K)) (x := .slice ad L.length cap)
    have q0 := cell0_of_two q
    have q1 := cell1_of_two q
    clear q hown hb2 hpl hcm hnc
    go_wp2
    refine bodyPost_ret (v := .agg #[.string K, .slice ad L.length cap]) ?_ rfl ⟨_, by rw [HEK.out], ?_, (B2.out.setCell (by simp) _).setCell (by simp) _⟩
    · simp [results, Try.results39, go_sem, q0, q1]
    · rw [HE.out]
      have hne : ∀ g, (Value.slice ad L.length cap).ownBlock = some g → w.heap.size + 2 ≤ g := fun g hg => Nat.le_trans S1.out (O2.out.lt g hg).1
      exact ownsRow_setCell_other (ownsRow_setCell_other (ownE_mono O2.out B1.out.size) (fun h => by have := hne _ h; simp at this) _) (fun h => by have := hne _ h; simp at this) _
end Go.Proofs.Ytlemlgadjapamaa
