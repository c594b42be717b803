/- FlushLine: the model's and the program's. -/
import Derived.Test.YtlemlgadjapamaaFlushPtr
import Derived.Test.YtlemlgadjapamaaCopySpec
import Derived.Test.YtlemlgadjapamaaMemWord
namespace Go.Proofs.Ytlemlgadjapamaa
open Go.RowKit Go.Proofs.Ytlemlgadjapamaa.Parts Go.Proofs.Ytlemlgadjapamaa.Hexa

noncomputable def flushedL (K : ByteArray) (L : List C3) (l : Int) : List C3 := if memOkB K L = true then flushL L l else L
theorem flushedL_ok {K : ByteArray} {L : List C3} {l : Int} (h : MemOk K L) : flushedL K L l = flushL L l := if_pos (memOkB_yes h)
theorem flushedL_bad {K : ByteArray} {L : List C3} {l : Int} (h : ¬ MemOk K L) : flushedL K L l = L := if_neg (by rw [memOkB_no h]; simp)
theorem flushedL_len (K : ByteArray) (L : List C3) (l : Int) : (flushedL K L l).length ≤ L.length + 1 := by
  unfold flushedL flushL
  split
  · split <;> simp
  · omega
/-- What the call gives, out of a memory behind a pointer. -/
theorem gives_box {w w' : World} {M b b2 : Nat} {K : ByteArray} {a : Option Addr} {n c : Nat} {L : List C3} {u v : Value} (h : BoxM w' M b K a n c L) (hM : w.heap.size ≤ M) (hb : Below w.heap.size w w') (hlt : w.heap.size ≤ b2) (hne : ∀ p, a = some p → p.block ≠ b2) :
    ((w'.setCell ⟨b2, 0, none⟩ u).setCell ⟨b2, 1, none⟩ v).ownsRow w.heap.size 68 3 (.slice a n c) L.length (cellsE encC L) ∧ Below w.heap.size w ((w'.setCell ⟨b2, 0, none⟩ u).setCell ⟨b2, 1, none⟩ v) := by
  refine ⟨?_, (hb.setCell hlt _).setCell hlt _⟩
  rw [h.len]
  have hn : (Value.slice a n c).ownBlock ≠ some b2 := by
    cases a with
    | none => simp [Value.ownBlock]
    | some p => have := hne p rfl; simpa [Value.ownBlock] using this
  exact ownsRow_setCell_other (ownsRow_setCell_other (ownE_mono h.own hM) hn _) hn _

set_option maxRecDepth 100000 in
set_option maxHeartbeats 2000000 in
theorem implFlush_any (K : ByteArray) (a : Option Addr) (n c : Nat) (L : List C3) (l : Int) (w : World) (hs : SrcC w a n L) (hn : n ≤ 1048600) (hK : K.size ≤ 1048600) (hF : FitT L 1048600) :
    Calls Try.prog 21 #[.agg #[.string K, .slice a n c], .int .i64 l] w (GivesM K (flushedL K L l) w) := by
  have HS := Lib.hid hs
  have HL := Lib.hid hs.len
  have HF := Lib.hid hF
  have hb0 : Below w.heap.size w ((w.alloc (.cells #[.string K, .slice a n c] 26)).alloc (.cells #[.string ⟨#[]⟩, .slice none 0 0] 26)) := ((Below.refl _ _).alloc (Nat.le_refl _) _).alloc (by simp) _
  have k0 : Two ((w.alloc (.cells #[.string K, .slice a n c] 26)).alloc (.cells #[.string ⟨#[]⟩, .slice none 0 0] 26)) w.heap.size (.string K) (.slice a n c) 26 := (Two.alloc w _ _ _).later (below_alloc _ _)
  have k1 : Two ((w.alloc (.cells #[.string K, .slice a n c] 26)).alloc (.cells #[.string ⟨#[]⟩, .slice none 0 0] 26)) (w.heap.size + 1) (.string ⟨#[]⟩) (.slice none 0 0) 26 := by
    have h := Two.alloc (w.alloc (.cells #[.string K, .slice a n c] 26)) (.string ⟨#[]⟩) (.slice none 0 0) 26
    simpa using h
  have k3 : ((w.alloc (.cells #[.string K, .slice a n c] 26)).alloc (.cells #[.string ⟨#[]⟩, .slice none 0 0] 26)).heap.size = w.heap.size + 2 := by simp
  have K0 := Lib.hid k0
  have K1 := Lib.hid k1
  have K3 := Lib.hid k3
  have B0 := Lib.hid hb0
  clear hs hF hb0 k0 k1 k3
  go_enter Try.func21, Try.ntmps21
  go_wp2_with fail
  obtain ⟨W2, hW⟩ : ∃ x, x = (w.alloc (.cells #[.string K, .slice a n c] 26)).alloc (.cells #[.string ⟨#[]⟩, .slice none 0 0] 26) := ⟨_, rfl⟩
  rw [← hW] at K0 K1 K3 B0 ⊢
  clear hW
  refine (memoryCopy_any K a n c L W2 (HS.out.later B0.out) hn hK HF.out).mono ?_
  rintro e w1 ⟨v, rfl, hown, hb1⟩
  rw [HL.out, K3.out] at hown
  obtain ⟨ad, cap, rfl, hnc, hcm, hpl⟩ := ownE_form hown
  have T3 := Lib.hid ((K0.out.later hb1).later (below_alloc w1 (.cells #[.string K, .slice ad n cap] 26)))
  have R3 := Lib.hid ((K1.out.later hb1).later (below_alloc w1 (.cells #[.string K, .slice ad n cap] 26)))
  have X3 : Hid (BoxM (w1.alloc (.cells #[.string K, .slice ad n cap] 26)) (w.heap.size + 2) w1.heap.size K ad n cap L) := Lib.hid ⟨Two.alloc w1 _ _ _, own_below hown (below_alloc w1 _), by have := hb1.size; rw [K3.out] at this; exact this, fun p hp => by
    obtain ⟨g, e, _, hg⟩ := hpl p hp
    rw [e]; exact Nat.ne_of_lt hg⟩
  have B3 : Hid (Below w.heap.size w (w1.alloc (.cells #[.string K, .slice ad n cap] 26))) := Lib.hid (B0.out.trans ((hb1.trans ((below_alloc w1 _).mono hb1.size)).mono B0.out.size))
  have c0 := T3.out.c0
  have c1 := T3.out.c1
  unfold maxLen at hcm
  clear hown hb1 hpl K0 K1
  go_wp2_with fail
  clear c0 c1
  obtain ⟨b, hb⟩ : ∃ b, w1.heap.size = b := ⟨_, rfl⟩
  obtain ⟨w3, h3⟩ : ∃ x, x = w1.alloc (.cells #[.string K, .slice ad n cap] 26) := ⟨_, rfl⟩
  rw [hb] at X3 ⊢
  rw [← h3] at X3 T3 R3 B3 ⊢
  clear hb h3
  refine (implOk_any K a n c L w3 (HS.out.later B3.out) hn hK).mono ?_
  rintro e w4 ⟨rfl, hb4⟩
  have R4 := Lib.hid (R3.out.later hb4)
  have X4 := Lib.hid (X3.out.later hb4)
  have B4 : Hid (Below w.heap.size w w4) := Lib.hid (B3.out.trans (hb4.mono B3.out.size))
  clear hb4
  by_cases hok : MemOk K L
  · rw [memOkB_yes hok]
    have HOK := Lib.hid hok
    have HE := Lib.hid (flushedL_ok (l := l) hok)
    clear hok
    go_wp2_with fail
    refine (flush_any (w.heap.size + 2) b K ad n cap L l w4 X4.out hn HOK.out).mono ?_
    rintro e w5 ⟨rfl, hx5, hb5⟩
    have X5 := Lib.hid hx5
    have R5 : Hid (Two w5 (w.heap.size + 1) (.string ⟨#[]⟩) (.slice none 0 0) 26) := Lib.hid ((hb5.block _ (by omega)).trans R4.out)
    have B5 : Hid (Below w.heap.size w w5) := Lib.hid (B4.out.trans (hb5.mono (by omega)))
    clear hx5 hb5
    have c0 := X5.out.two.c0
    have c1 := X5.out.two.c1
    have r0 := R5.out.c0
    have r1 := R5.out.c1
    have f0 := R5.out.fr (o := 0)
    have f1 := R5.out.fr (o := 1)
    have q := two_set1 (two_set0 R5.out (x := .string K)) (x := .slice ad n cap)
    have q0 := cell0_of_two q
    have q1 := cell1_of_two q
    have HG := Lib.hid (gives_box (w := w) (b2 := w.heap.size + 1) (u := .string K) (v := .slice ad n cap) X5.out (by omega) B5.out (by omega) (fun p hp => by
      obtain ⟨ad9, cap9, hv9, _, _, hpl9⟩ := ownE_form X5.out.own
      cases hv9
      obtain ⟨g9, e9, h9, _⟩ := hpl9 p hp
      rw [e9]; show g9 ≠ w.heap.size + 1; omega))
    clear q
    go_wp2
    refine bodyPost_ret (v := .agg #[.string K, .slice ad n cap]) ?_ rfl ⟨_, rfl, by rw [HE.out]; exact HG.out.1, HG.out.2⟩
    simp [results, Try.results21, go_sem, q0, q1]
  · rw [memOkB_no hok]
    have HE := Lib.hid (flushedL_bad (l := l) hok)
    clear hok
    have c0 := X4.out.two.c0
    have c1 := X4.out.two.c1
    have r0 := R4.out.c0
    have r1 := R4.out.c1
    have f0 := R4.out.fr (o := 0)
    have f1 := R4.out.fr (o := 1)
    have q := two_set1 (two_set0 R4.out (x := .string K)) (x := .slice ad n cap)
    have q0 := cell0_of_two q
    have q1 := cell1_of_two q
    have HG := Lib.hid (gives_box (w := w) (b2 := w.heap.size + 1) (u := .string K) (v := .slice ad n cap) X4.out (by omega) B4.out (by omega) (fun p hp => by
      obtain ⟨ad9, cap9, hv9, _, _, hpl9⟩ := ownE_form X4.out.own
      cases hv9
      obtain ⟨g9, e9, h9, _⟩ := hpl9 p hp
      rw [e9]; show g9 ≠ w.heap.size + 1; omega))
    clear q
    go_wp2
    refine bodyPost_ret (v := .agg #[.string K, .slice ad n cap]) ?_ rfl ⟨_, rfl, by rw [HE.out]; exact HG.out.1, HG.out.2⟩
    simp [results, Try.results21, go_sem, q0, q1]

set_option maxRecDepth 100000 in
set_option maxHeartbeats 2000000 in
theorem specFlush_any (K : ByteArray) (a : Option Addr) (n c : Nat) (L : List C3) (l : Int) (w : World) (hs : SrcC w a n L) (hn : n ≤ 1048600) (hK : K.size ≤ 1048600) (hF : FitT L 1048600) :
    Calls Try.prog 38 #[.agg #[.string K, .slice a n c], .int .i64 l] w (GivesM K (flushedL K L l) w) := by
  have HS := Lib.hid hs
  have HL := Lib.hid hs.len
  have HF := Lib.hid hF
  have hb0 : Below w.heap.size w ((w.alloc (.cells #[.string K, .slice a n c] 26)).alloc (.cells #[.string ⟨#[]⟩, .slice none 0 0] 26)) := ((Below.refl _ _).alloc (Nat.le_refl _) _).alloc (by simp) _
  have k0 : Two ((w.alloc (.cells #[.string K, .slice a n c] 26)).alloc (.cells #[.string ⟨#[]⟩, .slice none 0 0] 26)) w.heap.size (.string K) (.slice a n c) 26 := (Two.alloc w _ _ _).later (below_alloc _ _)
  have k1 : Two ((w.alloc (.cells #[.string K, .slice a n c] 26)).alloc (.cells #[.string ⟨#[]⟩, .slice none 0 0] 26)) (w.heap.size + 1) (.string ⟨#[]⟩) (.slice none 0 0) 26 := by
    have h := Two.alloc (w.alloc (.cells #[.string K, .slice a n c] 26)) (.string ⟨#[]⟩) (.slice none 0 0) 26
    simpa using h
  have k3 : ((w.alloc (.cells #[.string K, .slice a n c] 26)).alloc (.cells #[.string ⟨#[]⟩, .slice none 0 0] 26)).heap.size = w.heap.size + 2 := by simp
  have K0 := Lib.hid k0
  have K1 := Lib.hid k1
  have K3 := Lib.hid k3
  have B0 := Lib.hid hb0
  clear hs hF hb0 k0 k1 k3
  go_enter Try.func38, Try.ntmps38
  go_wp2_with fail
  obtain ⟨W2, hW⟩ : ∃ x, x = (w.alloc (.cells #[.string K, .slice a n c] 26)).alloc (.cells #[.string ⟨#[]⟩, .slice none 0 0] 26) := ⟨_, rfl⟩
  rw [← hW] at K0 K1 K3 B0 ⊢
  clear hW
  refine (specCopy_any K a n c L W2 (HS.out.later B0.out) hn).mono ?_
  rintro e w1 ⟨v, rfl, hown, hb1⟩
  rw [HL.out, K3.out] at hown
  obtain ⟨ad, cap, rfl, hnc, hcm, hpl⟩ := ownE_form hown
  have T3 := Lib.hid ((K0.out.later hb1).later (below_alloc w1 (.cells #[.string K, .slice ad n cap] 26)))
  have R3 := Lib.hid ((K1.out.later hb1).later (below_alloc w1 (.cells #[.string K, .slice ad n cap] 26)))
  have X3 : Hid (BoxM (w1.alloc (.cells #[.string K, .slice ad n cap] 26)) (w.heap.size + 2) w1.heap.size K ad n cap L) := Lib.hid ⟨Two.alloc w1 _ _ _, own_below hown (below_alloc w1 _), by have := hb1.size; rw [K3.out] at this; exact this, fun p hp => by
    obtain ⟨g, e, _, hg⟩ := hpl p hp
    rw [e]; exact Nat.ne_of_lt hg⟩
  have B3 : Hid (Below w.heap.size w (w1.alloc (.cells #[.string K, .slice ad n cap] 26))) := Lib.hid (B0.out.trans ((hb1.trans ((below_alloc w1 _).mono hb1.size)).mono B0.out.size))
  have c0 := T3.out.c0
  have c1 := T3.out.c1
  unfold maxLen at hcm
  clear hown hb1 hpl K0 K1
  go_wp2_with fail
  clear c0 c1
  obtain ⟨b, hb⟩ : ∃ b, w1.heap.size = b := ⟨_, rfl⟩
  obtain ⟨w3, h3⟩ : ∃ x, x = w1.alloc (.cells #[.string K, .slice ad n cap] 26) := ⟨_, rfl⟩
  rw [hb] at X3 ⊢
  rw [← h3] at X3 T3 R3 B3 ⊢
  clear hb h3
  refine (specCell_any K a n c L l w3 (HS.out.later B3.out) hn).mono ?_
  rintro e w4 ⟨rfl, hb4⟩
  have R4 := Lib.hid (R3.out.later hb4)
  have T4 := Lib.hid (T3.out.later hb4)
  have X4 := Lib.hid (X3.out.later hb4)
  have B4 : Hid (Below w.heap.size w w4) := Lib.hid (B3.out.trans (hb4.mono B3.out.size))
  clear hb4
  cases hc : cellIdx L l with
  | none =>
    have HI : Hid (idxI L l = -1) := Lib.hid (by unfold idxI; rw [hc])
    have HE : Hid (flushedL K L l = L) := Lib.hid (by unfold flushedL flushL; rw [hc]; simp)
    clear hc
    rw [HI.out]
    have c0 := X4.out.two.c0
    have c1 := X4.out.two.c1
    have r0 := R4.out.c0
    have r1 := R4.out.c1
    have f0 := R4.out.fr (o := 0)
    have f1 := R4.out.fr (o := 1)
    have q := two_set1 (two_set0 R4.out (x := .string K)) (x := .slice ad n cap)
    have q0 := cell0_of_two q
    have q1 := cell1_of_two q
    have HG := Lib.hid (gives_box (w := w) (b2 := w.heap.size + 1) (u := .string K) (v := .slice ad n cap) X4.out (by omega) B4.out (by omega) (fun p hp => by
      obtain ⟨ad9, cap9, hv9, _, _, hpl9⟩ := ownE_form X4.out.own
      cases hv9
      obtain ⟨g9, e9, h9, _⟩ := hpl9 p hp
      rw [e9]; show g9 ≠ w.heap.size + 1; omega))
    clear q
    go_wp2
    refine bodyPost_ret (v := .agg #[.string K, .slice ad n cap]) ?_ rfl ⟨_, rfl, by rw [HE.out]; exact HG.out.1, HG.out.2⟩
    simp [results, Try.results38, go_sem, q0, q1]
  | some k =>
    have HI : Hid (idxI L l = (k : Int)) := Lib.hid (by unfold idxI; rw [hc])
    have HE2 : Hid (flushL L l = L.set k ⟨(L.getD k default).l, (L.getD k default).t, true⟩) := Lib.hid (by unfold flushL; rw [hc])
    have HPL := Lib.hid (cellIdx_is hc).1
    have hpn : k < n := by have := HPL.out; have := HL.out; omega
    clear hc
    rw [HI.out]
    have z0 := T4.out.c0
    have z1 := T4.out.c1
    go_wp2_with fail
    clear z0 z1
    refine (specOk_any K a n c L w4 (HS.out.later B4.out) hn hK).mono ?_
    rintro e w5 ⟨rfl, hb5⟩
    have R5 := Lib.hid (R4.out.later hb5)
    have X5 := Lib.hid (X4.out.later hb5)
    have B5 : Hid (Below w.heap.size w w5) := Lib.hid (B4.out.trans (hb5.mono B4.out.size))
    clear hb5
    by_cases hok : MemOk K L
    · rw [memOkB_yes hok]
      have HE : Hid (flushedL K L l = L.set k ⟨(L.getD k default).l, (L.getD k default).t, true⟩) := Lib.hid (by rw [flushedL_ok hok, HE2.out])
      clear hok
      obtain ⟨g, off, rfl, hg, d1, d2, d3⟩ := X5.out.src.cells3 k hpn
      obtain ⟨ad9, cap9, hv, _, _, hpl⟩ := ownE_form X5.out.own
      cases hv
      obtain ⟨g0, e0, hg0, hg1⟩ := hpl _ rfl
      cases e0
      have f3 := X5.out.own.frozenAt (k * 3 + 2)
      have x1 := X5.out.two.c1
      have X6 := Lib.hid (X5.out.stored (k * 3 + 2) (.bool true) (set_flag true HPL.out))
      have B6 := Lib.hid (B5.out.setCell (p := ⟨g, k * 3 + 2, none⟩) (by show w.heap.size ≤ g; omega) (.bool true))
      have R6 : Hid (Two (w5.setCell ⟨g, k * 3 + 2, none⟩ (.bool true)) (w.heap.size + 1) (.string ⟨#[]⟩) (.slice none 0 0) 26) := Lib.hid ((Below.heap_setCell w5 ⟨g, k * 3 + 2, none⟩ _ _ (by show w.heap.size + 1 ≠ g; omega)).trans R5.out)
      simp only [Nat.zero_add] at d1 d2 d3
      clear hpl
      have c0 := X6.out.two.c0
      have c1 := X6.out.two.c1
      have r0 := R6.out.c0
      have r1 := R6.out.c1
      have f0 := R6.out.fr (o := 0)
      have f1 := R6.out.fr (o := 1)
      have q := two_set1 (two_set0 R6.out (x := .string K)) (x := .slice (some ⟨g, 0, none⟩) n cap)
      have q0 := cell0_of_two q
      have q1 := cell1_of_two q
      have HG := Lib.hid (gives_box (w := w) (b2 := w.heap.size + 1) (u := .string K) (v := .slice (some ⟨g, 0, none⟩) n cap) X6.out (by omega) B6.out (by omega) (fun p hp => by
        obtain ⟨ad9, cap9, hv9, _, _, hpl9⟩ := ownE_form X6.out.own
        cases hv9
        obtain ⟨g9, e9, h9, _⟩ := hpl9 p hp
        rw [e9]; show g9 ≠ w.heap.size + 1; omega))
      clear q
      go_wp2
      refine bodyPost_ret (v := .agg #[.string K, .slice (some ⟨g, 0, none⟩) n cap]) ?_ rfl ⟨_, rfl, by rw [HE.out]; exact HG.out.1, HG.out.2⟩
      simp [results, Try.results38, go_sem, q0, q1]
    · rw [memOkB_no hok]
      have HE := Lib.hid (flushedL_bad (l := l) hok)
      clear hok
      have c0 := X5.out.two.c0
      have c1 := X5.out.two.c1
      have r0 := R5.out.c0
      have r1 := R5.out.c1
      have f0 := R5.out.fr (o := 0)
      have f1 := R5.out.fr (o := 1)
      have q := two_set1 (two_set0 R5.out (x := .string K)) (x := .slice ad n cap)
      have q0 := cell0_of_two q
      have q1 := cell1_of_two q
      have HG := Lib.hid (gives_box (w := w) (b2 := w.heap.size + 1) (u := .string K) (v := .slice ad n cap) X5.out (by omega) B5.out (by omega) (fun p hp => by
        obtain ⟨ad9, cap9, hv9, _, _, hpl9⟩ := ownE_form X5.out.own
        cases hv9
        obtain ⟨g9, e9, h9, _⟩ := hpl9 p hp
        rw [e9]; show g9 ≠ w.heap.size + 1; omega))
      clear q
      go_wp2
      refine bodyPost_ret (v := .agg #[.string K, .slice ad n cap]) ?_ rfl ⟨_, rfl, by rw [HE.out]; exact HG.out.1, HG.out.2⟩
      simp [results, Try.results38, go_sem, q0, q1]
end Go.Proofs.Ytlemlgadjapamaa
