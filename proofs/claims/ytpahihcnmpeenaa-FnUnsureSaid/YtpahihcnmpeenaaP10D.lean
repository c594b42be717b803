/- Merged texts: MemWord, Flush, FenceMath, NumMath, Made, CopyAt, FencePtr, KeepSpec. -/
import Derived.Test.YtpahihcnmpeenaaP10C
import Derived.Deep.QuietTactic
import Derived.BigQuiet
import Derived.Laws.MakeOwn
import Derived.Lib.AppendStr
import Derived.StillTailTactics
namespace Go.Proofs.Ytpahihcnmpeenaa
open Go.RowKit Go.Proofs.Ytpahihcnmpeenaa.Parts Go.Proofs.Ytpahihcnmpeenaa.Hexa

def idxI (L : List C3) (l : Int) : Int := match cellIdx L l with | some k => (k : Int) | none => -1
theorem ret_strm {a b : ByteArray} (h : a = b) : Ending.returned (.string a) = .returned (.string b) := by rw [h]
theorem ret_intm {a b : Int} (h : a = b) : Ending.returned (.int .i64 a) = .returned (.int .i64 b) := by rw [h]

set_option maxRecDepth 100000 in
set_option maxHeartbeats 1000000 in
theorem specCell_any (K : ByteArray) (a : Option Addr) (n c : Nat) (L : List C3) (l : Int) (w : World) (hs : SrcC w a n L) (hn : n ≤ 1048600) :
    Calls Try.prog 73 #[.agg #[.string K, .slice a n c], .int .i64 l] w fun e w' => e = .returned (.int .i64 (idxI L l)) ∧ Below w.heap.size w w' := by
  have HS := Lib.hid hs
  have HL := Lib.hid hs.len
  have B0 := Lib.hid (below_alloc w (.cells #[.string K, .slice a n c] 26))
  clear hs
  go_enter Try.func73, Try.ntmps73
  go_wp2
  go_loopw [5] (fun iv wr => ∃ (k : Nat), k ≤ n ∧ iv = .int .i64 k ∧ Hid (∀ j, j < k → (L.getD j default).l ≠ l) ∧ Below (w.heap.size + 1) (w.alloc (.cells #[.string K, .slice a n c] 26)) wr)
    (fun iv _ => n - (intOf iv).toNat)
  case atStart => exact ⟨0, Nat.zero_le _, rfl, Lib.hid (fun j hj => by omega), Below.refl _ _⟩
  case round =>
    obtain ⟨k, hk, rfl, HA, hbel⟩ := hrel
    have BW : Hid (Below w.heap.size w wr) := Lib.hid (B0.out.trans (hbel.mono (by omega)))
    have q1 := cell1_of_two (below_two hbel)
    have HB := Lib.hid hbel
    clear hbel
    by_cases hlt : k < n
    · obtain ⟨g, off, rfl, hg, d1, d2, d3⟩ := HS.out.cells3_at BW.out (Nat.le_refl _) k hlt
      obtain ⟨x, hx⟩ : ∃ x, (L.getD k default).l = x := ⟨_, rfl⟩
      rw [hx] at d1
      have HX := Lib.hid hx
      clear hx d2 d3
      by_cases e : x = l
      · have HR : Hid (idxI L l = (k : Int)) := Lib.hid (by unfold idxI; rw [cellIdx_some (k := k) (by have := HL.out; omega) (by rw [HX.out, e]) HA.out])
        subst e
        go_wp2
        go_ret
        exact ⟨ret_intm HR.out.symm, BW.out⟩
      · have he : (x == l) = false := by simpa using e
        have HA2 : Hid (∀ j, j < k + 1 → (L.getD j default).l ≠ l) := Lib.hid (fun j hj => by
          by_cases ej : j = k
          · subst ej; rw [HX.out]; exact e
          · exact HA.out j (by omega))
        go_wp2
        go_roundw
        case rel => exact ⟨k + 1, by omega, by go_num, HA2, HB.out⟩
        case measure => (simp [intOf]; try omega)
    · obtain rfl : k = n := by omega
      have HR : Hid (idxI L l = -1) := Lib.hid (by unfold idxI; rw [cellIdx_none (by rw [HL.out]; exact HA.out)])
      go_wp2
      go_ret
      exact ⟨ret_intm HR.out.symm, BW.out⟩

set_option maxRecDepth 100000 in
set_option maxHeartbeats 1000000 in
theorem specLine_any (K : ByteArray) (a : Option Addr) (n c : Nat) (L : List C3) (l : Nat) (w : World) (hs : SrcC w a n L) (hn : n ≤ 1048600) (hok : MemOk K L) (hl : l < K.size / 16) :
    Calls Try.prog 81 #[.agg #[.string K, .slice a n c], .int .i64 l] w fun e w' => e = .returned (.string (lineT K L l)) ∧ Below w.heap.size w w' := by
  have HS := Lib.hid hs
  have HL := Lib.hid hs.len
  have B0 := Lib.hid (below_alloc w (.cells #[.string K, .slice a n c] 26))
  have T0 := Lib.hid (Two.alloc w (.string K) (.slice a n c) 26)
  have hk2 := hok.2.1
  clear hs hok
  cases hc : cellIdx L l with
  | some k =>
    have HE : Hid (lineT K L l = (L.getD k default).t) := Lib.hid (by unfold lineT; rw [hc])
    have HI : Hid (idxI L l = (k : Int)) := Lib.hid (by unfold idxI; rw [hc])
    have hkn : k < n := by have := (cellIdx_is hc).1; have := HL.out; omega
    clear hc
    obtain ⟨g, off, rfl, hg, _, _, _⟩ := HS.out.cells3 k hkn
    go_enter Try.func81, Try.ntmps81
    go_wp2_with fail
    refine (specCell_any K _ n c L l _ (HS.out.later B0.out) hn).mono ?_
    rw [HI.out]
    rintro e w1 ⟨rfl, hb1⟩
    have T1 := Lib.hid (T0.out.later hb1)
    have B1 := Lib.hid (B0.out.trans (hb1.mono B0.out.size))
    have q1 := T1.out.c1
    obtain ⟨g', off', hg', _, _, d2, _⟩ := HS.out.cells3_at B1.out (Nat.le_refl _) k hkn
    cases hg'
    clear hb1
    go_wp2
    go_ret
    exact ⟨ret_strm HE.out.symm, B1.out⟩
  | none =>
    have HE : Hid (lineT K L l = K.extract (l * 16) ((l + 1) * 16)) := Lib.hid (by unfold lineT; rw [hc, show 16 * l = l * 16 by omega, show (l + 1) * 16 = l * 16 + 16 by omega])
    have HI : Hid (idxI L l = -1) := Lib.hid (by unfold idxI; rw [hc])
    clear hc
    go_enter Try.func81, Try.ntmps81
    go_wp2_with fail
    refine (specCell_any K _ n c L l _ (HS.out.later B0.out) hn).mono ?_
    rw [HI.out]
    rintro e w1 ⟨rfl, hb1⟩
    have T1 := Lib.hid (T0.out.later hb1)
    have B1 := Lib.hid (B0.out.trans (hb1.mono B0.out.size))
    have q0 := T1.out.c0
    clear hb1
    go_wp2
    go_quiet ((go_at_call 66; first | exact Calls.quiet_of_same (size_any _) | exact quiet_anew size_any))
    go_wp2
    go_ret
    exact ⟨ret_strm HE.out.symm, below_drewsN B1.out _⟩
end Go.Proofs.Ytpahihcnmpeenaa
namespace Go.Proofs.Ytpahihcnmpeenaa
open Go.RowKit Go.Proofs.Ytpahihcnmpeenaa.Parts Go.Proofs.Ytpahihcnmpeenaa.Hexa

noncomputable def flushedL (K : ByteArray) (L : List C3) (l : Int) : List C3 := if memOkB K L = true then flushL L l else L
theorem flushedL_ok {K : ByteArray} {L : List C3} {l : Int} (h : MemOk K L) : flushedL K L l = flushL L l := if_pos (memOkB_yes h)
theorem flushedL_bad {K : ByteArray} {L : List C3} {l : Int} (h : ¬ MemOk K L) : flushedL K L l = L := if_neg (by rw [memOkB_no h]; simp)
theorem flushedL_len (K : ByteArray) (L : List C3) (l : Int) : (flushedL K L l).length ≤ L.length + 1 := by
  unfold flushedL flushL
  split
  · split <;> simp
  · omega
/-- What the call gives, out of a memory behind a pointer. -/
theorem gives_box {w w' : World} {M b b2 : Nat} {K : ByteArray} {a : Option Addr} {n c : Nat} {L : List C3} {u v : Value} (h : BoxM w' M b K a n c L) (hM : w.heap.size ≤ M) (hb : Below w.heap.size w w') (hlt : w.heap.size ≤ b2) (hne : ∀ p, a = some p → p.block ≠ b2) :
    ((w'.setCell ⟨b2, 0, none⟩ u).setCell ⟨b2, 1, none⟩ v).ownsRow w.heap.size 68 3 (.slice a n c) L.length (cellsE encC L) ∧ Below w.heap.size w ((w'.setCell ⟨b2, 0, none⟩ u).setCell ⟨b2, 1, none⟩ v) := by
  refine ⟨?_, (hb.setCell hlt _).setCell hlt _⟩
  rw [h.len]
  have hn : (Value.slice a n c).ownBlock ≠ some b2 := by
    cases a with
    | none => simp [Value.ownBlock]
    | some p => have := hne p rfl; simpa [Value.ownBlock] using this
  exact ownsRow_setCell_other (ownsRow_setCell_other (ownE_mono h.own hM) hn _) hn _

set_option maxRecDepth 100000 in
set_option maxHeartbeats 2000000 in
theorem implFlush_any (K : ByteArray) (a : Option Addr) (n c : Nat) (L : List C3) (l : Int) (w : World) (hs : SrcC w a n L) (hn : n ≤ 1048600) (hK : K.size ≤ 1048600) (hF : FitT L 1048600) :
    Calls Try.prog 21 #[.agg #[.string K, .slice a n c], .int .i64 l] w (GivesM K (flushedL K L l) w) := by
  have HS := Lib.hid hs
  have HL := Lib.hid hs.len
  have HF := Lib.hid hF
  have hb0 : Below w.heap.size w ((w.alloc (.cells #[.string K, .slice a n c] 26)).alloc (.cells #[.string ⟨#[]⟩, .slice none 0 0] 26)) := ((Below.refl _ _).alloc (Nat.le_refl _) _).alloc (by simp) _
  have k0 : Two ((w.alloc (.cells #[.string K, .slice a n c] 26)).alloc (.cells #[.string ⟨#[]⟩, .slice none 0 0] 26)) w.heap.size (.string K) (.slice a n c) 26 := (Two.alloc w _ _ _).later (below_alloc _ _)
  have k1 : Two ((w.alloc (.cells #[.string K, .slice a n c] 26)).alloc (.cells #[.string ⟨#[]⟩, .slice none 0 0] 26)) (w.heap.size + 1) (.string ⟨#[]⟩) (.slice none 0 0) 26 := by
    have h := Two.alloc (w.alloc (.cells #[.string K, .slice a n c] 26)) (.string ⟨#[]⟩) (.slice none 0 0) 26
    simpa using h
  have k3 : ((w.alloc (.cells #[.string K, .slice a n c] 26)).alloc (.cells #[.string ⟨#[]⟩, .slice none 0 0] 26)).heap.size = w.heap.size + 2 := by simp
  have K0 := Lib.hid k0
  have K1 := Lib.hid k1
  have K3 := Lib.hid k3
  have B0 := Lib.hid hb0
  clear hs hF hb0 k0 k1 k3
  go_enter Try.func21, Try.ntmps21
  go_wp2_with fail
  obtain ⟨W2, hW⟩ : ∃ x, x = (w.alloc (.cells #[.string K, .slice a n c] 26)).alloc (.cells #[.string ⟨#[]⟩, .slice none 0 0] 26) := ⟨_, rfl⟩
  rw [← hW] at K0 K1 K3 B0 ⊢
  clear hW
  refine (memoryCopy_any K a n c L W2 (HS.out.later B0.out) hn hK HF.out).mono ?_
  rintro e w1 ⟨v, rfl, hown, hb1⟩
  rw [HL.out, K3.out] at hown
  obtain ⟨ad, cap, rfl, hnc, hcm, hpl⟩ := ownE_form hown
  have T3 := Lib.hid ((K0.out.later hb1).later (below_alloc w1 (.cells #[.string K, .slice ad n cap] 26)))
  have R3 := Lib.hid ((K1.out.later hb1).later (below_alloc w1 (.cells #[.string K, .slice ad n cap] 26)))
  have X3 : Hid (BoxM (w1.alloc (.cells #[.string K, .slice ad n cap] 26)) (w.heap.size + 2) w1.heap.size K ad n cap L) := Lib.hid ⟨Two.alloc w1 _ _ _, own_below hown (below_alloc w1 _), by have := hb1.size; rw [K3.out] at this; exact this, fun p hp => by
    obtain ⟨g, e, _, hg⟩ := hpl p hp
    rw [e]; exact Nat.ne_of_lt hg⟩
  have B3 : Hid (Below w.heap.size w (w1.alloc (.cells #[.string K, .slice ad n cap] 26))) := Lib.hid (B0.out.trans ((hb1.trans ((below_alloc w1 _).mono hb1.size)).mono B0.out.size))
  have c0 := T3.out.c0
  have c1 := T3.out.c1
  unfold maxLen at hcm
  clear hown hb1 hpl K0 K1
  go_wp2_with fail
  clear c0 c1
  obtain ⟨b, hb⟩ : ∃ b, w1.heap.size = b := ⟨_, rfl⟩
  obtain ⟨w3, h3⟩ : ∃ x, x = w1.alloc (.cells #[.string K, .slice ad n cap] 26) := ⟨_, rfl⟩
  rw [hb] at X3 ⊢
  rw [← h3] at X3 T3 R3 B3 ⊢
  clear hb h3
  refine (implOk_any K a n c L w3 (HS.out.later B3.out) hn hK).mono ?_
  rintro e w4 ⟨rfl, hb4⟩
  have R4 := Lib.hid (R3.out.later hb4)
  have X4 := Lib.hid (X3.out.later hb4)
  have B4 : Hid (Below w.heap.size w w4) := Lib.hid (B3.out.trans (hb4.mono B3.out.size))
  clear hb4
  by_cases hok : MemOk K L
  · rw [memOkB_yes hok]
    have HOK := Lib.hid hok
    have HE := Lib.hid (flushedL_ok (l := l) hok)
    clear hok
    go_wp2_with fail
    refine (flush_any (w.heap.size + 2) b K ad n cap L l w4 X4.out hn HOK.out).mono ?_
    rintro e w5 ⟨rfl, hx5, hb5⟩
    have X5 := Lib.hid hx5
    have R5 : Hid (Two w5 (w.heap.size + 1) (.string ⟨#[]⟩) (.slice none 0 0) 26) := Lib.hid ((hb5.block _ (by omega)).trans R4.out)
    have B5 : Hid (Below w.heap.size w w5) := Lib.hid (B4.out.trans (hb5.mono (by omega)))
    clear hx5 hb5
    have c0 := X5.out.two.c0
    have c1 := X5.out.two.c1
    have r0 := R5.out.c0
    have r1 := R5.out.c1
    have f0 := R5.out.fr (o := 0)
    have f1 := R5.out.fr (o := 1)
    have q := two_set1 (two_set0 R5.out (x := .string K)) (x := .slice ad n cap)
    have q0 := cell0_of_two q
    have q1 := cell1_of_two q
    have HG := Lib.hid (gives_box (w := w) (b2 := w.heap.size + 1) (u := .string K) (v := .slice ad n cap) X5.out (by omega) B5.out (by omega) (fun p hp => by
      obtain ⟨ad9, cap9, hv9, _, _, hpl9⟩ := ownE_form X5.out.own
      cases hv9
      obtain ⟨g9, e9, h9, _⟩ := hpl9 p hp
      rw [e9]; show g9 ≠ w.heap.size + 1; omega))
    clear q
    go_wp2
    refine bodyPost_ret (v := .agg #[.string K, .slice ad n cap]) ?_ rfl ⟨_, rfl, by rw [HE.out]; exact HG.out.1, HG.out.2⟩
    simp [results, Try.results21, go_sem, q0, q1]
  · rw [memOkB_no hok]
    have HE := Lib.hid (flushedL_bad (l := l) hok)
    clear hok
    have c0 := X4.out.two.c0
    have c1 := X4.out.two.c1
    have r0 := R4.out.c0
    have r1 := R4.out.c1
    have f0 := R4.out.fr (o := 0)
    have f1 := R4.out.fr (o := 1)
    have q := two_set1 (two_set0 R4.out (x := .string K)) (x := .slice ad n cap)
    have q0 := cell0_of_two q
    have q1 := cell1_of_two q
    have HG := Lib.hid (gives_box (w := w) (b2 := w.heap.size + 1) (u := .string K) (v := .slice ad n cap) X4.out (by omega) B4.out (by omega) (fun p hp => by
      obtain ⟨ad9, cap9, hv9, _, _, hpl9⟩ := ownE_form X4.out.own
      cases hv9
      obtain ⟨g9, e9, h9, _⟩ := hpl9 p hp
      rw [e9]; show g9 ≠ w.heap.size + 1; omega))
    clear q
    go_wp2
    refine bodyPost_ret (v := .agg #[.string K, .slice ad n cap]) ?_ rfl ⟨_, rfl, by rw [HE.out]; exact HG.out.1, HG.out.2⟩
    simp [results, Try.results21, go_sem, q0, q1]

set_option maxRecDepth 100000 in
set_option maxHeartbeats 2000000 in
theorem specFlush_any (K : ByteArray) (a : Option Addr) (n c : Nat) (L : List C3) (l : Int) (w : World) (hs : SrcC w a n L) (hn : n ≤ 1048600) (hK : K.size ≤ 1048600) (hF : FitT L 1048600) :
    Calls Try.prog 38 #[.agg #[.string K, .slice a n c], .int .i64 l] w (GivesM K (flushedL K L l) w) := by
  have HS := Lib.hid hs
  have HL := Lib.hid hs.len
  have HF := Lib.hid hF
  have hb0 : Below w.heap.size w ((w.alloc (.cells #[.string K, .slice a n c] 26)).alloc (.cells #[.string ⟨#[]⟩, .slice none 0 0] 26)) := ((Below.refl _ _).alloc (Nat.le_refl _) _).alloc (by simp) _
  have k0 : Two ((w.alloc (.cells #[.string K, .slice a n c] 26)).alloc (.cells #[.string ⟨#[]⟩, .slice none 0 0] 26)) w.heap.size (.string K) (.slice a n c) 26 := (Two.alloc w _ _ _).later (below_alloc _ _)
  have k1 : Two ((w.alloc (.cells #[.string K, .slice a n c] 26)).alloc (.cells #[.string ⟨#[]⟩, .slice none 0 0] 26)) (w.heap.size + 1) (.string ⟨#[]⟩) (.slice none 0 0) 26 := by
    have h := Two.alloc (w.alloc (.cells #[.string K, .slice a n c] 26)) (.string ⟨#[]⟩) (.slice none 0 0) 26
    simpa using h
  have k3 : ((w.alloc (.cells #[.string K, .slice a n c] 26)).alloc (.cells #[.string ⟨#[]⟩, .slice none 0 0] 26)).heap.size = w.heap.size + 2 := by simp
  have K0 := Lib.hid k0
  have K1 := Lib.hid k1
  have K3 := Lib.hid k3
  have B0 := Lib.hid hb0
  clear hs hF hb0 k0 k1 k3
  go_enter Try.func38, Try.ntmps38
  go_wp2_with fail
  obtain ⟨W2, hW⟩ : ∃ x, x = (w.alloc (.cells #[.string K, .slice a n c] 26)).alloc (.cells #[.string ⟨#[]⟩, .slice none 0 0] 26) := ⟨_, rfl⟩
  rw [← hW] at K0 K1 K3 B0 ⊢
  clear hW
  refine (specCopy_any K a n c L W2 (HS.out.later B0.out) hn).mono ?_
  rintro e w1 ⟨v, rfl, hown, hb1⟩
  rw [HL.out, K3.out] at hown
  obtain ⟨ad, cap, rfl, hnc, hcm, hpl⟩ := ownE_form hown
  have T3 := Lib.hid ((K0.out.later hb1).later (below_alloc w1 (.cells #[.string K, .slice ad n cap] 26)))
  have R3 := Lib.hid ((K1.out.later hb1).later (below_alloc w1 (.cells #[.string K, .slice ad n cap] 26)))
  have X3 : Hid (BoxM (w1.alloc (.cells #[.string K, .slice ad n cap] 26)) (w.heap.size + 2) w1.heap.size K ad n cap L) := Lib.hid ⟨Two.alloc w1 _ _ _, own_below hown (below_alloc w1 _), by have := hb1.size; rw [K3.out] at this; exact this, fun p hp => by
    obtain ⟨g, e, _, hg⟩ := hpl p hp
    rw [e]; exact Nat.ne_of_lt hg⟩
  have B3 : Hid (Below w.heap.size w (w1.alloc (.cells #[.string K, .slice ad n cap] 26))) := Lib.hid (B0.out.trans ((hb1.trans ((below_alloc w1 _).mono hb1.size)).mono B0.out.size))
  have c0 := T3.out.c0
  have c1 := T3.out.c1
  unfold maxLen at hcm
  clear hown hb1 hpl K0 K1
  go_wp2_with fail
  clear c0 c1
  obtain ⟨b, hb⟩ : ∃ b, w1.heap.size = b := ⟨_, rfl⟩
  obtain ⟨w3, h3⟩ : ∃ x, x = w1.alloc (.cells #[.string K, .slice ad n cap] 26) := ⟨_, rfl⟩
  rw [hb] at X3 ⊢
  rw [← h3] at X3 T3 R3 B3 ⊢
  clear hb h3
  refine (specCell_any K a n c L l w3 (HS.out.later B3.out) hn).mono ?_
  rintro e w4 ⟨rfl, hb4⟩
  have R4 := Lib.hid (R3.out.later hb4)
  have T4 := Lib.hid (T3.out.later hb4)
  have X4 := Lib.hid (X3.out.later hb4)
  have B4 : Hid (Below w.heap.size w w4) := Lib.hid (B3.out.trans (hb4.mono B3.out.size))
  clear hb4
  cases hc : cellIdx L l with
  | none =>
    have HI : Hid (idxI L l = -1) := Lib.hid (by unfold idxI; rw [hc])
    have HE : Hid (flushedL K L l = L) := Lib.hid (by unfold flushedL flushL; rw [hc]; simp)
    clear hc
    rw [HI.out]
    have c0 := X4.out.two.c0
    have c1 := X4.out.two.c1
    have r0 := R4.out.c0
    have r1 := R4.out.c1
    have f0 := R4.out.fr (o := 0)
    have f1 := R4.out.fr (o := 1)
    have q := two_set1 (two_set0 R4.out (x := .string K)) (x := .slice ad n cap)
    have q0 := cell0_of_two q
    have q1 := cell1_of_two q
    have HG := Lib.hid (gives_box (w := w) (b2 := w.heap.size + 1) (u := .string K) (v := .slice ad n cap) X4.out (by omega) B4.out (by omega) (fun p hp => by
      obtain ⟨ad9, cap9, hv9, _, _, hpl9⟩ := ownE_form X4.out.own
      cases hv9
      obtain ⟨g9, e9, h9, _⟩ := hpl9 p hp
      rw [e9]; show g9 ≠ w.heap.size + 1; omega))
    clear q
    go_wp2
    refine bodyPost_ret (v := .agg #[.string K, .slice ad n cap]) ?_ rfl ⟨_, rfl, by rw [HE.out]; exact HG.out.1, HG.out.2⟩
    simp [results, Try.results38, go_sem, q0, q1]
  | some k =>
    have HI : Hid (idxI L l = (k : Int)) := Lib.hid (by unfold idxI; rw [hc])
    have HE2 : Hid (flushL L l = L.set k ⟨(L.getD k default).l, (L.getD k default).t, true⟩) := Lib.hid (by unfold flushL; rw [hc])
    have HPL := Lib.hid (cellIdx_is hc).1
    have hpn : k < n := by have := HPL.out; have := HL.out; omega
    clear hc
    rw [HI.out]
    have z0 := T4.out.c0
    have z1 := T4.out.c1
    go_wp2_with fail
    clear z0 z1
    refine (specOk_any K a n c L w4 (HS.out.later B4.out) hn hK).mono ?_
    rintro e w5 ⟨rfl, hb5⟩
    have R5 := Lib.hid (R4.out.later hb5)
    have X5 := Lib.hid (X4.out.later hb5)
    have B5 : Hid (Below w.heap.size w w5) := Lib.hid (B4.out.trans (hb5.mono B4.out.size))
    clear hb5
    by_cases hok : MemOk K L
    · rw [memOkB_yes hok]
      have HE : Hid (flushedL K L l = L.set k ⟨(L.getD k default).l, (L.getD k default).t, true⟩) := Lib.hid (by rw [flushedL_ok hok, HE2.out])
      clear hok
      obtain ⟨g, off, rfl, hg, d1, d2, d3⟩ := X5.out.src.cells3 k hpn
      obtain ⟨ad9, cap9, hv, _, _, hpl⟩ := ownE_form X5.out.own
      cases hv
      obtain ⟨g0, e0, hg0, hg1⟩ := hpl _ rfl
      cases e0
      have f3 := X5.out.own.frozenAt (k * 3 + 2)
      have x1 := X5.out.two.c1
      have X6 := Lib.hid (X5.out.stored (k * 3 + 2) (.bool true) (set_flag true HPL.out))
      have B6 := Lib.hid (B5.out.setCell (p := ⟨g, k * 3 + 2, none⟩) (by show w.heap.size ≤ g; omega) (.bool true))
      have R6 : Hid (Two (w5.setCell ⟨g, k * 3 + 2, none⟩ (.bool true)) (w.heap.size + 1) (.string ⟨#[]⟩) (.slice none 0 0) 26) := Lib.hid ((Below.heap_setCell w5 ⟨g, k * 3 + 2, none⟩ _ _ (by show w.heap.size + 1 ≠ g; omega)).trans R5.out)
      simp only [Nat.zero_add] at d1 d2 d3
      clear hpl
      have c0 := X6.out.two.c0
      have c1 := X6.out.two.c1
      have r0 := R6.out.c0
      have r1 := R6.out.c1
      have f0 := R6.out.fr (o := 0)
      have f1 := R6.out.fr (o := 1)
      have q := two_set1 (two_set0 R6.out (x := .string K)) (x := .slice (some ⟨g, 0, none⟩) n cap)
      have q0 := cell0_of_two q
      have q1 := cell1_of_two q
      have HG := Lib.hid (gives_box (w := w) (b2 := w.heap.size + 1) (u := .string K) (v := .slice (some ⟨g, 0, none⟩) n cap) X6.out (by omega) B6.out (by omega) (fun p hp => by
        obtain ⟨ad9, cap9, hv9, _, _, hpl9⟩ := ownE_form X6.out.own
        cases hv9
        obtain ⟨g9, e9, h9, _⟩ := hpl9 p hp
        rw [e9]; show g9 ≠ w.heap.size + 1; omega))
      clear q
      go_wp2
      refine bodyPost_ret (v := .agg #[.string K, .slice (some ⟨g, 0, none⟩) n cap]) ?_ rfl ⟨_, rfl, by rw [HE.out]; exact HG.out.1, HG.out.2⟩
      simp [results, Try.results38, go_sem, q0, q1]
    · rw [memOkB_no hok]
      have HE := Lib.hid (flushedL_bad (l := l) hok)
      clear hok
      have c0 := X5.out.two.c0
      have c1 := X5.out.two.c1
      have r0 := R5.out.c0
      have r1 := R5.out.c1
      have f0 := R5.out.fr (o := 0)
      have f1 := R5.out.fr (o := 1)
      have q := two_set1 (two_set0 R5.out (x := .string K)) (x := .slice ad n cap)
      have q0 := cell0_of_two q
      have q1 := cell1_of_two q
      have HG := Lib.hid (gives_box (w := w) (b2 := w.heap.size + 1) (u := .string K) (v := .slice ad n cap) X5.out (by omega) B5.out (by omega) (fun p hp => by
        obtain ⟨ad9, cap9, hv9, _, _, hpl9⟩ := ownE_form X5.out.own
        cases hv9
        obtain ⟨g9, e9, h9, _⟩ := hpl9 p hp
        rw [e9]; show g9 ≠ w.heap.size + 1; omega))
      clear q
      go_wp2
      refine bodyPost_ret (v := .agg #[.string K, .slice ad n cap]) ?_ rfl ⟨_, rfl, by rw [HE.out]; exact HG.out.1, HG.out.2⟩
      simp [results, Try.results38, go_sem, q0, q1]
end Go.Proofs.Ytpahihcnmpeenaa
namespace Go.Proofs.Ytpahihcnmpeenaa
open Go.RowKit Go.Proofs.Ytpahihcnmpeenaa.Parts Go.Proofs.Ytpahihcnmpeenaa.Hexa

theorem extract_list (K : ByteArray) (a b : Nat) : (K.extract a b).data.toList = (K.data.toList.take b).drop a := by
  rw [ByteArray.data_extract, Array.toList_extract]
  rw [List.drop_take]
theorem keepB_list (K : ByteArray) (c : C3) (xl : Nat) (h : c.l = xl) (_hl : xl * 16 + 16 ≤ K.size) : (keepB K c).data.toList = K.data.toList.take (xl * 16) ++ c.t.data.toList ++ K.data.toList.drop (xl * 16 + 16) := by
  have hK : K.data.toList.length = K.size := by simp
  unfold keepB
  rw [h, show 16 * (xl : Int).toNat = xl * 16 by omega]
  simp only [ByteArray.data_append, Array.toList_append, extract_list]
  rw [List.drop_zero, List.take_of_length_le (l := K.data.toList) (i := K.size) (by omega)]
/-- What is kept behind the first k cells. -/
def keptTo (K : ByteArray) (L : List C3) (k : Nat) : ByteArray := fenceK K (L.take k)
theorem keptTo_zero (K : ByteArray) (L : List C3) : keptTo K L 0 = K := by simp [keptTo, fenceK]
theorem keptTo_all (K : ByteArray) (L : List C3) : keptTo K L L.length = fenceK K L := by simp [keptTo]
theorem keptTo_yes {K : ByteArray} {L : List C3} {k : Nat} (h : k < L.length) (hf : (L.getD k default).f = true) : keptTo K L (k + 1) = keepB (keptTo K L k) (L.getD k default) := by
  unfold keptTo; rw [take_succ h, fenceK_snoc, if_pos hf]
theorem keptTo_no {K : ByteArray} {L : List C3} {k : Nat} (h : k < L.length) (hf : (L.getD k default).f = false) : keptTo K L (k + 1) = keptTo K L k := by
  unfold keptTo; rw [take_succ h, fenceK_snoc, if_neg (by rw [hf]; simp)]
def openTo (L : List C3) (k : Nat) : List C3 := fenceL (L.take k)
theorem openTo_zero (L : List C3) : openTo L 0 = [] := by simp [openTo, fenceL]
theorem openTo_all (L : List C3) : openTo L L.length = fenceL L := by simp [openTo]
theorem openTo_yes {L : List C3} {k : Nat} (h : k < L.length) (hf : (L.getD k default).f = true) : openTo L (k + 1) = openTo L k := by
  unfold openTo; rw [take_succ h, fenceL_snoc, if_pos hf, List.append_nil]
theorem openTo_no {L : List C3} {k : Nat} (h : k < L.length) (hf : (L.getD k default).f = false) : openTo L (k + 1) = openTo L k ++ [L.getD k default] := by
  unfold openTo; rw [take_succ h, fenceL_snoc, if_neg (by rw [hf]; simp)]
theorem openTo_length (L : List C3) (k : Nat) : (openTo L k).length ≤ k := by
  unfold openTo fenceL
  exact Nat.le_trans (List.length_filter_le _ _) (by rw [List.length_take]; omega)
theorem fenceL_length (L : List C3) : (fenceL L).length ≤ L.length := by unfold fenceL; exact List.length_filter_le _ _
/-- Cells that are laid right, whatever their flags. -/
def Lies (K : ByteArray) (L : List C3) : Prop := ∀ j, j < L.length → 0 ≤ (L.getD j default).l ∧ (L.getD j default).l < (K.size / 16 : Nat) ∧ (L.getD j default).t.size = 16
theorem MemOk.lies {K : ByteArray} {L : List C3} (h : MemOk K L) : Lies K L := fun j hj => by
  have := h.2.2 j hj
  exact ⟨this.1, this.2.1, this.2.2.1⟩
theorem keptTo_size {K : ByteArray} {L : List C3} (h : Lies K L) : ∀ k, k ≤ L.length → (keptTo K L k).size = K.size
  | 0, _ => by rw [keptTo_zero]
  | k + 1, hk => by
    have ih := keptTo_size h k (by omega)
    have hc := h k (by omega)
    cases hf : (L.getD k default).f with
    | true => rw [keptTo_yes (by omega) hf, keepB_size hc.1 (by rw [ih]; exact hc.2.1) hc.2.2, ih]
    | false => rw [keptTo_no (by omega) hf, ih]
end Go.Proofs.Ytpahihcnmpeenaa
namespace Go.Proofs.Ytpahihcnmpeenaa
open Go.RowKit Go.Proofs.Ytpahihcnmpeenaa.Hexa Go.Proofs.Ytpahihcnmpeenaa.Byt Go.Proofs.Ytpahihcnmpeenaa.BitsM Go.Proofs.Ytpahihcnmpeenaa.Parts

/-- n zero bytes; none where n is not from 0 to 20000. -/
def zeroB (n : Int) : ByteArray := if 0 ≤ n ∧ n ≤ 20000 then longB n.toNat 0 else ⟨#[]⟩
/-- A text with zero bytes behind it, eight in all; none for a longer one. -/
def wordB (s : ByteArray) : ByteArray := if s.size ≤ 8 then s ++ longB (8 - s.size) 0 else ⟨#[]⟩
theorem zeroB_of (s : ByteArray) (h : s.size ≤ 8) : zeroB (8 - (s.size : Int)) = longB (8 - s.size) 0 := by
  unfold zeroB
  rw [if_pos (by omega), show (8 - (s.size : Int)).toNat = 8 - s.size by omega]
/-- Two texts of one length combined, the first k bytes of them. -/
def xorL (a b : ByteArray) (k : Nat) : List UInt8 := (List.zipWith (· ^^^ ·) a.data.toList b.data.toList).take k
def xorT (a b : ByteArray) : ByteArray := if a.size = b.size then ⟨(xorL a b a.size).toArray⟩ else ⟨#[]⟩
theorem xorL_length (a b : ByteArray) (hl : a.size = b.size) (k : Nat) (hk : k ≤ a.size) : (xorL a b k).length = k := by
  have h1 : a.data.toList.length = a.size := by simp
  have h2 : b.data.toList.length = b.size := by simp
  unfold xorL
  rw [List.length_take, List.length_zipWith]
  omega
theorem xorL_next (a b : ByteArray) (k : Nat) (ha : k < a.size) (hb : k < b.size) : bcells (xorL a b k) ++ [.int .u8 (((a[k]'ha) ^^^ (b[k]'hb)).toNat : Int)] = bcells (xorL a b (k + 1)) := by
  have h1 : k < a.data.toList.length := by simpa using ha
  have h2 : k < b.data.toList.length := by simpa using hb
  have e : (List.zipWith (· ^^^ ·) a.data.toList b.data.toList)[k]'(by rw [List.length_zipWith]; omega) = (a[k]'ha) ^^^ (b[k]'hb) := by rw [List.getElem_zipWith]; rfl
  unfold xorL
  rw [List.take_succ_eq_append_getElem (by rw [List.length_zipWith]; omega), e]
  simp [bcells]
/-- The first j of the k bytes of a number. -/
def numL (m k j : Nat) : List UInt8 := (List.range j).map fun t => UInt8.ofNat (m / 256 ^ (k - 1 - t))
def numB (m k : Nat) : ByteArray := ⟨(numL m k k).toArray⟩
theorem numL_length (m k j : Nat) : (numL m k j).length = j := by simp [numL]
theorem numL_next (m k j : Nat) : numL m k j ++ [UInt8.ofNat (m / 256 ^ (k - 1 - j))] = numL m k (j + 1) := by simp [numL, List.range_succ]
/-- The number has room in width bytes. -/
def NumFits (n width : Int) : Prop := 0 ≤ n ∧ (1 ≤ width ∧ width ≤ 7) ∧ n < 256 ^ width.toNat
theorem shift_zero {m k : Nat} (h : m < 256 ^ k) : (m : Int) / 2 ^ (8 * k) = 0 := by
  have e : (2 : Int) ^ (8 * k) = ((256 ^ k : Nat) : Int) := by rw [show (256 : Nat) ^ k = 2 ^ (8 * k) by rw [Nat.pow_mul]]; simp
  rw [e, ← Int.natCast_ediv, Nat.div_eq_of_lt h]; rfl
theorem shift_pos {m k : Nat} (h : 256 ^ k ≤ m) : 0 < (m : Int) / 2 ^ (8 * k) := by
  have e : (2 : Int) ^ (8 * k) = ((256 ^ k : Nat) : Int) := by rw [show (256 : Nat) ^ k = 2 ^ (8 * k) by rw [Nat.pow_mul]]; simp
  have hp : 0 < 256 ^ k := Nat.pow_pos (by omega)
  have := Nat.div_pos h hp
  rw [e, ← Int.natCast_ediv]; omega
theorem num_byte (m e : Nat) : (m : Int) / 2 ^ (8 * e) % 256 = ((UInt8.ofNat (m / 256 ^ e)).toNat : Int) := by
  rw [UInt8.toNat_ofNat', show (256 : Nat) ^ e = 2 ^ (8 * e) by rw [Nat.pow_mul]]
  have : (2 : Int) ^ (8 * e) = ((2 ^ (8 * e) : Nat) : Int) := by simp
  rw [this, ← Int.natCast_ediv]
  rfl
/-- The number that bytes say, the greatest first. -/
def numV (l : List UInt8) : Nat := l.foldl (fun n b => 256 * n + b.toNat) 0
theorem numV_snoc (l : List UInt8) (b : UInt8) : numV (l ++ [b]) = 256 * numV l + b.toNat := by simp [numV]
theorem fold_lt : ∀ (l : List UInt8) (acc : Nat), l.foldl (fun n b => 256 * n + b.toNat) acc < (acc + 1) * 256 ^ l.length
  | [], acc => by simp
  | b :: l, acc => by
    have h := fold_lt l (256 * acc + b.toNat)
    have hb := b.toNat_lt
    have h2 : (256 * acc + b.toNat + 1) * 256 ^ l.length ≤ (acc + 1) * 256 * 256 ^ l.length := Nat.mul_le_mul_right _ (by omega)
    rw [List.foldl_cons, List.length_cons, Nat.pow_succ, Nat.mul_comm (256 ^ l.length) 256, ← Nat.mul_assoc]
    omega
theorem numV_lt (l : List UInt8) : numV l < 256 ^ l.length := by
  have := fold_lt l 0
  simpa [numV] using this
/-- The bytes from offset a on, k of them. -/
def cutL (s : ByteArray) (a k : Nat) : List UInt8 := (s.data.toList.drop a).take k
theorem cutL_length (s : ByteArray) (a k : Nat) (h : a + k ≤ s.size) : (cutL s a k).length = k := by
  have : s.data.toList.length = s.size := by simp
  unfold cutL
  rw [List.length_take, List.length_drop]
  omega
theorem cutL_next (s : ByteArray) (a k : Nat) (h : a + k < s.size) : cutL s a k ++ [s[a + k]'h] = cutL s a (k + 1) := by
  have hl : s.data.toList.length = s.size := by simp
  unfold cutL
  rw [List.take_succ_eq_append_getElem (by rw [List.length_drop]; omega), List.getElem_drop]
  rfl
/-- These bytes exist. -/
def NumThere (s : ByteArray) (a width : Int) : Prop := (1 ≤ width ∧ width ≤ 7) ∧ (0 ≤ a ∧ a ≤ (s.size : Int) - width)
theorem ret_pair {a b : Int} {v : Value} (h : a = b) : Ending.returned (.tuple #[.int .i64 a, v]) = .returned (.tuple #[.int .i64 b, v]) := by rw [h]
/-- The number in its bytes; none where it has no room. -/
def numTextB (n width : Int) : ByteArray := if 0 ≤ n ∧ (1 ≤ width ∧ width ≤ 7) ∧ n < 256 ^ width.toNat then numB n.toNat width.toNat else ⟨#[]⟩
/-- The number at an offset, and whether it is there. -/
def numAtV (s : ByteArray) (a width : Int) : Int := if (1 ≤ width ∧ width ≤ 7) ∧ (0 ≤ a ∧ a ≤ (s.size : Int) - width) then (numV (cutL s a.toNat width.toNat) : Int) else 0
def numAtB (s : ByteArray) (a width : Int) : Bool := decide ((1 ≤ width ∧ width ≤ 7) ∧ (0 ≤ a ∧ a ≤ (s.size : Int) - width))
end Go.Proofs.Ytpahihcnmpeenaa
namespace Go.Proofs.Ytpahihcnmpeenaa
open Go.RowKit Go.Lib Go.Proofs.Ytpahihcnmpeenaa.Hexa Go.Proofs.Ytpahihcnmpeenaa.Byt

theorem made_zero (n : Nat) : (madeCells (Value.int .u8 0).cells (n * 1)).toList = bcells (List.replicate n 0) := by
  apply List.ext_getElem?
  intro j
  have hcl : (Value.int .u8 0).cells = #[Value.int .u8 0] := rfl
  by_cases hj : j < n
  · simp [madeCells, hj, hcl, Nat.mod_one, bcells]
  · rw [List.getElem?_eq_none (by simp [madeCells]; omega), List.getElem?_eq_none (by simp [bcells]; omega)]

/-- The bytes A, and zeros up to n. -/
def partB (A : List UInt8) (n : Nat) : List UInt8 := A ++ List.replicate (n - A.length) 0
theorem partB_length (A : List UInt8) (n : Nat) (h : A.length ≤ n) : (partB A n).length = n := by simp [partB]; omega
theorem partB_nil (n : Nat) : partB [] n = List.replicate n 0 := by simp [partB]
theorem partB_full (A : List UInt8) (n : Nat) (h : A.length = n) : partB A n = A := by simp [partB, h]
theorem partB_set (A : List UInt8) (n : Nat) (x : UInt8) (h : A.length < n) : (partB A n).set A.length x = partB (A ++ [x]) n := by
  obtain ⟨m, hm⟩ : ∃ m, n - A.length = m + 1 := ⟨n - A.length - 1, by omega⟩
  have h2 : n - (A ++ [x]).length = m := by simp; omega
  unfold partB
  rw [h2, hm, List.replicate_succ, List.set_append_right _ _ (Nat.le_refl _), Nat.sub_self, List.set_cons_zero, List.append_assoc]
  rfl
theorem part_start {w : World} {B e g n : Nat} (h : w.ownsRow B e 1 (.slice (some ⟨g, 0, none⟩) n n) n (madeCells (Value.int .u8 0).cells (n * 1)).toList) :
    Bytes w B e (.slice (some ⟨g, 0, none⟩) n n) (partB [] n) := by
  rw [made_zero] at h
  rw [partB_nil]
  refine bytes_of_own ?_
  rw [List.length_replicate]
  exact h
/-- The next byte written. -/
theorem part_next {w : World} {B e g n : Nat} {A : List UInt8} (h : Bytes w B e (.slice (some ⟨g, 0, none⟩) n n) (partB A n)) (x : UInt8) (hl : A.length < n) :
    Bytes (w.setCell ⟨g, A.length, none⟩ (.int .u8 x.toNat)) B e (.slice (some ⟨g, 0, none⟩) n n) (partB (A ++ [x]) n) := by
  have hp := partB_length A n (by omega)
  have h' : Bytes w B e (.slice (some ⟨g, 0, none⟩) (partB A n).length n) (partB A n) := by rw [hp]; exact h
  have hs := bytes_set h' A.length x
  rw [partB_set A n x hl, hp] at hs
  exact hs
theorem part_at {w : World} {B e g n : Nat} {A : List UInt8} (h : Bytes w B e (.slice (some ⟨g, 0, none⟩) n n) (partB A n)) (hl : A.length < n) :
    (∃ v, w.cell? ⟨g, A.length, none⟩ = some v) ∧ w.frozen? ⟨g, A.length, none⟩ = false ∧ B ≤ g := by
  have hp := partB_length A n (by omega)
  have h' : Bytes w B e (.slice (some ⟨g, 0, none⟩) (partB A n).length n) (partB A n) := by rw [hp]; exact h
  obtain ⟨h1, h2, h3⟩ := bytes_at h' A.length (by omega)
  exact ⟨⟨_, h1⟩, h2, h3⟩

/-- 'copy(b, s)'. -/
theorem bytes_copy {P : Program} {t e u ty : TypeId} {i : TypeInfo} (ht : P.underlying t = some (.slice e)) (hi : P.info? e = some i) (hs1 : i.size = 1)
    {w : World} {B g c n : Nat} {l : List UInt8} (hn : l.length = n) (h : Bytes w B e (.slice (some ⟨g, 0, none⟩) n c) l) (s : ByteArray) (hs : s.size ≤ n) :
    ∃ w', (Builtin.copy_ #[t, u] ty #[.slice (some ⟨g, 0, none⟩) n c, .string s]).run P w = .ok (goInt s.size) w' ∧ Bytes w' B e (.slice (some ⟨g, 0, none⟩) n c) (s.data.toList ++ l.drop s.size) ∧ Below B w w' := by
  subst hn
  have hsl : s.data.toList.length = s.size := by simp
  rcases h with ⟨h, _⟩ | ⟨g', cap, cur, fz, hv, hb, hg, hfz, hlc, hm, hcs, htk⟩
  · cases h
  · simp at hv
    obtain ⟨rfl, rfl⟩ := hv
    have hst := Byt.run_store P g 0 e fz (strCells s) 0 cur w hg hfz (by rw [strCells_length]; omega) (strCells_oneCell s)
    have hf := run_firstCells_string (P := P) w 1 s
    have hln : (s.data.toList ++ l.drop s.size).length = l.length := by rw [List.length_append, List.length_drop, hsl]; omega
    simp only [Nat.add_zero, Nat.zero_add, strCells_length] at hst
    refine ⟨w.setRow g (List.take 0 cur.toList ++ strCells s ++ List.drop s.size cur.toList).toArray, ?_, .inr ⟨g, c, (List.take 0 cur.toList ++ strCells s ++ List.drop s.size cur.toList).toArray, fz, by rw [hln], hb, setRow_heap w g cur _ e fz hg, ?_, by rw [hln]; exact hlc, hm, ?_, ?_⟩, Byt.below_setRow w hb _⟩
    · simp [Builtin.copy_, run_underlying ht, Builtin.lenOf, sizeOf, typeInfo, hi, hs1, Nat.min_eq_left hs, hf, hst]
    · have hz : (List.take 0 cur.toList ++ strCells s ++ List.drop s.size cur.toList).toArray.size = cur.size := by simp [strCells_length]; omega
      rw [hz]; exact hfz
    · simp [strCells_length]; omega
    · rw [hln]
      have e1 : strCells s = bcells s.data.toList := rfl
      simp only [List.take_zero, List.nil_append, e1, bcells_append]
      have e2 : l.length = (bcells s.data.toList).length + (l.length - s.size) := by rw [bcells_length, hsl]; omega
      have e3 : bcells (l.drop s.size) = (bcells l).drop s.size := by simp [bcells]
      rw [e2, List.take_length_add_append, e3, ← htk, List.drop_take]

theorem wpList_copy_text {P : Program} {w : World} {ops : Array Oper} {rest : List Oper} {o : Oper} {a : Act} {Q : Exit → Act → World → Prop} (hgd : o.guard = none) (d s : Operand) (dT sT : TypeId)
    (ho : o.op = .call { callee := .builtin .copy, args := #[d, s], argTypes := #[dT, sT] }) (v0 v1 r : Value) (w' : World) (hd : a.eval d = v0) (hs : a.eval s = v1)
    (hrun : (Builtin.copy_ #[dT, sT] o.type #[v0, v1]).run P w = .ok r w') (h : wpList P ops Q rest (a.put o.dst r) w') : wpList P ops Q (o :: rest) a w := by
  refine wpList_plain hgd fun K hK => ?_
  unfold Oper.wp
  simp [execOp, ho, resolve, invoke, builtin, hd, hs, hrun, Result.andThen]
  exact hK _ _ h
end Go.Proofs.Ytpahihcnmpeenaa
namespace Go.Proofs.Ytpahihcnmpeenaa
open Go.RowKit Go.Lib Go.Proofs.Ytpahihcnmpeenaa.Hexa Go.Proofs.Ytpahihcnmpeenaa.Byt

theorem bcells_take (l : List UInt8) (n : Nat) : bcells (l.take n) = (bcells l).take n := by simp [bcells]
theorem bcells_drop (l : List UInt8) (n : Nat) : bcells (l.drop n) = (bcells l).drop n := by simp [bcells]

theorem bytes_copy_at {P : Program} {t e u ty : TypeId} {i : TypeInfo} (ht : P.underlying t = some (.slice e)) (hi : P.info? e = some i) (hs1 : i.size = 1)
    {w : World} {B g c n : Nat} {l : List UInt8} (hn : l.length = n) (h : Bytes w B e (.slice (some ⟨g, 0, none⟩) n c) l) (s : ByteArray) (o d dc : Nat) (hs : o + s.size ≤ n) (hd : s.size ≤ d) :
    ∃ w', (Builtin.copy_ #[t, u] ty #[.slice (some ⟨g, o, none⟩) d dc, .string s]).run P w = .ok (goInt s.size) w' ∧ Bytes w' B e (.slice (some ⟨g, 0, none⟩) n c) (l.take o ++ s.data.toList ++ l.drop (o + s.size)) ∧ w.grownBy w' (some g) := by
  subst hn
  have hsl : s.data.toList.length = s.size := by simp
  rcases h with ⟨h, _⟩ | ⟨g', cap, cur, fz, hv, hb, hg, hfz, hlc, hm, hcs, htk⟩
  · cases h
  · simp at hv
    obtain ⟨rfl, rfl⟩ := hv
    have hst := Byt.run_store P g o e fz (strCells s) 0 cur w hg hfz (by rw [strCells_length]; omega) (strCells_oneCell s)
    have hf := run_firstCells_string (P := P) w 1 s
    have hln : (l.take o ++ s.data.toList ++ l.drop (o + s.size)).length = l.length := by rw [List.length_append, List.length_append, List.length_drop, List.length_take, hsl]; omega
    simp only [Nat.add_zero, strCells_length] at hst
    have hsz : (List.take o cur.toList ++ strCells s ++ List.drop (o + s.size) cur.toList).length = cur.size := by
      rw [List.length_append, List.length_append, List.length_drop, List.length_take, strCells_length, Array.length_toList]; omega
    refine ⟨w.setRow g (List.take o cur.toList ++ strCells s ++ List.drop (o + s.size) cur.toList).toArray, ?_, .inr ⟨g, c, (List.take o cur.toList ++ strCells s ++ List.drop (o + s.size) cur.toList).toArray, fz, by rw [hln], hb, setRow_heap w g cur _ e fz hg, ?_, by rw [hln]; exact hlc, hm, ?_, ?_⟩, ⟨rfl, rfl, rfl, by simp, fun k _ hk => setRow_other _ _ _ _ (fun he => hk (by rw [he]))⟩⟩
    · simp [Builtin.copy_, run_underlying ht, Builtin.lenOf, sizeOf, typeInfo, hi, hs1, Nat.min_eq_left hd, hf, hst]
    · have hz : (List.take o cur.toList ++ strCells s ++ List.drop (o + s.size) cur.toList).toArray.size = cur.size := by rw [List.size_toArray, hsz]
      rw [hz]; exact hfz
    · rw [List.size_toArray, hsz]; exact hcs
    · rw [hln]
      have e1 : strCells s = bcells s.data.toList := rfl
      have t1 : cur.toList.take o = bcells (l.take o) := by rw [bcells_take, ← htk, List.take_take, Nat.min_eq_left (by omega)]
      have t2 : (cur.toList.drop (o + s.size)).take (l.length - (o + s.size)) = bcells (l.drop (o + s.size)) := by rw [← List.drop_take, htk, bcells_drop]
      have l1 : (bcells (l.take o)).length = o := by rw [bcells_length, List.length_take]; omega
      have l2 : (bcells s.data.toList).length = s.size := by rw [bcells_length, hsl]
      simp only [e1, t1, bcells_append]
      have hAB : (bcells (l.take o) ++ bcells s.data.toList).length = o + s.size := by rw [List.length_append, l1, l2]
      rw [List.take_append, hAB, t2, List.take_of_length_le (by rw [hAB]; omega)]
end Go.Proofs.Ytpahihcnmpeenaa
namespace Go.Proofs.Ytpahihcnmpeenaa
open Go.RowKit Go.Proofs.Ytpahihcnmpeenaa.Parts Go.Proofs.Ytpahihcnmpeenaa.Hexa Go.Proofs.Ytpahihcnmpeenaa.Byt

theorem bytes_grown_kept {w w' : World} {B e M : Nat} {v : Value} {l : List UInt8} (h : Bytes w B e v l) (hb : Below M w w') (hn : ∀ g, v.ownBlock = some g → g < M) : Bytes w' B e v l := by
  rcases h with h | ⟨g, cap, cur, fz, rfl, hB, hg, r⟩
  · exact .inl h
  · exact .inr ⟨g, cap, cur, fz, rfl, hB, by rw [hb.block g (hn g rfl)]; exact hg, r⟩
theorem bytes_later {w w' : World} {B e : Nat} {v : Value} {l : List UInt8} (h : Bytes w B e v l) (hb : Below w.heap.size w w') : Bytes w' B e v l := by
  rcases h with h | ⟨g, cap, cur, fz, rfl, hB, hg, r⟩
  · exact .inl h
  · exact .inr ⟨g, cap, cur, fz, rfl, hB, by rw [hb.block g (Array.getElem?_eq_some_iff.1 hg).1]; exact hg, r⟩
theorem list_toByteArray (B : ByteArray) : (⟨B.data.toList.toArray⟩ : ByteArray) = B := by cases B; simp

/-- What a fence gives, behind the pointer. -/
def FencePost (M b : Nat) (K : ByteArray) (L : List C3) (w : World) (e : Ending) (w' : World) : Prop :=
  e = .returned (.tuple #[]) ∧ ∃ a' n' c', BoxM w' M b (fenceK K L) a' n' c' (fenceL L) ∧ Below M w w'

set_option maxRecDepth 100000 in
set_option maxHeartbeats 2000000 in
theorem fence_any (M b : Nat) (K : ByteArray) (a : Option Addr) (n c : Nat) (L : List C3) (w : World) (hB : BoxM w M b K a n c L) (hn : n ≤ 1048600) (hK : K.size ≤ 16000) (hli : Lies K L) :
    Calls Try.prog 58 #[.pointer (some ⟨b, 0, none⟩)] w (FencePost M b K L w) := by
  obtain ⟨i0, hi, hz0, hz1, hz2⟩ := info_parts infoByte
  have kc0 := run_bytes_of_string (P := Try.prog) w 9 22 5 K Try.underlying9 Try.underlying22 Try.underlying5
  have b0 := bytes_conv w 5 K w.heap.size (Nat.le_refl _) (by omega)
  have g0 : Below w.heap.size w (w.drew.alloc (.cells (bytesRow K (grownCap w K.size 0 5)) 5 ((bytesRow K (grownCap w K.size 0 5)).size, (bytesRow K (grownCap w K.size 0 5)).size + 1))) := below_grown w (Nat.le_refl _) _
  have hge := grownCap_ge w K.size 0 5
  have hz9 : (w.drew.alloc (.cells (bytesRow K (grownCap w K.size 0 5)) 5 ((bytesRow K (grownCap w K.size 0 5)).size, (bytesRow K (grownCap w K.size 0 5)).size + 1))).heap.size = w.heap.size + 1 := by simp
  generalize w.drew.alloc (.cells (bytesRow K (grownCap w K.size 0 5)) 5 ((bytesRow K (grownCap w K.size 0 5)).size, (bytesRow K (grownCap w K.size 0 5)).size + 1)) = W0 at b0 g0 kc0 hz9
  generalize grownCap w K.size 0 5 = cc at b0 kc0 hge
  have HBY := Lib.hid b0
  have HG := Lib.hid g0
  have HZ := Lib.hid hz9
  have HB := Lib.hid hB
  have HB0 := Lib.hid (hB.later g0)
  have HL := Lib.hid hB.len
  have HLI := Lib.hid hli
  have q0 := hB.two.c0
  have q1 := (hB.later g0).two.c1
  obtain ⟨N, hN⟩ : ∃ N, K.size = N := ⟨_, rfl⟩
  have HN := Lib.hid hN
  rw [hN] at kc0 hge hK
  have hN16 : Hid (∀ j, j < n → (L.getD j default).l * 16 + 16 ≤ (N : Int)) := Lib.hid (fun j hj => by have := hli j (by rw [hB.len]; exact hj); omega)
  clear b0 g0 hz9 hB hli hN
  go_enter Try.func58, Try.ntmps58
  go_wp2
  clear kc0 q0 q1
  go_loopw [3, 16] (fun v iv wr => ∃ (k p : Nat) (l : List UInt8), k ≤ n ∧ iv = .int .i64 k ∧ l.length = N ∧ p ≤ k ∧ Hid (l = (keptTo K L k).data.toList) ∧ Hid (p = (openTo L k).length) ∧ Hid (Bytes wr w.heap.size 5 (.slice (some ⟨w.heap.size, 0, none⟩) l.length cc) l) ∧ Hid (wr.ownsRow (w.heap.size + 1) 68 3 v p (cellsE encC (openTo L k))) ∧ Hid (Below w.heap.size w wr) ∧ Hid (w.heap.size + 1 ≤ wr.heap.size))
    (fun _ iv _ => n - (intOf iv).toNat)
  case atStart => exact ⟨0, 0, K.data.toList, Nat.zero_le _, rfl, by rw [← HN.out]; simp, Nat.le_refl _, Lib.hid (by rw [keptTo_zero]), Lib.hid (by rw [openTo_zero]; rfl), Lib.hid (by have := HBY.out; simpa using this), Lib.hid (by rw [openTo_zero]; exact nilC _ _), HG, Lib.hid (by rw [HZ.out]; exact Nat.le_refl _)⟩
  case round =>
    clear HBY HG HZ
    obtain ⟨k, p, l, hk, rfl, hl, hpk, HLK, HPP, HY, HO, HW, HSZ⟩ := hrel
    by_cases hlt : k < n
    · obtain ⟨g, off, rfl, hg, d1, d2, d3⟩ := HB.out.src.cells3_at HW.out (Nat.le_refl _) k hlt
      obtain ⟨x, hx⟩ : ∃ x, L.getD k default = x := ⟨_, rfl⟩
      rw [hx] at d1 d2 d3
      have HX := Lib.hid hx
      have hkl : Hid (k < L.length) := Lib.hid (by rw [HL.out]; exact hlt)
      have hlx := HLI.out k hkl.out
      rw [hx] at hlx
      have h16 := hN16.out k hlt
      rw [hx] at h16
      obtain ⟨xl, hxl⟩ : ∃ xl : Nat, x.l = xl := ⟨x.l.toNat, by omega⟩
      have HXL := Lib.hid hxl
      have ht16 := hlx.2.2
      rw [hxl] at d1 h16
      have hxN : xl * 16 + 16 ≤ N := by omega
      have W1 : Hid (Below w.heap.size w (wr.alloc (.cells #[.int .i64 xl, .string x.t, .bool x.f] 68))) := Lib.hid (HW.out.alloc (by have := HSZ.out; omega) _)
      clear hx hlx hxl h16
      cases hf : x.f with
      | true =>
        rw [hf] at d3 W1
        have HF := Lib.hid hf
        have hY1 := bytes_later HY.out (below_alloc wr (.cells #[.int .i64 xl, .string x.t, .bool true] 68)).drew
        obtain ⟨w2, hr2, hy2, hg2⟩ := bytes_copy_at (P := Try.prog) (u := 9) (ty := 3) Try.underlying22 hi hz1 rfl hY1 x.t (xl * 16) (N - xl * 16) (cc - xl * 16) (by omega) (by omega)
        have hidx : ((xl : Int) * 16).toNat = xl * 16 := by omega
        have hb2 : Below w.heap.size w w2 := W1.out.drew.grown hg2 (by have := HSZ.out; simp; omega) (fun q hq => by cases hq; exact Nat.le_refl _)
        have HY2 : Hid (Bytes w2 w.heap.size 5 (.slice (some ⟨w.heap.size, 0, none⟩) (keptTo K L (k + 1)).data.toList.length cc) (keptTo K L (k + 1)).data.toList) := Lib.hid (by
          have e : (keptTo K L (k + 1)).data.toList = l.take (xl * 16) ++ x.t.data.toList ++ l.drop (xl * 16 + x.t.size) := by
            rw [keptTo_yes hkl.out (by rw [HX.out]; exact HF.out), HX.out, keepB_list _ _ xl HXL.out (by rw [keptTo_size HLI.out k (by have := hkl.out; omega), HN.out]; exact hxN), ← HLK.out, ht16]
          have el : (keptTo K L (k + 1)).data.toList.length = l.length := by
            have hx16 : x.t.data.toList.length = 16 := by rw [Array.length_toList]; exact ht16
            rw [e, List.length_append, List.length_append, List.length_take, List.length_drop, hx16, ht16]
            omega
          rw [el, e]; exact hy2)
        have HO2 : Hid (w2.ownsRow (w.heap.size + 1) 68 3 u3 p (cellsE encC (openTo L (k + 1)))) := Lib.hid (by
          rw [openTo_yes hkl.out (by rw [HX.out]; exact HF.out)]
          exact ((HO.out.alloc (.cells #[.int .i64 xl, .string x.t, .bool true] 68)).drew).kept hg2 (by
            cases hv : u3.ownBlock with
            | none => exact .inl rfl
            | some q => exact .inr (fun e => by cases e; have := (HO.out.lt _ hv).1; omega)))
        have HSZ2 : Hid (w.heap.size + 1 ≤ w2.heap.size) := Lib.hid (Nat.le_trans HSZ.out (Nat.le_trans (by simp) hg2.size))
        have HB2 := Lib.hid hb2
        have HR2 := Lib.hid hr2
        have hEl : Hid ((keptTo K L (k + 1)).data.toList.length = N) := Lib.hid (by rw [Array.length_toList]; exact (keptTo_size HLI.out (k + 1) hkl.out).trans HN.out)
        clear hr2 hy2 hg2 hY1 hb2 hf
        go_wp2
        obtain ⟨W4, hW4⟩ : ∃ y, y = wr.alloc (.cells #[.int .i64 xl, .string x.t, .bool true] 68) := ⟨_, rfl⟩
        have e4 : W4.heap[wr.heap.size]? = some (.cells #[.int .i64 xl, .string x.t, .bool true] 68 (0, 0)) := by rw [hW4]; exact heap_alloc_new _ _
        have e40 : W4.cell? ⟨wr.heap.size, 0, none⟩ = some (.int .i64 xl) := by simp [World.cell?, e4]
        have e41 : W4.cell? ⟨wr.heap.size, 1, none⟩ = some (.string x.t) := by simp [World.cell?, e4]
        rw [← hW4] at HR2 ⊢
        clear hW4 e4
        have hwr : IntKind.i64.wrap ((xl : Int) * 16) = (xl : Int) * 16 := IntWalk.i64_in _ (by omega)
        have hb1 : 0 ≤ (xl : Int) * 16 ∧ (xl : Int) * 16 ≤ (N : Int) := by omega
        have hcc : ¬ (cc = xl * 16) := by omega
        go_still_tail 7, (by kernel_rfl)
        change wpList _ _ _ _ _ W4.drew
        refine wpList_copy_text rfl _ _ _ _ rfl _ _ _ _ rfl rfl HR2.out ?_
        go_wp2
        go_roundw
        case rel => exact ⟨k + 1, p, _, by omega, by go_num, hEl.out, by omega, Lib.hid rfl, Lib.hid (by rw [openTo_yes hkl.out (by rw [HX.out]; exact HF.out)]; exact HPP.out), HY2, HO2, HB2, HSZ2⟩
        case measure => (simp [intOf]; try omega)
      | false =>
        rw [hf] at d3 W1
        have HF := Lib.hid hf
        have hb0 := below_alloc wr (.cells #[.int .i64 xl, .string x.t, .bool false] 68)
        have hb1 := hb0.trans ((below_alloc (wr.alloc (.cells #[.int .i64 xl, .string x.t, .bool false] 68)) (.cells #[.int .i64 xl, .string x.t, .bool false] 68)).mono hb0.size)
        have hsrc : SrcC ((wr.alloc (.cells #[.int .i64 xl, .string x.t, .bool false] 68)).alloc (.cells #[.int .i64 xl, .string x.t, .bool false] 68)) (some ⟨wr.heap.size + 1, 0, none⟩) 1 [x] := by
          have h := World.ownsRow_lit (base := 0) (e := 68) (size := 3) (wr.alloc (.cells #[.int .i64 xl, .string x.t, .bool false] 68)) #[.int .i64 xl, .string x.t, .bool false] 1 (Nat.zero_le _) (by decide) rfl
          have e : (#[.int .i64 xl, .string x.t, .bool false] : Array Value).toList = cellsE encC [x] := by rw [cellsE_one, encC_cells, HXL.out, HF.out]
          rw [e] at h
          have h2 := srcC_of_own h
          simpa using h2
        have HA := Lib.hid (appC _ 24 (w.heap.size + 1) u3 p (openTo L k) (own_below HO.out hb1) (by have := HSZ.out; simp; omega) (some ⟨wr.heap.size + 1, 0, none⟩) 1 1 [x] hsrc (by omega))
        have HY1 := Lib.hid (bytes_later HY.out hb1)
        have W2 : Hid (Below w.heap.size w ((wr.alloc (.cells #[.int .i64 xl, .string x.t, .bool false] 68)).alloc (.cells #[.int .i64 xl, .string x.t, .bool false] 68))) := Lib.hid (HW.out.trans (hb1.mono (by have := HSZ.out; omega)))
        clear hf hb0 hb1 hsrc
        go_wp2_with (at_builtin; refine wpList_appE rfl _ _ _ _ rfl _ _ rfl rfl HA.out ?_; intro v1 w2 hown2 hgrow2 hat2)
        have HO2 : Hid (w2.ownsRow (w.heap.size + 1) 68 3 v1 (p + 1) (cellsE encC (openTo L (k + 1)))) := Lib.hid (by rw [openTo_no hkl.out (by rw [HX.out]; exact HF.out), HX.out]; exact hown2)
        have HB2 : Hid (Below w.heap.size w w2) := Lib.hid (W2.out.grown hgrow2 (by have := HSZ.out; simp; omega) (fun q hq => by have := (HO.out.lt q hq).1; omega))
        have HY2 : Hid (Bytes w2 w.heap.size 5 (.slice (some ⟨w.heap.size, 0, none⟩) l.length cc) l) := Lib.hid (by
          rcases HY1.out with h | ⟨g9, cap, cur, fz, hv, hB9, hg9, r9⟩
          · exact .inl h
          · cases hv
            exact .inr ⟨_, _, cur, fz, rfl, hB9, by rw [hgrow2.block _ (Array.getElem?_eq_some_iff.1 hg9).1 (fun e => by have := (HO.out.lt _ e.symm).1; omega)]; exact hg9, r9⟩)
        have HSZ2 : Hid (w.heap.size + 1 ≤ w2.heap.size) := Lib.hid (by have := HSZ.out; have h := hgrow2.size; simp at h; omega)
        clear hown2 hgrow2 hat2 HA HY1
        go_wp2
        go_roundw
        case rel => exact ⟨k + 1, p + 1, l, by omega, by go_num, hl, by omega, Lib.hid (by rw [keptTo_no hkl.out (by rw [HX.out]; exact HF.out)]; exact HLK.out), Lib.hid (by rw [openTo_no hkl.out (by rw [HX.out]; exact HF.out), List.length_append, ← HPP.out]; rfl), HY2, HO2, HB2, HSZ2⟩
        case measure => (simp [intOf]; try omega)
    · obtain rfl : k = n := by omega
      have hconv := bytes_string (P := Try.prog) 22 9 Try.underlying22 Try.underlying5 Try.underlying9 HY.out
      have hfin : (⟨l.toArray⟩ : ByteArray) = fenceK K L := by rw [HLK.out, list_toByteArray, ← keptTo_all, HL.out]
      have hopen : openTo L k = fenceL L := by rw [← openTo_all, HL.out]
      rw [hfin, hl] at hconv
      rw [hopen] at HO
      obtain ⟨a3, c3, hv3, _, _, hpl⟩ := ownE_form HO.out
      have T0 : Hid (Two wr b (.string K) (.slice a k c) 26) := Lib.hid (HB.out.two.later HW.out)
      have f0 := T0.out.fr (o := 0)
      have f1 := T0.out.fr (o := 1)
      have e0 := T0.out.c0
      have e1 := T0.out.c1
      have hblt := HB.out.two.lt
      have HBL := Lib.hid hblt
      have HPL := Lib.hid hpl
      clear hfin hopen hpl hblt
      subst hv3
      go_wp2
      refine end_void rfl rfl ⟨rfl, a3, p, c3, ⟨two_set1 (two_set0 T0.out), ?_, HB.out.low, fun q hq => by
        obtain ⟨g9, e9, h9, _⟩ := HPL.out q hq
        rw [e9]; have := HBL.out; show g9 ≠ b; omega⟩, ((HW.out.mono HB.out.lowM).setCell (by exact HB.out.low) _).setCell (by exact HB.out.low) _⟩
      have hnb : (Value.slice a3 p c3).ownBlock ≠ some b := fun h => by have := (HO.out.lt b h).1; have := HBL.out; omega
      exact ownE_mono (ownsRow_setCell_other (ownsRow_setCell_other HO.out hnb _) hnb _) (by have := HB.out.lowM; omega)
end Go.Proofs.Ytpahihcnmpeenaa
namespace Go.Proofs.Ytpahihcnmpeenaa
open Go.RowKit Go.Proofs.Ytpahihcnmpeenaa.Parts Go.Proofs.Ytpahihcnmpeenaa.Hexa

theorem below_alloc' (w : World) (o : Obj) : Below w.heap.size w (w.alloc o) := (Below.refl _ _).alloc (Nat.le_refl _) _
theorem ret_strk {a b : ByteArray} (h : a = b) : Ending.returned (.string a) = .returned (.string b) := by rw [h]

set_option maxRecDepth 100000 in
set_option maxHeartbeats 1000000 in
theorem specKeep_any (K : ByteArray) (x : C3) (xl : Nat) (w : World) (hx : x.l = xl) (hl : xl * 16 + 16 ≤ K.size) (hK : K.size ≤ 16000) (ht : x.t.size = 16) :
    Calls Try.prog 65 #[.string K, .agg #[.int .i64 x.l, .string x.t, .bool x.f]] w fun e w' => e = .returned (.string (keepB K x)) ∧ Below w.heap.size w w' := by
  have HE : Hid (keepB K x = K.extract 0 (xl * 16) ++ x.t ++ K.extract (xl * 16 + 16) K.size) := Lib.hid (by unfold keepB; rw [hx, show 16 * (xl : Int).toNat = xl * 16 by omega])
  rw [hx]
  clear hx
  have B0 := Lib.hid (below_alloc' w (.cells #[.int .i64 xl, .string x.t, .bool x.f] 68))
  go_enter Try.func65, Try.ntmps65
  go_wp2
  go_quiet ((go_at_call 66; first | exact Calls.quiet_of_same (size_any _) | exact quiet_anew size_any))
  go_wp2
  go_quiet ((go_at_call 66; first | exact Calls.quiet_of_same (size_any _) | exact quiet_anew size_any))
  go_wp2
  trace_state
  go_ret
  exact ⟨ret_strk HE.out.symm, by first | exact below_drewsN (below_drewsN B0.out _) _ | exact below_drewsN B0.out _⟩
end Go.Proofs.Ytpahihcnmpeenaa
