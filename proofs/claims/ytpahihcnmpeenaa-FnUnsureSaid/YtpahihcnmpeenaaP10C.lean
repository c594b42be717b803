/- Merged texts: CellC, CellD, MemNewLaw, AppC, Search, Ptr, MemCopy, FlushPtr, CopySpec. -/
import Derived.Test.YtpahihcnmpeenaaP10B
import Derived.Maps.AppendAt
import Derived.Lib.AppendZeros
import Derived.Lib.SliceRun
import Derived.Test.YtpahihcnmpeenaaShelf
namespace Go.Proofs.Ytpahihcnmpeenaa
open Go.RowKit Go.Proofs.Ytpahihcnmpeenaa.Parts Go.Proofs.Ytpahihcnmpeenaa.Hexa

theorem ret_i64c {a b : Int} (h : a = b) : Ending.returned (.int .i64 a) = .returned (.int .i64 b) := by rw [h]
theorem markText_c (i : Int) (k : Nat) (w : World) (h : i = k) (h0 : 0 < k) (hk : k ≤ 100000000) :
    Calls Try.prog 84 #[.int .i64 i] w fun e w' => e = .returned (.string (markT k)) ∧ Below w.heap.size w w' := by
  subst h; exact markText_any k w h0 hk

/-- The marks from k on. -/
def markC (k : Nat) : C3 := ⟨(k : Int), markT (k + 1), ((k : Int) + 1 + 1) % 3 == 0⟩
def marksC (k n : Nat) : List C3 := (List.range n).map fun i => markC (k + 3 * i)
theorem marksC_length (k n : Nat) : (marksC k n).length = n := by simp [marksC]
theorem marksC_at (k n j : Nat) (hj : j < n) : (marksC k n).getD j default = markC (k + 3 * j) := by simp [marksC, List.getD, hj]

def MarkPostC (B n cap k : Nat) (w : World) (e : Ending) (w' : World) : Prop :=
  e = .returned (.int .i64 (k + 3 * n)) ∧ Below B w w' ∧ ButE B w w' ∧ w'.ownsRow B 68 3 (.slice (some ⟨B, 0, none⟩) n cap) n (cellsE encC (marksC k n))

set_option maxRecDepth 100000 in
set_option maxHeartbeats 1000000 in
theorem markCells_some (B n cap k : Nat) (xs : List Value) (w : World) (h0 : 0 < k) (hk : k + 3 * n ≤ 100000000) (hown : w.ownsRow B 68 3 (.slice (some ⟨B, 0, none⟩) n cap) n xs) :
    Calls Try.prog 69 #[.slice (some ⟨B, 0, none⟩) n cap, .int .i64 k] w (MarkPostC B n cap k w) := by
  have HO := Lib.hid hown
  have hB := Lib.hid (ownE_lt hown)
  clear hown
  go_enter Try.func69, Try.ntmps69
  go_wp2
  go_loopw [1, 5] (fun kv iv wr => ∃ (j q : Nat) (ys : List Value), j ≤ n ∧ q ≤ k + 3 * n ∧ 0 < q ∧ Hid (q = k + 3 * j) ∧ iv = .int .i64 j ∧ kv = .int .i64 q ∧ Hid (∀ t, t < j * 3 → ys[t]? = (cellsE encC (marksC k n))[t]?) ∧ Hid (wr.ownsRow B 68 3 (.slice (some ⟨B, 0, none⟩) n cap) n ys) ∧ Below B w wr ∧ Hid (ButE B w wr)) (fun _ iv _ => n - (intOf iv).toNat)
  case atStart => exact ⟨0, k, xs, Nat.zero_le _, by omega, h0, Lib.hid rfl, rfl, rfl, Lib.hid (fun t ht => by omega), HO, Below.refl _ _, Lib.hid (ButE.refl _ _)⟩
  case round =>
    clear HO
    obtain ⟨j, q, ys, hj, hq, hq0, HQ, rfl, rfl, HX, HW, hbel, HK⟩ := hrel
    by_cases hlt : j < n
    · have hl : Hid (ys.length = n * 3) := Lib.hid HW.out.1
      have hq3 : q + 3 ≤ k + 3 * n := by have := HQ.out; omega
      have X1 := Lib.hid (cellsE_step encC (L := marksC k n) (by rw [marksC_length]; exact hlt) (by rw [marksC_length]; exact hl.out) HX.out)
      rw [marksC_at k n j hlt, ← HQ.out] at X1
      obtain ⟨v0, e0⟩ := ownE_cell HW.out (j := j * 3) (by omega)
      have f0 := HW.out.frozenAt (j * 3)
      have O0 := Lib.hid (HW.out.stored (j * 3) (.int .i64 (q : Int))).1
      have K0 := Lib.hid (HK.out.then_set (j * 3) (.int .i64 (q : Int)))
      have b0 : Below B w (wr.setCell ⟨B, j * 3, none⟩ (.int .i64 (q : Int))) := hbel.setCell (Nat.le_refl _) _
      go_wp2_with fail
      clear e0 f0 HW
      obtain ⟨wa, hwa⟩ : ∃ x, x = wr.setCell ⟨B, j * 3, none⟩ (.int .i64 (q : Int)) := ⟨_, rfl⟩
      rw [← hwa] at O0 K0 b0 ⊢
      clear hwa
      refine (markText_c _ (q + 1) _ (by omega) (by omega) (by omega)).mono ?_
      rintro e w2 ⟨rfl, hb2⟩
      have W2 := Lib.hid (own_below O0.out hb2)
      obtain ⟨v2, e2⟩ := ownE_cell W2.out (j := j * 3 + 1) (by omega)
      have f2 := W2.out.frozenAt (j * 3 + 1)
      have O2 := Lib.hid (W2.out.stored (j * 3 + 1) (.string (markT (q + 1)))).1
      have K2 := Lib.hid ((K0.out.then_below hb2).then_set (j * 3 + 1) (.string (markT (q + 1))))
      have b2 : Below B w (w2.setCell ⟨B, j * 3 + 1, none⟩ (.string (markT (q + 1)))) := (b0.trans (hb2.mono (by have := hB.out; have := b0.size; omega))).setCell (Nat.le_refl _) _
      obtain ⟨v3, e3⟩ := ownE_cell W2.out (j := j * 3 + 2) (by omega)
      have f3 := O2.out.frozenAt (j * 3 + 2)
      have O3 := Lib.hid (O2.out.stored (j * 3 + 2) (.bool (((q : Int) + 1 + 1) % 3 == 0))).1
      have K3 := Lib.hid (K2.out.then_set (j * 3 + 2) (.bool (((q : Int) + 1 + 1) % 3 == 0)))
      have b3 : Below B w ((w2.setCell ⟨B, j * 3 + 1, none⟩ (.string (markT (q + 1)))).setCell ⟨B, j * 3 + 2, none⟩ (.bool (((q : Int) + 1 + 1) % 3 == 0))) := b2.setCell (Nat.le_refl _) _
      clear hb2 b0 b2 K0 K2 O0 O2
      go_wp2
      clear e2 f2 e3 f3
      go_roundw
      case rel => exact ⟨j + 1, q + 3, _, by omega, hq3, by omega, Lib.hid (by have := HQ.out; omega), by go_num, by go_num, X1, O3, b3, K3⟩
      case measure => (simp [intOf]; try omega)
    · obtain rfl : j = n := by omega
      have hfin : ys = cellsE encC (marksC k j) := cellsE_all encC (by rw [marksC_length]; exact HW.out.1) (by rw [marksC_length]; exact HX.out)
      have ho := HW.out
      rw [hfin] at ho
      have HO := Lib.hid ho
      clear ho hfin HW
      go_wp2
      go_ret
      exact ⟨ret_i64c (by have := HQ.out; omega), hbel, HK.out, HO.out⟩

set_option maxRecDepth 100000 in
set_option maxHeartbeats 1000000 in
/-- Marks that are read again. -/
theorem heldCells_any (a : Option Addr) (n cap k : Nat) (w : World) (h0 : 0 < k) (hk : k + 3 * n ≤ 100000000) (hs : SrcC w a n (marksC k n)) :
    Calls Try.prog 70 #[.slice a n cap, .int .i64 k] w fun e w' => e = .returned (.int .i64 (k + 3 * n)) ∧ Below w.heap.size w w' := by
  have HS := Lib.hid hs
  clear hs
  go_enter Try.func70, Try.ntmps70
  go_wp2
  go_loopw [1, 5] (fun kv iv wr => ∃ (j q : Nat), j ≤ n ∧ q ≤ k + 3 * n ∧ 0 < q ∧ Hid (q = k + 3 * j) ∧ iv = .int .i64 j ∧ kv = .int .i64 q ∧ Below w.heap.size w wr) (fun _ iv _ => n - (intOf iv).toNat)
  case atStart => exact ⟨0, k, Nat.zero_le _, by omega, h0, Lib.hid rfl, rfl, rfl, Below.refl _ _⟩
  case round =>
    obtain ⟨j, q, hj, hq, hq0, HQ, rfl, rfl, hbel⟩ := hrel
    by_cases hlt : j < n
    · have hq3 : q + 3 ≤ k + 3 * n := by have := HQ.out; omega
      obtain ⟨g, off, rfl, hg, d1, d2, d3⟩ := HS.out.cells3_at hbel (Nat.le_refl _) j hlt
      rw [marksC_at k n j hlt, ← HQ.out] at d1 d2 d3
      simp only [markC] at d1 d2 d3
      have hcast : Hid (((q : Int) + 1) = ((q + 1 : Nat) : Int)) := Lib.hid (by omega)
      go_wp2
      go_region_with (go_at_call 84; refine (markText_c ((q : Int) + 1) (q + 1) _ hcast.out (by omega) (by omega)).mono ?_; rintro e w2 ⟨rfl, hb2⟩; have m2 := (hb2.cell (p := ⟨g, off + j * 3 + 1, none⟩) (Nat.lt_of_lt_of_le hg hbel.size)).trans d2; have m3 := (hb2.cell (p := ⟨g, off + j * 3 + 2, none⟩) (Nat.lt_of_lt_of_le hg hbel.size)).trans d3)
      all_goals
        have hb3 : Below w.heap.size w w2 := hbel.drew.trans (hb2.mono hbel.size)
        clear d1 d2 d3 hb2
        go_wp2
        go_roundw
        case rel => exact ⟨j + 1, q + 3, by omega, by have := HQ.out; omega, by omega, Lib.hid (by have := HQ.out; omega), by go_num, by go_num, hb3⟩
        case measure => (simp [intOf]; try omega)
    · obtain rfl : j = n := by omega
      go_wp2
      go_ret
      exact ⟨ret_i64c (by have := HQ.out; omega), hbel⟩
end Go.Proofs.Ytpahihcnmpeenaa
namespace Go.Proofs.Ytpahihcnmpeenaa
open Go.RowKit Go.Proofs.Ytpahihcnmpeenaa.Parts Go.Proofs.Ytpahihcnmpeenaa.Hexa

/-- What lies elsewhere than v's row stays. -/
def Elsewhere (v : Value) (w w' : World) : Prop :=
  ∀ (v2 : Value) (M e k n : Nat) (xs : List Value), w.ownsRow M e k v2 n xs → (∀ g, v2.ownBlock = some g → v.ownBlock ≠ some g) → w'.ownsRow M e k v2 n xs
theorem Elsewhere.of_below {v : Value} {w w' : World} (h : Below w.heap.size w w') : Elsewhere v w w' := fun _ _ _ _ _ _ ho _ => own_below ho h
theorem Elsewhere.then_below {v : Value} {w w1 w2 : World} (h : Elsewhere v w w1) (hb : Below w1.heap.size w1 w2) : Elsewhere v w w2 := fun _ _ _ _ _ _ ho hn => own_below (h _ _ _ _ _ _ ho hn) hb
theorem Elsewhere.after_below {v : Value} {w w1 w2 : World} (hb : Below w.heap.size w w1) (h : Elsewhere v w1 w2) : Elsewhere v w w2 := fun _ _ _ _ _ _ ho hn => h _ _ _ _ _ _ (own_below ho hb) hn

def MarksM (M : Nat) (v : Value) (n k : Nat) (w : World) (e : Ending) (w' : World) : Prop :=
  e = .returned (.int .i64 (k + 3 * n)) ∧ Below M w w' ∧ Elsewhere v w w' ∧ w'.ownsRow M 68 3 v n (cellsE encC (marksC k n))

set_option maxRecDepth 100000 in
set_option maxHeartbeats 1000000 in
theorem markCells_any (M : Nat) (v : Value) (n k : Nat) (xs : List Value) (w : World) (hM : M ≤ w.heap.size) (h0 : 0 < k) (hk : k + 3 * n ≤ 100000000) (hown : w.ownsRow M 68 3 v n xs) :
    Calls Try.prog 69 #[v, .int .i64 k] w (MarksM M v n k w) := by
  rcases hown.2 with ⟨rfl, rfl⟩ | ⟨g, cap, cur, rfl, hB, hg, hnc, hcm, hcs, htk⟩
  · clear hown
    go_enter Try.func69, Try.ntmps69
    go_wp2
    go_loopw [1, 5] (fun kv iv wr => kv = .int .i64 k ∧ iv = .int .i64 0 ∧ wr = w) (fun _ _ _ => 0)
    case atStart => exact ⟨rfl, rfl, rfl⟩
    case round =>
      obtain ⟨rfl, rfl, rfl⟩ := hrel
      go_wp2
      go_ret
      exact ⟨ret_i64c (by omega), Below.refl _ _, Elsewhere.of_below (Below.refl _ _), World.ownsRow_nil _ _ _ _⟩
  · have ho : w.ownsRow g 68 3 (.slice (some ⟨g, 0, none⟩) n cap) n xs := ⟨hown.1, .inr ⟨g, cap, cur, rfl, Nat.le_refl _, hg, hnc, hcm, hcs, htk⟩⟩
    refine (markCells_some g n cap k xs w h0 hk ho).mono ?_
    rintro e w' ⟨rfl, hb, hbut, hown'⟩
    refine ⟨rfl, hb.mono hB, fun v2 M2 e2 k2 n2 xs2 h2 hne => ownE_but h2 hbut (fun g2 hg2 e => hne g2 hg2 (by rw [e]; rfl)), ownE_mono hown' hB⟩

set_option maxRecDepth 100000 in
set_option maxHeartbeats 1000000 in
theorem markMemory_any (K : ByteArray) (M : Nat) (v : Value) (n k : Nat) (xs : List Value) (w : World) (hM : M ≤ w.heap.size) (h0 : 0 < k) (hk : k + 3 * n ≤ 100000000) (hown : w.ownsRow M 68 3 v n xs) :
    Calls Try.prog 34 #[.agg #[.string K, v], .int .i64 k] w (MarksM M v n k w) := by
  have HO := Lib.hid hown
  clear hown
  go_enter Try.func34, Try.ntmps34
  have hb0 : Below w.heap.size w (w.alloc (.cells #[.string K, v] 26)) := (Below.refl _ _).alloc (Nat.le_refl _) _
  go_wp2_with fail
  refine (markCells_any M v n k xs _ (by simp; omega) h0 hk (own_below HO.out hb0)).mono ?_
  rintro e w1 ⟨rfl, hb1, he1, ho1⟩
  have H1 := Lib.hid he1
  have HO1 := Lib.hid ho1
  have B1 : Hid (Below M w w1) := Lib.hid ((hb0.mono hM).trans hb1)
  clear he1 ho1 hb1
  go_wp2
  go_ret
  exact ⟨rfl, B1.out, H1.out.after_below hb0, HO1.out⟩

set_option maxRecDepth 100000 in
set_option maxHeartbeats 1000000 in
theorem heldMemory_any (K : ByteArray) (a : Option Addr) (n cap k : Nat) (w : World) (h0 : 0 < k) (hk : k + 3 * n ≤ 100000000) (hs : SrcC w a n (marksC k n)) :
    Calls Try.prog 35 #[.agg #[.string K, .slice a n cap], .int .i64 k] w fun e w' => e = .returned (.int .i64 (k + 3 * n)) ∧ Below w.heap.size w w' := by
  have HS := Lib.hid hs
  clear hs
  go_enter Try.func35, Try.ntmps35
  have hb0 : Below w.heap.size w (w.alloc (.cells #[.string K, .slice a n cap] 26)) := (Below.refl _ _).alloc (Nat.le_refl _) _
  go_wp2_with fail
  refine (heldCells_any a n cap k _ h0 hk (HS.out.later hb0)).mono ?_
  rintro e w1 ⟨rfl, hb1⟩
  have B1 : Hid (Below w.heap.size w w1) := Lib.hid (hb0.trans (hb1.mono hb0.size))
  have hn : ¬ ((k : Int) + 3 * (n : Int) < 0) := by omega
  clear hb1
  go_wp2
  go_ret
  exact ⟨rfl, B1.out⟩
end Go.Proofs.Ytpahihcnmpeenaa
namespace Go.Proofs.Ytpahihcnmpeenaa
open Go.RowKit Go.Proofs.Ytpahihcnmpeenaa.Parts Go.Proofs.Ytpahihcnmpeenaa.Hexa

/-- A block of two cells. -/
def Two (w : World) (b : Nat) (u v : Value) (t : TypeId) : Prop := w.heap[b]? = some (.cells #[u, v] t (0, 0))
theorem Two.lt {w : World} {b : Nat} {u v : Value} {t : TypeId} (h : Two w b u v t) : b < w.heap.size := lt_of_block h
theorem Two.later {w w' : World} {b : Nat} {u v : Value} {t : TypeId} (h : Two w b u v t) (hb : Below w.heap.size w w') : Two w' b u v t := (hb.block b h.lt).trans h
theorem Two.alloc (w : World) (u v : Value) (t : TypeId) : Two (w.alloc (.cells #[u, v] t)) w.heap.size u v t := heap_alloc_new _ _
theorem Two.c0 {w : World} {b : Nat} {u v : Value} {t : TypeId} (h : Two w b u v t) : w.cell? ⟨b, 0, none⟩ = some u := cell0_of_two h
theorem Two.c1 {w : World} {b : Nat} {u v : Value} {t : TypeId} (h : Two w b u v t) : w.cell? ⟨b, 1, none⟩ = some v := cell1_of_two h
theorem Two.fr {w : World} {b o : Nat} {u v : Value} {t : TypeId} (h : Two w b u v t) : w.frozen? ⟨b, o, none⟩ = false := free_of_two h
theorem Two.drew {w : World} {b : Nat} {u v : Value} {t : TypeId} (h : Two w b u v t) : Two w.drew b u v t := h
theorem below_alloc (w : World) (o : Obj) : Below w.heap.size w (w.alloc o) := (Below.refl _ _).alloc (Nat.le_refl _) _

set_option maxRecDepth 100000 in
set_option maxHeartbeats 2000000 in
theorem memOk_law (K : ByteArray) (a : Option Addr) (n c : Nat) (L : List C3) (w : World) (hs : SrcC w a n L) (hm : FitC L n maxLen) (hn : n ≤ 9223372036854775807) (hK : K.size ≤ maxLen) :
    Calls Try.prog 6 #[.agg #[.string K, .slice a n c]] w fun e w' => e = .returned (.bool true) ∧ Below w.heap.size w w' := by
  have HS := Lib.hid hs
  have HM := Lib.hid hm
  have HK := Lib.hid hK
  have B0 := Lib.hid (below_alloc w (.cells #[.string K, .slice a n c] 46))
  have T0 := Lib.hid (Two.alloc w (.string K) (.slice a n c) 46)
  clear hs hm hK
  go_enter Try.func6, Try.ntmps6
  go_wp2_with fail
  refine (szMemory_any K a n c L _ (HS.out.later B0.out) hn HK.out HM.out).mono ?_
  rintro e w1 ⟨r, rfl, hr | ⟨h0, hK2, hn2, hF2⟩, hb1⟩
  · go_wp2
    go_ret
    exact ⟨rfl, B0.out.trans (hb1.mono B0.out.size)⟩
  have T1 := Lib.hid (T0.out.later hb1)
  have B1 := Lib.hid (B0.out.trans (hb1.mono B0.out.size))
  have hr : ¬ (r < 0) := by omega
  have c0 := T1.out.c0
  have c1 := T1.out.c1
  clear hF2 hb1 h0
  go_wp2_with fail
  clear c0 c1
  refine (toMemory_any K a n c L _ (HS.out.later B1.out) hn2).mono ?_
  rintro e w2 ⟨g2, rfl, hown2, hb2⟩
  have T2 := Lib.hid (T1.out.later hb2)
  have B2 : Hid (Below w.heap.size w w2) := Lib.hid (B1.out.trans (hb2.mono B1.out.size))
  have I2 := Lib.hid (srcC_of_own hown2)
  clear hown2 hb2
  go_wp2_with fail
  refine (specOk_any K _ n n L _ I2.out (by omega) (by omega)).mono ?_
  rintro e w3 ⟨rfl, hb3⟩
  have T3 := Lib.hid (T2.out.later hb3)
  have B3 : Hid (Below w.heap.size w w3) := Lib.hid (B2.out.trans (hb3.mono B2.out.size))
  obtain ⟨ok, hok⟩ : ∃ ok, memOkB K L = ok := ⟨_, rfl⟩
  rw [hok]
  have HOK := Lib.hid hok
  have c0 := T3.out.c0
  have c1 := T3.out.c1
  clear hb3 I2 hok
  go_wp2_with fail
  clear c0 c1
  refine (toMemory_any K a n c L _ (HS.out.later B3.out) hn2).mono ?_
  rintro e w4 ⟨g4, rfl, hown4, hb4⟩
  have X5 := Lib.hid (Two.alloc w4 (.string K) (.slice (some ⟨g4, 0, none⟩) n n) 26)
  have T5 := Lib.hid ((T3.out.later hb4).later (below_alloc w4 (.cells #[.string K, .slice (some ⟨g4, 0, none⟩) n n] 26)))
  have B4 : Hid (Below w.heap.size w w4) := Lib.hid (B3.out.trans (hb4.mono B3.out.size))
  have B5 : Hid (Below w.heap.size w (w4.alloc (.cells #[.string K, .slice (some ⟨g4, 0, none⟩) n n] 26))) := Lib.hid (B4.out.trans ((below_alloc w4 _).mono B4.out.size))
  have I5 := Lib.hid ((srcC_of_own hown4).later (below_alloc w4 (.cells #[.string K, .slice (some ⟨g4, 0, none⟩) n n] 26)))
  clear hown4 hb4 B4
  go_wp2_with fail
  obtain ⟨q, hq⟩ : ∃ q, w4.heap.size = q := ⟨_, rfl⟩
  obtain ⟨w5, h5⟩ : ∃ x, x = w4.alloc (.cells #[.string K, .slice (some ⟨g4, 0, none⟩) n n] 26) := ⟨_, rfl⟩
  rw [hq] at X5 ⊢
  rw [← h5] at X5 T5 B5 I5 ⊢
  clear h5 hq
  refine (implOk_any K _ n n L _ I5.out (by omega) (by omega)).mono ?_
  rw [HOK.out]
  rintro e w6 ⟨rfl, hb6⟩
  have X6 := Lib.hid (X5.out.later hb6)
  have T6 := Lib.hid (T5.out.later hb6)
  have B6 : Hid (Below w.heap.size w w6) := Lib.hid (B5.out.trans (hb6.mono B5.out.size))
  have I6 := Lib.hid (I5.out.later hb6)
  have hcc : (ok != ok) = false := by cases ok <;> rfl
  have c0 := T6.out.c0
  have c1 := T6.out.c1
  have x0 := X6.out.c0
  have x1 := X6.out.c1
  clear hb6 X5 T5 B5 I5
  go_wp2_with fail
  go_region_with (first
    | (go_at_call 37; refine (toMemory_any K a n c L _ (HS.out.later (B6.out.drew)) hn2).mono ?_; rintro e w7 ⟨g7, rfl, hown7, hb7⟩
       have I7 := Lib.hid (srcC_of_own hown7)
       have I67 := Lib.hid (I6.out.drew.later hb7)
       have B7 : Hid (Below w.heap.size w w7) := Lib.hid (B6.out.drew.trans (hb7.mono B6.out.size))
       have y0 := (X6.out.drew.later hb7).c0
       have y1 := (X6.out.drew.later hb7).c1
       clear hown7 hb7)
    | (go_at_call 33; refine (eqMemory_any K _ _ n n n L _ (by omega) I67.out I7.out).mono ?_; rintro e w8 ⟨rfl, hb8⟩))
  all_goals
    go_wp2
    go_ret
    exact ⟨rfl, B7.out.trans (hb8.mono B7.out.size)⟩
end Go.Proofs.Ytpahihcnmpeenaa
namespace Go.Proofs.Ytpahihcnmpeenaa
open Go.RowKit Go.Proofs.Ytpahihcnmpeenaa.Parts Go.Proofs.Ytpahihcnmpeenaa.Hexa

theorem SrcE.news {α : Type} [Inhabited α] {E : Enc α} {w : World} {p : Addr} {n : Nat} {L : List α} (h : SrcE E w (some p) n L) (hk0 : 0 < E.k) : ∀ j u, (cellsE E L)[j]? = some u → w.cell? (p.add j) = some u := by
  intro j u hu
  have hj : j < L.length * E.k := by
    rcases Nat.lt_or_ge j (L.length * E.k) with h | h
    · exact h
    · rw [List.getElem?_eq_none (by rw [cellsE_length]; exact h)] at hu; cases hu
  have hd : j = j / E.k * E.k + j % E.k := by rw [Nat.mul_comm]; exact (Nat.div_add_mod j E.k).symm
  have hq : j / E.k < L.length := (Nat.div_lt_iff_lt_mul hk0).2 hj
  have hr := Nat.mod_lt j hk0
  rw [hd, cellsE_at E L _ _ hq hr] at hu
  obtain ⟨g, off, e, _, c⟩ := h.cell (j / E.k) (by rw [← h.len]; exact hq)
  cases e
  have := c _ _ hu
  rw [Nat.add_assoc, ← hd] at this
  rw [Addr.add_lit]; exact this

/-- What an append gives: a slice that owns the cells, in the row that it had or in a new one. -/
def AppE (P : Program) (args : Array TypeId) (ty : TypeId) (vs : Array Value) (w : World) (B e k n : Nat) (xs : List Value) (v : Value) : Prop :=
  ∃ v' w', (Builtin.append_ args ty vs).run P w = .ok v' w' ∧ w'.ownsRow B e k v' n xs ∧ w.grownBy w' v.ownBlock ∧ (v'.ownBlock = v.ownBlock ∨ v'.ownBlock = some w.heap.size)

theorem run_append_nothing {P : Program} (w : World) (base : Nat) (t ty e : TypeId) (i : TypeInfo) (size : Nat) (ht : P.underlying t = some (.slice e)) (hi : P.info? e = some i)
    (v : Value) (n c : Nat) (xs : List Value) (hown : w.ownsRow base e size v n xs) :
    (Builtin.append_ #[t, t] ty #[v, .slice none 0 c]).run P w = .ok v w := by
  rcases hown.2 with ⟨rfl, rfl⟩ | ⟨g, cap, cur, rfl, _, _, hnc, _⟩
  · simp [Builtin.append_, run_underlying ht, sizeOf, typeInfo, hi, Builtin.lenOf, Builtin.firstCells]
  · simp [Builtin.append_, run_underlying ht, sizeOf, typeInfo, hi, Builtin.lenOf, Builtin.firstCells, hnc, storeCells]

/-- Cells appended to cells that the call owns. -/
theorem appC (w : World) (ty : TypeId) (B : Nat) (v : Value) (n : Nat) (L : List C3) (hown : w.ownsRow B 68 3 v n (cellsE encC L)) (hB : B ≤ w.heap.size) (a : Option Addr) (m c : Nat) (M : List C3) (hs : SrcC w a m M) (hnm : n + m ≤ 100000000) :
    AppE Try.prog #[24, 24] ty #[v, .slice a m c] w B 68 3 (n + m) (cellsE encC (L ++ M)) v := by
  obtain ⟨i0, hi, hz0, hz1, hz2⟩ := info_parts infoCell
  rw [cellsE_append]
  cases a with
  | none =>
    have hm0 : m = 0 := by
      rcases Nat.eq_zero_or_pos m with h | h
      · exact h
      · obtain ⟨g, off, e, _⟩ := hs.cell 0 h; cases e
    subst hm0
    have hM : M = [] := List.length_eq_zero_iff.1 hs.len
    subst hM
    exact ⟨v, w, run_append_nothing w B _ ty _ i0 3 Try.underlying24 hi v n c _ hown, by simpa [cellsE] using hown, ⟨rfl, rfl, rfl, Nat.le_refl _, fun _ _ _ => rfl⟩, .inl rfl⟩
  | some p =>
    obtain ⟨v', w', hr, h2, h3, _, h5⟩ := run_append_own_at (P := Try.prog) w B 24 ty 68 i0 _ 3 32 Try.underlying24 hi hz0 hz1 hz2 rfl (by decide) v n _ hown p m c (cellsE encC M) (by rw [cellsC_length, hs.len]) (hs.news (by decide)) (cellsC_one M) (by unfold maxLen; omega) (by omega) hB
    exact ⟨v', w', hr, h2, h3, h5⟩

theorem wpList_appE {P : Program} {ops : Array Oper} {rest : List Oper} {o : Oper} {a : Act} {w : World} {Q : Exit → Act → World → Prop} (hgd : o.guard = none) (s x : Operand) (t tn : TypeId)
    (ho : o.op = .call { callee := .builtin .append, args := #[s, x], argTypes := #[t, tn] }) (vs vx : Value) (hs : a.eval s = vs) (hx : a.eval x = vx) {B e k n : Nat} {xs : List Value}
    (hr : AppE P #[t, tn] o.type #[vs, vx] w B e k n xs vs) (h : ∀ v' w', w'.ownsRow B e k v' n xs → w.grownBy w' vs.ownBlock → (v'.ownBlock = vs.ownBlock ∨ v'.ownBlock = some w.heap.size) → wpList P ops Q rest (a.put o.dst v') w') : wpList P ops Q (o :: rest) a w := by
  obtain ⟨v', w', r, h1, h2, h3⟩ := hr
  exact Lib.wpList_append_run w hgd s x t tn ho vs vx hs hx v' w' r (h v' w' h1 h2 h3)
/-- At a step of a region that draws its order. -/
theorem step_appE {P : Program} {ops : Array Oper} {o : Oper} {a : Act} {w : World} {K : Act → World → Prop} {Q : Exit → Act → World → Prop} {E : Prop} (hgd : o.guard = none) (s x : Operand) (t tn : TypeId)
    (ho : o.op = .call { callee := .builtin .append, args := #[s, x], argTypes := #[t, tn] }) (vs vx : Value) (hs : a.eval s = vs) (hx : a.eval x = vx) {B e k n : Nat} {xs : List Value}
    (hr : AppE P #[t, tn] o.type #[vs, vx] w B e k n xs vs) (h : ∀ v' w', w'.ownsRow B e k v' n xs → w.grownBy w' vs.ownBlock → (v'.ownBlock = vs.ownBlock ∨ v'.ownBlock = some w.heap.size) → K (a.put o.dst v') w') :
    if Region.wanted o (yielded ops a.tmps) = true then Oper.wp P o a w K Q else E := by
  obtain ⟨v', w', r, h1, h2, h3⟩ := hr
  rw [if_pos (by simp [Region.wanted, hgd])]
  exact Lib.wp_append_run w s x t tn ho vs vx hs hx v' w' r (h v' w' h1 h2 h3)

theorem nilC (w : World) (B : Nat) : w.ownsRow B 68 3 (.slice none 0 0) 0 (cellsE encC []) := World.ownsRow_nil _ _ _ _
theorem emptyC (w : World) (B : Nat) (hB : B ≤ w.heap.size) : (w.alloc (.cells #[] 68)).ownsRow B 68 3 (.slice (some ⟨w.heap.size, 0, none⟩) 0 0) 0 (cellsE encC []) := World.ownsRow_lit w #[] 0 hB (by decide) rfl

/-- What a call gives that returns cells. -/
def GivesC (L : List C3) (w : World) (e : Ending) (w' : World) : Prop :=
  ∃ v, e = .returned v ∧ w'.ownsRow w.heap.size 68 3 v L.length (cellsE encC L) ∧ Below w.heap.size w w'
/-- What a call gives that returns a memory. -/
def GivesM (K : ByteArray) (L : List C3) (w : World) (e : Ending) (w' : World) : Prop :=
  ∃ v, e = .returned (.agg #[.string K, v]) ∧ w'.ownsRow w.heap.size 68 3 v L.length (cellsE encC L) ∧ Below w.heap.size w w'

set_option maxRecDepth 100000 in
set_option maxHeartbeats 1000000 in
theorem cloneC_any (a : Option Addr) (n c : Nat) (L : List C3) (w : World) (hs : SrcC w a n L) (hn : n ≤ 1048600) :
    Calls Try.prog 78 #[.slice a n c] w (GivesC L w) := by
  have hL := hs.len
  cases a with
  | none =>
    have hm0 : n = 0 := by
      rcases Nat.eq_zero_or_pos n with h | h
      · exact h
      · obtain ⟨g, off, e, _⟩ := hs.cell 0 h; cases e
    subst hm0
    have hM : L = [] := List.length_eq_zero_iff.1 hL
    subst hM
    have hq := Lib.run_eql_slice_nil (P := Try.prog) w 24 68 none 0 c 0 0 Try.underlying24
    clear hs hL
    go_enter Try.func78, Try.ntmps78
    go_wp2
    go_ret
    exact ⟨_, rfl, nilC _ _, Below.refl _ _⟩
  | some p =>
    have HA := Lib.hid (appC (w.alloc (.cells #[] 68)) 24 w.heap.size _ 0 [] (emptyC w w.heap.size (Nat.le_refl _)) (by simp) (some p) n c L (hs.later (below_alloc w (.cells #[] 68))) (by omega))
    rw [Nat.zero_add, List.nil_append] at HA
    have HL := Lib.hid hL
    clear hs hL
    obtain ⟨pb, po, ps⟩ := p
    have hq := Lib.run_eql_slice_nil (P := Try.prog) w 24 68 (some ⟨pb, po, ps⟩) n c 0 0 Try.underlying24
    go_enter Try.func78, Try.ntmps78
    go_wp2_with (at_builtin; refine wpList_appE rfl _ _ _ _ rfl _ _ rfl rfl HA.out ?_; intro v1 w1 hown1 hgrow1 hat1)
    have hb1 : Below w.heap.size w w1 := (below_alloc w (.cells #[] 68)).grown hgrow1 (by simp) (fun k hk => by cases hk; exact Nat.le_refl _)
    have H1 := Lib.hid hown1
    clear hown1 hgrow1 hat1
    go_wp2
    go_ret
    exact ⟨_, rfl, by rw [HL.out]; exact H1.out, hb1⟩
end Go.Proofs.Ytpahihcnmpeenaa
namespace Go.Proofs.Ytpahihcnmpeenaa
open Go.RowKit Go.Proofs.Ytpahihcnmpeenaa.Parts Go.Proofs.Ytpahihcnmpeenaa.Hexa

def cmpZ (x y : Int) : Int := if x < y then -1 else if y < x then 1 else 0

set_option maxRecDepth 100000 in
set_option maxHeartbeats 400000 in
theorem notNaN_any (x : Int) (w : World) : Calls Try.prog 92 #[.int .i64 x] w fun e w' => e = .returned (.bool false) ∧ w' = w := by
  go_enter Try.func92, Try.ntmps92
  go_wp2
  go_ret
  exact ⟨rfl, rfl⟩

set_option maxRecDepth 100000 in
set_option maxHeartbeats 400000 in
theorem cmp_any (x y : Int) (w : World) : Calls Try.prog 89 #[.int .i64 x, .int .i64 y] w fun e w' => e = .returned (.int .i64 (cmpZ x y)) ∧ w' = w := by
  rcases Int.lt_trichotomy x y with h | h | h
  · have HE : Hid (cmpZ x y = -1) := Lib.hid (if_pos h)
    go_enter Try.func89, Try.ntmps89
    go_wp2_with (go_at_call 92; refine (notNaN_any _ _).mono ?_; rintro e w1 ⟨rfl, rfl⟩)
    go_ret
    exact ⟨by rw [HE.out]; rfl, rfl⟩
  · subst h
    have HE : Hid (cmpZ x x = 0) := Lib.hid (by unfold cmpZ; simp)
    go_enter Try.func89, Try.ntmps89
    go_wp2_with (go_at_call 92; refine (notNaN_any _ _).mono ?_; rintro e w1 ⟨rfl, rfl⟩)
    go_ret
    exact ⟨by rw [HE.out]; rfl, rfl⟩
  · have HE : Hid (cmpZ x y = 1) := Lib.hid (by unfold cmpZ; rw [if_neg (by omega), if_pos h])
    have h2 : ¬ (x < y) := by omega
    go_enter Try.func89, Try.ntmps89
    go_wp2_with (go_at_call 92; refine (notNaN_any _ _).mono ?_; rintro e w1 ⟨rfl, rfl⟩)
    go_ret
    exact ⟨by rw [HE.out]; rfl, rfl⟩

set_option maxRecDepth 100000 in
set_option maxHeartbeats 400000 in
theorem cmpCell_any (l : Int) (t : ByteArray) (f : Bool) (y : Int) (w : World) : Calls Try.prog 88 #[.agg #[.int .i64 l, .string t, .bool f], .int .i64 y] w fun e w' => e = .returned (.int .i64 (cmpZ l y)) ∧ Below w.heap.size w w' := by
  go_enter Try.func88, Try.ntmps88
  go_wp2_with (go_at_call 89; refine (cmp_any _ _ _).mono ?_; rintro e w1 ⟨rfl, rfl⟩)
  go_ret
  exact ⟨rfl, below_alloc _ _⟩

def foundB (L : List C3) (l : Int) (p : Nat) : Bool := decide (p < L.length ∧ (L.getD p default).l = l)
/-- What the search gives: the place of a line's cell, and whether it is there. -/
def FindPost (L : List C3) (l : Int) (w : World) (e : Ending) (w' : World) : Prop :=
  ∃ p : Nat, Place L l p ∧ e = .returned (.tuple #[.int .i64 p, .bool (foundB L l p)]) ∧ Below w.heap.size w w'
theorem find_post {L : List C3} {l : Int} {w w' : World} {p : Nat} {b : Bool} (h : Place L l p) (hb : foundB L l p = b) (hw : Below w.heap.size w w') : FindPost L l w (.returned (.tuple #[.int .i64 p, .bool b])) w' := ⟨p, h, by rw [hb], hw⟩

set_option maxRecDepth 100000 in
set_option maxHeartbeats 2000000 in
theorem search_any (K : ByteArray) (a : Option Addr) (n c : Nat) (L : List C3) (l : Int) (w : World) (hs : SrcC w a n L) (hn : n ≤ 1048600) (hok : MemOk K L) :
    Calls Try.prog 87 #[.slice a n c, .int .i64 l, .func (.func 88) #[] #[]] w (FindPost L l w) := by
  have HS := Lib.hid hs
  have HL := Lib.hid hs.len
  have HOK := Lib.hid hok
  clear hs hok
  go_enter Try.func87, Try.ntmps87
  go_wp2
  go_loopw [9, 10] (fun lv hv wr => ∃ lo hi : Nat, lv = .int .i64 lo ∧ hv = .int .i64 hi ∧ lo ≤ hi ∧ hi ≤ n ∧ Hid (∀ j, j < lo → (L.getD j default).l < l) ∧ Hid (∀ j, hi ≤ j → j < n → l ≤ (L.getD j default).l) ∧ Below w.heap.size w wr)
    (fun lv hv _ => (intOf hv).toNat - (intOf lv).toNat)
  case atStart => exact ⟨0, n, rfl, rfl, Nat.zero_le _, Nat.le_refl _, Lib.hid (fun j hj => by omega), Lib.hid (fun j h1 h2 => by omega), Below.refl _ _⟩
  case round =>
    obtain ⟨lo, hi, rfl, rfl, hlh, hin, HA, HB, hbel⟩ := hrel
    by_cases hlt : lo < hi
    · obtain ⟨m, hm⟩ : ∃ m, (lo + hi) / 2 = m := ⟨_, rfl⟩
      obtain ⟨g, off, rfl, hg, d1, d2, d3⟩ := HS.out.cells3_at hbel (Nat.le_refl _) m (by omega)
      have hmi : ((lo : Int) + (hi : Int)) / 2 = (m : Int) := by omega
      have hm1 : lo ≤ m := by omega
      have hm2 : m < hi := by omega
      obtain ⟨x, hx⟩ : ∃ x, L.getD m default = x := ⟨_, rfl⟩
      rw [hx] at d1 d2 d3
      have HX := Lib.hid hx
      clear hx hm
      by_cases hc : x.l < l
      · have hz : cmpZ x.l l < 0 := by unfold cmpZ; rw [if_pos hc]; omega
        have HA2 : Hid (∀ j, j < m + 1 → (L.getD j default).l < l) := Lib.hid (fun j hj => by
          by_cases e : j = m
          · subst e; rw [HX.out]; exact hc
          · have := HOK.out.asc (i := j) (j := m) (by omega) (by have := HL.out; omega); rw [HX.out] at this; omega)
        clear hc
        go_wp2_with fail
        refine (cmpCell_any x.l x.t x.f l _).mono ?_
        rintro e w1 ⟨rfl, hb1⟩
        have hb2 : Below w.heap.size w w1 := hbel.trans (hb1.mono hbel.size)
        clear d1 d2 d3 hb1
        go_wp2
        go_roundw
        case rel => exact ⟨m + 1, hi, by go_num, rfl, by omega, hin, HA2, HB, hb2⟩
        case measure => (simp [intOf]; try omega)
      · have hz : ¬ (cmpZ x.l l < 0) := by
          unfold cmpZ; rw [if_neg hc]; split <;> omega
        have HB2 : Hid (∀ j, m ≤ j → j < n → l ≤ (L.getD j default).l) := Lib.hid (fun j h1 h2 => by
          by_cases e : j = m
          · subst e; rw [HX.out]; omega
          · have := HOK.out.asc (i := m) (j := j) (by omega) (by have := HL.out; omega); rw [HX.out] at this; omega)
        clear hc
        go_wp2_with fail
        refine (cmpCell_any x.l x.t x.f l _).mono ?_
        rintro e w1 ⟨rfl, hb1⟩
        have hb2 : Below w.heap.size w w1 := hbel.trans (hb1.mono hbel.size)
        clear d1 d2 d3 hb1
        go_wp2
        go_roundw
        case rel => exact ⟨lo, m, rfl, rfl, hm1, by omega, HA, HB2, hb2⟩
        case measure => (simp [intOf]; try omega)
    · obtain rfl : lo = hi := by omega
      have HP : Hid (Place L l lo) := Lib.hid ⟨by rw [HL.out]; exact hin, HA.out, fun j h1 h2 => HB.out j h1 (by rw [← HL.out]; exact h2)⟩
      by_cases hn : lo < n
      · obtain ⟨g, off, rfl, hg, d1, d2, d3⟩ := HS.out.cells3_at hbel (Nat.le_refl _) lo hn
        obtain ⟨x, hx⟩ : ∃ x, L.getD lo default = x := ⟨_, rfl⟩
        rw [hx] at d1 d2 d3
        have HX := Lib.hid hx
        have hle : l ≤ x.l := by rw [← hx]; exact HB.out lo (Nat.le_refl _) hn
        clear hx
        by_cases e : x.l = l
        · have HF : Hid (foundB L l lo = true) := Lib.hid (by unfold foundB; exact decide_eq_true ⟨by rw [HL.out]; exact hn, by rw [HX.out]; exact e⟩)
          have hz : cmpZ l l = 0 := by unfold cmpZ; rw [if_neg (by omega), if_neg (by omega)]
          go_wp2_with fail
          refine (cmpCell_any l x.t x.f l _).mono ?_
          rintro e w1 ⟨rfl, hb1⟩
          have hb2 : Below w.heap.size w w1 := hbel.trans (hb1.mono hbel.size)
          go_wp2
          go_ret2
          exact find_post HP.out HF.out hb2
        · have HF : Hid (foundB L l lo = false) := Lib.hid (by unfold foundB; exact decide_eq_false (fun h => e (by rw [← HX.out]; exact h.2)))
          have hz : cmpZ x.l l = 1 := by unfold cmpZ; rw [if_neg (by omega), if_pos (by omega)]
          go_wp2_with fail
          refine (cmpCell_any x.l x.t x.f l _).mono ?_
          rintro e w1 ⟨rfl, hb1⟩
          have hb2 : Below w.heap.size w w1 := hbel.trans (hb1.mono hbel.size)
          go_wp2
          go_ret2
          exact find_post HP.out HF.out hb2
      · have HF : Hid (foundB L l lo = false) := Lib.hid (by unfold foundB; exact decide_eq_false (fun h => by have := h.1; rw [HL.out] at this; omega))
        go_wp2
        go_ret2
        exact find_post HP.out HF.out hbel

/-- The search behind a pointer to a memory. -/
theorem cellOf_any (b : Nat) (K : ByteArray) (a : Option Addr) (n c : Nat) (L : List C3) (l : Int) (w : World) (hT : Two w b (.string K) (.slice a n c) 26) (hs : SrcC w a n L) (hn : n ≤ 1048600) (hok : MemOk K L) :
    Calls Try.prog 79 #[.pointer (some ⟨b, 0, none⟩), .int .i64 l] w (FindPost L l w) := by
  have HS := Lib.hid hs
  have HOK := Lib.hid hok
  have q1 := hT.c1
  clear hs hok hT
  go_enter Try.func79, Try.ntmps79
  go_wp2_with fail
  refine (search_any K a n c L l w HS.out hn HOK.out).mono ?_
  rintro e w1 ⟨p, hp, rfl, hb1⟩
  have HP := Lib.hid hp
  clear hp
  obtain ⟨fb, hfb⟩ : ∃ fb, foundB L l p = fb := ⟨_, rfl⟩
  rw [hfb]
  have HF := Lib.hid hfb
  clear hfb
  go_wp2
  go_ret2
  exact find_post HP.out HF.out hb1
end Go.Proofs.Ytpahihcnmpeenaa
namespace Go.Proofs.Ytpahihcnmpeenaa
open Go.RowKit Go.Proofs.Ytpahihcnmpeenaa.Parts Go.Proofs.Ytpahihcnmpeenaa.Hexa

theorem ret_strp {a b : ByteArray} (h : a = b) : Ending.returned (.string a) = .returned (.string b) := by rw [h]
theorem ret_intp {a b : Int} (h : a = b) : Ending.returned (.int .i64 a) = .returned (.int .i64 b) := by rw [h]
theorem foundB_yes {K : ByteArray} {L : List C3} {l : Nat} {p : Nat} (hp : Place L l p) (h : foundB L l p = true) : p < L.length ∧ lineT K L l = (L.getD p default).t := by
  unfold foundB at h
  have h := of_decide_eq_true h
  exact ⟨h.1, by unfold lineT; rw [hp.found h.1 h.2]⟩
theorem foundB_no {K : ByteArray} {L : List C3} {l : Nat} {p : Nat} (hok : MemOk K L) (hp : Place L l p) (h : foundB L l p = false) : lineT K L l = K.extract (l * 16) ((l + 1) * 16) := by
  unfold foundB at h
  have h := of_decide_eq_false h
  unfold lineT
  rw [cellIdx_none (hp.lost hok h), show 16 * l = l * 16 by omega, show (l + 1) * 16 = l * 16 + 16 by omega]

set_option maxRecDepth 100000 in
set_option maxHeartbeats 400000 in
theorem textClone_c (s : ByteArray) (w : World) (hs : s.size ≤ 1048600) :
    Calls Try.prog 63 #[.string s] w fun e w' => e = .returned (.string s) ∧ Below w.heap.size w w' := by
  go_enter Try.func63, Try.ntmps63
  go_wp2_with (go_at_call 82; refine (Try.stringslite_Clone _ _ (by omega)).mono ?_; rintro e w1 ⟨rfl, hb1⟩)
  go_ret
  exact ⟨rfl, hb1⟩

set_option maxRecDepth 100000 in
set_option maxHeartbeats 400000 in
theorem hasWord_any (b : Nat) (K : ByteArray) (v : Value) (i : Int) (w : World) (hT : Two w b (.string K) v 26) (hK : K.size ≤ 1048600) :
    Calls Try.prog 49 #[.pointer (some ⟨b, 0, none⟩), .int .i64 i] w fun e w' => e = .returned (.bool (decide (Has K i))) ∧ w' = w := by
  have q0 := hT.c0
  have hd : (K.size : Int) / 8 = ((K.size / 8 : Nat) : Int) := by omega
  obtain ⟨N, hN⟩ : ∃ N : Nat, K.size / 8 = N := ⟨_, rfl⟩
  have HD : Hid (decide (Has K i) = (decide (0 ≤ i) && decide (i < (N : Int)))) := Lib.hid (by
    have h3 : Has K i ↔ (0 ≤ i ∧ i < (N : Int)) := by unfold Has; rw [hN]
    simp only [h3, Bool.decide_and])
  rw [HD.out]
  rw [hN] at hd
  clear hT hN HD
  by_cases h1 : 0 ≤ i
  · by_cases h2 : i < (N : Int)
    · go_enter Try.func49, Try.ntmps49
      go_wp2
      go_ret
      exact ⟨by simp [h1, h2], rfl⟩
    · go_enter Try.func49, Try.ntmps49
      go_wp2
      go_ret
      exact ⟨by simp [h2], rfl⟩
  · go_enter Try.func49, Try.ntmps49
    go_wp2
    go_ret
    exact ⟨by simp; omega, rfl⟩

set_option maxRecDepth 100000 in
set_option maxHeartbeats 400000 in
theorem wordStart_any (m : Nat) (i : Int) (w : World) (hi : i = m) (hm : m ≤ 1048600) :
    Calls Try.prog 62 #[.int .i64 i] w fun e w' => e = .returned (.int .i64 ((m % 2 * 8 : Nat) : Int)) ∧ w' = w := by
  subst hi
  go_enter Try.func62, Try.ntmps62
  go_wp2
  go_ret
  exact ⟨ret_intp (by omega), rfl⟩

set_option maxRecDepth 100000 in
set_option maxHeartbeats 1000000 in
theorem current_any (b : Nat) (K : ByteArray) (a : Option Addr) (n c : Nat) (L : List C3) (l : Nat) (i : Int) (w : World) (hi : i = l) (hT : Two w b (.string K) (.slice a n c) 26) (hs : SrcC w a n L) (hn : n ≤ 1048600) (hok : MemOk K L) (hl : l < K.size / 16) :
    Calls Try.prog 64 #[.pointer (some ⟨b, 0, none⟩), .int .i64 i] w fun e w' => e = .returned (.string (lineT K L l)) ∧ Below w.heap.size w w' := by
  subst hi
  have HS := Lib.hid hs
  have HL := Lib.hid hs.len
  have HOK := Lib.hid hok
  have HT := Lib.hid hT
  have hk2 := hok.2.1
  clear hs hok hT
  go_enter Try.func64, Try.ntmps64
  go_wp2_with fail
  refine (cellOf_any b K a n c L l w HT.out HS.out hn HOK.out).mono ?_
  rintro e w1 ⟨p, hp, rfl, hb1⟩
  have HP := Lib.hid hp
  have T1 := Lib.hid (HT.out.later hb1)
  have q0 := T1.out.c0
  have q1 := T1.out.c1
  have B1 := Lib.hid hb1
  clear hp hb1
  cases hfb : foundB L l p with
  | true =>
    obtain ⟨hpl, he⟩ := foundB_yes (K := K) HP.out hfb
    have HE := Lib.hid he
    have hpn : p < n := by have := HL.out; omega
    clear hfb he hpl
    obtain ⟨g, off, rfl, hg, d1, d2, d3⟩ := HS.out.cells3_at B1.out (Nat.le_refl _) p hpn
    go_wp2
    go_ret
    exact ⟨ret_strp HE.out.symm, B1.out⟩
  | false =>
    have HE := Lib.hid (foundB_no HOK.out HP.out hfb)
    clear hfb
    go_wp2
    go_ret
    exact ⟨ret_strp HE.out.symm, B1.out⟩
end Go.Proofs.Ytpahihcnmpeenaa
namespace Go.Proofs.Ytpahihcnmpeenaa
open Go.RowKit Go.Proofs.Ytpahihcnmpeenaa.Parts Go.Proofs.Ytpahihcnmpeenaa.Hexa

theorem set_same {xs : List Value} {j : Nat} {v : Value} (h : xs[j]? = some v) : xs.set j v = xs := by
  apply List.ext_getElem?
  intro i
  by_cases e : i = j
  · subst e
    rw [List.getElem?_set_self (by rcases Nat.lt_or_ge i xs.length with h' | h'; exact h'; rw [List.getElem?_eq_none h'] at h; cases h), h]
  · rw [List.getElem?_set_ne (fun h => e h.symm)]
theorem cellsC_text {L : List C3} {k : Nat} (hk : k < L.length) : (cellsE encC L)[k * 3 + 1]? = some (.string (L.getD k default).t) := by
  have := cellsE_at encC L k 1 hk (by decide)
  exact this
theorem cellsC_flag {L : List C3} {k : Nat} (hk : k < L.length) : (cellsE encC L)[k * 3 + 2]? = some (.bool (L.getD k default).f) := by
  have := cellsE_at encC L k 2 hk (by decide)
  exact this
theorem own_block_geE {w : World} {B e k : Nat} {v : Value} {n : Nat} {xs : List Value} (h : w.ownsRow B e k v n xs) : ∀ g, v.ownBlock = some g → B ≤ g := fun g hg => (h.lt g hg).1
def FitT (L : List C3) (b : Nat) : Prop := ∀ j, j < L.length → (L.getD j default).t.size ≤ b

set_option maxRecDepth 100000 in
set_option maxHeartbeats 1000000 in
theorem memoryCopy_any (K : ByteArray) (a : Option Addr) (n c : Nat) (L : List C3) (w : World) (hs : SrcC w a n L) (hn : n ≤ 1048600) (hK : K.size ≤ 1048600) (hF : FitT L 1048600) :
    Calls Try.prog 48 #[.agg #[.string K, .slice a n c]] w (GivesM K L w) := by
  have HS := Lib.hid hs
  have HL := Lib.hid hs.len
  have HF := Lib.hid hF
  have HK := Lib.hid hK
  have hb0 : Below w.heap.size w ((w.alloc (.cells #[.string K, .slice a n c] 26)).alloc (.cells #[.string ⟨#[]⟩, .slice none 0 0] 26)) := ((Below.refl _ _).alloc (Nat.le_refl _) _).alloc (by simp) _
  have k0 : Two ((w.alloc (.cells #[.string K, .slice a n c] 26)).alloc (.cells #[.string ⟨#[]⟩, .slice none 0 0] 26)) w.heap.size (.string K) (.slice a n c) 26 := (Two.alloc w _ _ _).later (below_alloc _ _)
  have k1 : Two ((w.alloc (.cells #[.string K, .slice a n c] 26)).alloc (.cells #[.string ⟨#[]⟩, .slice none 0 0] 26)) (w.heap.size + 1) (.string ⟨#[]⟩) (.slice none 0 0) 26 := by
    have h := Two.alloc (w.alloc (.cells #[.string K, .slice a n c] 26)) (.string ⟨#[]⟩) (.slice none 0 0) 26
    simpa using h
  have k3 : ((w.alloc (.cells #[.string K, .slice a n c] 26)).alloc (.cells #[.string ⟨#[]⟩, .slice none 0 0] 26)).heap.size = w.heap.size + 2 := by simp
  have K0 := Lib.hid k0
  have K1 := Lib.hid k1
  have K3 := Lib.hid k3
  have B0 := Lib.hid hb0
  clear hs hF hb0 k0 k1 k3 hK
  go_enter Try.func48, Try.ntmps48
  go_wp2_with fail
  obtain ⟨W2, hW⟩ : ∃ x, x = (w.alloc (.cells #[.string K, .slice a n c] 26)).alloc (.cells #[.string ⟨#[]⟩, .slice none 0 0] 26) := ⟨_, rfl⟩
  rw [← hW] at K0 K1 K3 B0 ⊢
  clear hW
  refine (cloneC_any a n c L W2 (HS.out.later B0.out) hn).mono ?_
  rintro e w1 ⟨v, rfl, hown, hb1⟩
  have hown' := hown
  rw [HL.out, K3.out] at hown'
  obtain ⟨ad, cap, rfl, hnc, hcm, hpl⟩ := ownE_form hown'
  have T1 := Lib.hid (K0.out.later hb1)
  have R1 := Lib.hid (K1.out.later hb1)
  have B1 : Hid (Below w.heap.size w w1) := Lib.hid (B0.out.trans (hb1.mono B0.out.size))
  have O1 := Lib.hid hown'
  have S1 : Hid (w.heap.size + 2 ≤ w1.heap.size) := Lib.hid (by have := hb1.size; rw [K3.out] at this; exact this)
  unfold maxLen at hcm
  have HPL := Lib.hid hpl
  clear hown hown' hb1 hpl K0 K1
  go_wp2
  go_loopw [10] (fun iv wr => ∃ k : Nat, k ≤ n ∧ iv = .int .i64 k ∧ Hid (Below (w.heap.size + 2) w1 wr) ∧ Hid (wr.ownsRow (w.heap.size + 2) 68 3 (.slice ad n cap) n (cellsE encC L))) (fun iv _ => n - (intOf iv).toNat)
  case atStart => exact ⟨0, Nat.zero_le _, rfl, Lib.hid (Below.refl _ _), O1⟩
  case round =>
    obtain ⟨k, hk, rfl, HB, HO⟩ := hrel
    by_cases hlt : k < n
    · obtain ⟨g, off, rfl, hg, d1, d2, d3⟩ := (srcC_of_own HO.out).cells3 k hlt
      obtain ⟨g0, e0, hg0, hg1⟩ := HPL.out _ rfl
      cases e0
      have hts := HF.out k (by have := HL.out; omega)
      have hct := Lib.hid (cellsC_text (L := L) (k := k) (by have := HL.out; omega))
      obtain ⟨x, hx⟩ : ∃ x, L.getD k default = x := ⟨_, rfl⟩
      rw [hx] at d1 d2 d3 hts hct
      clear hx
      simp only [Nat.zero_add] at d1 d2 d3
      go_wp2_with fail
      refine (textClone_c _ _ hts).mono ?_
      rintro e w2 ⟨rfl, hb2⟩
      have O2 := Lib.hid (own_below HO.out hb2)
      obtain ⟨v2, e2⟩ := ownE_cell O2.out (j := k * 3 + 1) (by omega)
      have f2 := O2.out.frozenAt (k * 3 + 1)
      have O3 : Hid ((w2.setCell ⟨g, k * 3 + 1, none⟩ (.string x.t)).ownsRow (w.heap.size + 2) 68 3 (.slice (some ⟨g, 0, none⟩) n cap) n (cellsE encC L)) := Lib.hid (by
        have h := (O2.out.stored (k * 3 + 1) (.string x.t)).1
        rw [set_same hct.out] at h; exact h)
      have hb3 : Hid (Below (w.heap.size + 2) w1 (w2.setCell ⟨g, k * 3 + 1, none⟩ (.string x.t))) := Lib.hid ((HB.out.trans (hb2.mono (by have := HB.out.size; have := S1.out; omega))).setCell hg0 _)
      clear d1 d2 d3 hb2
      go_wp2
      go_roundw
      case rel => exact ⟨k + 1, by omega, by go_num, hb3, O3⟩
      case measure => (simp [intOf]; try omega)
    · obtain rfl : k = n := by omega
      have Tr : Hid (Two wr w.heap.size (.string K) (.slice a k c) 26) := Lib.hid ((HB.out.block _ (by omega)).trans T1.out)
      have Rr : Hid (Two wr (w.heap.size + 1) (.string ⟨#[]⟩) (.slice none 0 0) 26) := Lib.hid ((HB.out.block _ (by omega)).trans R1.out)
      have Br : Hid (Below w.heap.size w wr) := Lib.hid (B1.out.trans (HB.out.mono (by omega)))
      have c0 := Tr.out.c0
      have Sr : Hid (w.heap.size + 2 ≤ wr.heap.size) := Lib.hid (Nat.le_trans S1.out HB.out.size)
      go_wp2_with fail
      refine (textClone_c _ _ HK.out).mono ?_
      rintro e w2 ⟨rfl, hb2⟩
      have R2 := Rr.out.later hb2
      have O2 := Lib.hid (own_below HO.out hb2)
      have r0 := R2.c0
      have r1 := R2.c1
      have f0 := R2.fr (o := 0)
      have f1 := R2.fr (o := 1)
      have q := two_set1 (two_set0 R2 (x := .string K)) (x := .slice ad k cap)
      have q0 := cell0_of_two q
      have q1 := cell1_of_two q
      have B2 := Lib.hid (Br.out.trans (hb2.mono Br.out.size))
      have HL2 := HL.out
      clear q R2 hb2 hlt
      go_wp2
      refine bodyPost_ret (v := .agg #[.string K, .slice ad k cap]) ?_ rfl ⟨_, rfl, ?_, (B2.out.setCell (by simp) _).setCell (by simp) _⟩
      · simp [results, Try.results48, go_sem, q0, q1]
      · rw [HL2]
        have hne : ∀ g, (Value.slice ad k cap).ownBlock = some g → w.heap.size + 2 ≤ g := fun g hg => own_block_geE O2.out g hg
        exact ownsRow_setCell_other (ownsRow_setCell_other (ownE_mono O2.out (by omega)) (fun h => by have := hne _ h; simp at this) _) (fun h => by have := hne _ h; simp at this) _
end Go.Proofs.Ytpahihcnmpeenaa
namespace Go.Proofs.Ytpahihcnmpeenaa
open Go.RowKit Go.Proofs.Ytpahihcnmpeenaa.Parts Go.Proofs.Ytpahihcnmpeenaa.Hexa

/-- A memory behind a pointer, that the call owns. -/
structure BoxM (w : World) (M b : Nat) (K : ByteArray) (a : Option Addr) (n c : Nat) (L : List C3) : Prop where
  two : Two w b (.string K) (.slice a n c) 26
  own : w.ownsRow M 68 3 (.slice a n c) n (cellsE encC L)
  low : M ≤ b
  ne : ∀ p, a = some p → p.block ≠ b
theorem BoxM.later {w w' : World} {M b : Nat} {K : ByteArray} {a : Option Addr} {n c : Nat} {L : List C3} (h : BoxM w M b K a n c L) (hb : Below w.heap.size w w') : BoxM w' M b K a n c L :=
  ⟨h.two.later hb, own_below h.own hb, h.low, h.ne⟩
theorem BoxM.src {w : World} {M b : Nat} {K : ByteArray} {a : Option Addr} {n c : Nat} {L : List C3} (h : BoxM w M b K a n c L) : SrcC w a n L := srcC_of_own h.own
theorem BoxM.len {w : World} {M b : Nat} {K : ByteArray} {a : Option Addr} {n c : Nat} {L : List C3} (h : BoxM w M b K a n c L) : L.length = n := h.src.len
theorem BoxM.lowM {w : World} {M b : Nat} {K : ByteArray} {a : Option Addr} {n c : Nat} {L : List C3} (h : BoxM w M b K a n c L) : M ≤ w.heap.size := Nat.le_of_lt (Nat.lt_of_le_of_lt h.low h.two.lt)
/-- A cell of the row is written. -/
theorem BoxM.stored {w : World} {M b : Nat} {K : ByteArray} {g n c : Nat} {L L' : List C3} (h : BoxM w M b K (some ⟨g, 0, none⟩) n c L) (j : Nat) (v : Value) (hL : (cellsE encC L).set j v = cellsE encC L') : BoxM (w.setCell ⟨g, j, none⟩ v) M b K (some ⟨g, 0, none⟩) n c L' :=
  ⟨(Below.heap_setCell w ⟨g, j, none⟩ v b (fun e => h.ne _ rfl e.symm)).trans h.two, by rw [← hL]; exact (h.own.stored j v).1, h.low, h.ne⟩
theorem BoxM.base {w : World} {M b : Nat} {K : ByteArray} {g n c : Nat} {L : List C3} (h : BoxM w M b K (some ⟨g, 0, none⟩) n c L) : M ≤ g := (h.own.lt g rfl).1

theorem end_void {P : Program} {fn : Func} {R : Ending → World → Prop} {a : Act} {w : World} (hr : fn.results = #[]) (hd : a.defers = []) (hR : R (.returned (.tuple #[])) w) : bodyPost P fn R .normal a w :=
  ⟨hd, .tuple #[], by simp [results, hr], hR⟩
theorem set_flag {L : List C3} {k : Nat} (f : Bool) (hk : k < L.length) : (cellsE encC L).set (k * 3 + 2) (.bool f) = cellsE encC (L.set k ⟨(L.getD k default).l, (L.getD k default).t, f⟩) := by
  rw [← cellsE_set encC L k _ hk]
  have h0 : (cellsE encC L)[k * 3]? = some (.int .i64 (L.getD k default).l) := cellsE_at encC L k 0 hk (by decide)
  have h1 := cellsC_text hk
  show _ = ((((cellsE encC L).set (k * 3) (.int .i64 (L.getD k default).l)).set (k * 3 + 1) (.string (L.getD k default).t)).set (k * 3 + 2) (.bool f))
  rw [set_same h0, set_same h1]

set_option maxRecDepth 100000 in
set_option maxHeartbeats 1000000 in
theorem flush_any (M b : Nat) (K : ByteArray) (a : Option Addr) (n c : Nat) (L : List C3) (l : Int) (w : World) (hB : BoxM w M b K a n c L) (hn : n ≤ 1048600) (hok : MemOk K L) :
    Calls Try.prog 59 #[.pointer (some ⟨b, 0, none⟩), .int .i64 l] w fun e w' => e = .returned (.tuple #[]) ∧ BoxM w' M b K a n c (flushL L l) ∧ Below M w w' := by
  have HB := Lib.hid hB
  have HOK := Lib.hid hok
  have HL := Lib.hid hB.len
  clear hB hok
  go_enter Try.func59, Try.ntmps59
  go_wp2_with fail
  refine (cellOf_any b K a n c L l w HB.out.two HB.out.src hn HOK.out).mono ?_
  rintro e w1 ⟨p, hp, rfl, hb1⟩
  have HP := Lib.hid hp
  have B1 := Lib.hid (HB.out.later hb1)
  have q1 := B1.out.two.c1
  have BB := Lib.hid (hb1.mono HB.out.lowM)
  clear hp hb1
  cases hfb : foundB L l p with
  | true =>
    have hf := hfb
    unfold foundB at hf
    have hf := of_decide_eq_true hf
    have HE : Hid (flushL L l = L.set p ⟨(L.getD p default).l, (L.getD p default).t, true⟩) := Lib.hid (by unfold flushL; rw [HP.out.found hf.1 hf.2])
    have hpn : p < n := by have := HL.out; omega
    have HPL := Lib.hid hf.1
    clear hfb hf
    obtain ⟨g, off, rfl, hg, d1, d2, d3⟩ := B1.out.src.cells3 p hpn
    obtain ⟨ad, cap, hv, _, _, hpl⟩ := ownE_form B1.out.own
    cases hv
    obtain ⟨g0, e0, hg0, hg1⟩ := hpl _ rfl
    cases e0
    have f3 := B1.out.own.frozenAt (p * 3 + 2)
    have B2 := Lib.hid (B1.out.stored (p * 3 + 2) (.bool true) (set_flag true HPL.out))
    rw [← HE.out] at B2
    have BB2 := Lib.hid (BB.out.setCell (p := ⟨g, p * 3 + 2, none⟩) B1.out.base (.bool true))
    simp only [Nat.zero_add] at d1 d2 d3
    clear hpl
    go_wp2
    exact end_void rfl rfl ⟨rfl, B2.out, BB2.out⟩
  | false =>
    have hf := hfb
    unfold foundB at hf
    have hf := of_decide_eq_false hf
    have HE : Hid (flushL L l = L) := Lib.hid (by unfold flushL; rw [cellIdx_none (HP.out.lost HOK.out hf)])
    clear hfb hf
    go_wp2
    exact end_void rfl rfl ⟨rfl, by rw [HE.out]; exact B1.out, BB.out⟩
end Go.Proofs.Ytpahihcnmpeenaa
namespace Go.Proofs.Ytpahihcnmpeenaa
open Go.RowKit Go.Proofs.Ytpahihcnmpeenaa.Parts Go.Proofs.Ytpahihcnmpeenaa.Hexa

set_option maxRecDepth 100000 in
set_option maxHeartbeats 1000000 in
theorem specCopy_any (K : ByteArray) (a : Option Addr) (n c : Nat) (L : List C3) (w : World) (hs : SrcC w a n L) (hn : n ≤ 1048600) :
    Calls Try.prog 53 #[.agg #[.string K, .slice a n c]] w (GivesM K L w) := by
  have HL := Lib.hid hs.len
  have hb0 : Below w.heap.size w ((w.alloc (.cells #[.string K, .slice a n c] 26)).alloc (.cells #[.string ⟨#[]⟩, .slice none 0 0] 26)) := ((Below.refl _ _).alloc (Nat.le_refl _) _).alloc (by simp) _
  have k0 : Two ((w.alloc (.cells #[.string K, .slice a n c] 26)).alloc (.cells #[.string ⟨#[]⟩, .slice none 0 0] 26)) w.heap.size (.string K) (.slice a n c) 26 := (Two.alloc w _ _ _).later (below_alloc _ _)
  have k1 : Two ((w.alloc (.cells #[.string K, .slice a n c] 26)).alloc (.cells #[.string ⟨#[]⟩, .slice none 0 0] 26)) (w.heap.size + 1) (.string ⟨#[]⟩) (.slice none 0 0) 26 := by
    have h := Two.alloc (w.alloc (.cells #[.string K, .slice a n c] 26)) (.string ⟨#[]⟩) (.slice none 0 0) 26
    simpa using h
  have k3 : ((w.alloc (.cells #[.string K, .slice a n c] 26)).alloc (.cells #[.string ⟨#[]⟩, .slice none 0 0] 26)).heap.size = w.heap.size + 2 := by simp
  go_enter Try.func53, Try.ntmps53
  go_wp2_with fail
  obtain ⟨W2, hW⟩ : ∃ x, x = (w.alloc (.cells #[.string K, .slice a n c] 26)).alloc (.cells #[.string ⟨#[]⟩, .slice none 0 0] 26) := ⟨_, rfl⟩
  rw [← hW] at k0 k1 k3 hb0 ⊢
  clear hW
  have hb2 : Below w.heap.size w (W2.drew.alloc (.cells #[] 68)) := hb0.drew.alloc hb0.size _
  have HA := Lib.hid (appC (W2.drew.alloc (.cells #[] 68)) 24 (w.heap.size + 2) _ 0 [] (emptyC W2.drew (w.heap.size + 2) (by rw [← k3]; exact Nat.le_refl _)) (by rw [← k3]; simp) a n c L (hs.later hb2) (by omega))
  rw [Nat.zero_add, List.nil_append] at HA
  have hbd : Below W2.heap.size W2 (W2.drew.alloc (.cells #[] 68)) := (Below.refl _ _).drew.alloc (Nat.le_refl _) _
  have K0 := Lib.hid (k0.later hbd)
  have K1 := Lib.hid (k1.later hbd)
  have c0 := k0.drew.c0
  have c1 := k0.drew.c1
  have z0 : (W2.alloc (.cells #[] 68)).cell? ⟨w.heap.size, 0, none⟩ = some (.string K) := K0.out.c0
  have z1 : (W2.alloc (.cells #[] 68)).cell? ⟨w.heap.size, 1, none⟩ = some (.slice a n c) := K0.out.c1
  have B2 := Lib.hid hb2
  have SZ : Hid ((W2.drew.alloc (.cells #[] 68)).heap.size = w.heap.size + 3) := Lib.hid (by
    have : (W2.drew.alloc (.cells #[] 68)).heap.size = W2.heap.size + 1 := by simp
    omega)
  have K3 := Lib.hid k3
  clear hs hb0 k0 k1 k3 hb2 hbd
  go_region_law (first
    | (refine step_appE rfl (.tmp 5) (.tmp 7) 24 24 rfl (.slice (some ⟨W2.heap.size, 0, none⟩) 0 0) (.slice a n c) (by simp [Act.eval]) (by simp [Act.eval]) HA.out ?_
       intro v1 w1 hown1 hgrow1 hat1
       have R1 : Two w1 (w.heap.size + 1) (.string ⟨#[]⟩) (.slice none 0 0) 26 := (hgrow1.block _ (by first | (have h : (W2.alloc (.cells #[] 68)).drew.heap.size = w.heap.size + 3 := SZ.out; omega) | (have h := SZ.out; omega)) (by have := K3.out; simp [Value.ownBlock]; omega)).trans K1.out
       have Y1 : Two w1 w.heap.size (.string K) (.slice a n c) 26 := (hgrow1.block _ (by first | (have h : (W2.alloc (.cells #[] 68)).drew.heap.size = w.heap.size + 3 := SZ.out; omega) | (have h := SZ.out; omega)) (by have := K3.out; simp [Value.ownBlock]; omega)).trans K0.out
       have y0 := Y1.c0
       have y1 := Y1.c1
       have r0 := R1.c0
       have r1 := R1.c1
       have f0 := R1.fr (o := 0)
       have f1 := R1.fr (o := 1)
       have B1 := Lib.hid (B2.out.grown hgrow1 (by first | (have h : (W2.alloc (.cells #[] 68)).drew.heap.size = w.heap.size + 3 := SZ.out; omega) | (have h := SZ.out; omega)) (fun k hk => by cases hk; have := K3.out; show w.heap.size ≤ W2.heap.size; omega))
       obtain ⟨ad1, cap1, rfl, _, _, _⟩ := ownE_form hown1
       have O1 := Lib.hid hown1
       have RR1 := Lib.hid R1
       clear hown1 hgrow1 hat1 R1 Y1))
  all_goals
    have q := two_set1 (two_set0 RR1.out (x := .string K)) (x := .slice ad1 n cap1)
    have q0 := cell0_of_two q
    have q1 := cell1_of_two q
    clear q
    go_wp2
    refine bodyPost_ret (v := .agg #[.string K, .slice ad1 n cap1]) ?_ rfl ⟨_, rfl, ?_, (B1.out.setCell (by simp) _).setCell (by simp) _⟩
    · simp [results, Try.results53, go_sem, q0, q1]
    · rw [HL.out]
      have hne : ∀ g, (Value.slice ad1 n cap1).ownBlock = some g → w.heap.size + 2 ≤ g := fun g hg => (O1.out.lt g hg).1
      exact ownsRow_setCell_other (ownsRow_setCell_other (ownE_mono O1.out (by omega)) (fun h => by have := hne _ h; simp at this) _) (fun h => by have := hne _ h; simp at this) _
end Go.Proofs.Ytpahihcnmpeenaa
