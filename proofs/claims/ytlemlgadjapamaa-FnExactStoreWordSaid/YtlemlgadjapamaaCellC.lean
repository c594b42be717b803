/- Slices of a memory's cells and memories: marks written over them, and read. -/
import Derived.Test.YtlemlgadjapamaaCellB
import Derived.Test.YtlemlgadjapamaaMarkText
namespace Go.Proofs.Ytlemlgadjapamaa
open Go.RowKit Go.Proofs.Ytlemlgadjapamaa.Parts Go.Proofs.Ytlemlgadjapamaa.Hexa

theorem ret_i64c {a b : Int} (h : a = b) : Ending.returned (.int .i64 a) = .returned (.int .i64 b) := by rw [h]
theorem markText_c (i : Int) (k : Nat) (w : World) (h : i = k) (h0 : 0 < k) (hk : k ≤ 100000000) :
    Calls Try.prog 84 #[.int .i64 i] w fun e w' => e = .returned (.string (markT k)) ∧ Below w.heap.size w w' := by
  subst h; exact markText_any k w h0 hk

/-- The marks from k on. -/
def markC (k : Nat) : C3 := ⟨(k : Int), markT (k + 1), ((k : Int) + 1 + 1) % 3 == 0⟩
def marksC (k n : Nat) : List C3 := (List.range n).map fun i => markC (k + 3 * i)
theorem marksC_length (k n : Nat) : (marksC k n).length = n := by simp [marksC]
theorem marksC_at (k n j : Nat) (hj : j < n) : (marksC k n).getD j default = markC (k + 3 * j) := by simp [marksC, List.getD, hj]

def MarkPostC (B n cap k : Nat) (w : World) (e : Ending) (w' : World) : Prop :=
  e = .returned (.int .i64 (k + 3 * n)) ∧ Below B w w' ∧ ButE B w w' ∧ w'.ownsRow B 68 3 (.slice (some ⟨B, 0, none⟩) n cap) n (cellsE encC (marksC k n))

set_option maxRecDepth 100000 in
set_option maxHeartbeats 1000000 in
theorem markCells_some (B n cap k : Nat) (xs : List Value) (w : World) (h0 : 0 < k) (hk : k + 3 * n ≤ 100000000) (hown : w.ownsRow B 68 3 (.slice (some ⟨B, 0, none⟩) n cap) n xs) :
    Calls Try.prog 69 #[.slice (some ⟨B, 0, none⟩) n cap, .int .i64 k] w (MarkPostC B n cap k w) := by
  have HO := Lib.hid hown
  have hB := Lib.hid (ownE_lt hown)
  clear hown
  go_enter Try.func69, Try.ntmps69
  go_wp2
  go_loopw [1, 5] (fun kv iv wr => ∃ (j q : Nat) (ys : List Value), j ≤ n ∧ q ≤ k + 3 * n ∧ 0 < q ∧ Hid (q = k + 3 * j) ∧ iv = .int .i64 j ∧ kv = .int .i64 q ∧ Hid (∀ t, t < j * 3 → ys[t]? = (cellsE encC (marksC k n))[t]?) ∧ Hid (wr.ownsRow B 68 3 (.slice (some ⟨B, 0, none⟩) n cap) n ys) ∧ Below B w wr ∧ Hid (ButE B w wr)) (fun _ iv _ => n - (intOf iv).toNat)
  case atStart => exact ⟨0, k, xs, Nat.zero_le _, by omega, h0, Lib.hid rfl, rfl, rfl, Lib.hid (fun t ht => by omega), HO, Below.refl _ _, Lib.hid (ButE.refl _ _)⟩
  case round =>
    clear HO
    obtain ⟨j, q, ys, hj, hq, hq0, HQ, rfl, rfl, HX, HW, hbel, HK⟩ := hrel
    by_cases hlt : j < n
    · have hl : Hid (ys.length = n * 3) := Lib.hid HW.out.1
      have hq3 : q + 3 ≤ k + 3 * n := by have := HQ.out; omega
      have X1 := Lib.hid (cellsE_step encC (L := marksC k n) (by rw [marksC_length]; exact hlt) (by rw [marksC_length]; exact hl.out) HX.out)
      rw [marksC_at k n j hlt, ← HQ.out] at X1
      obtain ⟨v0, e0⟩ := ownE_cell HW.out (j := j * 3) (by omega)
      have f0 := HW.out.frozenAt (j * 3)
      have O0 := Lib.hid (HW.out.stored (j * 3) (.int .i64 (q : Int))).1
      have K0 := Lib.hid (HK.out.then_set (j * 3) (.int .i64 (q : Int)))
      have b0 : Below B w (wr.setCell ⟨B, j * 3, none⟩ (.int .i64 (q : Int))) := hbel.setCell (Nat.le_refl _) _
      go_wp2_with fail
      clear e0 f0 HW
      obtain ⟨wa, hwa⟩ : ∃ x, x = wr.setCell ⟨B, j * 3, none⟩ (.int .i64 (q : Int)) := ⟨_, rfl⟩
      rw [← hwa] at O0 K0 b0 ⊢
      clear hwa
      refine (markText_c _ (q + 1) _ (by omega) (by omega) (by omega)).mono ?_
      rintro e w2 ⟨rfl, hb2⟩
      have W2 := Lib.hid (own_below O0.out hb2)
      obtain ⟨v2, e2⟩ := ownE_cell W2.out (j := j * 3 + 1) (by omega)
      have f2 := W2.out.frozenAt (j * 3 + 1)
      have O2 := Lib.hid (W2.out.stored (j * 3 + 1) (.string (markT (q + 1)))).1
      have K2 := Lib.hid ((K0.out.then_below hb2).then_set (j * 3 + 1) (.string (markT (q + 1))))
      have b2 : Below B w (w2.setCell ⟨B, j * 3 + 1, none⟩ (.string (markT (q + 1)))) := (b0.trans (hb2.mono (by have := hB.out; have := b0.size; omega))).setCell (Nat.le_refl _) _
      obtain ⟨v3, e3⟩ := ownE_cell W2.out (j := j * 3 + 2) (by omega)
      have f3 := O2.out.frozenAt (j * 3 + 2)
      have O3 := Lib.hid (O2.out.stored (j * 3 + 2) (.bool (((q : Int) + 1 + 1) % 3 == 0))).1
      have K3 := Lib.hid (K2.out.then_set (j * 3 + 2) (.bool (((q : Int) + 1 + 1) % 3 == 0)))
      have b3 : Below B w ((w2.setCell ⟨B, j * 3 + 1, none⟩ (.string (markT (q + 1)))).setCell ⟨B, j * 3 + 2, none⟩ (.bool (((q : Int) + 1 + 1) % 3 == 0))) := b2.setCell (Nat.le_refl _) _
      clear hb2 b0 b2 K0 K2 O0 O2
      go_wp2
      clear e2 f2 e3 f3
      go_roundw
      case rel => exact ⟨j + 1, q + 3, _, by omega, hq3, by omega, Lib.hid (by have := HQ.out; omega), by go_num, by go_num, X1, O3, b3, K3⟩
      case measure => (simp [intOf]; try omega)
    · obtain rfl : j = n := by omega
      have hfin : ys = cellsE encC (marksC k j) := cellsE_all encC (by rw [marksC_length]; exact HW.out.1) (by rw [marksC_length]; exact HX.out)
      have ho := HW.out
      rw [hfin] at ho
      have HO := Lib.hid ho
      clear ho hfin HW
      go_wp2
      go_ret
      exact ⟨ret_i64c (by have := HQ.out; omega), hbel, HK.out, HO.out⟩

set_option maxRecDepth 100000 in
set_option maxHeartbeats 1000000 in
/-- Marks that are read again. -/
theorem heldCells_any (a : Option Addr) (n cap k : Nat) (w : World) (h0 : 0 < k) (hk : k + 3 * n ≤ 100000000) (hs : SrcC w a n (marksC k n)) :
    Calls Try.prog 70 #[.slice a n cap, .int .i64 k] w fun e w' => e = .returned (.int .i64 (k + 3 * n)) ∧ Below w.heap.size w w' := by
  have HS := Lib.hid hs
  clear hs
  go_enter Try.func70, Try.ntmps70
  go_wp2
  go_loopw [1, 5] (fun kv iv wr => ∃ (j q : Nat), j ≤ n ∧ q ≤ k + 3 * n ∧ 0 < q ∧ Hid (q = k + 3 * j) ∧ iv = .int .i64 j ∧ kv = .int .i64 q ∧ Below w.heap.size w wr) (fun _ iv _ => n - (intOf iv).toNat)
  case atStart => exact ⟨0, k, Nat.zero_le _, by omega, h0, Lib.hid rfl, rfl, rfl, Below.refl _ _⟩
  case round =>
    obtain ⟨j, q, hj, hq, hq0, HQ, rfl, rfl, hbel⟩ := hrel
    by_cases hlt : j < n
    · have hq3 : q + 3 ≤ k + 3 * n := by have := HQ.out; omega
      obtain ⟨g, off, rfl, hg, d1, d2, d3⟩ := HS.out.cells3_at hbel (Nat.le_refl _) j hlt
      rw [marksC_at k n j hlt, ← HQ.out] at d1 d2 d3
      simp only [markC] at d1 d2 d3
      have hcast : Hid (((q : Int) + 1) = ((q + 1 : Nat) : Int)) := Lib.hid (by omega)
      go_wp2
      go_region_with (go_at_call 84; refine (markText_c ((q : Int) + 1) (q + 1) _ hcast.out (by omega) (by omega)).mono ?_; rintro e w2 ⟨rfl, hb2⟩; have m2 := (hb2.cell (p := ⟨g, off + j * 3 + 1, none⟩) (Nat.lt_of_lt_of_le hg hbel.size)).trans d2; have m3 := (hb2.cell (p := ⟨g, off + j * 3 + 2, none⟩) (Nat.lt_of_lt_of_le hg hbel.size)).trans d3)
      all_goals
        have hb3 : Below w.heap.size w w2 := hbel.drew.trans (hb2.mono hbel.size)
        clear d1 d2 d3 hb2
        go_wp2
        go_roundw
        case rel => exact ⟨j + 1, q + 3, by omega, by have := HQ.out; omega, by omega, Lib.hid (by have := HQ.out; omega), by go_num, by go_num, hb3⟩
        case measure => (simp [intOf]; try omega)
    · obtain rfl : j = n := by omega
      go_wp2
      go_ret
      exact ⟨ret_i64c (by have := HQ.out; omega), hbel⟩
end Go.Proofs.Ytlemlgadjapamaa
