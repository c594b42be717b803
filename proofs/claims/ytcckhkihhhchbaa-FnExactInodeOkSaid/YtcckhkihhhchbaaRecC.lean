/- Slices of elements of the type Rec: marks written over them, and read. -/
import Derived.Test.YtcckhkihhhchbaaRecB
import Derived.Test.YtcckhkihhhchbaaApart
import Derived.Test.YtcckhkihhhchbaaMarkText
import Derived.Test.YtcckhkihhhchbaaMarkAt
namespace Go.Proofs.Ytcckhkihhhchbaa
open Go.RowKit Go.Proofs.Ytcckhkihhhchbaa.Parts Go.Proofs.Ytcckhkihhhchbaa.Hexa

/-- The marks from k on. -/
def markRec (k : Nat) : RecR := ⟨(k : Int), (k : Int) + 1, markT (k + 2)⟩
def marksRec (k n : Nat) : List RecR := (List.range n).map fun i => markRec (k + 3 * i)
theorem marksRec_length (k n : Nat) : (marksRec k n).length = n := by simp [marksRec]
theorem marksRec_at (k n j : Nat) (hj : j < n) : (marksRec k n).getD j default = markRec (k + 3 * j) := by simp [marksRec, List.getD, hj]

def MarkPostRec (B n cap k : Nat) (w : World) (e : Ending) (w' : World) : Prop :=
  e = .returned (.int .i64 (k + 3 * n)) ∧ Below B w w' ∧ ButE B w w' ∧ w'.ownsRow B 27 3 (.slice (some ⟨B, 0, none⟩) n cap) n (cellsE encRec (marksRec k n))

set_option maxRecDepth 100000 in
set_option maxHeartbeats 1000000 in
theorem markRecs_some (B n cap k : Nat) (xs : List Value) (w : World) (h0 : 0 < k) (hk : k + 3 * n ≤ 100000000) (hown : w.ownsRow B 27 3 (.slice (some ⟨B, 0, none⟩) n cap) n xs) :
    Calls Try.prog 59 #[.slice (some ⟨B, 0, none⟩) n cap, .int .i64 k] w (MarkPostRec B n cap k w) := by
  have HO := Lib.hid hown
  have hB := Lib.hid (ownE_lt hown)
  clear hown
  go_enter Try.func59, Try.ntmps59
  go_wp2
  go_loopw [1, 5] (fun kv iv wr => ∃ (j q : Nat) (ys : List Value), j ≤ n ∧ q ≤ k + 3 * n ∧ 0 < q ∧ Hid (q = k + 3 * j) ∧ iv = .int .i64 j ∧ kv = .int .i64 q ∧ Hid (∀ t, t < j * 3 → ys[t]? = (cellsE encRec (marksRec k n))[t]?) ∧ Hid (wr.ownsRow B 27 3 (.slice (some ⟨B, 0, none⟩) n cap) n ys) ∧ Below B w wr ∧ Hid (ButE B w wr)) (fun _ iv _ => n - (intOf iv).toNat)
  case atStart => exact ⟨0, k, xs, Nat.zero_le _, by omega, h0, Lib.hid rfl, rfl, rfl, Lib.hid (fun t ht => by omega), HO, Below.refl _ _, Lib.hid (ButE.refl _ _)⟩
  case round =>
    clear HO
    obtain ⟨j, q, ys, hj, hq, hq0, HQ, rfl, rfl, HX, HW, hbel, HK⟩ := hrel
    by_cases hlt : j < n
    · have hl : Hid (ys.length = n * 3) := Lib.hid HW.out.1
      have hq3 : q + 3 ≤ k + 3 * n := by have := HQ.out; omega
      have X1 := Lib.hid (cellsE_step encRec (L := marksRec k n) (by rw [marksRec_length]; exact hlt) (by rw [marksRec_length]; exact hl.out) HX.out)
      rw [marksRec_at k n j hlt, ← HQ.out] at X1
      obtain ⟨v0, e0⟩ := ownE_cell HW.out (j := j * 3) (by omega)
      have z0 := HW.out.frozenAt (j * 3)
      have O0 := Lib.hid (HW.out.stored (j * 3) (.int .i64 ((q : Int)))).1
      have K0 := Lib.hid (HK.out.then_set (j * 3) (.int .i64 ((q : Int))))
      have b0 : Below B w (wr.setCell ⟨B, j * 3, none⟩ (.int .i64 ((q : Int)))) := hbel.setCell (Nat.le_refl _) _
      obtain ⟨v1, e1⟩ := ownE_cell O0.out (j := j * 3 + 1) (by omega)
      have z1 := O0.out.frozenAt (j * 3 + 1)
      have O1 := Lib.hid (O0.out.stored (j * 3 + 1) (.int .i64 ((q : Int) + 1))).1
      have K1 := Lib.hid (K0.out.then_set (j * 3 + 1) (.int .i64 ((q : Int) + 1)))
      have b1 : Below B w ((wr.setCell ⟨B, j * 3, none⟩ (.int .i64 ((q : Int)))).setCell ⟨B, j * 3 + 1, none⟩ (.int .i64 ((q : Int) + 1))) := b0.setCell (Nat.le_refl _) _
      go_wp2_with fail
      clear e0 z0 e1 z1
      obtain ⟨wa1, hwa1⟩ : ∃ x, x = ((wr.setCell ⟨B, j * 3, none⟩ (.int .i64 ((q : Int)))).setCell ⟨B, j * 3 + 1, none⟩ (.int .i64 ((q : Int) + 1))) := ⟨_, rfl⟩
      rw [← hwa1] at O1 K1 b1 ⊢
      clear hwa1
      refine (markText_n _ (q + 2) _ (by omega) (by omega) (by omega)).mono ?_
      rintro e w1x ⟨rfl, hb1⟩
      have W1 := Lib.hid (own_below O1.out hb1)
      have KW1 := Lib.hid (K1.out.then_below hb1)
      have bw1 : Below B w w1x := b1.trans (hb1.mono (by have := hB.out; have := b1.size; omega))
      clear hb1
      obtain ⟨v2, e2⟩ := ownE_cell W1.out (j := j * 3 + 2) (by omega)
      have z2 := W1.out.frozenAt (j * 3 + 2)
      have O2 := Lib.hid (W1.out.stored (j * 3 + 2) (.string (markT (q + 2)))).1
      have K2 := Lib.hid (KW1.out.then_set (j * 3 + 2) (.string (markT (q + 2))))
      have b2 : Below B w (w1x.setCell ⟨B, j * 3 + 2, none⟩ (.string (markT (q + 2)))) := bw1.setCell (Nat.le_refl _) _
      go_wp2
      clear e2 z2
      go_roundw
      case rel => exact ⟨j + 1, q + 3, _, by omega, hq3, by omega, Lib.hid (by have := HQ.out; omega), by go_num, by go_num, X1, O2, b2, K2⟩
      case measure => (simp [intOf]; try omega)
    · obtain rfl : j = n := by omega
      have hfin : ys = cellsE encRec (marksRec k j) := cellsE_all encRec (by rw [marksRec_length]; exact HW.out.1) (by rw [marksRec_length]; exact HX.out)
      have ho := HW.out
      rw [hfin] at ho
      have HO := Lib.hid ho
      clear ho hfin HW
      go_wp2
      go_ret
      exact ⟨ret_i64m (by have := HQ.out; omega), hbel, HK.out, HO.out⟩

def MarksRecA (M : Nat) (v : Value) (n k : Nat) (w : World) (e : Ending) (w' : World) : Prop :=
  e = .returned (.int .i64 (k + 3 * n)) ∧ Below M w w' ∧ Apart v w w' ∧ w'.ownsRow M 27 3 v n (cellsE encRec (marksRec k n))

set_option maxRecDepth 100000 in
set_option maxHeartbeats 1000000 in
theorem markRecs_any (M : Nat) (v : Value) (n k : Nat) (xs : List Value) (w : World) (h0 : 0 < k) (hk : k + 3 * n ≤ 100000000) (hown : w.ownsRow M 27 3 v n xs) :
    Calls Try.prog 59 #[v, .int .i64 k] w (MarksRecA M v n k w) := by
  rcases hown.2 with ⟨rfl, rfl⟩ | ⟨g, cap, cur, rfl, hB, hg, hnc, hcm, hcs, htk⟩
  · clear hown
    go_enter Try.func59, Try.ntmps59
    go_wp2
    go_loopw [1, 5] (fun kv iv wr => kv = .int .i64 k ∧ iv = .int .i64 0 ∧ wr = w) (fun _ _ _ => 0)
    case atStart => exact ⟨rfl, rfl, rfl⟩
    case round =>
      obtain ⟨rfl, rfl, rfl⟩ := hrel
      go_wp2
      go_ret
      exact ⟨ret_i64m (by omega), Below.refl _ _, Apart.of_below (Below.refl _ _), World.ownsRow_nil _ _ _ _⟩
  · have ho : w.ownsRow g 27 3 (.slice (some ⟨g, 0, none⟩) n cap) n xs := ⟨hown.1, .inr ⟨g, cap, cur, rfl, Nat.le_refl _, hg, hnc, hcm, hcs, htk⟩⟩
    refine (markRecs_some g n cap k xs w h0 hk ho).mono ?_
    rintro e w' ⟨rfl, hb, hbut, hown'⟩
    exact ⟨rfl, hb.mono hB, ⟨hbut.size, fun g2 hg2 hn => hbut.block g2 (fun e => hn (by rw [e]; rfl)) hg2⟩, ownE_mono hown' hB⟩

end Go.Proofs.Ytcckhkihhhchbaa
