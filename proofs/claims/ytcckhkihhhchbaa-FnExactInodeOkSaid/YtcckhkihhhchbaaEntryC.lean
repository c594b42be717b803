/- Slices of elements of the type Entry: marks written over them, and read. -/
import Derived.Test.YtcckhkihhhchbaaEntryB
import Derived.Test.YtcckhkihhhchbaaApart
import Derived.Test.YtcckhkihhhchbaaMarkText
import Derived.Test.YtcckhkihhhchbaaMarkAt
namespace Go.Proofs.Ytcckhkihhhchbaa
open Go.RowKit Go.Proofs.Ytcckhkihhhchbaa.Parts Go.Proofs.Ytcckhkihhhchbaa.Hexa

/-- The marks from k on. -/
def markEntry (k : Nat) : EntryR := ⟨(k : Int), markT (k + 1)⟩
def marksEntry (k n : Nat) : List EntryR := (List.range n).map fun i => markEntry (k + 2 * i)
theorem marksEntry_length (k n : Nat) : (marksEntry k n).length = n := by simp [marksEntry]
theorem marksEntry_at (k n j : Nat) (hj : j < n) : (marksEntry k n).getD j default = markEntry (k + 2 * j) := by simp [marksEntry, List.getD, hj]

def MarkPostEntry (B n cap k : Nat) (w : World) (e : Ending) (w' : World) : Prop :=
  e = .returned (.int .i64 (k + 2 * n)) ∧ Below B w w' ∧ ButE B w w' ∧ w'.ownsRow B 37 2 (.slice (some ⟨B, 0, none⟩) n cap) n (cellsE encEntry (marksEntry k n))

set_option maxRecDepth 100000 in
set_option maxHeartbeats 1000000 in
theorem markEntrys_some (B n cap k : Nat) (xs : List Value) (w : World) (h0 : 0 < k) (hk : k + 2 * n ≤ 100000000) (hown : w.ownsRow B 37 2 (.slice (some ⟨B, 0, none⟩) n cap) n xs) :
    Calls Try.prog 60 #[.slice (some ⟨B, 0, none⟩) n cap, .int .i64 k] w (MarkPostEntry B n cap k w) := by
  have HO := Lib.hid hown
  have hB := Lib.hid (ownE_lt hown)
  clear hown
  go_enter Try.func60, Try.ntmps60
  go_wp2
  go_loopw [1, 5] (fun kv iv wr => ∃ (j q : Nat) (ys : List Value), j ≤ n ∧ q ≤ k + 2 * n ∧ 0 < q ∧ Hid (q = k + 2 * j) ∧ iv = .int .i64 j ∧ kv = .int .i64 q ∧ Hid (∀ t, t < j * 2 → ys[t]? = (cellsE encEntry (marksEntry k n))[t]?) ∧ Hid (wr.ownsRow B 37 2 (.slice (some ⟨B, 0, none⟩) n cap) n ys) ∧ Below B w wr ∧ Hid (ButE B w wr)) (fun _ iv _ => n - (intOf iv).toNat)
  case atStart => exact ⟨0, k, xs, Nat.zero_le _, by omega, h0, Lib.hid rfl, rfl, rfl, Lib.hid (fun t ht => by omega), HO, Below.refl _ _, Lib.hid (ButE.refl _ _)⟩
  case round =>
    clear HO
    obtain ⟨j, q, ys, hj, hq, hq0, HQ, rfl, rfl, HX, HW, hbel, HK⟩ := hrel
    by_cases hlt : j < n
    · have hl : Hid (ys.length = n * 2) := Lib.hid HW.out.1
      have hq3 : q + 2 ≤ k + 2 * n := by have := HQ.out; omega
      have X1 := Lib.hid (cellsE_step encEntry (L := marksEntry k n) (by rw [marksEntry_length]; exact hlt) (by rw [marksEntry_length]; exact hl.out) HX.out)
      rw [marksEntry_at k n j hlt, ← HQ.out] at X1
      obtain ⟨v0, e0⟩ := ownE_cell HW.out (j := j * 2) (by omega)
      have z0 := HW.out.frozenAt (j * 2)
      have O0 := Lib.hid (HW.out.stored (j * 2) (.int .i64 ((q : Int)))).1
      have K0 := Lib.hid (HK.out.then_set (j * 2) (.int .i64 ((q : Int))))
      have b0 : Below B w (wr.setCell ⟨B, j * 2, none⟩ (.int .i64 ((q : Int)))) := hbel.setCell (Nat.le_refl _) _
      go_wp2_with fail
      clear e0 z0
      obtain ⟨wa1, hwa1⟩ : ∃ x, x = (wr.setCell ⟨B, j * 2, none⟩ (.int .i64 ((q : Int)))) := ⟨_, rfl⟩
      rw [← hwa1] at O0 K0 b0 ⊢
      clear hwa1
      refine (markText_n _ (q + 1) _ (by omega) (by omega) (by omega)).mono ?_
      rintro e w1x ⟨rfl, hb1⟩
      have W1 := Lib.hid (own_below O0.out hb1)
      have KW1 := Lib.hid (K0.out.then_below hb1)
      have bw1 : Below B w w1x := b0.trans (hb1.mono (by have := hB.out; have := b0.size; omega))
      clear hb1
      obtain ⟨v1, e1⟩ := ownE_cell W1.out (j := j * 2 + 1) (by omega)
      have z1 := W1.out.frozenAt (j * 2 + 1)
      have O1 := Lib.hid (W1.out.stored (j * 2 + 1) (.string (markT (q + 1)))).1
      have K1 := Lib.hid (KW1.out.then_set (j * 2 + 1) (.string (markT (q + 1))))
      have b1 : Below B w (w1x.setCell ⟨B, j * 2 + 1, none⟩ (.string (markT (q + 1)))) := bw1.setCell (Nat.le_refl _) _
      go_wp2
      clear e1 z1
      go_roundw
      case rel => exact ⟨j + 1, q + 2, _, by omega, hq3, by omega, Lib.hid (by have := HQ.out; omega), by go_num, by go_num, X1, O1, b1, K1⟩
      case measure => (simp [intOf]; try omega)
    · obtain rfl : j = n := by omega
      have hfin : ys = cellsE encEntry (marksEntry k j) := cellsE_all encEntry (by rw [marksEntry_length]; exact HW.out.1) (by rw [marksEntry_length]; exact HX.out)
      have ho := HW.out
      rw [hfin] at ho
      have HO := Lib.hid ho
      clear ho hfin HW
      go_wp2
      go_ret
      exact ⟨ret_i64m (by have := HQ.out; omega), hbel, HK.out, HO.out⟩

def MarksEntryA (M : Nat) (v : Value) (n k : Nat) (w : World) (e : Ending) (w' : World) : Prop :=
  e = .returned (.int .i64 (k + 2 * n)) ∧ Below M w w' ∧ Apart v w w' ∧ w'.ownsRow M 37 2 v n (cellsE encEntry (marksEntry k n))

set_option maxRecDepth 100000 in
set_option maxHeartbeats 1000000 in
theorem markEntrys_any (M : Nat) (v : Value) (n k : Nat) (xs : List Value) (w : World) (h0 : 0 < k) (hk : k + 2 * n ≤ 100000000) (hown : w.ownsRow M 37 2 v n xs) :
    Calls Try.prog 60 #[v, .int .i64 k] w (MarksEntryA M v n k w) := by
  rcases hown.2 with ⟨rfl, rfl⟩ | ⟨g, cap, cur, rfl, hB, hg, hnc, hcm, hcs, htk⟩
  · clear hown
    go_enter Try.func60, Try.ntmps60
    go_wp2
    go_loopw [1, 5] (fun kv iv wr => kv = .int .i64 k ∧ iv = .int .i64 0 ∧ wr = w) (fun _ _ _ => 0)
    case atStart => exact ⟨rfl, rfl, rfl⟩
    case round =>
      obtain ⟨rfl, rfl, rfl⟩ := hrel
      go_wp2
      go_ret
      exact ⟨ret_i64m (by omega), Below.refl _ _, Apart.of_below (Below.refl _ _), World.ownsRow_nil _ _ _ _⟩
  · have ho : w.ownsRow g 37 2 (.slice (some ⟨g, 0, none⟩) n cap) n xs := ⟨hown.1, .inr ⟨g, cap, cur, rfl, Nat.le_refl _, hg, hnc, hcm, hcs, htk⟩⟩
    refine (markEntrys_some g n cap k xs w h0 hk ho).mono ?_
    rintro e w' ⟨rfl, hb, hbut, hown'⟩
    exact ⟨rfl, hb.mono hB, ⟨hbut.size, fun g2 hg2 hn => hbut.block g2 (fun e => hn (by rw [e]; rfl)) hg2⟩, ownE_mono hown' hB⟩

end Go.Proofs.Ytcckhkihhhchbaa
