/- Marks written over a row of texts, and no other block written. -/
import Derived.Test.YtppdjhchangikaaTextBase
import Derived.Test.YtppdjhchangikaaMarkAt
namespace Go.Proofs.Ytppdjhchangikaa
open Go.RowKit Go.Proofs.Ytppdjhchangikaa.Parts Go.Proofs.Ytppdjhchangikaa.Hexa

def MarkTextsPost (B n k : Nat) (w : World) (e : Ending) (w' : World) : Prop := e = .returned (.int .i64 ((k + n : Nat) : Int)) ∧ Below B w w' ∧ ButE B w w'
set_option maxRecDepth 100000 in
set_option maxHeartbeats 1000000 in
theorem markTexts_some (B n cap k : Nat) (xs : List Value) (w : World) (h0 : 0 < k) (hk : k + n ≤ 100000000) (hown : w.ownsRow B 9 1 (.slice (some ⟨B, 0, none⟩) n cap) n xs) :
    Calls Try.prog 27 #[.slice (some ⟨B, 0, none⟩) n cap, .int .i64 k] w (MarkTextsPost B n k w) := by
  have HO := Lib.hid hown
  have hB := Lib.hid (ownE_lt hown)
  clear hown
  go_enter Try.func27, Try.ntmps27
  go_wp2
  go_loopw [1, 5] (fun kv iv wr => ∃ (j q : Nat) (ys : List Value), j ≤ n ∧ q ≤ k + n ∧ 0 < q ∧ Hid (q = k + j) ∧ iv = .int .i64 j ∧ kv = .int .i64 q ∧ Hid (wr.ownsRow B 9 1 (.slice (some ⟨B, 0, none⟩) n cap) n ys) ∧ Below B w wr ∧ Hid (ButE B w wr)) (fun _ iv _ => n - (intOf iv).toNat)
  case atStart => exact ⟨0, k, xs, Nat.zero_le _, by omega, h0, Lib.hid rfl, rfl, rfl, HO, Below.refl _ _, Lib.hid (ButE.refl _ _)⟩
  case round =>
    clear HO
    obtain ⟨j, q, ys, hj, hq, hq0, HQ, rfl, rfl, HW, hbel, HK⟩ := hrel
    by_cases hlt : j < n
    · have hq3 : q + 1 ≤ k + n := by have := HQ.out; omega
      go_wp2_with fail
      refine (markText_n _ q _ (by omega) (by omega) (by omega)).mono ?_
      rintro e w1x ⟨rfl, hb1⟩
      have W1 := Lib.hid (own_below HW.out hb1)
      have KW1 := Lib.hid (HK.out.then_below hb1)
      have bw1 : Below B w w1x := hbel.trans (hb1.mono (by have := hB.out; have := hbel.size; omega))
      clear hb1
      obtain ⟨v2, e2⟩ := ownE_cell W1.out (j := j) (by omega)
      have z2 := W1.out.frozenAt j
      have O2 := Lib.hid (W1.out.stored j (.string (markT q))).1
      have K2 := Lib.hid (KW1.out.then_set j (.string (markT q)))
      have b2 : Below B w (w1x.setCell ⟨B, j, none⟩ (.string (markT q))) := bw1.setCell (Nat.le_refl _) _
      go_wp2
      clear e2 z2
      go_roundw
      case rel => exact ⟨j + 1, q + 1, _, by omega, hq3, by omega, Lib.hid (by have := HQ.out; omega), by go_num, by go_num, O2, b2, K2⟩
      case measure => (simp [intOf]; try omega)
    · obtain rfl : j = n := by omega
      go_wp2
      go_ret
      exact ⟨ret_i64m (by have := HQ.out; omega), hbel, HK.out⟩
end Go.Proofs.Ytppdjhchangikaa
