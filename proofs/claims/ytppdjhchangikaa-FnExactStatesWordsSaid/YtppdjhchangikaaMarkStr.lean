/- The law's own helpers: two slices of texts compared; marks written and read. -/
import Derived.Test.YtppdjhchangikaaRows
import Derived.Test.YtppdjhchangikaaPartsMath
import Derived.Test.YtppdjhchangikaaEqTexts
import Derived.Test.YtppdjhchangikaaMarkText
import Derived.Test.YtppdjhchangikaaIntsBase
import Derived.WalkKit
import Derived.WalkSpells
import Derived.WalkLawsBesides
import Derived.Lib.Hide
import Derived.Deep.QuietTactic
import Derived.BigQuiet
import Derived.Deep.RegionHeld3
namespace Go.Proofs.Ytppdjhchangikaa
open Go.RowKit Go.Proofs.Ytppdjhchangikaa.Parts Go.Proofs.Ytppdjhchangikaa.Hexa


/-- The first j texts are the marks from k on. -/
def Marked (xs : List Value) (k j : Nat) : Prop := ∀ t, t < j → xs[t]? = some (.string (markT (k + t)))
theorem Marked.step {xs : List Value} {k j : Nat} (h : Marked xs k j) (hj : j < xs.length) : Marked (xs.set j (.string (markT (k + j)))) k (j + 1) := by
  intro t ht
  by_cases e : t = j
  · subst e; simp [hj]
  · rw [List.getElem?_set_ne (by omega)]; exact h t (by omega)

def MarkPost (base : Nat) (v : Value) (n k : Nat) (w : World) (e : Ending) (w' : World) : Prop :=
  ∃ ys, e = .returned (.int .i64 (k + n)) ∧ w'.ownsRow base 9 1 v n ys ∧ Marked ys k n ∧ Below base w w'

set_option maxRecDepth 100000 in
set_option maxHeartbeats 1000000 in
theorem markStrings_any (base : Nat) (v : Value) (n k : Nat) (xs : List Value) (w : World) (h0 : 0 < k) (hk : k + n ≤ 100000000) (hbase : base ≤ w.heap.size) (hown : w.ownsRow base 9 1 v n xs) :
    Calls Try.prog 27 #[v, .int .i64 k] w (MarkPost base v n k w) := by
  obtain ⟨ad, cap, rfl, hcap, hnc, hr⟩ := own_form hown
  have HO := Lib.hid hown
  clear hown hr
  unfold maxLen at hcap
  go_enter Try.func27, Try.ntmps27
  go_wp2
  go_loopw [1, 5] (fun kv iv wr => ∃ (j q : Nat) (ys : List Value), j ≤ n ∧ q ≤ k + n ∧ 0 < q ∧ Hid (q = k + j) ∧ Hid (Marked ys k j) ∧ iv = .int .i64 j ∧ kv = .int .i64 q ∧ Hid (wr.ownsRow base 9 1 (.slice ad n cap) n ys) ∧ Below base w wr) (fun _ iv _ => n - (intOf iv).toNat)
  case atStart => exact ⟨0, k, xs, Nat.zero_le _, by omega, h0, Lib.hid rfl, Lib.hid (fun t ht => by omega), rfl, rfl, HO, Below.refl _ _⟩
  case round =>
    obtain ⟨j, q, ys, hj, hq, hq0, HQ, HM, rfl, rfl, HW, hbel⟩ := hrel
    by_cases hlt : j < n
    · have hl : ys.length = n := own_length HW.out
      obtain ⟨ad', cap', hv, _, _, hr⟩ := own_form HW.out
      obtain ⟨g, hg, hc⟩ := hr j (by omega)
      have hv' : ad = ad' := by simp at hv; exact hv.1
      subst hv'
      subst hg
      have hgb : base ≤ g := own_block_ge HW.out g rfl
      have hM1 := Lib.hid (HM.out.step (by omega))
      have HQ1 : Hid (markT q = markT (k + j)) := Lib.hid (by rw [HQ.out])
      clear hr hc hv HO
      go_wp2_with (go_at_call 43; refine (markText_any q _ hq0 (by omega)).mono ?_; rintro e w1 ⟨rfl, hb1⟩; have HW1 := Lib.hid (own_below HW.out hb1); obtain ⟨x, hx⟩ : ∃ x, w1.cell? ⟨g, j, none⟩ = some x := ⟨ys[j]'(by omega), by rw [HW1.out.cellAt j (by omega)]; simp [hl, hlt]⟩; have hfz := HW1.out.frozenAt j)
      have HS := Lib.hid (HW1.out.stored j (.string (markT q))).1
      have hb2 : Below base w (w1.setCell ⟨g, j, none⟩ (.string (markT q))) := (hbel.trans (hb1.mono (by have := hbel.size; omega))).setCell hgb _
      clear hx hfz hl
      go_roundw
      case rel => exact ⟨j + 1, q + 1, ys.set j (.string (markT q)), by omega, by have := HQ.out; omega, by omega, Lib.hid (by have := HQ.out; omega), by rw [HQ1.out]; exact hM1, by go_num, by go_num, HS, hb2⟩
      case measure => (simp [intOf]; try omega)
    · obtain rfl : j = n := by omega
      go_wp2
      go_ret
      exact ⟨ys, ret_i64' (by have := HQ.out; omega), HW.out, HM.out, hbel⟩

set_option maxRecDepth 100000 in
set_option maxHeartbeats 1000000 in
theorem heldStrings_any (base : Nat) (v : Value) (n k : Nat) (ys : List Value) (w : World) (h0 : 0 < k) (hk : k + n ≤ 100000000) (hown : w.ownsRow base 9 1 v n ys) (hm : Marked ys k n) :
    Calls Try.prog 28 #[v, .int .i64 k] w fun e w' => e = .returned (.int .i64 (k + n)) ∧ Below w.heap.size w w' := by
  obtain ⟨ad, cap, rfl, hcap, hnc, hr⟩ := own_form hown
  have hl := own_length hown
  have HR := Lib.hid hr
  have HM := Lib.hid hm
  have HL := Lib.hid hl
  clear hown hr hm hl
  unfold maxLen at hcap
  go_enter Try.func28, Try.ntmps28
  go_wp2
  go_loopw [1, 5] (fun kv iv wr => ∃ (j q : Nat), j ≤ n ∧ q ≤ k + n ∧ 0 < q ∧ Hid (q = k + j) ∧ iv = .int .i64 j ∧ kv = .int .i64 q ∧ Below w.heap.size w wr) (fun _ iv _ => n - (intOf iv).toNat)
  case atStart => exact ⟨0, k, Nat.zero_le _, by omega, h0, Lib.hid rfl, rfl, rfl, Below.refl _ _⟩
  case round =>
    obtain ⟨j, q, hj, hq, hq0, HQ, rfl, rfl, hbel⟩ := hrel
    by_cases hlt : j < n
    · obtain ⟨g, rfl, hc⟩ := HR.out j (by have := HL.out; omega)
      have hgb : g < w.heap.size := by
        have e : ∃ x, w.cell? ⟨g, j, none⟩ = some x := ⟨_, by rw [hc, HM.out j hlt]⟩
        obtain ⟨x, hx⟩ := e
        rcases Nat.lt_or_ge g w.heap.size with h | h
        · exact h
        · simp [World.cell?, Array.getElem?_eq_none h] at hx
      have hc0 : wr.cell? ⟨g, j, none⟩ = some (.string (markT q)) := by rw [hbel.cell (by exact hgb), hc, HM.out j hlt, HQ.out]
      clear hc
      go_wp2
      go_region_with (go_at_call 43; refine (markText_any q _ hq0 (by omega)).mono ?_; rintro e w1 ⟨rfl, hb1⟩; have hc1 : w1.cell? ⟨g, j, none⟩ = some (.string (markT q)) := (hb1.cell (by have := hbel.size; simp; omega)).trans hc0)
      all_goals
        have hb2 : Below w.heap.size w w1 := hbel.drew.trans (hb1.mono hbel.size)
        clear hc1 hc0
        go_wp2
        go_roundw
        case rel => exact ⟨j + 1, q + 1, by omega, by have := HQ.out; omega, by omega, Lib.hid (by have := HQ.out; omega), by go_num, by go_num, hb2⟩
        case measure => (simp [intOf]; try omega)
    · obtain rfl : j = n := by omega
      go_wp2
      go_ret
      exact ⟨ret_i64' (by have := HQ.out; omega), hbel⟩
end Go.Proofs.Ytppdjhchangikaa
