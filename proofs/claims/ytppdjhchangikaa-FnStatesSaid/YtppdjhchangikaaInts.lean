/- The law's own helpers over slices of ints: compared, marks written and read. -/
import Derived.Test.YtppdjhchangikaaIntsBase
namespace Go.Proofs.Ytppdjhchangikaa
open Go.RowKit Go.Proofs.Ytppdjhchangikaa.Parts Go.Proofs.Ytppdjhchangikaa.Hexa

set_option maxRecDepth 100000 in
set_option maxHeartbeats 1000000 in
theorem eqInts_any (a1 a2 : Option Addr) (n c1 c2 : Nat) (P : List Int) (w : World) (hP : P.length = n) (hn : n ≤ 100000000) (r1 : Reads w a1 (icells P)) (r2 : Reads w a2 (icells P)) :
    Calls Try.prog 23 #[.slice a1 n c1, .slice a2 n c2] w fun e w' => e = .returned (.bool true) ∧ ∃ m, w' = w.drewN m := by
  have HP := Lib.hid hP
  clear hP
  have R1 := Lib.hid r1
  have R2 := Lib.hid r2
  clear r1 r2
  go_enter Try.func23, Try.ntmps23
  go_wp2
  go_loopw [5] (fun iv wr => ∃ k m : Nat, k ≤ n ∧ iv = .int .i64 k ∧ wr = w.drewN m) (fun iv _ => n - (intOf iv).toNat)
  case atStart => exact ⟨0, 0, Nat.zero_le _, rfl, rfl⟩
  case round =>
    obtain ⟨k, m, hk, rfl, rfl⟩ := hrel
    by_cases hlt : k < n
    · obtain ⟨g1, rfl, e1⟩ := R1.out k (by have := HP.out; simp [icells]; omega)
      obtain ⟨g2, rfl, e2⟩ := R2.out k (by have := HP.out; simp [icells]; omega)
      have d1 := cell_int (by have := HP.out; omega) e1
      have d2 := cell_int (by have := HP.out; omega) e2
      obtain ⟨x, hx⟩ : ∃ x, P[k]'(by have := HP.out; omega) = x := ⟨_, rfl⟩
      rw [hx] at d1 d2
      clear e1 e2 hx
      go_wp2
      go_quiet (fail)
      go_wp2
      go_roundw
      case rel => exact ⟨k + 1, _, by omega, by go_num, rfl⟩
      case measure => (simp [intOf]; try omega)
    · obtain rfl : k = n := by omega
      go_wp2
      go_ret
      exact ⟨rfl, _, rfl⟩

/-- The first j ints are the marks from k on. -/
def MarkedI (xs : List Value) (k j : Nat) : Prop := ∀ t, t < j → xs[t]? = some (.int .i64 ((k + t : Nat) : Int))
theorem MarkedI.step {xs : List Value} {k j : Nat} (h : MarkedI xs k j) (hj : j < xs.length) : MarkedI (xs.set j (.int .i64 ((k + j : Nat) : Int))) k (j + 1) := by
  intro t ht
  by_cases e : t = j
  · subst e; simp [hj]
  · rw [List.getElem?_set_ne (by omega)]; exact h t (by omega)

def MarkPostI (base : Nat) (v : Value) (n k : Nat) (w : World) (e : Ending) (w' : World) : Prop :=
  ∃ ys, e = .returned (.int .i64 (k + n)) ∧ w'.ownsRow base 3 1 v n ys ∧ MarkedI ys k n ∧ Below base w w'

set_option maxRecDepth 100000 in
set_option maxHeartbeats 1000000 in
theorem markInts_any (base : Nat) (v : Value) (n k : Nat) (xs : List Value) (w : World) (hk : k + n ≤ 100000000) (hown : w.ownsRow base 3 1 v n xs) :
    Calls Try.prog 26 #[v, .int .i64 k] w (MarkPostI base v n k w) := by
  obtain ⟨ad, cap, rfl, hcap, hnc, hr⟩ := own_form hown
  have HO := Lib.hid hown
  clear hown hr
  unfold maxLen at hcap
  go_enter Try.func26, Try.ntmps26
  go_wp2
  go_loopw [1, 5] (fun kv iv wr => ∃ (j q : Nat) (ys : List Value), j ≤ n ∧ q ≤ k + n ∧ Hid (q = k + j) ∧ Hid (MarkedI ys k j) ∧ iv = .int .i64 j ∧ kv = .int .i64 q ∧ Hid (wr.ownsRow base 3 1 (.slice ad n cap) n ys) ∧ Below base w wr) (fun _ iv _ => n - (intOf iv).toNat)
  case atStart => exact ⟨0, k, xs, Nat.zero_le _, by omega, Lib.hid rfl, Lib.hid (fun t ht => by omega), rfl, rfl, HO, Below.refl _ _⟩
  case round =>
    obtain ⟨j, q, ys, hj, hq, HQ, HM, rfl, rfl, HW, hbel⟩ := hrel
    by_cases hlt : j < n
    · have hl : ys.length = n := own_length HW.out
      obtain ⟨ad', cap', hv, _, _, hr⟩ := own_form HW.out
      obtain ⟨g, hg, hc⟩ := hr j (by omega)
      have hv' : ad = ad' := by simp at hv; exact hv.1
      subst hv'
      subst hg
      have hgb : base ≤ g := own_block_ge HW.out g rfl
      have hM1 := Lib.hid (HM.out.step (by omega))
      have HQ1 : Hid ((q : Nat) = k + j) := HQ
      have hx : wr.cell? ⟨g, j, none⟩ = some (ys[j]'(by omega)) := by rw [HW.out.cellAt j (by omega)]; simp [hl, hlt]
      obtain ⟨x, hxe⟩ : ∃ x, ys[j]'(by omega) = x := ⟨_, rfl⟩
      rw [hxe] at hx
      have hfz := HW.out.frozenAt j
      have HS := Lib.hid (HW.out.stored j (.int .i64 (q : Int))).1
      have hb2 : Below base w (wr.setCell ⟨g, j, none⟩ (.int .i64 (q : Int))) := hbel.setCell hgb _
      clear hr hc hv HO hxe
      go_wp2
      clear hx hfz hl
      go_roundw
      case rel => exact ⟨j + 1, q + 1, ys.set j (.int .i64 (q : Int)), by omega, by have := HQ.out; omega, Lib.hid (by have := HQ.out; omega), by rw [HQ1.out]; exact hM1, by go_num, by go_num, HS, hb2⟩
      case measure => (simp [intOf]; try omega)
    · obtain rfl : j = n := by omega
      go_wp2
      go_ret
      exact ⟨ys, ret_i64' (by have := HQ.out; omega), HW.out, HM.out, hbel⟩

set_option maxRecDepth 100000 in
set_option maxHeartbeats 1000000 in
theorem heldInts_any (base : Nat) (v : Value) (n k : Nat) (ys : List Value) (w : World) (hk : k + n ≤ 100000000) (hown : w.ownsRow base 3 1 v n ys) (hm : MarkedI ys k n) :
    Calls Try.prog 32 #[v, .int .i64 k] w fun e w' => e = .returned (.int .i64 (k + n)) ∧ w' = w := by
  obtain ⟨ad, cap, rfl, hcap, hnc, hr⟩ := own_form hown
  have hl := own_length hown
  have HR := Lib.hid hr
  have HM := Lib.hid hm
  have HL := Lib.hid hl
  clear hown hr hm hl
  unfold maxLen at hcap
  go_enter Try.func32, Try.ntmps32
  go_wp2
  go_loopw [1, 5] (fun kv iv wr => ∃ (j q : Nat), j ≤ n ∧ q ≤ k + n ∧ Hid (q = k + j) ∧ iv = .int .i64 j ∧ kv = .int .i64 q ∧ wr = w) (fun _ iv _ => n - (intOf iv).toNat)
  case atStart => exact ⟨0, k, Nat.zero_le _, by omega, Lib.hid rfl, rfl, rfl, rfl⟩
  case round =>
    obtain ⟨j, q, hj, hq, HQ, rfl, rfl, rfl⟩ := hrel
    by_cases hlt : j < n
    · obtain ⟨g, rfl, hc⟩ := HR.out j (by have := HL.out; omega)
      have hc0 : wr.cell? ⟨g, j, none⟩ = some (.int .i64 (q : Int)) := by rw [hc, HM.out j hlt, HQ.out]
      clear hc
      go_wp2
      go_roundw
      case rel => exact ⟨j + 1, q + 1, by omega, by have := HQ.out; omega, Lib.hid (by have := HQ.out; omega), by go_num, by go_num, by first | rfl | trivial⟩
      case measure => (simp [intOf]; try omega)
    · obtain rfl : j = n := by omega
      go_wp2
      go_ret
      exact ⟨ret_i64' (by have := HQ.out; omega), rfl⟩
end Go.Proofs.Ytppdjhchangikaa
