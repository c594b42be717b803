/- More of the law's helpers over slices of ints: a copy; marks written into one block alone. -/
import Derived.Test.YtppdjhchangikaaIntsAt
import Derived.Test.YtppdjhchangikaaInts
namespace Go.Proofs.Ytppdjhchangikaa
open Go.RowKit Go.Proofs.Ytppdjhchangikaa.Parts Go.Proofs.Ytppdjhchangikaa.Hexa

/-- What the copy returns. -/
def CopyPost (n : Nat) (zs : List Int) (w : World) (e : Ending) (w' : World) : Prop :=
  e = .returned (.slice (some ⟨w.heap.size, 0, none⟩) n n) ∧ w'.ownsRow w.heap.size 3 1 (.slice (some ⟨w.heap.size, 0, none⟩) n n) n (icells zs) ∧ Below w.heap.size w w'

set_option maxRecDepth 100000 in
set_option maxHeartbeats 1000000 in
theorem toInts_any (a : Option Addr) (n c : Nat) (zs : List Int) (w : World) (hs : SrcI w a n zs) (hn : n ≤ 10000000) :
    Calls Try.prog 22 #[.slice a n c] w (CopyPost n zs w) := by
  obtain ⟨i0, hi, hz0, hz1, hz2⟩ := info_parts infoInt
  have HS := Lib.hid hs
  clear hs
  go_enter Try.func22, Try.ntmps22
  go_wp2_with (at_make; refine wpList_make_full _ rfl _ _ 24 rfl w.heap.size 3 i0 (.int .i64 0) 1 Try.underlying24 hi hz0 hz1 .i64 .i64 _ _ n rfl rfl rfl rfl (by rw [hz2]; omega) (by unfold maxLen; omega) (Nat.le_refl _) ?_; intro w0 hown0 hgrow0)
  have hg0 : Below w.heap.size w w0 := (Below.refl _ _).grown hgrow0 (Nat.le_refl _) (fun k h => by cases h)
  have HO0 := Lib.hid hown0
  clear hown0 hgrow0
  go_loopw [4] (fun iv wr => ∃ (k : Nat) (xs : List Value), k ≤ n ∧ iv = .int .i64 k ∧ Hid (wr.ownsRow w.heap.size 3 1 (.slice (some ⟨w.heap.size, 0, none⟩) n n) n xs) ∧ Hid (∀ j, j < k → xs[j]? = (icells zs)[j]?) ∧ Below w.heap.size w wr)
    (fun iv _ => n - (intOf iv).toNat)
  case atStart => exact ⟨0, _, Nat.zero_le _, rfl, HO0, Lib.hid (fun j hj => by omega), hg0⟩
  case round =>
    clear HO0 hg0
    obtain ⟨k, xs, hk, rfl, HW, HX, hbel⟩ := hrel
    have hxl : Hid (xs.length = n) := Lib.hid (own_length HW.out)
    by_cases hlt : k < n
    · obtain ⟨g, off, rfl, hgl, hc⟩ := HS.out.cell k hlt
      have hc0 : wr.cell? ⟨g, off + k, none⟩ = some (.int .i64 (zs.getD k 0)) := by rw [hbel.cell hgl]; exact hc
      have HE : Hid ((icells zs)[k]? = some (.int .i64 (zs.getD k 0))) := Lib.hid (by
        have hk' : k < zs.length := by have := HS.out.len; omega
        simp [icells, List.getD, hk'])
      obtain ⟨z, hz⟩ : ∃ z, zs.getD k 0 = z := ⟨_, rfl⟩
      rw [hz] at hc0 HE
      have c3 : ∃ v, wr.cell? ⟨w.heap.size, k, none⟩ = some v := ⟨xs[k]'(by have := hxl.out; omega), by rw [HW.out.cellAt k (by omega)]; simp [hxl.out, hlt]⟩
      obtain ⟨v3, c3⟩ := c3
      have z3 := HW.out.frozenAt k
      have O1 := Lib.hid (HW.out.stored k (.int .i64 z)).1
      have hb1 : Below w.heap.size w (wr.setCell ⟨w.heap.size, k, none⟩ (.int .i64 z)) := hbel.setCell (Nat.le_refl _) _
      have X1 : Hid (∀ j, j < k + 1 → (xs.set k (.int .i64 z))[j]? = (icells zs)[j]?) := Lib.hid (fun j hj => by
        by_cases e : j = k
        · subst e; rw [List.getElem?_set_self (by have := hxl.out; omega), HE.out]
        · rw [List.getElem?_set_ne (by omega)]; exact HX.out j (by omega))
      clear hc hz
      go_wp2
      go_roundw
      case rel => exact ⟨k + 1, _, by omega, by go_num, O1, X1, hb1⟩
      case measure => (simp [intOf]; try omega)
    · obtain rfl : k = n := by omega
      have hfin : xs = icells zs := by
        apply List.ext_getElem?
        intro j
        by_cases hj : j < k
        · exact HX.out j hj
        · rw [List.getElem?_eq_none (by have := hxl.out; omega), List.getElem?_eq_none (by rw [icells_length]; have := HS.out.len; omega)]
      have ho := HW.out
      rw [hfin] at ho
      have HO := Lib.hid ho
      clear ho hfin
      go_wp2
      go_ret
      exact ⟨rfl, HO.out, hbel⟩

/-- Marks written: the slice's own block alone is written to. -/
def MarkPostB (base : Nat) (v : Value) (n k : Nat) (w : World) (e : Ending) (w' : World) : Prop :=
  ∃ ys, e = .returned (.int .i64 (k + n)) ∧ w'.ownsRow base 3 1 v n ys ∧ MarkedI ys k n ∧ Below base w w' ∧ ∀ g, v.ownBlock ≠ some g → w'.heap[g]? = w.heap[g]?

set_option maxRecDepth 100000 in
set_option maxHeartbeats 1000000 in
theorem markIntsB_any (base : Nat) (v : Value) (n k : Nat) (xs : List Value) (w : World) (hk : k + n ≤ 100000000) (hown : w.ownsRow base 3 1 v n xs) :
    Calls Try.prog 26 #[v, .int .i64 k] w (MarkPostB base v n k w) := by
  obtain ⟨ad, cap, rfl, hcap, hnc, hr⟩ := own_form hown
  have HO := Lib.hid hown
  clear hown hr
  unfold maxLen at hcap
  go_enter Try.func26, Try.ntmps26
  go_wp2
  go_loopw [1, 5] (fun kv iv wr => ∃ (j q : Nat) (ys : List Value), j ≤ n ∧ q ≤ k + n ∧ Hid (q = k + j) ∧ Hid (MarkedI ys k j) ∧ iv = .int .i64 j ∧ kv = .int .i64 q ∧ Hid (wr.ownsRow base 3 1 (.slice ad n cap) n ys) ∧ Below base w wr ∧ Hid (∀ g, (Value.slice ad n cap).ownBlock ≠ some g → wr.heap[g]? = w.heap[g]?)) (fun _ iv _ => n - (intOf iv).toNat)
  case atStart => exact ⟨0, k, xs, Nat.zero_le _, by omega, Lib.hid rfl, Lib.hid (fun t ht => by omega), rfl, rfl, HO, Below.refl _ _, Lib.hid (fun _ _ => rfl)⟩
  case round =>
    obtain ⟨j, q, ys, hj, hq, HQ, HM, rfl, rfl, HW, hbel, HK⟩ := hrel
    by_cases hlt : j < n
    · have hl : ys.length = n := own_length HW.out
      obtain ⟨ad', cap', hv, _, _, hr⟩ := own_form HW.out
      obtain ⟨g, hg, hc⟩ := hr j (by omega)
      have hv' : ad = ad' := by simp at hv; exact hv.1
      subst hv'
      subst hg
      have hgb : base ≤ g := own_block_ge HW.out g rfl
      have hM1 := Lib.hid (HM.out.step (by omega))
      have hx : wr.cell? ⟨g, j, none⟩ = some (ys[j]'(by omega)) := by rw [HW.out.cellAt j (by omega)]; simp [hl, hlt]
      obtain ⟨x, hxe⟩ : ∃ x, ys[j]'(by omega) = x := ⟨_, rfl⟩
      rw [hxe] at hx
      have hfz := HW.out.frozenAt j
      have HS := Lib.hid (HW.out.stored j (.int .i64 (q : Int))).1
      have hb2 : Below base w (wr.setCell ⟨g, j, none⟩ (.int .i64 (q : Int))) := hbel.setCell hgb _
      have HK2 : Hid (∀ g', (Value.slice (some ⟨g, 0, none⟩) n cap).ownBlock ≠ some g' → (wr.setCell ⟨g, j, none⟩ (.int .i64 (q : Int))).heap[g']? = w.heap[g']?) := Lib.hid (fun g' hg' => by
        have hne : g' ≠ g := fun e => hg' (by rw [e]; rfl)
        rw [Below.heap_setCell _ _ _ _ (by simpa using hne)]; exact HK.out g' hg')
      clear hr hc hv HO hxe
      go_wp2
      clear hx hfz hl
      go_roundw
      case rel => exact ⟨j + 1, q + 1, ys.set j (.int .i64 (q : Int)), by omega, by have := HQ.out; omega, Lib.hid (by have := HQ.out; omega), by rw [HQ.out]; exact hM1, by go_num, by go_num, HS, hb2, HK2⟩
      case measure => (simp [intOf]; try omega)
    · obtain rfl : j = n := by omega
      go_wp2
      go_ret
      exact ⟨ys, ret_i64' (by have := HQ.out; omega), HW.out, HM.out, hbel, HK.out⟩
end Go.Proofs.Ytppdjhchangikaa
