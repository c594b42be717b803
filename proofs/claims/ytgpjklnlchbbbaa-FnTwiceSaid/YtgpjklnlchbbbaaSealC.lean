/- Slices of sealings: marks written over them. -/
import Derived.Test.YtgpjklnlchbbbaaSealB
import Derived.Test.YtgpjklnlchbbbaaPartsLawA
namespace Go.Proofs.Ytgpjklnlchbbbaa
open Go.RowKit Go.Proofs.Ytgpjklnlchbbbaa.Parts Go.Proofs.Ytgpjklnlchbbbaa.Hexa

/-- No block is written but one; what was there stays. -/
structure But1 (B : Nat) (w w' : World) : Prop where
  size : w.heap.size ≤ w'.heap.size
  block : ∀ g, g ≠ B → g < w.heap.size → w'.heap[g]? = w.heap[g]?
theorem But1.refl (B : Nat) (w : World) : But1 B w w := ⟨Nat.le_refl _, fun _ _ _ => rfl⟩
theorem But1.then_below {B : Nat} {w w1 w2 : World} (h : But1 B w w1) (hb : Below w1.heap.size w1 w2) : But1 B w w2 :=
  ⟨Nat.le_trans h.size hb.size, fun g h1 h2 => by rw [hb.block g (Nat.lt_of_lt_of_le h2 h.size)]; exact h.block g h1 h2⟩
theorem But1.then_set {B : Nat} {w w1 : World} (h : But1 B w w1) (o : Nat) (v : Value) : But1 B w (w1.setCell ⟨B, o, none⟩ v) :=
  ⟨Nat.le_trans h.size (by simp), fun g h1 h2 => by rw [Below.heap_setCell _ _ _ _ (by simpa using h1)]; exact h.block g h1 h2⟩

theorem markText_i (i : Int) (k : Nat) (w : World) (h : i = k) (h0 : 0 < k) (hk : k ≤ 100000000) :
    Calls Try.prog 26 #[.int .i64 i] w fun e w' => e = .returned (.string (markT k)) ∧ Below w.heap.size w w' := by
  subst h; exact markText_any k w h0 hk

def MarkS (B n k : Nat) (w : World) (e : Ending) (w' : World) : Prop :=
  e = .returned (.int .i64 (k + 3 * n)) ∧ Below B w w' ∧ But1 B w w'

set_option maxRecDepth 100000 in
set_option maxHeartbeats 1000000 in
theorem markSeals_any (B n cap k : Nat) (xs : List Value) (w : World) (h0 : 0 < k) (hk : k + 3 * n ≤ 100000000) (hown : w.ownsRow B 29 3 (.slice (some ⟨B, 0, none⟩) n cap) n xs) :
    Calls Try.prog 17 #[.slice (some ⟨B, 0, none⟩) n cap, .int .i64 k] w (MarkS B n k w) := by
  have HO := Lib.hid hown
  have hB := Lib.hid (own_lt3 hown)
  clear hown
  go_enter Try.func17, Try.ntmps17
  go_wp2
  go_loopw [1, 5] (fun kv iv wr => ∃ (j q : Nat) (ys : List Value), j ≤ n ∧ q ≤ k + 3 * n ∧ 0 < q ∧ Hid (q = k + 3 * j) ∧ iv = .int .i64 j ∧ kv = .int .i64 q ∧ Hid (wr.ownsRow B 29 3 (.slice (some ⟨B, 0, none⟩) n cap) n ys) ∧ Below B w wr ∧ Hid (But1 B w wr)) (fun _ iv _ => n - (intOf iv).toNat)
  case atStart => exact ⟨0, k, xs, Nat.zero_le _, by omega, h0, Lib.hid rfl, rfl, rfl, HO, Below.refl _ _, Lib.hid (But1.refl _ _)⟩
  case round =>
    clear HO
    obtain ⟨j, q, ys, hj, hq, hq0, HQ, rfl, rfl, HW, hbel, HK⟩ := hrel
    by_cases hlt : j < n
    · have hl : Hid (ys.length = n * 3) := Lib.hid HW.out.1
      have hq3 : q + 3 ≤ k + 3 * n := by have := HQ.out; omega
      have cs : ∀ (w1 : World) (zs : List Value), zs.length = n * 3 → w1.ownsRow B 29 3 (.slice (some ⟨B, 0, none⟩) n cap) n zs → ∀ o, o < 3 → ∃ v, w1.cell? ⟨B, j * 3 + o, none⟩ = some v := fun w1 zs hz ho o h3 => by
        have h4 : j * 3 + o < zs.length := by omega
        exact ⟨zs[j * 3 + o], by rw [ho.cellAt (j * 3 + o) (by omega)]; simp [h4]⟩
      have CS := Lib.hid cs
      clear cs
      go_wp2_with fail
      refine (markText_any q _ hq0 (by omega)).mono ?_
      rintro e w1 ⟨rfl, hb1⟩
      have W1 := Lib.hid (own_below HW.out hb1)
      obtain ⟨v1, e1⟩ := CS.out w1 ys hl.out W1.out 0 (by omega)
      rw [Nat.add_zero] at e1
      have f1 := W1.out.frozenAt (j * 3)
      have O1 := Lib.hid (W1.out.stored (j * 3) (.string (markT q))).1
      have L1 : Hid ((ys.set (j * 3) (.string (markT q))).length = n * 3) := Lib.hid (by simp [hl.out])
      have K1 := Lib.hid ((HK.out.then_below hb1).then_set (j * 3) (.string (markT q)))
      have b1 : Below B w (w1.setCell ⟨B, j * 3, none⟩ (.string (markT q))) := (hbel.trans (hb1.mono (by have := hB.out; have := hbel.size; omega))).setCell (Nat.le_refl _) _
      clear hb1
      go_wp2_with fail
      clear e1 f1 W1 HW
      obtain ⟨wa, hwa⟩ : ∃ x, x = w1.setCell ⟨B, j * 3, none⟩ (.string (markT q)) := ⟨_, rfl⟩
      rw [← hwa] at O1 K1 b1 ⊢
      clear hwa
      refine (markText_i _ (q + 1) _ (by omega) (by omega) (by omega)).mono ?_
      rintro e w2 ⟨rfl, hb2⟩
      have W2 := Lib.hid (own_below O1.out hb2)
      obtain ⟨v2, e2⟩ := CS.out w2 _ L1.out W2.out 1 (by omega)
      have f2 := W2.out.frozenAt (j * 3 + 1)
      have O2 := Lib.hid (W2.out.stored (j * 3 + 1) (.string (markT (q + 1)))).1
      have L2 : Hid (((ys.set (j * 3) (.string (markT q))).set (j * 3 + 1) (.string (markT (q + 1)))).length = n * 3) := Lib.hid (by simp [hl.out])
      have K2 := Lib.hid ((K1.out.then_below hb2).then_set (j * 3 + 1) (.string (markT (q + 1))))
      have b2 : Below B w (w2.setCell ⟨B, j * 3 + 1, none⟩ (.string (markT (q + 1)))) := (b1.trans (hb2.mono (by have := hB.out; have := b1.size; omega))).setCell (Nat.le_refl _) _
      clear hb2 b1 K1 O1 L1
      go_wp2_with fail
      clear e2 f2 W2
      obtain ⟨wb, hwb⟩ : ∃ x, x = w2.setCell ⟨B, j * 3 + 1, none⟩ (.string (markT (q + 1))) := ⟨_, rfl⟩
      rw [← hwb] at O2 K2 b2 ⊢
      clear hwb
      refine (markText_i _ (q + 2) _ (by omega) (by omega) (by omega)).mono ?_
      rintro e w3 ⟨rfl, hb3⟩
      have W3 := Lib.hid (own_below O2.out hb3)
      obtain ⟨v3, e3⟩ := CS.out w3 _ L2.out W3.out 2 (by omega)
      have f3 := W3.out.frozenAt (j * 3 + 2)
      have O3 := Lib.hid (W3.out.stored (j * 3 + 2) (.string (markT (q + 2)))).1
      have K3 := Lib.hid ((K2.out.then_below hb3).then_set (j * 3 + 2) (.string (markT (q + 2))))
      have b3 : Below B w (w3.setCell ⟨B, j * 3 + 2, none⟩ (.string (markT (q + 2)))) := (b2.trans (hb3.mono (by have := hB.out; have := b2.size; omega))).setCell (Nat.le_refl _) _
      clear hb3 b2 K2 O2 L2 CS HK hbel
      go_wp2
      clear e3 f3 W3
      go_roundw
      case rel => exact ⟨j + 1, q + 3, _, by omega, hq3, by omega, Lib.hid (by have := HQ.out; omega), by go_num, by go_num, O3, b3, K3⟩
      case measure => (simp [intOf]; try omega)
    · obtain rfl : j = n := by omega
      go_wp2
      go_ret
      exact ⟨ret_i64' (by have := HQ.out; omega), hbel, HK.out⟩
end Go.Proofs.Ytgpjklnlchbbbaa
