/- The type Item: slices of it copied. -/
import Derived.Test.YtkfkjcadmdcbnaaTItemC
namespace Go.Proofs.Ytkfkjcadmdcbnaa
open Go.RowKit Go.Proofs.Ytkfkjcadmdcbnaa.Parts Go.Proofs.Ytkfkjcadmdcbnaa.Hexa

set_option maxRecDepth 100000 in
set_option maxHeartbeats 1000000 in
theorem toItemS_any (v : Value) (L : List ItemR) (w : World) (hs : (celRow cItem L).Rd w v) (hz : (celRow cItem L).sz ≤ 1048576) :
    Calls Try.prog 45 #[v] w (ToPost (celRow cItem L) w) := by
  obtain ⟨i0, hi, hz0, hz1, hz2⟩ := info_parts infoItemD
  obtain ⟨a, n, c, rfl, hn⟩ := row_form hs
  have HS := Lib.hid hs
  have hz' : n + szL (celsE cItem L) ≤ 1048576 := by rw [← hn]; exact hz
  have hn1 : n ≤ 1048576 := by omega
  have HZ : Hid (szL (celsE cItem L) ≤ 1048576) := Lib.hid (by omega)
  have HN := Lib.hid hn
  clear hs hz hz' hn
  go_enter Try.func45, Try.ntmps45
  go_wp2_with (at_make; refine wpList_make_full _ rfl _ _ 24 rfl w.heap.size 28 i0 _ 3 Try.underlying24 hi hz0 hz1 .i64 .i64 _ _ n rfl rfl rfl rfl (by rw [hz2]; omega) (by unfold maxLen; omega) (Nat.le_refl _) ?_; intro w0 hown0 hgrow0)
  have hg0 : Below w.heap.size w w0 := (Below.refl _ _).grown hgrow0 (Nat.le_refl _) (fun k h => by cases h)
  have HO0 : Hid (Part2 cItem L w0 w.heap.size n 0) := Lib.hid (Part2.start hown0)
  clear hown0 hgrow0
  go_loopw [4] (fun iv wr => ∃ (k : Nat), k ≤ n ∧ iv = .int .i64 k ∧ Hid (Part2 cItem L wr w.heap.size n k) ∧ Below w.heap.size w wr)
    (fun iv _ => n - (intOf iv).toNat)
  case atStart => exact ⟨0, Nat.zero_le _, rfl, HO0, hg0⟩
  case round =>
    clear HO0 hg0
    obtain ⟨k, hk, rfl, HW, hbel⟩ := hrel
    by_cases hlt : k < n
    · have HX : Hid (szL (cItem.cels (L.getD k default)) ≤ 1048576) := Lib.hid (Nat.le_trans (szL_at cItem L k (by rw [HN.out]; exact hlt)) HZ.out)
      obtain ⟨g, off, rfl, hg, d0, d1, d2⟩ := cItem_at (Cel.Rd.later hbel _ _ HS.out) k hlt
      have HV : Hid (∀ (w1 : World) (hi : Nat) (vs : List Value), Below wr.heap.size wr w1 → Objs w1 wr.heap.size hi (cItem.cels (L.getD k default)) vs → Part2 cItem L (w1.setCells w.heap.size (k * 3) vs) w.heap.size n (k + 1)) :=
        Lib.hid (fun w1 hi vs hb ho => HW.out.next HN.out hlt hb ho)
      obtain ⟨x, hx⟩ : ∃ x, L.getD k default = x := ⟨_, rfl⟩
      rw [hx] at d0 d1 d2  HX HV
      clear hx
      go_wp2_with fail
      refine (toItem_st x _ HX.out).mono ?_
      rintro e w1 ⟨vs, rfl, ho, hb1⟩
      have hbx : Below w.heap.size w w1 := hbel.trans (hb1.mono hbel.size)
      have O1 := Lib.hid (HV.out w1 _ vs hb1 ho)
      obtain rfl := cItem_form ho.rd
      obtain ⟨xs, G, hrow, _, _, _⟩ := (HW.out.later hb1).ex
      have HW1 := Lib.hid hrow
      clear hrow
      obtain ⟨v0, e0⟩ := ownE_cell HW1.out (j := k * 3) (by show k * 3 < n * 3; omega)
      obtain ⟨v1, e1⟩ := ownE_cell HW1.out (j := k * 3 + 1) (by show k * 3 + 1 < n * 3; omega)
      obtain ⟨v2, e2⟩ := ownE_cell HW1.out (j := k * 3 + 2) (by show k * 3 + 2 < n * 3; omega)
      have z0 := HW1.out.frozenAt (k * 3)
      have z1 := HW1.out.frozenAt (k * 3 + 1)
      have z2 := HW1.out.frozenAt (k * 3 + 2)
      have hb2 := Lib.hid (below_sets (Nat.le_refl w.heap.size) [.string x.path, .bool x.dir, .string x.text] (k * 3) hbx)
      clear d0 d1 d2  hb1 hbx ho HW
      go_wp2
      go_roundw
      case rel => exact ⟨k + 1, by omega, by go_num, O1, hb2.out⟩
      case measure => (simp [intOf]; try omega)
    · obtain rfl : k = n := by omega
      have HO := Lib.hid (HW.out.done HN.out)
      go_wp2
      go_ret
      exact ⟨_, rfl, HO.out, hbel⟩

end Go.Proofs.Ytkfkjcadmdcbnaa
