/- The type Item: slices of it compared. -/
import Derived.Test.YtkfkjcadmdcbnaaTItemQ
namespace Go.Proofs.Ytkfkjcadmdcbnaa
open Go.RowKit Go.Proofs.Ytkfkjcadmdcbnaa.Parts Go.Proofs.Ytkfkjcadmdcbnaa.Hexa

set_option maxRecDepth 100000 in
set_option maxHeartbeats 1000000 in
theorem eqItemS_any (v v2 : Value) (L : List ItemR) (w : World) (s1 : (celRow cItem L).Rd w v) (s2 : (celRow cItem L).Rd w v2) (hz : L.length ≤ 100000000) :
    Calls Try.prog 46 #[v, v2] w fun e w' => e = .returned (.bool true) ∧ Below w.heap.size w w' := by
  obtain ⟨a, n, c, rfl, hn⟩ := row_form s1
  obtain ⟨a', n', c', rfl, hn'⟩ := row_form s2
  obtain rfl : n' = n := by rw [← hn, ← hn']
  have R1 := Lib.hid s1
  have R2 := Lib.hid s2
  have hz' : n' ≤ 100000000 := by rw [← hn]; exact hz
  have hn1 : n' ≤ 100000000 := by omega
  have HN := Lib.hid hn
  clear s1 s2 hz hz' hn hn'
  go_enter Try.func46, Try.ntmps46
  go_wp2
  go_loopw [5] (fun iv wr => ∃ k : Nat, k ≤ n' ∧ iv = .int .i64 k ∧ Below w.heap.size w wr) (fun iv _ => n' - (intOf iv).toNat)
  case atStart => exact ⟨0, Nat.zero_le _, rfl, Below.refl _ _⟩
  case round =>
    obtain ⟨k, hk, rfl, hbel⟩ := hrel
    by_cases hlt : k < n'
    · obtain ⟨g, off, rfl, hg, d0, d1, d2⟩ := cItem_at (Cel.Rd.later hbel _ _ R1.out) k hlt
      obtain ⟨g2, off2, rfl, hg2, m0, m1, m2⟩ := cItem_at (Cel.Rd.later hbel _ _ R2.out) k hlt
      obtain ⟨x, hx⟩ : ∃ x, L.getD k default = x := ⟨_, rfl⟩
      rw [hx] at d0 d1 d2 m0 m1 m2
      clear hx

      go_wp2
      go_region_with (go_at_call 60; refine (eqItem_st x _).mono ?_; rintro e w1 ⟨rfl, hb1⟩)
      all_goals
        have hb2 : Below w.heap.size w w1 := hbel.drew.trans (hb1.mono hbel.size)
        clear d0 d1 d2 m0 m1 m2   hb1
        go_wp2
        go_roundw
        case rel => exact ⟨k + 1, by omega, by go_num, hb2⟩
        case measure => (simp [intOf]; try omega)
    · obtain rfl : k = n' := by omega
      go_wp2
      go_ret
      exact ⟨rfl, hbel⟩

end Go.Proofs.Ytkfkjcadmdcbnaa
