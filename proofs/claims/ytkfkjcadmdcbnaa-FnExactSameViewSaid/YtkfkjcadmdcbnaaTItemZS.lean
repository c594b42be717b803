/- The type Item: slices of it measured. -/
import Derived.Test.YtkfkjcadmdcbnaaTItemZ
namespace Go.Proofs.Ytkfkjcadmdcbnaa
open Go.RowKit Go.Proofs.Ytkfkjcadmdcbnaa.Parts Go.Proofs.Ytkfkjcadmdcbnaa.Hexa

set_option maxRecDepth 100000 in
set_option maxHeartbeats 1000000 in
theorem szItemS_any (v : Value) (L : List ItemR) (l0 : Int) (w : World) (hl0 : 0 ≤ l0) (hl1 : l0 ≤ 1048576) (hs : (celRow cItem L).Rd w v) (ht : (celRow cItem L).Ty) :
    Calls Try.prog 44 #[v, .int .i64 l0] w (SzPost ((celRow cItem L).sz) l0 w) := by
  obtain ⟨a, n, c, rfl, hn⟩ := row_form hs
  have HS := Lib.hid hs
  have HT : Hid (TyL (celsE cItem L)) := Lib.hid ht.2
  have hn0 : n ≤ 9223372036854775807 := by rw [← hn]; exact ht.1
  have HZ : Hid ((celRow cItem L).sz = n + szL (celsE cItem L)) := Lib.hid (by rw [← hn]; rfl)
  have HN := Lib.hid hn
  clear hs ht hn
  by_cases hlt0 : l0 - (n : Int) < 0
  · go_enter Try.func44, Try.ntmps44
    go_wp2
    go_ret
    exact ⟨-1, rfl, .inl (by omega), Below.refl _ _⟩
  · go_enter Try.func44, Try.ntmps44
    go_wp2
    go_loopw [1, 5] (fun lv iv wr => ∃ (k : Nat) (l : Int), k ≤ n ∧ iv = .int .i64 k ∧ lv = .int .i64 l ∧ 0 ≤ l ∧ l ≤ l0 ∧ Hid (l + (n : Int) + (szL (celsE cItem (L.take k)) : Int) = l0) ∧ Below w.heap.size w wr) (fun _ iv _ => n - (intOf iv).toNat)
    case atStart => exact ⟨0, _, Nat.zero_le _, rfl, rfl, by omega, by omega, Lib.hid (by simp only [List.take_zero, celsE, szL]; omega), Below.refl _ _⟩
    case round =>
      obtain ⟨k, l, hk, rfl, rfl, h0, hl, HA, hbel⟩ := hrel
      by_cases hlt : k < n
      · have HX := Lib.hid (TyL_at cItem L k HT.out (by rw [HN.out]; exact hlt))
        have HQ := Lib.hid (szL_next cItem (L := L) (j := k) (by rw [HN.out]; exact hlt))
        obtain ⟨g, off, rfl, hg, d0, d1, d2⟩ := cItem_at (Cel.Rd.later hbel _ _ HS.out) k hlt
        obtain ⟨x, hx⟩ : ∃ x, L.getD k default = x := ⟨_, rfl⟩
        rw [hx] at d0 d1 d2  HX HQ
        clear hx
        go_wp2_with fail
        refine (szItem_st x l _ h0 (by omega) HX.out).mono ?_
        rintro e w1 ⟨r, rfl, hr, hb1⟩
        have hb2 : Below w.heap.size w w1 := hbel.trans (hb1.mono hbel.size)
        clear d0 d1 d2  hb1
        rcases hr with h1 | ⟨h1, h2⟩
        · go_wp2
          go_ret
          exact ⟨-1, rfl, .inl (by omega), hb2⟩
        · have HA2 : Hid (r + (n : Int) + (szL (celsE cItem (L.take (k + 1))) : Int) = l0) := Lib.hid (by have h3 := HQ.out; have h4 := HA.out; omega)
          have hr2 : r ≤ l0 := by omega
          clear HA HQ h2
          go_wp2
          go_roundw
          case rel => exact ⟨k + 1, r, by omega, by go_num, rfl, h1, hr2, HA2, hb2⟩
          case measure => (simp [intOf]; try omega)
      · obtain rfl : k = n := by omega
        go_wp2
        go_ret
        refine ⟨l, rfl, .inr ⟨h0, ?_⟩, hbel⟩
        have h9 := HA.out
        rw [List.take_of_length_le (by rw [HN.out]; omega)] at h9
        rw [HZ.out]
        omega

end Go.Proofs.Ytkfkjcadmdcbnaa
