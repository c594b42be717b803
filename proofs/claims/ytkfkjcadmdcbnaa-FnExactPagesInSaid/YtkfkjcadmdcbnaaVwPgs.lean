/- PagesIn: the model's, the program's. -/
import Derived.Test.YtkfkjcadmdcbnaaVwItem
import Derived.Test.YtkfkjcadmdcbnaaSays
import Derived.Test.YtkfkjcadmdcbnaaMarkAt
import Derived.Test.YtkfkjcadmdcbnaaPgSpec
import Derived.Test.YtkfkjcadmdcbnaaPagesImpl
namespace Go.Proofs.Ytkfkjcadmdcbnaa
open Go.RowKit Go.Proofs.Ytkfkjcadmdcbnaa.Parts Go.Proofs.Ytkfkjcadmdcbnaa.Hexa

theorem pagesR_upto (L : List ItemR) (k : Nat) : pagesR (L.take k) ≤ pagesR L := by
  conv => rhs; rw [← List.take_append_drop k L, pagesR_append]
  have := (pagesR_bd (L.drop k)).1
  omega
theorem itemPg_file {x : ItemR} (h : x.dir = false) : itemPg x = pagesZ (x.text.size : Int) := by unfold itemPg; rw [h]; rfl
theorem itemPg_dir {x : ItemR} (h : x.dir = true) : itemPg x = 0 := by unfold itemPg; rw [h]; rfl
set_option maxRecDepth 100000 in
set_option maxHeartbeats 2000000 in
theorem specPgs_any (a : Option Addr) (c : Nat) (L : List ItemR) (w : World) (h : (celRow cItem L).Rd w (.slice a L.length c)) (hz : (celRow cItem L).sz ≤ 100000000) :
    Calls Try.prog 24 #[.agg #[.slice a L.length c]] w (SaysI (pagesR L) w) := by
  have B0 := Lib.hid (below_bk w (.cells #[.slice a L.length c] 26))
  have T0 := Lib.hid (Bk.alloc w #[.slice a L.length c] 26)
  have HS := Lib.hid h
  rw [sz_row'] at hz
  have hn : L.length ≤ 100000000 := by omega
  have HZ : Hid (szL (celsE cItem L) ≤ 100000000) := Lib.hid (by omega)
  have HM : Hid (pagesR L ≤ 100000000) := Lib.hid (by have := (pagesR_bd L).2; omega)
  clear h hz
  go_enter Try.func24, Try.ntmps24
  go_wp2
  go_loopw [3, 4] (fun nv jv wr => ∃ (j : Nat) (n : Int), j ≤ L.length ∧ jv = .int .i64 j ∧ nv = .int .i64 n ∧ 0 ≤ n ∧ n ≤ 100000000 ∧ Hid (n = pagesR (L.take j)) ∧ Hid (Below w.heap.size w wr) ∧ Hid (Bk wr w.heap.size #[.slice a L.length c] 26)) (fun _ jv _ => L.length - (intOf jv).toNat)
  case atStart => exact ⟨0, 0, Nat.zero_le _, rfl, rfl, Int.le_refl _, by omega, Lib.hid rfl, B0, T0⟩
  case round =>
    clear T0 B0
    obtain ⟨j, n, hj, rfl, rfl, hn0, hn1, HA, HB, HT⟩ := hrel
    have t0 := HT.out.cell (j := 0) rfl
    by_cases hjt : j < L.length
    · obtain ⟨g, off, rfl, hg, d0, d1, d2⟩ := cItem_at (Cel.Rd.later HB.out _ _ HS.out) j hjt
      have HX := Lib.hid (pagesR_next hjt)
      have HU := Lib.hid (pagesR_upto L (j + 1))
      have HY := Lib.hid (Nat.le_trans (szL_at cItem L j hjt) HZ.out)
      rw [cItem_sz] at HY
      obtain ⟨x, hx⟩ : ∃ x, L.getD j default = x := ⟨_, rfl⟩
      rw [hx] at d0 d1 d2 HX HY
      clear hx d0
      by_cases hq : x.dir = true
      · have HA2 : Hid (n = pagesR (L.take (j + 1))) := Lib.hid (by rw [HX.out, itemPg_dir hq, HA.out]; omega)
        rw [hq] at d1
        clear hq d2
        go_wp2
        go_roundw
        case rel => exact ⟨j + 1, n, by omega, by go_num, rfl, hn0, hn1, HA2, HB, HT⟩
        case measure => (simp [intOf]; try omega)
      · have hq' : x.dir = false := by simpa using hq
        have HP := Lib.hid (itemPg_file hq')
        have HQ := Lib.hid (itemPg_bd x)
        rw [hq'] at d1
        obtain ⟨m, hm⟩ : ∃ m, pagesZ (x.text.size : Int) = m := ⟨_, rfl⟩
        have hm0 : 0 ≤ m := by have := HQ.out.1; rw [HP.out, hm] at this; exact this
        have hm1 : n + m ≤ 100000000 := by have := HM.out; have := HU.out; have := HX.out; have := HA.out; have := HP.out; omega
        have hsz : x.text.size ≤ 100000000 := by have := HY.out; omega
        have HA2 : Hid (n + m = pagesR (L.take (j + 1))) := Lib.hid (by rw [HX.out, HP.out, hm, HA.out])
        have HMM := Lib.hid hm
        clear hq hq' hm
        go_wp2_with fail
        refine (specPages_any (x.text.size : Int) _ (by omega) (by omega)).mono ?_
        rw [HMM.out]
        rintro e w9 ⟨rfl, rfl⟩
        go_wp2
        go_roundw
        case rel => exact ⟨j + 1, n + m, by omega, by go_num, rfl, by omega, hm1, HA2, HB, HT⟩
        case measure => (simp [intOf]; try omega)
    · obtain rfl : j = L.length := by omega
      have HE : Hid (n = pagesR L) := Lib.hid (by have := HA.out; rw [List.take_length] at this; exact this)
      go_wp2
      go_ret
      exact ⟨ret_i64m HE.out, HB.out⟩
set_option maxRecDepth 100000 in
set_option maxHeartbeats 2000000 in
theorem implPgs_any (a : Option Addr) (c : Nat) (L : List ItemR) (w : World) (h : (celRow cItem L).Rd w (.slice a L.length c)) (hz : (celRow cItem L).sz ≤ 100000000) :
    Calls Try.prog 18 #[.agg #[.slice a L.length c]] w (SaysI (pagesR L) w) := by
  have B0 := Lib.hid (below_bk w (.cells #[.slice a L.length c] 26))
  have HS := Lib.hid h
  rw [sz_row'] at hz
  have hn : L.length ≤ 100000000 := by omega
  have HZ : Hid (szL (celsE cItem L) ≤ 100000000) := Lib.hid (by omega)
  have HM : Hid (pagesR L ≤ 100000000) := Lib.hid (by have := (pagesR_bd L).2; omega)
  clear h hz
  go_enter Try.func18, Try.ntmps18
  go_wp2
  go_loopw [3, 9] (fun nv jv wr => ∃ (j : Nat) (n : Int), j ≤ L.length ∧ jv = .int .i64 j ∧ nv = .int .i64 n ∧ 0 ≤ n ∧ n ≤ 100000000 ∧ Hid (n = pagesR (L.take j)) ∧ Hid (Below w.heap.size w wr)) (fun _ jv _ => L.length - (intOf jv).toNat)
  case atStart => exact ⟨0, 0, Nat.zero_le _, rfl, rfl, Int.le_refl _, by omega, Lib.hid rfl, B0⟩
  case round =>
    clear B0
    obtain ⟨j, n, hj, rfl, rfl, hn0, hn1, HA, HB⟩ := hrel
    by_cases hjt : j < L.length
    · obtain ⟨g, off, rfl, hg, d0, d1, d2⟩ := cItem_at (Cel.Rd.later HB.out _ _ HS.out) j hjt
      have HX := Lib.hid (pagesR_next hjt)
      have HU := Lib.hid (pagesR_upto L (j + 1))
      have HY := Lib.hid (Nat.le_trans (szL_at cItem L j hjt) HZ.out)
      rw [cItem_sz] at HY
      obtain ⟨x, hx⟩ : ∃ x, L.getD j default = x := ⟨_, rfl⟩
      rw [hx] at d0 d1 d2 HX HY
      clear hx
      have HB2 : Hid (Below w.heap.size w (wr.alloc (.cells #[.string x.path, .bool x.dir, .string x.text] 28))) := Lib.hid (HB.out.alloc HB.out.size _)
      by_cases hq : x.dir = true
      · have HA2 : Hid (n = pagesR (L.take (j + 1))) := Lib.hid (by rw [HX.out, itemPg_dir hq, HA.out]; omega)
        rw [hq] at d1 HB2
        clear hq
        go_wp2
        go_roundw
        case rel => exact ⟨j + 1, n, by omega, by go_num, rfl, hn0, hn1, HA2, HB2⟩
        case measure => (simp [intOf]; try omega)
      · have hq' : x.dir = false := by simpa using hq
        have HP := Lib.hid (itemPg_file hq')
        have HQ := Lib.hid (itemPg_bd x)
        rw [hq'] at d1 HB2
        obtain ⟨m, hm⟩ : ∃ m, pagesZ (x.text.size : Int) = m := ⟨_, rfl⟩
        have hm0 : 0 ≤ m := by have := HQ.out.1; rw [HP.out, hm] at this; exact this
        have hm1 : n + m ≤ 100000000 := by have := HM.out; have := HU.out; have := HX.out; have := HA.out; have := HP.out; omega
        have hsz : x.text.size ≤ 100000000 := by have := HY.out; omega
        have HA2 : Hid (n + m = pagesR (L.take (j + 1))) := Lib.hid (by rw [HX.out, HP.out, hm, HA.out])
        have HMM := Lib.hid hm
        clear hq hq' hm
        go_wp2_with fail
        refine (implPages_any (x.text.size : Int) _ (by omega) (by omega)).mono ?_
        rw [HMM.out]
        rintro e w9 ⟨rfl, rfl⟩
        go_wp2
        go_roundw
        case rel => exact ⟨j + 1, n + m, by omega, by go_num, rfl, by omega, hm1, HA2, HB2⟩
        case measure => (simp [intOf]; try omega)
    · obtain rfl : j = L.length := by omega
      have HE : Hid (n = pagesR L) := Lib.hid (by have := HA.out; rw [List.take_length] at this; exact this)
      go_wp2
      go_ret
      exact ⟨ret_i64m HE.out, HB.out⟩
end Go.Proofs.Ytkfkjcadmdcbnaa
