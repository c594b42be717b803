/- Slices of sealings: copied, compared. -/
import Derived.Test.YtgpjklnlchbbbaaSealA
import Derived.OneCell
import Derived.Deep.RegionHeld3
namespace Go.Proofs.Ytgpjklnlchbbbaa
open Go.RowKit Go.Proofs.Ytgpjklnlchbbbaa.Parts Go.Proofs.Ytgpjklnlchbbbaa.Hexa

/-- The cells of sealings. -/
def cells3 : List S3 → List Value
  | [] => []
  | s :: r => .string s.k :: .string s.n :: .string s.t :: cells3 r
theorem cells3_length : ∀ L : List S3, (cells3 L).length = L.length * 3
  | [] => rfl
  | s :: r => by simp [cells3, cells3_length r]; omega
theorem cells3_at : ∀ (L : List S3) (j : Nat), j < L.length → (cells3 L)[j * 3]? = some (.string (L.getD j default).k) ∧ (cells3 L)[j * 3 + 1]? = some (.string (L.getD j default).n) ∧ (cells3 L)[j * 3 + 2]? = some (.string (L.getD j default).t)
  | s :: r, 0, _ => by simp [cells3]
  | s :: r, j + 1, h => by
    have := cells3_at r j (by simpa using h)
    rw [show (j + 1) * 3 = j * 3 + 1 + 1 + 1 by omega]
    simpa [cells3] using this
/-- The first 3 k cells are right; three more are written. -/
theorem cells3_step {L : List S3} {xs : List Value} {k : Nat} (hk : k < L.length) (hl : xs.length = L.length * 3) (h : ∀ j, j < k * 3 → xs[j]? = (cells3 L)[j]?) :
    ∀ j, j < (k + 1) * 3 → (((xs.set (k * 3) (.string (L.getD k default).k)).set (k * 3 + 1) (.string (L.getD k default).n)).set (k * 3 + 2) (.string (L.getD k default).t))[j]? = (cells3 L)[j]? := by
  intro j hj
  obtain ⟨e0, e1, e2⟩ := cells3_at L k hk
  by_cases h2 : j = k * 3 + 2
  · subst h2; rw [List.getElem?_set_self (by simp; omega), e2]
  · rw [List.getElem?_set_ne (by omega)]
    by_cases h1 : j = k * 3 + 1
    · subst h1; rw [List.getElem?_set_self (by simp; omega), e1]
    · rw [List.getElem?_set_ne (by omega)]
      by_cases h0 : j = k * 3
      · subst h0; rw [List.getElem?_set_self (by omega), e0]
      · rw [List.getElem?_set_ne (by omega)]; exact h j (by omega)

theorem infoSeal : (Try.prog.info? 29).map (fun i => (i.zero, i.size, i.bytes)) = some (some (.agg #[.string ByteArray.empty, .string ByteArray.empty, .string ByteArray.empty]), 3, 48) := by kernel_rfl

/-- What the copy returns. -/
def CopyS (n : Nat) (L : List S3) (w : World) (e : Ending) (w' : World) : Prop :=
  e = .returned (.slice (some ⟨w.heap.size, 0, none⟩) n n) ∧ w'.ownsRow w.heap.size 29 3 (.slice (some ⟨w.heap.size, 0, none⟩) n n) n (cells3 L) ∧ Below w.heap.size w w'

set_option maxRecDepth 100000 in
set_option maxHeartbeats 1000000 in
theorem toSeals_any (a : Option Addr) (n c : Nat) (L : List S3) (w : World) (hs : SrcS w a n L) (hn : n ≤ 1048576) :
    Calls Try.prog 14 #[.slice a n c] w (CopyS n L w) := by
  obtain ⟨i0, hi, hz0, hz1, hz2⟩ := info_parts infoSeal
  have HS := Lib.hid hs
  have hL := hs.len
  clear hs
  go_enter Try.func14, Try.ntmps14
  go_wp2_with (at_make; refine wpList_make_full _ rfl _ _ 24 rfl w.heap.size 29 i0 _ 3 Try.underlying24 hi hz0 hz1 .i64 .i64 _ _ n rfl rfl rfl rfl (by rw [hz2]; omega) (by unfold maxLen; omega) (Nat.le_refl _) ?_; intro w0 hown0 hgrow0)
  have hg0 : Below w.heap.size w w0 := (Below.refl _ _).grown hgrow0 (Nat.le_refl _) (fun k h => by cases h)
  have HO0 := Lib.hid hown0
  clear hown0 hgrow0
  go_loopw [4] (fun iv wr => ∃ (k : Nat) (xs : List Value), k ≤ n ∧ iv = .int .i64 k ∧ Hid (wr.ownsRow w.heap.size 29 3 (.slice (some ⟨w.heap.size, 0, none⟩) n n) n xs) ∧ Hid (∀ j, j < k * 3 → xs[j]? = (cells3 L)[j]?) ∧ Below w.heap.size w wr)
    (fun iv _ => n - (intOf iv).toNat)
  case atStart => exact ⟨0, _, Nat.zero_le _, rfl, HO0, Lib.hid (fun j hj => by omega), hg0⟩
  case round =>
    clear HO0 hg0
    obtain ⟨k, xs, hk, rfl, HW, HX, hbel⟩ := hrel
    have hxl : Hid (xs.length = n * 3) := Lib.hid HW.out.1
    by_cases hlt : k < n
    · obtain ⟨g, off, rfl, hg, c1, c2, c3⟩ := HS.out.cell k hlt
      have d1 := (hbel.cell (p := ⟨g, off + k * 3, none⟩) hg).trans c1
      have d2 := (hbel.cell (p := ⟨g, off + k * 3 + 1, none⟩) hg).trans c2
      have d3 := (hbel.cell (p := ⟨g, off + k * 3 + 2, none⟩) hg).trans c3
      have X1 := Lib.hid (cells3_step (by omega) (by rw [hL]; exact hxl.out) HX.out)
      obtain ⟨x, hx⟩ : ∃ x, L.getD k default = x := ⟨_, rfl⟩
      rw [hx] at d1 d2 d3 X1
      clear c1 c2 c3 hx
      go_wp2_with fail
      refine (toSealing_any x.k x.n x.t _).mono ?_
      rintro e w1 ⟨rfl, hb1⟩
      have HW1 := Lib.hid (own_below HW.out hb1)
      have e1 : ∃ v, w1.cell? ⟨w.heap.size, k * 3, none⟩ = some v := ⟨xs[k * 3]'(by have := hxl.out; omega), by rw [HW1.out.cellAt (k * 3) (by omega)]; have h3 : k * 3 < xs.length := (by have := hxl.out; omega); simp [h3]⟩
      have e2 : ∃ v, w1.cell? ⟨w.heap.size, k * 3 + 1, none⟩ = some v := ⟨xs[k * 3 + 1]'(by have := hxl.out; omega), by rw [HW1.out.cellAt (k * 3 + 1) (by omega)]; have h3 : k * 3 + 1 < xs.length := (by have := hxl.out; omega); simp [h3]⟩
      have e3 : ∃ v, w1.cell? ⟨w.heap.size, k * 3 + 2, none⟩ = some v := ⟨xs[k * 3 + 2]'(by have := hxl.out; omega), by rw [HW1.out.cellAt (k * 3 + 2) (by omega)]; have h3 : k * 3 + 2 < xs.length := (by have := hxl.out; omega); simp [h3]⟩
      obtain ⟨v1, e1⟩ := e1
      obtain ⟨v2, e2⟩ := e2
      obtain ⟨v3, e3⟩ := e3
      have f1 := HW1.out.frozenAt (k * 3)
      have f2 := HW1.out.frozenAt (k * 3 + 1)
      have f3 := HW1.out.frozenAt (k * 3 + 2)
      have O1 := Lib.hid (((HW1.out.stored (k * 3) (.string x.k)).1.stored (k * 3 + 1) (.string x.n)).1.stored (k * 3 + 2) (.string x.t)).1
      have hbx : Below w.heap.size w w1 := hbel.trans (hb1.mono hbel.size)
      have hb2 : Below w.heap.size w (((w1.setCell ⟨w.heap.size, k * 3, none⟩ (.string x.k)).setCell ⟨w.heap.size, k * 3 + 1, none⟩ (.string x.n)).setCell ⟨w.heap.size, k * 3 + 2, none⟩ (.string x.t)) := ((hbx.setCell (Nat.le_refl _) _).setCell (Nat.le_refl _) _).setCell (Nat.le_refl _) _
      clear d1 d2 d3 hb1 hbx
      go_wp2
      go_roundw
      case rel => exact ⟨k + 1, _, by omega, by go_num, O1, X1, hb2⟩
      case measure => (simp [intOf]; try omega)
    · obtain rfl : k = n := by omega
      have hfin : xs = cells3 L := by
        apply List.ext_getElem?
        intro j
        by_cases hj : j < k * 3
        · exact HX.out j hj
        · rw [List.getElem?_eq_none (by have := hxl.out; omega), List.getElem?_eq_none (by rw [cells3_length]; omega)]
      have ho := HW.out
      rw [hfin] at ho
      have HO := Lib.hid ho
      clear ho hfin
      go_wp2
      go_ret
      exact ⟨rfl, HO.out, hbel⟩

theorem own_lt3 {w : World} {B e : Nat} {g n cap : Nat} {xs : List Value} (h : w.ownsRow B e 3 (.slice (some ⟨g, 0, none⟩) n cap) n xs) : g < w.heap.size := (h.lt g rfl).2
/-- A slice that the call owns, as one that came in. -/
theorem srcS_of_own {w : World} {B e : Nat} {g n cap : Nat} {L : List S3} (h : w.ownsRow B e 3 (.slice (some ⟨g, 0, none⟩) n cap) n (cells3 L)) : SrcS w (some ⟨g, 0, none⟩) n L := by
  have hl : L.length = n := by have h1 := h.1; rw [cells3_length] at h1; omega
  refine ⟨hl, fun j hj => ?_⟩
  obtain ⟨e0, e1, e2⟩ := cells3_at L j (by omega)
  refine ⟨g, 0, rfl, own_lt3 h, ?_, ?_, ?_⟩
  · rw [Nat.zero_add, h.cellAt _ (by omega), e0]
  · rw [Nat.zero_add, h.cellAt _ (by omega), e1]
  · rw [Nat.zero_add, h.cellAt _ (by omega), e2]

set_option maxRecDepth 100000 in
set_option maxHeartbeats 1000000 in
theorem eqSeals_any (a1 a2 : Option Addr) (n c1 c2 : Nat) (L : List S3) (w : World) (hn : n ≤ 100000000) (s1 : SrcS w a1 n L) (s2 : SrcS w a2 n L) :
    Calls Try.prog 15 #[.slice a1 n c1, .slice a2 n c2] w fun e w' => e = .returned (.bool true) ∧ Below w.heap.size w w' := by
  have R1 := Lib.hid s1
  have R2 := Lib.hid s2
  clear s1 s2
  go_enter Try.func15, Try.ntmps15
  go_wp2
  go_loopw [5] (fun iv wr => ∃ k : Nat, k ≤ n ∧ iv = .int .i64 k ∧ Below w.heap.size w wr) (fun iv _ => n - (intOf iv).toNat)
  case atStart => exact ⟨0, Nat.zero_le _, rfl, Below.refl _ _⟩
  case round =>
    obtain ⟨k, hk, rfl, hbel⟩ := hrel
    by_cases hlt : k < n
    · obtain ⟨g, off, rfl, hg, c1, c2, c3⟩ := R1.out.cell k hlt
      obtain ⟨g2, off2, rfl, hg2, b1, b2, b3⟩ := R2.out.cell k hlt
      have d1 := (hbel.cell (p := ⟨g, off + k * 3, none⟩) hg).trans c1
      have d2 := (hbel.cell (p := ⟨g, off + k * 3 + 1, none⟩) hg).trans c2
      have d3 := (hbel.cell (p := ⟨g, off + k * 3 + 2, none⟩) hg).trans c3
      have m1 := (hbel.cell (p := ⟨g2, off2 + k * 3, none⟩) hg2).trans b1
      have m2 := (hbel.cell (p := ⟨g2, off2 + k * 3 + 1, none⟩) hg2).trans b2
      have m3 := (hbel.cell (p := ⟨g2, off2 + k * 3 + 2, none⟩) hg2).trans b3
      obtain ⟨x, hx⟩ : ∃ x, L.getD k default = x := ⟨_, rfl⟩
      rw [hx] at d1 d2 d3 m1 m2 m3
      clear c1 c2 c3 b1 b2 b3 hx
      go_wp2
      go_region_with (go_at_call 25; refine (eqSealing_any x.k x.n x.t _).mono ?_; rintro e w1 ⟨rfl, hb1⟩)
      all_goals
        have hb2 : Below w.heap.size w w1 := hbel.drew.trans (hb1.mono hbel.size)
        clear d1 d2 d3 m1 m2 m3 hb1
        go_wp2
        go_roundw
        case rel => exact ⟨k + 1, by omega, by go_num, hb2⟩
        case measure => (simp [intOf]; try omega)
    · obtain rfl : k = n := by omega
      go_wp2
      go_ret
      exact ⟨rfl, hbel⟩
end Go.Proofs.Ytgpjklnlchbbbaa
