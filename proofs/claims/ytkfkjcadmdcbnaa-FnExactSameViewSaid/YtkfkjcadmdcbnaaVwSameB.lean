/- SameView: the model's, the program's. -/
import Derived.Test.YtkfkjcadmdcbnaaVwSame
namespace Go.Proofs.Ytkfkjcadmdcbnaa
open Go.RowKit Go.Proofs.Ytkfkjcadmdcbnaa.Parts Go.Proofs.Ytkfkjcadmdcbnaa.Hexa

theorem same_len {A B : List ItemR} (h : A.length ≠ B.length) : decide (A = B) = false := decide_eq_false (fun e => h (by rw [e]))
theorem same_at {A B : List ItemR} {j : Nat} (h : A.getD j default ≠ B.getD j default) : decide (A = B) = false := decide_eq_false (fun e => h (by rw [e]))
theorem same_all {A B : List ItemR} (hl : A.length = B.length) (h : ∀ j, j < A.length → A.getD j default = B.getD j default) : decide (A = B) = true := by
  apply decide_eq_true
  apply List.ext_getElem hl
  intro i h1 h2
  have := h i h1
  simpa [List.getD, h1, h2] using this
theorem neq_itemT {x y : ItemR} (h : x = y) : (!decide (x = y)) = false := by rw [decide_eq_true h]; rfl
theorem neq_itemF {x y : ItemR} (h : ¬ x = y) : (!decide (x = y)) = true := by rw [decide_eq_false h]; rfl
set_option maxRecDepth 100000 in
set_option maxHeartbeats 2000000 in
theorem specSame_any (a : Option Addr) (c : Nat) (A : List ItemR) (a2 : Option Addr) (c2 : Nat) (B : List ItemR) (w : World) (h : (celRow cItem A).Rd w (.slice a A.length c)) (h2 : (celRow cItem B).Rd w (.slice a2 B.length c2)) (hn : A.length ≤ 100000000) (hn2 : B.length ≤ 100000000) :
    Calls Try.prog 13 #[.agg #[.slice a A.length c], .agg #[.slice a2 B.length c2]] w (SaysB (decide (A = B)) w) := by
  have hb1 := below_bk w (.cells #[.slice a A.length c] 26)
  have hb2 := below_bk (w.alloc (.cells #[.slice a A.length c] 26)) (.cells #[.slice a2 B.length c2] 26)
  have B0 := Lib.hid (hb1.trans (hb2.mono hb1.size))
  have T0 := Lib.hid ((Bk.alloc w #[.slice a A.length c] 26).later hb2)
  have U0 : Hid (Bk ((w.alloc (.cells #[.slice a A.length c] 26)).alloc (.cells #[.slice a2 B.length c2] 26)) (w.heap.size + 1) #[.slice a2 B.length c2] 26) := Lib.hid (by
    have h := Bk.alloc (w.alloc (.cells #[.slice a A.length c] 26)) #[.slice a2 B.length c2] 26
    simpa using h)
  have HS := Lib.hid h
  have HS2 := Lib.hid h2
  obtain ⟨z, hz⟩ : ∃ z, decide (A = B) = z := ⟨_, rfl⟩
  have HZ := Lib.hid hz
  rw [hz]
  clear h h2 hz hb1 hb2
  by_cases hl : A.length = B.length
  case neg =>
    have HE : Hid (false = z) := Lib.hid (by rw [← HZ.out, same_len hl])
    have e0 : ((A.length : Int) == (B.length : Int)) = false := beq_eq_false_iff_ne.2 (by omega)
    have t0 := T0.out.cell (j := 0) rfl
    have u0 := U0.out.cell (j := 0) rfl
    go_enter Try.func13, Try.ntmps13
    go_wp2
    go_ret
    exact ⟨ret_boolv HE.out, B0.out⟩
  have HL := Lib.hid hl
  rw [← hl] at B0 T0 U0 ⊢
  have t0 := T0.out.cell (j := 0) rfl
  have u0 := U0.out.cell (j := 0) rfl
  clear hl hn2
  go_enter Try.func13, Try.ntmps13
  go_wp2
  clear t0 u0
  go_loopw [5] (fun jv wr => ∃ j : Nat, j ≤ A.length ∧ jv = .int .i64 j ∧ Hid (∀ r, r < j → A.getD r default = B.getD r default) ∧ Hid (Below w.heap.size w wr) ∧ Hid (Bk wr w.heap.size #[.slice a A.length c] 26) ∧ Hid (Bk wr (w.heap.size + 1) #[.slice a2 A.length c2] 26)) (fun jv _ => A.length - (intOf jv).toNat)
  case atStart => exact ⟨0, Nat.zero_le _, rfl, Lib.hid (fun r hr => by omega), B0, T0, U0⟩
  case round =>
    clear T0 B0 U0
    obtain ⟨j, hj, rfl, HA, HB, HT, HU⟩ := hrel
    have t0 := HT.out.cell (j := 0) rfl
    by_cases hjt : j < A.length
    · obtain ⟨g, off, rfl, hg, d0, d1, d2⟩ := cItem_at (Cel.Rd.later HB.out _ _ HS.out) j hjt
      obtain ⟨g2, off2, rfl, hg2, m0, m1, m2⟩ := cItem_at (Cel.Rd.later HB.out _ _ HS2.out) j (by rw [← HL.out]; exact hjt)
      obtain ⟨x, hx⟩ : ∃ x, A.getD j default = x := ⟨_, rfl⟩
      obtain ⟨y, hy⟩ : ∃ y, B.getD j default = y := ⟨_, rfl⟩
      rw [hx] at d0 d1 d2
      rw [hy] at m0 m1 m2
      have HX := Lib.hid hx
      have HY := Lib.hid hy
      have u0 := HU.out.cell (j := 0) rfl
      have HB2 : Hid (Below w.heap.size w wr.drew) := Lib.hid HB.out.drew
      have HT2 := Lib.hid HT.out.drew
      have HU2 := Lib.hid HU.out.drew
      clear hx hy
      by_cases hq : x = y
      · have HA2 : Hid (∀ r, r < j + 1 → A.getD r default = B.getD r default) := Lib.hid (fun r hr => by
          by_cases e : r = j
          · subst e; rw [HX.out, HY.out]; exact hq
          · exact HA.out r (by omega))
        have hne := neq_item x y
        rw [neq_itemT hq] at hne
        clear hq HA
        go_wp2
        go_region
        all_goals
          go_wp2
          go_roundw
          case rel => exact ⟨j + 1, by omega, by go_num, HA2, HB2, HT2, HU2⟩
          case measure => (simp [intOf]; try omega)
      · have HE : Hid (false = z) := Lib.hid (by rw [← HZ.out, same_at (j := j) (by rw [HX.out, HY.out]; exact hq)])
        have hne := neq_item x y
        rw [neq_itemF hq] at hne
        clear hq HA
        go_wp2
        go_region
        all_goals
          go_wp2
          go_ret
          exact ⟨ret_boolv HE.out, HB2.out⟩
    · obtain rfl : j = A.length := by omega
      have HE : Hid (true = z) := Lib.hid (by rw [← HZ.out, same_all HL.out HA.out])
      go_wp2
      go_ret
      exact ⟨ret_boolv HE.out, HB.out⟩
set_option maxRecDepth 100000 in
set_option maxHeartbeats 2000000 in
theorem equalV_any (a : Option Addr) (c : Nat) (A : List ItemR) (a2 : Option Addr) (c2 : Nat) (B : List ItemR) (w : World) (h : (celRow cItem A).Rd w (.slice a A.length c)) (h2 : (celRow cItem B).Rd w (.slice a2 B.length c2)) (hn : A.length ≤ 100000000) (hn2 : B.length ≤ 100000000) :
    Calls Try.prog 43 #[.slice a A.length c, .slice a2 B.length c2] w (SaysB (decide (A = B)) w) := by
  have HS := Lib.hid h
  have HS2 := Lib.hid h2
  obtain ⟨z, hz⟩ : ∃ z, decide (A = B) = z := ⟨_, rfl⟩
  have HZ := Lib.hid hz
  rw [hz]
  clear h h2 hz
  by_cases hl : A.length = B.length
  case neg =>
    have HE : Hid (false = z) := Lib.hid (by rw [← HZ.out, same_len hl])
    have e0 : ((A.length : Int) == (B.length : Int)) = false := beq_eq_false_iff_ne.2 (by omega)
    go_enter Try.func43, Try.ntmps43
    go_wp2
    go_ret
    exact ⟨ret_boolv HE.out, Below.refl _ _⟩
  have HL := Lib.hid hl
  rw [← hl]
  clear hl hn2
  go_enter Try.func43, Try.ntmps43
  go_wp2
  go_loopw [13] (fun jv wr => ∃ j : Nat, j ≤ A.length ∧ jv = .int .i64 j ∧ Hid (∀ r, r < j → A.getD r default = B.getD r default) ∧ Hid (Below w.heap.size w wr)) (fun jv _ => A.length - (intOf jv).toNat)
  case atStart => exact ⟨0, Nat.zero_le _, rfl, Lib.hid (fun r hr => by omega), Lib.hid (Below.refl _ _)⟩
  case round =>
    obtain ⟨j, hj, rfl, HA, HB⟩ := hrel
    by_cases hjt : j < A.length
    · obtain ⟨g, off, rfl, hg, d0, d1, d2⟩ := cItem_at (Cel.Rd.later HB.out _ _ HS.out) j hjt
      obtain ⟨g2, off2, rfl, hg2, m0, m1, m2⟩ := cItem_at (Cel.Rd.later HB.out _ _ HS2.out) j (by rw [← HL.out]; exact hjt)
      obtain ⟨x, hx⟩ : ∃ x, A.getD j default = x := ⟨_, rfl⟩
      obtain ⟨y, hy⟩ : ∃ y, B.getD j default = y := ⟨_, rfl⟩
      rw [hx] at d0 d1 d2
      rw [hy] at m0 m1 m2
      have HX := Lib.hid hx
      have HY := Lib.hid hy
      have HB2 : Hid (Below w.heap.size w wr.drew) := Lib.hid HB.out.drew
      clear hx hy
      by_cases hq : x = y
      · have HA2 : Hid (∀ r, r < j + 1 → A.getD r default = B.getD r default) := Lib.hid (fun r hr => by
          by_cases e : r = j
          · subst e; rw [HX.out, HY.out]; exact hq
          · exact HA.out r (by omega))
        have hne := neq_item x y
        rw [neq_itemT hq] at hne
        clear hq HA
        go_wp2
        go_region
        all_goals
          go_wp2
          go_roundw
          case rel => exact ⟨j + 1, by omega, by go_num, HA2, HB2⟩
          case measure => (simp [intOf]; try omega)
      · have HE : Hid (false = z) := Lib.hid (by rw [← HZ.out, same_at (j := j) (by rw [HX.out, HY.out]; exact hq)])
        have hne := neq_item x y
        rw [neq_itemF hq] at hne
        clear hq HA
        go_wp2
        go_region
        all_goals
          go_wp2
          go_ret
          exact ⟨ret_boolv HE.out, HB2.out⟩
    · obtain rfl : j = A.length := by omega
      have HE : Hid (true = z) := Lib.hid (by rw [← HZ.out, same_all HL.out HA.out])
      go_wp2
      go_ret
      exact ⟨ret_boolv HE.out, HB.out⟩
set_option maxRecDepth 100000 in
set_option maxHeartbeats 2000000 in
theorem implSame_any (a : Option Addr) (c : Nat) (A : List ItemR) (a2 : Option Addr) (c2 : Nat) (B : List ItemR) (w : World) (h : (celRow cItem A).Rd w (.slice a A.length c)) (h2 : (celRow cItem B).Rd w (.slice a2 B.length c2)) (hn : A.length ≤ 100000000) (hn2 : B.length ≤ 100000000) :
    Calls Try.prog 19 #[.agg #[.slice a A.length c], .agg #[.slice a2 B.length c2]] w (SaysB (decide (A = B)) w) := by
  have hb1 := below_bk w (.cells #[.slice a A.length c] 26)
  have hb2 := below_bk (w.alloc (.cells #[.slice a A.length c] 26)) (.cells #[.slice a2 B.length c2] 26)
  have B0 := Lib.hid (hb1.trans (hb2.mono hb1.size))
  have T0 := Lib.hid ((Bk.alloc w #[.slice a A.length c] 26).later hb2)
  have U0 : Hid (Bk ((w.alloc (.cells #[.slice a A.length c] 26)).alloc (.cells #[.slice a2 B.length c2] 26)) (w.heap.size + 1) #[.slice a2 B.length c2] 26) := Lib.hid (by
    have h := Bk.alloc (w.alloc (.cells #[.slice a A.length c] 26)) #[.slice a2 B.length c2] 26
    simpa using h)
  have HS := Lib.hid h
  have HS2 := Lib.hid h2
  have t0 := T0.out.cell (j := 0) rfl
  have u0 := U0.out.cell (j := 0) rfl
  clear h h2 hb1 hb2
  go_enter Try.func19, Try.ntmps19
  go_wp2_with fail
  clear t0 u0
  refine (equalV_any a c A a2 c2 B _ (Cel.Rd.later B0.out _ _ HS.out) (Cel.Rd.later B0.out _ _ HS2.out) hn hn2).mono ?_
  rintro e w1 ⟨rfl, hb⟩
  have B1 : Hid (Below w.heap.size w w1) := Lib.hid (B0.out.trans (hb.mono B0.out.size))
  clear hb
  go_wp2
  go_ret
  exact ⟨rfl, B1.out⟩
end Go.Proofs.Ytkfkjcadmdcbnaa
