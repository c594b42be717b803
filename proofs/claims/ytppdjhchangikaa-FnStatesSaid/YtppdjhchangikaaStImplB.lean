/- The program's page states: FirstClean, WithState. -/
import Derived.Test.YtppdjhchangikaaStImpl
import Derived.Test.YtppdjhchangikaaOwnC
import Derived.Test.YtppdjhchangikaaIdxI
import Derived.ArgAppend
namespace Go.Proofs.Ytppdjhchangikaa
open Go.RowKit Go.Proofs.Ytppdjhchangikaa.Parts Go.Proofs.Ytppdjhchangikaa.Hexa

set_option maxRecDepth 100000 in
set_option maxHeartbeats 1000000 in
theorem implFirst_any (a : Option Addr) (n c : Nat) (zs : List Int) (q : Int) (w : World) (hs : SrcI w a n zs) (hn : n ≤ 2000000) :
    Calls Try.prog 19 #[.slice a n c, .int .i64 q] w (GivesCB (firstR zs q) (firstB zs q) w) := by
  have HL := Lib.hid hs.len
  have HS := Lib.hid hs
  clear hs
  go_enter Try.func19, Try.ntmps19
  go_wp2_with fail
  refine (implPagesWith_any a n c zs 0 _ HS.out hn).mono ?_
  rintro e w1 ⟨v, rfl, ho1, hb1⟩
  have hml := withSt_len zs 0 n
  obtain ⟨M, hM⟩ : ∃ M, withSt zs 0 n = M := ⟨_, rfl⟩
  rw [hM] at ho1 hml
  have HM : Hid (withSt zs 0 zs.length = M) := Lib.hid (by rw [HL.out]; exact hM)
  obtain ⟨m, hm⟩ : ∃ m, M.length = m := ⟨_, rfl⟩
  rw [hm] at ho1 hml
  obtain ⟨a1, c1, rfl, hmc, hcm, _⟩ := ownE_form ho1
  have X1 := Lib.hid ho1
  have B1 := Lib.hid hb1
  have HMM := Lib.hid hm
  clear hM hm ho1 hb1
  by_cases h : 0 ≤ q ∧ q ≤ (m : Int)
  · have HB : Hid (firstB zs q = true) := Lib.hid (by unfold firstB; rw [HM.out, HMM.out]; exact decide_eq_true h)
    obtain ⟨k, rfl⟩ : ∃ k : Nat, q = k := ⟨q.toNat, by omega⟩
    have hk : k ≤ m := by omega
    have HR : Hid (firstR zs (k : Int) = M.take k) := Lib.hid (by unfold firstR; rw [if_pos HB.out, HM.out]; rfl)
    have hkc : k ≤ c1 := by omega
    have hc63 : c1 ≤ 9223372036854775807 := Nat.le_trans hcm (by decide)
    have HTL : Hid ((M.take k).length = k) := Lib.hid (by rw [List.length_take, HMM.out]; omega)
    have HX : Hid (OwnC w1 w.heap.size (.slice a1 k k) k (icells (M.take k))) := Lib.hid ⟨a1, k, c1, rfl, by rw [icells_length, HTL.out], Nat.le_refl _, by have : maxLen = 9223372036854775807 := rfl; omega, by
      rcases Nat.eq_zero_or_pos k with h0 | h0
      · exact .inl h0
      · refine .inr ?_
        obtain ⟨hl9, h9⟩ := X1.out
        rcases h9 with ⟨e, h9⟩ | ⟨g, cap, cur, e, hg, hh, hnc, hcm9, hcs, htk⟩
        · omega
        · cases e
          refine ⟨by rw [icells_length, HTL.out, Nat.mul_one], .inr ⟨g, c1, cur, rfl, hg, hh, hkc, hcm9, hcs, ?_⟩⟩
          rw [show icells (M.take k) = (icells M).take k by simp [icells], ← htk, List.take_take]
          congr 1; omega⟩
    go_wp2_with fail
    refine (implIn_yes _ h).mono ?_
    rintro e w2 ⟨rfl, rfl⟩
    clear h
    go_wp2
    rw [HR.out, HB.out]
    refine bodyPost_ret (v := .tuple #[.slice a1 k k, .bool true]) ?_ rfl ⟨_, rfl, by rw [HTL.out]; exact HX.out, B1.out⟩
    simp [results, Try.results19, go_sem]
  · have HB : Hid (firstB zs q = false) := Lib.hid (by unfold firstB; rw [HM.out, HMM.out]; exact decide_eq_false h)
    have HR : Hid (firstR zs q = []) := Lib.hid (by unfold firstR; rw [HB.out]; rfl)
    go_wp2_with fail
    refine (implIn_no _ h).mono ?_
    rintro e w2 ⟨rfl, rfl⟩
    clear h
    go_wp2
    rw [HR.out, HB.out]
    refine bodyPost_ret (v := .tuple #[.slice none 0 0, .bool false]) ?_ rfl ⟨_, rfl, ownC_nil none (Nat.zero_le _), B1.out⟩
    simp [results, Try.results19, go_sem]

theorem setAll_nil (ps : List Int) (s : Int) : setAll [] ps s = [] := List.length_eq_zero_iff.1 (by rw [setAll_len]; rfl)

set_option maxRecDepth 100000 in
set_option maxHeartbeats 1000000 in
theorem implWithSt_none (a a2 : Option Addr) (c n2 c2 : Nat) (ps : List Int) (s : Int) (w : World) (hc : c ≤ 9223372036854775807) (hs2 : SrcI w a2 n2 ps) (hn2 : n2 ≤ 2000000) :
    Calls Try.prog 12 #[.slice a 0 c, .slice a2 n2 c2, .int .i64 s] w (GivesC (setAll [] ps s) w) := by
  obtain ⟨i0, hi, hz0, hz1, hz2⟩ := info_parts infoInt
  have HS2 := Lib.hid hs2
  clear hs2
  rw [setAll_nil]
  have HAPP : Hid ((Builtin.append_ #[24, 24] 24 #[.slice a 0 0, .slice a 0 c]).run Try.prog w = .ok (.slice a 0 0) w) := Lib.hid (by
    cases a <;> simp [Builtin.append_, run_underlying Try.underlying24, sizeOf, typeInfo, hi, Builtin.lenOf, Builtin.firstCells, loadCells, loadCellsFrom, storeCells])
  go_enter Try.func12, Try.ntmps12
  cases a with
  | none =>
    go_wp2_with (at_builtin; refine Lib.wpList_append_run _ rfl (.tmp 11) (.tmp 12) 24 24 rfl (.slice none 0 0) (.slice none 0 c) rfl rfl _ _ HAPP.out ?_)
    go_loopw [16] (fun iv wr => ∃ k : Nat, k ≤ n2 ∧ iv = .int .i64 k ∧ wr = w) (fun iv _ => n2 - (intOf iv).toNat)
    case atStart => exact ⟨0, Nat.zero_le _, rfl, rfl⟩
    case round =>
      obtain ⟨k, hk, rfl, rfl⟩ := hrel
      by_cases hlt : k < n2
      · obtain ⟨g, off, rfl, hg, d⟩ := HS2.out.cell k hlt
        obtain ⟨x, hx⟩ : ∃ x, ps.getD k 0 = x := ⟨_, rfl⟩
        rw [hx] at d
        clear hx
        have h : ¬ (0 ≤ x ∧ x < (0 : Int)) := by omega
        go_wp2_with fail
        refine (implIdx_no _ h).mono ?_
        rintro e w2 ⟨rfl, rfl⟩
        clear h
        go_wp2
        go_roundw
        case rel => exact ⟨k + 1, by omega, by go_num, by trivial⟩
        case measure => (simp [intOf]; try omega)
      · obtain rfl : n2 = k := by omega
        go_wp2
        go_ret
        exact ⟨_, rfl, ownC_nil none (Nat.zero_le _), Below.refl _ _⟩
  | some p =>
    obtain ⟨b, off, spot⟩ := p
    go_wp2_with (at_builtin; refine Lib.wpList_append_run _ rfl (.tmp 11) (.tmp 12) 24 24 rfl (.slice (some ⟨b, off, spot⟩) 0 0) (.slice (some ⟨b, off, spot⟩) 0 c) rfl rfl _ _ HAPP.out ?_)
    go_loopw [16] (fun iv wr => ∃ k : Nat, k ≤ n2 ∧ iv = .int .i64 k ∧ wr = w) (fun iv _ => n2 - (intOf iv).toNat)
    case atStart => exact ⟨0, Nat.zero_le _, rfl, rfl⟩
    case round =>
      obtain ⟨k, hk, rfl, rfl⟩ := hrel
      by_cases hlt : k < n2
      · obtain ⟨g, off, rfl, hg, d⟩ := HS2.out.cell k hlt
        obtain ⟨x, hx⟩ : ∃ x, ps.getD k 0 = x := ⟨_, rfl⟩
        rw [hx] at d
        clear hx
        have h : ¬ (0 ≤ x ∧ x < (0 : Int)) := by omega
        go_wp2_with fail
        refine (implIdx_no _ h).mono ?_
        rintro e w2 ⟨rfl, rfl⟩
        clear h
        go_wp2
        go_roundw
        case rel => exact ⟨k + 1, by omega, by go_num, by trivial⟩
        case measure => (simp [intOf]; try omega)
      · obtain rfl : n2 = k := by omega
        go_wp2
        go_ret
        exact ⟨_, rfl, ownC_nil _ (Nat.zero_le _), Below.refl _ _⟩

set_option maxRecDepth 100000 in
set_option maxHeartbeats 1000000 in
theorem implWithSt_some (a a2 : Option Addr) (n c n2 c2 : Nat) (zs ps : List Int) (s : Int) (w : World) (h0 : 0 < n) (_hc : c ≤ 9223372036854775807) (hnc0 : n ≤ c) (hs : SrcI w a n zs) (hs2 : SrcI w a2 n2 ps) (hn : n ≤ 2000000) (hn2 : n2 ≤ 2000000) :
    Calls Try.prog 12 #[.slice a n c, .slice a2 n2 c2, .int .i64 s] w (GivesC (setAll zs ps s) w) := by
  obtain ⟨i0, hi, hz0, hz1, hz2⟩ := info_parts infoInt
  have HL := Lib.hid hs.len
  have HL2 := Lib.hid hs2.len
  have HS2 := Lib.hid hs2
  obtain ⟨b, off, rfl, _, _⟩ := hs.cell 0 h0
  have HAPP := Lib.hid (run_append_arg_grows (P := Try.prog) w 24 24 3 i0 (.int .i64 0) 1 8 Try.underlying24 hi hz0 hz1 hz2 rfl (by decide) ⟨b, off, none⟩ 0 0 [] rfl (fun j u h => by cases h) ⟨b, off, none⟩ n c (icells zs) (by rw [icells_length, hs.len, Nat.mul_one]) (by rw [← cellsI_eq]; exact (srcE_of_srcI hs).news (by decide)) (by omega) (by unfold maxLen; omega) (by omega))
  obtain ⟨v1, w1, hrun, hown1, hgrow1⟩ := HAPP.out
  rw [Nat.zero_add, List.nil_append] at hown1
  obtain ⟨a1, c1, rfl, hnc, hcm1, _⟩ := ownE_form hown1
  have HRUN := Lib.hid hrun
  have HO1 := Lib.hid hown1
  have B1 : Hid (Below w.heap.size w w1) := Lib.hid ((Below.refl _ _).grown hgrow1 (Nat.le_refl _) (fun k e => by cases e))
  have hc163 : c1 ≤ 9223372036854775807 := Nat.le_trans hcm1 (by decide)
  clear hs hs2 HAPP hrun hown1 hgrow1
  go_enter Try.func12, Try.ntmps12
  go_wp2_with (at_builtin; refine Lib.wpList_append_run _ rfl (.tmp 11) (.tmp 12) 24 24 rfl (.slice (some ⟨b, off, none⟩) 0 0) (.slice (some ⟨b, off, none⟩) n c) rfl rfl _ _ HRUN.out ?_)
  go_loopw [16] (fun iv wr => ∃ k : Nat, k ≤ n2 ∧ iv = .int .i64 k ∧ Hid (wr.ownsRow w.heap.size 3 1 (.slice a1 n c1) n (icells (setAll zs (ps.take k) s))) ∧ Hid (Below w.heap.size w wr)) (fun iv _ => n2 - (intOf iv).toNat)
  case atStart => exact ⟨0, Nat.zero_le _, rfl, HO1, B1⟩
  case round =>
    obtain ⟨k, hk, rfl, HO, HB⟩ := hrel
    clear HO1 B1 HRUN
    by_cases hlt : k < n2
    · obtain ⟨g, off, rfl, hg, d⟩ := HS2.out.cell k hlt
      have d0 : wr.cell? ⟨g, off + k, none⟩ = some (.int .i64 (ps.getD k 0)) := by rw [HB.out.cell hg]; exact d
      have HE := Lib.hid (setAll_succ (L := zs) (ps := ps) (s := s) (k := k) (by have := HL2.out; omega))
      obtain ⟨x, hx⟩ : ∃ x, ps.getD k 0 = x := ⟨_, rfl⟩
      rw [hx] at d0 HE
      clear hx d
      have HLEN : Hid ((setAll zs (ps.take k) s).length = n) := Lib.hid (by rw [setAll_len]; exact HL.out)
      obtain ⟨L, hLL⟩ : ∃ L, setAll zs (ps.take k) s = L := ⟨_, rfl⟩
      rw [hLL] at HE HLEN HO
      clear hLL
      by_cases h : 0 ≤ x ∧ x < (n : Int)
      · have HE2 : Hid (setAll zs (ps.take (k + 1)) s = L.set x.toNat s) := Lib.hid (by rw [HE.out]; unfold setSt; rw [if_pos (by rw [HLEN.out]; omega)])
        obtain ⟨j, rfl⟩ : ∃ j : Nat, x = j := ⟨x.toNat, by omega⟩
        have hj : j < n := by omega
        cases a1 with
        | none => exact absurd hj (by
            rcases HO.out.2 with ⟨e, _⟩ | ⟨_, _, _, e, _⟩
            · cases e; omega
            · cases e)
        | some p =>
          obtain ⟨_, _, e9, _, _, hp9⟩ := ownE_form HO.out
          obtain ⟨g1, rfl, hg1, _⟩ := hp9 p (by cases e9; rfl)
          obtain ⟨u, hu⟩ := ownE_cell HO.out (j := j) (by omega)
          have hfr := HO.out.frozenAt j
          have HO2 : Hid ((wr.setCell ⟨g1, j, none⟩ (.int .i64 s)).ownsRow w.heap.size 3 1 (.slice (some ⟨g1, 0, none⟩) n c1) n (icells (setAll zs (ps.take (k + 1)) s))) := Lib.hid (by
            have h9 := (HO.out.stored j (.int .i64 s)).1
            rw [HE2.out, show icells (L.set ((j : Int).toNat) s) = (icells L).set j (.int .i64 s) by simp [icells]]
            exact h9)
          have HB2 : Hid (Below w.heap.size w (wr.setCell ⟨g1, j, none⟩ (.int .i64 s))) := Lib.hid (HB.out.setCell (by show w.heap.size ≤ g1; omega) _)
          clear e9 hp9 HE HE2
          go_wp2_with fail
          refine (implIdx_yes _ h).mono ?_
          rintro e w2 ⟨rfl, rfl⟩
          clear h
          go_wp2
          go_roundw
          case rel => exact ⟨k + 1, by omega, by go_num, HO2, HB2⟩
          case measure => (simp [intOf]; try omega)
      · have HE2 : Hid (setAll zs (ps.take (k + 1)) s = L) := Lib.hid (by rw [HE.out]; unfold setSt; rw [if_neg (by rw [HLEN.out]; omega)])
        go_wp2_with fail
        refine (implIdx_no _ h).mono ?_
        rintro e w2 ⟨rfl, rfl⟩
        clear h
        go_wp2
        go_roundw
        case rel => exact ⟨k + 1, by omega, by go_num, by rw [HE2.out]; exact HO, HB⟩
        case measure => (simp [intOf]; try omega)
    · obtain rfl : n2 = k := by omega
      have HT : Hid (ps.take n2 = ps) := Lib.hid (by rw [← HL2.out, List.take_length])
      go_wp2
      go_ret
      refine ⟨_, rfl, ?_, HB.out⟩
      rw [setAll_len, HL.out]
      have h9 := HO.out
      rw [HT.out] at h9
      exact ownC_of_own h9

theorem implWithSt_any (a a2 : Option Addr) (n c n2 c2 : Nat) (zs ps : List Int) (s : Int) (w : World) (hc : c ≤ 9223372036854775807) (hnc : n ≤ c) (hs : SrcI w a n zs) (hs2 : SrcI w a2 n2 ps) (hn : n ≤ 2000000) (hn2 : n2 ≤ 2000000) :
    Calls Try.prog 12 #[.slice a n c, .slice a2 n2 c2, .int .i64 s] w (GivesC (setAll zs ps s) w) := by
  rcases Nat.eq_zero_or_pos n with rfl | h0
  · obtain rfl : zs = [] := List.length_eq_zero_iff.1 hs.len
    exact implWithSt_none a a2 c n2 c2 ps s w hc hs2 hn2
  · exact implWithSt_some a a2 n c n2 c2 zs ps s w h0 hc hnc hs hs2 hn hn2
end Go.Proofs.Ytppdjhchangikaa
