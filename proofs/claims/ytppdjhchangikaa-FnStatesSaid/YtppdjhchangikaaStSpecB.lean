/- The model's page states: FirstClean, WithState. -/
import Derived.Test.YtppdjhchangikaaStSpec
import Derived.Test.YtppdjhchangikaaAppIs
namespace Go.Proofs.Ytppdjhchangikaa
open Go.RowKit Go.Proofs.Ytppdjhchangikaa.Parts Go.Proofs.Ytppdjhchangikaa.Hexa

/-- Some slice of ints of the call's own, and whether there is one. -/
def GivesIB (P : List Int) (b : Bool) (w : World) (e : Ending) (w' : World) : Prop :=
  ∃ v, e = .returned (.tuple #[v, .bool b]) ∧ w'.ownsRow w.heap.size 3 1 v P.length (icells P) ∧ Below w.heap.size w w'
def firstB (zs : List Int) (q : Int) : Bool := decide (0 ≤ q ∧ q ≤ ((withSt zs 0 zs.length).length : Int))
def firstR (zs : List Int) (q : Int) : List Int := if firstB zs q = true then (withSt zs 0 zs.length).take q.toNat else []
/-- One place set, if it is there. -/
def setSt (L : List Int) (p s : Int) : List Int := if 0 ≤ p ∧ p ≤ (L.length : Int) - 1 then L.set p.toNat s else L
theorem setSt_len (L : List Int) (p s : Int) : (setSt L p s).length = L.length := by unfold setSt; split <;> simp
def setAll (L ps : List Int) (s : Int) : List Int := ps.foldl (fun L p => setSt L p s) L
theorem setAll_len (L ps : List Int) (s : Int) : (setAll L ps s).length = L.length := by
  unfold setAll
  induction ps generalizing L with
  | nil => rfl
  | cons p r ih => rw [List.foldl_cons, ih, setSt_len]
theorem setAll_succ {L ps : List Int} {s : Int} {k : Nat} (h : k < ps.length) : setAll L (ps.take (k + 1)) s = setSt (setAll L (ps.take k) s) (ps.getD k 0) s := by
  unfold setAll
  rw [List.take_succ_eq_append_getElem h, List.foldl_append]
  simp [List.getD, h]

set_option maxRecDepth 100000 in
set_option maxHeartbeats 1000000 in
theorem specFirst_any (a : Option Addr) (n c : Nat) (zs : List Int) (q : Int) (w : World) (hs : SrcI w a n zs) (hn : n ≤ 2000000) :
    Calls Try.prog 33 #[.slice a n c, .int .i64 q] w (GivesIB (firstR zs q) (firstB zs q) w) := by
  have HL := Lib.hid hs.len
  have HS := Lib.hid hs
  clear hs
  go_enter Try.func33, Try.ntmps33
  go_wp2_with fail
  refine (specPagesWith_any a n c zs 0 _ HS.out hn).mono ?_
  rintro e w1 ⟨v, rfl, ho1, hb1⟩
  have hml := withSt_len zs 0 n
  obtain ⟨M, hM⟩ : ∃ M, withSt zs 0 n = M := ⟨_, rfl⟩
  rw [hM] at ho1 hml
  have HM : Hid (withSt zs 0 zs.length = M) := Lib.hid (by rw [HL.out]; exact hM)
  obtain ⟨m, hm⟩ : ∃ m, M.length = m := ⟨_, rfl⟩
  rw [hm] at ho1 hml
  obtain ⟨a1, c1, rfl, hmc, hcm, _⟩ := ownE_form ho1
  have X1 : Hid (SrcI w1 a1 m M) := Lib.hid (srcI_of_own ho1)
  have B1 := Lib.hid hb1
  have HMM := Lib.hid hm
  clear hM hm ho1 hb1
  by_cases h : 0 ≤ q ∧ q ≤ (m : Int)
  · have HB : Hid (firstB zs q = true) := Lib.hid (by unfold firstB; rw [HM.out, HMM.out]; exact decide_eq_true h)
    obtain ⟨k, rfl⟩ : ∃ k : Nat, q = k := ⟨q.toNat, by omega⟩
    have hk : k ≤ m := by omega
    have HR : Hid (firstR zs (k : Int) = M.take k) := Lib.hid (by unfold firstR; rw [if_pos HB.out, HM.out]; rfl)
    have hkc : k ≤ c1 := by omega
    have hc63 : c1 ≤ 9223372036854775807 := Nat.le_trans hcm (by decide)
    have HTL : Hid ((M.take k).length = k) := Lib.hid (by rw [List.length_take, HMM.out]; omega)
    have HAPP := Lib.hid (appIs (w1.alloc (.cells #[] 3)) 24 w.heap.size _ 0 [] (emptyI w1 w.heap.size B1.out.size) (by have := B1.out.size; simp; omega) a1 k c1 (M.take k) ((srcI_take X1.out hk).later ((Below.refl _ _).alloc (Nat.le_refl _) _)) (by omega))
    go_wp2_with fail
    refine (range_yes _ h).mono ?_
    rintro e w2 ⟨rfl, rfl⟩
    clear h
    go_wp2_with (at_builtin; refine wpList_appE rfl (.tmp 15) (.tmp 18) 24 24 rfl (.slice (some ⟨w2.heap.size, 0, none⟩) 0 0) (.slice a1 k c1) rfl rfl HAPP.out ?_; intro v3 w3 hown3 hgrow3 hat3)
    have HO3 : Hid (w3.ownsRow w.heap.size 3 1 v3 (M.take k).length (icells (M.take k))) := Lib.hid (by rw [HTL.out]; simpa using hown3)
    have B3 : Hid (Below w.heap.size w w3) := Lib.hid ((B1.out.alloc B1.out.size _).grown hgrow3 (by have := B1.out.size; simp; omega) (fun k e => by simp [Value.ownBlock] at e; have := B1.out.size; omega))
    clear hown3 hgrow3 hat3 HAPP
    go_wp2
    rw [HR.out, HB.out]
    refine bodyPost_ret (v := .tuple #[v3, .bool true]) ?_ rfl ⟨_, rfl, HO3.out, B3.out⟩
    simp [results, Try.results33, go_sem]
  · have HB : Hid (firstB zs q = false) := Lib.hid (by unfold firstB; rw [HM.out, HMM.out]; exact decide_eq_false h)
    have HR : Hid (firstR zs q = []) := Lib.hid (by unfold firstR; rw [HB.out]; rfl)
    have HO : Hid ((w1.alloc (.cells #[] 3)).ownsRow w.heap.size 3 1 (.slice (some ⟨w1.heap.size, 0, none⟩) 0 0) 0 (icells [])) := Lib.hid (emptyI w1 w.heap.size B1.out.size)
    have B3 : Hid (Below w.heap.size w (w1.alloc (.cells #[] 3))) := Lib.hid (B1.out.alloc B1.out.size _)
    go_wp2_with fail
    refine (range_no _ h).mono ?_
    rintro e w2 ⟨rfl, rfl⟩
    clear h
    go_wp2
    rw [HR.out, HB.out]
    refine bodyPost_ret (v := .tuple #[.slice (some ⟨w2.heap.size, 0, none⟩) 0 0, .bool false]) ?_ rfl ⟨_, rfl, HO.out, B3.out⟩
    simp [results, Try.results33, go_sem]

set_option maxRecDepth 100000 in
set_option maxHeartbeats 1000000 in
theorem specWithSt_any (a a2 : Option Addr) (n c n2 c2 : Nat) (zs ps : List Int) (s : Int) (w : World) (hs : SrcI w a n zs) (hs2 : SrcI w a2 n2 ps) (hn : n ≤ 2000000) (hn2 : n2 ≤ 2000000) :
    Calls Try.prog 14 #[.slice a n c, .slice a2 n2 c2, .int .i64 s] w (GivesI (setAll zs ps s) w) := by
  have HL := Lib.hid hs.len
  have HL2 := Lib.hid hs2.len
  have HS2 := Lib.hid hs2
  have B0 := Lib.hid ((Below.refl w.heap.size w).alloc (Nat.le_refl _) (.cells #[] 3))
  have HAPP := Lib.hid (appIs (w.alloc (.cells #[] 3)) 24 w.heap.size _ 0 [] (emptyI w w.heap.size (Nat.le_refl _)) (by simp) a n c zs (hs.later ((Below.refl _ _).alloc (Nat.le_refl _) _)) (by omega))
  clear hs hs2
  go_enter Try.func14, Try.ntmps14
  go_wp2_with (at_builtin; refine wpList_appE rfl (.tmp 9) (.tmp 10) 24 24 rfl (.slice (some ⟨w.heap.size, 0, none⟩) 0 0) (.slice a n c) rfl rfl HAPP.out ?_; intro v1 w1 hown1 hgrow1 hat1)
  rw [Nat.zero_add] at hown1
  obtain ⟨a1, c1, rfl, hnc, _, hpa⟩ := ownE_form hown1
  have HO1 : Hid (w1.ownsRow w.heap.size 3 1 (.slice a1 n c1) n (icells zs)) := Lib.hid (by simpa using hown1)
  have B1 : Hid (Below w.heap.size w w1) := Lib.hid (B0.out.grown hgrow1 (by simp) (fun k e => by simp [Value.ownBlock] at e; omega))
  clear hown1 hgrow1 hat1 HAPP hpa
  go_wp2
  go_loopw [8] (fun iv wr => ∃ k : Nat, k ≤ n2 ∧ iv = .int .i64 k ∧ Hid (wr.ownsRow w.heap.size 3 1 (.slice a1 n c1) n (icells (setAll zs (ps.take k) s))) ∧ Hid (Below w.heap.size w wr)) (fun iv _ => n2 - (intOf iv).toNat)
  case atStart => exact ⟨0, Nat.zero_le _, rfl, HO1, B1⟩
  case round =>
    obtain ⟨k, hk, rfl, HO, HB⟩ := hrel
    clear HO1 B1
    by_cases hlt : k < n2
    · obtain ⟨g, off, rfl, hg, d⟩ := HS2.out.cell k hlt
      have d0 : wr.cell? ⟨g, off + k, none⟩ = some (.int .i64 (ps.getD k 0)) := by rw [HB.out.cell hg]; exact d
      have HE := Lib.hid (setAll_succ (L := zs) (ps := ps) (s := s) (k := k) (by have := HL2.out; omega))
      obtain ⟨x, hx⟩ : ∃ x, ps.getD k 0 = x := ⟨_, rfl⟩
      rw [hx] at d0 HE
      clear hx d
      have HLEN : Hid ((setAll zs (ps.take k) s).length = n) := Lib.hid (by rw [setAll_len]; exact HL.out)
      obtain ⟨L, hLL⟩ : ∃ L, setAll zs (ps.take k) s = L := ⟨_, rfl⟩
      rw [hLL] at HE HLEN HO
      clear hLL
      have hw1 : IntKind.i64.wrap ((n : Int) - 1) = (n : Int) - 1 := IntWalk.i64_in _ (by omega)
      by_cases h : 0 ≤ x ∧ x ≤ (n : Int) - 1
      · have HE2 : Hid (setAll zs (ps.take (k + 1)) s = L.set x.toNat s) := Lib.hid (by rw [HE.out]; unfold setSt; rw [if_pos (by rw [HLEN.out]; exact h)])
        obtain ⟨j, rfl⟩ : ∃ j : Nat, x = j := ⟨x.toNat, by omega⟩
        have hj : j < n := by omega
        cases a1 with
        | none => exact absurd hj (by
            rcases HO.out.2 with ⟨e, _⟩ | ⟨_, _, _, e, _⟩
            · cases e; omega
            · cases e)
        | some p =>
          obtain ⟨_, _, e9, _, _, hp9⟩ := ownE_form HO.out
          obtain ⟨g1, rfl, hg1, _⟩ := hp9 p (by cases e9; rfl)
          obtain ⟨u, hu⟩ := ownE_cell HO.out (j := j) (by omega)
          have hfr := HO.out.frozenAt j
          have HO2 : Hid ((wr.setCell ⟨g1, j, none⟩ (.int .i64 s)).ownsRow w.heap.size 3 1 (.slice (some ⟨g1, 0, none⟩) n c1) n (icells (setAll zs (ps.take (k + 1)) s))) := Lib.hid (by
            have h9 := (HO.out.stored j (.int .i64 s)).1
            rw [HE2.out, show icells (L.set ((j : Int).toNat) s) = (icells L).set j (.int .i64 s) by simp [icells]]
            exact h9)
          have HB2 : Hid (Below w.heap.size w (wr.setCell ⟨g1, j, none⟩ (.int .i64 s))) := Lib.hid (HB.out.setCell (by show w.heap.size ≤ g1; omega) _)
          clear e9 hp9 HE HE2
          go_wp2_with fail
          refine (range_yes _ h).mono ?_
          rintro e w2 ⟨rfl, rfl⟩
          clear h
          go_wp2
          go_roundw
          case rel => exact ⟨k + 1, by omega, by go_num, HO2, HB2⟩
          case measure => (simp [intOf]; try omega)
      · have HE2 : Hid (setAll zs (ps.take (k + 1)) s = L) := Lib.hid (by rw [HE.out]; unfold setSt; rw [if_neg (by rw [HLEN.out]; exact h)])
        go_wp2_with fail
        refine (range_no _ h).mono ?_
        rintro e w2 ⟨rfl, rfl⟩
        clear h
        go_wp2
        go_roundw
        case rel => exact ⟨k + 1, by omega, by go_num, Lib.hid (by rw [HE2.out]; exact HO.out), HB⟩
        case measure => (simp [intOf]; try omega)
    · obtain rfl : n2 = k := by omega
      have HF : Hid (setAll zs (ps.take n2) s = setAll zs ps s) := Lib.hid (by rw [← HL2.out, List.take_length])
      have HLEN : Hid ((setAll zs ps s).length = n) := Lib.hid (by rw [setAll_len]; exact HL.out)
      go_wp2
      go_ret
      exact ⟨_, rfl, by rw [HLEN.out, ← HF.out]; exact HO.out, HB.out⟩
end Go.Proofs.Ytppdjhchangikaa
