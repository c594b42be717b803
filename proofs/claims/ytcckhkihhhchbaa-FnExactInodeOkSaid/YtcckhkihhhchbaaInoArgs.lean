/- Inodes that come in: measured, copied. -/
import Derived.Test.YtcckhkihhhchbaaInoSpecA
import Derived.Test.YtcckhkihhhchbaaRecB
import Derived.Test.YtcckhkihhhchbaaEntryB
namespace Go.Proofs.Ytcckhkihhhchbaa
open Go.RowKit Go.Proofs.Ytcckhkihhhchbaa.Parts Go.Proofs.Ytcckhkihhhchbaa.Hexa

set_option maxRecDepth 100000 in
set_option maxHeartbeats 1000000 in
theorem szIno_any (kd sz gn : Int) (key : ByteArray) (aR : Option Addr) (nR cR : Nat) (aE : Option Addr) (nE cE : Nat) (R : List RecR) (E : List EntryR) (w : World)
    (hk : key.size ≤ maxLen) (hs : SrcRec w aR nR R) (hn : nR ≤ 9223372036854775807) (hm : FitRec R nR maxLen) (hs' : SrcEntry w aE nE E) (hn' : nE ≤ 9223372036854775807) (hm' : FitEntry E nE maxLen) :
    Calls Try.prog 25 #[.agg #[.int .i64 kd, .int .i64 sz, .int .i64 gn, .string key, .slice aR nR cR, .slice aE nE cE], .int .i64 1048576] w fun e w' =>
      ∃ r, e = .returned (.int .i64 r) ∧ (r < 0 ∨ (0 ≤ r ∧ key.size ≤ 1048576 ∧ nR ≤ 1048576 ∧ FitRec R nR 1048576 ∧ nE ≤ 1048576 ∧ FitEntry E nE 1048576)) ∧ Below w.heap.size w w' := by
  have B0 := Lib.hid (below_bk w (.cells #[.int .i64 kd, .int .i64 sz, .int .i64 gn, .string key, .slice aR nR cR, .slice aE nE cE] 45))
  have T0 := Lib.hid (Bk.alloc w #[.int .i64 kd, .int .i64 sz, .int .i64 gn, .string key, .slice aR nR cR, .slice aE nE cE] 45)
  have HS := Lib.hid hs
  have HS' := Lib.hid hs'
  have HM := Lib.hid hm
  have HM' := Lib.hid hm'
  have HN := Lib.hid hn
  have HN' := Lib.hid hn'
  unfold maxLen at hk
  clear hs hs' hm hm' hn hn'
  by_cases h1 : (1048576 : Int) - (key.size : Int) < 0
  · go_enter Try.func25, Try.ntmps25
    go_wp2
    go_ret
    exact ⟨-1, rfl, .inl (by omega), B0.out⟩
  · obtain ⟨l, hl⟩ : ∃ l : Int, (1048576 : Int) - (key.size : Int) = l := ⟨_, rfl⟩
    have HL := Lib.hid hl
    have hl0 : 0 ≤ l := by omega
    have hl1 : l ≤ 1048576 := by omega
    clear h1 hk
    go_enter Try.func25, Try.ntmps25
    go_wp2_with fail
    refine (szRecs_any aR nR cR R l _ hl0 hl1 (HS.out.later B0.out) HN.out HM.out).mono ?_
    rintro e w1 ⟨r, rfl, hr | ⟨hr0, hr1, hr2, hr3⟩, hb1⟩
    · have B1 : Hid (Below w.heap.size w w1) := Lib.hid (B0.out.trans (hb1.mono B0.out.size))
      clear hb1
      go_wp2
      go_ret
      exact ⟨-1, rfl, .inl (by omega), B1.out⟩
    · have B1 : Hid (Below w.heap.size w w1) := Lib.hid (B0.out.trans (hb1.mono B0.out.size))
      have T1 := Lib.hid (T0.out.later hb1)
      have c5 := T1.out.cell (j := 5) rfl
      have hr : ¬ (r < 0) := by omega
      have HR2 := Lib.hid hr2
      have HR3 := Lib.hid hr3
      clear hb1 hr2 hr3 hl
      go_wp2_with fail
      refine (szEntrys_any aE nE cE E r _ hr0 (by omega) (HS'.out.later B1.out) HN'.out HM'.out).mono ?_
      rintro e w2 ⟨r2, rfl, hq | ⟨hq0, hq1, hq2, hq3⟩, hb2⟩
      · have B2 : Hid (Below w.heap.size w w2) := Lib.hid (B1.out.trans (hb2.mono B1.out.size))
        clear hb2
        go_wp2
        go_ret
        exact ⟨-1, rfl, .inl (by omega), B2.out⟩
      · have B2 : Hid (Below w.heap.size w w2) := Lib.hid (B1.out.trans (hb2.mono B1.out.size))
        have hq : ¬ (r2 < 0) := by omega
        have HQ2 := Lib.hid hq2
        have HQ3 := Lib.hid hq3
        clear hb2 hq2 hq3
        go_wp2
        go_ret
        exact ⟨r2, rfl, .inr ⟨by omega, by have := HL.out; omega, HR2.out, HR3.out, HQ2.out, HQ3.out⟩, B2.out⟩

/-- What the copy returns. -/
def CopyIno (kd sz gn : Int) (key : ByteArray) (nR nE : Nat) (R : List RecR) (E : List EntryR) (w : World) (e : Ending) (w' : World) : Prop :=
  ∃ gR gE, e = .returned (.agg #[.int .i64 kd, .int .i64 sz, .int .i64 gn, .string key, .slice (some ⟨gR, 0, none⟩) nR nR, .slice (some ⟨gE, 0, none⟩) nE nE]) ∧ w.heap.size ≤ gR ∧ gR < gE ∧ gE < w'.heap.size
    ∧ w'.ownsRow w.heap.size 27 3 (.slice (some ⟨gR, 0, none⟩) nR nR) nR (cellsE encRec R) ∧ w'.ownsRow w.heap.size 37 2 (.slice (some ⟨gE, 0, none⟩) nE nE) nE (cellsE encEntry E) ∧ Below w.heap.size w w'

set_option maxRecDepth 100000 in
set_option maxHeartbeats 1000000 in
theorem toIno_any (kd sz gn : Int) (key : ByteArray) (aR : Option Addr) (nR cR : Nat) (aE : Option Addr) (nE cE : Nat) (R : List RecR) (E : List EntryR) (w : World)
    (hs : SrcRec w aR nR R) (hn : nR ≤ 1048576) (hs' : SrcEntry w aE nE E) (hn' : nE ≤ 1048576) :
    Calls Try.prog 27 #[.agg #[.int .i64 kd, .int .i64 sz, .int .i64 gn, .string key, .slice aR nR cR, .slice aE nE cE]] w (CopyIno kd sz gn key nR nE R E w) := by
  have B0 := Lib.hid (below_bk w (.cells #[.int .i64 kd, .int .i64 sz, .int .i64 gn, .string key, .slice aR nR cR, .slice aE nE cE] 45))
  have HS := Lib.hid hs
  have HS' := Lib.hid hs'
  clear hs hs'
  go_enter Try.func27, Try.ntmps27
  go_wp2_with fail
  have hb1 := below_bk (w.alloc (.cells #[.int .i64 kd, .int .i64 sz, .int .i64 gn, .string key, .slice aR nR cR, .slice aE nE cE] 45)) (.cells #[.int .i64 0, .int .i64 0, .int .i64 0, .string ⟨#[]⟩, .slice none 0 0, .slice none 0 0] 51)
  have hb2 := below_bk ((w.alloc (.cells #[.int .i64 kd, .int .i64 sz, .int .i64 gn, .string key, .slice aR nR cR, .slice aE nE cE] 45)).alloc (.cells #[.int .i64 0, .int .i64 0, .int .i64 0, .string ⟨#[]⟩, .slice none 0 0, .slice none 0 0] 51)) (.cells #[.int .i64 kd, .int .i64 sz, .int .i64 gn, .string key, .slice none 0 0, .slice none 0 0] 51)
  have T3 := Lib.hid (((Bk.alloc w #[.int .i64 kd, .int .i64 sz, .int .i64 gn, .string key, .slice aR nR cR, .slice aE nE cE] 45).later hb1).later hb2)
  have Z3 : Hid (Bk (((w.alloc (.cells #[.int .i64 kd, .int .i64 sz, .int .i64 gn, .string key, .slice aR nR cR, .slice aE nE cE] 45)).alloc (.cells #[.int .i64 0, .int .i64 0, .int .i64 0, .string ⟨#[]⟩, .slice none 0 0, .slice none 0 0] 51)).alloc (.cells #[.int .i64 kd, .int .i64 sz, .int .i64 gn, .string key, .slice none 0 0, .slice none 0 0] 51)) (w.heap.size + 1) #[.int .i64 0, .int .i64 0, .int .i64 0, .string ⟨#[]⟩, .slice none 0 0, .slice none 0 0] 51) := Lib.hid (by
    have h := (Bk.alloc (w.alloc (.cells #[.int .i64 kd, .int .i64 sz, .int .i64 gn, .string key, .slice aR nR cR, .slice aE nE cE] 45)) #[.int .i64 0, .int .i64 0, .int .i64 0, .string ⟨#[]⟩, .slice none 0 0, .slice none 0 0] 51).later hb2
    simpa using h)
  have O3 : Hid (Bk (((w.alloc (.cells #[.int .i64 kd, .int .i64 sz, .int .i64 gn, .string key, .slice aR nR cR, .slice aE nE cE] 45)).alloc (.cells #[.int .i64 0, .int .i64 0, .int .i64 0, .string ⟨#[]⟩, .slice none 0 0, .slice none 0 0] 51)).alloc (.cells #[.int .i64 kd, .int .i64 sz, .int .i64 gn, .string key, .slice none 0 0, .slice none 0 0] 51)) (w.heap.size + 1 + 1) #[.int .i64 kd, .int .i64 sz, .int .i64 gn, .string key, .slice none 0 0, .slice none 0 0] 51) := Lib.hid (by
    have h := Bk.alloc ((w.alloc (.cells #[.int .i64 kd, .int .i64 sz, .int .i64 gn, .string key, .slice aR nR cR, .slice aE nE cE] 45)).alloc (.cells #[.int .i64 0, .int .i64 0, .int .i64 0, .string ⟨#[]⟩, .slice none 0 0, .slice none 0 0] 51)) #[.int .i64 kd, .int .i64 sz, .int .i64 gn, .string key, .slice none 0 0, .slice none 0 0] 51
    simpa using h)
  have B3 : Hid (Below w.heap.size w (((w.alloc (.cells #[.int .i64 kd, .int .i64 sz, .int .i64 gn, .string key, .slice aR nR cR, .slice aE nE cE] 45)).alloc (.cells #[.int .i64 0, .int .i64 0, .int .i64 0, .string ⟨#[]⟩, .slice none 0 0, .slice none 0 0] 51)).alloc (.cells #[.int .i64 kd, .int .i64 sz, .int .i64 gn, .string key, .slice none 0 0, .slice none 0 0] 51))) := Lib.hid ((B0.out.alloc B0.out.size _).alloc (by simp; omega) _)
  have N3 : Hid ((((w.alloc (.cells #[.int .i64 kd, .int .i64 sz, .int .i64 gn, .string key, .slice aR nR cR, .slice aE nE cE] 45)).alloc (.cells #[.int .i64 0, .int .i64 0, .int .i64 0, .string ⟨#[]⟩, .slice none 0 0, .slice none 0 0] 51)).alloc (.cells #[.int .i64 kd, .int .i64 sz, .int .i64 gn, .string key, .slice none 0 0, .slice none 0 0] 51)).heap.size = w.heap.size + 3) := Lib.hid (by simp)
  obtain ⟨W3, h3⟩ : ∃ x, x = (((w.alloc (.cells #[.int .i64 kd, .int .i64 sz, .int .i64 gn, .string key, .slice aR nR cR, .slice aE nE cE] 45)).alloc (.cells #[.int .i64 0, .int .i64 0, .int .i64 0, .string ⟨#[]⟩, .slice none 0 0, .slice none 0 0] 51)).alloc (.cells #[.int .i64 kd, .int .i64 sz, .int .i64 gn, .string key, .slice none 0 0, .slice none 0 0] 51)) := ⟨_, rfl⟩
  rw [← h3] at T3 Z3 O3 B3 N3 ⊢
  clear h3 hb1 hb2
  obtain ⟨q, hq⟩ : ∃ q, w.heap.size = q := ⟨_, rfl⟩
  have HQ := Lib.hid hq
  refine (toRecs_any aR nR cR R _ (HS.out.later B3.out) hn).mono ?_
  rintro e w4 ⟨rfl, hown4, hb4⟩
  have T4 := Lib.hid (T3.out.later hb4)
  have Z4 := Lib.hid (Z3.out.later hb4)
  have O4 := Lib.hid (O3.out.later hb4)
  have B4 : Hid (Below w.heap.size w w4) := Lib.hid (B3.out.trans (hb4.mono B3.out.size))
  obtain ⟨gR, hgR⟩ : ∃ g, W3.heap.size = g := ⟨_, rfl⟩
  rw [hgR] at hown4 ⊢
  have G4 : Hid (gR = w.heap.size + 3) := Lib.hid (by rw [← hgR]; exact N3.out)
  have HO4 : Hid (w4.ownsRow gR 27 3 (.slice (some ⟨gR, 0, none⟩) nR nR) nR (cellsE encRec R)) := Lib.hid hown4
  clear hown4 hgR hb4 T3 Z3 O3 B3 hq
  have x4 := O4.out.cell (j := 4) rfl
  have f4 := O4.out.fr (o := 4)
  have O5 := Lib.hid (O4.out.set 4 (.slice (some ⟨gR, 0, none⟩) nR nR))
  have T5 := Lib.hid (T4.out.other (c := w.heap.size + 1 + 1) (o := 4) (by omega) (.slice (some ⟨gR, 0, none⟩) nR nR))
  have Z5 := Lib.hid (Z4.out.other (c := w.heap.size + 1 + 1) (o := 4) (by omega) (.slice (some ⟨gR, 0, none⟩) nR nR))
  have B5 : Hid (Below w.heap.size w (w4.setCell ⟨w.heap.size + 1 + 1, 4, none⟩ (.slice (some ⟨gR, 0, none⟩) nR nR))) := Lib.hid (B4.out.setCell (by show w.heap.size ≤ w.heap.size + 1 + 1; omega) _)
  have HO5 := Lib.hid (ownE_but HO4.out ((ButE.refl (w.heap.size + 1 + 1) w4).then_set 4 (.slice (some ⟨gR, 0, none⟩) nR nR)) (fun g hg => by have h9 := G4.out; have e : gR = g := Option.some.inj hg; omega))
  have c5 := T5.out.cell (j := 5) rfl
  have S5 : Hid (gR < (w4.setCell ⟨w.heap.size + 1 + 1, 4, none⟩ (.slice (some ⟨gR, 0, none⟩) nR nR)).heap.size) := Lib.hid (ownE_lt HO5.out)
  go_wp2_with fail
  obtain ⟨W5, h5⟩ : ∃ x, x = w4.setCell ⟨w.heap.size + 1 + 1, 4, none⟩ (.slice (some ⟨gR, 0, none⟩) nR nR) := ⟨_, rfl⟩
  rw [← h5] at O5 T5 Z5 B5 HO5 S5 ⊢
  clear h5 x4 f4 c5
  refine (toEntrys_any aE nE cE E _ (HS'.out.later B5.out) hn').mono ?_
  rintro e w6 ⟨rfl, hown6, hb6⟩
  have Z6 := Lib.hid (Z5.out.later hb6)
  have O6 := Lib.hid (O5.out.later hb6)
  have HO6 := Lib.hid (own_below HO5.out hb6)
  have B6 : Hid (Below w.heap.size w w6) := Lib.hid (B5.out.trans (hb6.mono B5.out.size))
  obtain ⟨gE, hgE⟩ : ∃ g, W5.heap.size = g := ⟨_, rfl⟩
  rw [hgE] at hown6 S5 ⊢
  have HE6 : Hid (w6.ownsRow gE 37 2 (.slice (some ⟨gE, 0, none⟩) nE nE) nE (cellsE encEntry E)) := Lib.hid hown6
  clear hown6 hgE hb6
  have x5 := O6.out.cell (j := 5) rfl
  have f5 := O6.out.fr (o := 5)
  have O7 := Lib.hid (O6.out.set 5 (.slice (some ⟨gE, 0, none⟩) nE nE))
  have Z7 := Lib.hid (Z6.out.other (c := w.heap.size + 1 + 1) (o := 5) (by omega) (.slice (some ⟨gE, 0, none⟩) nE nE))
  have B7 : Hid (Below w.heap.size w (w6.setCell ⟨w.heap.size + 1 + 1, 5, none⟩ (.slice (some ⟨gE, 0, none⟩) nE nE))) := Lib.hid (B6.out.setCell (by show w.heap.size ≤ w.heap.size + 1 + 1; omega) _)
  have K7 := Lib.hid ((ButE.refl (w.heap.size + 1 + 1) w6).then_set 5 (.slice (some ⟨gE, 0, none⟩) nE nE))
  have HO7 := Lib.hid (ownE_but HO6.out K7.out (fun g hg => by have h9 := G4.out; have e : gR = g := Option.some.inj hg; omega))
  have HE7 := Lib.hid (ownE_but HE6.out K7.out (fun g hg => by have h9 := G4.out; have h8 := S5.out; have e : gE = g := Option.some.inj hg; omega))
  have y0 := O7.out.cell (j := 0) rfl
  have y1 := O7.out.cell (j := 1) rfl
  have y2 := O7.out.cell (j := 2) rfl
  have y3 := O7.out.cell (j := 3) rfl
  have y4 := O7.out.cell (j := 4) rfl
  have y5 := O7.out.cell (j := 5) rfl
  have z0 := Z7.out.cell (j := 0) rfl
  have z1 := Z7.out.cell (j := 1) rfl
  have z2 := Z7.out.cell (j := 2) rfl
  have z3 := Z7.out.cell (j := 3) rfl
  have z4 := Z7.out.cell (j := 4) rfl
  have z5 := Z7.out.cell (j := 5) rfl
  have g0 := Z7.out.fr (o := 0)
  have g1 := Z7.out.fr (o := 1)
  have g2 := Z7.out.fr (o := 2)
  have g3 := Z7.out.fr (o := 3)
  have g4 := Z7.out.fr (o := 4)
  have g5 := Z7.out.fr (o := 5)
  have qf := ((((((Z7.out.set 0 (.int .i64 kd)).set 1 (.int .i64 sz)).set 2 (.int .i64 gn)).set 3 (.string key)).set 4 (.slice (some ⟨gR, 0, none⟩) nR nR)).set 5 (.slice (some ⟨gE, 0, none⟩) nE nE))
  have q0 := qf.cell (j := 0) rfl
  have q1 := qf.cell (j := 1) rfl
  have q2 := qf.cell (j := 2) rfl
  have q3 := qf.cell (j := 3) rfl
  have q4 := qf.cell (j := 4) rfl
  have q5 := qf.cell (j := 5) rfl
  clear qf
  have K8 := (((((((ButE.refl (w.heap.size + 1) (w6.setCell ⟨w.heap.size + 1 + 1, 5, none⟩ (.slice (some ⟨gE, 0, none⟩) nE nE))).then_set 0 (.int .i64 kd)).then_set 1 (.int .i64 sz)).then_set 2 (.int .i64 gn)).then_set 3 (.string key)).then_set 4 (.slice (some ⟨gR, 0, none⟩) nR nR)).then_set 5 (.slice (some ⟨gE, 0, none⟩) nE nE))
  have HO8 := Lib.hid (ownE_mono (B' := w.heap.size) (ownE_but HO7.out K8 (fun g hg => by have h9 := G4.out; have e : gR = g := Option.some.inj hg; omega)) (by have h9 := G4.out; omega))
  have HE8 := Lib.hid (ownE_mono (B' := w.heap.size) (ownE_but HE7.out K8 (fun g hg => by have h9 := G4.out; have h8 := S5.out; have e : gE = g := Option.some.inj hg; omega)) (by have h9 := G4.out; have h8 := S5.out; omega))
  have B8 := Lib.hid ((((((B7.out.setCell (p := ⟨w.heap.size + 1, 0, none⟩) (by show w.heap.size ≤ w.heap.size + 1; omega) (.int .i64 kd)).setCell (p := ⟨w.heap.size + 1, 1, none⟩) (by show w.heap.size ≤ w.heap.size + 1; omega) (.int .i64 sz)).setCell (p := ⟨w.heap.size + 1, 2, none⟩) (by show w.heap.size ≤ w.heap.size + 1; omega) (.int .i64 gn)).setCell (p := ⟨w.heap.size + 1, 3, none⟩) (by show w.heap.size ≤ w.heap.size + 1; omega) (.string key)).setCell (p := ⟨w.heap.size + 1, 4, none⟩) (by show w.heap.size ≤ w.heap.size + 1; omega) (.slice (some ⟨gR, 0, none⟩) nR nR)).setCell (p := ⟨w.heap.size + 1, 5, none⟩) (by show w.heap.size ≤ w.heap.size + 1; omega) (.slice (some ⟨gE, 0, none⟩) nE nE))
  clear K8
  go_wp2
  refine bodyPost_ret (v := .agg #[.int .i64 kd, .int .i64 sz, .int .i64 gn, .string key, .slice (some ⟨gR, 0, none⟩) nR nR, .slice (some ⟨gE, 0, none⟩) nE nE]) ?_ rfl ⟨gR, gE, rfl, by have h9 := G4.out; omega, S5.out, ownE_lt HE8.out, HO8.out, HE8.out, B8.out⟩
  simp [results, Try.results27, go_sem, q0, q1, q2, q3, q4, q5]
end Go.Proofs.Ytcckhkihhhchbaa
