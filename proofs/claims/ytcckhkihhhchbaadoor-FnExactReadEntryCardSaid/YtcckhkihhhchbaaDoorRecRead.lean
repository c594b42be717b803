/- EntryWord, ReadRec, ReadEntry: the model's. -/
import Derived.Test.YtcckhkihhhchbaaDoorRecSpec
import Derived.Test.YtcckhkihhhchbaaDoorTextEq
namespace Go.Proofs.YtcckhkihhhchbaaDoor
open Go.RowKit Go.Proofs.YtcckhkihhhchbaaDoor.Parts Go.Proofs.YtcckhkihhhchbaaDoor.Hexa Go.Proofs.YtcckhkihhhchbaaDoor.Byt

set_option maxRecDepth 100000 in
set_option maxHeartbeats 1000000 in
theorem specEntryWord_no (p : Int) (m : ByteArray) (w : World) (hm : m.size ≤ 2000000) (h : ¬ EntryOk ⟨p, m⟩) :
    Calls Tryd.prog 43 #[.agg #[.int .i64 p, .string m]] w (SaysT ⟨#[]⟩ w) := by
  by_cases h0 : 1 ≤ p ∧ p ≤ 5
  · have H0 := Lib.hid h0
    have h2 : ¬ NameR m := fun e => h ⟨h0, e⟩
    have HN := Lib.hid (nameB_no h2)
    clear h0 h h2
    go_enter Tryd.func43, Tryd.ntmps43
    go_wp2_with (first | ((with_reducible refine (range_yes _ H0.out).mono ?_); rintro e w1 ⟨rfl, rfl⟩) | (go_at_call 77; refine (specName_any m _ hm).mono ?_; rw [HN.out]; rintro e w1 ⟨rfl, rfl⟩))
    go_ret
    exact ⟨rfl, below_bk w _⟩
  · have H0 := Lib.hid h0
    clear h0 h
    go_enter Tryd.func43, Tryd.ntmps43
    go_wp2_with ((with_reducible refine (range_no _ H0.out).mono ?_); rintro e w1 ⟨rfl, rfl⟩)
    go_ret
    exact ⟨rfl, below_bk w _⟩

set_option maxRecDepth 100000 in
set_option maxHeartbeats 1000000 in
theorem specEntryWord_yes (p : Int) (m : ByteArray) (w : World) (h : EntryOk ⟨p, m⟩) :
    Calls Tryd.prog 43 #[.agg #[.int .i64 p, .string m]] w (SaysT (entryWordB ⟨p, m⟩) w) := by
  have HE := Lib.hid (entryWordB_yes h)
  obtain ⟨h0, h1⟩ := h
  have H0 : Hid (1 ≤ p ∧ p ≤ 5) := Lib.hid h0
  have HN := Lib.hid (nameB_yes h1)
  have hm : m.size ≤ 7 := h1.1.2
  have T0 := Lib.hid (Bk.alloc w #[.int .i64 p, .string m] 41)
  have B0 := Lib.hid (below_bk w (.cells #[.int .i64 p, .string m] 41))
  have hA : (numTextB p 1).size = 1 := numText_size (k := 1) (by omega) (by have := H0.out.1; omega) (by have := H0.out.2; omega)
  obtain ⟨A, hAe⟩ : ∃ A, numTextB p 1 = A := ⟨_, rfl⟩
  have HA := Lib.hid hAe
  rw [hAe] at hA
  have hA1 : ¬ (9223372036854775807 < A.size + m.size) := by omega
  have T0d := Lib.hid T0.out.drew
  have B0d : Hid (Below w.heap.size w (w.alloc (.cells #[.int .i64 p, .string m] 41)).drew) := Lib.hid B0.out.drew
  clear h0 h1 hAe hA
  go_enter Tryd.func43, Tryd.ntmps43
  go_wp2_with (first | ((with_reducible refine (range_yes _ H0.out).mono ?_); rintro e w1 ⟨rfl, rfl⟩) | (go_at_call 77; refine (specName_any m _ (by omega)).mono ?_; rw [HN.out]; rintro e w1 ⟨rfl, rfl⟩))
  go_region_held3 (fun w' => w'.cell? ⟨w.heap.size, 0, none⟩ = some (.int .i64 p) ∧ w'.cell? ⟨w.heap.size, 1, none⟩ = some (.string m))
    (first
      | exact ⟨T0d.out.cell rfl, T0d.out.cell rfl⟩
      | exact ⟨T1.out.cell rfl, T1.out.cell rfl⟩
      | exact ⟨T2.out.cell rfl, T2.out.cell rfl⟩
      | go_keep)
    (first
      | (go_at_call 76; (with_reducible refine (specNum_any p 1 _ (by have := H0.out.2; omega)).mono ?_); rw [HA.out]; rintro e w1 ⟨rfl, hb⟩; have T1 := Lib.hid (T0d.out.later hb); have B1 : Hid (Below w.heap.size w w1) := Lib.hid (B0d.out.trans (hb.mono B0d.out.size)); clear hb)
      | (go_at_call 78; (with_reducible refine (specWord_any (A ++ m) _).mono ?_); rintro e w2 ⟨rfl, hb⟩; have T2 := Lib.hid (T1.out.later hb); have B2 : Hid (Below w.heap.size w w2) := Lib.hid (B1.out.trans (hb.mono B1.out.size)); clear hb))
  go_wp2
  go_ret
  exact ⟨by rw [HE.out, HA.out]; rfl, B2.out⟩
theorem specEntryWord_any (p : Int) (m : ByteArray) (w : World) (hm : m.size ≤ 2000000) :
    Calls Tryd.prog 43 #[.agg #[.int .i64 p, .string m]] w (SaysT (entryWordB ⟨p, m⟩) w) := by
  by_cases h : EntryOk ⟨p, m⟩
  · exact specEntryWord_yes p m w h
  · rw [entryWordB_no h]; exact specEntryWord_no p m w hm h

def recV (r : RecR) : Value := .agg #[.int .i64 r.f0, .int .i64 r.f1, .string r.f2]
def SaysRec (r : RecR) (b : Bool) (w : World) (e : Ending) (w' : World) : Prop := e = .returned (.tuple #[.agg #[.int .i64 r.f0, .int .i64 r.f1, .string r.f2], .bool b]) ∧ Below w.heap.size w w'
set_option maxRecDepth 100000 in
set_option maxHeartbeats 1000000 in
theorem specReadRec_len (s : ByteArray) (w : World) (_hs : s.size ≤ 2000000) (h : ¬ s.size = 8) :
    Calls Tryd.prog 63 #[.string s] w (SaysRec ⟨0, 0, ⟨#[]⟩⟩ false w) := by
  have R0 := Bk.alloc w #[.int .i64 0, .int .i64 0, .string ⟨#[]⟩] 36
  have B0 := Lib.hid (below_bk w (.cells #[.int .i64 0, .int .i64 0, .string ⟨#[]⟩] 36))
  have e8 : ((s.size : Int) == 8) = false := by simp; omega
  have e9 : ((s.size : Int) != 8) = true := by simp; omega
  clear R0
  go_enter Tryd.func63, Tryd.ntmps63
  go_wp2
  refine bodyPost_ret (v := .tuple #[.agg #[.int .i64 0, .int .i64 0, .string ⟨#[]⟩], .bool false]) ?_ rfl ⟨rfl, ?_⟩
  · simp [results, Tryd.results63, go_sem]
  · exact B0.out

set_option maxRecDepth 100000 in
set_option maxHeartbeats 1000000 in
theorem specReadRec_yes (s : ByteArray) (w : World) (h8 : s.size = 8) (h : RecOk (recOf s)) :
    Calls Tryd.prog 63 #[.string s] w (SaysRec (recOf s) true w) := by
  have R0 := Lib.hid (Bk.alloc w #[.int .i64 0, .int .i64 0, .string ⟨#[]⟩] 36)
  have B0 := Lib.hid (below_bk w (.cells #[.int .i64 0, .int .i64 0, .string ⟨#[]⟩] 36))
  have e8 : ((s.size : Int) == 8) = true := by simp; omega
  have e9 : ((s.size : Int) != 8) = false := by simp; omega
  have hs8 : s.size ≤ 8 := by omega
  have hs9 : 8 ≤ s.size := by omega
  have HB := Lib.hid (rec_back h8 h)
  have hex : s.extract 4 s.size = (recOf s).f2 := by rw [h8]; rfl
  obtain ⟨P, hP⟩ : ∃ P, numAtV s 0 1 = P := ⟨_, rfl⟩
  obtain ⟨Q, hQ⟩ : ∃ Q, numAtV s 1 3 = Q := ⟨_, rfl⟩
  obtain ⟨M, hM⟩ : ∃ M, s.extract 4 s.size = M := ⟨_, rfl⟩
  have hR : recOf s = ⟨P, Q, M⟩ := by rw [← hP, ← hQ, ← hM, hex]; rfl
  have hMs : M.size ≤ 8 := by rw [← hM, ByteArray.size_extract]; omega
  rw [hR] at HB ⊢
  have HP := Lib.hid hP
  have HQ := Lib.hid hQ
  have HM8 := Lib.hid hMs
  clear h8 h hex hP hQ hR hMs
  go_enter Tryd.func63, Tryd.ntmps63
  go_wp2_with fail
  refine (specNumAt_any s 0 1 _ (by omega) (by omega) (by omega)).mono ?_
  rw [HP.out]
  rintro e w1 ⟨rfl, hb⟩
  have R1 := Lib.hid (R0.out.later hb)
  have B1 : Hid (Below w.heap.size w w1) := Lib.hid (B0.out.trans (hb.mono B0.out.size))
  clear hb R0 B0
  go_wp2_with fail
  refine (specNumAt_any s 1 3 _ (by omega) (by omega) (by omega)).mono ?_
  rw [HQ.out]
  rintro e w2 ⟨rfl, hb⟩
  have hba := below_bk w2 (.cells #[.int .i64 P, .int .i64 Q, .string M] 36)
  have R3 := Lib.hid ((R1.out.later hb).later hba)
  have B2 : Below w.heap.size w w2 := B1.out.trans (hb.mono B1.out.size)
  have B3 : Hid (Below w.heap.size w (w2.alloc (.cells #[.int .i64 P, .int .i64 Q, .string M] 36))) := Lib.hid (B2.trans (hba.mono B2.size))
  have X3 := Lib.hid (Bk.alloc w2 #[.int .i64 P, .int .i64 Q, .string M] 36)
  clear hb hba B2 R1 B1
  go_wp2_with fail
  refine (specRecWord_any P Q M _ (by have := HM8.out; omega)).mono ?_
  rw [HB.out]
  rintro e w4 ⟨rfl, hb⟩
  have R4 := Lib.hid (R3.out.later hb)
  have X4 := Lib.hid (X3.out.later hb)
  have B4 : Hid (Below w.heap.size w w4) := Lib.hid (B3.out.trans (hb.mono B3.out.size))
  clear hb R3 X3 B3
  have x0 := X4.out.cell (j := 0) rfl
  have x1 := X4.out.cell (j := 1) rfl
  have x2 := X4.out.cell (j := 2) rfl
  have r0 := R4.out.cell (j := 0) rfl
  have r1 := R4.out.cell (j := 1) rfl
  have r2 := R4.out.cell (j := 2) rfl
  have f0 := R4.out.fr (o := 0)
  have f1 := R4.out.fr (o := 1)
  have f2 := R4.out.fr (o := 2)
  have qf := ((R4.out.set 0 (.int .i64 P)).set 1 (.int .i64 Q)).set 2 (.string M)
  have q0 := qf.cell (j := 0) (v := .int .i64 P) rfl
  have q1 := qf.cell (j := 1) (v := .int .i64 Q) rfl
  have q2 := qf.cell (j := 2) (v := .string M) rfl
  clear qf
  go_wp2
  refine bodyPost_ret (v := .tuple #[.agg #[.int .i64 P, .int .i64 Q, .string M], .bool true]) ?_ rfl ⟨rfl, ?_⟩
  · simp [results, Tryd.results63, go_sem, q0, q1, q2]
  · exact ((B4.out.setCell (Nat.le_refl _) _).setCell (Nat.le_refl _) _).setCell (Nat.le_refl _) _
set_option maxRecDepth 100000 in
set_option maxHeartbeats 1000000 in
theorem specReadRec_no (s : ByteArray) (w : World) (h8 : s.size = 8) (h : ¬ RecOk (recOf s)) :
    Calls Tryd.prog 63 #[.string s] w (SaysRec (⟨0, 0, ⟨#[]⟩⟩) false w) := by
  have R0 := Lib.hid (Bk.alloc w #[.int .i64 0, .int .i64 0, .string ⟨#[]⟩] 36)
  have B0 := Lib.hid (below_bk w (.cells #[.int .i64 0, .int .i64 0, .string ⟨#[]⟩] 36))
  have e8 : ((s.size : Int) == 8) = true := by simp; omega
  have e9 : ((s.size : Int) != 8) = false := by simp; omega
  have hs8 : s.size ≤ 8 := by omega
  have hs9 : 8 ≤ s.size := by omega
  have HB := Lib.hid (recWordB_no h)
  have n1 := text_full s (by omega)
  have n2 := text_full' s (by omega)
  have hex : s.extract 4 s.size = (recOf s).f2 := by rw [h8]; rfl
  obtain ⟨P, hP⟩ : ∃ P, numAtV s 0 1 = P := ⟨_, rfl⟩
  obtain ⟨Q, hQ⟩ : ∃ Q, numAtV s 1 3 = Q := ⟨_, rfl⟩
  obtain ⟨M, hM⟩ : ∃ M, s.extract 4 s.size = M := ⟨_, rfl⟩
  have hR : recOf s = ⟨P, Q, M⟩ := by rw [← hP, ← hQ, ← hM, hex]; rfl
  have hMs : M.size ≤ 8 := by rw [← hM, ByteArray.size_extract]; omega
  rw [hR] at HB
  have HP := Lib.hid hP
  have HQ := Lib.hid hQ
  have HM8 := Lib.hid hMs
  clear h8 h hex hP hQ hR hMs
  go_enter Tryd.func63, Tryd.ntmps63
  go_wp2_with fail
  refine (specNumAt_any s 0 1 _ (by omega) (by omega) (by omega)).mono ?_
  rw [HP.out]
  rintro e w1 ⟨rfl, hb⟩
  have R1 := Lib.hid (R0.out.later hb)
  have B1 : Hid (Below w.heap.size w w1) := Lib.hid (B0.out.trans (hb.mono B0.out.size))
  clear hb R0 B0
  go_wp2_with fail
  refine (specNumAt_any s 1 3 _ (by omega) (by omega) (by omega)).mono ?_
  rw [HQ.out]
  rintro e w2 ⟨rfl, hb⟩
  have hba := below_bk w2 (.cells #[.int .i64 P, .int .i64 Q, .string M] 36)
  have R3 := Lib.hid ((R1.out.later hb).later hba)
  have B2 : Below w.heap.size w w2 := B1.out.trans (hb.mono B1.out.size)
  have B3 : Hid (Below w.heap.size w (w2.alloc (.cells #[.int .i64 P, .int .i64 Q, .string M] 36))) := Lib.hid (B2.trans (hba.mono B2.size))
  have X3 := Lib.hid (Bk.alloc w2 #[.int .i64 P, .int .i64 Q, .string M] 36)
  clear hb hba B2 R1 B1
  go_wp2_with fail
  refine (specRecWord_any P Q M _ (by have := HM8.out; omega)).mono ?_
  rw [HB.out]
  rintro e w4 ⟨rfl, hb⟩
  have R4 := Lib.hid (R3.out.later hb)
  have X4 := Lib.hid (X3.out.later hb)
  have B4 : Hid (Below w.heap.size w w4) := Lib.hid (B3.out.trans (hb.mono B3.out.size))
  clear hb R3 X3 B3
  have x0 := X4.out.cell (j := 0) rfl
  have x1 := X4.out.cell (j := 1) rfl
  have x2 := X4.out.cell (j := 2) rfl
  have r0 := R4.out.cell (j := 0) rfl
  have r1 := R4.out.cell (j := 1) rfl
  have r2 := R4.out.cell (j := 2) rfl
  have f0 := R4.out.fr (o := 0)
  have f1 := R4.out.fr (o := 1)
  have f2 := R4.out.fr (o := 2)
  have qf := ((R4.out.set 0 (.int .i64 0)).set 1 (.int .i64 0)).set 2 (.string ⟨#[]⟩)
  have q0 := qf.cell (j := 0) (v := .int .i64 0) rfl
  have q1 := qf.cell (j := 1) (v := .int .i64 0) rfl
  have q2 := qf.cell (j := 2) (v := .string ⟨#[]⟩) rfl
  clear qf
  go_wp2
  refine bodyPost_ret (v := .tuple #[.agg #[.int .i64 0, .int .i64 0, .string ⟨#[]⟩], .bool false]) ?_ rfl ⟨rfl, ?_⟩
  · simp [results, Tryd.results63, go_sem, q0, q1, q2]
  · exact ((B4.out.setCell (Nat.le_refl _) _).setCell (Nat.le_refl _) _).setCell (Nat.le_refl _) _
theorem specReadRec_any (s : ByteArray) (w : World) (hs : s.size ≤ 2000000) :
    Calls Tryd.prog 63 #[.string s] w (SaysRec (recReadR s) (recReadB s) w) := by
  by_cases h : s.size = 8 ∧ RecOk (recOf s)
  · rw [show recReadR s = recOf s from if_pos h, show recReadB s = true from decide_eq_true h]
    exact specReadRec_yes s w h.1 h.2
  · rw [show recReadR s = ⟨0, 0, ⟨#[]⟩⟩ from if_neg h, show recReadB s = false from decide_eq_false h]
    by_cases h8 : s.size = 8
    · exact specReadRec_no s w h8 (fun e => h ⟨h8, e⟩)
    · exact specReadRec_len s w hs h8
end Go.Proofs.YtcckhkihhhchbaaDoor
