/- ReadRec: the program's. -/
import Derived.Test.YtcckhkihhhchbaaRecRead
import Derived.Test.YtcckhkihhhchbaaRecImpl
import Derived.Test.YtcckhkihhhchbaaReadImpl
import Derived.Test.YtcckhkihhhchbaaClone
namespace Go.Proofs.Ytcckhkihhhchbaa
open Go.RowKit Go.Proofs.Ytcckhkihhhchbaa.Parts Go.Proofs.Ytcckhkihhhchbaa.Hexa Go.Proofs.Ytcckhkihhhchbaa.Byt

set_option maxRecDepth 100000 in
set_option maxHeartbeats 1000000 in
theorem implReadRec_len (s : ByteArray) (w : World) (_hs : s.size ≤ 2000000) (h : ¬ s.size = 8) :
    Calls Try.prog 17 #[.string s] w (SaysRec ⟨0, 0, ⟨#[]⟩⟩ false w) := by
  have R0 := Bk.alloc w #[.int .i64 0, .int .i64 0, .string ⟨#[]⟩] 27
  have B0 := Lib.hid (below_bk w (.cells #[.int .i64 0, .int .i64 0, .string ⟨#[]⟩] 27))
  have e8 : ((s.size : Int) == 8) = false := by simp; omega
  have e9 : ((s.size : Int) != 8) = true := by simp; omega
  clear R0
  go_enter Try.func17, Try.ntmps17
  go_wp2
  refine bodyPost_ret (v := .tuple #[.agg #[.int .i64 0, .int .i64 0, .string ⟨#[]⟩], .bool false]) ?_ rfl ⟨rfl, ?_⟩
  · simp [results, Try.results17, go_sem]
  · exact B0.out

set_option maxRecDepth 100000 in
set_option maxHeartbeats 1000000 in
theorem implReadRec_yes (s : ByteArray) (w : World) (h8 : s.size = 8) (h : RecOk (recOf s)) :
    Calls Try.prog 17 #[.string s] w (SaysRec (recOf s) true w) := by
  have R0 := Lib.hid (Bk.alloc w #[.int .i64 0, .int .i64 0, .string ⟨#[]⟩] 27)
  have B0 := Lib.hid (below_bk w (.cells #[.int .i64 0, .int .i64 0, .string ⟨#[]⟩] 27))
  have e8 : ((s.size : Int) == 8) = true := by simp; omega
  have e9 : ((s.size : Int) != 8) = false := by simp; omega
  have hs8 : s.size ≤ 8 := by omega
  have hs9 : 8 ≤ s.size := by omega
  have HB := Lib.hid (rec_back h8 h)
  have hex : s.extract 4 s.size = (recOf s).f2 := by rw [h8]; rfl
  obtain ⟨P, hP⟩ : ∃ P, numAtV s 0 1 = P := ⟨_, rfl⟩
  obtain ⟨Q, hQ⟩ : ∃ Q, numAtV s 1 3 = Q := ⟨_, rfl⟩
  obtain ⟨M, hM⟩ : ∃ M, s.extract 4 s.size = M := ⟨_, rfl⟩
  have hR : recOf s = ⟨P, Q, M⟩ := by rw [← hP, ← hQ, ← hM, hex]; rfl
  have hMs : M.size ≤ 8 := by rw [← hM, ByteArray.size_extract]; omega
  rw [hR] at HB ⊢
  have HP := Lib.hid hP
  have HQ := Lib.hid hQ
  have HM8 := Lib.hid hMs
  clear h8 h hex hP hQ hR hMs
  go_enter Try.func17, Try.ntmps17
  go_wp2_with fail
  refine (implNumAt_any s 0 1 _ (by omega)).mono ?_
  rw [HP.out]
  rintro e w1 ⟨rfl, hb⟩
  have R1 := Lib.hid (R0.out.later hb)
  have B1 : Hid (Below w.heap.size w w1) := Lib.hid (B0.out.trans (hb.mono B0.out.size))
  clear hb R0 B0
  go_wp2_with fail
  refine (implNumAt_any s 1 3 _ (by omega)).mono ?_
  rw [HQ.out]
  rintro e w2 ⟨rfl, hb⟩
  have R2 := Lib.hid (R1.out.later hb)
  have B2' : Hid (Below w.heap.size w w2) := Lib.hid (B1.out.trans (hb.mono B1.out.size))
  clear hb R1 B1
  go_wp2_with fail
  refine (cloneText_any M _ (by have := HM8.out; omega)).mono ?_
  rintro e w2x ⟨rfl, hb⟩
  have hba := below_bk w2x (.cells #[.int .i64 P, .int .i64 Q, .string M] 27)
  have R3 := Lib.hid ((R2.out.later hb).later hba)
  have B2 : Below w.heap.size w w2x := B2'.out.trans (hb.mono B2'.out.size)
  have B3 : Hid (Below w.heap.size w (w2x.alloc (.cells #[.int .i64 P, .int .i64 Q, .string M] 27))) := Lib.hid (B2.trans (hba.mono B2.size))
  have X3 := Lib.hid (Bk.alloc w2x #[.int .i64 P, .int .i64 Q, .string M] 27)
  clear hb hba B2 R2 B2'
  go_wp2_with fail
  refine (implRecWord_any P Q M _ (by have := HM8.out; omega)).mono ?_
  rw [HB.out]
  rintro e w4 ⟨rfl, hb⟩
  have R4 := Lib.hid (R3.out.later hb)
  have X4 := Lib.hid (X3.out.later hb)
  have B4 : Hid (Below w.heap.size w w4) := Lib.hid (B3.out.trans (hb.mono B3.out.size))
  clear hb R3 X3 B3
  have x0 := X4.out.cell (j := 0) rfl
  have x1 := X4.out.cell (j := 1) rfl
  have x2 := X4.out.cell (j := 2) rfl
  have r0 := R4.out.cell (j := 0) rfl
  have r1 := R4.out.cell (j := 1) rfl
  have r2 := R4.out.cell (j := 2) rfl
  have f0 := R4.out.fr (o := 0)
  have f1 := R4.out.fr (o := 1)
  have f2 := R4.out.fr (o := 2)
  have qf := ((R4.out.set 0 (.int .i64 P)).set 1 (.int .i64 Q)).set 2 (.string M)
  have q0 := qf.cell (j := 0) (v := .int .i64 P) rfl
  have q1 := qf.cell (j := 1) (v := .int .i64 Q) rfl
  have q2 := qf.cell (j := 2) (v := .string M) rfl
  clear qf
  go_wp2
  refine bodyPost_ret (v := .tuple #[.agg #[.int .i64 P, .int .i64 Q, .string M], .bool true]) ?_ rfl ⟨rfl, ?_⟩
  · simp [results, Try.results17, go_sem, q0, q1, q2]
  · exact ((B4.out.setCell (Nat.le_refl _) _).setCell (Nat.le_refl _) _).setCell (Nat.le_refl _) _
set_option maxRecDepth 100000 in
set_option maxHeartbeats 1000000 in
theorem implReadRec_no (s : ByteArray) (w : World) (h8 : s.size = 8) (h : ¬ RecOk (recOf s)) :
    Calls Try.prog 17 #[.string s] w (SaysRec (⟨0, 0, ⟨#[]⟩⟩) false w) := by
  have R0 := Lib.hid (Bk.alloc w #[.int .i64 0, .int .i64 0, .string ⟨#[]⟩] 27)
  have B0 := Lib.hid (below_bk w (.cells #[.int .i64 0, .int .i64 0, .string ⟨#[]⟩] 27))
  have e8 : ((s.size : Int) == 8) = true := by simp; omega
  have e9 : ((s.size : Int) != 8) = false := by simp; omega
  have hs8 : s.size ≤ 8 := by omega
  have hs9 : 8 ≤ s.size := by omega
  have HB := Lib.hid (recWordB_no h)
  have n1 := text_full s (by omega)
  have n2 := text_full' s (by omega)
  have hex : s.extract 4 s.size = (recOf s).f2 := by rw [h8]; rfl
  obtain ⟨P, hP⟩ : ∃ P, numAtV s 0 1 = P := ⟨_, rfl⟩
  obtain ⟨Q, hQ⟩ : ∃ Q, numAtV s 1 3 = Q := ⟨_, rfl⟩
  obtain ⟨M, hM⟩ : ∃ M, s.extract 4 s.size = M := ⟨_, rfl⟩
  have hR : recOf s = ⟨P, Q, M⟩ := by rw [← hP, ← hQ, ← hM, hex]; rfl
  have hMs : M.size ≤ 8 := by rw [← hM, ByteArray.size_extract]; omega
  rw [hR] at HB
  have HP := Lib.hid hP
  have HQ := Lib.hid hQ
  have HM8 := Lib.hid hMs
  clear h8 h hex hP hQ hR hMs
  go_enter Try.func17, Try.ntmps17
  go_wp2_with fail
  refine (implNumAt_any s 0 1 _ (by omega)).mono ?_
  rw [HP.out]
  rintro e w1 ⟨rfl, hb⟩
  have R1 := Lib.hid (R0.out.later hb)
  have B1 : Hid (Below w.heap.size w w1) := Lib.hid (B0.out.trans (hb.mono B0.out.size))
  clear hb R0 B0
  go_wp2_with fail
  refine (implNumAt_any s 1 3 _ (by omega)).mono ?_
  rw [HQ.out]
  rintro e w2 ⟨rfl, hb⟩
  have R2 := Lib.hid (R1.out.later hb)
  have B2' : Hid (Below w.heap.size w w2) := Lib.hid (B1.out.trans (hb.mono B1.out.size))
  clear hb R1 B1
  go_wp2_with fail
  refine (cloneText_any M _ (by have := HM8.out; omega)).mono ?_
  rintro e w2x ⟨rfl, hb⟩
  have hba := below_bk w2x (.cells #[.int .i64 P, .int .i64 Q, .string M] 27)
  have R3 := Lib.hid ((R2.out.later hb).later hba)
  have B2 : Below w.heap.size w w2x := B2'.out.trans (hb.mono B2'.out.size)
  have B3 : Hid (Below w.heap.size w (w2x.alloc (.cells #[.int .i64 P, .int .i64 Q, .string M] 27))) := Lib.hid (B2.trans (hba.mono B2.size))
  have X3 := Lib.hid (Bk.alloc w2x #[.int .i64 P, .int .i64 Q, .string M] 27)
  clear hb hba B2 R2 B2'
  go_wp2_with fail
  refine (implRecWord_any P Q M _ (by have := HM8.out; omega)).mono ?_
  rw [HB.out]
  rintro e w4 ⟨rfl, hb⟩
  have R4 := Lib.hid (R3.out.later hb)
  have X4 := Lib.hid (X3.out.later hb)
  have B4 : Hid (Below w.heap.size w w4) := Lib.hid (B3.out.trans (hb.mono B3.out.size))
  clear hb R3 X3 B3
  have x0 := X4.out.cell (j := 0) rfl
  have x1 := X4.out.cell (j := 1) rfl
  have x2 := X4.out.cell (j := 2) rfl
  have r0 := R4.out.cell (j := 0) rfl
  have r1 := R4.out.cell (j := 1) rfl
  have r2 := R4.out.cell (j := 2) rfl
  have f0 := R4.out.fr (o := 0)
  have f1 := R4.out.fr (o := 1)
  have f2 := R4.out.fr (o := 2)
  have qf := ((R4.out.set 0 (.int .i64 0)).set 1 (.int .i64 0)).set 2 (.string ⟨#[]⟩)
  have q0 := qf.cell (j := 0) (v := .int .i64 0) rfl
  have q1 := qf.cell (j := 1) (v := .int .i64 0) rfl
  have q2 := qf.cell (j := 2) (v := .string ⟨#[]⟩) rfl
  clear qf
  go_wp2
  refine bodyPost_ret (v := .tuple #[.agg #[.int .i64 0, .int .i64 0, .string ⟨#[]⟩], .bool false]) ?_ rfl ⟨rfl, ?_⟩
  · simp [results, Try.results17, go_sem, q0, q1, q2]
  · exact ((B4.out.setCell (Nat.le_refl _) _).setCell (Nat.le_refl _) _).setCell (Nat.le_refl _) _
theorem implReadRec_any (s : ByteArray) (w : World) (hs : s.size ≤ 2000000) :
    Calls Try.prog 17 #[.string s] w (SaysRec (recReadR s) (recReadB s) w) := by
  by_cases h : s.size = 8 ∧ RecOk (recOf s)
  · rw [show recReadR s = recOf s from if_pos h, show recReadB s = true from decide_eq_true h]
    exact implReadRec_yes s w h.1 h.2
  · rw [show recReadR s = ⟨0, 0, ⟨#[]⟩⟩ from if_neg h, show recReadB s = false from decide_eq_false h]
    by_cases h8 : s.size = 8
    · exact implReadRec_no s w h8 (fun e => h ⟨h8, e⟩)
    · exact implReadRec_len s w hs h8
end Go.Proofs.Ytcckhkihhhchbaa
