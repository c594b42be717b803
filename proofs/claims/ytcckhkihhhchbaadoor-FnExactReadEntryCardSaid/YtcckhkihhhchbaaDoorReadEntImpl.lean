/- ReadEntry: the program's. -/
import Derived.Test.YtcckhkihhhchbaaDoorEntRead
import Derived.Test.YtcckhkihhhchbaaDoorEntImpl
import Derived.Test.YtcckhkihhhchbaaDoorReadImpl
import Derived.Test.YtcckhkihhhchbaaDoorClone
import Derived.Test.YtcckhkihhhchbaaDoorTrimImpl
import Derived.Test.YtcckhkihhhchbaaDoorHeadMath
namespace Go.Proofs.YtcckhkihhhchbaaDoor
open Go.RowKit Go.Proofs.YtcckhkihhhchbaaDoor.Parts Go.Proofs.YtcckhkihhhchbaaDoor.Hexa Go.Proofs.YtcckhkihhhchbaaDoor.Byt

theorem endTo_trim {l t : List UInt8} (h : ∀ j, t.getD j 0 = l.getD (j + 1) 0) : ∀ k, endTo l (k + 1) = trimTo t k + 1
  | 0 => rfl
  | k + 1 => by
    rw [endTo, trimTo, h k, endTo_trim h k]
    split <;> rfl
theorem extract_tail (s : ByteArray) (m : Nat) (hm : m ≤ s.size - 1) : (s.extract 1 s.size).extract 0 m = s.extract 1 (m + 1) := by
  apply ByteArray.ext
  apply Array.toList_inj.1
  have hl : s.data.toList.length = s.size := by simp
  simp only [ByteArray.data_extract, Array.toList_extract, List.extract_eq_take_drop, List.drop_zero, Nat.sub_zero, List.take_take]
  congr 1
  omega
theorem tail_getD (s : ByteArray) (j : Nat) : (s.extract 1 s.size).data.toList.getD j 0 = s.data.toList.getD (j + 1) 0 := by
  have hl : s.data.toList.length = s.size := by simp
  simp only [ByteArray.data_extract, Array.toList_extract, List.extract_eq_take_drop, List.getD]
  rw [List.take_of_length_le (by rw [List.length_drop]; omega), List.getElem?_drop, Nat.add_comm]
/-- What the program reads. -/
def entryGot (s : ByteArray) : EntryR := ⟨numAtV s 0 1, trimB (s.extract 1 s.size)⟩
theorem entryGot_eq {s : ByteArray} (h8 : s.size = 8) : entryGot s = entryOf s := by
  have h7 : (s.extract 1 s.size).size = 7 := by rw [ByteArray.size_extract]; omega
  have hE := endTo_trim (l := s.data.toList) (t := (s.extract 1 s.size).data.toList) (tail_getD s) 7
  have hle := trimTo_le (s.extract 1 s.size).data.toList 7
  unfold entryGot entryOf endOf trimB
  rw [entry_head (by omega), h7, hE, extract_tail s _ (by omega)]
theorem got_yes {s : ByteArray} (h8 : s.size = 8) (h : EntryOk (entryOf s)) : entryWordB (entryGot s) = s := by rw [entryGot_eq h8]; exact entry_back h8 h
theorem got_no {s : ByteArray} (h1 : 1 ≤ s.size) (h : ¬ (s.size = 8 ∧ EntryOk (entryOf s))) : ¬ entryWordB (entryGot s) = s := fun e => by
  by_cases hk : EntryOk (entryGot s)
  · have h8 : s.size = 8 := by rw [← e]; exact entryWord_size hk
    exact h ⟨h8, by rw [← entryGot_eq h8]; exact hk⟩
  · rw [entryWordB_no hk] at e
    rw [← e] at h1
    exact absurd h1 (by decide)

set_option maxRecDepth 100000 in
set_option maxHeartbeats 1000000 in
theorem implReadEntry_none (s : ByteArray) (w : World) (h : s.size = 0) :
    Calls Tryd.prog 16 #[.string s] w (SaysEnt ⟨0, ⟨#[]⟩⟩ false w) := by
  have R0 := Lib.hid (Bk.alloc w #[.int .i64 0, .string ⟨#[]⟩] 41)
  have B0 := Lib.hid (below_bk w (.cells #[.int .i64 0, .string ⟨#[]⟩] 41))
  have HB : Hid (numAtB s 0 1 = false) := Lib.hid (decide_eq_false (by omega))
  have hs : s.size ≤ 100 := by omega
  clear h
  go_enter Tryd.func16, Tryd.ntmps16
  go_wp2_with fail
  refine (implNumAt_any s 0 1 _ (by omega)).mono ?_
  rw [HB.out]
  rintro e w1 ⟨rfl, hb⟩
  have R1 := Lib.hid (R0.out.later hb)
  have B1 : Hid (Below w.heap.size w w1) := Lib.hid (B0.out.trans (hb.mono B0.out.size))
  clear hb
  have r0 := R1.out.cell (j := 0) rfl
  have r1 := R1.out.cell (j := 1) rfl
  have f0 := R1.out.fr (o := 0)
  have f1 := R1.out.fr (o := 1)
  have qf := (R1.out.set 0 (.int .i64 0)).set 1 (.string ⟨#[]⟩)
  have q0 := qf.cell (j := 0) (v := .int .i64 0) rfl
  have q1 := qf.cell (j := 1) (v := .string ⟨#[]⟩) rfl
  clear qf
  go_wp2
  refine bodyPost_ret (v := .tuple #[.agg #[.int .i64 0, .string ⟨#[]⟩], .bool false]) ?_ rfl ⟨rfl, ?_⟩
  · simp [results, Tryd.results16, go_sem, q0, q1]
  · exact (B1.out.setCell (Nat.le_refl _) _).setCell (Nat.le_refl _) _

set_option maxRecDepth 100000 in
set_option maxHeartbeats 2000000 in
theorem implReadEntry_got (s : ByteArray) (w : World) (h1 : 1 ≤ s.size) (hs : s.size ≤ 2000000) (b : Bool) (hb : b = true ↔ entryWordB (entryGot s) = s) :
    Calls Tryd.prog 16 #[.string s] w (SaysEnt (if b then entryGot s else ⟨0, ⟨#[]⟩⟩) b w) := by
  have R0 := Lib.hid (Bk.alloc w #[.int .i64 0, .string ⟨#[]⟩] 41)
  have B0 := Lib.hid (below_bk w (.cells #[.int .i64 0, .string ⟨#[]⟩] 41))
  have HB : Hid (numAtB s 0 1 = true) := Lib.hid (decide_eq_true (by omega))
  obtain ⟨P, hP⟩ : ∃ P, numAtV s 0 1 = P := ⟨_, rfl⟩
  obtain ⟨X, hX⟩ : ∃ X, s.extract 1 s.size = X := ⟨_, rfl⟩
  obtain ⟨M, hM⟩ : ∃ M, trimB X = M := ⟨_, rfl⟩
  have HXS : Hid (X.size ≤ 2000000) := Lib.hid (by rw [← hX, ByteArray.size_extract]; omega)
  have HMS : Hid (M.size ≤ 2000000) := Lib.hid (by have := HXS.out; rw [← hM]; unfold trimB; rw [ByteArray.size_extract]; omega)
  have hG : entryGot s = ⟨P, M⟩ := by unfold entryGot; rw [hP, hX, hM]
  obtain ⟨T, hT⟩ : ∃ T, entryWordB ⟨P, M⟩ = T := ⟨_, rfl⟩
  rw [hG] at hb ⊢
  rw [hT] at hb
  have HP := Lib.hid hP
  have HM := Lib.hid hM
  have HT := Lib.hid hT
  have HG := Lib.hid hb
  obtain ⟨RR, hRR⟩ : ∃ RR : EntryR, (if b then (⟨P, M⟩ : EntryR) else ⟨0, ⟨#[]⟩⟩) = RR := ⟨_, rfl⟩
  rw [hRR]
  have HRR := Lib.hid hRR
  clear hRR
  have l1 : (1 : Int) ≤ (s.size : Int) := by omega
  have hs1 := Lib.hid h1
  have hs0 := Lib.hid hs
  clear hb hP hM hT hG
  go_enter Tryd.func16, Tryd.ntmps16
  go_wp2_with fail
  refine (implNumAt_any s 0 1 _ (by omega)).mono ?_
  rw [HB.out, HP.out]
  rintro e w1 ⟨rfl, hb⟩
  have R1 := Lib.hid (R0.out.later hb)
  have B1 : Hid (Below w.heap.size w w1) := Lib.hid (B0.out.trans (hb.mono B0.out.size))
  clear hb
  go_wp2_with fail
  refine (trimRight_any X _ HXS.out).mono ?_
  rw [HM.out]
  rintro e w1x ⟨rfl, rfl⟩
  go_wp2_with fail
  refine (cloneText_any M _ HMS.out).mono ?_
  rintro e w2 ⟨rfl, hb⟩
  have hba := below_bk w2 (.cells #[.int .i64 P, .string M] 41)
  have R3 := Lib.hid ((R1.out.later hb).later hba)
  have B2 : Below w.heap.size w w2 := B1.out.trans (hb.mono B1.out.size)
  have B3 : Hid (Below w.heap.size w (w2.alloc (.cells #[.int .i64 P, .string M] 41))) := Lib.hid (B2.trans (hba.mono B2.size))
  have X3 := Lib.hid (Bk.alloc w2 #[.int .i64 P, .string M] 41)
  clear hb hba B2
  go_wp2_with fail
  refine (implEntryWord_any P M _ HMS.out).mono ?_
  rw [HT.out]
  rintro e w4 ⟨rfl, hb⟩
  have R4 := Lib.hid (R3.out.later hb)
  have X4 := Lib.hid (X3.out.later hb)
  have B4 : Hid (Below w.heap.size w w4) := Lib.hid (B3.out.trans (hb.mono B3.out.size))
  clear hb R3 X3 B3
  have x0 := X4.out.cell (j := 0) rfl
  have x1 := X4.out.cell (j := 1) rfl
  have r0 := R4.out.cell (j := 0) rfl
  have r1 := R4.out.cell (j := 1) rfl
  have f0 := R4.out.fr (o := 0)
  have f1 := R4.out.fr (o := 1)
  cases b
  · have hne : ¬ T = s := fun e => by cases HG.out.2 e
    have n1 := text_neB hne
    have n2 := text_ne hne
    have qf := (R4.out.set 0 (.int .i64 0)).set 1 (.string ⟨#[]⟩)
    have q0 := qf.cell (j := 0) (v := .int .i64 0) rfl
    have q1 := qf.cell (j := 1) (v := .string ⟨#[]⟩) rfl
    clear qf hne
    go_wp2
    refine bodyPost_ret (v := .tuple #[.agg #[.int .i64 0, .string ⟨#[]⟩], .bool false]) ?_ rfl ⟨by rw [← HRR.out]; rfl, ?_⟩
    · simp [results, Tryd.results16, go_sem, q0, q1]
    · exact (B4.out.setCell (Nat.le_refl _) _).setCell (Nat.le_refl _) _
  · obtain rfl : T = s := HG.out.1 rfl
    have qf := (R4.out.set 0 (.int .i64 P)).set 1 (.string M)
    have q0 := qf.cell (j := 0) (v := .int .i64 P) rfl
    have q1 := qf.cell (j := 1) (v := .string M) rfl
    clear qf
    go_wp2
    refine bodyPost_ret (v := .tuple #[.agg #[.int .i64 P, .string M], .bool true]) ?_ rfl ⟨by rw [← HRR.out]; rfl, ?_⟩
    · simp [results, Tryd.results16, go_sem, q0, q1]
    · exact (B4.out.setCell (Nat.le_refl _) _).setCell (Nat.le_refl _) _
theorem implReadEntry_any (s : ByteArray) (w : World) (hs : s.size ≤ 2000000) :
    Calls Tryd.prog 16 #[.string s] w (SaysEnt (entryReadR s) (entryReadB s) w) := by
  by_cases h : s.size = 8 ∧ EntryOk (entryOf s)
  · rw [show entryReadR s = entryOf s from if_pos h, show entryReadB s = true from decide_eq_true h, ← entryGot_eq h.1]
    exact implReadEntry_got s w (by omega) hs true ⟨fun _ => got_yes h.1 h.2, fun _ => rfl⟩
  · rw [show entryReadR s = ⟨0, ⟨#[]⟩⟩ from if_neg h, show entryReadB s = false from decide_eq_false h]
    by_cases h0 : s.size = 0
    · exact implReadEntry_none s w h0
    · exact implReadEntry_got s w (by omega) hs false ⟨fun e => (by cases e), fun e => absurd e (got_no (by omega) h)⟩
end Go.Proofs.YtcckhkihhhchbaaDoor
