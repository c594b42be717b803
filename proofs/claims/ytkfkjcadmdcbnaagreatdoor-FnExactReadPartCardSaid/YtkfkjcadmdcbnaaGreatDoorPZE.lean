/- Merged texts: RecRead, EntRead, InoReadA, InoFore2, InoReadB, HeadMath, GotMath, MarkText, Deep, Tree, TIntE, TRecE, TEntryE, TInoE. -/
import Derived.Test.YtkfkjcadmdcbnaaGreatDoorPZD
import Derived.Test.YtkfkjcadmdcbnaaGreatDoorRows
import Derived.WalkKit
import Derived.WalkSpells
import Derived.WalkLawsBesides
import Derived.Lib.Hide
import Derived.Deep.QuietTactic
import Derived.BigQuiet
import Derived.Deep.RegionHeld3
import Derived.OwnWalk
namespace Go.Proofs.YtkfkjcadmdcbnaaGreatDoor
open Go.RowKit Go.Proofs.YtkfkjcadmdcbnaaGreatDoor.Parts Go.Proofs.YtkfkjcadmdcbnaaGreatDoor.Hexa Go.Proofs.YtkfkjcadmdcbnaaGreatDoor.Byt

def recV (r : RecR) : Value := .agg #[.int .i64 r.f0, .int .i64 r.f1, .string r.f2]
def SaysRec (r : RecR) (b : Bool) (w : World) (e : Ending) (w' : World) : Prop := e = .returned (.tuple #[.agg #[.int .i64 r.f0, .int .i64 r.f1, .string r.f2], .bool b]) ∧ Below w.heap.size w w'
set_option maxRecDepth 100000 in
set_option maxHeartbeats 1000000 in
theorem specReadRec_len (s : ByteArray) (w : World) (_hs : s.size ≤ 2000000) (h : ¬ s.size = 8) :
    Calls Tryz.prog 125 #[.string s] w (SaysRec ⟨0, 0, ⟨#[]⟩⟩ false w) := by
  have R0 := Bk.alloc w #[.int .i64 0, .int .i64 0, .string ⟨#[]⟩] 139
  have B0 := Lib.hid (below_bk w (.cells #[.int .i64 0, .int .i64 0, .string ⟨#[]⟩] 139))
  have e8 : ((s.size : Int) == 8) = false := by simp; omega
  have e9 : ((s.size : Int) != 8) = true := by simp; omega
  clear R0
  go_enter Tryz.func125, Tryz.ntmps125
  go_wp2
  refine bodyPost_ret (v := .tuple #[.agg #[.int .i64 0, .int .i64 0, .string ⟨#[]⟩], .bool false]) ?_ rfl ⟨rfl, ?_⟩
  · simp [results, Tryz.results125, go_sem]
  · exact B0.out

set_option maxRecDepth 100000 in
set_option maxHeartbeats 1000000 in
theorem specReadRec_yes (s : ByteArray) (w : World) (h8 : s.size = 8) (h : RecOk (recOf s)) :
    Calls Tryz.prog 125 #[.string s] w (SaysRec (recOf s) true w) := by
  have R0 := Lib.hid (Bk.alloc w #[.int .i64 0, .int .i64 0, .string ⟨#[]⟩] 139)
  have B0 := Lib.hid (below_bk w (.cells #[.int .i64 0, .int .i64 0, .string ⟨#[]⟩] 139))
  have e8 : ((s.size : Int) == 8) = true := by simp; omega
  have e9 : ((s.size : Int) != 8) = false := by simp; omega
  have hs8 : s.size ≤ 8 := by omega
  have hs9 : 8 ≤ s.size := by omega
  have HB := Lib.hid (rec_back h8 h)
  have hex : s.extract 4 s.size = (recOf s).f2 := by rw [h8]; rfl
  obtain ⟨P, hP⟩ : ∃ P, numAtV s 0 1 = P := ⟨_, rfl⟩
  obtain ⟨Q, hQ⟩ : ∃ Q, numAtV s 1 3 = Q := ⟨_, rfl⟩
  obtain ⟨M, hM⟩ : ∃ M, s.extract 4 s.size = M := ⟨_, rfl⟩
  have hR : recOf s = ⟨P, Q, M⟩ := by rw [← hP, ← hQ, ← hM, hex]; rfl
  have hMs : M.size ≤ 8 := by rw [← hM, ByteArray.size_extract]; omega
  rw [hR] at HB ⊢
  have HP := Lib.hid hP
  have HQ := Lib.hid hQ
  have HM8 := Lib.hid hMs
  clear h8 h hex hP hQ hR hMs
  go_enter Tryz.func125, Tryz.ntmps125
  go_wp2_with fail
  refine (specNumAt_any s 0 1 _ (by omega) (by omega) (by omega)).mono ?_
  rw [HP.out]
  rintro e w1 ⟨rfl, hb⟩
  have R1 := Lib.hid (R0.out.later hb)
  have B1 : Hid (Below w.heap.size w w1) := Lib.hid (B0.out.trans (hb.mono B0.out.size))
  clear hb R0 B0
  go_wp2_with fail
  refine (specNumAt_any s 1 3 _ (by omega) (by omega) (by omega)).mono ?_
  rw [HQ.out]
  rintro e w2 ⟨rfl, hb⟩
  have hba := below_bk w2 (.cells #[.int .i64 P, .int .i64 Q, .string M] 139)
  have R3 := Lib.hid ((R1.out.later hb).later hba)
  have B2 : Below w.heap.size w w2 := B1.out.trans (hb.mono B1.out.size)
  have B3 : Hid (Below w.heap.size w (w2.alloc (.cells #[.int .i64 P, .int .i64 Q, .string M] 139))) := Lib.hid (B2.trans (hba.mono B2.size))
  have X3 := Lib.hid (Bk.alloc w2 #[.int .i64 P, .int .i64 Q, .string M] 139)
  clear hb hba B2 R1 B1
  go_wp2_with fail
  refine (specRecWord_any P Q M _ (by have := HM8.out; omega)).mono ?_
  rw [HB.out]
  rintro e w4 ⟨rfl, hb⟩
  have R4 := Lib.hid (R3.out.later hb)
  have X4 := Lib.hid (X3.out.later hb)
  have B4 : Hid (Below w.heap.size w w4) := Lib.hid (B3.out.trans (hb.mono B3.out.size))
  clear hb R3 X3 B3
  have x0 := X4.out.cell (j := 0) rfl
  have x1 := X4.out.cell (j := 1) rfl
  have x2 := X4.out.cell (j := 2) rfl
  have r0 := R4.out.cell (j := 0) rfl
  have r1 := R4.out.cell (j := 1) rfl
  have r2 := R4.out.cell (j := 2) rfl
  have f0 := R4.out.fr (o := 0)
  have f1 := R4.out.fr (o := 1)
  have f2 := R4.out.fr (o := 2)
  have qf := ((R4.out.set 0 (.int .i64 P)).set 1 (.int .i64 Q)).set 2 (.string M)
  have q0 := qf.cell (j := 0) (v := .int .i64 P) rfl
  have q1 := qf.cell (j := 1) (v := .int .i64 Q) rfl
  have q2 := qf.cell (j := 2) (v := .string M) rfl
  clear qf
  go_wp2
  refine bodyPost_ret (v := .tuple #[.agg #[.int .i64 P, .int .i64 Q, .string M], .bool true]) ?_ rfl ⟨rfl, ?_⟩
  · simp [results, Tryz.results125, go_sem, q0, q1, q2]
  · exact ((B4.out.setCell (Nat.le_refl _) _).setCell (Nat.le_refl _) _).setCell (Nat.le_refl _) _
set_option maxRecDepth 100000 in
set_option maxHeartbeats 1000000 in
theorem specReadRec_no (s : ByteArray) (w : World) (h8 : s.size = 8) (h : ¬ RecOk (recOf s)) :
    Calls Tryz.prog 125 #[.string s] w (SaysRec (⟨0, 0, ⟨#[]⟩⟩) false w) := by
  have R0 := Lib.hid (Bk.alloc w #[.int .i64 0, .int .i64 0, .string ⟨#[]⟩] 139)
  have B0 := Lib.hid (below_bk w (.cells #[.int .i64 0, .int .i64 0, .string ⟨#[]⟩] 139))
  have e8 : ((s.size : Int) == 8) = true := by simp; omega
  have e9 : ((s.size : Int) != 8) = false := by simp; omega
  have hs8 : s.size ≤ 8 := by omega
  have hs9 : 8 ≤ s.size := by omega
  have HB := Lib.hid (recWordB_no h)
  have n1 := text_full s (by omega)
  have n2 := text_full' s (by omega)
  have hex : s.extract 4 s.size = (recOf s).f2 := by rw [h8]; rfl
  obtain ⟨P, hP⟩ : ∃ P, numAtV s 0 1 = P := ⟨_, rfl⟩
  obtain ⟨Q, hQ⟩ : ∃ Q, numAtV s 1 3 = Q := ⟨_, rfl⟩
  obtain ⟨M, hM⟩ : ∃ M, s.extract 4 s.size = M := ⟨_, rfl⟩
  have hR : recOf s = ⟨P, Q, M⟩ := by rw [← hP, ← hQ, ← hM, hex]; rfl
  have hMs : M.size ≤ 8 := by rw [← hM, ByteArray.size_extract]; omega
  rw [hR] at HB
  have HP := Lib.hid hP
  have HQ := Lib.hid hQ
  have HM8 := Lib.hid hMs
  clear h8 h hex hP hQ hR hMs
  go_enter Tryz.func125, Tryz.ntmps125
  go_wp2_with fail
  refine (specNumAt_any s 0 1 _ (by omega) (by omega) (by omega)).mono ?_
  rw [HP.out]
  rintro e w1 ⟨rfl, hb⟩
  have R1 := Lib.hid (R0.out.later hb)
  have B1 : Hid (Below w.heap.size w w1) := Lib.hid (B0.out.trans (hb.mono B0.out.size))
  clear hb R0 B0
  go_wp2_with fail
  refine (specNumAt_any s 1 3 _ (by omega) (by omega) (by omega)).mono ?_
  rw [HQ.out]
  rintro e w2 ⟨rfl, hb⟩
  have hba := below_bk w2 (.cells #[.int .i64 P, .int .i64 Q, .string M] 139)
  have R3 := Lib.hid ((R1.out.later hb).later hba)
  have B2 : Below w.heap.size w w2 := B1.out.trans (hb.mono B1.out.size)
  have B3 : Hid (Below w.heap.size w (w2.alloc (.cells #[.int .i64 P, .int .i64 Q, .string M] 139))) := Lib.hid (B2.trans (hba.mono B2.size))
  have X3 := Lib.hid (Bk.alloc w2 #[.int .i64 P, .int .i64 Q, .string M] 139)
  clear hb hba B2 R1 B1
  go_wp2_with fail
  refine (specRecWord_any P Q M _ (by have := HM8.out; omega)).mono ?_
  rw [HB.out]
  rintro e w4 ⟨rfl, hb⟩
  have R4 := Lib.hid (R3.out.later hb)
  have X4 := Lib.hid (X3.out.later hb)
  have B4 : Hid (Below w.heap.size w w4) := Lib.hid (B3.out.trans (hb.mono B3.out.size))
  clear hb R3 X3 B3
  have x0 := X4.out.cell (j := 0) rfl
  have x1 := X4.out.cell (j := 1) rfl
  have x2 := X4.out.cell (j := 2) rfl
  have r0 := R4.out.cell (j := 0) rfl
  have r1 := R4.out.cell (j := 1) rfl
  have r2 := R4.out.cell (j := 2) rfl
  have f0 := R4.out.fr (o := 0)
  have f1 := R4.out.fr (o := 1)
  have f2 := R4.out.fr (o := 2)
  have qf := ((R4.out.set 0 (.int .i64 0)).set 1 (.int .i64 0)).set 2 (.string ⟨#[]⟩)
  have q0 := qf.cell (j := 0) (v := .int .i64 0) rfl
  have q1 := qf.cell (j := 1) (v := .int .i64 0) rfl
  have q2 := qf.cell (j := 2) (v := .string ⟨#[]⟩) rfl
  clear qf
  go_wp2
  refine bodyPost_ret (v := .tuple #[.agg #[.int .i64 0, .int .i64 0, .string ⟨#[]⟩], .bool false]) ?_ rfl ⟨rfl, ?_⟩
  · simp [results, Tryz.results125, go_sem, q0, q1, q2]
  · exact ((B4.out.setCell (Nat.le_refl _) _).setCell (Nat.le_refl _) _).setCell (Nat.le_refl _) _
theorem specReadRec_any (s : ByteArray) (w : World) (hs : s.size ≤ 2000000) :
    Calls Tryz.prog 125 #[.string s] w (SaysRec (recReadR s) (recReadB s) w) := by
  by_cases h : s.size = 8 ∧ RecOk (recOf s)
  · rw [show recReadR s = recOf s from if_pos h, show recReadB s = true from decide_eq_true h]
    exact specReadRec_yes s w h.1 h.2
  · rw [show recReadR s = ⟨0, 0, ⟨#[]⟩⟩ from if_neg h, show recReadB s = false from decide_eq_false h]
    by_cases h8 : s.size = 8
    · exact specReadRec_no s w h8 (fun e => h ⟨h8, e⟩)
    · exact specReadRec_len s w hs h8
end Go.Proofs.YtkfkjcadmdcbnaaGreatDoor
namespace Go.Proofs.YtkfkjcadmdcbnaaGreatDoor
open Go.RowKit Go.Proofs.YtkfkjcadmdcbnaaGreatDoor.Parts Go.Proofs.YtkfkjcadmdcbnaaGreatDoor.Hexa Go.Proofs.YtkfkjcadmdcbnaaGreatDoor.Byt

def SaysEnt (r : EntryR) (b : Bool) (w : World) (e : Ending) (w' : World) : Prop := e = .returned (.tuple #[.agg #[.int .i64 r.f0, .string r.f1], .bool b]) ∧ Below w.heap.size w w'
theorem byte_getD (s : ByteArray) (j : Nat) (hj : j < s.size) : s.data.toList.getD j 0 = s[j] := by
  have hj' : j < s.data.toList.length := by simpa using hj
  simp only [List.getD, List.getElem?_eq_getElem hj', Option.getD_some]
  rfl
set_option maxRecDepth 100000 in
set_option maxHeartbeats 1000000 in
theorem specReadEntry_len (s : ByteArray) (w : World) (_hs : s.size ≤ 2000000) (h : ¬ s.size = 8) :
    Calls Tryz.prog 126 #[.string s] w (SaysEnt ⟨0, ⟨#[]⟩⟩ false w) := by
  have B0 := Lib.hid (below_bk w (.cells #[.int .i64 0, .string ⟨#[]⟩] 143))
  have e8 : ((s.size : Int) == 8) = false := by simp; omega
  have e9 : ((s.size : Int) != 8) = true := by simp; omega
  go_enter Tryz.func126, Tryz.ntmps126
  go_wp2
  refine bodyPost_ret (v := .tuple #[.agg #[.int .i64 0, .string ⟨#[]⟩], .bool false]) ?_ rfl ⟨rfl, ?_⟩
  · simp [results, Tryz.results126, go_sem]
  · exact B0.out

set_option maxRecDepth 100000 in
set_option maxHeartbeats 4000000 in
theorem specReadEntry_yes (s : ByteArray) (w : World) (h8 : s.size = 8) (h : EntryOk (entryOf s)) :
    Calls Tryz.prog 126 #[.string s] w (SaysEnt (entryOf s) true w) := by
  have R0 := Lib.hid (Bk.alloc w #[.int .i64 0, .string ⟨#[]⟩] 143)
  have B0 := Lib.hid (below_bk w (.cells #[.int .i64 0, .string ⟨#[]⟩] 143))
  have e8 : ((s.size : Int) == 8) = true := by simp; omega
  have e9 : ((s.size : Int) != 8) = false := by simp; omega
  have hs8 : s.size ≤ 8 := by omega
  have hs9 : 8 ≤ s.size := by omega
  have HB := Lib.hid (entry_back h8 h)
  have hE0 := endTo_bd s.data.toList 8
  have HEO : Hid (endOf s = endTo s.data.toList 8) := Lib.hid rfl
  have H8 := Lib.hid h8
  have HEN := Lib.hid (show entryOf s = ⟨((s.data.toList.getD 0 0).toNat : Int), s.extract 1 (endOf s)⟩ from rfl)
  clear h8 h hE0
  go_enter Tryz.func126, Tryz.ntmps126
  go_wp2
  go_loop [4] (fun ev => ∃ k : Nat, 1 ≤ k ∧ k ≤ 8 ∧ ev = .int .i64 k ∧ Hid (endTo s.data.toList k = endTo s.data.toList 8)) (fun ev => (intOf ev).toNat)
  case atStart => exact ⟨8, by omega, by omega, rfl, Lib.hid rfl⟩
  case round =>
    obtain ⟨k, hk1, hk8, rfl, HK⟩ := hrel
    obtain ⟨m, rfl⟩ : ∃ m, k = m + 1 := ⟨k - 1, by omega⟩
    have hml : m < s.size := by omega
    obtain ⟨b, hb⟩ : ∃ b, s[m]'hml = b := ⟨_, rfl⟩
    have hb255 := b.toNat_lt
    have hmi : ((m + 1 : Nat) : Int) - 1 = (m : Int) := by omega
    by_cases hgo : 0 < m ∧ b = 0
    · obtain ⟨hm0, hb0⟩ := hgo
      subst hb0
      have HK2 : Hid (endTo s.data.toList m = endTo s.data.toList 8) := Lib.hid (by
        obtain ⟨j, rfl⟩ : ∃ j, m = j + 1 := ⟨m - 1, by omega⟩
        rw [← HK.out, endTo_step _ j (by rw [byte_getD s (j + 1) hml]; exact hb)])
      clear HK
      go_wp2
      go_round
      case rel => exact ⟨m, by omega, by omega, rfl, HK2⟩
      case measure => (simp [intOf]; try omega)
    · have HX : Hid (endOf s = m + 1) := Lib.hid (by
        rw [HEO.out, ← HK.out]
        by_cases h1 : m = 0
        · subst h1; rfl
        · obtain ⟨j, rfl⟩ : ∃ j, m = j + 1 := ⟨m - 1, by omega⟩
          rw [endTo_stop _ j (by rw [byte_getD s (j + 1) hml, hb]; exact fun e => hgo ⟨by omega, e⟩)])
      have hcase : ¬ (1 < m + 1) ∨ (1 < m + 1 ∧ ((b.toNat : Int) == 0) = false ∧ ¬ b = 0) := by
        by_cases h1 : m = 0
        · left; omega
        · right
          have hbn : ¬ b = 0 := fun e => hgo ⟨by omega, e⟩
          have hbt : ¬ b.toNat = 0 := fun e => hbn (UInt8.toNat_inj.1 (by rw [e]; rfl))
          exact ⟨by omega, by simp; omega, hbn⟩
      have hs0 : 0 < s.size := by omega
      obtain ⟨P, hP⟩ : ∃ P : Int, ((s[0]'hs0).toNat : Int) = P := ⟨_, rfl⟩
      obtain ⟨M, hM⟩ : ∃ M, s.extract 1 (m + 1) = M := ⟨_, rfl⟩
      have hR : entryOf s = ⟨P, M⟩ := by rw [HEN.out, HX.out, hM, byte_getD s 0 hs0, hP]
      have hMs : M.size ≤ 8 := by rw [← hM, ByteArray.size_extract]; omega
      rw [hR] at HB
      have HRR := Lib.hid hR
      have HM8 := Lib.hid hMs
      have P0 : 0 ≤ P := by omega
      have P1 : P ≤ 255 := by have := (s[0]'hs0).toNat_lt; omega
      have l1 : (0 : Int) ≤ (m : Int) := by omega
      have l2 : (m : Int) + 1 ≤ (s.size : Int) := by omega
      have l3 : (1 : Int) ≤ (m : Int) + 1 := by omega
      have l4 : ((m : Int) + 1).toNat = m + 1 := by omega
      clear hR hMs HK HEO HEN H8 hgo HX
      rcases hcase with hc | ⟨hc, hc2, hc3⟩
      all_goals
        go_wp2
        go_region_held3 (fun w' => True) (exact trivial) (first | fail)
        all_goals
          go_wp2_with fail
          have hba := below_bk (w.alloc (.cells #[.int .i64 0, .string ⟨#[]⟩] 143)) (.cells #[.int .i64 P, .string M] 143)
          have R3 := Lib.hid (R0.out.later hba).drew
          have B3 : Hid (Below w.heap.size w ((w.alloc (.cells #[.int .i64 0, .string ⟨#[]⟩] 143)).alloc (.cells #[.int .i64 P, .string M] 143)).drew) := Lib.hid ((B0.out.trans (hba.mono B0.out.size)).drew)
          have X3 := Lib.hid (Bk.alloc (w.alloc (.cells #[.int .i64 0, .string ⟨#[]⟩] 143)) #[.int .i64 P, .string M] 143).drew
          have hsz : (w.alloc (.cells #[.int .i64 0, .string ⟨#[]⟩] 143)).heap.size = w.heap.size + 1 := by simp
          rw [hsz] at X3
          clear hba hsz
          refine (specEntryWord_any P M _ (by have := HM8.out; omega)).mono ?_
          rw [HB.out]
          rintro e w4 ⟨rfl, hb4⟩
          have R4 := Lib.hid (R3.out.later hb4)
          have X4 := Lib.hid (X3.out.later hb4)
          have B4 : Hid (Below w.heap.size w w4) := Lib.hid (B3.out.trans (hb4.mono B3.out.size))
          clear hb4 R3 X3 B3
          have x0 := X4.out.cell (j := 0) rfl
          have x1 := X4.out.cell (j := 1) rfl
          have r0 := R4.out.cell (j := 0) rfl
          have r1 := R4.out.cell (j := 1) rfl
          have f0 := R4.out.fr (o := 0)
          have f1 := R4.out.fr (o := 1)
          have qf := (R4.out.set 0 (.int .i64 P)).set 1 (.string M)
          have q0 := qf.cell (j := 0) (v := .int .i64 P) rfl
          have q1 := qf.cell (j := 1) (v := .string M) rfl
          clear qf
          go_wp2
          refine bodyPost_ret (v := .tuple #[.agg #[.int .i64 P, .string M], .bool true]) ?_ rfl ⟨by rw [HRR.out], ?_⟩
          · simp [results, Tryz.results126, go_sem, q0, q1]
          · exact (B4.out.setCell (Nat.le_refl _) _).setCell (Nat.le_refl _) _
set_option maxRecDepth 100000 in
set_option maxHeartbeats 4000000 in
theorem specReadEntry_no (s : ByteArray) (w : World) (h8 : s.size = 8) (h : ¬ EntryOk (entryOf s)) :
    Calls Tryz.prog 126 #[.string s] w (SaysEnt (⟨0, ⟨#[]⟩⟩) false w) := by
  have R0 := Lib.hid (Bk.alloc w #[.int .i64 0, .string ⟨#[]⟩] 143)
  have B0 := Lib.hid (below_bk w (.cells #[.int .i64 0, .string ⟨#[]⟩] 143))
  have e8 : ((s.size : Int) == 8) = true := by simp; omega
  have e9 : ((s.size : Int) != 8) = false := by simp; omega
  have hs8 : s.size ≤ 8 := by omega
  have hs9 : 8 ≤ s.size := by omega
  have HB := Lib.hid (entryWordB_no h)
  have n1 := text_full s (by omega)
  have n2 := text_full' s (by omega)
  have hE0 := endTo_bd s.data.toList 8
  have HEO : Hid (endOf s = endTo s.data.toList 8) := Lib.hid rfl
  have H8 := Lib.hid h8
  have HEN := Lib.hid (show entryOf s = ⟨((s.data.toList.getD 0 0).toNat : Int), s.extract 1 (endOf s)⟩ from rfl)
  clear h8 h hE0
  go_enter Tryz.func126, Tryz.ntmps126
  go_wp2
  go_loop [4] (fun ev => ∃ k : Nat, 1 ≤ k ∧ k ≤ 8 ∧ ev = .int .i64 k ∧ Hid (endTo s.data.toList k = endTo s.data.toList 8)) (fun ev => (intOf ev).toNat)
  case atStart => exact ⟨8, by omega, by omega, rfl, Lib.hid rfl⟩
  case round =>
    obtain ⟨k, hk1, hk8, rfl, HK⟩ := hrel
    obtain ⟨m, rfl⟩ : ∃ m, k = m + 1 := ⟨k - 1, by omega⟩
    have hml : m < s.size := by omega
    obtain ⟨b, hb⟩ : ∃ b, s[m]'hml = b := ⟨_, rfl⟩
    have hb255 := b.toNat_lt
    have hmi : ((m + 1 : Nat) : Int) - 1 = (m : Int) := by omega
    by_cases hgo : 0 < m ∧ b = 0
    · obtain ⟨hm0, hb0⟩ := hgo
      subst hb0
      have HK2 : Hid (endTo s.data.toList m = endTo s.data.toList 8) := Lib.hid (by
        obtain ⟨j, rfl⟩ : ∃ j, m = j + 1 := ⟨m - 1, by omega⟩
        rw [← HK.out, endTo_step _ j (by rw [byte_getD s (j + 1) hml]; exact hb)])
      clear HK
      go_wp2
      go_round
      case rel => exact ⟨m, by omega, by omega, rfl, HK2⟩
      case measure => (simp [intOf]; try omega)
    · have HX : Hid (endOf s = m + 1) := Lib.hid (by
        rw [HEO.out, ← HK.out]
        by_cases h1 : m = 0
        · subst h1; rfl
        · obtain ⟨j, rfl⟩ : ∃ j, m = j + 1 := ⟨m - 1, by omega⟩
          rw [endTo_stop _ j (by rw [byte_getD s (j + 1) hml, hb]; exact fun e => hgo ⟨by omega, e⟩)])
      have hcase : ¬ (1 < m + 1) ∨ (1 < m + 1 ∧ ((b.toNat : Int) == 0) = false ∧ ¬ b = 0) := by
        by_cases h1 : m = 0
        · left; omega
        · right
          have hbn : ¬ b = 0 := fun e => hgo ⟨by omega, e⟩
          have hbt : ¬ b.toNat = 0 := fun e => hbn (UInt8.toNat_inj.1 (by rw [e]; rfl))
          exact ⟨by omega, by simp; omega, hbn⟩
      have hs0 : 0 < s.size := by omega
      obtain ⟨P, hP⟩ : ∃ P : Int, ((s[0]'hs0).toNat : Int) = P := ⟨_, rfl⟩
      obtain ⟨M, hM⟩ : ∃ M, s.extract 1 (m + 1) = M := ⟨_, rfl⟩
      have hR : entryOf s = ⟨P, M⟩ := by rw [HEN.out, HX.out, hM, byte_getD s 0 hs0, hP]
      have hMs : M.size ≤ 8 := by rw [← hM, ByteArray.size_extract]; omega
      rw [hR] at HB
      have HRR := Lib.hid hR
      have HM8 := Lib.hid hMs
      have P0 : 0 ≤ P := by omega
      have P1 : P ≤ 255 := by have := (s[0]'hs0).toNat_lt; omega
      have l1 : (0 : Int) ≤ (m : Int) := by omega
      have l2 : (m : Int) + 1 ≤ (s.size : Int) := by omega
      have l3 : (1 : Int) ≤ (m : Int) + 1 := by omega
      have l4 : ((m : Int) + 1).toNat = m + 1 := by omega
      clear hR hMs HK HEO HEN H8 hgo HX
      rcases hcase with hc | ⟨hc, hc2, hc3⟩
      all_goals
        go_wp2
        go_region_held3 (fun w' => True) (exact trivial) (first | fail)
        all_goals
          go_wp2_with fail
          have hba := below_bk (w.alloc (.cells #[.int .i64 0, .string ⟨#[]⟩] 143)) (.cells #[.int .i64 P, .string M] 143)
          have R3 := Lib.hid (R0.out.later hba).drew
          have B3 : Hid (Below w.heap.size w ((w.alloc (.cells #[.int .i64 0, .string ⟨#[]⟩] 143)).alloc (.cells #[.int .i64 P, .string M] 143)).drew) := Lib.hid ((B0.out.trans (hba.mono B0.out.size)).drew)
          have X3 := Lib.hid (Bk.alloc (w.alloc (.cells #[.int .i64 0, .string ⟨#[]⟩] 143)) #[.int .i64 P, .string M] 143).drew
          have hsz : (w.alloc (.cells #[.int .i64 0, .string ⟨#[]⟩] 143)).heap.size = w.heap.size + 1 := by simp
          rw [hsz] at X3
          clear hba hsz
          refine (specEntryWord_any P M _ (by have := HM8.out; omega)).mono ?_
          rw [HB.out]
          rintro e w4 ⟨rfl, hb4⟩
          have R4 := Lib.hid (R3.out.later hb4)
          have X4 := Lib.hid (X3.out.later hb4)
          have B4 : Hid (Below w.heap.size w w4) := Lib.hid (B3.out.trans (hb4.mono B3.out.size))
          clear hb4 R3 X3 B3
          have x0 := X4.out.cell (j := 0) rfl
          have x1 := X4.out.cell (j := 1) rfl
          have r0 := R4.out.cell (j := 0) rfl
          have r1 := R4.out.cell (j := 1) rfl
          have f0 := R4.out.fr (o := 0)
          have f1 := R4.out.fr (o := 1)
          have qf := (R4.out.set 0 (.int .i64 0)).set 1 (.string ⟨#[]⟩)
          have q0 := qf.cell (j := 0) (v := .int .i64 0) rfl
          have q1 := qf.cell (j := 1) (v := .string ⟨#[]⟩) rfl
          clear qf
          go_wp2
          refine bodyPost_ret (v := .tuple #[.agg #[.int .i64 0, .string ⟨#[]⟩], .bool false]) ?_ rfl ⟨rfl, ?_⟩
          · simp [results, Tryz.results126, go_sem, q0, q1]
          · exact (B4.out.setCell (Nat.le_refl _) _).setCell (Nat.le_refl _) _
theorem specReadEntry_any (s : ByteArray) (w : World) (hs : s.size ≤ 2000000) :
    Calls Tryz.prog 126 #[.string s] w (SaysEnt (entryReadR s) (entryReadB s) w) := by
  by_cases h : s.size = 8 ∧ EntryOk (entryOf s)
  · rw [show entryReadR s = entryOf s from if_pos h, show entryReadB s = true from decide_eq_true h]
    exact specReadEntry_yes s w h.1 h.2
  · rw [show entryReadR s = ⟨0, ⟨#[]⟩⟩ from if_neg h, show entryReadB s = false from decide_eq_false h]
    by_cases h8 : s.size = 8
    · exact specReadEntry_no s w h8 (fun e => h ⟨h8, e⟩)
    · exact specReadEntry_len s w hs h8
end Go.Proofs.YtkfkjcadmdcbnaaGreatDoor
namespace Go.Proofs.YtkfkjcadmdcbnaaGreatDoor
open Go.RowKit Go.Proofs.YtkfkjcadmdcbnaaGreatDoor.Parts Go.Proofs.YtkfkjcadmdcbnaaGreatDoor.Hexa Go.Proofs.YtkfkjcadmdcbnaaGreatDoor.Byt

def GivesIno (r : InoR) (b : Bool) (w : World) (e : Ending) (w' : World) : Prop :=
  ∃ aR cR aE cE, e = .returned (.tuple #[.agg #[.int .i64 r.kd, .int .i64 r.sz, .int .i64 r.gn, .string r.key, .slice aR r.R.length cR, .slice aE r.E.length cE], .bool b])
    ∧ w'.ownsRow w.heap.size 139 3 (.slice aR r.R.length cR) r.R.length (cellsE encRec r.R) ∧ w'.ownsRow w.heap.size 143 2 (.slice aE r.E.length cE) r.E.length (cellsE encEntry r.E)
    ∧ (aR = none ∨ aE = none) ∧ Below w.heap.size w w'
theorem read_badSize {L : List ByteArray} {k : Nat} (hk : k < L.length) (hb : ¬ (L.getD k default).size = 8) : ¬ ReadOk L := fun h => by
  have h1 : L.getD k default ∈ L := by simp [List.getD, hk]
  rw [← h.2] at h1
  exact hb (by rw [← h.2]; exact inoWords_sizes h1)

section
variable (a : Option Addr) (n c : Nat) (L : List ByteArray) (w : World)
theorem gives_zero {w' : World} (hb : Below w.heap.size w w') (hL : ¬ ReadOk L) {e : Ending} (he : e = .returned (.tuple #[.agg #[.int .i64 0, .int .i64 0, .int .i64 0, .string ⟨#[]⟩, .slice none 0 0, .slice none 0 0], .bool false])) : GivesIno (readInoR L) (readInoB L) w e w' := by
  rw [readInoR_no hL, readInoB_no hL]
  exact ⟨none, 0, none, 0, he, ⟨rfl, .inl ⟨rfl, rfl⟩⟩, ⟨rfl, .inl ⟨rfl, rfl⟩⟩, .inl rfl, hb⟩

set_option maxRecDepth 100000 in
set_option maxHeartbeats 1000000 in
theorem specReadIno_len (hs : SrcT w a n L) (h : ¬ n = 8) : Calls Tryz.prog 71 #[.slice a n c] w (GivesIno (readInoR L) (readInoB L) w) := by
  have hlen : L.length = n := hs.len
  have HL : Hid (¬ ReadOk L) := Lib.hid (fun x => h (by rw [← hlen]; exact x.1))
  have B0 := Lib.hid (below_bk w (inoObj 0 0 0 ⟨#[]⟩ none 0 0 none 0 0))
  have e8 : ((n : Int) == 8) = false := by simp; omega
  have e9 : ((n : Int) != 8) = true := by simp only [bne, e8]; rfl
  clear hs hlen
  go_enter Tryz.func71, Tryz.ntmps71
  go_wp2
  refine bodyPost_ret (v := .tuple #[.agg #[.int .i64 0, .int .i64 0, .int .i64 0, .string ⟨#[]⟩, .slice none 0 0, .slice none 0 0], .bool false]) ?_ rfl (gives_zero L w B0.out HL.out rfl)
  simp [results, Tryz.results71, go_sem]

set_option maxRecDepth 100000 in
set_option maxHeartbeats 1000000 in
theorem specReadIno_size (hs : SrcT w a n L) (h8 : n = 8) (hm : ∀ j, j < n → (L.getD j default).size ≤ 2000000) (h : ¬ ∀ j, j < 8 → (L.getD j default).size = 8) : Calls Tryz.prog 71 #[.slice a n c] w (GivesIno (readInoR L) (readInoB L) w) := by
  subst h8
  have HLn : Hid (L.length = 8) := Lib.hid hs.len
  have HS := Lib.hid hs
  have HM := Lib.hid hm
  have HN := Lib.hid h
  have B0 := Lib.hid (below_bk w (inoObj 0 0 0 ⟨#[]⟩ none 0 0 none 0 0))
  clear hs hm h
  go_enter Tryz.func71, Tryz.ntmps71
  go_wp2
  go_loop [4] (fun iv => ∃ k : Nat, k ≤ 8 ∧ iv = .int .i64 k ∧ Hid (∀ j, j < k → (L.getD j default).size = 8)) (fun iv => 8 - (intOf iv).toNat)
  case atStart => exact ⟨0, Nat.zero_le _, rfl, Lib.hid (fun j hj => by omega)⟩
  case round =>
    obtain ⟨k, hk, rfl, HA⟩ := hrel
    by_cases hlt : k < 8
    · obtain ⟨g, off, ha, hg, d0⟩ := srcT_later HS.out B0.out (Nat.le_refl _) k hlt
      obtain ⟨x, hx⟩ : ∃ x, L.getD k default = x := ⟨_, rfl⟩
      have hm := HM.out k hlt
      rw [hx] at d0 hm
      have HX := Lib.hid hx
      subst ha
      clear hx
      by_cases i1 : x.size = 8
      · have HA2 : Hid (∀ j, j < k + 1 → (L.getD j default).size = 8) := Lib.hid (fun j hj => by
          by_cases e : j = k
          · subst e; rw [HX.out]; exact i1
          · exact HA.out j (by omega))
        have e9 : ((x.size : Int) != 8) = false := by simp; omega
        go_wp2
        go_round
        case rel => exact ⟨k + 1, by omega, by go_num, HA2⟩
        case measure => (simp [intOf]; try omega)
      · have HL : Hid (¬ ReadOk L) := Lib.hid (read_badSize (k := k) (by rw [HLn.out]; exact hlt) (by rw [HX.out]; exact i1))
        have e8 : ((x.size : Int) == 8) = false := by simp; omega
        have e9 : ((x.size : Int) != 8) = true := by simp only [bne, e8]; rfl
        go_wp2
        refine bodyPost_ret (v := .tuple #[.agg #[.int .i64 0, .int .i64 0, .int .i64 0, .string ⟨#[]⟩, .slice none 0 0, .slice none 0 0], .bool false]) ?_ rfl (gives_zero L w B0.out HL.out rfl)
        simp [results, Tryz.results71, go_sem]
    · exact absurd (fun j hj => HA.out j (by omega)) HN.out
end
end Go.Proofs.YtkfkjcadmdcbnaaGreatDoor
namespace Go.Proofs.YtkfkjcadmdcbnaaGreatDoor
open Go.RowKit Go.Proofs.YtkfkjcadmdcbnaaGreatDoor.Parts Go.Proofs.YtkfkjcadmdcbnaaGreatDoor.Hexa Go.Proofs.YtkfkjcadmdcbnaaGreatDoor.Byt

theorem stop_words (h k : ByteArray) (M : List ByteArray) (j : Nat) (hj : M.length + j = 6) (hz : ∀ x ∈ M, x ≠ zero8) :
    stopOf ([h, k] ++ M ++ List.replicate j zero8) = 2 + M.length ∧ midTo ([h, k] ++ M ++ List.replicate j zero8) (2 + M.length) = M := by
  refine ⟨stop_at (by omega) (by omega) (fun i h1 h2 => ?_) ?_, ?_⟩
  · have hm : i - 2 < M.length := by omega
    have e : ([h, k] ++ M ++ List.replicate j zero8).getD i default = M[i - 2] := by
      simp only [List.getD]
      rw [List.getElem?_append_left (by simp; omega), List.getElem?_append_right (by simp; omega)]
      simp [hm]
    rw [e]
    exact hz _ (List.getElem_mem hm)
  · by_cases e : j = 0
    · left; omega
    · right
      simp only [List.getD]
      rw [List.getElem?_append_right (by simp; omega), List.getElem?_replicate, if_pos (by simp; omega)]
      rfl
  · unfold midTo
    rw [List.take_append_of_le_length (by simp; omega), List.take_of_length_le (by simp; omega)]
    rfl
theorem recZero : ¬ RecOk (recOf zero8) := by decide +kernel
theorem entZero : ¬ EntryOk (entryOf zero8) := by decide +kernel
theorem head_list {n : InoR} (h0 : 0 ≤ n.kd ∧ n.kd ≤ 2) (h1 : 0 ≤ n.sz ∧ n.sz ≤ 65535) (h2 : 0 ≤ n.gn ∧ n.gn ≤ 65535) :
    (((headB n).data.toList.getD 0 0).toNat : Int) = n.kd ∧ numAtV (headB n) 1 2 = n.sz ∧ numAtV (headB n) 3 2 = n.gn := by
  obtain ⟨b, hb⟩ : ∃ b : UInt8, (b.toNat : Int) = n.kd := ⟨UInt8.ofNat n.kd.toNat, by rw [UInt8.toNat_ofNat']; omega⟩
  have e1 : (numTextB n.kd 1).data.toList = [b] := by rw [← hb]; exact one_byte b (by omega)
  have s1 : (numTextB n.kd 1).size = 1 := numText_size (k := 1) (by omega) (by omega) (by omega)
  have s2 : (numTextB n.sz 2).size = 2 := numText_size (k := 2) (by omega) (by omega) (by omega)
  have s3 : (numTextB n.gn 2).size = 2 := numText_size (k := 2) (by omega) (by omega) (by omega)
  have l2 := list_of_size s2
  have l3 := list_of_size s3
  have hl : (headB n).data.toList = [b] ++ (numTextB n.sz 2).data.toList ++ (numTextB n.gn 2).data.toList ++ List.replicate 3 0 := by
    have e2 : (numTextB n.kd 1 ++ numTextB n.sz 2 ++ numTextB n.gn 2).size = 5 := by rw [ByteArray.size_append, ByteArray.size_append, s1, s2, s3]
    unfold headB wordB
    rw [if_pos (by omega), e2, ByteArray.data_append, ByteArray.data_append, ByteArray.data_append, Array.toList_append, Array.toList_append, Array.toList_append, e1]
    rfl
  have h8 : (headB n).size = 8 := by
    have : (headB n).data.toList.length = 8 := by rw [hl]; simp [l2, l3]
    simpa using this
  refine ⟨by rw [hl, ← hb]; rfl, numAt_fore _ 1 2 n.sz (by omega) (by omega) h1.1 (by omega) ?_, numAt_fore _ 3 2 n.gn (by omega) (by omega) h2.1 (by omega) ?_⟩
  · unfold cutL
    rw [hl, List.append_assoc ([b] ++ _)]
    exact cut_next _ _ _ 1 2 rfl l2
  · unfold cutL
    rw [hl]
    exact cut_next _ _ _ 3 2 (by simp [l2]) l3
theorem map_id_of {α : Type} [Inhabited α] (f : α → α) (L : List α) (h : ∀ j, j < L.length → f (L.getD j default) = L.getD j default) : L.map f = L := by
  apply List.ext_getElem (by simp)
  intro i h1 h2
  have h9 := h i h2
  simpa [List.getD, h2] using h9
theorem inoOf_words {n : InoR} (h : InoOk n) : inoOf (inoWordsB n) = n := by
  have hle := wordsI_le h
  have hlen : (wordsI n).length = 2 + (n.R.map recWordB ++ n.E.map entryWordB).length := by unfold wordsI; simp; omega
  have hL : inoWordsB n = [headB n, wordB n.key] ++ (n.R.map recWordB ++ n.E.map entryWordB) ++ List.replicate (8 - (wordsI n).length) zero8 := by
    rw [inoWords_yes h]; unfold fillTo wordsI; rw [List.append_assoc [headB n, wordB n.key]]
  have hM : ∀ x ∈ n.R.map recWordB ++ n.E.map entryWordB, x ≠ zero8 := by
    intro x hx
    rw [List.mem_append, List.mem_map, List.mem_map] at hx
    rcases hx with ⟨r, hr, rfl⟩ | ⟨r, hr, rfl⟩
    · obtain ⟨j, hj, rfl⟩ := getD_mem_i _ hr
      rcases h with ⟨_, ⟨_, h⟩ | ⟨_, h⟩ | ⟨_, h⟩⟩
      · have := h.2.2.1; omega
      · have hr := (h.2.2.2.2 j hj).1
        intro e
        have := rec_fore hr
        rw [e] at this
        exact recZero (by rw [this]; exact hr)
      · have := h.2.2.1; omega
    · obtain ⟨j, hj, rfl⟩ := getD_mem_i _ hr
      rcases h with ⟨_, ⟨_, h⟩ | ⟨_, h⟩ | ⟨_, h⟩⟩
      · have := h.2.2.2; omega
      · have := h.2.2.2.1; omega
      · have hr := (h.2.2.2.2 j hj).1
        intro e
        have := ent_fore hr
        rw [e] at this
        exact entZero (by rw [this]; exact hr)
  obtain ⟨hst, hmid⟩ := stop_words (headB n) (wordB n.key) _ (8 - (wordsI n).length) (by omega) hM
  have hk : 0 ≤ n.kd ∧ n.kd ≤ 2 := by rcases h with ⟨_, ⟨e, _⟩ | ⟨e, _⟩ | ⟨e, _⟩⟩ <;> omega
  have hz : 0 ≤ n.sz ∧ n.sz ≤ 65535 := by
    rcases h with ⟨_, ⟨_, h⟩ | ⟨_, h⟩ | ⟨_, h⟩⟩
    · have := h.1; omega
    · have := h.1; omega
    · have := h.1; omega
  obtain ⟨k1, k2, k3⟩ := head_list hk hz h.1
  unfold inoOf inoTo kindOf
  rw [hL, hst, hmid]
  show (⟨(((headB n).data.toList.getD 0 0).toNat : Int), numAtV (headB n) 1 2, numAtV (headB n) 3 2, if (((headB n).data.toList.getD 0 0).toNat : Int) = 1 then wordB n.key else ⟨#[]⟩, if (((headB n).data.toList.getD 0 0).toNat : Int) = 1 then _ else [], if (((headB n).data.toList.getD 0 0).toNat : Int) = 2 then _ else []⟩ : InoR) = n
  rw [k1, k2, k3]
  obtain ⟨kd, sz, gn, key, R, E⟩ := n
  rcases h with ⟨_, ⟨e, h⟩ | ⟨e, h⟩ | ⟨e, h⟩⟩
  · obtain rfl : kd = 0 := e
    obtain ⟨_, g2, g3, g4⟩ := h
    obtain rfl : key = ⟨#[]⟩ := text_nothing g2
    obtain rfl : R = [] := List.length_eq_zero_iff.1 g3
    obtain rfl : E = [] := List.length_eq_zero_iff.1 g4
    rfl
  · obtain rfl : kd = 1 := e
    obtain ⟨_, g2, _, g4, g5⟩ := h
    obtain rfl : E = [] := List.length_eq_zero_iff.1 g4
    have hkey : wordB key = key := by
      have g2 : key.size = 8 := g2
      unfold wordB
      rw [if_pos (by omega), g2]
      exact ByteArray.append_empty
    have hR : (R.map recWordB).map recOf = R := by
      rw [List.map_map]
      exact map_id_of _ R (fun j hj => rec_fore (g5 j hj).1)
    simp [hkey, hR]
  · obtain rfl : kd = 2 := e
    obtain ⟨_, g2, g3, _, g5⟩ := h
    obtain rfl : key = ⟨#[]⟩ := text_nothing g2
    obtain rfl : R = [] := List.length_eq_zero_iff.1 g3
    have hE : (E.map entryWordB).map entryOf = E := by
      rw [List.map_map]
      exact map_id_of _ E (fun j hj => ent_fore (g5 j hj).1)
    simp
    exact map_id_of _ E (fun j hj => ent_fore (g5 j hj).1)
end Go.Proofs.YtkfkjcadmdcbnaaGreatDoor
namespace Go.Proofs.YtkfkjcadmdcbnaaGreatDoor
open Go.RowKit Go.Proofs.YtkfkjcadmdcbnaaGreatDoor.Parts Go.Proofs.YtkfkjcadmdcbnaaGreatDoor.Hexa Go.Proofs.YtkfkjcadmdcbnaaGreatDoor.Byt

abbrev zeroCs : Array Value := inoCs 0 0 0 ⟨#[]⟩ none 0 0 none 0 0
/-- The result's box and the inode's box, and nothing else of the old world written. -/
structure RSt (w : World) (cs : Array Value) (wr : World) : Prop where
  res : Bk wr w.heap.size zeroCs 102
  box : Bk wr (w.heap.size + 1) cs 102
  below : Below w.heap.size w wr
section
variable {w wr w' : World} {cs : Array Value}
theorem RSt.call (h : RSt w cs wr) (hb : Below wr.heap.size wr w') : RSt w cs w' := ⟨h.res.later hb, h.box.later hb, below_on h.below (Nat.le_refl _) hb⟩
theorem RSt.drew (h : RSt w cs wr) : RSt w cs wr.drew := ⟨h.res.drew, h.box.drew, h.below.drew⟩
theorem RSt.drewN (h : RSt w cs wr) (n : Nat) : RSt w cs (wr.drewN n) := ⟨h.res, h.box, below_drewsN h.below n⟩
theorem RSt.set (h : RSt w cs wr) (j : Nat) (v : Value) : RSt w (cs.setIfInBounds j v) (wr.setCell ⟨w.heap.size + 1, j, none⟩ v) :=
  ⟨h.res.other (Nat.ne_of_lt (Nat.lt_succ_self _)) v, h.box.set j v, h.below.setCell (Nat.le_succ _) v⟩
theorem RSt.size (h : RSt w cs wr) : w.heap.size + 2 ≤ wr.heap.size := by have := h.box.lt; omega
theorem RSt.start (w : World) (cs : Array Value) : RSt w cs ((w.alloc (.cells zeroCs 102)).alloc (.cells cs 102)) :=
  ⟨(Bk.alloc w zeroCs 102).later (below_bk _ _), by have h := Bk.alloc (w.alloc (.cells zeroCs 102)) cs 102; rw [show (w.alloc (.cells zeroCs 102)).heap.size = w.heap.size + 1 by simp] at h; exact h,
   below_on (below_bk w _) (Nat.le_refl _) (below_bk _ _)⟩
end

theorem readInoB_iff {L : List ByteArray} (h : L.length = 8) : readInoB L = true ↔ inoWordsB (inoOf L) = L := by
  by_cases h1 : ReadOk L
  · exact ⟨fun _ => h1.2, fun _ => readInoB_yes h1⟩
  · exact ⟨fun e => by rw [readInoB_no h1] at e; exact absurd e (by decide), fun e => absurd ⟨h, e⟩ h1⟩
theorem inoWords_le (n : InoR) : (inoWordsB n).length ≤ 8 := by
  by_cases h : InoOk n
  · rw [inoWords_length h]; exact Nat.le_refl _
  · rw [inoWords_no h]; exact Nat.zero_le _

section
variable (a : Option Addr) (c : Nat) (L : List ByteArray) (w : World)
set_option maxRecDepth 100000 in
set_option maxHeartbeats 2000000 in
theorem specReadIno_else (hs : SrcT w a 8 L) (h8 : ∀ j, j < 8 → (L.getD j default).size = 8) (hk1 : ¬ kindOf L = 1) (hk2 : ¬ kindOf L = 2) : Calls Tryz.prog 71 #[.slice a 8 c] w (GivesIno (readInoR L) (readInoB L) w) := by
  have HLn : Hid (L.length = 8) := Lib.hid hs.len
  have HS := Lib.hid hs
  have H8 := Lib.hid h8
  have B0 := Lib.hid (below_bk w (inoObj 0 0 0 ⟨#[]⟩ none 0 0 none 0 0))
  obtain ⟨g, off, ha, hg, _⟩ := srcT_at hs 0 (by omega)
  have HC : Hid (∀ {w' : World}, Below w.heap.size w w' → ∀ j, j < 8 → w'.cell? ⟨g, off + j, none⟩ = some (.string (L.getD j default))) := Lib.hid (fun hb j hj => by
    obtain ⟨g', off', ha', _, d⟩ := srcT_later HS.out hb (Nat.le_refl _) j hj
    rw [ha] at ha'; cases ha'
    exact d)
  obtain ⟨x0, hx0⟩ : ∃ x, L.getD 0 default = x := ⟨_, rfl⟩
  have hx8 : x0.size = 8 := by rw [← hx0]; exact h8 0 (by omega)
  have h0s : 0 < x0.size := by omega
  obtain ⟨kd, hkd⟩ : ∃ kd : Int, ((x0[0]'h0s).toNat : Int) = kd := ⟨_, rfl⟩
  have hkk : kindOf L = kd := by unfold kindOf; rw [hx0, byte_getD x0 0 h0s, hkd]
  rw [hkk] at hk1 hk2
  have HX0 := Lib.hid hx0
  have HKK := Lib.hid hkk
  have HKD := Lib.hid hkd
  have kd0 : 0 ≤ kd := by omega
  have kd1 : kd ≤ 255 := by have := (x0[0]'h0s).toNat_lt; omega
  obtain ⟨sz, hsz⟩ : ∃ z : Int, numAtV x0 1 2 = z := ⟨_, rfl⟩
  obtain ⟨gn, hgn⟩ : ∃ z : Int, numAtV x0 3 2 = z := ⟨_, rfl⟩
  obtain ⟨sb, hsb⟩ : ∃ z : Bool, numAtB x0 1 2 = z := ⟨_, rfl⟩
  obtain ⟨gb, hgb⟩ : ∃ z : Bool, numAtB x0 3 2 = z := ⟨_, rfl⟩
  obtain ⟨T, hT⟩ : ∃ T, zeroB 8 = T := ⟨_, rfl⟩
  have hszb : -9223372036854775808 ≤ sz ∧ sz ≤ 9223372036854775807 := by
    have h9 : 0 ≤ numAtV x0 1 2 ∧ numAtV x0 1 2 < 256 ^ 2 := numAtV_lt x0 1 2 (by omega) (by omega)
    rw [← hsz]
    have h10 : ((256 : Int) ^ 2) = 65536 := by decide
    rw [h10] at h9
    exact ⟨by have := h9.1; omega, by have := h9.2; omega⟩
  have HSZ := Lib.hid hsz
  have HGN := Lib.hid hgn
  have HSB := Lib.hid hsb
  have HGB := Lib.hid hgb
  have HT := Lib.hid hT
  have HZB := Lib.hid hszb
  have HK1 := Lib.hid hk1
  have HK2 := Lib.hid hk2
  have hgne : ¬ g = w.heap.size + 1 := by omega
  have hgne2 : ¬ w.heap.size + 1 = g := by omega
  subst ha
  clear hs h8 hx0 hkk hsz hgn hsb hgb hT hszb
  go_enter Tryz.func71, Tryz.ntmps71
  go_wp2
  go_loop [4] (fun iv => ∃ k : Nat, k ≤ 8 ∧ iv = .int .i64 k) (fun iv => 8 - (intOf iv).toNat)
  case atStart => exact ⟨0, Nat.zero_le _, rfl⟩
  case round =>
    obtain ⟨k, hk, rfl⟩ := hrel
    by_cases hlt : k < 8
    · have d0 := HC.out B0.out k hlt
      obtain ⟨x, hx⟩ : ∃ x, L.getD k default = x := ⟨_, rfl⟩
      have hxs : x.size = 8 := by rw [← hx]; exact H8.out k hlt
      rw [hx] at d0
      have e9 : ((x.size : Int) != 8) = false := by simp; omega
      clear hx
      go_wp2
      go_round
      case rel => exact ⟨k + 1, by omega, by go_num⟩
      case measure => (simp [intOf]; try omega)
    · obtain rfl : k = 8 := by omega
      have d0 := HC.out B0.out 0 (by omega)
      rw [HX0.out, Nat.add_zero] at d0
      go_wp2_with fail
      refine (specNumAt_any x0 1 2 _ (by omega) (by omega) (by omega)).mono ?_
      rw [HSZ.out, HSB.out]
      rintro e w1 ⟨rfl, hb1⟩
      have S1 := Lib.hid ((RSt.start w (inoCs kd 0 0 ⟨#[]⟩ none 0 0 none 0 0)).call hb1)
      have x1 := S1.out.box.cell (j := 1) rfl
      have z1 := S1.out.box.fr (o := 1)
      have S2 := Lib.hid (S1.out.set 1 (.int .i64 sz))
      have d1 := HC.out S1.out.below 0 (by omega)
      rw [HX0.out, Nat.add_zero] at d1
      clear hb1 d0
      go_wp2_with fail
      refine (specNumAt_any x0 3 2 _ (by omega) (by omega) (by omega)).mono ?_
      rw [HGN.out, HGB.out]
      rintro e w2 ⟨rfl, hb2⟩
      have S3 := Lib.hid (S2.out.call hb2)
      have x2 := S3.out.box.cell (j := 2) rfl
      have z2 := S3.out.box.fr (o := 2)
      have S4 := Lib.hid (S3.out.set 2 (.int .i64 gn))
      clear hb2 d1 x1 z1
      go_wp2_with fail
      refine (specZero_any 8 _).mono ?_
      rw [HT.out]
      rintro e w3 ⟨rfl, hb3⟩
      have S5 := Lib.hid (S4.out.call hb3)
      clear hb3 x2 z2
      have y0 := S5.out.box.cell (j := 0) rfl
      have y1 := S5.out.box.cell (j := 1) rfl
      have y2 := S5.out.box.cell (j := 2) rfl
      have y3 := S5.out.box.cell (j := 3) rfl
      have y4 := S5.out.box.cell (j := 4) rfl
      have y5 := S5.out.box.cell (j := 5) rfl
      go_wp2
      go_loop [7] (fun iv => ∃ k : Nat, 2 ≤ k ∧ k ≤ 8 ∧ iv = .int .i64 k ∧ Hid (Filled L k)) (fun iv => 8 - (intOf iv).toNat)
      case atStart => exact ⟨2, by omega, by omega, rfl, Lib.hid (fun j h1 h2 => by omega)⟩
      case round =>
        obtain ⟨k, hk2, hk, rfl, HF⟩ := hrel
        by_cases hlt : k < 8
        · have d3 := HC.out S5.out.below k hlt
          obtain ⟨x, hx⟩ : ∃ x, L.getD k default = x := ⟨_, rfl⟩
          rw [hx] at d3
          have HX := Lib.hid hx
          clear hx
          by_cases hxz : x = T
          · subst hxz
            have HST : Hid (stopOf L = k) := Lib.hid (stop_at hk2 (by omega) HF.out (.inr (by rw [HX.out, ← HT.out]; rfl)))
            have HI : Hid (inoOf L = ⟨kd, sz, gn, ⟨#[]⟩, [], []⟩) := Lib.hid (by unfold inoOf inoTo; rw [HKK.out, HX0.out, HSZ.out, HGN.out, if_neg HK1.out, if_neg HK1.out, if_neg HK2.out])
            go_wp2_with fail
            refine (specInoWords_any kd sz gn ⟨#[]⟩ none 0 0 none 0 0 _ [] [] HZB.out (SrcE.nil _ _ _) (fun j hj => absurd hj (Nat.not_lt_zero _)) (SrcE.nil _ _ _) (fun j hj => absurd hj (Nat.not_lt_zero _))).mono ?_
            rintro e w6 ⟨v6, rfl, hown6, hb6⟩
            obtain ⟨a6, c6, rfl, _, _, _⟩ := own_form hown6
            have R6 := Lib.hid (srcT_of_own hown6)
            have S6 := Lib.hid (S5.out.call hb6)
            have L6 : Hid ((inoWordsB ⟨kd, sz, gn, ⟨#[]⟩, [], []⟩).length ≤ 8) := Lib.hid (inoWords_le _)
            clear hown6 hb6 y0 y1 y2 y3 y4 y5
            go_wp2_with fail
            refine (wordsEq_any _ _ _ 8 _ _ _ L _ (by have := L6.out; omega) R6.out (HS.out.below S6.out.below (Nat.le_refl _)) (readInoB L) (by rw [readInoB_iff HLn.out, HI.out])).mono ?_
            rintro e w7 ⟨rfl, q7, rfl⟩
            have S7 := Lib.hid (S6.out.drewN q7)
            have y0 := S7.out.box.cell (j := 0) rfl
            have y1 := S7.out.box.cell (j := 1) rfl
            have y2 := S7.out.box.cell (j := 2) rfl
            have y3 := S7.out.box.cell (j := 3) rfl
            have y4 := S7.out.box.cell (j := 4) rfl
            have y5 := S7.out.box.cell (j := 5) rfl
            have r0 := S7.out.res.cell (j := 0) rfl
            have r1 := S7.out.res.cell (j := 1) rfl
            have r2 := S7.out.res.cell (j := 2) rfl
            have r3 := S7.out.res.cell (j := 3) rfl
            have r4 := S7.out.res.cell (j := 4) rfl
            have r5 := S7.out.res.cell (j := 5) rfl
            have f0 := S7.out.res.fr (o := 0)
            have f1 := S7.out.res.fr (o := 1)
            have f2 := S7.out.res.fr (o := 2)
            have f3 := S7.out.res.fr (o := 3)
            have f4 := S7.out.res.fr (o := 4)
            have f5 := S7.out.res.fr (o := 5)
            by_cases hok : ReadOk L
            · have HOK := Lib.hid hok
              have hrb := readInoB_yes hok
              rw [hrb]
              clear hok hrb
              have qf := ((((((S7.out.res.set 0 (.int .i64 kd)).set 1 (.int .i64 sz)).set 2 (.int .i64 gn)).set 3 (.string ⟨#[]⟩)).set 4 (.slice none 0 0)).set 5 (.slice none 0 0))
              have q0 := qf.cell (j := 0) (v := .int .i64 kd) rfl
              have q1 := qf.cell (j := 1) (v := .int .i64 sz) rfl
              have q2 := qf.cell (j := 2) (v := .int .i64 gn) rfl
              have q3 := qf.cell (j := 3) (v := .string ⟨#[]⟩) rfl
              have q4 := qf.cell (j := 4) (v := .slice none 0 0) rfl
              have q5 := qf.cell (j := 5) (v := .slice none 0 0) rfl
              clear qf
              go_wp2
              refine bodyPost_ret (v := .tuple #[.agg #[.int .i64 kd, .int .i64 sz, .int .i64 gn, .string ⟨#[]⟩, .slice none 0 0, .slice none 0 0], .bool true]) ?_ rfl (by rw [readInoR_yes HOK.out, readInoB_yes HOK.out, HI.out]; exact ⟨none, 0, none, 0, rfl, ⟨rfl, .inl ⟨rfl, rfl⟩⟩, ⟨rfl, .inl ⟨rfl, rfl⟩⟩, .inl rfl, (((((S7.out.below.setCell (Nat.le_refl _) _).setCell (Nat.le_refl _) _).setCell (Nat.le_refl _) _).setCell (Nat.le_refl _) _).setCell (Nat.le_refl _) _).setCell (Nat.le_refl _) _⟩)
              simp [results, Tryz.results71, go_sem, q0, q1, q2, q3, q4, q5]
            · have HOK := Lib.hid hok
              have hrb := readInoB_no hok
              rw [hrb]
              clear hok hrb
              have qf := ((((((S7.out.res.set 0 (.int .i64 0)).set 1 (.int .i64 0)).set 2 (.int .i64 0)).set 3 (.string ⟨#[]⟩)).set 4 (.slice none 0 0)).set 5 (.slice none 0 0))
              have q0 := qf.cell (j := 0) (v := .int .i64 0) rfl
              have q1 := qf.cell (j := 1) (v := .int .i64 0) rfl
              have q2 := qf.cell (j := 2) (v := .int .i64 0) rfl
              have q3 := qf.cell (j := 3) (v := .string ⟨#[]⟩) rfl
              have q4 := qf.cell (j := 4) (v := .slice none 0 0) rfl
              have q5 := qf.cell (j := 5) (v := .slice none 0 0) rfl
              clear qf
              go_wp2
              refine bodyPost_ret (v := .tuple #[.agg #[.int .i64 0, .int .i64 0, .int .i64 0, .string ⟨#[]⟩, .slice none 0 0, .slice none 0 0], .bool false]) ?_ rfl (gives_zero L w ((((((S7.out.below.setCell (Nat.le_refl _) _).setCell (Nat.le_refl _) _).setCell (Nat.le_refl _) _).setCell (Nat.le_refl _) _).setCell (Nat.le_refl _) _).setCell (Nat.le_refl _) _) HOK.out rfl)
              simp [results, Tryz.results71, go_sem, q0, q1, q2, q3, q4, q5]
          · have i1 := text_neB hxz
            have i2 : (x.toList != T.toList) = true := by simp only [bne, i1]; rfl
            have i3 := text_ne hxz
            have HF2 : Hid (Filled L (k + 1)) := Lib.hid (filled_step HF.out (by rw [HX.out]; intro e; exact hxz (by rw [e, ← HT.out]; rfl)))
            clear hxz
            go_wp2
            go_round
            case rel => exact ⟨k + 1, by omega, by omega, by go_num, HF2⟩
            case measure => (simp [intOf]; try omega)
        · obtain rfl : k = 8 := by omega
          have HST : Hid (stopOf L = 8) := Lib.hid (stop_at hk2 (by omega) HF.out (.inl rfl))
          have HI : Hid (inoOf L = ⟨kd, sz, gn, ⟨#[]⟩, [], []⟩) := Lib.hid (by unfold inoOf inoTo; rw [HKK.out, HX0.out, HSZ.out, HGN.out, if_neg HK1.out, if_neg HK1.out, if_neg HK2.out])
          go_wp2_with fail
          refine (specInoWords_any kd sz gn ⟨#[]⟩ none 0 0 none 0 0 _ [] [] HZB.out (SrcE.nil _ _ _) (fun j hj => absurd hj (Nat.not_lt_zero _)) (SrcE.nil _ _ _) (fun j hj => absurd hj (Nat.not_lt_zero _))).mono ?_
          rintro e w6 ⟨v6, rfl, hown6, hb6⟩
          obtain ⟨a6, c6, rfl, _, _, _⟩ := own_form hown6
          have R6 := Lib.hid (srcT_of_own hown6)
          have S6 := Lib.hid (S5.out.call hb6)
          have L6 : Hid ((inoWordsB ⟨kd, sz, gn, ⟨#[]⟩, [], []⟩).length ≤ 8) := Lib.hid (inoWords_le _)
          clear hown6 hb6 y0 y1 y2 y3 y4 y5
          go_wp2_with fail
          refine (wordsEq_any _ _ _ 8 _ _ _ L _ (by have := L6.out; omega) R6.out (HS.out.below S6.out.below (Nat.le_refl _)) (readInoB L) (by rw [readInoB_iff HLn.out, HI.out])).mono ?_
          rintro e w7 ⟨rfl, q7, rfl⟩
          have S7 := Lib.hid (S6.out.drewN q7)
          have y0 := S7.out.box.cell (j := 0) rfl
          have y1 := S7.out.box.cell (j := 1) rfl
          have y2 := S7.out.box.cell (j := 2) rfl
          have y3 := S7.out.box.cell (j := 3) rfl
          have y4 := S7.out.box.cell (j := 4) rfl
          have y5 := S7.out.box.cell (j := 5) rfl
          have r0 := S7.out.res.cell (j := 0) rfl
          have r1 := S7.out.res.cell (j := 1) rfl
          have r2 := S7.out.res.cell (j := 2) rfl
          have r3 := S7.out.res.cell (j := 3) rfl
          have r4 := S7.out.res.cell (j := 4) rfl
          have r5 := S7.out.res.cell (j := 5) rfl
          have f0 := S7.out.res.fr (o := 0)
          have f1 := S7.out.res.fr (o := 1)
          have f2 := S7.out.res.fr (o := 2)
          have f3 := S7.out.res.fr (o := 3)
          have f4 := S7.out.res.fr (o := 4)
          have f5 := S7.out.res.fr (o := 5)
          by_cases hok : ReadOk L
          · have HOK := Lib.hid hok
            have hrb := readInoB_yes hok
            rw [hrb]
            clear hok hrb
            have qf := ((((((S7.out.res.set 0 (.int .i64 kd)).set 1 (.int .i64 sz)).set 2 (.int .i64 gn)).set 3 (.string ⟨#[]⟩)).set 4 (.slice none 0 0)).set 5 (.slice none 0 0))
            have q0 := qf.cell (j := 0) (v := .int .i64 kd) rfl
            have q1 := qf.cell (j := 1) (v := .int .i64 sz) rfl
            have q2 := qf.cell (j := 2) (v := .int .i64 gn) rfl
            have q3 := qf.cell (j := 3) (v := .string ⟨#[]⟩) rfl
            have q4 := qf.cell (j := 4) (v := .slice none 0 0) rfl
            have q5 := qf.cell (j := 5) (v := .slice none 0 0) rfl
            clear qf
            go_wp2
            refine bodyPost_ret (v := .tuple #[.agg #[.int .i64 kd, .int .i64 sz, .int .i64 gn, .string ⟨#[]⟩, .slice none 0 0, .slice none 0 0], .bool true]) ?_ rfl (by rw [readInoR_yes HOK.out, readInoB_yes HOK.out, HI.out]; exact ⟨none, 0, none, 0, rfl, ⟨rfl, .inl ⟨rfl, rfl⟩⟩, ⟨rfl, .inl ⟨rfl, rfl⟩⟩, .inl rfl, (((((S7.out.below.setCell (Nat.le_refl _) _).setCell (Nat.le_refl _) _).setCell (Nat.le_refl _) _).setCell (Nat.le_refl _) _).setCell (Nat.le_refl _) _).setCell (Nat.le_refl _) _⟩)
            simp [results, Tryz.results71, go_sem, q0, q1, q2, q3, q4, q5]
          · have HOK := Lib.hid hok
            have hrb := readInoB_no hok
            rw [hrb]
            clear hok hrb
            have qf := ((((((S7.out.res.set 0 (.int .i64 0)).set 1 (.int .i64 0)).set 2 (.int .i64 0)).set 3 (.string ⟨#[]⟩)).set 4 (.slice none 0 0)).set 5 (.slice none 0 0))
            have q0 := qf.cell (j := 0) (v := .int .i64 0) rfl
            have q1 := qf.cell (j := 1) (v := .int .i64 0) rfl
            have q2 := qf.cell (j := 2) (v := .int .i64 0) rfl
            have q3 := qf.cell (j := 3) (v := .string ⟨#[]⟩) rfl
            have q4 := qf.cell (j := 4) (v := .slice none 0 0) rfl
            have q5 := qf.cell (j := 5) (v := .slice none 0 0) rfl
            clear qf
            go_wp2
            refine bodyPost_ret (v := .tuple #[.agg #[.int .i64 0, .int .i64 0, .int .i64 0, .string ⟨#[]⟩, .slice none 0 0, .slice none 0 0], .bool false]) ?_ rfl (gives_zero L w ((((((S7.out.below.setCell (Nat.le_refl _) _).setCell (Nat.le_refl _) _).setCell (Nat.le_refl _) _).setCell (Nat.le_refl _) _).setCell (Nat.le_refl _) _).setCell (Nat.le_refl _) _) HOK.out rfl)
            simp [results, Tryz.results71, go_sem, q0, q1, q2, q3, q4, q5]
end
end Go.Proofs.YtkfkjcadmdcbnaaGreatDoor
namespace Go.Proofs.YtkfkjcadmdcbnaaGreatDoor
open Go.RowKit Go.Proofs.YtkfkjcadmdcbnaaGreatDoor.Parts Go.Proofs.YtkfkjcadmdcbnaaGreatDoor.Hexa Go.Proofs.YtkfkjcadmdcbnaaGreatDoor.Byt

theorem entry_head {s : ByteArray} (h : 1 ≤ s.size) : numAtV s 0 1 = ((s.data.toList.getD 0 0).toNat : Int) := by
  have hb := (s.data.toList.getD 0 0).toNat_lt
  refine numAt_fore s 0 1 _ (by omega) (by omega) (by omega) (by omega) ?_
  rw [show ((1 : Nat) : Int) = 1 from rfl, one_byte _ (by omega)]
  unfold cutL
  have hl : 1 ≤ s.data.toList.length := by simpa using h
  match s.data.toList, hl with
  | x :: r, _ => rfl
end Go.Proofs.YtkfkjcadmdcbnaaGreatDoor
namespace Go.Proofs.YtkfkjcadmdcbnaaGreatDoor
open Go.RowKit Go.Proofs.YtkfkjcadmdcbnaaGreatDoor.Parts Go.Proofs.YtkfkjcadmdcbnaaGreatDoor.Hexa Go.Proofs.YtkfkjcadmdcbnaaGreatDoor.Byt

def leadRecs (L : List ByteArray) : List RecR := (L.takeWhile recReadB).map recReadR
def leadEnts (L : List ByteArray) : List EntryR := (L.takeWhile entryReadB).map entryReadR
def gotKind (L : List ByteArray) : Int := numAtV (L.getD 0 default) 0 1
def inoGot (L : List ByteArray) : InoR :=
  ⟨gotKind L, numAtV (L.getD 0 default) 1 2, numAtV (L.getD 0 default) 3 2, if gotKind L = 1 then L.getD 1 default else ⟨#[]⟩, if gotKind L = 1 then leadRecs (L.drop 2) else [], if gotKind L = 2 then leadEnts (L.drop 2) else []⟩
theorem recRead_word {r : RecR} (h : RecOk r) : recReadB (recWordB r) = true ∧ recReadR (recWordB r) = r := by
  have h8 := recWord_size h
  have hf := rec_fore h
  have h9 : (recWordB r).size = 8 ∧ RecOk (recOf (recWordB r)) := ⟨h8, by rw [hf]; exact h⟩
  exact ⟨decide_eq_true h9, by unfold recReadR; rw [if_pos h9, hf]⟩
theorem entRead_word {r : EntryR} (h : EntryOk r) : entryReadB (entryWordB r) = true ∧ entryReadR (entryWordB r) = r := by
  have h8 := entryWord_size h
  have hf := ent_fore h
  have h9 : (entryWordB r).size = 8 ∧ EntryOk (entryOf (entryWordB r)) := ⟨h8, by rw [hf]; exact h⟩
  exact ⟨decide_eq_true h9, by unfold entryReadR; rw [if_pos h9, hf]⟩
theorem recRead_zero : recReadB zero8 = false := decide_eq_false (fun h => recZero h.2)
theorem entRead_zero : entryReadB zero8 = false := decide_eq_false (fun h => entZero h.2)
theorem lead_recs (j : Nat) : ∀ R : List RecR, (∀ r ∈ R, RecOk r) → leadRecs (R.map recWordB ++ List.replicate j zero8) = R
  | [], _ => by
    unfold leadRecs
    cases j with
    | zero => rfl
    | succ j => rw [List.map_nil, List.nil_append, List.replicate_succ, List.takeWhile_cons_of_neg (by rw [recRead_zero]; decide)]; rfl
  | r :: R, h => by
    have ih := lead_recs j R (fun x hx => h x (List.mem_cons_of_mem _ hx))
    obtain ⟨h1, h2⟩ := recRead_word (h r List.mem_cons_self)
    unfold leadRecs at ih ⊢
    rw [List.map_cons, List.cons_append, List.takeWhile_cons_of_pos h1, List.map_cons, h2, ih]
theorem lead_ents (j : Nat) : ∀ E : List EntryR, (∀ r ∈ E, EntryOk r) → leadEnts (E.map entryWordB ++ List.replicate j zero8) = E
  | [], _ => by
    unfold leadEnts
    cases j with
    | zero => rfl
    | succ j => rw [List.map_nil, List.nil_append, List.replicate_succ, List.takeWhile_cons_of_neg (by rw [entRead_zero]; decide)]; rfl
  | r :: E, h => by
    have ih := lead_ents j E (fun x hx => h x (List.mem_cons_of_mem _ hx))
    obtain ⟨h1, h2⟩ := entRead_word (h r List.mem_cons_self)
    unfold leadEnts at ih ⊢
    rw [List.map_cons, List.cons_append, List.takeWhile_cons_of_pos h1, List.map_cons, h2, ih]
theorem all_of_at {α : Type} [Inhabited α] {L : List α} {p : α → Prop} (h : ∀ j, j < L.length → p (L.getD j default)) : ∀ x ∈ L, p x := fun x hx => by
  obtain ⟨j, hj, rfl⟩ := getD_mem_i L hx
  exact h j hj
theorem got_words {n : InoR} (h : InoOk n) : inoGot (inoWordsB n) = n := by
  have hL : inoWordsB n = [headB n, wordB n.key] ++ (n.R.map recWordB ++ n.E.map entryWordB ++ List.replicate (8 - (wordsI n).length) zero8) := by
    rw [inoWords_yes h]; unfold fillTo wordsI; simp
  have hk : 0 ≤ n.kd ∧ n.kd ≤ 2 := by rcases h with ⟨_, ⟨e, _⟩ | ⟨e, _⟩ | ⟨e, _⟩⟩ <;> omega
  have hz : 0 ≤ n.sz ∧ n.sz ≤ 65535 := by
    rcases h with ⟨_, ⟨_, h⟩ | ⟨_, h⟩ | ⟨_, h⟩⟩
    · have := h.1; omega
    · have := h.1; omega
    · have := h.1; omega
  obtain ⟨k1, k2, k3⟩ := head_list hk hz h.1
  have h8 := headB_size h
  have hkd : numAtV (headB n) 0 1 = n.kd := by rw [entry_head (by omega)]; exact k1
  obtain ⟨j, hj⟩ : ∃ j, 8 - (wordsI n).length = j := ⟨_, rfl⟩
  rw [hj] at hL
  rw [hL]
  unfold inoGot gotKind
  show (⟨numAtV (headB n) 0 1, numAtV (headB n) 1 2, numAtV (headB n) 3 2, if numAtV (headB n) 0 1 = 1 then wordB n.key else ⟨#[]⟩, if numAtV (headB n) 0 1 = 1 then leadRecs (n.R.map recWordB ++ n.E.map entryWordB ++ List.replicate j zero8) else [], if numAtV (headB n) 0 1 = 2 then leadEnts (n.R.map recWordB ++ n.E.map entryWordB ++ List.replicate j zero8) else []⟩ : InoR) = n
  rw [hkd, k2, k3]
  obtain ⟨kd, sz, gn, key, R, E⟩ := n
  rcases h with ⟨_, ⟨e, h⟩ | ⟨e, h⟩ | ⟨e, h⟩⟩
  · obtain rfl : kd = 0 := e
    obtain ⟨_, g2, g3, g4⟩ := h
    obtain rfl : key = ⟨#[]⟩ := text_nothing g2
    obtain rfl : R = [] := List.length_eq_zero_iff.1 g3
    obtain rfl : E = [] := List.length_eq_zero_iff.1 g4
    rfl
  · obtain rfl : kd = 1 := e
    obtain ⟨_, g2, _, g4, g5⟩ := h
    obtain rfl : E = [] := List.length_eq_zero_iff.1 g4
    have hkey : wordB key = key := by
      have g2 : key.size = 8 := g2
      unfold wordB
      rw [if_pos (by omega), g2]
      exact ByteArray.append_empty
    have hR := lead_recs j R (all_of_at (fun i hi => (g5 i hi).1))
    simp [hkey, hR]
  · obtain rfl : kd = 2 := e
    obtain ⟨_, g2, g3, _, g5⟩ := h
    obtain rfl : key = ⟨#[]⟩ := text_nothing g2
    obtain rfl : R = [] := List.length_eq_zero_iff.1 g3
    have hE := lead_ents j E (all_of_at (fun i hi => (g5 i hi).1))
    simp [hE]
theorem got_ok {L : List ByteArray} (h8 : L.length = 8) (h : inoWordsB (inoGot L) = L) : InoOk (inoGot L) := by
  by_cases h9 : InoOk (inoGot L)
  · exact h9
  · rw [inoWords_no h9] at h
    rw [← h] at h8
    exact absurd h8 (by decide)
theorem got_iff {L : List ByteArray} (h8 : L.length = 8) : readInoB L = true ↔ inoWordsB (inoGot L) = L := by
  rw [readInoB_iff h8]
  constructor
  · intro h
    have hk := readOk_ok ⟨h8, h⟩
    have e : inoGot L = inoOf L := by
      have := got_words hk
      rw [h] at this
      exact this
    rw [e, h]
  · intro h
    have hk := got_ok h8 h
    have e : inoOf L = inoGot L := by
      have := inoOf_words hk
      rw [h] at this
      exact this
    rw [e, h]
theorem got_eq {L : List ByteArray} (h8 : L.length = 8) (h : readInoB L = true) : readInoR L = inoGot L := by
  have h1 := (got_iff h8).1 h
  have hk := got_ok h8 h1
  have e : inoOf L = inoGot L := by
    have := inoOf_words hk
    rw [h1] at this
    exact this
  unfold readInoR
  rw [if_pos h, e]
end Go.Proofs.YtkfkjcadmdcbnaaGreatDoor
namespace Go.Proofs.YtkfkjcadmdcbnaaGreatDoor
open Go.RowKit Go.Proofs.YtkfkjcadmdcbnaaGreatDoor.Parts Go.Proofs.YtkfkjcadmdcbnaaGreatDoor.Hexa
theorem ret_str {a b : ByteArray} (h : a = b) : Ending.returned (.string a) = .returned (.string b) := by rw [h]

set_option maxRecDepth 100000 in
set_option maxHeartbeats 1000000 in
theorem markText_any (k : Nat) (w : World) (h0 : 0 < k) (hk : k ≤ 100000000) :
    Calls Tryz.prog 148 #[.int .i64 k] w fun e w' => e = .returned (.string (markT k)) ∧ Below w.heap.size w w' := by
  go_enter Tryz.func148, Tryz.ntmps148
  go_wp2
  go_loopw [0, 3] (fun kv sv wr => ∃ (j : Nat) (t : ByteArray), j ≤ k ∧ t.size ≤ k ∧ Hid (digs j ++ t.data.toList = digs k) ∧ kv = .int .i64 j ∧ sv = .string t ∧ Below w.heap.size w wr) (fun kv _ _ => (intOf kv).toNat)
  case atStart => exact ⟨k, ⟨#[]⟩, Nat.le_refl _, Nat.zero_le _, Lib.hid (by simp), rfl, rfl, Below.refl _ _⟩
  case round =>
    obtain ⟨j, t, hj, ht, HD, rfl, rfl, hbel⟩ := hrel
    by_cases hlt : 0 < j
    · obtain ⟨cs, hcs, hcd, hce⟩ := Parts.one_byte (UInt8.ofNat (48 + j % 10))
      have HC := Lib.hid hcd
      have HT := Lib.hid (digs_round hlt HD.out hcd)
      have HS := digs_size HT.out
      have HS' : cs.size + t.size ≤ 100000001 := by omega
      have en : ((UInt8.ofNat (48 + j % 10)).toNat : Int) = 48 + (j : Int) % 10 := by rw [UInt8.toNat_ofNat']; omega
      have hown := World.ownsRow_lit (e := 5) (size := 1) (base := w.heap.size) wr #[.int .u8 (48 + (j : Int) % 10)] 1 hbel.size (by decide) rfl
      have hconv := own_string (P := Tryz.prog) (l := [UInt8.ofNat (48 + j % 10)]) 22 9 Tryz.underlying22 Tryz.underlying5 Tryz.underlying9 (by rw [show bcells [UInt8.ofNat (48 + j % 10)] = [Value.int .u8 (48 + (j : Int) % 10)] by simp only [bcells, List.map, en]]; exact hown)
      rw [← hce] at hconv
      clear hown hcd hce en
      go_wp2
      go_roundw
      case rel => exact ⟨j / 10, cs ++ t, by omega, HS, HT, by go_num, rfl, hbel.alloc hbel.size _⟩
      case measure => (simp [intOf]; omega)
    · obtain rfl : j = 0 := by omega
      go_wp2
      go_ret
      exact ⟨ret_str (mark_end HD.out), hbel⟩

end Go.Proofs.YtkfkjcadmdcbnaaGreatDoor
namespace Go.Proofs.YtkfkjcadmdcbnaaGreatDoor
open Go.RowKit Go.Proofs.YtkfkjcadmdcbnaaGreatDoor.Parts

inductive Cel where
  | val (v : Value)
  | sl (e : TypeId) (k n : Nat) (cs : List Cel)
instance : Inhabited Cel := ⟨.val undef⟩

/-! What reads as a tree. -/
mutual
def Cel.Rd (w : World) : Cel → Value → Prop
  | .val x, v => v = x
  | .sl _ k n cs, v => cs.length = n * k ∧ ∃ a c vs, v = .slice a n c ∧ RdL w cs vs ∧ (n = 0 ∨ ∃ g off, a = some ⟨g, off, none⟩ ∧ g < w.heap.size ∧ ∀ (j : Nat) (u : Value), vs[j]? = some u → w.cell? ⟨g, off + j, none⟩ = some u)
def RdL (w : World) : List Cel → List Value → Prop
  | [], vs => vs = []
  | c :: cs, vs => ∃ v r, vs = v :: r ∧ Cel.Rd w c v ∧ RdL w cs r
end

/-! What the call owns: F are its blocks. -/
mutual
def Cel.Own (w : World) : Cel → List Nat → Value → Prop
  | .val x, F, v => F = [] ∧ v = x
  | .sl e k n cs, F, v => cs.length = n * k ∧ ∃ a c, v = .slice a n c ∧ n ≤ c ∧ c ≤ maxLen ∧ ((n = 0 ∧ F = []) ∨ ∃ g cur G, a = some ⟨g, 0, none⟩ ∧ F = g :: G ∧ w.heap[g]? = some (.cells cur e (0, 0)) ∧ n * k ≤ cur.size ∧ OwnL w cs G (cur.toList.take (n * k)))
def OwnL (w : World) : List Cel → List Nat → List Value → Prop
  | [], F, vs => F = [] ∧ vs = []
  | c :: cs, F, vs => ∃ v r G H, vs = v :: r ∧ F = G ++ H ∧ Cel.Own w c G v ∧ OwnL w cs H r
end

section
variable {w w' : World}
mutual
theorem Cel.Rd.later (hb : Below w.heap.size w w') : ∀ (c : Cel) (v : Value), c.Rd w v → c.Rd w' v
  | .val _, _, h => h
  | .sl _ _ _ cs, _, ⟨hl, a, c, vs, hv, hr, h⟩ => ⟨hl, a, c, vs, hv, RdL.later hb cs vs hr, h.imp id fun ⟨g, off, ha, hg, hc⟩ => ⟨g, off, ha, Nat.lt_of_lt_of_le hg hb.size, fun j u hu => by rw [hb.cell (by exact hg)]; exact hc j u hu⟩⟩
theorem RdL.later (hb : Below w.heap.size w w') : ∀ (cs : List Cel) (vs : List Value), RdL w cs vs → RdL w' cs vs
  | [], _, h => h
  | c :: cs, _, ⟨v, r, hv, h1, h2⟩ => ⟨v, r, hv, Cel.Rd.later hb c v h1, RdL.later hb cs r h2⟩
end

mutual
theorem Cel.Own.kept : ∀ (c : Cel) (F : List Nat) (v : Value), (∀ g ∈ F, w'.heap[g]? = w.heap[g]?) → c.Own w F v → c.Own w' F v
  | .val _, _, _, _, h => h
  | .sl _ _ _ cs, F, _, hk, ⟨hl, a, c, hv, h1, h2, h⟩ => ⟨hl, a, c, hv, h1, h2, h.imp id fun ⟨g, cur, G, ha, hF, hg, hn, ho⟩ => ⟨g, cur, G, ha, hF, by rw [hk g (by rw [hF]; exact List.mem_cons_self)]; exact hg, hn, OwnL.kept cs G _ (fun h hh => hk h (by rw [hF]; exact List.mem_cons_of_mem _ hh)) ho⟩⟩
theorem OwnL.kept : ∀ (cs : List Cel) (F : List Nat) (vs : List Value), (∀ g ∈ F, w'.heap[g]? = w.heap[g]?) → OwnL w cs F vs → OwnL w' cs F vs
  | [], _, _, _, h => h
  | c :: cs, F, _, hk, ⟨v, r, G, H, hv, hF, h1, h2⟩ => ⟨v, r, G, H, hv, hF, Cel.Own.kept c G v (fun g hg => hk g (by rw [hF]; exact List.mem_append_left _ hg)) h1, OwnL.kept cs H r (fun g hg => hk g (by rw [hF]; exact List.mem_append_right _ hg)) h2⟩
end

mutual
theorem Cel.Own.lt : ∀ (c : Cel) (F : List Nat) (v : Value), c.Own w F v → ∀ g ∈ F, g < w.heap.size
  | .val _, _, _, ⟨hF, _⟩, g, hg => by rw [hF] at hg; cases hg
  | .sl _ _ _ cs, F, _, ⟨_, _, _, _, _, _, h⟩, g, hg => by
    rcases h with ⟨_, hF⟩ | ⟨b, cur, G, _, hF, hb, _, ho⟩
    · rw [hF] at hg; cases hg
    · rw [hF] at hg
      rcases List.mem_cons.1 hg with rfl | hg
      · exact (Array.getElem?_eq_some_iff.1 hb).1
      · exact OwnL.lt cs G _ ho g hg
theorem OwnL.lt : ∀ (cs : List Cel) (F : List Nat) (vs : List Value), OwnL w cs F vs → ∀ g ∈ F, g < w.heap.size
  | [], _, _, ⟨hF, _⟩, g, hg => by rw [hF] at hg; cases hg
  | c :: cs, F, _, ⟨v, r, G, H, _, hF, h1, h2⟩, g, hg => by
    rw [hF] at hg
    rcases List.mem_append.1 hg with hg | hg
    · exact Cel.Own.lt c G v h1 g hg
    · exact OwnL.lt cs H r h2 g hg
end

theorem RdL.length : ∀ (cs : List Cel) (vs : List Value), RdL w cs vs → vs.length = cs.length
  | [], _, h => by rw [show _ = [] from h]; rfl
  | _ :: cs, _, ⟨v, r, hv, _, h2⟩ => by rw [hv, List.length_cons, RdL.length cs r h2, List.length_cons]
theorem OwnL.length : ∀ (cs : List Cel) (F : List Nat) (vs : List Value), OwnL w cs F vs → vs.length = cs.length
  | [], _, _, ⟨_, h⟩ => by rw [h]; rfl
  | _ :: cs, _, _, ⟨v, r, _, H, hv, _, _, h2⟩ => by rw [hv, List.length_cons, OwnL.length cs H r h2, List.length_cons]

mutual
theorem Cel.Own.rd : ∀ (c : Cel) (F : List Nat) (v : Value), c.Own w F v → c.Rd w v
  | .val _, _, _, ⟨_, h⟩ => h
  | .sl _ k n cs, _, _, ⟨hl, a, c, hv, _, _, h⟩ => by
    rcases h with ⟨h0, _⟩ | ⟨g, cur, G, ha, hF, hg, hn, ho⟩
    · obtain rfl : cs = [] := List.length_eq_zero_iff.1 (by rw [hl, h0, Nat.zero_mul])
      exact ⟨hl, a, c, [], hv, rfl, .inl h0⟩
    · refine ⟨hl, a, c, _, hv, OwnL.rd cs G _ ho, .inr ⟨g, 0, ha, (Array.getElem?_eq_some_iff.1 hg).1, fun j u hu => ?_⟩⟩
      rw [List.getElem?_take] at hu
      split at hu
      · rw [Nat.zero_add]
        simp only [World.cell?, hg]
        simpa using hu
      · cases hu
theorem OwnL.rd : ∀ (cs : List Cel) (F : List Nat) (vs : List Value), OwnL w cs F vs → RdL w cs vs
  | [], _, _, ⟨_, h⟩ => h
  | c :: cs, _, _, ⟨v, r, G, H, hv, _, h1, h2⟩ => ⟨v, r, hv, Cel.Own.rd c G v h1, OwnL.rd cs H r h2⟩
end

theorem RdL.get : ∀ (cs : List Cel) (vs : List Value) (j : Nat), RdL w cs vs → j < cs.length → ∃ u, vs[j]? = some u ∧ (cs.getD j default).Rd w u
  | [], _, _, _, hj => absurd hj (Nat.not_lt_zero _)
  | c :: cs, _, 0, ⟨v, r, hv, h1, _⟩, _ => ⟨v, by rw [hv]; rfl, h1⟩
  | c :: cs, _, j + 1, ⟨v, r, hv, _, h2⟩, hj => by
    obtain ⟨u, hu, h⟩ := RdL.get cs r j h2 (by simpa using hj)
    exact ⟨u, by rw [hv]; exact hu, h⟩
/-- A place of a slice that reads as a tree. -/
theorem Cel.Rd.at {e k n c : Nat} {a : Option Addr} {cs : List Cel} (h : (Cel.sl e k n cs).Rd w (.slice a n c)) (j : Nat) (hj : j < n * k) :
    ∃ g off u, a = some ⟨g, off, none⟩ ∧ g < w.heap.size ∧ w.cell? ⟨g, off + j, none⟩ = some u ∧ (cs.getD j default).Rd w u := by
  obtain ⟨hl, a', c', vs, hv, hr, h⟩ := h
  cases hv
  rcases h with h0 | ⟨g, off, ha, hg, hc⟩
  · rw [h0, Nat.zero_mul] at hj; omega
  · obtain ⟨u, hu, h⟩ := RdL.get cs vs j hr (by omega)
    exact ⟨g, off, u, ha, hg, hc j u hu, h⟩

theorem OwnL.sub : ∀ (cs : List Cel) (F : List Nat) (vs : List Value) (j : Nat), OwnL w cs F vs → j < cs.length →
    ∃ P G Q u, F = P ++ (G ++ Q) ∧ vs[j]? = some u ∧ (cs.getD j default).Own w G u ∧
      ∀ (w' : World) (c' : Cel) (u' : Value), c'.Own w' G u' → (∀ h ∈ P, w'.heap[h]? = w.heap[h]?) → (∀ h ∈ Q, w'.heap[h]? = w.heap[h]?) → OwnL w' (cs.set j c') F (vs.set j u')
  | [], _, _, _, _, hj => absurd hj (Nat.not_lt_zero _)
  | c :: cs, F, _, 0, ⟨v, r, G, H, hv, hF, h1, h2⟩, _ => ⟨[], G, H, v, by rw [hF]; rfl, by rw [hv]; rfl, h1, fun w' c' u' ho _ hQ => by
      rw [hv]; exact ⟨u', r, G, H, rfl, hF, ho, OwnL.kept cs H r hQ h2⟩⟩
  | c :: cs, F, _, j + 1, ⟨v, r, G, H, hv, hF, h1, h2⟩, hj => by
    obtain ⟨P, G', Q, u, hH, hu, ho, hk⟩ := OwnL.sub cs H r j h2 (by simpa using hj)
    refine ⟨G ++ P, G', Q, u, by rw [hF, hH, List.append_assoc], by rw [hv]; exact hu, ho, fun w' c' u' ho' hP hQ => ?_⟩
    rw [hv]
    exact ⟨v, r.set j u', G, H, rfl, hF, Cel.Own.kept c G v (fun h hh => hP h (List.mem_append_left _ hh)) h1, hk w' c' u' ho' (fun h hh => hP h (List.mem_append_right _ hh)) hQ⟩

/-- Blocks outside F lie as they lay. -/
structure OutF (F : List Nat) (w w' : World) : Prop where
  os : w'.os = w.os
  tape : w'.tape = w.tape
  output : w'.output = w.output
  size : w.heap.size ≤ w'.heap.size
  block : ∀ g, g ∉ F → g < w.heap.size → w'.heap[g]? = w.heap[g]?
theorem OutF.refl (F : List Nat) (w : World) : OutF F w w := ⟨rfl, rfl, rfl, Nat.le_refl _, fun _ _ _ => rfl⟩
theorem OutF.trans {F : List Nat} {a b c : World} (h : OutF F a b) (h' : OutF F b c) : OutF F a c :=
  ⟨h'.os.trans h.os, h'.tape.trans h.tape, h'.output.trans h.output, Nat.le_trans h.size h'.size, fun g hg hl => (h'.block g hg (Nat.lt_of_lt_of_le hl h.size)).trans (h.block g hg hl)⟩
theorem OutF.mono {F G : List Nat} {a b : World} (h : OutF F a b) (hs : ∀ g ∈ F, g ∈ G) : OutF G a b := ⟨h.os, h.tape, h.output, h.size, fun g hg hl => h.block g (fun hh => hg (hs g hh)) hl⟩
theorem OutF.of_below {F : List Nat} {a b : World} (h : Below a.heap.size a b) : OutF F a b := ⟨h.os, h.tape, h.output, h.size, fun g _ hl => h.block g hl⟩
theorem OutF.below {F : List Nat} {B : Nat} {a b : World} (h : OutF F a b) (hF : ∀ g ∈ F, B ≤ g) (hB : B ≤ a.heap.size) : Below B a b := ⟨h.os, h.tape, h.output, h.size, fun g hg => h.block g (fun hh => by have := hF g hh; omega) (by omega)⟩

/-- The place j of a slice that the call owns: what lies there, and what becomes of the whole when it changes. -/
theorem Cel.Own.sub {e k n c : Nat} {a : Option Addr} {cs : List Cel} {F : List Nat} (h : (Cel.sl e k n cs).Own w F (.slice a n c)) (hF : F.Nodup) (j : Nat) (hj : j < n * k) :
    ∃ g G u, a = some ⟨g, 0, none⟩ ∧ g ∈ F ∧ (∀ x ∈ G, x ∈ F) ∧ g ∉ G ∧ G.Nodup ∧ w.cell? ⟨g, j, none⟩ = some u ∧ w.frozen? ⟨g, j, none⟩ = false ∧ (cs.getD j default).Own w G u ∧
      (∀ (w' : World) (c' : Cel), c'.Own w' G u → OutF G w w' → (Cel.sl e k n (cs.set j c')).Own w' F (.slice a n c)) ∧
      (∀ y, cs.getD j default = .val y → ∀ x, (Cel.sl e k n (cs.set j (.val x))).Own (w.setCell ⟨g, j, none⟩ x) F (.slice a n c) ∧ OutF F w (w.setCell ⟨g, j, none⟩ x)) := by
  have hlt := Cel.Own.lt _ _ _ h
  obtain ⟨hl, a', c', hv, hnc, hcm, h⟩ := h
  cases hv
  rcases h with ⟨h0, _⟩ | ⟨g, cur, G0, ha, hFG, hg, hn, ho⟩
  · rw [h0, Nat.zero_mul] at hj; omega
  obtain ⟨P, G, Q, u, hG0, hu, hou, hk⟩ := OwnL.sub cs G0 _ j ho (by omega)
  have hF0 := hF
  rw [hFG, List.nodup_cons, hG0] at hF
  obtain ⟨hgn, hnd⟩ := hF
  have hju : cur.toList[j]? = some u := by
    rw [List.getElem?_take, if_pos hj] at hu
    exact hu
  have hcell : w.cell? ⟨g, j, none⟩ = some u := by simp only [World.cell?, hg]; simpa using hju
  have hPG : ∀ x ∈ P, x ∉ G := fun x hx hx' => (List.nodup_append.1 hnd).2.2 x hx x (List.mem_append_left _ hx') rfl
  have hQG : ∀ x ∈ Q, x ∉ G := fun x hx hx' => (List.nodup_append.1 (List.nodup_append.1 hnd).2.1).2.2 x hx' x hx rfl
  have hGn : g ∉ G := fun hx => hgn (List.mem_append_right _ (List.mem_append_left _ hx))
  have hin : ∀ x ∈ P ++ (G ++ Q), x ∈ F := fun x hx => by rw [hFG, hG0]; exact List.mem_cons_of_mem _ hx
  refine ⟨g, G, u, ha, by rw [hFG]; exact List.mem_cons_self, fun x hx => hin x (List.mem_append_right _ (List.mem_append_left _ hx)), hGn, (List.nodup_append.1 (List.nodup_append.1 hnd).2.1).1, hcell, by simp [World.frozen?, hg], hou, ?_, ?_⟩
  · intro w1 c1 ho1 hout
    refine ⟨by rw [List.length_set]; exact hl, a, c, rfl, hnc, hcm, .inr ⟨g, cur, G0, ha, hFG, ?_, hn, ?_⟩⟩
    · rw [hout.block g hGn (hlt g (by rw [hFG]; exact List.mem_cons_self))]; exact hg
    · have h9 := hk w1 c1 u ho1 (fun x hx => hout.block x (hPG x hx) (hlt x (hin x (List.mem_append_left _ hx)))) (fun x hx => hout.block x (hQG x hx) (hlt x (hin x (List.mem_append_right _ (List.mem_append_right _ hx)))))
      have e9 : (cur.toList.take (n * k)).set j u = cur.toList.take (n * k) := by
        apply List.ext_getElem?
        intro i
        by_cases e : i = j
        · subst e
          rw [List.getElem?_set_self (by have := OwnL.length _ _ _ ho; rw [this]; omega), hu]
        · rw [List.getElem?_set_ne (fun x => e x.symm)]
      rw [e9] at h9
      exact h9
  · intro y hy x
    rw [hy] at hou
    obtain ⟨hGe, _⟩ := hou
    subst hGe
    have hset := heap_setCell_same w g j cur e x hg
    have hother : ∀ z, z ∈ P ++ ([] ++ Q) → (w.setCell ⟨g, j, none⟩ x).heap[z]? = w.heap[z]? := fun z hz => Below.heap_setCell _ _ _ _ (by show z ≠ g; exact fun e => hgn (by rw [← e]; exact hz))
    refine ⟨⟨by rw [List.length_set]; exact hl, a, c, rfl, hnc, hcm, .inr ⟨g, cur.setIfInBounds j x, G0, ha, hFG, hset, by rw [Array.size_setIfInBounds]; exact hn, ?_⟩⟩, ?_⟩
    · have h9 := hk (w.setCell ⟨g, j, none⟩ x) (.val x) x ⟨rfl, rfl⟩ (fun z hz => hother z (List.mem_append_left _ hz)) (fun z hz => hother z (List.mem_append_right _ hz))
      rw [Array.toList_setIfInBounds, List.take_set]
      exact h9
    · exact ⟨rfl, rfl, rfl, by simp [World.setCell], fun z hz _ => Below.heap_setCell _ _ _ _ (by show z ≠ g; exact fun e => hz (by rw [e, hFG]; exact List.mem_cons_self))⟩
end

/-! Marks, in the order of the cells. -/
mutual
def Cel.cnt : Cel → Nat
  | .val _ => 1
  | .sl _ _ _ cs => cntL cs
def cntL : List Cel → Nat
  | [] => 0
  | c :: cs => c.cnt + cntL cs
end
def markV : Value → Nat → Value
  | .int _ _, k => .int .i64 (k : Int)
  | .string _, k => .string (markT k)
  | .bool _, k => .bool (k % 3 == 0)
  | v, _ => v
mutual
def Cel.mk : Cel → Nat → Cel
  | .val v, k => .val (markV v k)
  | .sl e s n cs, k => .sl e s n (mkL cs k)
def mkL : List Cel → Nat → List Cel
  | [], _ => []
  | c :: cs, k => c.mk k :: mkL cs (k + c.cnt)
end
theorem mkL_length : ∀ (cs : List Cel) (k : Nat), (mkL cs k).length = cs.length
  | [], _ => rfl
  | _ :: cs, k => by rw [mkL, List.length_cons, mkL_length cs, List.length_cons]
theorem cntL_append : ∀ (a b : List Cel), cntL (a ++ b) = cntL a + cntL b
  | [], b => by rw [List.nil_append, cntL, Nat.zero_add]
  | c :: a, b => by rw [List.cons_append, cntL, cntL, cntL_append a b, Nat.add_assoc]
theorem mkL_append : ∀ (a b : List Cel) (k : Nat), mkL (a ++ b) k = mkL a k ++ mkL b (k + cntL a)
  | [], b, k => by rw [List.nil_append, mkL, cntL, Nat.add_zero, List.nil_append]
  | c :: a, b, k => by rw [List.cons_append, mkL, mkL, mkL_append a b, cntL, List.cons_append, Nat.add_assoc]
/-- The first j cells marked. -/
def stM (cs : List Cel) (k j : Nat) : List Cel := mkL (cs.take j) k ++ cs.drop j
def atM (cs : List Cel) (k j : Nat) : Nat := k + cntL (cs.take j)
theorem stM_zero (cs : List Cel) (k : Nat) : stM cs k 0 = cs := rfl
theorem stM_all (cs : List Cel) (k : Nat) {j : Nat} (h : cs.length ≤ j) : stM cs k j = mkL cs k := by
  unfold stM; rw [List.take_of_length_le h, List.drop_eq_nil_of_le h, List.append_nil]
theorem atM_zero (cs : List Cel) (k : Nat) : atM cs k 0 = k := rfl
theorem atM_all (cs : List Cel) (k : Nat) {j : Nat} (h : cs.length ≤ j) : atM cs k j = k + cntL cs := by unfold atM; rw [List.take_of_length_le h]
theorem getD_eq {cs : List Cel} {j : Nat} (h : j < cs.length) : cs.getD j default = cs[j] := by simp [List.getD, h]
theorem atM_next {cs : List Cel} {k j : Nat} (h : j < cs.length) : atM cs k (j + 1) = atM cs k j + (cs.getD j default).cnt := by
  unfold atM
  rw [List.take_succ_eq_append_getElem h, cntL_append, getD_eq h, cntL, cntL, Nat.add_zero, Nat.add_assoc]
theorem stM_getD {cs : List Cel} {k j i : Nat} (hi : i < cs.length) (hj : j ≤ i) : (stM cs k j).getD i default = cs.getD i default := by
  unfold stM
  simp only [List.getD]
  rw [List.getElem?_append_right (by rw [mkL_length, List.length_take]; omega), mkL_length, List.length_take, List.getElem?_drop]
  congr 2
  omega
theorem stM_next {cs : List Cel} {k j : Nat} (h : j < cs.length) : (stM cs k j).set j ((cs.getD j default).mk (atM cs k j)) = stM cs k (j + 1) := by
  have hl : (mkL (cs.take j) k).length = j := by rw [mkL_length, List.length_take]; omega
  unfold stM
  rw [List.take_succ_eq_append_getElem h, mkL_append, List.set_append_right _ _ (by omega), hl, Nat.sub_self, getD_eq h, List.drop_eq_getElem_cons h, List.set_cons_zero, List.append_assoc]
  rfl
theorem mkL_getD {cs : List Cel} {k j : Nat} (h : j < cs.length) : (mkL cs k).getD j default = (cs.getD j default).mk (atM cs k j) := by
  have h1 : mkL cs k = mkL (cs.take j) k ++ mkL (cs.drop j) (k + cntL (cs.take j)) := by rw [← mkL_append, List.take_append_drop]
  have hl : (mkL (cs.take j) k).length = j := by rw [mkL_length, List.length_take]; omega
  rw [h1, List.drop_eq_getElem_cons h, mkL]
  simp only [List.getD]
  rw [List.getElem?_append_right (by omega), hl, Nat.sub_self]
  simp [atM, h]
theorem atM_mono (cs : List Cel) (k j : Nat) : atM cs k j ≤ k + cntL cs := by
  have : cntL cs = cntL (cs.take j) + cntL (cs.drop j) := by rw [← cntL_append, List.take_append_drop]
  unfold atM; omega
end Go.Proofs.YtkfkjcadmdcbnaaGreatDoor
namespace Go.Proofs.YtkfkjcadmdcbnaaGreatDoor
open Go.RowKit Go.Proofs.YtkfkjcadmdcbnaaGreatDoor.Parts

/-- How an element lies in its cells. -/
structure EncC (α : Type) where
  e : TypeId
  k : Nat
  cels : α → List Cel
  len : ∀ x, (cels x).length = k
def celsE {α : Type} (E : EncC α) : List α → List Cel
  | [] => []
  | x :: r => E.cels x ++ celsE E r
def celRow {α : Type} (E : EncC α) (L : List α) : Cel := .sl E.e E.k L.length (celsE E L)
section
variable {α : Type} [Inhabited α] (E : EncC α)
omit [Inhabited α] in
theorem celsE_length : ∀ L : List α, (celsE E L).length = L.length * E.k
  | [] => by simp [celsE]
  | x :: r => by simp [celsE, E.len, celsE_length r, Nat.add_mul]; omega
omit [Inhabited α] in
theorem celsE_append : ∀ L M : List α, celsE E (L ++ M) = celsE E L ++ celsE E M
  | [], M => rfl
  | x :: r, M => by simp [celsE, celsE_append r M]
theorem celsE_getD : ∀ (L : List α) (j o : Nat), j < L.length → o < E.k → (celsE E L).getD (j * E.k + o) default = (E.cels (L.getD j default)).getD o default
  | x :: r, 0, o, _, ho => by
    rw [celsE, Nat.zero_mul, Nat.zero_add]
    simp only [List.getD]
    rw [List.getElem?_append_left (by rw [E.len]; exact ho)]; rfl
  | x :: r, j + 1, o, h, ho => by
    have h1 := celsE_getD r j o (by simpa using h) ho
    rw [celsE]
    simp only [List.getD] at h1 ⊢
    rw [List.getElem?_append_right (by rw [E.len, Nat.add_mul]; omega), E.len, show (j + 1) * E.k + o - E.k = j * E.k + o by rw [Nat.add_mul]; omega]
    exact h1
omit [Inhabited α] in
theorem celsE_take : ∀ (L : List α) (j : Nat), (celsE E L).take (j * E.k) = celsE E (L.take j)
  | [], j => by simp [celsE]
  | x :: r, 0 => by simp [celsE]
  | x :: r, j + 1 => by
    rw [celsE, List.take_append, List.take_of_length_le (by rw [E.len, Nat.add_mul]; omega), E.len, show (j + 1) * E.k - E.k = j * E.k by rw [Nat.add_mul]; omega, celsE_take r j]
    rfl
theorem celsE_next {L : List α} {j : Nat} (hj : j < L.length) : celsE E (L.take (j + 1)) = celsE E (L.take j) ++ E.cels (L.getD j default) := by
  rw [List.take_succ_eq_append_getElem hj, celsE_append, celsE, celsE, List.append_nil]
  simp [List.getD, hj]
theorem celsE_in {L : List α} {j o : Nat} (hj : j < L.length) (ho : o ≤ E.k) : (celsE E L).take (j * E.k + o) = celsE E (L.take j) ++ (E.cels (L.getD j default)).take o := by
  have h1 : (celsE E L).take (j * E.k + o) = ((celsE E L).take ((j + 1) * E.k)).take (j * E.k + o) := by
    rw [List.take_take, Nat.min_eq_left (by rw [Nat.add_mul]; omega)]
  have h2 : (celsE E (L.take j)).length = j * E.k := by rw [celsE_length, List.length_take, Nat.min_eq_left (by omega)]
  rw [h1, celsE_take, celsE_next E hj, List.take_append, h2, List.take_of_length_le (by omega)]
  congr 2
  omega
end

/-! Measured. -/
mutual
def Cel.sz : Cel → Nat
  | .val (.string b) => b.size
  | .val _ => 0
  | .sl _ _ n cs => n + szL cs
def szL : List Cel → Nat
  | [] => 0
  | c :: cs => c.sz + szL cs
end
mutual
def Cel.Ty : Cel → Prop
  | .val (.string b) => b.size ≤ maxLen
  | .val (.int .i64 z) => -9223372036854775808 ≤ z ∧ z ≤ 9223372036854775807
  | .val _ => True
  | .sl _ _ n cs => n ≤ 9223372036854775807 ∧ TyL cs
def TyL : List Cel → Prop
  | [] => True
  | c :: cs => c.Ty ∧ TyL cs
end
theorem szL_append : ∀ (a b : List Cel), szL (a ++ b) = szL a + szL b
  | [], b => by rw [List.nil_append, szL, Nat.zero_add]
  | c :: a, b => by rw [List.cons_append, szL, szL, szL_append a b, Nat.add_assoc]
theorem TyL_append : ∀ (a b : List Cel), TyL (a ++ b) ↔ TyL a ∧ TyL b
  | [], b => by simp [TyL]
  | c :: a, b => by rw [List.cons_append, TyL, TyL, TyL_append a b, and_assoc]
theorem TyL_at {α : Type} [Inhabited α] (E : EncC α) : ∀ (L : List α) (j : Nat), TyL (celsE E L) → j < L.length → TyL (E.cels (L.getD j default))
  | x :: r, 0, h, _ => ((TyL_append _ _).1 (by exact h)).1
  | x :: r, j + 1, h, hj => TyL_at E r j ((TyL_append _ _).1 (by exact h)).2 (by simpa using hj)
theorem szL_at {α : Type} [Inhabited α] (E : EncC α) : ∀ (L : List α) (j : Nat), j < L.length → szL (E.cels (L.getD j default)) ≤ szL (celsE E L)
  | x :: r, 0, _ => by rw [celsE, szL_append]; exact Nat.le_add_right _ _
  | x :: r, j + 1, hj => by
    have := szL_at E r j (by simpa using hj)
    rw [celsE, szL_append]
    exact Nat.le_trans this (Nat.le_add_left _ _)
theorem szL_take {α : Type} (E : EncC α) (L : List α) (j : Nat) : szL (celsE E (L.take j)) ≤ szL (celsE E L) := by
  conv => rhs; rw [← List.take_append_drop j L, celsE_append, szL_append]
  exact Nat.le_add_right _ _
theorem szL_next {α : Type} [Inhabited α] (E : EncC α) {L : List α} {j : Nat} (hj : j < L.length) : szL (celsE E (L.take (j + 1))) = szL (celsE E (L.take j)) + szL (E.cels (L.getD j default)) := by rw [celsE_next E hj, szL_append]
def SzPost (z : Nat) (l : Int) (w : World) (e : Ending) (w' : World) : Prop := ∃ r : Int, e = .returned (.int .i64 r) ∧ (r < 0 ∨ (0 ≤ r ∧ r + (z : Int) = l)) ∧ Below w.heap.size w w'

/-! Read. -/
theorem Cel.Rd.cap {w : World} {e e' k n : Nat} {cs : List Cel} {a : Option Addr} {m c c' : Nat} (h : (Cel.sl e k n cs).Rd w (.slice a m c)) : m = n ∧ (Cel.sl e' k n cs).Rd w (.slice a n c') := by
  obtain ⟨hl, a1, c1, vs, hv, hr, h1⟩ := h
  cases hv
  exact ⟨rfl, hl, a, c', vs, rfl, hr, h1⟩
theorem row_form {α : Type} {E : EncC α} {w : World} {L : List α} {v : Value} (h : (celRow E L).Rd w v) : ∃ a n c, v = .slice a n c ∧ L.length = n := by
  obtain ⟨hl, a1, c1, vs, hv, hr, h1⟩ := h
  exact ⟨a1, L.length, c1, hv, rfl⟩
theorem row_at {α : Type} [Inhabited α] {E : EncC α} {w : World} {L : List α} {a : Option Addr} {n c : Nat} (h : (celRow E L).Rd w (.slice a n c)) (_ : 0 < E.k) (j : Nat) (hj : j < n) :
    ∃ g off vs, a = some ⟨g, off, none⟩ ∧ g < w.heap.size ∧ RdL w (E.cels (L.getD j default)) vs ∧ ∀ (o : Nat) (u : Value), vs[o]? = some u → w.cell? ⟨g, off + j * E.k + o, none⟩ = some u := by
  obtain ⟨hl, a1, c1, vs, hv, hr, h1⟩ := h
  cases hv
  have hm : (j + 1) * E.k ≤ L.length * E.k := Nat.mul_le_mul_right _ hj
  rw [Nat.add_mul, Nat.one_mul] at hm
  rcases h1 with h0 | ⟨g, off, ha, hg, hc⟩
  · omega
  refine ⟨g, off, (vs.drop (j * E.k)).take E.k, ha, hg, ?_, fun o u hu => ?_⟩
  · have key : ∀ (M : List α) (us : List Value) (i : Nat), RdL w (celsE E M) us → i < M.length → RdL w (E.cels (M.getD i default)) ((us.drop (i * E.k)).take E.k) := by
      intro M
      induction M with
      | nil => intro us i _ hi; exact absurd hi (Nat.not_lt_zero _)
      | cons x r ih =>
        have split : ∀ (A B : List Cel) (us : List Value), RdL w (A ++ B) us → RdL w A (us.take A.length) ∧ RdL w B (us.drop A.length) := by
          intro A
          induction A with
          | nil => intro B us h; exact ⟨rfl, h⟩
          | cons d A ihA =>
            intro B us h
            obtain ⟨v, s, rfl, h1, h2⟩ := h
            obtain ⟨p, q⟩ := ihA B s h2
            exact ⟨⟨v, s.take A.length, rfl, h1, p⟩, q⟩
        intro us i h hi
        obtain ⟨p, q⟩ := split (E.cels x) (celsE E r) us h
        rw [E.len] at p q
        cases i with
        | zero => rw [Nat.zero_mul, List.drop_zero]; exact p
        | succ i =>
          have := ih (us.drop E.k) i q (by simpa using hi)
          rw [List.drop_drop] at this
          rw [show (i + 1) * E.k = E.k + i * E.k by rw [Nat.add_mul]; omega]
          exact this
    exact key L vs j hr hj
  · rw [List.getElem?_take] at hu
    split at hu
    · rw [List.getElem?_drop] at hu
      rw [Nat.add_assoc]
      exact hc _ u hu
    · cases hu

/-! Owned, between two block numbers. -/
def Objs (w : World) (lo hi : Nat) (cs : List Cel) (vs : List Value) : Prop := ∃ F, F.Nodup ∧ (∀ g ∈ F, lo ≤ g ∧ g < hi) ∧ OwnL w cs F vs
def Obj1 (w : World) (lo hi : Nat) (c : Cel) (v : Value) : Prop := ∃ F, F.Nodup ∧ (∀ g ∈ F, lo ≤ g ∧ g < hi) ∧ c.Own w F v
section
variable {w w' : World} {lo hi : Nat} {cs : List Cel} {vs : List Value} {c : Cel} {v : Value}
theorem Objs.mono {lo' hi' : Nat} (h : Objs w lo hi cs vs) (h1 : lo' ≤ lo) (h2 : hi ≤ hi') : Objs w lo' hi' cs vs := by
  obtain ⟨F, hn, hb, ho⟩ := h
  exact ⟨F, hn, fun g hg => by have := hb g hg; omega, ho⟩
theorem Obj1.mono {lo' hi' : Nat} (h : Obj1 w lo hi c v) (h1 : lo' ≤ lo) (h2 : hi ≤ hi') : Obj1 w lo' hi' c v := by
  obtain ⟨F, hn, hb, ho⟩ := h
  exact ⟨F, hn, fun g hg => by have := hb g hg; omega, ho⟩
theorem Objs.kept (h : Objs w lo hi cs vs) (hk : ∀ g, lo ≤ g → g < hi → w'.heap[g]? = w.heap[g]?) : Objs w' lo hi cs vs := by
  obtain ⟨F, hn, hb, ho⟩ := h
  exact ⟨F, hn, hb, OwnL.kept _ _ _ (fun g hg => hk g (hb g hg).1 (hb g hg).2) ho⟩
theorem Obj1.kept (h : Obj1 w lo hi c v) (hk : ∀ g, lo ≤ g → g < hi → w'.heap[g]? = w.heap[g]?) : Obj1 w' lo hi c v := by
  obtain ⟨F, hn, hb, ho⟩ := h
  exact ⟨F, hn, hb, Cel.Own.kept _ _ _ (fun g hg => hk g (hb g hg).1 (hb g hg).2) ho⟩
theorem Objs.later (h : Objs w lo hi cs vs) (hb : Below w.heap.size w w') : Objs w' lo hi cs vs := by
  obtain ⟨F, hn, hb', ho⟩ := h
  exact ⟨F, hn, hb', OwnL.kept _ _ _ (fun g hg => hb.block g (OwnL.lt _ _ _ ho g hg)) ho⟩
theorem Obj1.later (h : Obj1 w lo hi c v) (hb : Below w.heap.size w w') : Obj1 w' lo hi c v := by
  obtain ⟨F, hn, hb', ho⟩ := h
  exact ⟨F, hn, hb', Cel.Own.kept _ _ _ (fun g hg => hb.block g (Cel.Own.lt _ _ _ ho g hg)) ho⟩
theorem Objs.rd (h : Objs w lo hi cs vs) : RdL w cs vs := by
  obtain ⟨F, _, _, ho⟩ := h
  exact OwnL.rd _ _ _ ho
theorem Obj1.rd (h : Obj1 w lo hi c v) : c.Rd w v := by
  obtain ⟨F, _, _, ho⟩ := h
  exact Cel.Own.rd _ _ _ ho
theorem Objs.nil (w : World) (lo hi : Nat) : Objs w lo hi [] [] := ⟨[], List.nodup_nil, fun g hg => (by cases hg), rfl, rfl⟩
theorem Objs.val (h : Objs w lo hi cs vs) (x : Value) : Objs w lo hi (.val x :: cs) (x :: vs) := by
  obtain ⟨F, hn, hb, ho⟩ := h
  exact ⟨F, hn, hb, x, vs, [], F, rfl, rfl, ⟨rfl, rfl⟩, ho⟩
theorem Objs.cons {mid mid' : Nat} (h1 : Obj1 w lo mid c v) (h2 : Objs w mid' hi cs vs) (hm : mid ≤ mid') (hl : lo ≤ mid') (hh : mid ≤ hi) : Objs w lo hi (c :: cs) (v :: vs) := by
  obtain ⟨F, hn, hb, ho⟩ := h1
  obtain ⟨G, hn', hb', ho'⟩ := h2
  refine ⟨F ++ G, List.nodup_append.2 ⟨hn, hn', fun a ha b hb2 e => ?_⟩, fun g hg => ?_, v, vs, F, G, rfl, rfl, ho, ho'⟩
  · have := hb a ha; have := hb' b hb2; omega
  · rcases List.mem_append.1 hg with hg | hg
    · have := hb g hg; omega
    · have := hb' g hg; omega
theorem Objs.one (h : Obj1 w lo hi c v) : Objs w lo hi [c] [v] := by
  obtain ⟨F, hn, hb, ho⟩ := h
  exact ⟨F, hn, hb, v, [], F, [], rfl, by simp, ho, rfl, rfl⟩
end
/-- Two slices in blocks of their own, in whatever order. -/
theorem obj_two {w : World} {a b lo hi : Nat} {c d : Cel} {v u : Value} (h1 : Obj1 w a (a + 1) c v) (h2 : Obj1 w b (b + 1) d u) (hne : a ≠ b) (ha : lo ≤ a ∧ a < hi) (hb : lo ≤ b ∧ b < hi) : Objs w lo hi [c, d] [v, u] := by
  obtain ⟨F, hn, hF, ho⟩ := h1
  obtain ⟨G, hn', hG, ho'⟩ := h2
  refine ⟨F ++ (G ++ []), ?_, ?_, v, [u], F, G ++ [], rfl, rfl, ho, u, [], G, [], rfl, rfl, ho', rfl, rfl⟩
  · rw [List.append_nil]
    exact List.nodup_append.2 ⟨hn, hn', fun x hx y hy e => by have := hF x hx; have := hG y hy; omega⟩
  · intro g hg
    rw [List.append_nil] at hg
    rcases List.mem_append.1 hg with hg | hg
    · have := hF g hg; omega
    · have := hG g hg; omega
theorem OwnL.append {w : World} : ∀ (A B : List Cel) (F G : List Nat) (us vs : List Value), OwnL w A F us → OwnL w B G vs → OwnL w (A ++ B) (F ++ G) (us ++ vs)
  | [], _, _, _, _, _, ⟨hF, hv⟩, h => by rw [hF, hv]; exact h
  | c :: A, B, _, G, _, vs, ⟨v, r, G1, H1, hv, hF, h1, h2⟩, h => by
    rw [hF, hv]
    exact ⟨v, r ++ vs, G1, H1 ++ G, rfl, by rw [List.append_assoc], h1, OwnL.append A B H1 G r vs h2 h⟩
/-- A row of the call's own whose cells own what they hold. -/
theorem own_of_row {w : World} {B e k n : Nat} {v : Value} {xs : List Value} {cs : List Cel} {G : List Nat} (ho : w.ownsRow B e k v n xs) (hl : cs.length = n * k) (hG : OwnL w cs G xs) :
    ∃ F, (Cel.sl e k n cs).Own w F v ∧ F = v.ownBlock.toList ++ G := by
  rcases ho.2 with ⟨rfl, rfl⟩ | ⟨g, cap, cur, rfl, hB, hg, hn, hm, hs, ht⟩
  · obtain rfl : cs = [] := List.length_eq_zero_iff.1 (by rw [hl, Nat.zero_mul])
    obtain ⟨rfl, _⟩ := hG
    exact ⟨[], ⟨hl, none, 0, rfl, Nat.le_refl _, by decide, .inl ⟨rfl, rfl⟩⟩, rfl⟩
  · refine ⟨g :: G, ⟨hl, _, cap, rfl, hn, hm, .inr ⟨g, cur, G, rfl, rfl, hg, by rw [hs]; exact Nat.mul_le_mul_right _ hn, by rw [ht]; exact hG⟩⟩, rfl⟩
theorem obj_of_row {w : World} {B e k n lo hi : Nat} {v : Value} {xs : List Value} {cs : List Cel} {G : List Nat} (ho : w.ownsRow B e k v n xs) (hl : cs.length = n * k) (hG : OwnL w cs G xs) (hn : G.Nodup)
    (hb : ∀ g ∈ G, lo ≤ g ∧ g < hi) (hv : ∀ g, v.ownBlock = some g → g ∉ G ∧ lo ≤ g ∧ g < hi) : Obj1 w lo hi (.sl e k n cs) v := by
  obtain ⟨F, h1, rfl⟩ := own_of_row ho hl hG
  refine ⟨_, ?_, ?_, h1⟩
  · cases hq : v.ownBlock with
    | none => simpa using hn
    | some q => simp only [Option.toList, List.cons_append, List.nil_append, List.nodup_cons]; exact ⟨(hv q hq).1, hn⟩
  · intro g hg
    cases hq : v.ownBlock with
    | none => rw [hq] at hg; exact hb g (by simpa using hg)
    | some q =>
      rw [hq] at hg
      simp only [Option.toList, List.cons_append, List.nil_append, List.mem_cons] at hg
      rcases hg with rfl | hg
      · exact (hv _ hq).2
      · exact hb g hg
/-- A copy under way: the first elements lie there and own what they hold. -/
structure Part2 {α : Type} (E : EncC α) (L : List α) (w : World) (g n k : Nat) : Prop where
  ex : ∃ xs G, w.ownsRow g E.e E.k (.slice (some ⟨g, 0, none⟩) n n) n xs ∧ OwnL w (celsE E (L.take k)) G (xs.take (k * E.k)) ∧ G.Nodup ∧ ∀ h ∈ G, g < h ∧ h < w.heap.size
theorem setsL_take : ∀ (vs xs : List Value) (o : Nat), o + vs.length ≤ xs.length → (setsL xs o vs).take (o + vs.length) = xs.take o ++ vs := by
  intro vs xs o h
  apply List.ext_getElem?
  intro j
  by_cases hj : j < o + vs.length
  · rw [List.getElem?_take_of_lt hj]
    by_cases hj0 : j < o
    · rw [setsL_out _ _ _ _ (.inl hj0), List.getElem?_append_left (by rw [List.length_take]; omega), List.getElem?_take_of_lt hj0]
    · obtain ⟨t, rfl⟩ : ∃ t, j = o + t := ⟨j - o, by omega⟩
      rw [setsL_in _ _ _ _ (by omega) h, List.getElem?_append_right (by rw [List.length_take]; omega), List.length_take, Nat.min_eq_left (by omega), Nat.add_sub_cancel_left]
  · rw [List.getElem?_eq_none (by rw [List.length_take]; omega), List.getElem?_eq_none (by rw [List.length_append, List.length_take]; omega)]
theorem Part2.start {α : Type} {E : EncC α} {L : List α} {w : World} {g n : Nat} {xs : List Value} (h : w.ownsRow g E.e E.k (.slice (some ⟨g, 0, none⟩) n n) n xs) : Part2 E L w g n 0 :=
  ⟨xs, [], h, by rw [List.take_zero, Nat.zero_mul, List.take_zero]; exact ⟨rfl, rfl⟩, List.nodup_nil, fun _ hh => by cases hh⟩
theorem Part2.later {α : Type} {E : EncC α} {L : List α} {w w' : World} {g n k : Nat} (h : Part2 E L w g n k) (hb : Below w.heap.size w w') : Part2 E L w' g n k := by
  obtain ⟨xs, G, h1, h2, h3, h4⟩ := h.ex
  exact ⟨xs, G, own_below h1 hb, OwnL.kept _ _ _ (fun q hq => hb.block q (h4 q hq).2) h2, h3, fun q hq => ⟨(h4 q hq).1, Nat.lt_of_lt_of_le (h4 q hq).2 hb.size⟩⟩
theorem heap_setCells_ne {q g : Nat} (hq : q ≠ g) : ∀ (vs : List Value) (w : World) (o : Nat), (w.setCells g o vs).heap[q]? = w.heap[q]?
  | [], _, _ => rfl
  | v :: r, w, o => by rw [World.setCells, heap_setCells_ne hq r, Below.heap_setCell _ _ _ _ (by exact hq)]
theorem size_setCells {g : Nat} : ∀ (vs : List Value) (w : World) (o : Nat), (w.setCells g o vs).heap.size = w.heap.size
  | [], _, _ => rfl
  | v :: r, w, o => by rw [World.setCells, size_setCells r]; simp [World.setCell]
theorem Part2.next {α : Type} [Inhabited α] {E : EncC α} {L : List α} {w w1 : World} {g n k hi : Nat} {vs : List Value} (h : Part2 E L w g n k) (hn : L.length = n) (hk : k < n) (hb : Below w.heap.size w w1)
    (ho : Objs w1 w.heap.size hi (E.cels (L.getD k default)) vs) : Part2 E L (w1.setCells g (k * E.k) vs) g n (k + 1) := by
  obtain ⟨xs, G, h1, h2, h3, h4⟩ := h.ex
  obtain ⟨F, hF, hr, hO⟩ := ho
  have hl : vs.length = E.k := by rw [OwnL.length _ _ _ hO, E.len]
  have h1' := own_below h1 hb
  have hg : g < w.heap.size := ownE_lt h1
  have hm : (k + 1) * E.k ≤ n * E.k := Nat.mul_le_mul_right _ hk
  rw [Nat.add_mul, Nat.one_mul] at hm
  have hne : ∀ q ∈ G ++ F, q ≠ g := by
    intro q hq
    rcases List.mem_append.1 hq with hq | hq
    · have := h4 q hq; omega
    · have := hr q hq; omega
  refine ⟨_, G ++ F, own_sets vs (k * E.k) h1', ?_, ?_, ?_⟩
  · rw [celsE_next E (by omega), show (k + 1) * E.k = k * E.k + vs.length by rw [hl, Nat.add_mul, Nat.one_mul], setsL_take _ _ _ (by rw [hl, h1.1]; exact hm)]
    refine OwnL.append _ _ _ _ _ _ ?_ ?_
    · exact OwnL.kept _ _ _ (fun q hq => by rw [heap_setCells_ne (hne q (List.mem_append_left _ hq))]; exact hb.block q (h4 q hq).2) h2
    · exact OwnL.kept _ _ _ (fun q hq => heap_setCells_ne (hne q (List.mem_append_right _ hq)) _ _ _) hO
  · exact List.nodup_append.2 ⟨h3, hF, fun a ha b hb2 e => by have := h4 a ha; have := hr b hb2; omega⟩
  · intro q hq
    rw [size_setCells]
    rcases List.mem_append.1 hq with hq | hq
    · have := h4 q hq; have := hb.size; omega
    · have := hr q hq; have := OwnL.lt _ _ _ hO q hq; omega
theorem Part2.done {α : Type} {E : EncC α} {L : List α} {w : World} {g n : Nat} (h : Part2 E L w g n n) (hn : L.length = n) : Obj1 w g w.heap.size (celRow E L) (.slice (some ⟨g, 0, none⟩) n n) := by
  obtain ⟨xs, G, h1, h2, h3, h4⟩ := h.ex
  rw [List.take_of_length_le (by omega), List.take_of_length_le (by rw [h1.1]; omega)] at h2
  unfold celRow
  rw [hn]
  exact obj_of_row h1 (by rw [celsE_length, hn]) h2 h3 (fun q hq => by have := h4 q hq; omega) (fun q hq => by
    have e : g = q := Option.some.inj hq
    have := ownE_lt h1
    exact ⟨fun hh => by have := h4 q hh; omega, by omega, by omega⟩)
def ToPost (c : Cel) (w : World) (e : Ending) (w' : World) : Prop := ∃ v, e = .returned v ∧ Obj1 w' w.heap.size w'.heap.size c v ∧ Below w.heap.size w w'
def ToPostS (cs : List Cel) (w : World) (e : Ending) (w' : World) : Prop := ∃ vs : List Value, e = .returned (.agg ⟨vs⟩) ∧ Objs w' w.heap.size w'.heap.size cs vs ∧ Below w.heap.size w w'

/-! Marked. -/
def MarkPost (c : Cel) (F : List Nat) (v : Value) (k : Nat) (w : World) (e : Ending) (w' : World) : Prop :=
  e = .returned (.int .i64 ((k + c.cnt : Nat) : Int)) ∧ OutF F w w' ∧ (c.mk k).Own w' F v
theorem own_set_same {w : World} {e k n : Nat} {cs : List Cel} {F : List Nat} {v : Value} {j : Nat} (h : (Cel.sl e k n cs).Own w F v) (hc : cs.set j (cs.getD j default) = cs) : (Cel.sl e k n (cs.set j (cs.getD j default))).Own w F v := by rw [hc]; exact h
/-- A plain place marked. -/
theorem mark_val {w : World} {e K n c i k : Nat} {cs : List Cel} {a : Option Addr} {F : List Nat} {y : Value} (h : (Cel.sl e K n (stM cs k i)).Own w F (.slice a n c)) (hF : F.Nodup) (hi : i < n * K) (hl : cs.length = n * K) (hy : cs.getD i default = .val y) :
    ∃ g, a = some ⟨g, 0, none⟩ ∧ g ∈ F ∧ (∃ u, w.cell? ⟨g, i, none⟩ = some u) ∧ w.frozen? ⟨g, i, none⟩ = false ∧
      (Cel.sl e K n (stM cs k (i + 1))).Own (w.setCell ⟨g, i, none⟩ (markV y (atM cs k i))) F (.slice a n c) ∧ OutF F w (w.setCell ⟨g, i, none⟩ (markV y (atM cs k i))) := by
  obtain ⟨g, G, u, ha, hg, _, _, _, hc, hz, _, _, hv⟩ := Cel.Own.sub h hF i hi
  have hget : (stM cs k i).getD i default = .val y := by rw [stM_getD (by omega) (Nat.le_refl _), hy]
  obtain ⟨h1, h2⟩ := hv y hget (markV y (atM cs k i))
  have e1 := stM_next (cs := cs) (k := k) (j := i) (by omega)
  rw [hy] at e1
  rw [show Cel.mk (.val y) (atM cs k i) = .val (markV y (atM cs k i)) from rfl] at e1
  rw [e1] at h1
  exact ⟨g, ha, hg, ⟨u, hc⟩, hz, h1, h2⟩
/-- A slice within marked. -/
theorem mark_sub {w : World} {e K n c i k : Nat} {cs : List Cel} {a : Option Addr} {F : List Nat} (h : (Cel.sl e K n (stM cs k i)).Own w F (.slice a n c)) (hF : F.Nodup) (hi : i < n * K) (hl : cs.length = n * K) :
    ∃ g G u, a = some ⟨g, 0, none⟩ ∧ G.Nodup ∧ w.cell? ⟨g, i, none⟩ = some u ∧ (cs.getD i default).Own w G u ∧
      ∀ w', OutF G w w' → ((cs.getD i default).mk (atM cs k i)).Own w' G u → (Cel.sl e K n (stM cs k (i + 1))).Own w' F (.slice a n c) ∧ OutF F w w' := by
  obtain ⟨g, G, u, ha, hg, hGF, _, hGn, hc, hz, ho, hk, _⟩ := Cel.Own.sub h hF i hi
  have hget : (stM cs k i).getD i default = cs.getD i default := stM_getD (by omega) (Nat.le_refl _)
  rw [hget] at ho
  refine ⟨g, G, u, ha, hGn, hc, ho, fun w' hO ho' => ⟨?_, hO.mono hGF⟩⟩
  have h1 := hk w' _ ho' hO
  rw [stM_next (by omega)] at h1
  exact h1
/-- The count at a place. -/
theorem atM_in {α : Type} [Inhabited α] (E : EncC α) {L : List α} {k j o : Nat} (hj : j < L.length) (ho : o ≤ E.k) : atM (celsE E L) k (j * E.k + o) = k + cntL (celsE E (L.take j)) + cntL ((E.cels (L.getD j default)).take o) := by
  unfold atM
  rw [celsE_in E hj ho, cntL_append, Nat.add_assoc]
theorem cntL_next {α : Type} [Inhabited α] (E : EncC α) {L : List α} {j : Nat} (hj : j < L.length) : cntL (celsE E (L.take (j + 1))) = cntL (celsE E (L.take j)) + cntL (E.cels (L.getD j default)) := by rw [celsE_next E hj, cntL_append]
theorem cntL_take {α : Type} (E : EncC α) (L : List α) (j : Nat) : cntL (celsE E (L.take j)) ≤ cntL (celsE E L) := by
  conv => rhs; rw [← List.take_append_drop j L, celsE_append, cntL_append]
  exact Nat.le_add_right _ _
/-- What is marked, read. -/
theorem rowM_at {α : Type} [Inhabited α] {E : EncC α} {w : World} {L : List α} {a : Option Addr} {n c k : Nat} (h : ((celRow E L).mk k).Rd w (.slice a n c)) (_ : 0 < E.k) (j : Nat) (hj : j < n) :
    ∃ g off vs, a = some ⟨g, off, none⟩ ∧ g < w.heap.size ∧ RdL w (mkL (E.cels (L.getD j default)) (k + cntL (celsE E (L.take j)))) vs ∧ ∀ (o : Nat) (u : Value), vs[o]? = some u → w.cell? ⟨g, off + j * E.k + o, none⟩ = some u := by
  obtain ⟨hl, a1, c1, vs, hv, hr, h1⟩ := h
  cases hv
  have hm : (j + 1) * E.k ≤ L.length * E.k := Nat.mul_le_mul_right _ hj
  rw [Nat.add_mul, Nat.one_mul] at hm
  rcases h1 with h0 | ⟨g, off, ha, hg, hc⟩
  · omega
  refine ⟨g, off, (vs.drop (j * E.k)).take E.k, ha, hg, ?_, fun o u hu => ?_⟩
  · have split : ∀ (A B : List Cel) (us : List Value), RdL w (A ++ B) us → RdL w A (us.take A.length) ∧ RdL w B (us.drop A.length) := by
      intro A
      induction A with
      | nil => intro B us h; exact ⟨rfl, h⟩
      | cons d A ihA =>
        intro B us h
        obtain ⟨v, s, rfl, h1, h2⟩ := h
        obtain ⟨p, q⟩ := ihA B s h2
        exact ⟨⟨v, s.take A.length, rfl, h1, p⟩, q⟩
    have e1 : celsE E L = celsE E (L.take j) ++ (E.cels (L.getD j default) ++ celsE E (L.drop (j + 1))) := by
      conv => lhs; rw [← List.take_append_drop (j + 1) L, celsE_append, celsE_next E hj]
      rw [List.append_assoc]
    have hr' : RdL w (mkL (celsE E L) k) vs := hr
    rw [e1, mkL_append, mkL_append] at hr'
    have h2 := (split _ _ _ hr').2
    rw [mkL_length, celsE_length, List.length_take, Nat.min_eq_left (by omega)] at h2
    have h3 := (split _ _ _ h2).1
    rw [mkL_length, E.len] at h3
    exact h3
  · rw [List.getElem?_take] at hu
    split at hu
    · rw [List.getElem?_drop] at hu
      rw [Nat.add_assoc]
      exact hc _ u hu
    · cases hu
/-! A struct alone: only its slices are marked. -/
def mkTop : List Cel → Nat → List Cel
  | [], _ => []
  | .val v :: cs, k => .val v :: mkTop cs k
  | .sl e s n c :: cs, k => (Cel.sl e s n c).mk k :: mkTop cs (k + (Cel.sl e s n c).cnt)
def cntTop : List Cel → Nat
  | [] => 0
  | .val _ :: cs => cntTop cs
  | .sl e s n c :: cs => (Cel.sl e s n c).cnt + cntTop cs
theorem own_nil {w : World} {F : List Nat} (h : OwnL w [] F []) : F = [] := h.1
theorem own_cons {w : World} {c : Cel} {cs : List Cel} {F : List Nat} {v : Value} {vs : List Value} (h : OwnL w (c :: cs) F (v :: vs)) : ∃ G H, F = G ++ H ∧ c.Own w G v ∧ OwnL w cs H vs := by
  obtain ⟨v', r', G, H, hv, hF, h1, h2⟩ := h
  cases hv
  exact ⟨G, H, hF, h1, h2⟩
theorem own_cons_val {w : World} {x : Value} {cs : List Cel} {F : List Nat} {v : Value} {vs : List Value} (h : OwnL w (.val x :: cs) F (v :: vs)) : OwnL w cs F vs := by
  obtain ⟨G, H, hF, ⟨hG, _⟩, h2⟩ := own_cons h
  subst hG
  rw [hF]
  exact h2
theorem rd_cons {w : World} {c : Cel} {cs : List Cel} {v : Value} {vs : List Value} (h : RdL w (c :: cs) (v :: vs)) : c.Rd w v ∧ RdL w cs vs := by
  obtain ⟨v', r', hv, h1, h2⟩ := h
  cases hv
  exact ⟨h1, h2⟩
/-- Blocks outside a range lie as they lay. -/
structure OutR (lo hi : Nat) (w w' : World) : Prop where
  os : w'.os = w.os
  tape : w'.tape = w.tape
  output : w'.output = w.output
  size : w.heap.size ≤ w'.heap.size
  block : ∀ g, (g < lo ∨ hi ≤ g) → g < w.heap.size → w'.heap[g]? = w.heap[g]?
theorem OutR.of {F : List Nat} {lo hi : Nat} {w w' : World} (h : OutF F w w') (hF : ∀ g ∈ F, lo ≤ g ∧ g < hi) : OutR lo hi w w' :=
  ⟨h.os, h.tape, h.output, h.size, fun g hg hl => h.block g (fun hh => by have := hF g hh; omega) hl⟩
theorem OutR.below {lo hi B : Nat} {w w' : World} (h : OutR lo hi w w') (h1 : B ≤ lo) (h2 : B ≤ w.heap.size) : Below B w w' :=
  ⟨h.os, h.tape, h.output, h.size, fun g hg => h.block g (by omega) (by omega)⟩
theorem Objs.out {w w' : World} {lo hi lo' hi' : Nat} {cs : List Cel} {vs : List Value} (h : Objs w lo hi cs vs) (ho : OutR lo' hi' w w') (hd : hi ≤ lo' ∨ hi' ≤ lo) : Objs w' lo hi cs vs := by
  obtain ⟨F, hn, hb, hO⟩ := h
  exact ⟨F, hn, hb, OwnL.kept _ _ _ (fun g hg => ho.block g (by have := hb g hg; omega) (OwnL.lt _ _ _ hO g hg)) hO⟩
theorem Obj1.out {w w' : World} {lo hi lo' hi' : Nat} {c : Cel} {v : Value} (h : Obj1 w lo hi c v) (ho : OutR lo' hi' w w') (hd : hi ≤ lo' ∨ hi' ≤ lo) : Obj1 w' lo hi c v := by
  obtain ⟨F, hn, hb, hO⟩ := h
  exact ⟨F, hn, hb, Cel.Own.kept _ _ _ (fun g hg => ho.block g (by have := hb g hg; omega) (Cel.Own.lt _ _ _ hO g hg)) hO⟩
theorem OutR.bk {w w' : World} {lo hi b : Nat} {cs : Array Value} {t : TypeId} (h : OutR lo hi w w') (hk : Bk w b cs t) (hd : b < lo ∨ hi ≤ b) : Bk w' b cs t := (h.block b hd hk.lt).trans hk
theorem sz_row' {α : Type} (E : EncC α) (L : List α) : (celRow E L).sz = L.length + szL (celsE E L) := rfl
theorem Cel.Rd.drew {w : World} {c : Cel} {v : Value} (h : c.Rd w v) : c.Rd w.drew v := Cel.Rd.later ((Below.refl _ _).drew) c v h
theorem rowK_form {α : Type} {E : EncC α} {w : World} {L : List α} {k : Nat} {v : Value} (h : ((celRow E L).mk k).Rd w v) : ∃ a n c, v = .slice a n c ∧ L.length = n := by
  obtain ⟨hl, a1, c1, vs, hv, hr, h1⟩ := h
  exact ⟨a1, L.length, c1, hv, rfl⟩
theorem mark3_eq {a b : Nat} {c : Int} (h : a = b) (hc : c = (b : Int)) : (a % 3 == 0) = (c % 3 == 0) := by
  subst h hc
  rw [Bool.eq_iff_iff]
  simp only [beq_iff_eq]
  omega
theorem own_vals {w : World} : ∀ xs : List Value, OwnL w (xs.map .val) [] xs
  | [] => ⟨rfl, rfl⟩
  | x :: r => ⟨x, r, [], [], rfl, rfl, ⟨rfl, rfl⟩, own_vals r⟩
end Go.Proofs.YtkfkjcadmdcbnaaGreatDoor
namespace Go.Proofs.YtkfkjcadmdcbnaaGreatDoor
open Go.RowKit Go.Proofs.YtkfkjcadmdcbnaaGreatDoor.Parts Go.Proofs.YtkfkjcadmdcbnaaGreatDoor.Hexa

def cInt : EncC Int := ⟨3, 1, fun x => [.val (.int .i64 x)], fun _ => rfl⟩
theorem cInt_at {w : World} {L : List Int} {a : Option Addr} {n c : Nat} (h : (celRow cInt L).Rd w (.slice a n c)) (j : Nat) (hj : j < n) :
    ∃ (g off : Nat), a = some ⟨g, off, none⟩ ∧ g < w.heap.size ∧ w.cell? ⟨g, off + j, none⟩ = some (.int .i64 (L.getD j default)) := by
  obtain ⟨g, off, vs, ha, hg, hr, hc⟩ := row_at h (by decide) j hj
  obtain ⟨v, r, rfl, h0, h1⟩ := hr
  have h0' : v = .int .i64 (L.getD j default) := h0
  have h9 := hc 0 v rfl
  rw [h0', show off + j * cInt.k + 0 = off + j from by show off + j * 1 + 0 = _; omega] at h9
  exact ⟨g, off, ha, hg, h9⟩
theorem srcI_of_rd {w : World} {L : List Int} {a : Option Addr} {n c : Nat} (h : (celRow cInt L).Rd w (.slice a n c)) : SrcI w a n L := by
  obtain ⟨_, _, _, hv, hn⟩ := row_form h
  cases hv
  exact ⟨hn, fun j hj => cInt_at h j hj⟩
theorem rd_of_srcI {w : World} {L : List Int} {a : Option Addr} {n c : Nat} (h : SrcI w a n L) : (celRow cInt L).Rd w (.slice a n c) := by
  have hl := h.len
  subst hl
  refine ⟨by rw [celsE_length], a, c, icells L, rfl, ?_, ?_⟩
  · clear h
    induction L with
    | nil => exact rfl
    | cons x r ih => exact ⟨_, _, rfl, rfl, ih⟩
  · by_cases h0 : L.length = 0
    · exact .inl h0
    · obtain ⟨g, off, ha, hg, _⟩ := h.cell 0 (by omega)
      refine .inr ⟨g, off, ha, hg, fun j u hu => ?_⟩
      have hj : j < L.length := by
        rcases Nat.lt_or_ge j L.length with h9 | h9
        · exact h9
        · rw [List.getElem?_eq_none (by rw [icells_length]; exact h9)] at hu; cases hu
      obtain ⟨g2, off2, ha2, _, hc⟩ := h.cell j hj
      rw [ha] at ha2
      cases ha2
      rw [hc]
      simp only [icells, List.getElem?_map] at hu
      rw [List.getElem?_eq_getElem hj] at hu
      simp only [Option.map_some, Option.some.injEq] at hu
      rw [← hu]
      simp [List.getD, hj]
theorem own_ints {w : World} : ∀ L : List Int, OwnL w (celsE cInt L) [] (icells L)
  | [] => ⟨rfl, rfl⟩
  | x :: r => ⟨.int .i64 x, icells r, [], [], rfl, rfl, ⟨rfl, rfl⟩, own_ints r⟩
theorem obj_ints {w : World} {B n lo hi : Nat} {v : Value} {L : List Int} (h : w.ownsRow B 3 1 v n (icells L)) (h1 : lo ≤ B) (h2 : w.heap.size ≤ hi) : Obj1 w lo hi (celRow cInt L) v := by
  have hl : L.length = n := by have := h.1; rw [icells_length] at this; omega
  unfold celRow
  rw [hl]
  exact obj_of_row h (by rw [celsE_length, hl]) (own_ints L) List.nodup_nil (fun _ hg => by cases hg) (fun g hg => by have := h.lt g hg; exact ⟨by simp, by omega, by omega⟩)

theorem cInt_sz (x : Int) : szL (cInt.cels x) = 0 + 0 := rfl
theorem szInts_eq (L : List Int) : (celRow cInt L).sz = L.length := by
  have h1 : ∀ M : List Int, szL (celsE cInt M) = 0 := by
    intro M
    induction M with
    | nil => rfl
    | cons x r ih => rw [celsE, szL_append, ih]; rfl
  show L.length + szL (celsE cInt L) = _
  have := h1 L
  omega
end Go.Proofs.YtkfkjcadmdcbnaaGreatDoor
namespace Go.Proofs.YtkfkjcadmdcbnaaGreatDoor
open Go.RowKit Go.Proofs.YtkfkjcadmdcbnaaGreatDoor.Parts Go.Proofs.YtkfkjcadmdcbnaaGreatDoor.Hexa

def cRec : EncC RecR := ⟨139, 3, fun x => [.val (.int .i64 x.f0), .val (.int .i64 x.f1), .val (.string x.f2)], fun _ => rfl⟩
theorem infoRecD : (Tryz.prog.info? 139).map (fun i => (i.zero, i.size, i.bytes)) = some (some (.agg #[.int .i64 0, .int .i64 0, .string ⟨#[]⟩]), 3, 32) := by kernel_rfl
theorem cRec_form {w : World} {x : RecR} {vs : List Value} (h : RdL w (cRec.cels x) vs) : vs = [.int .i64 x.f0, .int .i64 x.f1, .string x.f2] := by
  obtain ⟨v0, r0, e0, h0, v1, r1, e1, h1, v2, r2, e2, h2, hend⟩ := h
  have f0 : v0 = .int .i64 x.f0 := h0
  have f1 : v1 = .int .i64 x.f1 := h1
  have f2 : v2 = .string x.f2 := h2
  have hend' : r2 = [] := hend
  rw [hend'] at e2
  rw [e2] at e1
  rw [e1] at e0
  rw [f0, f1, f2] at e0
  exact e0
theorem cRec_rd {w : World} {x : RecR}  : RdL w (cRec.cels x) [.int .i64 x.f0, .int .i64 x.f1, .string x.f2] :=
  ⟨_, _, rfl, rfl, ⟨_, _, rfl, rfl, ⟨_, _, rfl, rfl, rfl⟩⟩⟩
theorem cRec_at {w : World} {L : List RecR} {a : Option Addr} {n c : Nat} (h : (celRow cRec L).Rd w (.slice a n c)) (j : Nat) (hj : j < n) :
    ∃ (g off : Nat), a = some ⟨g, off, none⟩ ∧ g < w.heap.size ∧ w.cell? ⟨g, off + j * 3, none⟩ = some (.int .i64 (L.getD j default).f0) ∧ w.cell? ⟨g, off + j * 3 + 1, none⟩ = some (.int .i64 (L.getD j default).f1) ∧ w.cell? ⟨g, off + j * 3 + 2, none⟩ = some (.string (L.getD j default).f2) := by
  obtain ⟨g, off, vs, ha, hg, hr, hc⟩ := row_at h (by decide) j hj
  have hv := cRec_form hr
  subst hv
  exact ⟨g, off, ha, hg, hc 0 _ rfl, hc 1 _ rfl, hc 2 _ rfl⟩
theorem cRec_sz (x : RecR) : szL (cRec.cels x) = (0 + (0 + (x.f2.size + 0))) := rfl
theorem cRec_cnt (x : RecR) : cntL (cRec.cels x) = (1 + (1 + (1 + 0))) := rfl

end Go.Proofs.YtkfkjcadmdcbnaaGreatDoor
namespace Go.Proofs.YtkfkjcadmdcbnaaGreatDoor
open Go.RowKit Go.Proofs.YtkfkjcadmdcbnaaGreatDoor.Parts Go.Proofs.YtkfkjcadmdcbnaaGreatDoor.Hexa

def cEntry : EncC EntryR := ⟨143, 2, fun x => [.val (.int .i64 x.f0), .val (.string x.f1)], fun _ => rfl⟩
theorem infoEntryD : (Tryz.prog.info? 143).map (fun i => (i.zero, i.size, i.bytes)) = some (some (.agg #[.int .i64 0, .string ⟨#[]⟩]), 2, 24) := by kernel_rfl
theorem cEntry_form {w : World} {x : EntryR} {vs : List Value} (h : RdL w (cEntry.cels x) vs) : vs = [.int .i64 x.f0, .string x.f1] := by
  obtain ⟨v0, r0, e0, h0, v1, r1, e1, h1, hend⟩ := h
  have f0 : v0 = .int .i64 x.f0 := h0
  have f1 : v1 = .string x.f1 := h1
  have hend' : r1 = [] := hend
  rw [hend'] at e1
  rw [e1] at e0
  rw [f0, f1] at e0
  exact e0
theorem cEntry_rd {w : World} {x : EntryR}  : RdL w (cEntry.cels x) [.int .i64 x.f0, .string x.f1] :=
  ⟨_, _, rfl, rfl, ⟨_, _, rfl, rfl, rfl⟩⟩
theorem cEntry_at {w : World} {L : List EntryR} {a : Option Addr} {n c : Nat} (h : (celRow cEntry L).Rd w (.slice a n c)) (j : Nat) (hj : j < n) :
    ∃ (g off : Nat), a = some ⟨g, off, none⟩ ∧ g < w.heap.size ∧ w.cell? ⟨g, off + j * 2, none⟩ = some (.int .i64 (L.getD j default).f0) ∧ w.cell? ⟨g, off + j * 2 + 1, none⟩ = some (.string (L.getD j default).f1) := by
  obtain ⟨g, off, vs, ha, hg, hr, hc⟩ := row_at h (by decide) j hj
  have hv := cEntry_form hr
  subst hv
  exact ⟨g, off, ha, hg, hc 0 _ rfl, hc 1 _ rfl⟩
theorem cEntry_sz (x : EntryR) : szL (cEntry.cels x) = (0 + (x.f1.size + 0)) := rfl
theorem cEntry_cnt (x : EntryR) : cntL (cEntry.cels x) = (1 + (1 + 0)) := rfl

end Go.Proofs.YtkfkjcadmdcbnaaGreatDoor
namespace Go.Proofs.YtkfkjcadmdcbnaaGreatDoor
open Go.RowKit Go.Proofs.YtkfkjcadmdcbnaaGreatDoor.Parts Go.Proofs.YtkfkjcadmdcbnaaGreatDoor.Hexa

instance : Inhabited InoR := ⟨⟨0, 0, 0, ByteArray.empty, [], []⟩⟩
def cIno : EncC InoR := ⟨102, 6, fun x => [.val (.int .i64 x.kd), .val (.int .i64 x.sz), .val (.int .i64 x.gn), .val (.string x.key), celRow cRec x.R, celRow cEntry x.E], fun _ => rfl⟩
theorem infoInoD : (Tryz.prog.info? 102).map (fun i => (i.zero, i.size, i.bytes)) = some (some (.agg #[.int .i64 0, .int .i64 0, .int .i64 0, .string ⟨#[]⟩, .slice none 0 0, .slice none 0 0]), 6, 88) := by kernel_rfl
theorem cIno_form {w : World} {x : InoR} {vs : List Value} (h : RdL w (cIno.cels x) vs) : ∃ (a4 : Option Addr) (c4 : Nat) (a5 : Option Addr) (c5 : Nat), vs = [.int .i64 x.kd, .int .i64 x.sz, .int .i64 x.gn, .string x.key, .slice a4 x.R.length c4, .slice a5 x.E.length c5] ∧ (celRow cRec x.R).Rd w (.slice a4 x.R.length c4) ∧ (celRow cEntry x.E).Rd w (.slice a5 x.E.length c5) := by
  obtain ⟨v0, r0, e0, h0, v1, r1, e1, h1, v2, r2, e2, h2, v3, r3, e3, h3, v4, r4, e4, h4, v5, r5, e5, h5, hend⟩ := h
  have f0 : v0 = .int .i64 x.kd := h0
  have f1 : v1 = .int .i64 x.sz := h1
  have f2 : v2 = .int .i64 x.gn := h2
  have f3 : v3 = .string x.key := h3
  obtain ⟨a4, n4, c4, f4, g4⟩ := row_form (E := cRec) (L := x.R) h4
  obtain ⟨a5, n5, c5, f5, g5⟩ := row_form (E := cEntry) (L := x.E) h5
  have hend' : r5 = [] := hend
  subst g4 g5
  rw [hend'] at e5
  rw [e5] at e4
  rw [e4] at e3
  rw [e3] at e2
  rw [e2] at e1
  rw [e1] at e0
  rw [f0, f1, f2, f3, f4, f5] at e0
  rw [f4] at h4
  rw [f5] at h5
  exact ⟨a4, c4, a5, c5, e0, h4, h5⟩
theorem cIno_rd {w : World} {x : InoR} {a4 : Option Addr} {c4 : Nat} {a5 : Option Addr} {c5 : Nat} (h4 : (celRow cRec x.R).Rd w (.slice a4 x.R.length c4)) (h5 : (celRow cEntry x.E).Rd w (.slice a5 x.E.length c5)) : RdL w (cIno.cels x) [.int .i64 x.kd, .int .i64 x.sz, .int .i64 x.gn, .string x.key, .slice a4 x.R.length c4, .slice a5 x.E.length c5] :=
  ⟨_, _, rfl, rfl, ⟨_, _, rfl, rfl, ⟨_, _, rfl, rfl, ⟨_, _, rfl, rfl, ⟨_, _, rfl, h4, ⟨_, _, rfl, h5, rfl⟩⟩⟩⟩⟩⟩
theorem cIno_un {w : World} {x : InoR} {a4 : Option Addr} {c4 : Nat} {a5 : Option Addr} {c5 : Nat} (h : RdL w (cIno.cels x) [.int .i64 x.kd, .int .i64 x.sz, .int .i64 x.gn, .string x.key, .slice a4 x.R.length c4, .slice a5 x.E.length c5]) : (celRow cRec x.R).Rd w (.slice a4 x.R.length c4) ∧ (celRow cEntry x.E).Rd w (.slice a5 x.E.length c5) := by
  replace h := (rd_cons h).2
  replace h := (rd_cons h).2
  replace h := (rd_cons h).2
  replace h := (rd_cons h).2
  obtain ⟨h4, h⟩ := rd_cons h
  obtain ⟨h5, h⟩ := rd_cons h
  exact ⟨h4, h5⟩
theorem cIno_at {w : World} {L : List InoR} {a : Option Addr} {n c : Nat} (h : (celRow cIno L).Rd w (.slice a n c)) (j : Nat) (hj : j < n) :
    ∃ (g off : Nat) (a4 : Option Addr) (c4 : Nat) (a5 : Option Addr) (c5 : Nat), a = some ⟨g, off, none⟩ ∧ g < w.heap.size ∧ w.cell? ⟨g, off + j * 6, none⟩ = some (.int .i64 (L.getD j default).kd) ∧ w.cell? ⟨g, off + j * 6 + 1, none⟩ = some (.int .i64 (L.getD j default).sz) ∧ w.cell? ⟨g, off + j * 6 + 2, none⟩ = some (.int .i64 (L.getD j default).gn) ∧ w.cell? ⟨g, off + j * 6 + 3, none⟩ = some (.string (L.getD j default).key) ∧ w.cell? ⟨g, off + j * 6 + 4, none⟩ = some (.slice a4 (L.getD j default).R.length c4) ∧ w.cell? ⟨g, off + j * 6 + 5, none⟩ = some (.slice a5 (L.getD j default).E.length c5) ∧ (celRow cRec (L.getD j default).R).Rd w (.slice a4 (L.getD j default).R.length c4) ∧ (celRow cEntry (L.getD j default).E).Rd w (.slice a5 (L.getD j default).E.length c5) := by
  obtain ⟨g, off, vs, ha, hg, hr, hc⟩ := row_at h (by decide) j hj
  obtain ⟨a4, c4, a5, c5, hv, h4, h5⟩ := cIno_form hr
  subst hv
  exact ⟨g, off, a4, c4, a5, c5, ha, hg, hc 0 _ rfl, hc 1 _ rfl, hc 2 _ rfl, hc 3 _ rfl, hc 4 _ rfl, hc 5 _ rfl, h4, h5⟩
theorem cIno_sz (x : InoR) : szL (cIno.cels x) = (0 + (0 + (0 + (x.key.size + ((celRow cRec x.R).sz + ((celRow cEntry x.E).sz + 0)))))) := rfl
theorem cIno_cnt (x : InoR) : cntL (cIno.cels x) = (1 + (1 + (1 + (1 + ((celRow cRec x.R).cnt + ((celRow cEntry x.E).cnt + 0)))))) := rfl

end Go.Proofs.YtkfkjcadmdcbnaaGreatDoor
