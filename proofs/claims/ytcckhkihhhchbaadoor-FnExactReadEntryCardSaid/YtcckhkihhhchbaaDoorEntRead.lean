/- ReadEntry: the model's. -/
import Derived.Test.YtcckhkihhhchbaaDoorRecRead
import Derived.Test.YtcckhkihhhchbaaDoorEntMath
namespace Go.Proofs.YtcckhkihhhchbaaDoor
open Go.RowKit Go.Proofs.YtcckhkihhhchbaaDoor.Parts Go.Proofs.YtcckhkihhhchbaaDoor.Hexa Go.Proofs.YtcckhkihhhchbaaDoor.Byt

def SaysEnt (r : EntryR) (b : Bool) (w : World) (e : Ending) (w' : World) : Prop := e = .returned (.tuple #[.agg #[.int .i64 r.f0, .string r.f1], .bool b]) ∧ Below w.heap.size w w'
theorem byte_getD (s : ByteArray) (j : Nat) (hj : j < s.size) : s.data.toList.getD j 0 = s[j] := by
  have hj' : j < s.data.toList.length := by simpa using hj
  simp only [List.getD, List.getElem?_eq_getElem hj', Option.getD_some]
  rfl
set_option maxRecDepth 100000 in
set_option maxHeartbeats 1000000 in
theorem specReadEntry_len (s : ByteArray) (w : World) (_hs : s.size ≤ 2000000) (h : ¬ s.size = 8) :
    Calls Tryd.prog 23 #[.string s] w (SaysEnt ⟨0, ⟨#[]⟩⟩ false w) := by
  have B0 := Lib.hid (below_bk w (.cells #[.int .i64 0, .string ⟨#[]⟩] 41))
  have e8 : ((s.size : Int) == 8) = false := by simp; omega
  have e9 : ((s.size : Int) != 8) = true := by simp; omega
  go_enter Tryd.func23, Tryd.ntmps23
  go_wp2
  refine bodyPost_ret (v := .tuple #[.agg #[.int .i64 0, .string ⟨#[]⟩], .bool false]) ?_ rfl ⟨rfl, ?_⟩
  · simp [results, Tryd.results23, go_sem]
  · exact B0.out

set_option maxRecDepth 100000 in
set_option maxHeartbeats 4000000 in
theorem specReadEntry_yes (s : ByteArray) (w : World) (h8 : s.size = 8) (h : EntryOk (entryOf s)) :
    Calls Tryd.prog 23 #[.string s] w (SaysEnt (entryOf s) true w) := by
  have R0 := Lib.hid (Bk.alloc w #[.int .i64 0, .string ⟨#[]⟩] 41)
  have B0 := Lib.hid (below_bk w (.cells #[.int .i64 0, .string ⟨#[]⟩] 41))
  have e8 : ((s.size : Int) == 8) = true := by simp; omega
  have e9 : ((s.size : Int) != 8) = false := by simp; omega
  have hs8 : s.size ≤ 8 := by omega
  have hs9 : 8 ≤ s.size := by omega
  have HB := Lib.hid (entry_back h8 h)
  have hE0 := endTo_bd s.data.toList 8
  have HEO : Hid (endOf s = endTo s.data.toList 8) := Lib.hid rfl
  have H8 := Lib.hid h8
  have HEN := Lib.hid (show entryOf s = ⟨((s.data.toList.getD 0 0).toNat : Int), s.extract 1 (endOf s)⟩ from rfl)
  clear h8 h hE0
  go_enter Tryd.func23, Tryd.ntmps23
  go_wp2
  go_loop [4] (fun ev => ∃ k : Nat, 1 ≤ k ∧ k ≤ 8 ∧ ev = .int .i64 k ∧ Hid (endTo s.data.toList k = endTo s.data.toList 8)) (fun ev => (intOf ev).toNat)
  case atStart => exact ⟨8, by omega, by omega, rfl, Lib.hid rfl⟩
  case round =>
    obtain ⟨k, hk1, hk8, rfl, HK⟩ := hrel
    obtain ⟨m, rfl⟩ : ∃ m, k = m + 1 := ⟨k - 1, by omega⟩
    have hml : m < s.size := by omega
    obtain ⟨b, hb⟩ : ∃ b, s[m]'hml = b := ⟨_, rfl⟩
    have hb255 := b.toNat_lt
    have hmi : ((m + 1 : Nat) : Int) - 1 = (m : Int) := by omega
    by_cases hgo : 0 < m ∧ b = 0
    · obtain ⟨hm0, hb0⟩ := hgo
      subst hb0
      have HK2 : Hid (endTo s.data.toList m = endTo s.data.toList 8) := Lib.hid (by
        obtain ⟨j, rfl⟩ : ∃ j, m = j + 1 := ⟨m - 1, by omega⟩
        rw [← HK.out, endTo_step _ j (by rw [byte_getD s (j + 1) hml]; exact hb)])
      clear HK
      go_wp2
      go_round
      case rel => exact ⟨m, by omega, by omega, rfl, HK2⟩
      case measure => (simp [intOf]; try omega)
    · have HX : Hid (endOf s = m + 1) := Lib.hid (by
        rw [HEO.out, ← HK.out]
        by_cases h1 : m = 0
        · subst h1; rfl
        · obtain ⟨j, rfl⟩ : ∃ j, m = j + 1 := ⟨m - 1, by omega⟩
          rw [endTo_stop _ j (by rw [byte_getD s (j + 1) hml, hb]; exact fun e => hgo ⟨by omega, e⟩)])
      have hcase : ¬ (1 < m + 1) ∨ (1 < m + 1 ∧ ((b.toNat : Int) == 0) = false ∧ ¬ b = 0) := by
        by_cases h1 : m = 0
        · left; omega
        · right
          have hbn : ¬ b = 0 := fun e => hgo ⟨by omega, e⟩
          have hbt : ¬ b.toNat = 0 := fun e => hbn (UInt8.toNat_inj.1 (by rw [e]; rfl))
          exact ⟨by omega, by simp; omega, hbn⟩
      have hs0 : 0 < s.size := by omega
      obtain ⟨P, hP⟩ : ∃ P : Int, ((s[0]'hs0).toNat : Int) = P := ⟨_, rfl⟩
      obtain ⟨M, hM⟩ : ∃ M, s.extract 1 (m + 1) = M := ⟨_, rfl⟩
      have hR : entryOf s = ⟨P, M⟩ := by rw [HEN.out, HX.out, hM, byte_getD s 0 hs0, hP]
      have hMs : M.size ≤ 8 := by rw [← hM, ByteArray.size_extract]; omega
      rw [hR] at HB
      have HRR := Lib.hid hR
      have HM8 := Lib.hid hMs
      have P0 : 0 ≤ P := by omega
      have P1 : P ≤ 255 := by have := (s[0]'hs0).toNat_lt; omega
      have l1 : (0 : Int) ≤ (m : Int) := by omega
      have l2 : (m : Int) + 1 ≤ (s.size : Int) := by omega
      have l3 : (1 : Int) ≤ (m : Int) + 1 := by omega
      have l4 : ((m : Int) + 1).toNat = m + 1 := by omega
      clear hR hMs HK HEO HEN H8 hgo HX
      rcases hcase with hc | ⟨hc, hc2, hc3⟩
      all_goals
        go_wp2
        go_region_held3 (fun w' => True) (exact trivial) (first | fail)
        all_goals
          go_wp2_with fail
          have hba := below_bk (w.alloc (.cells #[.int .i64 0, .string ⟨#[]⟩] 41)) (.cells #[.int .i64 P, .string M] 41)
          have R3 := Lib.hid (R0.out.later hba).drew
          have B3 : Hid (Below w.heap.size w ((w.alloc (.cells #[.int .i64 0, .string ⟨#[]⟩] 41)).alloc (.cells #[.int .i64 P, .string M] 41)).drew) := Lib.hid ((B0.out.trans (hba.mono B0.out.size)).drew)
          have X3 := Lib.hid (Bk.alloc (w.alloc (.cells #[.int .i64 0, .string ⟨#[]⟩] 41)) #[.int .i64 P, .string M] 41).drew
          have hsz : (w.alloc (.cells #[.int .i64 0, .string ⟨#[]⟩] 41)).heap.size = w.heap.size + 1 := by simp
          rw [hsz] at X3
          clear hba hsz
          refine (specEntryWord_any P M _ (by have := HM8.out; omega)).mono ?_
          rw [HB.out]
          rintro e w4 ⟨rfl, hb4⟩
          have R4 := Lib.hid (R3.out.later hb4)
          have X4 := Lib.hid (X3.out.later hb4)
          have B4 : Hid (Below w.heap.size w w4) := Lib.hid (B3.out.trans (hb4.mono B3.out.size))
          clear hb4 R3 X3 B3
          have x0 := X4.out.cell (j := 0) rfl
          have x1 := X4.out.cell (j := 1) rfl
          have r0 := R4.out.cell (j := 0) rfl
          have r1 := R4.out.cell (j := 1) rfl
          have f0 := R4.out.fr (o := 0)
          have f1 := R4.out.fr (o := 1)
          have qf := (R4.out.set 0 (.int .i64 P)).set 1 (.string M)
          have q0 := qf.cell (j := 0) (v := .int .i64 P) rfl
          have q1 := qf.cell (j := 1) (v := .string M) rfl
          clear qf
          go_wp2
          refine bodyPost_ret (v := .tuple #[.agg #[.int .i64 P, .string M], .bool true]) ?_ rfl ⟨by rw [HRR.out], ?_⟩
          · simp [results, Tryd.results23, go_sem, q0, q1]
          · exact (B4.out.setCell (Nat.le_refl _) _).setCell (Nat.le_refl _) _
set_option maxRecDepth 100000 in
set_option maxHeartbeats 4000000 in
theorem specReadEntry_no (s : ByteArray) (w : World) (h8 : s.size = 8) (h : ¬ EntryOk (entryOf s)) :
    Calls Tryd.prog 23 #[.string s] w (SaysEnt (⟨0, ⟨#[]⟩⟩) false w) := by
  have R0 := Lib.hid (Bk.alloc w #[.int .i64 0, .string ⟨#[]⟩] 41)
  have B0 := Lib.hid (below_bk w (.cells #[.int .i64 0, .string ⟨#[]⟩] 41))
  have e8 : ((s.size : Int) == 8) = true := by simp; omega
  have e9 : ((s.size : Int) != 8) = false := by simp; omega
  have hs8 : s.size ≤ 8 := by omega
  have hs9 : 8 ≤ s.size := by omega
  have HB := Lib.hid (entryWordB_no h)
  have n1 := text_full s (by omega)
  have n2 := text_full' s (by omega)
  have hE0 := endTo_bd s.data.toList 8
  have HEO : Hid (endOf s = endTo s.data.toList 8) := Lib.hid rfl
  have H8 := Lib.hid h8
  have HEN := Lib.hid (show entryOf s = ⟨((s.data.toList.getD 0 0).toNat : Int), s.extract 1 (endOf s)⟩ from rfl)
  clear h8 h hE0
  go_enter Tryd.func23, Tryd.ntmps23
  go_wp2
  go_loop [4] (fun ev => ∃ k : Nat, 1 ≤ k ∧ k ≤ 8 ∧ ev = .int .i64 k ∧ Hid (endTo s.data.toList k = endTo s.data.toList 8)) (fun ev => (intOf ev).toNat)
  case atStart => exact ⟨8, by omega, by omega, rfl, Lib.hid rfl⟩
  case round =>
    obtain ⟨k, hk1, hk8, rfl, HK⟩ := hrel
    obtain ⟨m, rfl⟩ : ∃ m, k = m + 1 := ⟨k - 1, by omega⟩
    have hml : m < s.size := by omega
    obtain ⟨b, hb⟩ : ∃ b, s[m]'hml = b := ⟨_, rfl⟩
    have hb255 := b.toNat_lt
    have hmi : ((m + 1 : Nat) : Int) - 1 = (m : Int) := by omega
    by_cases hgo : 0 < m ∧ b = 0
    · obtain ⟨hm0, hb0⟩ := hgo
      subst hb0
      have HK2 : Hid (endTo s.data.toList m = endTo s.data.toList 8) := Lib.hid (by
        obtain ⟨j, rfl⟩ : ∃ j, m = j + 1 := ⟨m - 1, by omega⟩
        rw [← HK.out, endTo_step _ j (by rw [byte_getD s (j + 1) hml]; exact hb)])
      clear HK
      go_wp2
      go_round
      case rel => exact ⟨m, by omega, by omega, rfl, HK2⟩
      case measure => (simp [intOf]; try omega)
    · have HX : Hid (endOf s = m + 1) := Lib.hid (by
        rw [HEO.out, ← HK.out]
        by_cases h1 : m = 0
        · subst h1; rfl
        · obtain ⟨j, rfl⟩ : ∃ j, m = j + 1 := ⟨m - 1, by omega⟩
          rw [endTo_stop _ j (by rw [byte_getD s (j + 1) hml, hb]; exact fun e => hgo ⟨by omega, e⟩)])
      have hcase : ¬ (1 < m + 1) ∨ (1 < m + 1 ∧ ((b.toNat : Int) == 0) = false ∧ ¬ b = 0) := by
        by_cases h1 : m = 0
        · left; omega
        · right
          have hbn : ¬ b = 0 := fun e => hgo ⟨by omega, e⟩
          have hbt : ¬ b.toNat = 0 := fun e => hbn (UInt8.toNat_inj.1 (by rw [e]; rfl))
          exact ⟨by omega, by simp; omega, hbn⟩
      have hs0 : 0 < s.size := by omega
      obtain ⟨P, hP⟩ : ∃ P : Int, ((s[0]'hs0).toNat : Int) = P := ⟨_, rfl⟩
      obtain ⟨M, hM⟩ : ∃ M, s.extract 1 (m + 1) = M := ⟨_, rfl⟩
      have hR : entryOf s = ⟨P, M⟩ := by rw [HEN.out, HX.out, hM, byte_getD s 0 hs0, hP]
      have hMs : M.size ≤ 8 := by rw [← hM, ByteArray.size_extract]; omega
      rw [hR] at HB
      have HRR := Lib.hid hR
      have HM8 := Lib.hid hMs
      have P0 : 0 ≤ P := by omega
      have P1 : P ≤ 255 := by have := (s[0]'hs0).toNat_lt; omega
      have l1 : (0 : Int) ≤ (m : Int) := by omega
      have l2 : (m : Int) + 1 ≤ (s.size : Int) := by omega
      have l3 : (1 : Int) ≤ (m : Int) + 1 := by omega
      have l4 : ((m : Int) + 1).toNat = m + 1 := by omega
      clear hR hMs HK HEO HEN H8 hgo HX
      rcases hcase with hc | ⟨hc, hc2, hc3⟩
      all_goals
        go_wp2
        go_region_held3 (fun w' => True) (exact trivial) (first | fail)
        all_goals
          go_wp2_with fail
          have hba := below_bk (w.alloc (.cells #[.int .i64 0, .string ⟨#[]⟩] 41)) (.cells #[.int .i64 P, .string M] 41)
          have R3 := Lib.hid (R0.out.later hba).drew
          have B3 : Hid (Below w.heap.size w ((w.alloc (.cells #[.int .i64 0, .string ⟨#[]⟩] 41)).alloc (.cells #[.int .i64 P, .string M] 41)).drew) := Lib.hid ((B0.out.trans (hba.mono B0.out.size)).drew)
          have X3 := Lib.hid (Bk.alloc (w.alloc (.cells #[.int .i64 0, .string ⟨#[]⟩] 41)) #[.int .i64 P, .string M] 41).drew
          have hsz : (w.alloc (.cells #[.int .i64 0, .string ⟨#[]⟩] 41)).heap.size = w.heap.size + 1 := by simp
          rw [hsz] at X3
          clear hba hsz
          refine (specEntryWord_any P M _ (by have := HM8.out; omega)).mono ?_
          rw [HB.out]
          rintro e w4 ⟨rfl, hb4⟩
          have R4 := Lib.hid (R3.out.later hb4)
          have X4 := Lib.hid (X3.out.later hb4)
          have B4 : Hid (Below w.heap.size w w4) := Lib.hid (B3.out.trans (hb4.mono B3.out.size))
          clear hb4 R3 X3 B3
          have x0 := X4.out.cell (j := 0) rfl
          have x1 := X4.out.cell (j := 1) rfl
          have r0 := R4.out.cell (j := 0) rfl
          have r1 := R4.out.cell (j := 1) rfl
          have f0 := R4.out.fr (o := 0)
          have f1 := R4.out.fr (o := 1)
          have qf := (R4.out.set 0 (.int .i64 0)).set 1 (.string ⟨#[]⟩)
          have q0 := qf.cell (j := 0) (v := .int .i64 0) rfl
          have q1 := qf.cell (j := 1) (v := .string ⟨#[]⟩) rfl
          clear qf
          go_wp2
          refine bodyPost_ret (v := .tuple #[.agg #[.int .i64 0, .string ⟨#[]⟩], .bool false]) ?_ rfl ⟨rfl, ?_⟩
          · simp [results, Tryd.results23, go_sem, q0, q1]
          · exact (B4.out.setCell (Nat.le_refl _) _).setCell (Nat.le_refl _) _
theorem specReadEntry_any (s : ByteArray) (w : World) (hs : s.size ≤ 2000000) :
    Calls Tryd.prog 23 #[.string s] w (SaysEnt (entryReadR s) (entryReadB s) w) := by
  by_cases h : s.size = 8 ∧ EntryOk (entryOf s)
  · rw [show entryReadR s = entryOf s from if_pos h, show entryReadB s = true from decide_eq_true h]
    exact specReadEntry_yes s w h.1 h.2
  · rw [show entryReadR s = ⟨0, ⟨#[]⟩⟩ from if_neg h, show entryReadB s = false from decide_eq_false h]
    by_cases h8 : s.size = 8
    · exact specReadEntry_no s w h8 (fun e => h ⟨h8, e⟩)
    · exact specReadEntry_len s w hs h8
end Go.Proofs.YtcckhkihhhchbaaDoor
