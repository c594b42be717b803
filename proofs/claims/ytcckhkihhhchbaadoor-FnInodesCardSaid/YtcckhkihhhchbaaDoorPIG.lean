/- Merged texts: EntRead, WordsEq, InoReadA, InoFore2, InoReadB, HeadMath, GotMath, RangeImpl. -/
import Derived.Test.YtcckhkihhhchbaaDoorPIF
import Derived.WalkLawsBesides
import Derived.Lib.Hide
import Derived.Deep.QuietTactic
import Derived.BigQuiet
import Derived.Test.YtcckhkihhhchbaaDoorRows
import Derived.WalkKit
import Derived.WalkSpells
import Derived.RowKit3
namespace Go.Proofs.YtcckhkihhhchbaaDoor
open Go.RowKit Go.Proofs.YtcckhkihhhchbaaDoor.Parts Go.Proofs.YtcckhkihhhchbaaDoor.Hexa Go.Proofs.YtcckhkihhhchbaaDoor.Byt

def SaysEnt (r : EntryR) (b : Bool) (w : World) (e : Ending) (w' : World) : Prop := e = .returned (.tuple #[.agg #[.int .i64 r.f0, .string r.f1], .bool b]) ∧ Below w.heap.size w w'
theorem byte_getD (s : ByteArray) (j : Nat) (hj : j < s.size) : s.data.toList.getD j 0 = s[j] := by
  have hj' : j < s.data.toList.length := by simpa using hj
  simp only [List.getD, List.getElem?_eq_getElem hj', Option.getD_some]
  rfl
set_option maxRecDepth 100000 in
set_option maxHeartbeats 1000000 in
theorem specReadEntry_len (s : ByteArray) (w : World) (_hs : s.size ≤ 2000000) (h : ¬ s.size = 8) :
    Calls Tryd.prog 23 #[.string s] w (SaysEnt ⟨0, ⟨#[]⟩⟩ false w) := by
  have B0 := Lib.hid (below_bk w (.cells #[.int .i64 0, .string ⟨#[]⟩] 41))
  have e8 : ((s.size : Int) == 8) = false := by simp; omega
  have e9 : ((s.size : Int) != 8) = true := by simp; omega
  go_enter Tryd.func23, Tryd.ntmps23
  go_wp2
  refine bodyPost_ret (v := .tuple #[.agg #[.int .i64 0, .string ⟨#[]⟩], .bool false]) ?_ rfl ⟨rfl, ?_⟩
  · simp [results, Tryd.results23, go_sem]
  · exact B0.out

set_option maxRecDepth 100000 in
set_option maxHeartbeats 4000000 in
theorem specReadEntry_yes (s : ByteArray) (w : World) (h8 : s.size = 8) (h : EntryOk (entryOf s)) :
    Calls Tryd.prog 23 #[.string s] w (SaysEnt (entryOf s) true w) := by
  have R0 := Lib.hid (Bk.alloc w #[.int .i64 0, .string ⟨#[]⟩] 41)
  have B0 := Lib.hid (below_bk w (.cells #[.int .i64 0, .string ⟨#[]⟩] 41))
  have e8 : ((s.size : Int) == 8) = true := by simp; omega
  have e9 : ((s.size : Int) != 8) = false := by simp; omega
  have hs8 : s.size ≤ 8 := by omega
  have hs9 : 8 ≤ s.size := by omega
  have HB := Lib.hid (entry_back h8 h)
  have hE0 := endTo_bd s.data.toList 8
  have HEO : Hid (endOf s = endTo s.data.toList 8) := Lib.hid rfl
  have H8 := Lib.hid h8
  have HEN := Lib.hid (show entryOf s = ⟨((s.data.toList.getD 0 0).toNat : Int), s.extract 1 (endOf s)⟩ from rfl)
  clear h8 h hE0
  go_enter Tryd.func23, Tryd.ntmps23
  go_wp2
  go_loop [4] (fun ev => ∃ k : Nat, 1 ≤ k ∧ k ≤ 8 ∧ ev = .int .i64 k ∧ Hid (endTo s.data.toList k = endTo s.data.toList 8)) (fun ev => (intOf ev).toNat)
  case atStart => exact ⟨8, by omega, by omega, rfl, Lib.hid rfl⟩
  case round =>
    obtain ⟨k, hk1, hk8, rfl, HK⟩ := hrel
    obtain ⟨m, rfl⟩ : ∃ m, k = m + 1 := ⟨k - 1, by omega⟩
    have hml : m < s.size := by omega
    obtain ⟨b, hb⟩ : ∃ b, s[m]'hml = b := ⟨_, rfl⟩
    have hb255 := b.toNat_lt
    have hmi : ((m + 1 : Nat) : Int) - 1 = (m : Int) := by omega
    by_cases hgo : 0 < m ∧ b = 0
    · obtain ⟨hm0, hb0⟩ := hgo
      subst hb0
      have HK2 : Hid (endTo s.data.toList m = endTo s.data.toList 8) := Lib.hid (by
        obtain ⟨j, rfl⟩ : ∃ j, m = j + 1 := ⟨m - 1, by omega⟩
        rw [← HK.out, endTo_step _ j (by rw [byte_getD s (j + 1) hml]; exact hb)])
      clear HK
      go_wp2
      go_round
      case rel => exact ⟨m, by omega, by omega, rfl, HK2⟩
      case measure => (simp [intOf]; try omega)
    · have HX : Hid (endOf s = m + 1) := Lib.hid (by
        rw [HEO.out, ← HK.out]
        by_cases h1 : m = 0
        · subst h1; rfl
        · obtain ⟨j, rfl⟩ : ∃ j, m = j + 1 := ⟨m - 1, by omega⟩
          rw [endTo_stop _ j (by rw [byte_getD s (j + 1) hml, hb]; exact fun e => hgo ⟨by omega, e⟩)])
      have hcase : ¬ (1 < m + 1) ∨ (1 < m + 1 ∧ ((b.toNat : Int) == 0) = false ∧ ¬ b = 0) := by
        by_cases h1 : m = 0
        · left; omega
        · right
          have hbn : ¬ b = 0 := fun e => hgo ⟨by omega, e⟩
          have hbt : ¬ b.toNat = 0 := fun e => hbn (UInt8.toNat_inj.1 (by rw [e]; rfl))
          exact ⟨by omega, by simp; omega, hbn⟩
      have hs0 : 0 < s.size := by omega
      obtain ⟨P, hP⟩ : ∃ P : Int, ((s[0]'hs0).toNat : Int) = P := ⟨_, rfl⟩
      obtain ⟨M, hM⟩ : ∃ M, s.extract 1 (m + 1) = M := ⟨_, rfl⟩
      have hR : entryOf s = ⟨P, M⟩ := by rw [HEN.out, HX.out, hM, byte_getD s 0 hs0, hP]
      have hMs : M.size ≤ 8 := by rw [← hM, ByteArray.size_extract]; omega
      rw [hR] at HB
      have HRR := Lib.hid hR
      have HM8 := Lib.hid hMs
      have P0 : 0 ≤ P := by omega
      have P1 : P ≤ 255 := by have := (s[0]'hs0).toNat_lt; omega
      have l1 : (0 : Int) ≤ (m : Int) := by omega
      have l2 : (m : Int) + 1 ≤ (s.size : Int) := by omega
      have l3 : (1 : Int) ≤ (m : Int) + 1 := by omega
      have l4 : ((m : Int) + 1).toNat = m + 1 := by omega
      clear hR hMs HK HEO HEN H8 hgo HX
      rcases hcase with hc | ⟨hc, hc2, hc3⟩
      all_goals
        go_wp2
        go_region_held3 (fun w' => True) (exact trivial) (first | fail)
        all_goals
          go_wp2_with fail
          have hba := below_bk (w.alloc (.cells #[.int .i64 0, .string ⟨#[]⟩] 41)) (.cells #[.int .i64 P, .string M] 41)
          have R3 := Lib.hid (R0.out.later hba).drew
          have B3 : Hid (Below w.heap.size w ((w.alloc (.cells #[.int .i64 0, .string ⟨#[]⟩] 41)).alloc (.cells #[.int .i64 P, .string M] 41)).drew) := Lib.hid ((B0.out.trans (hba.mono B0.out.size)).drew)
          have X3 := Lib.hid (Bk.alloc (w.alloc (.cells #[.int .i64 0, .string ⟨#[]⟩] 41)) #[.int .i64 P, .string M] 41).drew
          have hsz : (w.alloc (.cells #[.int .i64 0, .string ⟨#[]⟩] 41)).heap.size = w.heap.size + 1 := by simp
          rw [hsz] at X3
          clear hba hsz
          refine (specEntryWord_any P M _ (by have := HM8.out; omega)).mono ?_
          rw [HB.out]
          rintro e w4 ⟨rfl, hb4⟩
          have R4 := Lib.hid (R3.out.later hb4)
          have X4 := Lib.hid (X3.out.later hb4)
          have B4 : Hid (Below w.heap.size w w4) := Lib.hid (B3.out.trans (hb4.mono B3.out.size))
          clear hb4 R3 X3 B3
          have x0 := X4.out.cell (j := 0) rfl
          have x1 := X4.out.cell (j := 1) rfl
          have r0 := R4.out.cell (j := 0) rfl
          have r1 := R4.out.cell (j := 1) rfl
          have f0 := R4.out.fr (o := 0)
          have f1 := R4.out.fr (o := 1)
          have qf := (R4.out.set 0 (.int .i64 P)).set 1 (.string M)
          have q0 := qf.cell (j := 0) (v := .int .i64 P) rfl
          have q1 := qf.cell (j := 1) (v := .string M) rfl
          clear qf
          go_wp2
          refine bodyPost_ret (v := .tuple #[.agg #[.int .i64 P, .string M], .bool true]) ?_ rfl ⟨by rw [HRR.out], ?_⟩
          · simp [results, Tryd.results23, go_sem, q0, q1]
          · exact (B4.out.setCell (Nat.le_refl _) _).setCell (Nat.le_refl _) _
set_option maxRecDepth 100000 in
set_option maxHeartbeats 4000000 in
theorem specReadEntry_no (s : ByteArray) (w : World) (h8 : s.size = 8) (h : ¬ EntryOk (entryOf s)) :
    Calls Tryd.prog 23 #[.string s] w (SaysEnt (⟨0, ⟨#[]⟩⟩) false w) := by
  have R0 := Lib.hid (Bk.alloc w #[.int .i64 0, .string ⟨#[]⟩] 41)
  have B0 := Lib.hid (below_bk w (.cells #[.int .i64 0, .string ⟨#[]⟩] 41))
  have e8 : ((s.size : Int) == 8) = true := by simp; omega
  have e9 : ((s.size : Int) != 8) = false := by simp; omega
  have hs8 : s.size ≤ 8 := by omega
  have hs9 : 8 ≤ s.size := by omega
  have HB := Lib.hid (entryWordB_no h)
  have n1 := text_full s (by omega)
  have n2 := text_full' s (by omega)
  have hE0 := endTo_bd s.data.toList 8
  have HEO : Hid (endOf s = endTo s.data.toList 8) := Lib.hid rfl
  have H8 := Lib.hid h8
  have HEN := Lib.hid (show entryOf s = ⟨((s.data.toList.getD 0 0).toNat : Int), s.extract 1 (endOf s)⟩ from rfl)
  clear h8 h hE0
  go_enter Tryd.func23, Tryd.ntmps23
  go_wp2
  go_loop [4] (fun ev => ∃ k : Nat, 1 ≤ k ∧ k ≤ 8 ∧ ev = .int .i64 k ∧ Hid (endTo s.data.toList k = endTo s.data.toList 8)) (fun ev => (intOf ev).toNat)
  case atStart => exact ⟨8, by omega, by omega, rfl, Lib.hid rfl⟩
  case round =>
    obtain ⟨k, hk1, hk8, rfl, HK⟩ := hrel
    obtain ⟨m, rfl⟩ : ∃ m, k = m + 1 := ⟨k - 1, by omega⟩
    have hml : m < s.size := by omega
    obtain ⟨b, hb⟩ : ∃ b, s[m]'hml = b := ⟨_, rfl⟩
    have hb255 := b.toNat_lt
    have hmi : ((m + 1 : Nat) : Int) - 1 = (m : Int) := by omega
    by_cases hgo : 0 < m ∧ b = 0
    · obtain ⟨hm0, hb0⟩ := hgo
      subst hb0
      have HK2 : Hid (endTo s.data.toList m = endTo s.data.toList 8) := Lib.hid (by
        obtain ⟨j, rfl⟩ : ∃ j, m = j + 1 := ⟨m - 1, by omega⟩
        rw [← HK.out, endTo_step _ j (by rw [byte_getD s (j + 1) hml]; exact hb)])
      clear HK
      go_wp2
      go_round
      case rel => exact ⟨m, by omega, by omega, rfl, HK2⟩
      case measure => (simp [intOf]; try omega)
    · have HX : Hid (endOf s = m + 1) := Lib.hid (by
        rw [HEO.out, ← HK.out]
        by_cases h1 : m = 0
        · subst h1; rfl
        · obtain ⟨j, rfl⟩ : ∃ j, m = j + 1 := ⟨m - 1, by omega⟩
          rw [endTo_stop _ j (by rw [byte_getD s (j + 1) hml, hb]; exact fun e => hgo ⟨by omega, e⟩)])
      have hcase : ¬ (1 < m + 1) ∨ (1 < m + 1 ∧ ((b.toNat : Int) == 0) = false ∧ ¬ b = 0) := by
        by_cases h1 : m = 0
        · left; omega
        · right
          have hbn : ¬ b = 0 := fun e => hgo ⟨by omega, e⟩
          have hbt : ¬ b.toNat = 0 := fun e => hbn (UInt8.toNat_inj.1 (by rw [e]; rfl))
          exact ⟨by omega, by simp; omega, hbn⟩
      have hs0 : 0 < s.size := by omega
      obtain ⟨P, hP⟩ : ∃ P : Int, ((s[0]'hs0).toNat : Int) = P := ⟨_, rfl⟩
      obtain ⟨M, hM⟩ : ∃ M, s.extract 1 (m + 1) = M := ⟨_, rfl⟩
      have hR : entryOf s = ⟨P, M⟩ := by rw [HEN.out, HX.out, hM, byte_getD s 0 hs0, hP]
      have hMs : M.size ≤ 8 := by rw [← hM, ByteArray.size_extract]; omega
      rw [hR] at HB
      have HRR := Lib.hid hR
      have HM8 := Lib.hid hMs
      have P0 : 0 ≤ P := by omega
      have P1 : P ≤ 255 := by have := (s[0]'hs0).toNat_lt; omega
      have l1 : (0 : Int) ≤ (m : Int) := by omega
      have l2 : (m : Int) + 1 ≤ (s.size : Int) := by omega
      have l3 : (1 : Int) ≤ (m : Int) + 1 := by omega
      have l4 : ((m : Int) + 1).toNat = m + 1 := by omega
      clear hR hMs HK HEO HEN H8 hgo HX
      rcases hcase with hc | ⟨hc, hc2, hc3⟩
      all_goals
        go_wp2
        go_region_held3 (fun w' => True) (exact trivial) (first | fail)
        all_goals
          go_wp2_with fail
          have hba := below_bk (w.alloc (.cells #[.int .i64 0, .string ⟨#[]⟩] 41)) (.cells #[.int .i64 P, .string M] 41)
          have R3 := Lib.hid (R0.out.later hba).drew
          have B3 : Hid (Below w.heap.size w ((w.alloc (.cells #[.int .i64 0, .string ⟨#[]⟩] 41)).alloc (.cells #[.int .i64 P, .string M] 41)).drew) := Lib.hid ((B0.out.trans (hba.mono B0.out.size)).drew)
          have X3 := Lib.hid (Bk.alloc (w.alloc (.cells #[.int .i64 0, .string ⟨#[]⟩] 41)) #[.int .i64 P, .string M] 41).drew
          have hsz : (w.alloc (.cells #[.int .i64 0, .string ⟨#[]⟩] 41)).heap.size = w.heap.size + 1 := by simp
          rw [hsz] at X3
          clear hba hsz
          refine (specEntryWord_any P M _ (by have := HM8.out; omega)).mono ?_
          rw [HB.out]
          rintro e w4 ⟨rfl, hb4⟩
          have R4 := Lib.hid (R3.out.later hb4)
          have X4 := Lib.hid (X3.out.later hb4)
          have B4 : Hid (Below w.heap.size w w4) := Lib.hid (B3.out.trans (hb4.mono B3.out.size))
          clear hb4 R3 X3 B3
          have x0 := X4.out.cell (j := 0) rfl
          have x1 := X4.out.cell (j := 1) rfl
          have r0 := R4.out.cell (j := 0) rfl
          have r1 := R4.out.cell (j := 1) rfl
          have f0 := R4.out.fr (o := 0)
          have f1 := R4.out.fr (o := 1)
          have qf := (R4.out.set 0 (.int .i64 0)).set 1 (.string ⟨#[]⟩)
          have q0 := qf.cell (j := 0) (v := .int .i64 0) rfl
          have q1 := qf.cell (j := 1) (v := .string ⟨#[]⟩) rfl
          clear qf
          go_wp2
          refine bodyPost_ret (v := .tuple #[.agg #[.int .i64 0, .string ⟨#[]⟩], .bool false]) ?_ rfl ⟨rfl, ?_⟩
          · simp [results, Tryd.results23, go_sem, q0, q1]
          · exact (B4.out.setCell (Nat.le_refl _) _).setCell (Nat.le_refl _) _
theorem specReadEntry_any (s : ByteArray) (w : World) (hs : s.size ≤ 2000000) :
    Calls Tryd.prog 23 #[.string s] w (SaysEnt (entryReadR s) (entryReadB s) w) := by
  by_cases h : s.size = 8 ∧ EntryOk (entryOf s)
  · rw [show entryReadR s = entryOf s from if_pos h, show entryReadB s = true from decide_eq_true h]
    exact specReadEntry_yes s w h.1 h.2
  · rw [show entryReadR s = ⟨0, ⟨#[]⟩⟩ from if_neg h, show entryReadB s = false from decide_eq_false h]
    by_cases h8 : s.size = 8
    · exact specReadEntry_no s w h8 (fun e => h ⟨h8, e⟩)
    · exact specReadEntry_len s w hs h8
end Go.Proofs.YtcckhkihhhchbaaDoor
namespace Go.Proofs.YtcckhkihhhchbaaDoor
open Go.RowKit Go.Proofs.YtcckhkihhhchbaaDoor.Parts Go.Proofs.YtcckhkihhhchbaaDoor.Hexa

set_option maxRecDepth 100000 in
set_option maxHeartbeats 1000000 in
theorem wordsEq_any (a1 a2 : Option Addr) (n m c1 c2 : Nat) (P Q : List ByteArray) (w : World) (hn : n ≤ 100000000) (r1 : SrcT w a1 n P) (r2 : SrcT w a2 m Q) (b : Bool) (hb : b = true ↔ P = Q) :
    Calls Tryd.prog 64 #[.slice a1 n c1, .slice a2 m c2] w fun e w' => e = .returned (.bool b) ∧ ∃ q, w' = w.drewN q := by
  have hP := r1.len
  have hQ := r2.len
  by_cases hnm : n = m
  · subst hnm
    have HG := Lib.hid hb
    have HP := Lib.hid hP
    have HQ := Lib.hid hQ
    have R1 := Lib.hid r1
    have R2 := Lib.hid r2
    clear r1 r2 hb hP hQ
    go_enter Tryd.func64, Tryd.ntmps64
    go_wp2
    go_loopw [5] (fun iv wr => ∃ k q : Nat, k ≤ n ∧ iv = .int .i64 k ∧ wr = w.drewN q ∧ Hid (∀ j, j < k → P.getD j default = Q.getD j default)) (fun iv _ => n - (intOf iv).toNat)
    case atStart => exact ⟨0, 0, Nat.zero_le _, rfl, rfl, Lib.hid (fun j hj => by omega)⟩
    case round =>
      obtain ⟨k, q, hk, rfl, rfl, HA⟩ := hrel
      by_cases hlt : k < n
      · obtain ⟨g1, o1, e1, _, d1⟩ := srcT_at R1.out k hlt
        obtain ⟨g2, o2, e2, _, d2⟩ := srcT_at R2.out k hlt
        obtain ⟨x, hx⟩ : ∃ x, P.getD k default = x := ⟨_, rfl⟩
        obtain ⟨y, hy⟩ : ∃ y, Q.getD k default = y := ⟨_, rfl⟩
        rw [hx] at d1
        rw [hy] at d2
        have HX := Lib.hid hx
        have HY := Lib.hid hy
        subst e1 e2
        clear hx hy
        by_cases hxy : x = y
        · subst hxy
          have HA2 : Hid (∀ j, j < k + 1 → P.getD j default = Q.getD j default) := Lib.hid (fun j hj => by
            by_cases e : j = k
            · subst e; rw [HX.out, HY.out]
            · exact HA.out j (by omega))
          go_wp2
          go_quiet (fail)
          go_wp2
          go_roundw
          case rel => exact ⟨k + 1, _, by omega, by go_num, rfl, HA2⟩
          case measure => (simp [intOf]; try omega)
        · have i1 := text_neB hxy
          have i2 : (x.toList != y.toList) = true := by simp only [bne, i1]; rfl
          have i3 := text_ne hxy
          have HE : Hid (b = false) := Lib.hid (by
            cases b
            · rfl
            · exact absurd (by rw [← HX.out, ← HY.out, HG.out.1 rfl]) hxy)
          clear hxy
          go_wp2
          go_quiet (fail)
          go_wp2
          go_ret
          exact ⟨by rw [HE.out]; rfl, _, by rw [World.drewN_drewN]⟩
      · obtain rfl : k = n := by omega
        have HE : Hid (b = true) := Lib.hid (HG.out.2 (texts_eq HP.out HQ.out HA.out))
        go_wp2
        go_ret
        exact ⟨by rw [HE.out]; rfl, _, rfl⟩
  · have e1 : ((n : Int) == (m : Int)) = false := by simp; omega
    have e2 : ((n : Int) != (m : Int)) = true := by simp only [bne, e1]; rfl
    have HE : Hid (b = false) := Lib.hid (by
      cases b
      · rfl
      · exact absurd (by rw [← hP, ← hQ, hb.1 rfl]) hnm)
    clear r1 r2 hP hQ hb
    go_enter Tryd.func64, Tryd.ntmps64
    go_wp2
    go_ret
    exact ⟨by rw [HE.out]; rfl, 0, rfl⟩
end Go.Proofs.YtcckhkihhhchbaaDoor
namespace Go.Proofs.YtcckhkihhhchbaaDoor
open Go.RowKit Go.Proofs.YtcckhkihhhchbaaDoor.Parts Go.Proofs.YtcckhkihhhchbaaDoor.Hexa Go.Proofs.YtcckhkihhhchbaaDoor.Byt

def GivesIno (r : InoR) (b : Bool) (w : World) (e : Ending) (w' : World) : Prop :=
  ∃ aR cR aE cE, e = .returned (.tuple #[.agg #[.int .i64 r.kd, .int .i64 r.sz, .int .i64 r.gn, .string r.key, .slice aR r.R.length cR, .slice aE r.E.length cE], .bool b])
    ∧ w'.ownsRow w.heap.size 36 3 (.slice aR r.R.length cR) r.R.length (cellsE encRec r.R) ∧ w'.ownsRow w.heap.size 41 2 (.slice aE r.E.length cE) r.E.length (cellsE encEntry r.E)
    ∧ (aR = none ∨ aE = none) ∧ Below w.heap.size w w'
theorem headB_size {n : InoR} (_h : InoOk n) : (headB n).size = 8 := by
  unfold headB wordB
  have e1 : (numTextB n.kd 1).size ≤ 1 := by rcases numTextB_size n.kd 1 with e | e <;> rw [e] <;> decide
  have e2 : (numTextB n.sz 2).size ≤ 2 := by rcases numTextB_size n.sz 2 with e | e <;> rw [e] <;> decide
  have e3 : (numTextB n.gn 2).size ≤ 2 := by rcases numTextB_size n.gn 2 with e | e <;> rw [e] <;> decide
  have e4 : (numTextB n.kd 1 ++ numTextB n.sz 2 ++ numTextB n.gn 2).size ≤ 5 := by rw [ByteArray.size_append, ByteArray.size_append]; omega
  rw [if_pos (by omega), ByteArray.size_append, longB_size]
  omega
theorem keyB_size {n : InoR} (h : InoOk n) : (wordB n.key).size = 8 := by
  have e : n.key.size ≤ 8 := by
    rcases h with ⟨_, ⟨_, h⟩ | ⟨_, h⟩ | ⟨_, h⟩⟩
    · have := h.2.1; omega
    · have := h.2.1; omega
    · have := h.2.1; omega
  unfold wordB
  rw [if_pos e, ByteArray.size_append, longB_size]
  omega
theorem getD_mem {α : Type} [Inhabited α] (L : List α) {x : α} (h : x ∈ L) : ∃ j, j < L.length ∧ x = L.getD j default := by
  obtain ⟨j, hj, e⟩ := List.getElem_of_mem h
  exact ⟨j, hj, by rw [← e]; simp [List.getD, hj]⟩
theorem inoWords_sizes {n : InoR} {x : ByteArray} (h : x ∈ inoWordsB n) : x.size = 8 := by
  by_cases hn : InoOk n
  · rw [inoWords_yes hn] at h
    unfold fillTo wordsI at h
    simp only [List.mem_append, List.mem_cons, List.not_mem_nil, or_false, List.mem_map, List.mem_replicate] at h
    rcases h with (((rfl | rfl) | ⟨r, hr, rfl⟩) | ⟨r, hr, rfl⟩) | ⟨_, rfl⟩
    · exact headB_size hn
    · exact keyB_size hn
    · obtain ⟨j, hj, rfl⟩ := getD_mem _ hr
      rcases hn with ⟨_, ⟨_, h⟩ | ⟨_, h⟩ | ⟨_, h⟩⟩
      · have := h.2.2.1; omega
      · exact recWord_size (h.2.2.2.2 j hj).1
      · have := h.2.2.1; omega
    · obtain ⟨j, hj, rfl⟩ := getD_mem _ hr
      rcases hn with ⟨_, ⟨_, h⟩ | ⟨_, h⟩ | ⟨_, h⟩⟩
      · have := h.2.2.2; omega
      · have := h.2.2.2.1; omega
      · exact entryWord_size (h.2.2.2.2 j hj).1
    · exact longB_size 8 0
  · rw [inoWords_no hn] at h
    cases h
theorem read_badSize {L : List ByteArray} {k : Nat} (hk : k < L.length) (hb : ¬ (L.getD k default).size = 8) : ¬ ReadOk L := fun h => by
  have h1 : L.getD k default ∈ L := by simp [List.getD, hk]
  rw [← h.2] at h1
  exact hb (by rw [← h.2]; exact inoWords_sizes h1)

section
variable (a : Option Addr) (n c : Nat) (L : List ByteArray) (w : World)
theorem gives_zero {w' : World} (hb : Below w.heap.size w w') (hL : ¬ ReadOk L) {e : Ending} (he : e = .returned (.tuple #[.agg #[.int .i64 0, .int .i64 0, .int .i64 0, .string ⟨#[]⟩, .slice none 0 0, .slice none 0 0], .bool false])) : GivesIno (readInoR L) (readInoB L) w e w' := by
  rw [readInoR_no hL, readInoB_no hL]
  exact ⟨none, 0, none, 0, he, ⟨rfl, .inl ⟨rfl, rfl⟩⟩, ⟨rfl, .inl ⟨rfl, rfl⟩⟩, .inl rfl, hb⟩

set_option maxRecDepth 100000 in
set_option maxHeartbeats 1000000 in
theorem specReadIno_len (hs : SrcT w a n L) (h : ¬ n = 8) : Calls Tryd.prog 21 #[.slice a n c] w (GivesIno (readInoR L) (readInoB L) w) := by
  have hlen : L.length = n := hs.len
  have HL : Hid (¬ ReadOk L) := Lib.hid (fun x => h (by rw [← hlen]; exact x.1))
  have B0 := Lib.hid (below_bk w (inoObj 0 0 0 ⟨#[]⟩ none 0 0 none 0 0))
  have e8 : ((n : Int) == 8) = false := by simp; omega
  have e9 : ((n : Int) != 8) = true := by simp only [bne, e8]; rfl
  clear hs hlen
  go_enter Tryd.func21, Tryd.ntmps21
  go_wp2
  refine bodyPost_ret (v := .tuple #[.agg #[.int .i64 0, .int .i64 0, .int .i64 0, .string ⟨#[]⟩, .slice none 0 0, .slice none 0 0], .bool false]) ?_ rfl (gives_zero L w B0.out HL.out rfl)
  simp [results, Tryd.results21, go_sem]

set_option maxRecDepth 100000 in
set_option maxHeartbeats 1000000 in
theorem specReadIno_size (hs : SrcT w a n L) (h8 : n = 8) (hm : ∀ j, j < n → (L.getD j default).size ≤ 2000000) (h : ¬ ∀ j, j < 8 → (L.getD j default).size = 8) : Calls Tryd.prog 21 #[.slice a n c] w (GivesIno (readInoR L) (readInoB L) w) := by
  subst h8
  have HLn : Hid (L.length = 8) := Lib.hid hs.len
  have HS := Lib.hid hs
  have HM := Lib.hid hm
  have HN := Lib.hid h
  have B0 := Lib.hid (below_bk w (inoObj 0 0 0 ⟨#[]⟩ none 0 0 none 0 0))
  clear hs hm h
  go_enter Tryd.func21, Tryd.ntmps21
  go_wp2
  go_loop [4] (fun iv => ∃ k : Nat, k ≤ 8 ∧ iv = .int .i64 k ∧ Hid (∀ j, j < k → (L.getD j default).size = 8)) (fun iv => 8 - (intOf iv).toNat)
  case atStart => exact ⟨0, Nat.zero_le _, rfl, Lib.hid (fun j hj => by omega)⟩
  case round =>
    obtain ⟨k, hk, rfl, HA⟩ := hrel
    by_cases hlt : k < 8
    · obtain ⟨g, off, ha, hg, d0⟩ := srcT_later HS.out B0.out (Nat.le_refl _) k hlt
      obtain ⟨x, hx⟩ : ∃ x, L.getD k default = x := ⟨_, rfl⟩
      have hm := HM.out k hlt
      rw [hx] at d0 hm
      have HX := Lib.hid hx
      subst ha
      clear hx
      by_cases i1 : x.size = 8
      · have HA2 : Hid (∀ j, j < k + 1 → (L.getD j default).size = 8) := Lib.hid (fun j hj => by
          by_cases e : j = k
          · subst e; rw [HX.out]; exact i1
          · exact HA.out j (by omega))
        have e9 : ((x.size : Int) != 8) = false := by simp; omega
        go_wp2
        go_round
        case rel => exact ⟨k + 1, by omega, by go_num, HA2⟩
        case measure => (simp [intOf]; try omega)
      · have HL : Hid (¬ ReadOk L) := Lib.hid (read_badSize (k := k) (by rw [HLn.out]; exact hlt) (by rw [HX.out]; exact i1))
        have e8 : ((x.size : Int) == 8) = false := by simp; omega
        have e9 : ((x.size : Int) != 8) = true := by simp only [bne, e8]; rfl
        go_wp2
        refine bodyPost_ret (v := .tuple #[.agg #[.int .i64 0, .int .i64 0, .int .i64 0, .string ⟨#[]⟩, .slice none 0 0, .slice none 0 0], .bool false]) ?_ rfl (gives_zero L w B0.out HL.out rfl)
        simp [results, Tryd.results21, go_sem]
    · exact absurd (fun j hj => HA.out j (by omega)) HN.out
end
end Go.Proofs.YtcckhkihhhchbaaDoor
namespace Go.Proofs.YtcckhkihhhchbaaDoor
open Go.RowKit Go.Proofs.YtcckhkihhhchbaaDoor.Parts Go.Proofs.YtcckhkihhhchbaaDoor.Hexa Go.Proofs.YtcckhkihhhchbaaDoor.Byt

theorem stop_words (h k : ByteArray) (M : List ByteArray) (j : Nat) (hj : M.length + j = 6) (hz : ∀ x ∈ M, x ≠ zero8) :
    stopOf ([h, k] ++ M ++ List.replicate j zero8) = 2 + M.length ∧ midTo ([h, k] ++ M ++ List.replicate j zero8) (2 + M.length) = M := by
  refine ⟨stop_at (by omega) (by omega) (fun i h1 h2 => ?_) ?_, ?_⟩
  · have hm : i - 2 < M.length := by omega
    have e : ([h, k] ++ M ++ List.replicate j zero8).getD i default = M[i - 2] := by
      simp only [List.getD]
      rw [List.getElem?_append_left (by simp; omega), List.getElem?_append_right (by simp; omega)]
      simp [hm]
    rw [e]
    exact hz _ (List.getElem_mem hm)
  · by_cases e : j = 0
    · left; omega
    · right
      simp only [List.getD]
      rw [List.getElem?_append_right (by simp; omega), List.getElem?_replicate, if_pos (by simp; omega)]
      rfl
  · unfold midTo
    rw [List.take_append_of_le_length (by simp; omega), List.take_of_length_le (by simp; omega)]
    rfl
theorem recZero : ¬ RecOk (recOf zero8) := by decide +kernel
theorem entZero : ¬ EntryOk (entryOf zero8) := by decide +kernel
theorem head_list {n : InoR} (h0 : 0 ≤ n.kd ∧ n.kd ≤ 2) (h1 : 0 ≤ n.sz ∧ n.sz ≤ 65535) (h2 : 0 ≤ n.gn ∧ n.gn ≤ 65535) :
    (((headB n).data.toList.getD 0 0).toNat : Int) = n.kd ∧ numAtV (headB n) 1 2 = n.sz ∧ numAtV (headB n) 3 2 = n.gn := by
  obtain ⟨b, hb⟩ : ∃ b : UInt8, (b.toNat : Int) = n.kd := ⟨UInt8.ofNat n.kd.toNat, by rw [UInt8.toNat_ofNat']; omega⟩
  have e1 : (numTextB n.kd 1).data.toList = [b] := by rw [← hb]; exact one_byte b (by omega)
  have s1 : (numTextB n.kd 1).size = 1 := numText_size (k := 1) (by omega) (by omega) (by omega)
  have s2 : (numTextB n.sz 2).size = 2 := numText_size (k := 2) (by omega) (by omega) (by omega)
  have s3 : (numTextB n.gn 2).size = 2 := numText_size (k := 2) (by omega) (by omega) (by omega)
  have l2 := list_of_size s2
  have l3 := list_of_size s3
  have hl : (headB n).data.toList = [b] ++ (numTextB n.sz 2).data.toList ++ (numTextB n.gn 2).data.toList ++ List.replicate 3 0 := by
    have e2 : (numTextB n.kd 1 ++ numTextB n.sz 2 ++ numTextB n.gn 2).size = 5 := by rw [ByteArray.size_append, ByteArray.size_append, s1, s2, s3]
    unfold headB wordB
    rw [if_pos (by omega), e2, ByteArray.data_append, ByteArray.data_append, ByteArray.data_append, Array.toList_append, Array.toList_append, Array.toList_append, e1]
    rfl
  have h8 : (headB n).size = 8 := by
    have : (headB n).data.toList.length = 8 := by rw [hl]; simp [l2, l3]
    simpa using this
  refine ⟨by rw [hl, ← hb]; rfl, numAt_fore _ 1 2 n.sz (by omega) (by omega) h1.1 (by omega) ?_, numAt_fore _ 3 2 n.gn (by omega) (by omega) h2.1 (by omega) ?_⟩
  · unfold cutL
    rw [hl, List.append_assoc ([b] ++ _)]
    exact cut_next _ _ _ 1 2 rfl l2
  · unfold cutL
    rw [hl]
    exact cut_next _ _ _ 3 2 (by simp [l2]) l3
theorem map_id_of {α : Type} [Inhabited α] (f : α → α) (L : List α) (h : ∀ j, j < L.length → f (L.getD j default) = L.getD j default) : L.map f = L := by
  apply List.ext_getElem (by simp)
  intro i h1 h2
  have h9 := h i h2
  simpa [List.getD, h2] using h9
theorem inoOf_words {n : InoR} (h : InoOk n) : inoOf (inoWordsB n) = n := by
  have hle := wordsI_le h
  have hlen : (wordsI n).length = 2 + (n.R.map recWordB ++ n.E.map entryWordB).length := by unfold wordsI; simp; omega
  have hL : inoWordsB n = [headB n, wordB n.key] ++ (n.R.map recWordB ++ n.E.map entryWordB) ++ List.replicate (8 - (wordsI n).length) zero8 := by
    rw [inoWords_yes h]; unfold fillTo wordsI; rw [List.append_assoc [headB n, wordB n.key]]
  have hM : ∀ x ∈ n.R.map recWordB ++ n.E.map entryWordB, x ≠ zero8 := by
    intro x hx
    rw [List.mem_append, List.mem_map, List.mem_map] at hx
    rcases hx with ⟨r, hr, rfl⟩ | ⟨r, hr, rfl⟩
    · obtain ⟨j, hj, rfl⟩ := getD_mem _ hr
      rcases h with ⟨_, ⟨_, h⟩ | ⟨_, h⟩ | ⟨_, h⟩⟩
      · have := h.2.2.1; omega
      · have hr := (h.2.2.2.2 j hj).1
        intro e
        have := rec_fore hr
        rw [e] at this
        exact recZero (by rw [this]; exact hr)
      · have := h.2.2.1; omega
    · obtain ⟨j, hj, rfl⟩ := getD_mem _ hr
      rcases h with ⟨_, ⟨_, h⟩ | ⟨_, h⟩ | ⟨_, h⟩⟩
      · have := h.2.2.2; omega
      · have := h.2.2.2.1; omega
      · have hr := (h.2.2.2.2 j hj).1
        intro e
        have := ent_fore hr
        rw [e] at this
        exact entZero (by rw [this]; exact hr)
  obtain ⟨hst, hmid⟩ := stop_words (headB n) (wordB n.key) _ (8 - (wordsI n).length) (by omega) hM
  have hk : 0 ≤ n.kd ∧ n.kd ≤ 2 := by rcases h with ⟨_, ⟨e, _⟩ | ⟨e, _⟩ | ⟨e, _⟩⟩ <;> omega
  have hz : 0 ≤ n.sz ∧ n.sz ≤ 65535 := by
    rcases h with ⟨_, ⟨_, h⟩ | ⟨_, h⟩ | ⟨_, h⟩⟩
    · have := h.1; omega
    · have := h.1; omega
    · have := h.1; omega
  obtain ⟨k1, k2, k3⟩ := head_list hk hz h.1
  unfold inoOf inoTo kindOf
  rw [hL, hst, hmid]
  show (⟨(((headB n).data.toList.getD 0 0).toNat : Int), numAtV (headB n) 1 2, numAtV (headB n) 3 2, if (((headB n).data.toList.getD 0 0).toNat : Int) = 1 then wordB n.key else ⟨#[]⟩, if (((headB n).data.toList.getD 0 0).toNat : Int) = 1 then _ else [], if (((headB n).data.toList.getD 0 0).toNat : Int) = 2 then _ else []⟩ : InoR) = n
  rw [k1, k2, k3]
  obtain ⟨kd, sz, gn, key, R, E⟩ := n
  rcases h with ⟨_, ⟨e, h⟩ | ⟨e, h⟩ | ⟨e, h⟩⟩
  · obtain rfl : kd = 0 := e
    obtain ⟨_, g2, g3, g4⟩ := h
    obtain rfl : key = ⟨#[]⟩ := text_nothing g2
    obtain rfl : R = [] := List.length_eq_zero_iff.1 g3
    obtain rfl : E = [] := List.length_eq_zero_iff.1 g4
    rfl
  · obtain rfl : kd = 1 := e
    obtain ⟨_, g2, _, g4, g5⟩ := h
    obtain rfl : E = [] := List.length_eq_zero_iff.1 g4
    have hkey : wordB key = key := by
      have g2 : key.size = 8 := g2
      unfold wordB
      rw [if_pos (by omega), g2]
      exact ByteArray.append_empty
    have hR : (R.map recWordB).map recOf = R := by
      rw [List.map_map]
      exact map_id_of _ R (fun j hj => rec_fore (g5 j hj).1)
    simp [hkey, hR]
  · obtain rfl : kd = 2 := e
    obtain ⟨_, g2, g3, _, g5⟩ := h
    obtain rfl : key = ⟨#[]⟩ := text_nothing g2
    obtain rfl : R = [] := List.length_eq_zero_iff.1 g3
    have hE : (E.map entryWordB).map entryOf = E := by
      rw [List.map_map]
      exact map_id_of _ E (fun j hj => ent_fore (g5 j hj).1)
    simp
    exact map_id_of _ E (fun j hj => ent_fore (g5 j hj).1)
end Go.Proofs.YtcckhkihhhchbaaDoor
namespace Go.Proofs.YtcckhkihhhchbaaDoor
open Go.RowKit Go.Proofs.YtcckhkihhhchbaaDoor.Parts Go.Proofs.YtcckhkihhhchbaaDoor.Hexa Go.Proofs.YtcckhkihhhchbaaDoor.Byt

abbrev zeroCs : Array Value := inoCs 0 0 0 ⟨#[]⟩ none 0 0 none 0 0
/-- The result's box and the inode's box, and nothing else of the old world written. -/
structure RSt (w : World) (cs : Array Value) (wr : World) : Prop where
  res : Bk wr w.heap.size zeroCs 27
  box : Bk wr (w.heap.size + 1) cs 27
  below : Below w.heap.size w wr
section
variable {w wr w' : World} {cs : Array Value}
theorem RSt.call (h : RSt w cs wr) (hb : Below wr.heap.size wr w') : RSt w cs w' := ⟨h.res.later hb, h.box.later hb, below_on h.below (Nat.le_refl _) hb⟩
theorem RSt.drew (h : RSt w cs wr) : RSt w cs wr.drew := ⟨h.res.drew, h.box.drew, h.below.drew⟩
theorem RSt.drewN (h : RSt w cs wr) (n : Nat) : RSt w cs (wr.drewN n) := ⟨h.res, h.box, below_drewsN h.below n⟩
theorem RSt.set (h : RSt w cs wr) (j : Nat) (v : Value) : RSt w (cs.setIfInBounds j v) (wr.setCell ⟨w.heap.size + 1, j, none⟩ v) :=
  ⟨h.res.other (Nat.ne_of_lt (Nat.lt_succ_self _)) v, h.box.set j v, h.below.setCell (Nat.le_succ _) v⟩
theorem RSt.size (h : RSt w cs wr) : w.heap.size + 2 ≤ wr.heap.size := by have := h.box.lt; omega
theorem RSt.start (w : World) (cs : Array Value) : RSt w cs ((w.alloc (.cells zeroCs 27)).alloc (.cells cs 27)) :=
  ⟨(Bk.alloc w zeroCs 27).later (below_bk _ _), by have h := Bk.alloc (w.alloc (.cells zeroCs 27)) cs 27; rw [show (w.alloc (.cells zeroCs 27)).heap.size = w.heap.size + 1 by simp] at h; exact h,
   below_on (below_bk w _) (Nat.le_refl _) (below_bk _ _)⟩
end

theorem readInoB_iff {L : List ByteArray} (h : L.length = 8) : readInoB L = true ↔ inoWordsB (inoOf L) = L := by
  by_cases h1 : ReadOk L
  · exact ⟨fun _ => h1.2, fun _ => readInoB_yes h1⟩
  · exact ⟨fun e => by rw [readInoB_no h1] at e; exact absurd e (by decide), fun e => absurd ⟨h, e⟩ h1⟩
theorem inoWords_le (n : InoR) : (inoWordsB n).length ≤ 8 := by
  by_cases h : InoOk n
  · rw [inoWords_length h]; exact Nat.le_refl _
  · rw [inoWords_no h]; exact Nat.zero_le _

section
variable (a : Option Addr) (c : Nat) (L : List ByteArray) (w : World)
set_option maxRecDepth 100000 in
set_option maxHeartbeats 2000000 in
theorem specReadIno_else (hs : SrcT w a 8 L) (h8 : ∀ j, j < 8 → (L.getD j default).size = 8) (hk1 : ¬ kindOf L = 1) (hk2 : ¬ kindOf L = 2) : Calls Tryd.prog 21 #[.slice a 8 c] w (GivesIno (readInoR L) (readInoB L) w) := by
  have HLn : Hid (L.length = 8) := Lib.hid hs.len
  have HS := Lib.hid hs
  have H8 := Lib.hid h8
  have B0 := Lib.hid (below_bk w (inoObj 0 0 0 ⟨#[]⟩ none 0 0 none 0 0))
  obtain ⟨g, off, ha, hg, _⟩ := srcT_at hs 0 (by omega)
  have HC : Hid (∀ {w' : World}, Below w.heap.size w w' → ∀ j, j < 8 → w'.cell? ⟨g, off + j, none⟩ = some (.string (L.getD j default))) := Lib.hid (fun hb j hj => by
    obtain ⟨g', off', ha', _, d⟩ := srcT_later HS.out hb (Nat.le_refl _) j hj
    rw [ha] at ha'; cases ha'
    exact d)
  obtain ⟨x0, hx0⟩ : ∃ x, L.getD 0 default = x := ⟨_, rfl⟩
  have hx8 : x0.size = 8 := by rw [← hx0]; exact h8 0 (by omega)
  have h0s : 0 < x0.size := by omega
  obtain ⟨kd, hkd⟩ : ∃ kd : Int, ((x0[0]'h0s).toNat : Int) = kd := ⟨_, rfl⟩
  have hkk : kindOf L = kd := by unfold kindOf; rw [hx0, byte_getD x0 0 h0s, hkd]
  rw [hkk] at hk1 hk2
  have HX0 := Lib.hid hx0
  have HKK := Lib.hid hkk
  have HKD := Lib.hid hkd
  have kd0 : 0 ≤ kd := by omega
  have kd1 : kd ≤ 255 := by have := (x0[0]'h0s).toNat_lt; omega
  obtain ⟨sz, hsz⟩ : ∃ z : Int, numAtV x0 1 2 = z := ⟨_, rfl⟩
  obtain ⟨gn, hgn⟩ : ∃ z : Int, numAtV x0 3 2 = z := ⟨_, rfl⟩
  obtain ⟨sb, hsb⟩ : ∃ z : Bool, numAtB x0 1 2 = z := ⟨_, rfl⟩
  obtain ⟨gb, hgb⟩ : ∃ z : Bool, numAtB x0 3 2 = z := ⟨_, rfl⟩
  obtain ⟨T, hT⟩ : ∃ T, zeroB 8 = T := ⟨_, rfl⟩
  have hszb : -9223372036854775808 ≤ sz ∧ sz ≤ 9223372036854775807 := by
    have h9 : 0 ≤ numAtV x0 1 2 ∧ numAtV x0 1 2 < 256 ^ 2 := numAtV_lt x0 1 2 (by omega) (by omega)
    rw [← hsz]
    have h10 : ((256 : Int) ^ 2) = 65536 := by decide
    rw [h10] at h9
    exact ⟨by have := h9.1; omega, by have := h9.2; omega⟩
  have HSZ := Lib.hid hsz
  have HGN := Lib.hid hgn
  have HSB := Lib.hid hsb
  have HGB := Lib.hid hgb
  have HT := Lib.hid hT
  have HZB := Lib.hid hszb
  have HK1 := Lib.hid hk1
  have HK2 := Lib.hid hk2
  have hgne : ¬ g = w.heap.size + 1 := by omega
  have hgne2 : ¬ w.heap.size + 1 = g := by omega
  subst ha
  clear hs h8 hx0 hkk hsz hgn hsb hgb hT hszb
  go_enter Tryd.func21, Tryd.ntmps21
  go_wp2
  go_loop [4] (fun iv => ∃ k : Nat, k ≤ 8 ∧ iv = .int .i64 k) (fun iv => 8 - (intOf iv).toNat)
  case atStart => exact ⟨0, Nat.zero_le _, rfl⟩
  case round =>
    obtain ⟨k, hk, rfl⟩ := hrel
    by_cases hlt : k < 8
    · have d0 := HC.out B0.out k hlt
      obtain ⟨x, hx⟩ : ∃ x, L.getD k default = x := ⟨_, rfl⟩
      have hxs : x.size = 8 := by rw [← hx]; exact H8.out k hlt
      rw [hx] at d0
      have e9 : ((x.size : Int) != 8) = false := by simp; omega
      clear hx
      go_wp2
      go_round
      case rel => exact ⟨k + 1, by omega, by go_num⟩
      case measure => (simp [intOf]; try omega)
    · obtain rfl : k = 8 := by omega
      have d0 := HC.out B0.out 0 (by omega)
      rw [HX0.out, Nat.add_zero] at d0
      go_wp2_with fail
      refine (specNumAt_any x0 1 2 _ (by omega) (by omega) (by omega)).mono ?_
      rw [HSZ.out, HSB.out]
      rintro e w1 ⟨rfl, hb1⟩
      have S1 := Lib.hid ((RSt.start w (inoCs kd 0 0 ⟨#[]⟩ none 0 0 none 0 0)).call hb1)
      have x1 := S1.out.box.cell (j := 1) rfl
      have z1 := S1.out.box.fr (o := 1)
      have S2 := Lib.hid (S1.out.set 1 (.int .i64 sz))
      have d1 := HC.out S1.out.below 0 (by omega)
      rw [HX0.out, Nat.add_zero] at d1
      clear hb1 d0
      go_wp2_with fail
      refine (specNumAt_any x0 3 2 _ (by omega) (by omega) (by omega)).mono ?_
      rw [HGN.out, HGB.out]
      rintro e w2 ⟨rfl, hb2⟩
      have S3 := Lib.hid (S2.out.call hb2)
      have x2 := S3.out.box.cell (j := 2) rfl
      have z2 := S3.out.box.fr (o := 2)
      have S4 := Lib.hid (S3.out.set 2 (.int .i64 gn))
      clear hb2 d1 x1 z1
      go_wp2_with fail
      refine (specZero_any 8 _).mono ?_
      rw [HT.out]
      rintro e w3 ⟨rfl, hb3⟩
      have S5 := Lib.hid (S4.out.call hb3)
      clear hb3 x2 z2
      have y0 := S5.out.box.cell (j := 0) rfl
      have y1 := S5.out.box.cell (j := 1) rfl
      have y2 := S5.out.box.cell (j := 2) rfl
      have y3 := S5.out.box.cell (j := 3) rfl
      have y4 := S5.out.box.cell (j := 4) rfl
      have y5 := S5.out.box.cell (j := 5) rfl
      go_wp2
      go_loop [7] (fun iv => ∃ k : Nat, 2 ≤ k ∧ k ≤ 8 ∧ iv = .int .i64 k ∧ Hid (Filled L k)) (fun iv => 8 - (intOf iv).toNat)
      case atStart => exact ⟨2, by omega, by omega, rfl, Lib.hid (fun j h1 h2 => by omega)⟩
      case round =>
        obtain ⟨k, hk2, hk, rfl, HF⟩ := hrel
        by_cases hlt : k < 8
        · have d3 := HC.out S5.out.below k hlt
          obtain ⟨x, hx⟩ : ∃ x, L.getD k default = x := ⟨_, rfl⟩
          rw [hx] at d3
          have HX := Lib.hid hx
          clear hx
          by_cases hxz : x = T
          · subst hxz
            have HST : Hid (stopOf L = k) := Lib.hid (stop_at hk2 (by omega) HF.out (.inr (by rw [HX.out, ← HT.out]; rfl)))
            have HI : Hid (inoOf L = ⟨kd, sz, gn, ⟨#[]⟩, [], []⟩) := Lib.hid (by unfold inoOf inoTo; rw [HKK.out, HX0.out, HSZ.out, HGN.out, if_neg HK1.out, if_neg HK1.out, if_neg HK2.out])
            go_wp2_with fail
            refine (specInoWords_any kd sz gn ⟨#[]⟩ none 0 0 none 0 0 _ [] [] HZB.out (SrcE.nil _ _ _) (fun j hj => absurd hj (Nat.not_lt_zero _)) (SrcE.nil _ _ _) (fun j hj => absurd hj (Nat.not_lt_zero _))).mono ?_
            rintro e w6 ⟨v6, rfl, hown6, hb6⟩
            obtain ⟨a6, c6, rfl, _, _, _⟩ := own_form hown6
            have R6 := Lib.hid (srcT_of_own hown6)
            have S6 := Lib.hid (S5.out.call hb6)
            have L6 : Hid ((inoWordsB ⟨kd, sz, gn, ⟨#[]⟩, [], []⟩).length ≤ 8) := Lib.hid (inoWords_le _)
            clear hown6 hb6 y0 y1 y2 y3 y4 y5
            go_wp2_with fail
            refine (wordsEq_any _ _ _ 8 _ _ _ L _ (by have := L6.out; omega) R6.out (HS.out.below S6.out.below (Nat.le_refl _)) (readInoB L) (by rw [readInoB_iff HLn.out, HI.out])).mono ?_
            rintro e w7 ⟨rfl, q7, rfl⟩
            have S7 := Lib.hid (S6.out.drewN q7)
            have y0 := S7.out.box.cell (j := 0) rfl
            have y1 := S7.out.box.cell (j := 1) rfl
            have y2 := S7.out.box.cell (j := 2) rfl
            have y3 := S7.out.box.cell (j := 3) rfl
            have y4 := S7.out.box.cell (j := 4) rfl
            have y5 := S7.out.box.cell (j := 5) rfl
            have r0 := S7.out.res.cell (j := 0) rfl
            have r1 := S7.out.res.cell (j := 1) rfl
            have r2 := S7.out.res.cell (j := 2) rfl
            have r3 := S7.out.res.cell (j := 3) rfl
            have r4 := S7.out.res.cell (j := 4) rfl
            have r5 := S7.out.res.cell (j := 5) rfl
            have f0 := S7.out.res.fr (o := 0)
            have f1 := S7.out.res.fr (o := 1)
            have f2 := S7.out.res.fr (o := 2)
            have f3 := S7.out.res.fr (o := 3)
            have f4 := S7.out.res.fr (o := 4)
            have f5 := S7.out.res.fr (o := 5)
            by_cases hok : ReadOk L
            · have HOK := Lib.hid hok
              have hrb := readInoB_yes hok
              rw [hrb]
              clear hok hrb
              have qf := ((((((S7.out.res.set 0 (.int .i64 kd)).set 1 (.int .i64 sz)).set 2 (.int .i64 gn)).set 3 (.string ⟨#[]⟩)).set 4 (.slice none 0 0)).set 5 (.slice none 0 0))
              have q0 := qf.cell (j := 0) (v := .int .i64 kd) rfl
              have q1 := qf.cell (j := 1) (v := .int .i64 sz) rfl
              have q2 := qf.cell (j := 2) (v := .int .i64 gn) rfl
              have q3 := qf.cell (j := 3) (v := .string ⟨#[]⟩) rfl
              have q4 := qf.cell (j := 4) (v := .slice none 0 0) rfl
              have q5 := qf.cell (j := 5) (v := .slice none 0 0) rfl
              clear qf
              go_wp2
              refine bodyPost_ret (v := .tuple #[.agg #[.int .i64 kd, .int .i64 sz, .int .i64 gn, .string ⟨#[]⟩, .slice none 0 0, .slice none 0 0], .bool true]) ?_ rfl (by rw [readInoR_yes HOK.out, readInoB_yes HOK.out, HI.out]; exact ⟨none, 0, none, 0, rfl, ⟨rfl, .inl ⟨rfl, rfl⟩⟩, ⟨rfl, .inl ⟨rfl, rfl⟩⟩, .inl rfl, (((((S7.out.below.setCell (Nat.le_refl _) _).setCell (Nat.le_refl _) _).setCell (Nat.le_refl _) _).setCell (Nat.le_refl _) _).setCell (Nat.le_refl _) _).setCell (Nat.le_refl _) _⟩)
              simp [results, Tryd.results21, go_sem, q0, q1, q2, q3, q4, q5]
            · have HOK := Lib.hid hok
              have hrb := readInoB_no hok
              rw [hrb]
              clear hok hrb
              have qf := ((((((S7.out.res.set 0 (.int .i64 0)).set 1 (.int .i64 0)).set 2 (.int .i64 0)).set 3 (.string ⟨#[]⟩)).set 4 (.slice none 0 0)).set 5 (.slice none 0 0))
              have q0 := qf.cell (j := 0) (v := .int .i64 0) rfl
              have q1 := qf.cell (j := 1) (v := .int .i64 0) rfl
              have q2 := qf.cell (j := 2) (v := .int .i64 0) rfl
              have q3 := qf.cell (j := 3) (v := .string ⟨#[]⟩) rfl
              have q4 := qf.cell (j := 4) (v := .slice none 0 0) rfl
              have q5 := qf.cell (j := 5) (v := .slice none 0 0) rfl
              clear qf
              go_wp2
              refine bodyPost_ret (v := .tuple #[.agg #[.int .i64 0, .int .i64 0, .int .i64 0, .string ⟨#[]⟩, .slice none 0 0, .slice none 0 0], .bool false]) ?_ rfl (gives_zero L w ((((((S7.out.below.setCell (Nat.le_refl _) _).setCell (Nat.le_refl _) _).setCell (Nat.le_refl _) _).setCell (Nat.le_refl _) _).setCell (Nat.le_refl _) _).setCell (Nat.le_refl _) _) HOK.out rfl)
              simp [results, Tryd.results21, go_sem, q0, q1, q2, q3, q4, q5]
          · have i1 := text_neB hxz
            have i2 : (x.toList != T.toList) = true := by simp only [bne, i1]; rfl
            have i3 := text_ne hxz
            have HF2 : Hid (Filled L (k + 1)) := Lib.hid (filled_step HF.out (by rw [HX.out]; intro e; exact hxz (by rw [e, ← HT.out]; rfl)))
            clear hxz
            go_wp2
            go_round
            case rel => exact ⟨k + 1, by omega, by omega, by go_num, HF2⟩
            case measure => (simp [intOf]; try omega)
        · obtain rfl : k = 8 := by omega
          have HST : Hid (stopOf L = 8) := Lib.hid (stop_at hk2 (by omega) HF.out (.inl rfl))
          have HI : Hid (inoOf L = ⟨kd, sz, gn, ⟨#[]⟩, [], []⟩) := Lib.hid (by unfold inoOf inoTo; rw [HKK.out, HX0.out, HSZ.out, HGN.out, if_neg HK1.out, if_neg HK1.out, if_neg HK2.out])
          go_wp2_with fail
          refine (specInoWords_any kd sz gn ⟨#[]⟩ none 0 0 none 0 0 _ [] [] HZB.out (SrcE.nil _ _ _) (fun j hj => absurd hj (Nat.not_lt_zero _)) (SrcE.nil _ _ _) (fun j hj => absurd hj (Nat.not_lt_zero _))).mono ?_
          rintro e w6 ⟨v6, rfl, hown6, hb6⟩
          obtain ⟨a6, c6, rfl, _, _, _⟩ := own_form hown6
          have R6 := Lib.hid (srcT_of_own hown6)
          have S6 := Lib.hid (S5.out.call hb6)
          have L6 : Hid ((inoWordsB ⟨kd, sz, gn, ⟨#[]⟩, [], []⟩).length ≤ 8) := Lib.hid (inoWords_le _)
          clear hown6 hb6 y0 y1 y2 y3 y4 y5
          go_wp2_with fail
          refine (wordsEq_any _ _ _ 8 _ _ _ L _ (by have := L6.out; omega) R6.out (HS.out.below S6.out.below (Nat.le_refl _)) (readInoB L) (by rw [readInoB_iff HLn.out, HI.out])).mono ?_
          rintro e w7 ⟨rfl, q7, rfl⟩
          have S7 := Lib.hid (S6.out.drewN q7)
          have y0 := S7.out.box.cell (j := 0) rfl
          have y1 := S7.out.box.cell (j := 1) rfl
          have y2 := S7.out.box.cell (j := 2) rfl
          have y3 := S7.out.box.cell (j := 3) rfl
          have y4 := S7.out.box.cell (j := 4) rfl
          have y5 := S7.out.box.cell (j := 5) rfl
          have r0 := S7.out.res.cell (j := 0) rfl
          have r1 := S7.out.res.cell (j := 1) rfl
          have r2 := S7.out.res.cell (j := 2) rfl
          have r3 := S7.out.res.cell (j := 3) rfl
          have r4 := S7.out.res.cell (j := 4) rfl
          have r5 := S7.out.res.cell (j := 5) rfl
          have f0 := S7.out.res.fr (o := 0)
          have f1 := S7.out.res.fr (o := 1)
          have f2 := S7.out.res.fr (o := 2)
          have f3 := S7.out.res.fr (o := 3)
          have f4 := S7.out.res.fr (o := 4)
          have f5 := S7.out.res.fr (o := 5)
          by_cases hok : ReadOk L
          · have HOK := Lib.hid hok
            have hrb := readInoB_yes hok
            rw [hrb]
            clear hok hrb
            have qf := ((((((S7.out.res.set 0 (.int .i64 kd)).set 1 (.int .i64 sz)).set 2 (.int .i64 gn)).set 3 (.string ⟨#[]⟩)).set 4 (.slice none 0 0)).set 5 (.slice none 0 0))
            have q0 := qf.cell (j := 0) (v := .int .i64 kd) rfl
            have q1 := qf.cell (j := 1) (v := .int .i64 sz) rfl
            have q2 := qf.cell (j := 2) (v := .int .i64 gn) rfl
            have q3 := qf.cell (j := 3) (v := .string ⟨#[]⟩) rfl
            have q4 := qf.cell (j := 4) (v := .slice none 0 0) rfl
            have q5 := qf.cell (j := 5) (v := .slice none 0 0) rfl
            clear qf
            go_wp2
            refine bodyPost_ret (v := .tuple #[.agg #[.int .i64 kd, .int .i64 sz, .int .i64 gn, .string ⟨#[]⟩, .slice none 0 0, .slice none 0 0], .bool true]) ?_ rfl (by rw [readInoR_yes HOK.out, readInoB_yes HOK.out, HI.out]; exact ⟨none, 0, none, 0, rfl, ⟨rfl, .inl ⟨rfl, rfl⟩⟩, ⟨rfl, .inl ⟨rfl, rfl⟩⟩, .inl rfl, (((((S7.out.below.setCell (Nat.le_refl _) _).setCell (Nat.le_refl _) _).setCell (Nat.le_refl _) _).setCell (Nat.le_refl _) _).setCell (Nat.le_refl _) _).setCell (Nat.le_refl _) _⟩)
            simp [results, Tryd.results21, go_sem, q0, q1, q2, q3, q4, q5]
          · have HOK := Lib.hid hok
            have hrb := readInoB_no hok
            rw [hrb]
            clear hok hrb
            have qf := ((((((S7.out.res.set 0 (.int .i64 0)).set 1 (.int .i64 0)).set 2 (.int .i64 0)).set 3 (.string ⟨#[]⟩)).set 4 (.slice none 0 0)).set 5 (.slice none 0 0))
            have q0 := qf.cell (j := 0) (v := .int .i64 0) rfl
            have q1 := qf.cell (j := 1) (v := .int .i64 0) rfl
            have q2 := qf.cell (j := 2) (v := .int .i64 0) rfl
            have q3 := qf.cell (j := 3) (v := .string ⟨#[]⟩) rfl
            have q4 := qf.cell (j := 4) (v := .slice none 0 0) rfl
            have q5 := qf.cell (j := 5) (v := .slice none 0 0) rfl
            clear qf
            go_wp2
            refine bodyPost_ret (v := .tuple #[.agg #[.int .i64 0, .int .i64 0, .int .i64 0, .string ⟨#[]⟩, .slice none 0 0, .slice none 0 0], .bool false]) ?_ rfl (gives_zero L w ((((((S7.out.below.setCell (Nat.le_refl _) _).setCell (Nat.le_refl _) _).setCell (Nat.le_refl _) _).setCell (Nat.le_refl _) _).setCell (Nat.le_refl _) _).setCell (Nat.le_refl _) _) HOK.out rfl)
            simp [results, Tryd.results21, go_sem, q0, q1, q2, q3, q4, q5]
end
end Go.Proofs.YtcckhkihhhchbaaDoor
namespace Go.Proofs.YtcckhkihhhchbaaDoor
open Go.RowKit Go.Proofs.YtcckhkihhhchbaaDoor.Parts Go.Proofs.YtcckhkihhhchbaaDoor.Hexa Go.Proofs.YtcckhkihhhchbaaDoor.Byt

theorem entry_head {s : ByteArray} (h : 1 ≤ s.size) : numAtV s 0 1 = ((s.data.toList.getD 0 0).toNat : Int) := by
  have hb := (s.data.toList.getD 0 0).toNat_lt
  refine numAt_fore s 0 1 _ (by omega) (by omega) (by omega) (by omega) ?_
  rw [show ((1 : Nat) : Int) = 1 from rfl, one_byte _ (by omega)]
  unfold cutL
  have hl : 1 ≤ s.data.toList.length := by simpa using h
  match s.data.toList, hl with
  | x :: r, _ => rfl
end Go.Proofs.YtcckhkihhhchbaaDoor
namespace Go.Proofs.YtcckhkihhhchbaaDoor
open Go.RowKit Go.Proofs.YtcckhkihhhchbaaDoor.Parts Go.Proofs.YtcckhkihhhchbaaDoor.Hexa Go.Proofs.YtcckhkihhhchbaaDoor.Byt

def leadRecs (L : List ByteArray) : List RecR := (L.takeWhile recReadB).map recReadR
def leadEnts (L : List ByteArray) : List EntryR := (L.takeWhile entryReadB).map entryReadR
def gotKind (L : List ByteArray) : Int := numAtV (L.getD 0 default) 0 1
def inoGot (L : List ByteArray) : InoR :=
  ⟨gotKind L, numAtV (L.getD 0 default) 1 2, numAtV (L.getD 0 default) 3 2, if gotKind L = 1 then L.getD 1 default else ⟨#[]⟩, if gotKind L = 1 then leadRecs (L.drop 2) else [], if gotKind L = 2 then leadEnts (L.drop 2) else []⟩
theorem recRead_word {r : RecR} (h : RecOk r) : recReadB (recWordB r) = true ∧ recReadR (recWordB r) = r := by
  have h8 := recWord_size h
  have hf := rec_fore h
  have h9 : (recWordB r).size = 8 ∧ RecOk (recOf (recWordB r)) := ⟨h8, by rw [hf]; exact h⟩
  exact ⟨decide_eq_true h9, by unfold recReadR; rw [if_pos h9, hf]⟩
theorem entRead_word {r : EntryR} (h : EntryOk r) : entryReadB (entryWordB r) = true ∧ entryReadR (entryWordB r) = r := by
  have h8 := entryWord_size h
  have hf := ent_fore h
  have h9 : (entryWordB r).size = 8 ∧ EntryOk (entryOf (entryWordB r)) := ⟨h8, by rw [hf]; exact h⟩
  exact ⟨decide_eq_true h9, by unfold entryReadR; rw [if_pos h9, hf]⟩
theorem recRead_zero : recReadB zero8 = false := decide_eq_false (fun h => recZero h.2)
theorem entRead_zero : entryReadB zero8 = false := decide_eq_false (fun h => entZero h.2)
theorem lead_recs (j : Nat) : ∀ R : List RecR, (∀ r ∈ R, RecOk r) → leadRecs (R.map recWordB ++ List.replicate j zero8) = R
  | [], _ => by
    unfold leadRecs
    cases j with
    | zero => rfl
    | succ j => rw [List.map_nil, List.nil_append, List.replicate_succ, List.takeWhile_cons_of_neg (by rw [recRead_zero]; decide)]; rfl
  | r :: R, h => by
    have ih := lead_recs j R (fun x hx => h x (List.mem_cons_of_mem _ hx))
    obtain ⟨h1, h2⟩ := recRead_word (h r List.mem_cons_self)
    unfold leadRecs at ih ⊢
    rw [List.map_cons, List.cons_append, List.takeWhile_cons_of_pos h1, List.map_cons, h2, ih]
theorem lead_ents (j : Nat) : ∀ E : List EntryR, (∀ r ∈ E, EntryOk r) → leadEnts (E.map entryWordB ++ List.replicate j zero8) = E
  | [], _ => by
    unfold leadEnts
    cases j with
    | zero => rfl
    | succ j => rw [List.map_nil, List.nil_append, List.replicate_succ, List.takeWhile_cons_of_neg (by rw [entRead_zero]; decide)]; rfl
  | r :: E, h => by
    have ih := lead_ents j E (fun x hx => h x (List.mem_cons_of_mem _ hx))
    obtain ⟨h1, h2⟩ := entRead_word (h r List.mem_cons_self)
    unfold leadEnts at ih ⊢
    rw [List.map_cons, List.cons_append, List.takeWhile_cons_of_pos h1, List.map_cons, h2, ih]
theorem all_of_at {α : Type} [Inhabited α] {L : List α} {p : α → Prop} (h : ∀ j, j < L.length → p (L.getD j default)) : ∀ x ∈ L, p x := fun x hx => by
  obtain ⟨j, hj, rfl⟩ := getD_mem L hx
  exact h j hj
theorem got_words {n : InoR} (h : InoOk n) : inoGot (inoWordsB n) = n := by
  have hL : inoWordsB n = [headB n, wordB n.key] ++ (n.R.map recWordB ++ n.E.map entryWordB ++ List.replicate (8 - (wordsI n).length) zero8) := by
    rw [inoWords_yes h]; unfold fillTo wordsI; simp
  have hk : 0 ≤ n.kd ∧ n.kd ≤ 2 := by rcases h with ⟨_, ⟨e, _⟩ | ⟨e, _⟩ | ⟨e, _⟩⟩ <;> omega
  have hz : 0 ≤ n.sz ∧ n.sz ≤ 65535 := by
    rcases h with ⟨_, ⟨_, h⟩ | ⟨_, h⟩ | ⟨_, h⟩⟩
    · have := h.1; omega
    · have := h.1; omega
    · have := h.1; omega
  obtain ⟨k1, k2, k3⟩ := head_list hk hz h.1
  have h8 := headB_size h
  have hkd : numAtV (headB n) 0 1 = n.kd := by rw [entry_head (by omega)]; exact k1
  obtain ⟨j, hj⟩ : ∃ j, 8 - (wordsI n).length = j := ⟨_, rfl⟩
  rw [hj] at hL
  rw [hL]
  unfold inoGot gotKind
  show (⟨numAtV (headB n) 0 1, numAtV (headB n) 1 2, numAtV (headB n) 3 2, if numAtV (headB n) 0 1 = 1 then wordB n.key else ⟨#[]⟩, if numAtV (headB n) 0 1 = 1 then leadRecs (n.R.map recWordB ++ n.E.map entryWordB ++ List.replicate j zero8) else [], if numAtV (headB n) 0 1 = 2 then leadEnts (n.R.map recWordB ++ n.E.map entryWordB ++ List.replicate j zero8) else []⟩ : InoR) = n
  rw [hkd, k2, k3]
  obtain ⟨kd, sz, gn, key, R, E⟩ := n
  rcases h with ⟨_, ⟨e, h⟩ | ⟨e, h⟩ | ⟨e, h⟩⟩
  · obtain rfl : kd = 0 := e
    obtain ⟨_, g2, g3, g4⟩ := h
    obtain rfl : key = ⟨#[]⟩ := text_nothing g2
    obtain rfl : R = [] := List.length_eq_zero_iff.1 g3
    obtain rfl : E = [] := List.length_eq_zero_iff.1 g4
    rfl
  · obtain rfl : kd = 1 := e
    obtain ⟨_, g2, _, g4, g5⟩ := h
    obtain rfl : E = [] := List.length_eq_zero_iff.1 g4
    have hkey : wordB key = key := by
      have g2 : key.size = 8 := g2
      unfold wordB
      rw [if_pos (by omega), g2]
      exact ByteArray.append_empty
    have hR := lead_recs j R (all_of_at (fun i hi => (g5 i hi).1))
    simp [hkey, hR]
  · obtain rfl : kd = 2 := e
    obtain ⟨_, g2, g3, _, g5⟩ := h
    obtain rfl : key = ⟨#[]⟩ := text_nothing g2
    obtain rfl : R = [] := List.length_eq_zero_iff.1 g3
    have hE := lead_ents j E (all_of_at (fun i hi => (g5 i hi).1))
    simp [hE]
theorem got_ok {L : List ByteArray} (h8 : L.length = 8) (h : inoWordsB (inoGot L) = L) : InoOk (inoGot L) := by
  by_cases h9 : InoOk (inoGot L)
  · exact h9
  · rw [inoWords_no h9] at h
    rw [← h] at h8
    exact absurd h8 (by decide)
theorem got_iff {L : List ByteArray} (h8 : L.length = 8) : readInoB L = true ↔ inoWordsB (inoGot L) = L := by
  rw [readInoB_iff h8]
  constructor
  · intro h
    have hk := readOk_ok ⟨h8, h⟩
    have e : inoGot L = inoOf L := by
      have := got_words hk
      rw [h] at this
      exact this
    rw [e, h]
  · intro h
    have hk := got_ok h8 h
    have e : inoOf L = inoGot L := by
      have := inoOf_words hk
      rw [h] at this
      exact this
    rw [e, h]
theorem got_eq {L : List ByteArray} (h8 : L.length = 8) (h : readInoB L = true) : readInoR L = inoGot L := by
  have h1 := (got_iff h8).1 h
  have hk := got_ok h8 h1
  have e : inoOf L = inoGot L := by
    have := inoOf_words hk
    rw [h1] at this
    exact this
  unfold readInoR
  rw [if_pos h, e]
end Go.Proofs.YtcckhkihhhchbaaDoor
namespace Go.Proofs.YtcckhkihhhchbaaDoor
open Go.RowKit

set_option maxRecDepth 100000 in
set_option maxHeartbeats 400000 in
theorem implIn_any (n a b : Int) (w : World) : Calls Tryd.prog 44 #[.int .i64 n, .int .i64 a, .int .i64 b] w fun e w' => e = .returned (.bool (decide (a ≤ n ∧ n ≤ b))) ∧ w' = w := by
  by_cases h1 : a ≤ n <;> by_cases h2 : n ≤ b
  all_goals
    go_enter Tryd.func44, Tryd.ntmps44
    go_wp2
    all_goals go_ret
    all_goals exact ⟨by simp [h1, h2], rfl⟩
theorem implIn_yes {n a b : Int} (w : World) (h : a ≤ n ∧ n ≤ b) : Calls Tryd.prog 44 #[.int .i64 n, .int .i64 a, .int .i64 b] w fun e w' => e = .returned (.bool true) ∧ w' = w :=
  (implIn_any n a b w).mono fun _ _ ⟨he, hw⟩ => ⟨by rw [he, decide_eq_true h], hw⟩
theorem implIn_no {n a b : Int} (w : World) (h : ¬ (a ≤ n ∧ n ≤ b)) : Calls Tryd.prog 44 #[.int .i64 n, .int .i64 a, .int .i64 b] w fun e w' => e = .returned (.bool false) ∧ w' = w :=
  (implIn_any n a b w).mono fun _ _ ⟨he, hw⟩ => ⟨by rw [he, decide_eq_false h], hw⟩

end Go.Proofs.YtcckhkihhhchbaaDoor
