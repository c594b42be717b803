/- Merged texts: ReadEntImpl, LeadImpl, HeadImpl, EqualImpl, AppendImpl, PagesImpl, FileImpl, DirImpl. -/
import Derived.Test.YtmkchilhnmkhkaaDoorPII
import Derived.WalkLawsBesides
import Derived.Lib.Hide
import Derived.Deep.QuietTactic
import Derived.BigQuiet
import Derived.WalkKit
import Derived.WalkSpells
namespace Go.Proofs.YtmkchilhnmkhkaaDoor
open Go.RowKit Go.Proofs.YtmkchilhnmkhkaaDoor.Parts Go.Proofs.YtmkchilhnmkhkaaDoor.Hexa Go.Proofs.YtmkchilhnmkhkaaDoor.Byt

theorem endTo_trim {l t : List UInt8} (h : ∀ j, t.getD j 0 = l.getD (j + 1) 0) : ∀ k, endTo l (k + 1) = trimTo t k + 1
  | 0 => rfl
  | k + 1 => by
    rw [endTo, trimTo, h k, endTo_trim h k]
    split <;> rfl
theorem extract_tail (s : ByteArray) (m : Nat) (hm : m ≤ s.size - 1) : (s.extract 1 s.size).extract 0 m = s.extract 1 (m + 1) := by
  apply ByteArray.ext
  apply Array.toList_inj.1
  have hl : s.data.toList.length = s.size := by simp
  simp only [ByteArray.data_extract, Array.toList_extract, List.extract_eq_take_drop, List.drop_zero, Nat.sub_zero, List.take_take]
  congr 1
  omega
theorem tail_getD (s : ByteArray) (j : Nat) : (s.extract 1 s.size).data.toList.getD j 0 = s.data.toList.getD (j + 1) 0 := by
  have hl : s.data.toList.length = s.size := by simp
  simp only [ByteArray.data_extract, Array.toList_extract, List.extract_eq_take_drop, List.getD]
  rw [List.take_of_length_le (by rw [List.length_drop]; omega), List.getElem?_drop, Nat.add_comm]
/-- What the program reads. -/
def entryGot (s : ByteArray) : EntryR := ⟨numAtV s 0 1, trimB (s.extract 1 s.size)⟩
theorem entryGot_eq {s : ByteArray} (h8 : s.size = 8) : entryGot s = entryOf s := by
  have h7 : (s.extract 1 s.size).size = 7 := by rw [ByteArray.size_extract]; omega
  have hE := endTo_trim (l := s.data.toList) (t := (s.extract 1 s.size).data.toList) (tail_getD s) 7
  have hle := trimTo_le (s.extract 1 s.size).data.toList 7
  unfold entryGot entryOf endOf trimB
  rw [entry_head (by omega), h7, hE, extract_tail s _ (by omega)]
theorem got_yes {s : ByteArray} (h8 : s.size = 8) (h : EntryOk (entryOf s)) : entryWordB (entryGot s) = s := by rw [entryGot_eq h8]; exact entry_back h8 h
theorem got_no {s : ByteArray} (h1 : 1 ≤ s.size) (h : ¬ (s.size = 8 ∧ EntryOk (entryOf s))) : ¬ entryWordB (entryGot s) = s := fun e => by
  by_cases hk : EntryOk (entryGot s)
  · have h8 : s.size = 8 := by rw [← e]; exact entryWord_size hk
    exact h ⟨h8, by rw [← entryGot_eq h8]; exact hk⟩
  · rw [entryWordB_no hk] at e
    rw [← e] at h1
    exact absurd h1 (by decide)

set_option maxRecDepth 100000 in
set_option maxHeartbeats 1000000 in
theorem implReadEntry_none (s : ByteArray) (w : World) (h : s.size = 0) :
    Calls Tryd.prog 33 #[.string s] w (SaysEnt ⟨0, ⟨#[]⟩⟩ false w) := by
  have R0 := Lib.hid (Bk.alloc w #[.int .i64 0, .string ⟨#[]⟩] 47)
  have B0 := Lib.hid (below_bk w (.cells #[.int .i64 0, .string ⟨#[]⟩] 47))
  have HB : Hid (numAtB s 0 1 = false) := Lib.hid (decide_eq_false (by omega))
  have hs : s.size ≤ 100 := by omega
  clear h
  go_enter Tryd.func33, Tryd.ntmps33
  go_wp2_with fail
  refine (implNumAt_any s 0 1 _ (by omega)).mono ?_
  rw [HB.out]
  rintro e w1 ⟨rfl, hb⟩
  have R1 := Lib.hid (R0.out.later hb)
  have B1 : Hid (Below w.heap.size w w1) := Lib.hid (B0.out.trans (hb.mono B0.out.size))
  clear hb
  have r0 := R1.out.cell (j := 0) rfl
  have r1 := R1.out.cell (j := 1) rfl
  have f0 := R1.out.fr (o := 0)
  have f1 := R1.out.fr (o := 1)
  have qf := (R1.out.set 0 (.int .i64 0)).set 1 (.string ⟨#[]⟩)
  have q0 := qf.cell (j := 0) (v := .int .i64 0) rfl
  have q1 := qf.cell (j := 1) (v := .string ⟨#[]⟩) rfl
  clear qf
  go_wp2
  refine bodyPost_ret (v := .tuple #[.agg #[.int .i64 0, .string ⟨#[]⟩], .bool false]) ?_ rfl ⟨rfl, ?_⟩
  · simp [results, Tryd.results33, go_sem, q0, q1]
  · exact (B1.out.setCell (Nat.le_refl _) _).setCell (Nat.le_refl _) _

set_option maxRecDepth 100000 in
set_option maxHeartbeats 2000000 in
theorem implReadEntry_got (s : ByteArray) (w : World) (h1 : 1 ≤ s.size) (hs : s.size ≤ 2000000) (b : Bool) (hb : b = true ↔ entryWordB (entryGot s) = s) :
    Calls Tryd.prog 33 #[.string s] w (SaysEnt (if b then entryGot s else ⟨0, ⟨#[]⟩⟩) b w) := by
  have R0 := Lib.hid (Bk.alloc w #[.int .i64 0, .string ⟨#[]⟩] 47)
  have B0 := Lib.hid (below_bk w (.cells #[.int .i64 0, .string ⟨#[]⟩] 47))
  have HB : Hid (numAtB s 0 1 = true) := Lib.hid (decide_eq_true (by omega))
  obtain ⟨P, hP⟩ : ∃ P, numAtV s 0 1 = P := ⟨_, rfl⟩
  obtain ⟨X, hX⟩ : ∃ X, s.extract 1 s.size = X := ⟨_, rfl⟩
  obtain ⟨M, hM⟩ : ∃ M, trimB X = M := ⟨_, rfl⟩
  have HXS : Hid (X.size ≤ 2000000) := Lib.hid (by rw [← hX, ByteArray.size_extract]; omega)
  have HMS : Hid (M.size ≤ 2000000) := Lib.hid (by have := HXS.out; rw [← hM]; unfold trimB; rw [ByteArray.size_extract]; omega)
  have hG : entryGot s = ⟨P, M⟩ := by unfold entryGot; rw [hP, hX, hM]
  obtain ⟨T, hT⟩ : ∃ T, entryWordB ⟨P, M⟩ = T := ⟨_, rfl⟩
  rw [hG] at hb ⊢
  rw [hT] at hb
  have HP := Lib.hid hP
  have HM := Lib.hid hM
  have HT := Lib.hid hT
  have HG := Lib.hid hb
  obtain ⟨RR, hRR⟩ : ∃ RR : EntryR, (if b then (⟨P, M⟩ : EntryR) else ⟨0, ⟨#[]⟩⟩) = RR := ⟨_, rfl⟩
  rw [hRR]
  have HRR := Lib.hid hRR
  clear hRR
  have l1 : (1 : Int) ≤ (s.size : Int) := by omega
  have hs1 := Lib.hid h1
  have hs0 := Lib.hid hs
  clear hb hP hM hT hG
  go_enter Tryd.func33, Tryd.ntmps33
  go_wp2_with fail
  refine (implNumAt_any s 0 1 _ (by omega)).mono ?_
  rw [HB.out, HP.out]
  rintro e w1 ⟨rfl, hb⟩
  have R1 := Lib.hid (R0.out.later hb)
  have B1 : Hid (Below w.heap.size w w1) := Lib.hid (B0.out.trans (hb.mono B0.out.size))
  clear hb
  go_wp2_with fail
  refine (trimRight_any X _ HXS.out).mono ?_
  rw [HM.out]
  rintro e w1x ⟨rfl, rfl⟩
  go_wp2_with fail
  refine (cloneText_any M _ HMS.out).mono ?_
  rintro e w2 ⟨rfl, hb⟩
  have hba := below_bk w2 (.cells #[.int .i64 P, .string M] 47)
  have R3 := Lib.hid ((R1.out.later hb).later hba)
  have B2 : Below w.heap.size w w2 := B1.out.trans (hb.mono B1.out.size)
  have B3 : Hid (Below w.heap.size w (w2.alloc (.cells #[.int .i64 P, .string M] 47))) := Lib.hid (B2.trans (hba.mono B2.size))
  have X3 := Lib.hid (Bk.alloc w2 #[.int .i64 P, .string M] 47)
  clear hb hba B2
  go_wp2_with fail
  refine (implEntryWord_any P M _ HMS.out).mono ?_
  rw [HT.out]
  rintro e w4 ⟨rfl, hb⟩
  have R4 := Lib.hid (R3.out.later hb)
  have X4 := Lib.hid (X3.out.later hb)
  have B4 : Hid (Below w.heap.size w w4) := Lib.hid (B3.out.trans (hb.mono B3.out.size))
  clear hb R3 X3 B3
  have x0 := X4.out.cell (j := 0) rfl
  have x1 := X4.out.cell (j := 1) rfl
  have r0 := R4.out.cell (j := 0) rfl
  have r1 := R4.out.cell (j := 1) rfl
  have f0 := R4.out.fr (o := 0)
  have f1 := R4.out.fr (o := 1)
  cases b
  · have hne : ¬ T = s := fun e => by cases HG.out.2 e
    have n1 := text_neB hne
    have n2 := text_ne hne
    have qf := (R4.out.set 0 (.int .i64 0)).set 1 (.string ⟨#[]⟩)
    have q0 := qf.cell (j := 0) (v := .int .i64 0) rfl
    have q1 := qf.cell (j := 1) (v := .string ⟨#[]⟩) rfl
    clear qf hne
    go_wp2
    refine bodyPost_ret (v := .tuple #[.agg #[.int .i64 0, .string ⟨#[]⟩], .bool false]) ?_ rfl ⟨by rw [← HRR.out]; rfl, ?_⟩
    · simp [results, Tryd.results33, go_sem, q0, q1]
    · exact (B4.out.setCell (Nat.le_refl _) _).setCell (Nat.le_refl _) _
  · obtain rfl : T = s := HG.out.1 rfl
    have qf := (R4.out.set 0 (.int .i64 P)).set 1 (.string M)
    have q0 := qf.cell (j := 0) (v := .int .i64 P) rfl
    have q1 := qf.cell (j := 1) (v := .string M) rfl
    clear qf
    go_wp2
    refine bodyPost_ret (v := .tuple #[.agg #[.int .i64 P, .string M], .bool true]) ?_ rfl ⟨by rw [← HRR.out]; rfl, ?_⟩
    · simp [results, Tryd.results33, go_sem, q0, q1]
    · exact (B4.out.setCell (Nat.le_refl _) _).setCell (Nat.le_refl _) _
theorem implReadEntry_any (s : ByteArray) (w : World) (hs : s.size ≤ 2000000) :
    Calls Tryd.prog 33 #[.string s] w (SaysEnt (entryReadR s) (entryReadB s) w) := by
  by_cases h : s.size = 8 ∧ EntryOk (entryOf s)
  · rw [show entryReadR s = entryOf s from if_pos h, show entryReadB s = true from decide_eq_true h, ← entryGot_eq h.1]
    exact implReadEntry_got s w (by omega) hs true ⟨fun _ => got_yes h.1 h.2, fun _ => rfl⟩
  · rw [show entryReadR s = ⟨0, ⟨#[]⟩⟩ from if_neg h, show entryReadB s = false from decide_eq_false h]
    by_cases h0 : s.size = 0
    · exact implReadEntry_none s w h0
    · exact implReadEntry_got s w (by omega) hs false ⟨fun e => (by cases e), fun e => absurd e (got_no (by omega) h)⟩
end Go.Proofs.YtmkchilhnmkhkaaDoor
namespace Go.Proofs.YtmkchilhnmkhkaaDoor
open Go.RowKit Go.Proofs.YtmkchilhnmkhkaaDoor.Parts Go.Proofs.YtmkchilhnmkhkaaDoor.Hexa Go.Proofs.YtmkchilhnmkhkaaDoor.Byt

theorem getD_none {α : Type} [Inhabited α] (L : List α) {j : Nat} (h : L.length ≤ j) : L.getD j default = default := by
  simp only [List.getD]
  rw [List.getElem?_eq_none h]
  rfl
theorem while_stop {α : Type} [Inhabited α] {p : α → Bool} : ∀ {L : List α} (k : Nat), k < L.length → (∀ j, j < k → p (L.getD j default) = true) → p (L.getD k default) = false → L.takeWhile p = L.take k
  | x :: r, 0, _, _, h0 => by
    have h0 : p x = false := h0
    rw [List.takeWhile_cons_of_neg (by rw [h0]; decide)]
    rfl
  | x :: r, k + 1, hk, h, h0 => by
    rw [List.takeWhile_cons_of_pos (show p x = true from h 0 (by omega)), List.take_succ_cons]
    congr 1
    exact while_stop k (by simpa using hk) (fun j hj => h (j + 1) (by omega)) h0
theorem while_all {α : Type} [Inhabited α] {p : α → Bool} : ∀ {L : List α} (k : Nat), L.length = k → (∀ j, j < k → p (L.getD j default) = true) → L.takeWhile p = L.take k
  | [], _, _, _ => by simp
  | x :: r, 0, h, _ => by simp at h
  | x :: r, k + 1, hk, h => by
    rw [List.takeWhile_cons_of_pos (show p x = true from h 0 (by omega)), List.take_succ_cons]
    congr 1
    exact while_all k (by simpa using hk) (fun j hj => h (j + 1) (by omega))
theorem recReadR_fit (s : ByteArray) : (recReadR s).f2.size ≤ 2000000 := by
  unfold recReadR
  split
  · show (s.extract 4 8).size ≤ 2000000
    rw [ByteArray.size_extract]; omega
  · exact Nat.zero_le _
theorem leadRecs_fit (L : List ByteArray) (n : Nat) : FitRec (leadRecs L) n 2000000 := fun j _ => by
  unfold leadRecs
  rcases Nat.lt_or_ge j (L.takeWhile recReadB).length with h | h
  · rw [map_getD _ _ _ h]; exact recReadR_fit _
  · rw [getD_none _ (by simpa using h)]; exact Nat.zero_le _
theorem entryReadR_fit (s : ByteArray) : (entryReadR s).f1.size ≤ 2000000 := by
  unfold entryReadR
  split
  · rename_i h
    have h9 := endTo_bd s.data.toList 8
    show (s.extract 1 (endOf s)).size ≤ 2000000
    rw [ByteArray.size_extract]; have := h.1; omega
  · exact Nat.zero_le _
theorem leadEnts_fit (L : List ByteArray) (n : Nat) : FitEntry (leadEnts L) n 2000000 := fun j _ => by
  unfold leadEnts
  rcases Nat.lt_or_ge j (L.takeWhile entryReadB).length with h | h
  · rw [map_getD _ _ _ h]; exact entryReadR_fit _
  · rw [getD_none _ (by simpa using h)]; exact Nat.zero_le _

/-- What is returned: a row of its own. -/
def GivesLeadRecs (R : List RecR) (w : World) (e : Ending) (w' : World) : Prop :=
  ∃ a c, e = .returned (.slice a R.length c) ∧ w'.ownsRow w.heap.size 66 3 (.slice a R.length c) R.length (cellsE encRec R) ∧ Below w.heap.size w w'
set_option maxRecDepth 100000 in
set_option maxHeartbeats 2000000 in
theorem implLeadRecs_any (a : Option Addr) (n c : Nat) (L : List ByteArray) (w : World) (hs : SrcT w a n L) (hf : ∀ j, j < n → (L.getD j default).size ≤ 1048576) (hn : n ≤ 1000) :
    Calls Tryd.prog 80 #[.slice a n c, .func (.func 47) #[] #[]] w (GivesLeadRecs (leadRecs L) w) := by
  obtain ⟨i0, hi, hz0, hz1, hz2⟩ := info_parts infoRec
  have HS := Lib.hid hs
  have HL := Lib.hid hs.len
  have HF := Lib.hid hf
  clear hs hf
  go_enter Tryd.func80, Tryd.ntmps80
  go_wp2
  go_loopw [5, 12] (fun u iv wr => ∃ k : Nat, k ≤ n ∧ iv = .int .i64 k ∧ Hid (∀ j, j < k → recReadB (L.getD j default) = true) ∧ Hid (wr.ownsRow w.heap.size 66 3 u k (cellsE encRec ((L.take k).map recReadR))) ∧ Hid (Below w.heap.size w wr)) (fun _ iv _ => n - (intOf iv).toNat)
  case atStart => exact ⟨0, Nat.zero_le _, rfl, Lib.hid (fun j hj => by omega), Lib.hid (World.ownsRow_nil _ _ _ _), Lib.hid (Below.refl _ _)⟩
  case round =>
    obtain ⟨k, hk, rfl, HA, HW, HB⟩ := hrel
    obtain ⟨av, cv, rfl, hc1, hc2, _⟩ := ownE_form HW.out
    by_cases hlt : k < n
    · obtain ⟨g, off, ha, hg, d0⟩ := srcT_later HS.out HB.out (Nat.le_refl _) k hlt
      obtain ⟨x, hx⟩ : ∃ x, L.getD k default = x := ⟨_, rfl⟩
      have hm := HF.out k hlt
      rw [hx] at d0 hm
      have HX := Lib.hid hx
      have HM := Lib.hid hm
      obtain ⟨⟨p, q, m⟩, hr⟩ : ∃ r, recReadR x = r := ⟨_, rfl⟩
      obtain ⟨b, hb⟩ : ∃ b, recReadB x = b := ⟨_, rfl⟩
      have HR := Lib.hid hr
      have HBB := Lib.hid hb
      have HWN : Hid (cellsE encRec ((L.take k).map recReadR) ++ [.int .i64 p, .int .i64 q, .string m] = cellsE encRec ((L.take (k + 1)).map recReadR)) := Lib.hid (by
        rw [take_more _ _ _ (by rw [HL.out]; exact hlt), HX.out, HR.out, cellsE_append, cellsE_one]
        rfl)
      have HSZ : Hid (w.heap.size ≤ wr.heap.size) := Lib.hid HB.out.size
      subst ha
      clear hx hm hr hb
      go_wp2_with fail
      refine (implReadRec_any x _ (by have := HM.out; omega)).mono ?_
      unfold SaysRec
      rw [HR.out, HBB.out]
      rintro e w1 ⟨rfl, hb1⟩
      have HW1 := Lib.hid (own_below HW.out hb1)
      have B1 : Hid (Below w.heap.size w w1) := Lib.hid (HB.out.trans (hb1.mono HSZ.out))
      have Z1 : Hid (w.heap.size ≤ w1.heap.size) := Lib.hid B1.out.size
      have X1 := Lib.hid (Bk.alloc w1 #[.int .i64 p, .int .i64 q, .string m] 66)
      clear hb1 d0
      cases b
      · have HE : Hid (leadRecs L = (L.take k).map recReadR) := Lib.hid (by unfold leadRecs; rw [while_stop k (by rw [HL.out]; exact hlt) HA.out (by rw [HX.out]; exact HBB.out)])
        have HLn : Hid (((L.take k).map recReadR).length = k) := Lib.hid (by rw [List.length_map, List.length_take, HL.out]; omega)
        have HO : Hid ((w1.alloc (.cells #[.int .i64 p, .int .i64 q, .string m] 66)).ownsRow w.heap.size 66 3 (.slice av k cv) k (cellsE encRec ((L.take k).map recReadR))) := Lib.hid (HW1.out.alloc _)
        have B2 := Lib.hid (B1.out.alloc Z1.out (.cells #[.int .i64 p, .int .i64 q, .string m] 66))
        go_wp2
        go_ret
        exact ⟨av, cv, by rw [HE.out, HLn.out]; rfl, by rw [HE.out, HLn.out]; exact HO.out, B2.out⟩
      · have HA2 : Hid (∀ j, j < k + 1 → recReadB (L.getD j default) = true) := Lib.hid (fun j hj => by
          by_cases e : j = k
          · subst e; rw [HX.out]; exact HBB.out
          · exact HA.out j (by omega))
        have x0 := X1.out.cell (j := 0) rfl
        have x1 := X1.out.cell (j := 1) rfl
        have x2 := X1.out.cell (j := 2) rfl
        go_wp2_with (at_builtin; refine wpList_append_own _ rfl (.tmp 24) (.tmp 26) 51 rfl w.heap.size 66 i0 (.agg #[.int .i64 0, .int .i64 0, .string ByteArray.empty]) 3 32 Tryd.underlying51 hi hz0 hz1 hz2 rfl (by decide) _ _ _ rfl ((HW1.out.alloc _).alloc _) ⟨w1.heap.size + 1, 0, none⟩ 1 1 [.int .i64 p, .int .i64 q, .string m] rfl rfl (World.news_of_block (by simpa using heap_alloc_new (w1.alloc (.cells #[.int .i64 p, .int .i64 q, .string m] 66)) (.cells #[.int .i64 p, .int .i64 q, .string m] 66))) (by simp [Value.oneCell']) (by unfold maxLen; omega) (by omega) (by have := Z1.out; simp; omega) ?_; intro v2 w2 hown2 hgrow2 hn2)
        have BG3 := Lib.hid (((B1.out.alloc Z1.out (.cells #[.int .i64 p, .int .i64 q, .string m] 66)).alloc (by have := Z1.out; simp; omega) (.cells #[.int .i64 p, .int .i64 q, .string m] 66)).grown hgrow2 (by have := Z1.out; simp; omega) (fun g hg => (HW1.out.lt g hg).1))
        rw [HWN.out] at hown2
        have HO2 := Lib.hid hown2
        clear hown2 hgrow2 hn2 HW1 B1 HB HW x0 x1 x2
        go_roundw
        case rel => exact ⟨k + 1, by omega, by go_num, HA2, HO2, BG3⟩
        case measure => (simp [intOf]; try omega)
    · obtain rfl : k = n := by omega
      have HE : Hid (leadRecs L = (L.take k).map recReadR) := Lib.hid (by unfold leadRecs; rw [while_all k HL.out HA.out])
      have HLn : Hid (((L.take k).map recReadR).length = k) := Lib.hid (by rw [List.length_map, List.length_take, HL.out]; omega)
      go_wp2
      go_ret
      exact ⟨av, cv, by rw [HE.out, HLn.out]; rfl, by rw [HE.out, HLn.out]; exact HW.out, HB.out⟩

/-- What is returned: a row of its own. -/
def GivesLeadEnts (R : List EntryR) (w : World) (e : Ending) (w' : World) : Prop :=
  ∃ a c, e = .returned (.slice a R.length c) ∧ w'.ownsRow w.heap.size 47 2 (.slice a R.length c) R.length (cellsE encEntry R) ∧ Below w.heap.size w w'
set_option maxRecDepth 100000 in
set_option maxHeartbeats 2000000 in
theorem implLeadEnts_any (a : Option Addr) (n c : Nat) (L : List ByteArray) (w : World) (hs : SrcT w a n L) (hf : ∀ j, j < n → (L.getD j default).size ≤ 1048576) (hn : n ≤ 1000) :
    Calls Tryd.prog 81 #[.slice a n c, .func (.func 33) #[] #[]] w (GivesLeadEnts (leadEnts L) w) := by
  obtain ⟨i0, hi, hz0, hz1, hz2⟩ := info_parts infoEntry
  have HS := Lib.hid hs
  have HL := Lib.hid hs.len
  have HF := Lib.hid hf
  clear hs hf
  go_enter Tryd.func81, Tryd.ntmps81
  go_wp2
  go_loopw [5, 12] (fun u iv wr => ∃ k : Nat, k ≤ n ∧ iv = .int .i64 k ∧ Hid (∀ j, j < k → entryReadB (L.getD j default) = true) ∧ Hid (wr.ownsRow w.heap.size 47 2 u k (cellsE encEntry ((L.take k).map entryReadR))) ∧ Hid (Below w.heap.size w wr)) (fun _ iv _ => n - (intOf iv).toNat)
  case atStart => exact ⟨0, Nat.zero_le _, rfl, Lib.hid (fun j hj => by omega), Lib.hid (World.ownsRow_nil _ _ _ _), Lib.hid (Below.refl _ _)⟩
  case round =>
    obtain ⟨k, hk, rfl, HA, HW, HB⟩ := hrel
    obtain ⟨av, cv, rfl, hc1, hc2, _⟩ := ownE_form HW.out
    by_cases hlt : k < n
    · obtain ⟨g, off, ha, hg, d0⟩ := srcT_later HS.out HB.out (Nat.le_refl _) k hlt
      obtain ⟨x, hx⟩ : ∃ x, L.getD k default = x := ⟨_, rfl⟩
      have hm := HF.out k hlt
      rw [hx] at d0 hm
      have HX := Lib.hid hx
      have HM := Lib.hid hm
      obtain ⟨⟨p, m⟩, hr⟩ : ∃ r, entryReadR x = r := ⟨_, rfl⟩
      obtain ⟨b, hb⟩ : ∃ b, entryReadB x = b := ⟨_, rfl⟩
      have HR := Lib.hid hr
      have HBB := Lib.hid hb
      have HWN : Hid (cellsE encEntry ((L.take k).map entryReadR) ++ [.int .i64 p, .string m] = cellsE encEntry ((L.take (k + 1)).map entryReadR)) := Lib.hid (by
        rw [take_more _ _ _ (by rw [HL.out]; exact hlt), HX.out, HR.out, cellsE_append, cellsE_one]
        rfl)
      have HSZ : Hid (w.heap.size ≤ wr.heap.size) := Lib.hid HB.out.size
      subst ha
      clear hx hm hr hb
      go_wp2_with fail
      refine (implReadEntry_any x _ (by have := HM.out; omega)).mono ?_
      unfold SaysEnt
      rw [HR.out, HBB.out]
      rintro e w1 ⟨rfl, hb1⟩
      have HW1 := Lib.hid (own_below HW.out hb1)
      have B1 : Hid (Below w.heap.size w w1) := Lib.hid (HB.out.trans (hb1.mono HSZ.out))
      have Z1 : Hid (w.heap.size ≤ w1.heap.size) := Lib.hid B1.out.size
      have X1 := Lib.hid (Bk.alloc w1 #[.int .i64 p, .string m] 47)
      clear hb1 d0
      cases b
      · have HE : Hid (leadEnts L = (L.take k).map entryReadR) := Lib.hid (by unfold leadEnts; rw [while_stop k (by rw [HL.out]; exact hlt) HA.out (by rw [HX.out]; exact HBB.out)])
        have HLn : Hid (((L.take k).map entryReadR).length = k) := Lib.hid (by rw [List.length_map, List.length_take, HL.out]; omega)
        have HO : Hid ((w1.alloc (.cells #[.int .i64 p, .string m] 47)).ownsRow w.heap.size 47 2 (.slice av k cv) k (cellsE encEntry ((L.take k).map entryReadR))) := Lib.hid (HW1.out.alloc _)
        have B2 := Lib.hid (B1.out.alloc Z1.out (.cells #[.int .i64 p, .string m] 47))
        go_wp2
        go_ret
        exact ⟨av, cv, by rw [HE.out, HLn.out]; rfl, by rw [HE.out, HLn.out]; exact HO.out, B2.out⟩
      · have HA2 : Hid (∀ j, j < k + 1 → entryReadB (L.getD j default) = true) := Lib.hid (fun j hj => by
          by_cases e : j = k
          · subst e; rw [HX.out]; exact HBB.out
          · exact HA.out j (by omega))
        have x0 := X1.out.cell (j := 0) rfl
        have x1 := X1.out.cell (j := 1) rfl
        go_wp2_with (at_builtin; refine wpList_append_own _ rfl (.tmp 24) (.tmp 26) 52 rfl w.heap.size 47 i0 (.agg #[.int .i64 0, .string ByteArray.empty]) 2 24 Tryd.underlying52 hi hz0 hz1 hz2 rfl (by decide) _ _ _ rfl ((HW1.out.alloc _).alloc _) ⟨w1.heap.size + 1, 0, none⟩ 1 1 [.int .i64 p, .string m] rfl rfl (World.news_of_block (by simpa using heap_alloc_new (w1.alloc (.cells #[.int .i64 p, .string m] 47)) (.cells #[.int .i64 p, .string m] 47))) (by simp [Value.oneCell']) (by unfold maxLen; omega) (by omega) (by have := Z1.out; simp; omega) ?_; intro v2 w2 hown2 hgrow2 hn2)
        have BG3 := Lib.hid (((B1.out.alloc Z1.out (.cells #[.int .i64 p, .string m] 47)).alloc (by have := Z1.out; simp; omega) (.cells #[.int .i64 p, .string m] 47)).grown hgrow2 (by have := Z1.out; simp; omega) (fun g hg => (HW1.out.lt g hg).1))
        rw [HWN.out] at hown2
        have HO2 := Lib.hid hown2
        clear hown2 hgrow2 hn2 HW1 B1 HB HW x0 x1
        go_roundw
        case rel => exact ⟨k + 1, by omega, by go_num, HA2, HO2, BG3⟩
        case measure => (simp [intOf]; try omega)
    · obtain rfl : k = n := by omega
      have HE : Hid (leadEnts L = (L.take k).map entryReadR) := Lib.hid (by unfold leadEnts; rw [while_all k HL.out HA.out])
      have HLn : Hid (((L.take k).map entryReadR).length = k) := Lib.hid (by rw [List.length_map, List.length_take, HL.out]; omega)
      go_wp2
      go_ret
      exact ⟨av, cv, by rw [HE.out, HLn.out]; rfl, by rw [HE.out, HLn.out]; exact HW.out, HB.out⟩

end Go.Proofs.YtmkchilhnmkhkaaDoor
namespace Go.Proofs.YtmkchilhnmkhkaaDoor
open Go.RowKit Go.Proofs.YtmkchilhnmkhkaaDoor.Parts Go.Proofs.YtmkchilhnmkhkaaDoor.Hexa Go.Proofs.YtmkchilhnmkhkaaDoor.Byt

set_option maxRecDepth 100000 in
set_option maxHeartbeats 2000000 in
theorem implHead_any (s : ByteArray) (w : World) (hs : s.size ≤ 2000000) :
    Calls Tryd.prog 78 #[.string s] w fun e w' => e = .returned (.agg #[.int .i64 (numAtV s 0 1), .int .i64 (numAtV s 1 2), .int .i64 (numAtV s 3 2), .string ⟨#[]⟩, .slice none 0 0, .slice none 0 0]) ∧ Below w.heap.size w w' := by
  have R0 := Lib.hid (Bk.alloc w (inoCs 0 0 0 ⟨#[]⟩ none 0 0 none 0 0) 54)
  have B0 := Lib.hid (below_bk w (inoObj 0 0 0 ⟨#[]⟩ none 0 0 none 0 0))
  obtain ⟨P, hP⟩ : ∃ P, numAtV s 0 1 = P := ⟨_, rfl⟩
  obtain ⟨Q, hQ⟩ : ∃ P, numAtV s 1 2 = P := ⟨_, rfl⟩
  obtain ⟨T, hT⟩ : ∃ P, numAtV s 3 2 = P := ⟨_, rfl⟩
  rw [hP, hQ, hT]
  have HP := Lib.hid hP
  have HQ := Lib.hid hQ
  have HT := Lib.hid hT
  clear hP hQ hT
  go_enter Tryd.func78, Tryd.ntmps78
  go_wp2_with fail
  refine (implNumAt_any s 0 1 _ (by omega)).mono ?_
  rw [HP.out]
  rintro e w1 ⟨rfl, hb⟩
  have R1 := Lib.hid (R0.out.later hb)
  have B1 : Hid (Below w.heap.size w w1) := Lib.hid (B0.out.trans (hb.mono B0.out.size))
  clear hb
  go_wp2_with fail
  refine (implNumAt_any s 1 2 _ (by omega)).mono ?_
  rw [HQ.out]
  rintro e w2 ⟨rfl, hb⟩
  have R2 := Lib.hid (R1.out.later hb)
  have B2 : Hid (Below w.heap.size w w2) := Lib.hid (B1.out.trans (hb.mono B1.out.size))
  clear hb
  go_wp2_with fail
  refine (implNumAt_any s 3 2 _ (by omega)).mono ?_
  rw [HT.out]
  rintro e w3 ⟨rfl, hb⟩
  have R3 := Lib.hid (R2.out.later hb)
  have B3 : Hid (Below w.heap.size w w3) := Lib.hid (B2.out.trans (hb.mono B2.out.size))
  clear hb
  have r0 := R3.out.cell (j := 0) rfl
  have r1 := R3.out.cell (j := 1) rfl
  have r2 := R3.out.cell (j := 2) rfl
  have r3 := R3.out.cell (j := 3) rfl
  have r4 := R3.out.cell (j := 4) rfl
  have r5 := R3.out.cell (j := 5) rfl
  have f0 := R3.out.fr (o := 0)
  have f1 := R3.out.fr (o := 1)
  have f2 := R3.out.fr (o := 2)
  have f3 := R3.out.fr (o := 3)
  have f4 := R3.out.fr (o := 4)
  have f5 := R3.out.fr (o := 5)
  have qf := (((((R3.out.set 0 (.int .i64 P)).set 1 (.int .i64 Q)).set 2 (.int .i64 T)).set 3 (.string ⟨#[]⟩)).set 4 (.slice none 0 0)).set 5 (.slice none 0 0)
  have q0 := qf.cell (j := 0) (v := .int .i64 P) rfl
  have q1 := qf.cell (j := 1) (v := .int .i64 Q) rfl
  have q2 := qf.cell (j := 2) (v := .int .i64 T) rfl
  have q3 := qf.cell (j := 3) (v := .string ⟨#[]⟩) rfl
  have q4 := qf.cell (j := 4) (v := .slice none 0 0) rfl
  have q5 := qf.cell (j := 5) (v := .slice none 0 0) rfl
  clear qf
  go_wp2
  refine bodyPost_ret (v := .agg #[.int .i64 P, .int .i64 Q, .int .i64 T, .string ⟨#[]⟩, .slice none 0 0, .slice none 0 0]) ?_ rfl ⟨rfl, ?_⟩
  · simp [results, Tryd.results78, go_sem, q0, q1, q2, q3, q4, q5]
  · exact (((((B3.out.setCell (Nat.le_refl _) _).setCell (Nat.le_refl _) _).setCell (Nat.le_refl _) _).setCell (Nat.le_refl _) _).setCell (Nat.le_refl _) _).setCell (Nat.le_refl _) _
end Go.Proofs.YtmkchilhnmkhkaaDoor
namespace Go.Proofs.YtmkchilhnmkhkaaDoor
open Go.RowKit Go.Proofs.YtmkchilhnmkhkaaDoor.Parts Go.Proofs.YtmkchilhnmkhkaaDoor.Hexa

set_option maxRecDepth 100000 in
set_option maxHeartbeats 1000000 in
theorem implEqual_any (a1 a2 : Option Addr) (n m c1 c2 : Nat) (P Q : List ByteArray) (w : World) (hn : n ≤ 100000000) (r1 : SrcT w a1 n P) (r2 : SrcT w a2 m Q) (b : Bool) (hb : b = true ↔ P = Q) :
    Calls Tryd.prog 58 #[.slice a1 n c1, .slice a2 m c2] w fun e w' => e = .returned (.bool b) ∧ ∃ q, w' = w.drewN q := by
  have hP := r1.len
  have hQ := r2.len
  by_cases hnm : n = m
  · subst hnm
    have HG := Lib.hid hb
    have HP := Lib.hid hP
    have HQ := Lib.hid hQ
    have R1 := Lib.hid r1
    have R2 := Lib.hid r2
    clear r1 r2 hb hP hQ
    go_enter Tryd.func58, Tryd.ntmps58
    go_wp2
    go_loopw [13] (fun iv wr => ∃ k q : Nat, k ≤ n ∧ iv = .int .i64 k ∧ wr = w.drewN q ∧ Hid (∀ j, j < k → P.getD j default = Q.getD j default)) (fun iv _ => n - (intOf iv).toNat)
    case atStart => exact ⟨0, 0, Nat.zero_le _, rfl, rfl, Lib.hid (fun j hj => by omega)⟩
    case round =>
      obtain ⟨k, q, hk, rfl, rfl, HA⟩ := hrel
      by_cases hlt : k < n
      · obtain ⟨g1, o1, e1, _, d1⟩ := srcT_at R1.out k hlt
        obtain ⟨g2, o2, e2, _, d2⟩ := srcT_at R2.out k hlt
        obtain ⟨x, hx⟩ : ∃ x, P.getD k default = x := ⟨_, rfl⟩
        obtain ⟨y, hy⟩ : ∃ y, Q.getD k default = y := ⟨_, rfl⟩
        rw [hx] at d1
        rw [hy] at d2
        have HX := Lib.hid hx
        have HY := Lib.hid hy
        subst e1 e2
        clear hx hy
        by_cases hxy : x = y
        · subst hxy
          have HA2 : Hid (∀ j, j < k + 1 → P.getD j default = Q.getD j default) := Lib.hid (fun j hj => by
            by_cases e : j = k
            · subst e; rw [HX.out, HY.out]
            · exact HA.out j (by omega))
          go_wp2
          go_quiet (fail)
          go_wp2
          go_roundw
          case rel => exact ⟨k + 1, _, by omega, by go_num, rfl, HA2⟩
          case measure => (simp [intOf]; try omega)
        · have i1 := text_neB hxy
          have i2 : (x.toList != y.toList) = true := by simp only [bne, i1]; rfl
          have i3 := text_ne hxy
          have HE : Hid (b = false) := Lib.hid (by
            cases b
            · rfl
            · exact absurd (by rw [← HX.out, ← HY.out, HG.out.1 rfl]) hxy)
          clear hxy
          go_wp2
          go_quiet (fail)
          go_wp2
          go_ret
          exact ⟨by rw [HE.out]; rfl, _, by rw [World.drewN_drewN]⟩
      · obtain rfl : k = n := by omega
        have HE : Hid (b = true) := Lib.hid (HG.out.2 (texts_eq HP.out HQ.out HA.out))
        go_wp2
        go_ret
        exact ⟨by rw [HE.out]; rfl, _, rfl⟩
  · have e1 : ((n : Int) == (m : Int)) = false := by simp; omega
    have e2 : ((n : Int) != (m : Int)) = true := by simp only [bne, e1]; rfl
    have HE : Hid (b = false) := Lib.hid (by
      cases b
      · rfl
      · exact absurd (by rw [← hP, ← hQ, hb.1 rfl]) hnm)
    clear r1 r2 hP hQ hb
    go_enter Tryd.func58, Tryd.ntmps58
    go_wp2
    go_ret
    exact ⟨by rw [HE.out]; rfl, 0, rfl⟩
end Go.Proofs.YtmkchilhnmkhkaaDoor
namespace Go.Proofs.YtmkchilhnmkhkaaDoor
open Go.RowKit Go.Proofs.YtmkchilhnmkhkaaDoor.Parts Go.Proofs.YtmkchilhnmkhkaaDoor.Hexa Go.Proofs.YtmkchilhnmkhkaaDoor.Byt

/-- What is returned owns these texts; nothing else of before is written. -/
def AppPost (base : Nat) (W0 : World) (n : Nat) (xs : List Value) (e : Ending) (w' : World) : Prop :=
  ∃ v, e = .returned v ∧ w'.ownsRow base 9 1 v n xs ∧ Below base W0 w' ∧ base ≤ w'.heap.size

set_option maxRecDepth 100000 in
set_option maxHeartbeats 2000000 in
theorem appendRecs_any (W0 : World) (base : Nat) (v : Value) (n0 : Nat) (xs : List Value) (a : Option Addr) (n c : Nat) (L : List RecR) (w : World) (hB0 : W0.heap.size ≤ base) (hb0 : Below base W0 w) (hbs : base ≤ w.heap.size)
    (hs : SrcRec W0 a n L) (hf : FitRec L n 2000000) (hn : n0 + n ≤ 1000) (hown : w.ownsRow base 9 1 v n0 xs) :
    Calls Tryd.prog 91 #[v, .slice a n c, .func (.func 48) #[] #[]] w (AppPost base W0 (n0 + n) (xs ++ scells (L.map recWordB))) := by
  obtain ⟨i0, hi, hz0, hz1, hz2⟩ := info_parts infoText
  have HS := Lib.hid hs
  have HL := Lib.hid hs.len
  have HF := Lib.hid hf
  have HN := Lib.hid hn
  have HO := Lib.hid hown
  have HB0 := Lib.hid hb0
  have HBS := Lib.hid hbs
  have HBW := Lib.hid hB0
  have hn1 : n ≤ 1000 := by omega
  have hn0 : n0 ≤ 1000 := by omega
  clear hs hf hown hb0 hbs hB0 hn
  go_enter Tryd.func91, Tryd.ntmps91
  go_wp2
  go_loopw [0, 11] (fun u iv wr => ∃ k : Nat, k ≤ n ∧ iv = .int .i64 k ∧ Hid (wr.ownsRow base 9 1 u (n0 + k) (xs ++ scells ((L.take k).map recWordB))) ∧ Hid (Below base W0 wr) ∧ Hid (base ≤ wr.heap.size)) (fun _ iv _ => n - (intOf iv).toNat)
  case atStart => exact ⟨0, Nat.zero_le _, rfl, Lib.hid (by simpa [scells] using HO.out), HB0, HBS⟩
  case round =>
    clear HO HB0 HBS
    obtain ⟨k, hk, rfl, HW, HB, HSZ⟩ := hrel
    by_cases hlt : k < n
    · obtain ⟨g, off, ha, hg, d0, d1, d2⟩ := srcRec_later HS.out HB.out HBW.out k hlt
      obtain ⟨⟨p, q, m⟩, hx⟩ : ∃ x, L.getD k default = x := ⟨_, rfl⟩
      have hm := HF.out k hlt
      rw [hx] at d0 d1 d2 hm
      simp only at d0 d1 d2 hm
      have HX := Lib.hid hx
      have HM := Lib.hid hm
      obtain ⟨T, hT⟩ : ∃ T, recWordB ⟨p, q, m⟩ = T := ⟨_, rfl⟩
      have HT := Lib.hid hT
      have HWN : Hid ((xs ++ scells ((L.take k).map recWordB)) ++ [.string T] = xs ++ scells ((L.take (k + 1)).map recWordB)) := Lib.hid (by
        rw [take_more _ _ _ (by rw [HL.out]; exact hlt), HX.out, HT.out]
        simp [scells])
      have HBX : Hid (Below base W0 (wr.alloc (.cells #[.int .i64 p, .int .i64 q, .string m] 66))) := Lib.hid (HB.out.alloc HSZ.out _)
      have HWX := Lib.hid (HW.out.alloc (.cells #[.int .i64 p, .int .i64 q, .string m] 66))
      have HSX : Hid (base ≤ (wr.alloc (.cells #[.int .i64 p, .int .i64 q, .string m] 66)).heap.size) := Lib.hid (by have := HSZ.out; simp; omega)
      have HN2 : Hid (n0 + k + 1 ≤ 1000) := Lib.hid (by have := HN.out; omega)
      subst ha
      clear hx hm hT
      go_wp2_with (first
        | (go_at_call 48; (with_reducible refine (implRecWord_any p q m _ HM.out).mono ?_); rw [HT.out]; rintro e wa ⟨rfl, hb1⟩
           have HW1 := Lib.hid (own_below HWX.out hb1)
           have BG := Lib.hid (HBX.out.trans (hb1.mono HSX.out))
           have BS : Hid (base ≤ wa.heap.size) := Lib.hid (Nat.le_trans HSX.out hb1.size))
        | (at_builtin; refine wpList_append_own _ rfl (.tmp 15) (.tmp 19) 25 rfl base 9 i0 (.string ⟨#[]⟩) 1 16 Tryd.underlying25 hi hz0 hz1 hz2 rfl (by decide) _ _ _ rfl (HW1.out.alloc _) ⟨wa.heap.size, 0, none⟩ 1 1 [.string T] rfl rfl (World.news_of_block (heap_alloc_new _ _)) (by simp [Value.oneCell']) (by have := HN2.out; unfold maxLen; omega) (by have := HN2.out; omega) (by have := BS.out; simp; omega) ?_; intro v2 wb hown2 hgrow2 hn2))
      have BG3 := Lib.hid ((BG.out.alloc BS.out _).grown hgrow2 (by have := BS.out; simp; omega) (own_block_ge HW1.out))
      have BS3 : Hid (base ≤ wb.heap.size) := Lib.hid (by have h9 := hgrow2.size; have := BS.out; simp at h9; omega)
      rw [HWN.out] at hown2
      have HO2 := Lib.hid hown2
      clear hown2 hgrow2 hn2 HW1 BG BS HB HW
      go_roundw
      case rel => exact ⟨k + 1, by omega, by go_num, HO2, BG3, BS3⟩
      case measure => (simp [intOf]; try omega)
    · obtain rfl : k = n := by omega
      have h9 := HW.out
      rw [List.take_of_length_le (by rw [HL.out]; exact Nat.le_refl _)] at h9
      have HW2 := Lib.hid h9
      clear h9
      go_wp2
      go_ret
      exact ⟨_, rfl, HW2.out, HB.out, HSZ.out⟩

set_option maxRecDepth 100000 in
set_option maxHeartbeats 2000000 in
theorem appendEntrys_any (W0 : World) (base : Nat) (v : Value) (n0 : Nat) (xs : List Value) (a : Option Addr) (n c : Nat) (L : List EntryR) (w : World) (hB0 : W0.heap.size ≤ base) (hb0 : Below base W0 w) (hbs : base ≤ w.heap.size)
    (hs : SrcEntry W0 a n L) (hf : FitEntry L n 2000000) (hn : n0 + n ≤ 1000) (hown : w.ownsRow base 9 1 v n0 xs) :
    Calls Tryd.prog 92 #[v, .slice a n c, .func (.func 49) #[] #[]] w (AppPost base W0 (n0 + n) (xs ++ scells (L.map entryWordB))) := by
  obtain ⟨i0, hi, hz0, hz1, hz2⟩ := info_parts infoText
  have HS := Lib.hid hs
  have HL := Lib.hid hs.len
  have HF := Lib.hid hf
  have HN := Lib.hid hn
  have HO := Lib.hid hown
  have HB0 := Lib.hid hb0
  have HBS := Lib.hid hbs
  have HBW := Lib.hid hB0
  have hn1 : n ≤ 1000 := by omega
  have hn0 : n0 ≤ 1000 := by omega
  clear hs hf hown hb0 hbs hB0 hn
  go_enter Tryd.func92, Tryd.ntmps92
  go_wp2
  go_loopw [0, 11] (fun u iv wr => ∃ k : Nat, k ≤ n ∧ iv = .int .i64 k ∧ Hid (wr.ownsRow base 9 1 u (n0 + k) (xs ++ scells ((L.take k).map entryWordB))) ∧ Hid (Below base W0 wr) ∧ Hid (base ≤ wr.heap.size)) (fun _ iv _ => n - (intOf iv).toNat)
  case atStart => exact ⟨0, Nat.zero_le _, rfl, Lib.hid (by simpa [scells] using HO.out), HB0, HBS⟩
  case round =>
    clear HO HB0 HBS
    obtain ⟨k, hk, rfl, HW, HB, HSZ⟩ := hrel
    by_cases hlt : k < n
    · obtain ⟨g, off, ha, hg, d0, d1⟩ := srcEntry_later HS.out HB.out HBW.out k hlt
      obtain ⟨⟨p, m⟩, hx⟩ : ∃ x, L.getD k default = x := ⟨_, rfl⟩
      have hm := HF.out k hlt
      rw [hx] at d0 d1 hm
      simp only at d0 d1 hm
      have HX := Lib.hid hx
      have HM := Lib.hid hm
      obtain ⟨T, hT⟩ : ∃ T, entryWordB ⟨p, m⟩ = T := ⟨_, rfl⟩
      have HT := Lib.hid hT
      have HWN : Hid ((xs ++ scells ((L.take k).map entryWordB)) ++ [.string T] = xs ++ scells ((L.take (k + 1)).map entryWordB)) := Lib.hid (by
        rw [take_more _ _ _ (by rw [HL.out]; exact hlt), HX.out, HT.out]
        simp [scells])
      have HBX : Hid (Below base W0 (wr.alloc (.cells #[.int .i64 p, .string m] 47))) := Lib.hid (HB.out.alloc HSZ.out _)
      have HWX := Lib.hid (HW.out.alloc (.cells #[.int .i64 p, .string m] 47))
      have HSX : Hid (base ≤ (wr.alloc (.cells #[.int .i64 p, .string m] 47)).heap.size) := Lib.hid (by have := HSZ.out; simp; omega)
      have HN2 : Hid (n0 + k + 1 ≤ 1000) := Lib.hid (by have := HN.out; omega)
      subst ha
      clear hx hm hT
      go_wp2_with (first
        | (go_at_call 49; (with_reducible refine (implEntryWord_any p m _ HM.out).mono ?_); rw [HT.out]; rintro e wa ⟨rfl, hb1⟩
           have HW1 := Lib.hid (own_below HWX.out hb1)
           have BG := Lib.hid (HBX.out.trans (hb1.mono HSX.out))
           have BS : Hid (base ≤ wa.heap.size) := Lib.hid (Nat.le_trans HSX.out hb1.size))
        | (at_builtin; refine wpList_append_own _ rfl (.tmp 15) (.tmp 19) 25 rfl base 9 i0 (.string ⟨#[]⟩) 1 16 Tryd.underlying25 hi hz0 hz1 hz2 rfl (by decide) _ _ _ rfl (HW1.out.alloc _) ⟨wa.heap.size, 0, none⟩ 1 1 [.string T] rfl rfl (World.news_of_block (heap_alloc_new _ _)) (by simp [Value.oneCell']) (by have := HN2.out; unfold maxLen; omega) (by have := HN2.out; omega) (by have := BS.out; simp; omega) ?_; intro v2 wb hown2 hgrow2 hn2))
      have BG3 := Lib.hid ((BG.out.alloc BS.out _).grown hgrow2 (by have := BS.out; simp; omega) (own_block_ge HW1.out))
      have BS3 : Hid (base ≤ wb.heap.size) := Lib.hid (by have h9 := hgrow2.size; have := BS.out; simp at h9; omega)
      rw [HWN.out] at hown2
      have HO2 := Lib.hid hown2
      clear hown2 hgrow2 hn2 HW1 BG BS HB HW
      go_roundw
      case rel => exact ⟨k + 1, by omega, by go_num, HO2, BG3, BS3⟩
      case measure => (simp [intOf]; try omega)
    · obtain rfl : k = n := by omega
      have h9 := HW.out
      rw [List.take_of_length_le (by rw [HL.out]; exact Nat.le_refl _)] at h9
      have HW2 := Lib.hid h9
      clear h9
      go_wp2
      go_ret
      exact ⟨_, rfl, HW2.out, HB.out, HSZ.out⟩

end Go.Proofs.YtmkchilhnmkhkaaDoor
namespace Go.Proofs.YtmkchilhnmkhkaaDoor
open Go.RowKit Go.Proofs.YtmkchilhnmkhkaaDoor.Parts Go.Proofs.YtmkchilhnmkhkaaDoor.Hexa Go.Proofs.YtmkchilhnmkhkaaDoor.Byt

theorem implPages_any (n : Int) (w : World) (h0 : -9223372036854775808 ≤ n) (h1 : n ≤ 9223372036854775807) : Calls Tryd.prog 46 #[.int .i64 n] w fun e w' => e = .returned (.int .i64 (pagesZ n)) ∧ w' = w := by
  by_cases h : n ≤ 0
  · have HE : Hid (pagesZ n = 0) := Lib.hid (if_pos h)
    go_enter Tryd.func46, Tryd.ntmps46
    go_wp2
    go_ret
    exact ⟨by rw [HE.out]; rfl, rfl⟩
  · have HE : Hid (pagesZ n = (n - 1) / 32 + 1) := Lib.hid (if_neg h)
    have hp : 1 ≤ n := by omega
    have hd : (n - 1) / 32 ≤ 288230376151711743 := by omega
    have hd0 : 0 ≤ (n - 1) / 32 := by omega
    go_enter Tryd.func46, Tryd.ntmps46
    go_wp2
    go_ret
    exact ⟨by rw [HE.out]; rfl, rfl⟩

end Go.Proofs.YtmkchilhnmkhkaaDoor
namespace Go.Proofs.YtmkchilhnmkhkaaDoor
open Go.RowKit Go.Proofs.YtmkchilhnmkhkaaDoor.Parts Go.Proofs.YtmkchilhnmkhkaaDoor.Hexa Go.Proofs.YtmkchilhnmkhkaaDoor.Byt

/-- Which pages the first k records have. -/
def takenB (R : List RecR) (k q : Nat) : Bool := (List.range k).any fun i => (R.getD i default).f0 == (q : Int)
theorem takenB_iff {R : List RecR} {k q : Nat} : takenB R k q = true ↔ ∃ i, i < k ∧ (R.getD i default).f0 = (q : Int) := by simp [takenB]
structure TakenTo (R : List RecR) (k : Nat) (cs : Array Value) : Prop where
  size : cs.size = 13
  cell : ∀ q, q < 13 → cs[q]? = some (.bool (takenB R k q))
theorem TakenTo.zero (R : List RecR) : TakenTo R 0 #[.bool false, .bool false, .bool false, .bool false, .bool false, .bool false, .bool false, .bool false, .bool false, .bool false, .bool false, .bool false, .bool false] :=
  ⟨rfl, fun q hq => by
    match q, hq with
    | 0, _ => rfl
    | 1, _ => rfl
    | 2, _ => rfl
    | 3, _ => rfl
    | 4, _ => rfl
    | 5, _ => rfl
    | 6, _ => rfl
    | 7, _ => rfl
    | 8, _ => rfl
    | 9, _ => rfl
    | 10, _ => rfl
    | 11, _ => rfl
    | 12, _ => rfl
    | q + 13, h => omega⟩
theorem takenB_next (R : List RecR) (k q p : Nat) (hp : (R.getD k default).f0 = (p : Int)) : takenB R (k + 1) q = (takenB R k q || decide (q = p)) := by
  unfold takenB
  rw [List.range_succ, List.any_append]
  simp only [List.any_cons, List.any_nil, Bool.or_false, hp]
  congr 1
  by_cases h : q = p
  · subst h; simp
  · simp [h]; omega
theorem TakenTo.next {R : List RecR} {k p : Nat} {cs : Array Value} (h : TakenTo R k cs) (hp : (R.getD k default).f0 = (p : Int)) (h12 : p < 13) : TakenTo R (k + 1) (cs.setIfInBounds p (.bool true)) :=
  ⟨by simp [h.size], fun q hq => by
    rw [takenB_next R k q p hp, Array.getElem?_setIfInBounds]
    by_cases e : p = q
    · subst e; simp [h.size, h12]
    · rw [if_neg e, h.cell q hq]
      have : ¬ q = p := fun x => e x.symm
      simp [this]⟩

section
variable (sz : Int) (key : ByteArray) (aR : Option Addr) (nR cR : Nat) (w : World) (R : List RecR)

set_option maxRecDepth 100000 in
set_option maxHeartbeats 1000000 in
theorem implFile_no (hz : -9223372036854775808 ≤ sz ∧ sz ≤ 9223372036854775807) (hno : ¬ ((0 ≤ sz ∧ sz ≤ 128) ∧ key.size = 8 ∧ (nR : Int) = pagesZ sz)) :
    Calls Tryd.prog 97 #[.agg #[.int .i64 sz, .string key, .slice aR nR cR]] w (SaysB false w) := by
  have HZ := Lib.hid hz
  have B0 := Lib.hid (below_bk w (.cells #[.int .i64 sz, .string key, .slice aR nR cR] 100))
  clear hz
  by_cases h1 : 0 ≤ sz ∧ sz ≤ 128
  · have H1 := Lib.hid h1
    by_cases h2 : key.size = 8
    · have e2 : ((key.size : Int) != 8) = false := by simp; omega
      have h3 : ¬ (nR : Int) = pagesZ sz := fun e => hno ⟨h1, h2, e⟩
      obtain ⟨p, hp⟩ : ∃ p, pagesZ sz = p := ⟨_, rfl⟩
      have HQ : Hid (∀ W : World, Calls Tryd.prog 46 #[.int .i64 sz] W fun e w' => e = .returned (.int .i64 p) ∧ w' = W) := Lib.hid (fun W => by
        rw [← hp]; exact implPages_any sz W HZ.out.1 HZ.out.2)
      rw [hp] at h3
      have e3 : ((nR : Int) != p) = true := by simpa using h3
      clear hno h1 h3 hp
      go_enter Tryd.func97, Tryd.ntmps97
      go_wp2
      go_quiet (first
        | (go_at_call 96; exact Calls.quiet_of_same (implIn_yes _ H1.out))
        | (go_at_call 46; exact Calls.quiet_of_same (HQ.out _)))
      go_wp2
      go_ret
      exact ⟨rfl, below_drewsN B0.out _⟩
    · have e2 : ((key.size : Int) != 8) = true := by have : ¬ ((key.size : Int) = 8) := by omega
                                                     simpa using this
      clear hno h1 h2
      go_enter Tryd.func97, Tryd.ntmps97
      go_wp2
      go_quiet ((go_at_call 96; exact Calls.quiet_of_same (implIn_yes _ H1.out)))
      go_wp2
      go_ret
      exact ⟨rfl, below_drewsN B0.out _⟩
  · have H1 := Lib.hid h1
    clear hno h1
    go_enter Tryd.func97, Tryd.ntmps97
    go_wp2
    go_quiet ((go_at_call 96; exact Calls.quiet_of_same (implIn_no _ H1.out)))
    go_wp2
    go_ret
    exact ⟨rfl, below_drewsN B0.out _⟩

set_option maxRecDepth 100000 in
set_option maxHeartbeats 2000000 in
theorem implFile_yes (h1 : 0 ≤ sz ∧ sz ≤ 128) (h2 : key.size = 8) (h3 : (nR : Int) = pagesZ sz) (hs : SrcRec w aR nR R) (hf : FitRec R nR 2000000) (b : Bool) (hb : b = true ↔ RecsOk R nR) :
    Calls Tryd.prog 97 #[.agg #[.int .i64 sz, .string key, .slice aR nR cR]] w (SaysB b w) := by
  have H1 := Lib.hid h1
  have HF := Lib.hid hf
  have HG := Lib.hid hb
  have B0 := Lib.hid (below_bk w (.cells #[.int .i64 sz, .string key, .slice aR nR cR] 100))
  have HS := Lib.hid hs
  have N0 : Hid ((w.alloc (.cells #[.int .i64 sz, .string key, .slice aR nR cR] 100)).heap.size = w.heap.size + 1) := Lib.hid (by simp)
  have e2 : ((key.size : Int) != 8) = false := by simp; omega
  have hn4 : nR ≤ 4 := by unfold pagesZ at h3; split at h3 <;> omega
  have HQ : Hid (∀ W : World, Calls Tryd.prog 46 #[.int .i64 sz] W fun e w' => e = .returned (.int .i64 nR) ∧ w' = W) := Lib.hid (fun W => by
    rw [h3]; exact implPages_any sz W (by omega) (by omega))
  clear h1 h2 h3 hs hf hb
  go_enter Tryd.func97, Tryd.ntmps97
  go_wp2
  go_quiet (first
    | (go_at_call 96; exact Calls.quiet_of_same (implIn_yes _ H1.out))
    | (go_at_call 46; exact Calls.quiet_of_same (HQ.out _)))
  go_wp2
  go_loopw [28] (fun iv wr => ∃ (k : Nat) (cs : Array Value), k ≤ nR ∧ iv = .int .i64 k ∧ Hid (RecsOk R k) ∧ Hid (TakenTo R k cs) ∧ Hid (Bk wr (w.heap.size + 1) cs 170) ∧ Hid (Below w.heap.size w wr)) (fun iv _ => nR - (intOf iv).toNat)
  case atStart =>
    exact ⟨0, _, Nat.zero_le _, rfl, Lib.hid (fun j hj => by omega), Lib.hid (TakenTo.zero R), Lib.hid (by rw [← N0.out]; exact Bk.alloc _ _ _), Lib.hid ((below_drewsN B0.out _).alloc B0.out.size _)⟩
  case round =>
    obtain ⟨k, cs, hk, rfl, HA, HT0, HK, HB⟩ := hrel
    by_cases hlt : k < nR
    · obtain ⟨g, off, ha, hg, d0, d1, d2⟩ := srcRec_later HS.out HB.out (Nat.le_refl _) k hlt
      obtain ⟨⟨p, q, m⟩, hx⟩ : ∃ x, R.getD k default = x := ⟨_, rfl⟩
      have hm := HF.out k hlt
      rw [hx] at d0 d1 d2 hm
      simp only at d0 d1 d2 hm
      have HX := Lib.hid hx
      have HM := Lib.hid hm
      have X0 := Lib.hid (Bk.alloc wr #[.int .i64 p, .int .i64 q, .string m] 66)
      have HKa := Lib.hid (HK.out.later (below_bk wr (.cells #[.int .i64 p, .int .i64 q, .string m] 66)))
      have HBa : Hid (Below w.heap.size w (wr.alloc (.cells #[.int .i64 p, .int .i64 q, .string m] 66))) := Lib.hid (HB.out.alloc HB.out.size _)
      have HNa : Hid (w.heap.size + 1 < wr.heap.size) := Lib.hid HK.out.lt
      subst ha
      clear hx hm
      by_cases i1 : RecOk ⟨p, q, m⟩
      · have hT8 := recWord_size i1
        have I1 := Lib.hid i1
        have hp1 : 1 ≤ p ∧ p ≤ 12 := i1.1
        obtain ⟨r, rfl⟩ : ∃ r : Nat, p = (r : Int) := ⟨p.toNat, by omega⟩
        have hr0 : 0 < r := by omega
        have hr12 : r < 13 := by omega
        obtain ⟨T, hT⟩ : ∃ T, recWordB ⟨(r : Int), q, m⟩ = T := ⟨_, rfl⟩
        have HT := Lib.hid hT
        rw [hT] at hT8
        have e1 : (T.toList == []) = false := text_full T (by omega)
        clear i1 hT hT8 hp1
        go_wp2_with fail
        refine (implRecWord_any (r : Int) q m _ HM.out).mono ?_
        rw [HT.out]
        rintro e w1 ⟨rfl, hb1⟩
        have X1 := Lib.hid (X0.out.later hb1)
        have K1 := Lib.hid (HKa.out.later hb1)
        have B1 : Hid (Below w.heap.size w w1) := Lib.hid (HBa.out.trans (hb1.mono HBa.out.size))
        have x0 := X1.out.cell (j := 0) rfl
        have f1 := K1.out.fr (o := r)
        have S1 : Hid (Bk (w1.setCell ⟨w.heap.size + 1, r, none⟩ (.bool true)) (w.heap.size + 1) (cs.setIfInBounds r (.bool true)) 170) := Lib.hid (K1.out.set r (.bool true))
        have B2 : Hid (Below w.heap.size w (w1.setCell ⟨w.heap.size + 1, r, none⟩ (.bool true))) := Lib.hid (B1.out.setCell (by simp) _)
        have HT2 := Lib.hid (HT0.out.next (p := r) (by rw [HX.out]) hr12)
        clear hb1 d0 d1 d2 HB HK HKa HBa
        by_cases i2 : takenB R k r = true
        · have k1 : w1.cell? ⟨w.heap.size + 1, r, none⟩ = some (.bool true) := by
            have h9 := K1.out.cell (HT0.out.cell r hr12)
            rw [i2] at h9; exact h9
          obtain rfl : b = false := bool_no HG.out (fun x => by
            obtain ⟨i, hi, he⟩ := takenB_iff.1 i2
            exact (x k hlt).2 i hi (by rw [he, HX.out]))
          clear i2
          go_wp2
          go_ret
          exact ⟨rfl, B1.out⟩
        · have k1 : w1.cell? ⟨w.heap.size + 1, r, none⟩ = some (.bool false) := by
            have h9 := K1.out.cell (HT0.out.cell r hr12)
            rw [show takenB R k r = false by simpa using i2] at h9; exact h9
          have HA2 : Hid (RecsOk R (k + 1)) := Lib.hid (recsOk_step HA.out (by rw [HX.out]; exact I1.out) (fun j hj e => i2 (takenB_iff.2 ⟨j, hj, by rw [e, HX.out]⟩)))
          clear i2
          go_wp2
          clear x0 f1 k1
          go_roundw
          case rel => exact ⟨k + 1, _, by omega, by go_num, HA2, HT2, S1, B2⟩
          case measure => (simp [intOf]; try omega)
      · have HT := Lib.hid (recWordB_no i1)
        obtain rfl : b = false := bool_no HG.out (fun x => i1 (by have h9 := (x k hlt).1; rw [HX.out] at h9; exact h9))
        clear i1
        go_wp2_with fail
        refine (implRecWord_any p q m _ HM.out).mono ?_
        rw [HT.out]
        rintro e w1 ⟨rfl, hb1⟩
        have B1 : Hid (Below w.heap.size w w1) := Lib.hid (HBa.out.trans (hb1.mono HBa.out.size))
        clear hb1 d0 d1 d2 HB HK HKa HBa
        go_wp2
        go_ret
        exact ⟨rfl, B1.out⟩
    · obtain rfl : k = nR := by omega
      obtain rfl : b = true := HG.out.2 HA.out
      go_wp2
      go_ret
      exact ⟨rfl, HB.out⟩
theorem implFile_any (hz : -9223372036854775808 ≤ sz ∧ sz ≤ 9223372036854775807) (hs : SrcRec w aR nR R) (hf : FitRec R nR 2000000) (b : Bool) (hb : b = true ↔ ((0 ≤ sz ∧ sz ≤ 128) ∧ key.size = 8 ∧ (nR : Int) = pagesZ sz ∧ RecsOk R nR)) :
    Calls Tryd.prog 97 #[.agg #[.int .i64 sz, .string key, .slice aR nR cR]] w (SaysB b w) := by
  by_cases h : (0 ≤ sz ∧ sz ≤ 128) ∧ key.size = 8 ∧ (nR : Int) = pagesZ sz
  · exact implFile_yes sz key aR nR cR w R h.1 h.2.1 h.2.2 hs hf b ⟨fun e => (hb.1 e).2.2.2, fun e => hb.2 ⟨h.1, h.2.1, h.2.2, e⟩⟩
  · obtain rfl : b = false := bool_no hb (fun x => h ⟨x.1, x.2.1, x.2.2.1⟩)
    exact implFile_no sz key aR nR cR w hz h
end
end Go.Proofs.YtmkchilhnmkhkaaDoor
namespace Go.Proofs.YtmkchilhnmkhkaaDoor
open Go.RowKit Go.Proofs.YtmkchilhnmkhkaaDoor.Parts Go.Proofs.YtmkchilhnmkhkaaDoor.Hexa Go.Proofs.YtmkchilhnmkhkaaDoor.Byt

theorem bytes_tri : ∀ a b : List UInt8, (Op.bytesLess b a = true ∧ Op.bytesLess a b = false ∧ (a == b) = false) ∨ (Op.bytesLess b a = false ∧ Op.bytesLess a b = true) ∨ (Op.bytesLess b a = false ∧ Op.bytesLess a b = false ∧ (a == b) = true)
  | [], [] => .inr (.inr ⟨rfl, rfl, rfl⟩)
  | [], y :: s => .inr (.inl ⟨rfl, rfl⟩)
  | x :: r, [] => .inl ⟨rfl, rfl, rfl⟩
  | x :: r, y :: s => by
    have ih := bytes_tri r s
    simp only [Op.bytesLess]
    by_cases h1 : x = y
    · subst h1
      have hl : ¬ (x < x) := UInt8.lt_irrefl x
      simpa [hl] using ih
    · rcases UInt8.lt_or_lt_of_ne h1 with h | h
      · have h2 : ¬ (y < x) := UInt8.not_lt.2 (UInt8.le_of_lt h)
        have h3 : ¬ (y = x) := fun e => h1 e.symm
        simp [h, h2, h1, h3]
      · have h2 : ¬ (x < y) := UInt8.not_lt.2 (UInt8.le_of_lt h)
        simp [h, h2, h1]
theorem text_tri (m u : ByteArray) : (textLt u m = true ∧ Op.bytesLess m.toList u.toList = false ∧ (m.toList == u.toList) = false) ∨ (textLt u m = false ∧ Op.bytesLess m.toList u.toList = true) ∨ (textLt u m = false ∧ Op.bytesLess m.toList u.toList = false ∧ (m.toList == u.toList) = true) :=
  bytes_tri m.toList u.toList
section
variable (aE : Option Addr) (nE cE : Nat) (w : World) (E : List EntryR)

set_option maxRecDepth 100000 in
set_option maxHeartbeats 2000000 in
theorem implDir_yes (h6 : nE ≤ 6) (hs : SrcEntry w aE nE E) (hf : FitEntry E nE 2000000) (b : Bool) (hb : b = true ↔ EntsOk E nE) :
    Calls Tryd.prog 98 #[.agg #[.slice aE nE cE]] w (SaysB b w) := by
  have HF := Lib.hid hf
  have HG := Lib.hid hb
  have B0 := Lib.hid (below_bk w (.cells #[.slice aE nE cE] 103))
  have HS := Lib.hid hs
  have e6 : decide ((6 : Int) < (nE : Int)) = false := by simp; omega
  clear hs hf hb
  go_enter Tryd.func98, Tryd.ntmps98
  go_wp2
  go_loopw [13, 3] (fun iv sv wr => ∃ (k : Nat) (u : ByteArray), k ≤ nE ∧ iv = .int .i64 k ∧ sv = .string u ∧ Hid (u = prevT E k) ∧ Hid (EntsOk E k) ∧ Hid (Below w.heap.size w wr)) (fun iv _ _ => nE - (intOf iv).toNat)
  case atStart => exact ⟨0, _, Nat.zero_le _, rfl, rfl, Lib.hid rfl, Lib.hid (fun j hj => by omega), B0⟩
  case round =>
    obtain ⟨k, u, hk, rfl, rfl, HU, HA, HB⟩ := hrel
    by_cases hlt : k < nE
    · obtain ⟨g, off, ha, hg, d0, d1⟩ := srcEntry_later HS.out HB.out (Nat.le_refl _) k hlt
      obtain ⟨⟨p, m⟩, hx⟩ : ∃ x, E.getD k default = x := ⟨_, rfl⟩
      have hm := HF.out k hlt
      rw [hx] at d0 d1 hm
      simp only at d0 d1 hm
      have HX := Lib.hid hx
      have HM := Lib.hid hm
      have X0 := Lib.hid (Bk.alloc wr #[.int .i64 p, .string m] 47)
      have HBa : Hid (Below w.heap.size w (wr.alloc (.cells #[.int .i64 p, .string m] 47))) := Lib.hid (HB.out.alloc HB.out.size _)
      subst ha
      clear hx hm
      by_cases i1 : EntryOk ⟨p, m⟩
      · have hT8 := entryWord_size i1
        have I1 := Lib.hid i1
        obtain ⟨T, hT⟩ : ∃ T, entryWordB ⟨p, m⟩ = T := ⟨_, rfl⟩
        have HT := Lib.hid hT
        rw [hT] at hT8
        have e1 : (T.toList == []) = false := text_full T (by omega)
        clear i1 hT hT8
        go_wp2_with fail
        refine (implEntryWord_any p m _ HM.out).mono ?_
        rw [HT.out]
        rintro e w1 ⟨rfl, hb1⟩
        have X1 := Lib.hid (X0.out.later hb1)
        have B1 : Hid (Below w.heap.size w w1) := Lib.hid (HBa.out.trans (hb1.mono HBa.out.size))
        have x1 := X1.out.cell (j := 1) rfl
        have HU2 : Hid (m = prevT E (k + 1)) := Lib.hid (by rw [prevT_next, HX.out])
        clear hb1 d0 d1 HB HBa
        rcases text_tri m u with ⟨i2, i3, i4⟩ | ⟨i2, i3⟩ | ⟨i2, i3, i4⟩
        · have HA2 : Hid (EntsOk E (k + 1)) := Lib.hid (entsOk_on HA.out (by rw [HX.out]; exact I1.out) (by rw [HX.out, ← HU.out]; exact i2))
          clear i2
          go_wp2
          clear x1 i3 i4
          go_roundw
          case rel => exact ⟨k + 1, _, by omega, by go_num, rfl, HU2, HA2, B1⟩
          case measure => (simp [intOf]; try omega)
        · obtain rfl : b = false := bool_no HG.out (fun x => by have h9 := entsOk_prev x hlt; rw [HX.out, ← HU.out] at h9; change textLt u m = true at h9; rw [i2] at h9; cases h9)
          clear i2
          go_wp2
          go_ret
          exact ⟨rfl, B1.out⟩
        · obtain rfl : b = false := bool_no HG.out (fun x => by have h9 := entsOk_prev x hlt; rw [HX.out, ← HU.out] at h9; change textLt u m = true at h9; rw [i2] at h9; cases h9)
          clear i2
          go_wp2
          go_ret
          exact ⟨rfl, B1.out⟩
      · have HT := Lib.hid (entryWordB_no i1)
        obtain rfl : b = false := bool_no HG.out (fun x => i1 (by have h9 := (x k hlt).1; rw [HX.out] at h9; exact h9))
        clear i1
        go_wp2_with fail
        refine (implEntryWord_any p m _ HM.out).mono ?_
        rw [HT.out]
        rintro e w1 ⟨rfl, hb1⟩
        have B1 : Hid (Below w.heap.size w w1) := Lib.hid (HBa.out.trans (hb1.mono HBa.out.size))
        clear hb1 d0 d1 HB HBa
        go_wp2
        go_ret
        exact ⟨rfl, B1.out⟩
    · obtain rfl : k = nE := by omega
      obtain rfl : b = true := HG.out.2 HA.out
      go_wp2
      go_ret
      exact ⟨rfl, HB.out⟩
theorem implDir_any (hn : nE ≤ 9223372036854775807) (hs : SrcEntry w aE nE E) (hf : FitEntry E nE 2000000) (b : Bool) (hb : b = true ↔ (nE ≤ 6 ∧ EntsOk E nE)) :
    Calls Tryd.prog 98 #[.agg #[.slice aE nE cE]] w (SaysB b w) := by
  by_cases h : nE ≤ 6
  · exact implDir_yes aE nE cE w E h hs hf b ⟨fun e => (hb.1 e).2, fun e => hb.2 ⟨h, e⟩⟩
  · obtain rfl : b = false := bool_no hb (fun x => h x.1)
    have B0 := Lib.hid (below_bk w (.cells #[.slice aE nE cE] 103))
    clear hb hs hf
    have h7 : (6 : Int) < (nE : Int) := by omega
    go_enter Tryd.func98, Tryd.ntmps98
    go_wp2
    go_ret
    exact ⟨rfl, B0.out⟩
end
end Go.Proofs.YtmkchilhnmkhkaaDoor
