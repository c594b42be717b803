/- Merged texts: NameImpl, EntImpl, TrimImpl, ReadEntImpl, LeadImpl, HeadImpl, AppendImpl, PagesImpl, FileImpl, PrevMath, DirImpl, BodyImpl, Assert, InoImpl, ZeroImpl. -/
import Derived.Test.YtkfkjcadmdcbnaaGreatDoorPZF
import Derived.WalkKit
import Derived.WalkSpells
import Derived.Lib.Hide
import Derived.Deep.DeepCutAuto
namespace Go.Proofs.YtkfkjcadmdcbnaaGreatDoor
open Go.RowKit

set_option maxRecDepth 100000 in
set_option maxHeartbeats 1000000 in
theorem implNameByte_any (n : Int) (w : World) :
    Calls Tryz.prog 244 #[.int .u8 n] w fun e w' => e = .returned (.bool (decide ((97 ≤ n ∧ n ≤ 122) ∨ (48 ≤ n ∧ n ≤ 57)))) ∧ w' = w := by
  by_cases h1 : 97 ≤ n <;> by_cases h2 : n ≤ 122 <;> by_cases h3 : 48 ≤ n <;> by_cases h4 : n ≤ 57
  all_goals
    go_enter Tryz.func244, Tryz.ntmps244
    go_wp2
    all_goals go_ret
    all_goals exact ⟨by simp [h1, h2, h3, h4], rfl⟩
theorem implNameByte_yes {b : UInt8} (w : World) (h : NameC b) :
    Calls Tryz.prog 244 #[.int .u8 (b.toNat : Int)] w fun e w' => e = .returned (.bool true) ∧ w' = w :=
  (implNameByte_any (b.toNat : Int) w).mono fun _ _ ⟨he, hw⟩ => ⟨by rw [he, decide_eq_true (by rcases h with h | h <;> omega)], hw⟩
theorem implNameByte_no {b : UInt8} (w : World) (h : ¬ NameC b) :
    Calls Tryz.prog 244 #[.int .u8 (b.toNat : Int)] w fun e w' => e = .returned (.bool false) ∧ w' = w :=
  (implNameByte_any (b.toNat : Int) w).mono fun _ _ ⟨he, hw⟩ => ⟨by rw [he, decide_eq_false (fun x => h (by rcases x with x | x; exact .inl (by omega); exact .inr (by omega)))], hw⟩

/-- Every byte of it may stand in a name. -/
def nameBytes (s : ByteArray) : Bool := decide (∀ b ∈ s.data.toList, NameC b)
theorem nameBytes_yes {s : ByteArray} (h : ∀ j (hj : j < s.size), NameC s[j]) : nameBytes s = true := decide_eq_true (fun b hb => by
  obtain ⟨j, hj, rfl⟩ := List.mem_iff_getElem.1 hb
  have hj' : j < s.size := by simpa using hj
  exact h j hj')
theorem nameBytes_no {s : ByteArray} (j : Nat) (hj : j < s.size) (h : ¬ NameC s[j]) : nameBytes s = false := decide_eq_false (fun h2 => h (h2 _ (by
  rw [show s[j] = s.data.toList[j]'(by simpa using hj) from rfl]
  exact List.getElem_mem _)))
theorem nameB_split (s : ByteArray) : nameB s = (decide (1 ≤ s.size ∧ s.size ≤ 7) && nameBytes s) := by
  unfold nameB nameBytes NameR
  by_cases h1 : 1 ≤ s.size ∧ s.size ≤ 7 <;> simp [h1]

set_option maxRecDepth 100000 in
set_option maxHeartbeats 1000000 in
theorem implNameBytes_any (s : ByteArray) (w : World) (hs : s.size ≤ 2000000) :
    Calls Tryz.prog 202 #[.string s] w fun e w' => e = .returned (.bool (nameBytes s)) ∧ w' = w := by
  go_enter Tryz.func202, Tryz.ntmps202
  go_wp2
  go_loop [6] (fun i => ∃ k : Nat, k ≤ s.size ∧ i = .int .i64 k ∧ Hid (∀ j (hj : j < s.size), j < k → NameC s[j])) (fun i => s.size - (intOf i).toNat)
  case atStart => exact ⟨0, Nat.zero_le _, rfl, Lib.hid (fun j hj h => by omega)⟩
  case round =>
    obtain ⟨k, hk, rfl, HA⟩ := hrel
    by_cases hlt : k < s.size
    · obtain ⟨b, hb⟩ : ∃ b, s[k]'hlt = b := ⟨_, rfl⟩
      have hb255 := b.toNat_lt
      have HB := Lib.hid hb
      by_cases h1 : NameC b
      · have HR := Lib.hid h1
        have HA2 : Hid (∀ j (hj : j < s.size), j < k + 1 → NameC s[j]) := Lib.hid (fun j hj h => by
          by_cases e : j = k
          · subst e; rw [HB.out]; exact HR.out
          · exact HA.out j hj (by omega))
        clear h1
        go_wp2_with ((with_reducible refine (implNameByte_yes _ HR.out).mono ?_); rintro e w1 ⟨rfl, rfl⟩)
        go_round
        case rel => exact ⟨k + 1, by omega, by go_num, HA2⟩
        case measure => (simp [intOf]; try omega)
      · have HR := Lib.hid h1
        have HN : Hid (nameBytes s = false) := Lib.hid (nameBytes_no k hlt (by rw [hb]; exact h1))
        clear h1
        go_wp2_with ((with_reducible refine (implNameByte_no _ HR.out).mono ?_); rintro e w1 ⟨rfl, rfl⟩)
        go_ret
        exact ⟨by rw [HN.out]; rfl, rfl⟩
    · obtain rfl : k = s.size := by omega
      have HN : Hid (nameBytes s = true) := Lib.hid (nameBytes_yes (fun j hj => HA.out j hj hj))
      go_wp2
      go_ret
      exact ⟨by rw [HN.out]; rfl, rfl⟩
set_option maxRecDepth 100000 in
set_option maxHeartbeats 1000000 in
theorem implName_any (s : ByteArray) (w : World) (hs : s.size ≤ 2000000) :
    Calls Tryz.prog 233 #[.string s] w fun e w' => e = .returned (.bool (nameB s)) ∧ w' = w := by
  by_cases hl : (1 : Int) ≤ (s.size : Int) ∧ (s.size : Int) ≤ 7
  · have HL := Lib.hid hl
    have HN : Hid (nameBytes s = nameB s) := Lib.hid (by rw [nameB_split, decide_eq_true (show 1 ≤ s.size ∧ s.size ≤ 7 by omega)]; rfl)
    clear hl
    go_enter Tryz.func233, Tryz.ntmps233
    go_wp2_with (first
      | ((with_reducible refine (implIn_yes _ HL.out).mono ?_); rintro e w1 ⟨rfl, rfl⟩)
      | ((with_reducible refine (implNameBytes_any s _ hs).mono ?_); rintro e w1 ⟨rfl, rfl⟩))
    go_ret
    exact ⟨by rw [HN.out]; rfl, rfl⟩
  · have HL := Lib.hid hl
    have HN : Hid (nameB s = false) := Lib.hid (nameB_no (fun h => hl (by have := h.1; omega)))
    clear hl
    go_enter Tryz.func233, Tryz.ntmps233
    go_wp2_with ((with_reducible refine (implIn_no _ HL.out).mono ?_); rintro e w1 ⟨rfl, rfl⟩)
    go_ret
    exact ⟨by rw [HN.out]; rfl, rfl⟩
end Go.Proofs.YtkfkjcadmdcbnaaGreatDoor
namespace Go.Proofs.YtkfkjcadmdcbnaaGreatDoor
open Go.RowKit Go.Proofs.YtkfkjcadmdcbnaaGreatDoor.Parts Go.Proofs.YtkfkjcadmdcbnaaGreatDoor.Hexa Go.Proofs.YtkfkjcadmdcbnaaGreatDoor.Byt

set_option maxRecDepth 100000 in
set_option maxHeartbeats 1000000 in
theorem implEntryWord_no (p : Int) (m : ByteArray) (w : World) (hm : m.size ≤ 2000000) (h : ¬ EntryOk ⟨p, m⟩) :
    Calls Tryz.prog 186 #[.agg #[.int .i64 p, .string m]] w (SaysT ⟨#[]⟩ w) := by
  by_cases h0 : 1 ≤ p ∧ p ≤ 5
  · have H0 := Lib.hid h0
    have h2 : ¬ NameR m := fun e => h ⟨h0, e⟩
    have HN := Lib.hid (nameB_no h2)
    clear h0 h h2
    go_enter Tryz.func186, Tryz.ntmps186
    go_wp2_with (first | ((with_reducible refine (implIn_yes _ H0.out).mono ?_); rintro e w1 ⟨rfl, rfl⟩) | (go_at_call 233; refine (implName_any m _ hm).mono ?_; rw [HN.out]; rintro e w1 ⟨rfl, rfl⟩))
    go_ret
    exact ⟨rfl, below_bk w _⟩
  · have H0 := Lib.hid h0
    clear h0 h
    go_enter Tryz.func186, Tryz.ntmps186
    go_wp2_with ((with_reducible refine (implIn_no _ H0.out).mono ?_); rintro e w1 ⟨rfl, rfl⟩)
    go_ret
    exact ⟨rfl, below_bk w _⟩

set_option maxRecDepth 100000 in
set_option maxHeartbeats 1000000 in
theorem implEntryWord_yes (p : Int) (m : ByteArray) (w : World) (h : EntryOk ⟨p, m⟩) :
    Calls Tryz.prog 186 #[.agg #[.int .i64 p, .string m]] w (SaysT (entryWordB ⟨p, m⟩) w) := by
  have HE := Lib.hid (entryWordB_yes h)
  obtain ⟨h0, h1⟩ := h
  have H0 : Hid (1 ≤ p ∧ p ≤ 5) := Lib.hid h0
  have HN := Lib.hid (nameB_yes h1)
  have hm : m.size ≤ 7 := h1.1.2
  have T0 := Lib.hid (Bk.alloc w #[.int .i64 p, .string m] 143)
  have B0 := Lib.hid (below_bk w (.cells #[.int .i64 p, .string m] 143))
  have hA : (numTextB p 1).size = 1 := numText_size (k := 1) (by omega) (by have := H0.out.1; omega) (by have := H0.out.2; omega)
  obtain ⟨A, hAe⟩ : ∃ A, numTextB p 1 = A := ⟨_, rfl⟩
  have HA := Lib.hid hAe
  rw [hAe] at hA
  have hA1 : ¬ (9223372036854775807 < A.size + m.size) := by omega
  have T0d := Lib.hid T0.out.drew
  have B0d : Hid (Below w.heap.size w (w.alloc (.cells #[.int .i64 p, .string m] 143)).drew) := Lib.hid B0.out.drew
  clear h0 h1 hAe hA
  go_enter Tryz.func186, Tryz.ntmps186
  go_wp2_with (first | ((with_reducible refine (implIn_yes _ H0.out).mono ?_); rintro e w1 ⟨rfl, rfl⟩) | (go_at_call 233; refine (implName_any m _ (by omega)).mono ?_; rw [HN.out]; rintro e w1 ⟨rfl, rfl⟩))
  go_region_held3 (fun w' => w'.cell? ⟨w.heap.size, 0, none⟩ = some (.int .i64 p) ∧ w'.cell? ⟨w.heap.size, 1, none⟩ = some (.string m))
    (first
      | exact ⟨T0d.out.cell rfl, T0d.out.cell rfl⟩
      | exact ⟨T1.out.cell rfl, T1.out.cell rfl⟩
      | exact ⟨T2.out.cell rfl, T2.out.cell rfl⟩
      | go_keep)
    (first
      | (go_at_call 180; (with_reducible refine (implNum_any p 1 _ (by have := H0.out.2; omega)).mono ?_); rw [HA.out]; rintro e w1 ⟨rfl, hb⟩; have T1 := Lib.hid (T0d.out.later hb); have B1 : Hid (Below w.heap.size w w1) := Lib.hid (B0d.out.trans (hb.mono B0d.out.size)); clear hb)
      | (go_at_call 179; (with_reducible refine (implWord_any (A ++ m) _).mono ?_); rintro e w2 ⟨rfl, hb⟩; have T2 := Lib.hid (T1.out.later hb); have B2 : Hid (Below w.heap.size w w2) := Lib.hid (B1.out.trans (hb.mono B1.out.size)); clear hb))
  go_wp2
  go_ret
  exact ⟨by rw [HE.out, HA.out]; rfl, B2.out⟩
theorem implEntryWord_any (p : Int) (m : ByteArray) (w : World) (hm : m.size ≤ 2000000) :
    Calls Tryz.prog 186 #[.agg #[.int .i64 p, .string m]] w (SaysT (entryWordB ⟨p, m⟩) w) := by
  by_cases h : EntryOk ⟨p, m⟩
  · exact implEntryWord_yes p m w h
  · rw [entryWordB_no h]; exact implEntryWord_no p m w hm h

end Go.Proofs.YtkfkjcadmdcbnaaGreatDoor
namespace Go.Proofs.YtkfkjcadmdcbnaaGreatDoor
open Go.RowKit Go.Proofs.YtkfkjcadmdcbnaaGreatDoor.Parts Go.Proofs.YtkfkjcadmdcbnaaGreatDoor.Hexa Go.Proofs.YtkfkjcadmdcbnaaGreatDoor.Byt

/-- How many bytes are left without the last zeros. -/
def trimTo (l : List UInt8) : Nat → Nat
  | 0 => 0
  | k + 1 => if l.getD k 0 = 0 then trimTo l k else k + 1
def trimB (s : ByteArray) : ByteArray := s.extract 0 (trimTo s.data.toList s.size)
theorem trimTo_step (l : List UInt8) (k : Nat) (h : l.getD k 0 = 0) : trimTo l (k + 1) = trimTo l k := if_pos h
theorem trimTo_stop (l : List UInt8) (k : Nat) (h : ¬ l.getD k 0 = 0) : trimTo l (k + 1) = k + 1 := if_neg h
theorem trimTo_le (l : List UInt8) : ∀ k, trimTo l k ≤ k
  | 0 => Nat.le_refl _
  | k + 1 => by
    rw [trimTo]
    split
    · exact Nat.le_trans (trimTo_le l k) (Nat.le_succ _)
    · exact Nat.le_refl _
theorem extract_all (s : ByteArray) : s.extract 0 s.size = s := by
  apply ByteArray.ext
  simp
theorem extract_two (s : ByteArray) (k m : Nat) (h : m ≤ k) : (s.extract 0 k).extract 0 m = s.extract 0 m := by
  apply ByteArray.ext
  apply Array.toList_inj.1
  simp only [ByteArray.data_extract, Array.toList_extract, List.extract_eq_take_drop, List.drop_zero, Nat.sub_zero, List.take_take]
  rw [Nat.min_eq_left h]
theorem trimTo_same {l l' : List UInt8} : ∀ k, (∀ j, j < k → l.getD j 0 = l'.getD j 0) → trimTo l k = trimTo l' k
  | 0, _ => rfl
  | k + 1, h => by rw [trimTo, trimTo, h k (by omega), trimTo_same k (fun j hj => h j (by omega))]
theorem extract_getD (u : ByteArray) (m j : Nat) (hj : j < m) (hm : m ≤ u.size) : (u.extract 0 m).data.toList.getD j 0 = u.data.toList.getD j 0 := by
  have h2 : j < u.data.toList.length := by simp; omega
  simp only [ByteArray.data_extract, Array.toList_extract, List.extract_eq_take_drop, List.drop_zero, List.getD, Nat.sub_zero]
  rw [List.getElem?_take_of_lt hj]
theorem trim_step {u : ByteArray} {m : Nat} (hu : u.size = m + 1) (h0 : u.data.toList.getD m 0 = 0) : trimB (u.extract 0 m) = trimB u := by
  have hs : (u.extract 0 m).size = m := by rw [ByteArray.size_extract]; omega
  unfold trimB
  rw [hs, hu, trimTo_step _ _ h0, trimTo_same m (fun j hj => extract_getD u m j hj (by omega))]
  exact extract_two u m _ (trimTo_le _ _)
theorem trim_stop {u : ByteArray} {m : Nat} (hu : u.size = m + 1) (h0 : ¬ u.data.toList.getD m 0 = 0) : trimB u = u := by
  unfold trimB
  rw [hu, trimTo_stop _ _ h0, ← hu]
  exact extract_all u
theorem trim_none {u : ByteArray} (hu : u.size = 0) : trimB u = u := by
  unfold trimB
  have h := trimTo_le u.data.toList u.size
  have e : trimTo u.data.toList u.size = u.size := by omega
  rw [e]
  exact extract_all u
theorem getD_byte (s : ByteArray) (j : Nat) (hj : j < s.size) : s.data.toList.getD j 0 = s[j] := by
  have hj' : j < s.data.toList.length := by simpa using hj
  simp only [List.getD, List.getElem?_eq_getElem hj', Option.getD_some]
  rfl
def txtLen : Value → Nat
  | .string s => s.size
  | _ => 0

set_option maxRecDepth 100000 in
set_option maxHeartbeats 1000000 in
theorem trimByte_any (s : ByteArray) (w : World) (hs : s.size ≤ 2000000) :
    Calls Tryz.prog 229 #[.string s, .int .u8 0] w fun e w' => e = .returned (.string (trimB s)) ∧ w' = w := by
  go_enter Tryz.func229, Tryz.ntmps229
  go_wp2
  go_loop [0] (fun v => ∃ u : ByteArray, u.size ≤ 2000000 ∧ v = .string u ∧ Hid (trimB u = trimB s)) (fun v => txtLen v)
  case atStart => exact ⟨s, hs, rfl, Lib.hid rfl⟩
  case round =>
    obtain ⟨u, hu, rfl, HT⟩ := hrel
    by_cases h0 : u.size = 0
    · have HN : Hid (trimB u = u) := Lib.hid (trim_none h0)
      have hn : decide ((0 : Int) < (u.size : Int)) = false := decide_eq_false (by omega)
      go_wp2
      go_ret
      exact ⟨by rw [← HT.out, HN.out]; rfl, rfl⟩
    · obtain ⟨m, hm⟩ : ∃ m, u.size = m + 1 := ⟨u.size - 1, by omega⟩
      have hml : m < u.size := by omega
      obtain ⟨b, hb⟩ : ∃ b, u[m]'hml = b := ⟨_, rfl⟩
      have HB : Hid (u.data.toList.getD m 0 = b) := Lib.hid (by rw [getD_byte u m hml]; exact hb)
      have HM := Lib.hid hm
      have hpos : (0 : Int) < (u.size : Int) := by omega
      have hum : (u.size : Int) - 1 = (m : Int) := by omega
      have hm2 : m ≤ 2000000 := by omega
      have hb255 := b.toNat_lt
      clear hm h0
      by_cases h1 : b = 0
      · subst h1
        have HS : Hid (trimB (u.extract 0 m) = trimB s) := Lib.hid (by rw [trim_step HM.out HB.out, HT.out])
        have hs2 : (u.extract 0 m).size ≤ 2000000 := by rw [ByteArray.size_extract]; omega
        have HM2 : Hid ((u.extract 0 m).size < u.size) := Lib.hid (by rw [ByteArray.size_extract]; omega)
        go_wp2
        go_round
        case rel => exact ⟨_, hs2, rfl, HS⟩
        case measure => exact HM2.out
      · have HN : Hid (trimB u = u) := Lib.hid (trim_stop HM.out (by rw [HB.out]; exact h1))
        have hbt : ¬ b.toNat = 0 := fun e => h1 (UInt8.toNat_inj.1 (by rw [e]; rfl))
        have e1 : ((b.toNat : Int) == 0) = false := by simp; omega
        clear h1 hbt
        go_wp2
        go_ret
        exact ⟨by rw [← HT.out, HN.out]; rfl, rfl⟩

set_option maxRecDepth 100000 in
set_option maxHeartbeats 1000000 in
theorem trimRight_any (s : ByteArray) (w : World) (hs : s.size ≤ 2000000) :
    Calls Tryz.prog 185 #[.string s, .string ⟨#[0]⟩] w fun e w' => e = .returned (.string (trimB s)) ∧ w' = w := by
  by_cases h0 : s.size = 0
  · obtain rfl := text_nothing h0
    go_enter Tryz.func185, Tryz.ntmps185
    go_wp2
    go_ret
    exact ⟨rfl, rfl⟩
  · have e4 : (s.toList == []) = false := text_full s (by omega)
    have HC := Lib.hid (fun w => trimByte_any s w hs)
    clear h0
    go_enter Tryz.func185, Tryz.ntmps185
    go_wp2_with fail
    refine (HC.out _).mono ?_
    rintro e w1 ⟨rfl, rfl⟩
    go_wp2
    go_ret
    exact ⟨rfl, rfl⟩
end Go.Proofs.YtkfkjcadmdcbnaaGreatDoor
namespace Go.Proofs.YtkfkjcadmdcbnaaGreatDoor
open Go.RowKit Go.Proofs.YtkfkjcadmdcbnaaGreatDoor.Parts Go.Proofs.YtkfkjcadmdcbnaaGreatDoor.Hexa Go.Proofs.YtkfkjcadmdcbnaaGreatDoor.Byt

theorem endTo_trim {l t : List UInt8} (h : ∀ j, t.getD j 0 = l.getD (j + 1) 0) : ∀ k, endTo l (k + 1) = trimTo t k + 1
  | 0 => rfl
  | k + 1 => by
    rw [endTo, trimTo, h k, endTo_trim h k]
    split <;> rfl
theorem extract_tail (s : ByteArray) (m : Nat) (hm : m ≤ s.size - 1) : (s.extract 1 s.size).extract 0 m = s.extract 1 (m + 1) := by
  apply ByteArray.ext
  apply Array.toList_inj.1
  have hl : s.data.toList.length = s.size := by simp
  simp only [ByteArray.data_extract, Array.toList_extract, List.extract_eq_take_drop, List.drop_zero, Nat.sub_zero, List.take_take]
  congr 1
  omega
theorem tail_getD (s : ByteArray) (j : Nat) : (s.extract 1 s.size).data.toList.getD j 0 = s.data.toList.getD (j + 1) 0 := by
  have hl : s.data.toList.length = s.size := by simp
  simp only [ByteArray.data_extract, Array.toList_extract, List.extract_eq_take_drop, List.getD]
  rw [List.take_of_length_le (by rw [List.length_drop]; omega), List.getElem?_drop, Nat.add_comm]
/-- What the program reads. -/
def entryGot (s : ByteArray) : EntryR := ⟨numAtV s 0 1, trimB (s.extract 1 s.size)⟩
theorem entryGot_eq {s : ByteArray} (h8 : s.size = 8) : entryGot s = entryOf s := by
  have h7 : (s.extract 1 s.size).size = 7 := by rw [ByteArray.size_extract]; omega
  have hE := endTo_trim (l := s.data.toList) (t := (s.extract 1 s.size).data.toList) (tail_getD s) 7
  have hle := trimTo_le (s.extract 1 s.size).data.toList 7
  unfold entryGot entryOf endOf trimB
  rw [entry_head (by omega), h7, hE, extract_tail s _ (by omega)]
theorem got_yes {s : ByteArray} (h8 : s.size = 8) (h : EntryOk (entryOf s)) : entryWordB (entryGot s) = s := by rw [entryGot_eq h8]; exact entry_back h8 h
theorem got_no {s : ByteArray} (h1 : 1 ≤ s.size) (h : ¬ (s.size = 8 ∧ EntryOk (entryOf s))) : ¬ entryWordB (entryGot s) = s := fun e => by
  by_cases hk : EntryOk (entryGot s)
  · have h8 : s.size = 8 := by rw [← e]; exact entryWord_size hk
    exact h ⟨h8, by rw [← entryGot_eq h8]; exact hk⟩
  · rw [entryWordB_no hk] at e
    rw [← e] at h1
    exact absurd h1 (by decide)

set_option maxRecDepth 100000 in
set_option maxHeartbeats 1000000 in
theorem implReadEntry_none (s : ByteArray) (w : World) (h : s.size = 0) :
    Calls Tryz.prog 144 #[.string s] w (SaysEnt ⟨0, ⟨#[]⟩⟩ false w) := by
  have R0 := Lib.hid (Bk.alloc w #[.int .i64 0, .string ⟨#[]⟩] 143)
  have B0 := Lib.hid (below_bk w (.cells #[.int .i64 0, .string ⟨#[]⟩] 143))
  have HB : Hid (numAtB s 0 1 = false) := Lib.hid (decide_eq_false (by omega))
  have hs : s.size ≤ 100 := by omega
  clear h
  go_enter Tryz.func144, Tryz.ntmps144
  go_wp2_with fail
  refine (implNumAt_any s 0 1 _ (by omega)).mono ?_
  rw [HB.out]
  rintro e w1 ⟨rfl, hb⟩
  have R1 := Lib.hid (R0.out.later hb)
  have B1 : Hid (Below w.heap.size w w1) := Lib.hid (B0.out.trans (hb.mono B0.out.size))
  clear hb
  have r0 := R1.out.cell (j := 0) rfl
  have r1 := R1.out.cell (j := 1) rfl
  have f0 := R1.out.fr (o := 0)
  have f1 := R1.out.fr (o := 1)
  have qf := (R1.out.set 0 (.int .i64 0)).set 1 (.string ⟨#[]⟩)
  have q0 := qf.cell (j := 0) (v := .int .i64 0) rfl
  have q1 := qf.cell (j := 1) (v := .string ⟨#[]⟩) rfl
  clear qf
  go_wp2
  refine bodyPost_ret (v := .tuple #[.agg #[.int .i64 0, .string ⟨#[]⟩], .bool false]) ?_ rfl ⟨rfl, ?_⟩
  · simp [results, Tryz.results144, go_sem, q0, q1]
  · exact (B1.out.setCell (Nat.le_refl _) _).setCell (Nat.le_refl _) _

set_option maxRecDepth 100000 in
set_option maxHeartbeats 2000000 in
theorem implReadEntry_got (s : ByteArray) (w : World) (h1 : 1 ≤ s.size) (hs : s.size ≤ 2000000) (b : Bool) (hb : b = true ↔ entryWordB (entryGot s) = s) :
    Calls Tryz.prog 144 #[.string s] w (SaysEnt (if b then entryGot s else ⟨0, ⟨#[]⟩⟩) b w) := by
  have R0 := Lib.hid (Bk.alloc w #[.int .i64 0, .string ⟨#[]⟩] 143)
  have B0 := Lib.hid (below_bk w (.cells #[.int .i64 0, .string ⟨#[]⟩] 143))
  have HB : Hid (numAtB s 0 1 = true) := Lib.hid (decide_eq_true (by omega))
  obtain ⟨P, hP⟩ : ∃ P, numAtV s 0 1 = P := ⟨_, rfl⟩
  obtain ⟨X, hX⟩ : ∃ X, s.extract 1 s.size = X := ⟨_, rfl⟩
  obtain ⟨M, hM⟩ : ∃ M, trimB X = M := ⟨_, rfl⟩
  have HXS : Hid (X.size ≤ 2000000) := Lib.hid (by rw [← hX, ByteArray.size_extract]; omega)
  have HMS : Hid (M.size ≤ 2000000) := Lib.hid (by have := HXS.out; rw [← hM]; unfold trimB; rw [ByteArray.size_extract]; omega)
  have hG : entryGot s = ⟨P, M⟩ := by unfold entryGot; rw [hP, hX, hM]
  obtain ⟨T, hT⟩ : ∃ T, entryWordB ⟨P, M⟩ = T := ⟨_, rfl⟩
  rw [hG] at hb ⊢
  rw [hT] at hb
  have HP := Lib.hid hP
  have HM := Lib.hid hM
  have HT := Lib.hid hT
  have HG := Lib.hid hb
  obtain ⟨RR, hRR⟩ : ∃ RR : EntryR, (if b then (⟨P, M⟩ : EntryR) else ⟨0, ⟨#[]⟩⟩) = RR := ⟨_, rfl⟩
  rw [hRR]
  have HRR := Lib.hid hRR
  clear hRR
  have l1 : (1 : Int) ≤ (s.size : Int) := by omega
  have hs1 := Lib.hid h1
  have hs0 := Lib.hid hs
  clear hb hP hM hT hG
  go_enter Tryz.func144, Tryz.ntmps144
  go_wp2_with fail
  refine (implNumAt_any s 0 1 _ (by omega)).mono ?_
  rw [HB.out, HP.out]
  rintro e w1 ⟨rfl, hb⟩
  have R1 := Lib.hid (R0.out.later hb)
  have B1 : Hid (Below w.heap.size w w1) := Lib.hid (B0.out.trans (hb.mono B0.out.size))
  clear hb
  go_wp2_with fail
  refine (trimRight_any X _ HXS.out).mono ?_
  rw [HM.out]
  rintro e w1x ⟨rfl, rfl⟩
  go_wp2_with fail
  refine (cloneText_any M _ HMS.out).mono ?_
  rintro e w2 ⟨rfl, hb⟩
  have hba := below_bk w2 (.cells #[.int .i64 P, .string M] 143)
  have R3 := Lib.hid ((R1.out.later hb).later hba)
  have B2 : Below w.heap.size w w2 := B1.out.trans (hb.mono B1.out.size)
  have B3 : Hid (Below w.heap.size w (w2.alloc (.cells #[.int .i64 P, .string M] 143))) := Lib.hid (B2.trans (hba.mono B2.size))
  have X3 := Lib.hid (Bk.alloc w2 #[.int .i64 P, .string M] 143)
  clear hb hba B2
  go_wp2_with fail
  refine (implEntryWord_any P M _ HMS.out).mono ?_
  rw [HT.out]
  rintro e w4 ⟨rfl, hb⟩
  have R4 := Lib.hid (R3.out.later hb)
  have X4 := Lib.hid (X3.out.later hb)
  have B4 : Hid (Below w.heap.size w w4) := Lib.hid (B3.out.trans (hb.mono B3.out.size))
  clear hb R3 X3 B3
  have x0 := X4.out.cell (j := 0) rfl
  have x1 := X4.out.cell (j := 1) rfl
  have r0 := R4.out.cell (j := 0) rfl
  have r1 := R4.out.cell (j := 1) rfl
  have f0 := R4.out.fr (o := 0)
  have f1 := R4.out.fr (o := 1)
  cases b
  · have hne : ¬ T = s := fun e => by cases HG.out.2 e
    have n1 := text_neB hne
    have n2 := text_ne hne
    have qf := (R4.out.set 0 (.int .i64 0)).set 1 (.string ⟨#[]⟩)
    have q0 := qf.cell (j := 0) (v := .int .i64 0) rfl
    have q1 := qf.cell (j := 1) (v := .string ⟨#[]⟩) rfl
    clear qf hne
    go_wp2
    refine bodyPost_ret (v := .tuple #[.agg #[.int .i64 0, .string ⟨#[]⟩], .bool false]) ?_ rfl ⟨by rw [← HRR.out]; rfl, ?_⟩
    · simp [results, Tryz.results144, go_sem, q0, q1]
    · exact (B4.out.setCell (Nat.le_refl _) _).setCell (Nat.le_refl _) _
  · obtain rfl : T = s := HG.out.1 rfl
    have qf := (R4.out.set 0 (.int .i64 P)).set 1 (.string M)
    have q0 := qf.cell (j := 0) (v := .int .i64 P) rfl
    have q1 := qf.cell (j := 1) (v := .string M) rfl
    clear qf
    go_wp2
    refine bodyPost_ret (v := .tuple #[.agg #[.int .i64 P, .string M], .bool true]) ?_ rfl ⟨by rw [← HRR.out]; rfl, ?_⟩
    · simp [results, Tryz.results144, go_sem, q0, q1]
    · exact (B4.out.setCell (Nat.le_refl _) _).setCell (Nat.le_refl _) _
theorem implReadEntry_any (s : ByteArray) (w : World) (hs : s.size ≤ 2000000) :
    Calls Tryz.prog 144 #[.string s] w (SaysEnt (entryReadR s) (entryReadB s) w) := by
  by_cases h : s.size = 8 ∧ EntryOk (entryOf s)
  · rw [show entryReadR s = entryOf s from if_pos h, show entryReadB s = true from decide_eq_true h, ← entryGot_eq h.1]
    exact implReadEntry_got s w (by omega) hs true ⟨fun _ => got_yes h.1 h.2, fun _ => rfl⟩
  · rw [show entryReadR s = ⟨0, ⟨#[]⟩⟩ from if_neg h, show entryReadB s = false from decide_eq_false h]
    by_cases h0 : s.size = 0
    · exact implReadEntry_none s w h0
    · exact implReadEntry_got s w (by omega) hs false ⟨fun e => (by cases e), fun e => absurd e (got_no (by omega) h)⟩
end Go.Proofs.YtkfkjcadmdcbnaaGreatDoor
namespace Go.Proofs.YtkfkjcadmdcbnaaGreatDoor
open Go.RowKit Go.Proofs.YtkfkjcadmdcbnaaGreatDoor.Parts Go.Proofs.YtkfkjcadmdcbnaaGreatDoor.Hexa Go.Proofs.YtkfkjcadmdcbnaaGreatDoor.Byt

theorem getD_none {α : Type} [Inhabited α] (L : List α) {j : Nat} (h : L.length ≤ j) : L.getD j default = default := by
  simp only [List.getD]
  rw [List.getElem?_eq_none h]
  rfl
theorem while_stop {α : Type} [Inhabited α] {p : α → Bool} : ∀ {L : List α} (k : Nat), k < L.length → (∀ j, j < k → p (L.getD j default) = true) → p (L.getD k default) = false → L.takeWhile p = L.take k
  | x :: r, 0, _, _, h0 => by
    have h0 : p x = false := h0
    rw [List.takeWhile_cons_of_neg (by rw [h0]; decide)]
    rfl
  | x :: r, k + 1, hk, h, h0 => by
    rw [List.takeWhile_cons_of_pos (show p x = true from h 0 (by omega)), List.take_succ_cons]
    congr 1
    exact while_stop k (by simpa using hk) (fun j hj => h (j + 1) (by omega)) h0
theorem while_all {α : Type} [Inhabited α] {p : α → Bool} : ∀ {L : List α} (k : Nat), L.length = k → (∀ j, j < k → p (L.getD j default) = true) → L.takeWhile p = L.take k
  | [], _, _, _ => by simp
  | x :: r, 0, h, _ => by simp at h
  | x :: r, k + 1, hk, h => by
    rw [List.takeWhile_cons_of_pos (show p x = true from h 0 (by omega)), List.take_succ_cons]
    congr 1
    exact while_all k (by simpa using hk) (fun j hj => h (j + 1) (by omega))
theorem recReadR_fit (s : ByteArray) : (recReadR s).f2.size ≤ 2000000 := by
  unfold recReadR
  split
  · show (s.extract 4 8).size ≤ 2000000
    rw [ByteArray.size_extract]; omega
  · exact Nat.zero_le _
theorem leadRecs_fit (L : List ByteArray) (n : Nat) : FitRec (leadRecs L) n 2000000 := fun j _ => by
  unfold leadRecs
  rcases Nat.lt_or_ge j (L.takeWhile recReadB).length with h | h
  · rw [map_getD _ _ _ h]; exact recReadR_fit _
  · rw [getD_none _ (by simpa using h)]; exact Nat.zero_le _
theorem entryReadR_fit (s : ByteArray) : (entryReadR s).f1.size ≤ 2000000 := by
  unfold entryReadR
  split
  · rename_i h
    have h9 := endTo_bd s.data.toList 8
    show (s.extract 1 (endOf s)).size ≤ 2000000
    rw [ByteArray.size_extract]; have := h.1; omega
  · exact Nat.zero_le _
theorem leadEnts_fit (L : List ByteArray) (n : Nat) : FitEntry (leadEnts L) n 2000000 := fun j _ => by
  unfold leadEnts
  rcases Nat.lt_or_ge j (L.takeWhile entryReadB).length with h | h
  · rw [map_getD _ _ _ h]; exact entryReadR_fit _
  · rw [getD_none _ (by simpa using h)]; exact Nat.zero_le _

/-- What is returned: a row of its own. -/
def GivesLeadRecs (R : List RecR) (w : World) (e : Ending) (w' : World) : Prop :=
  ∃ a c, e = .returned (.slice a R.length c) ∧ w'.ownsRow w.heap.size 139 3 (.slice a R.length c) R.length (cellsE encRec R) ∧ Below w.heap.size w w'
set_option maxRecDepth 100000 in
set_option maxHeartbeats 2000000 in
theorem implLeadRecs_any (a : Option Addr) (n c : Nat) (L : List ByteArray) (w : World) (hs : SrcT w a n L) (hf : ∀ j, j < n → (L.getD j default).size ≤ 1048576) (hn : n ≤ 1000) :
    Calls Tryz.prog 141 #[.slice a n c, .func (.func 142) #[] #[]] w (GivesLeadRecs (leadRecs L) w) := by
  obtain ⟨i0, hi, hz0, hz1, hz2⟩ := info_parts infoRec
  have HS := Lib.hid hs
  have HL := Lib.hid hs.len
  have HF := Lib.hid hf
  clear hs hf
  go_enter Tryz.func141, Tryz.ntmps141
  go_wp2
  go_loopw [5, 12] (fun u iv wr => ∃ k : Nat, k ≤ n ∧ iv = .int .i64 k ∧ Hid (∀ j, j < k → recReadB (L.getD j default) = true) ∧ Hid (wr.ownsRow w.heap.size 139 3 u k (cellsE encRec ((L.take k).map recReadR))) ∧ Hid (Below w.heap.size w wr)) (fun _ iv _ => n - (intOf iv).toNat)
  case atStart => exact ⟨0, Nat.zero_le _, rfl, Lib.hid (fun j hj => by omega), Lib.hid (World.ownsRow_nil _ _ _ _), Lib.hid (Below.refl _ _)⟩
  case round =>
    obtain ⟨k, hk, rfl, HA, HW, HB⟩ := hrel
    obtain ⟨av, cv, rfl, hc1, hc2, _⟩ := ownE_form HW.out
    by_cases hlt : k < n
    · obtain ⟨g, off, ha, hg, d0⟩ := srcT_later HS.out HB.out (Nat.le_refl _) k hlt
      obtain ⟨x, hx⟩ : ∃ x, L.getD k default = x := ⟨_, rfl⟩
      have hm := HF.out k hlt
      rw [hx] at d0 hm
      have HX := Lib.hid hx
      have HM := Lib.hid hm
      obtain ⟨⟨p, q, m⟩, hr⟩ : ∃ r, recReadR x = r := ⟨_, rfl⟩
      obtain ⟨b, hb⟩ : ∃ b, recReadB x = b := ⟨_, rfl⟩
      have HR := Lib.hid hr
      have HBB := Lib.hid hb
      have HWN : Hid (cellsE encRec ((L.take k).map recReadR) ++ [.int .i64 p, .int .i64 q, .string m] = cellsE encRec ((L.take (k + 1)).map recReadR)) := Lib.hid (by
        rw [take_more _ _ _ (by rw [HL.out]; exact hlt), HX.out, HR.out, cellsE_append, cellsE_one]
        rfl)
      have HSZ : Hid (w.heap.size ≤ wr.heap.size) := Lib.hid HB.out.size
      subst ha
      clear hx hm hr hb
      go_wp2_with fail
      refine (implReadRec_any x _ (by have := HM.out; omega)).mono ?_
      unfold SaysRec
      rw [HR.out, HBB.out]
      rintro e w1 ⟨rfl, hb1⟩
      have HW1 := Lib.hid (own_below HW.out hb1)
      have B1 : Hid (Below w.heap.size w w1) := Lib.hid (HB.out.trans (hb1.mono HSZ.out))
      have Z1 : Hid (w.heap.size ≤ w1.heap.size) := Lib.hid B1.out.size
      have X1 := Lib.hid (Bk.alloc w1 #[.int .i64 p, .int .i64 q, .string m] 139)
      clear hb1 d0
      cases b
      · have HE : Hid (leadRecs L = (L.take k).map recReadR) := Lib.hid (by unfold leadRecs; rw [while_stop k (by rw [HL.out]; exact hlt) HA.out (by rw [HX.out]; exact HBB.out)])
        have HLn : Hid (((L.take k).map recReadR).length = k) := Lib.hid (by rw [List.length_map, List.length_take, HL.out]; omega)
        have HO : Hid ((w1.alloc (.cells #[.int .i64 p, .int .i64 q, .string m] 139)).ownsRow w.heap.size 139 3 (.slice av k cv) k (cellsE encRec ((L.take k).map recReadR))) := Lib.hid (HW1.out.alloc _)
        have B2 := Lib.hid (B1.out.alloc Z1.out (.cells #[.int .i64 p, .int .i64 q, .string m] 139))
        go_wp2
        go_ret
        exact ⟨av, cv, by rw [HE.out, HLn.out]; rfl, by rw [HE.out, HLn.out]; exact HO.out, B2.out⟩
      · have HA2 : Hid (∀ j, j < k + 1 → recReadB (L.getD j default) = true) := Lib.hid (fun j hj => by
          by_cases e : j = k
          · subst e; rw [HX.out]; exact HBB.out
          · exact HA.out j (by omega))
        have x0 := X1.out.cell (j := 0) rfl
        have x1 := X1.out.cell (j := 1) rfl
        have x2 := X1.out.cell (j := 2) rfl
        go_wp2_with (at_builtin; refine wpList_append_own _ rfl (.tmp 24) (.tmp 26) 99 rfl w.heap.size 139 i0 (.agg #[.int .i64 0, .int .i64 0, .string ByteArray.empty]) 3 32 Tryz.underlying99 hi hz0 hz1 hz2 rfl (by decide) _ _ _ rfl ((HW1.out.alloc _).alloc _) ⟨w1.heap.size + 1, 0, none⟩ 1 1 [.int .i64 p, .int .i64 q, .string m] rfl rfl (World.news_of_block (by simpa using heap_alloc_new (w1.alloc (.cells #[.int .i64 p, .int .i64 q, .string m] 139)) (.cells #[.int .i64 p, .int .i64 q, .string m] 139))) (by simp [Value.oneCell']) (by unfold maxLen; omega) (by omega) (by have := Z1.out; simp; omega) ?_; intro v2 w2 hown2 hgrow2 hn2)
        have BG3 := Lib.hid (((B1.out.alloc Z1.out (.cells #[.int .i64 p, .int .i64 q, .string m] 139)).alloc (by have := Z1.out; simp; omega) (.cells #[.int .i64 p, .int .i64 q, .string m] 139)).grown hgrow2 (by have := Z1.out; simp; omega) (fun g hg => (HW1.out.lt g hg).1))
        rw [HWN.out] at hown2
        have HO2 := Lib.hid hown2
        clear hown2 hgrow2 hn2 HW1 B1 HB HW x0 x1 x2
        go_roundw
        case rel => exact ⟨k + 1, by omega, by go_num, HA2, HO2, BG3⟩
        case measure => (simp [intOf]; try omega)
    · obtain rfl : k = n := by omega
      have HE : Hid (leadRecs L = (L.take k).map recReadR) := Lib.hid (by unfold leadRecs; rw [while_all k HL.out HA.out])
      have HLn : Hid (((L.take k).map recReadR).length = k) := Lib.hid (by rw [List.length_map, List.length_take, HL.out]; omega)
      go_wp2
      go_ret
      exact ⟨av, cv, by rw [HE.out, HLn.out]; rfl, by rw [HE.out, HLn.out]; exact HW.out, HB.out⟩

/-- What is returned: a row of its own. -/
def GivesLeadEnts (R : List EntryR) (w : World) (e : Ending) (w' : World) : Prop :=
  ∃ a c, e = .returned (.slice a R.length c) ∧ w'.ownsRow w.heap.size 143 2 (.slice a R.length c) R.length (cellsE encEntry R) ∧ Below w.heap.size w w'
set_option maxRecDepth 100000 in
set_option maxHeartbeats 2000000 in
theorem implLeadEnts_any (a : Option Addr) (n c : Nat) (L : List ByteArray) (w : World) (hs : SrcT w a n L) (hf : ∀ j, j < n → (L.getD j default).size ≤ 1048576) (hn : n ≤ 1000) :
    Calls Tryz.prog 143 #[.slice a n c, .func (.func 144) #[] #[]] w (GivesLeadEnts (leadEnts L) w) := by
  obtain ⟨i0, hi, hz0, hz1, hz2⟩ := info_parts infoEntry
  have HS := Lib.hid hs
  have HL := Lib.hid hs.len
  have HF := Lib.hid hf
  clear hs hf
  go_enter Tryz.func143, Tryz.ntmps143
  go_wp2
  go_loopw [5, 12] (fun u iv wr => ∃ k : Nat, k ≤ n ∧ iv = .int .i64 k ∧ Hid (∀ j, j < k → entryReadB (L.getD j default) = true) ∧ Hid (wr.ownsRow w.heap.size 143 2 u k (cellsE encEntry ((L.take k).map entryReadR))) ∧ Hid (Below w.heap.size w wr)) (fun _ iv _ => n - (intOf iv).toNat)
  case atStart => exact ⟨0, Nat.zero_le _, rfl, Lib.hid (fun j hj => by omega), Lib.hid (World.ownsRow_nil _ _ _ _), Lib.hid (Below.refl _ _)⟩
  case round =>
    obtain ⟨k, hk, rfl, HA, HW, HB⟩ := hrel
    obtain ⟨av, cv, rfl, hc1, hc2, _⟩ := ownE_form HW.out
    by_cases hlt : k < n
    · obtain ⟨g, off, ha, hg, d0⟩ := srcT_later HS.out HB.out (Nat.le_refl _) k hlt
      obtain ⟨x, hx⟩ : ∃ x, L.getD k default = x := ⟨_, rfl⟩
      have hm := HF.out k hlt
      rw [hx] at d0 hm
      have HX := Lib.hid hx
      have HM := Lib.hid hm
      obtain ⟨⟨p, m⟩, hr⟩ : ∃ r, entryReadR x = r := ⟨_, rfl⟩
      obtain ⟨b, hb⟩ : ∃ b, entryReadB x = b := ⟨_, rfl⟩
      have HR := Lib.hid hr
      have HBB := Lib.hid hb
      have HWN : Hid (cellsE encEntry ((L.take k).map entryReadR) ++ [.int .i64 p, .string m] = cellsE encEntry ((L.take (k + 1)).map entryReadR)) := Lib.hid (by
        rw [take_more _ _ _ (by rw [HL.out]; exact hlt), HX.out, HR.out, cellsE_append, cellsE_one]
        rfl)
      have HSZ : Hid (w.heap.size ≤ wr.heap.size) := Lib.hid HB.out.size
      subst ha
      clear hx hm hr hb
      go_wp2_with fail
      refine (implReadEntry_any x _ (by have := HM.out; omega)).mono ?_
      unfold SaysEnt
      rw [HR.out, HBB.out]
      rintro e w1 ⟨rfl, hb1⟩
      have HW1 := Lib.hid (own_below HW.out hb1)
      have B1 : Hid (Below w.heap.size w w1) := Lib.hid (HB.out.trans (hb1.mono HSZ.out))
      have Z1 : Hid (w.heap.size ≤ w1.heap.size) := Lib.hid B1.out.size
      have X1 := Lib.hid (Bk.alloc w1 #[.int .i64 p, .string m] 143)
      clear hb1 d0
      cases b
      · have HE : Hid (leadEnts L = (L.take k).map entryReadR) := Lib.hid (by unfold leadEnts; rw [while_stop k (by rw [HL.out]; exact hlt) HA.out (by rw [HX.out]; exact HBB.out)])
        have HLn : Hid (((L.take k).map entryReadR).length = k) := Lib.hid (by rw [List.length_map, List.length_take, HL.out]; omega)
        have HO : Hid ((w1.alloc (.cells #[.int .i64 p, .string m] 143)).ownsRow w.heap.size 143 2 (.slice av k cv) k (cellsE encEntry ((L.take k).map entryReadR))) := Lib.hid (HW1.out.alloc _)
        have B2 := Lib.hid (B1.out.alloc Z1.out (.cells #[.int .i64 p, .string m] 143))
        go_wp2
        go_ret
        exact ⟨av, cv, by rw [HE.out, HLn.out]; rfl, by rw [HE.out, HLn.out]; exact HO.out, B2.out⟩
      · have HA2 : Hid (∀ j, j < k + 1 → entryReadB (L.getD j default) = true) := Lib.hid (fun j hj => by
          by_cases e : j = k
          · subst e; rw [HX.out]; exact HBB.out
          · exact HA.out j (by omega))
        have x0 := X1.out.cell (j := 0) rfl
        have x1 := X1.out.cell (j := 1) rfl
        go_wp2_with (at_builtin; refine wpList_append_own _ rfl (.tmp 24) (.tmp 26) 100 rfl w.heap.size 143 i0 (.agg #[.int .i64 0, .string ByteArray.empty]) 2 24 Tryz.underlying100 hi hz0 hz1 hz2 rfl (by decide) _ _ _ rfl ((HW1.out.alloc _).alloc _) ⟨w1.heap.size + 1, 0, none⟩ 1 1 [.int .i64 p, .string m] rfl rfl (World.news_of_block (by simpa using heap_alloc_new (w1.alloc (.cells #[.int .i64 p, .string m] 143)) (.cells #[.int .i64 p, .string m] 143))) (by simp [Value.oneCell']) (by unfold maxLen; omega) (by omega) (by have := Z1.out; simp; omega) ?_; intro v2 w2 hown2 hgrow2 hn2)
        have BG3 := Lib.hid (((B1.out.alloc Z1.out (.cells #[.int .i64 p, .string m] 143)).alloc (by have := Z1.out; simp; omega) (.cells #[.int .i64 p, .string m] 143)).grown hgrow2 (by have := Z1.out; simp; omega) (fun g hg => (HW1.out.lt g hg).1))
        rw [HWN.out] at hown2
        have HO2 := Lib.hid hown2
        clear hown2 hgrow2 hn2 HW1 B1 HB HW x0 x1
        go_roundw
        case rel => exact ⟨k + 1, by omega, by go_num, HA2, HO2, BG3⟩
        case measure => (simp [intOf]; try omega)
    · obtain rfl : k = n := by omega
      have HE : Hid (leadEnts L = (L.take k).map entryReadR) := Lib.hid (by unfold leadEnts; rw [while_all k HL.out HA.out])
      have HLn : Hid (((L.take k).map entryReadR).length = k) := Lib.hid (by rw [List.length_map, List.length_take, HL.out]; omega)
      go_wp2
      go_ret
      exact ⟨av, cv, by rw [HE.out, HLn.out]; rfl, by rw [HE.out, HLn.out]; exact HW.out, HB.out⟩

end Go.Proofs.YtkfkjcadmdcbnaaGreatDoor
namespace Go.Proofs.YtkfkjcadmdcbnaaGreatDoor
open Go.RowKit Go.Proofs.YtkfkjcadmdcbnaaGreatDoor.Parts Go.Proofs.YtkfkjcadmdcbnaaGreatDoor.Hexa Go.Proofs.YtkfkjcadmdcbnaaGreatDoor.Byt

set_option maxRecDepth 100000 in
set_option maxHeartbeats 2000000 in
theorem implHead_any (s : ByteArray) (w : World) (hs : s.size ≤ 2000000) :
    Calls Tryz.prog 139 #[.string s] w fun e w' => e = .returned (.agg #[.int .i64 (numAtV s 0 1), .int .i64 (numAtV s 1 2), .int .i64 (numAtV s 3 2), .string ⟨#[]⟩, .slice none 0 0, .slice none 0 0]) ∧ Below w.heap.size w w' := by
  have R0 := Lib.hid (Bk.alloc w (inoCs 0 0 0 ⟨#[]⟩ none 0 0 none 0 0) 102)
  have B0 := Lib.hid (below_bk w (inoObj 0 0 0 ⟨#[]⟩ none 0 0 none 0 0))
  obtain ⟨P, hP⟩ : ∃ P, numAtV s 0 1 = P := ⟨_, rfl⟩
  obtain ⟨Q, hQ⟩ : ∃ P, numAtV s 1 2 = P := ⟨_, rfl⟩
  obtain ⟨T, hT⟩ : ∃ P, numAtV s 3 2 = P := ⟨_, rfl⟩
  rw [hP, hQ, hT]
  have HP := Lib.hid hP
  have HQ := Lib.hid hQ
  have HT := Lib.hid hT
  clear hP hQ hT
  go_enter Tryz.func139, Tryz.ntmps139
  go_wp2_with fail
  refine (implNumAt_any s 0 1 _ (by omega)).mono ?_
  rw [HP.out]
  rintro e w1 ⟨rfl, hb⟩
  have R1 := Lib.hid (R0.out.later hb)
  have B1 : Hid (Below w.heap.size w w1) := Lib.hid (B0.out.trans (hb.mono B0.out.size))
  clear hb
  go_wp2_with fail
  refine (implNumAt_any s 1 2 _ (by omega)).mono ?_
  rw [HQ.out]
  rintro e w2 ⟨rfl, hb⟩
  have R2 := Lib.hid (R1.out.later hb)
  have B2 : Hid (Below w.heap.size w w2) := Lib.hid (B1.out.trans (hb.mono B1.out.size))
  clear hb
  go_wp2_with fail
  refine (implNumAt_any s 3 2 _ (by omega)).mono ?_
  rw [HT.out]
  rintro e w3 ⟨rfl, hb⟩
  have R3 := Lib.hid (R2.out.later hb)
  have B3 : Hid (Below w.heap.size w w3) := Lib.hid (B2.out.trans (hb.mono B2.out.size))
  clear hb
  have r0 := R3.out.cell (j := 0) rfl
  have r1 := R3.out.cell (j := 1) rfl
  have r2 := R3.out.cell (j := 2) rfl
  have r3 := R3.out.cell (j := 3) rfl
  have r4 := R3.out.cell (j := 4) rfl
  have r5 := R3.out.cell (j := 5) rfl
  have f0 := R3.out.fr (o := 0)
  have f1 := R3.out.fr (o := 1)
  have f2 := R3.out.fr (o := 2)
  have f3 := R3.out.fr (o := 3)
  have f4 := R3.out.fr (o := 4)
  have f5 := R3.out.fr (o := 5)
  have qf := (((((R3.out.set 0 (.int .i64 P)).set 1 (.int .i64 Q)).set 2 (.int .i64 T)).set 3 (.string ⟨#[]⟩)).set 4 (.slice none 0 0)).set 5 (.slice none 0 0)
  have q0 := qf.cell (j := 0) (v := .int .i64 P) rfl
  have q1 := qf.cell (j := 1) (v := .int .i64 Q) rfl
  have q2 := qf.cell (j := 2) (v := .int .i64 T) rfl
  have q3 := qf.cell (j := 3) (v := .string ⟨#[]⟩) rfl
  have q4 := qf.cell (j := 4) (v := .slice none 0 0) rfl
  have q5 := qf.cell (j := 5) (v := .slice none 0 0) rfl
  clear qf
  go_wp2
  refine bodyPost_ret (v := .agg #[.int .i64 P, .int .i64 Q, .int .i64 T, .string ⟨#[]⟩, .slice none 0 0, .slice none 0 0]) ?_ rfl ⟨rfl, ?_⟩
  · simp [results, Tryz.results139, go_sem, q0, q1, q2, q3, q4, q5]
  · exact (((((B3.out.setCell (Nat.le_refl _) _).setCell (Nat.le_refl _) _).setCell (Nat.le_refl _) _).setCell (Nat.le_refl _) _).setCell (Nat.le_refl _) _).setCell (Nat.le_refl _) _
end Go.Proofs.YtkfkjcadmdcbnaaGreatDoor
namespace Go.Proofs.YtkfkjcadmdcbnaaGreatDoor
open Go.RowKit Go.Proofs.YtkfkjcadmdcbnaaGreatDoor.Parts Go.Proofs.YtkfkjcadmdcbnaaGreatDoor.Hexa Go.Proofs.YtkfkjcadmdcbnaaGreatDoor.Byt

/-- What is returned owns these texts; nothing else of before is written. -/
def AppPost (base : Nat) (W0 : World) (n : Nat) (xs : List Value) (e : Ending) (w' : World) : Prop :=
  ∃ v, e = .returned v ∧ w'.ownsRow base 9 1 v n xs ∧ Below base W0 w' ∧ base ≤ w'.heap.size

set_option maxRecDepth 100000 in
set_option maxHeartbeats 2000000 in
theorem appendRecs_any (W0 : World) (base : Nat) (v : Value) (n0 : Nat) (xs : List Value) (a : Option Addr) (n c : Nat) (L : List RecR) (w : World) (hB0 : W0.heap.size ≤ base) (hb0 : Below base W0 w) (hbs : base ≤ w.heap.size)
    (hs : SrcRec W0 a n L) (hf : FitRec L n 2000000) (hn : n0 + n ≤ 1000) (hown : w.ownsRow base 9 1 v n0 xs) :
    Calls Tryz.prog 188 #[v, .slice a n c, .func (.func 184) #[] #[]] w (AppPost base W0 (n0 + n) (xs ++ scells (L.map recWordB))) := by
  obtain ⟨i0, hi, hz0, hz1, hz2⟩ := info_parts infoText
  have HS := Lib.hid hs
  have HL := Lib.hid hs.len
  have HF := Lib.hid hf
  have HN := Lib.hid hn
  have HO := Lib.hid hown
  have HB0 := Lib.hid hb0
  have HBS := Lib.hid hbs
  have HBW := Lib.hid hB0
  have hn1 : n ≤ 1000 := by omega
  have hn0 : n0 ≤ 1000 := by omega
  clear hs hf hown hb0 hbs hB0 hn
  go_enter Tryz.func188, Tryz.ntmps188
  go_wp2
  go_loopw [0, 11] (fun u iv wr => ∃ k : Nat, k ≤ n ∧ iv = .int .i64 k ∧ Hid (wr.ownsRow base 9 1 u (n0 + k) (xs ++ scells ((L.take k).map recWordB))) ∧ Hid (Below base W0 wr) ∧ Hid (base ≤ wr.heap.size)) (fun _ iv _ => n - (intOf iv).toNat)
  case atStart => exact ⟨0, Nat.zero_le _, rfl, Lib.hid (by simpa [scells] using HO.out), HB0, HBS⟩
  case round =>
    clear HO HB0 HBS
    obtain ⟨k, hk, rfl, HW, HB, HSZ⟩ := hrel
    by_cases hlt : k < n
    · obtain ⟨g, off, ha, hg, d0, d1, d2⟩ := srcRec_later HS.out HB.out HBW.out k hlt
      obtain ⟨⟨p, q, m⟩, hx⟩ : ∃ x, L.getD k default = x := ⟨_, rfl⟩
      have hm := HF.out k hlt
      rw [hx] at d0 d1 d2 hm
      simp only at d0 d1 d2 hm
      have HX := Lib.hid hx
      have HM := Lib.hid hm
      obtain ⟨T, hT⟩ : ∃ T, recWordB ⟨p, q, m⟩ = T := ⟨_, rfl⟩
      have HT := Lib.hid hT
      have HWN : Hid ((xs ++ scells ((L.take k).map recWordB)) ++ [.string T] = xs ++ scells ((L.take (k + 1)).map recWordB)) := Lib.hid (by
        rw [take_more _ _ _ (by rw [HL.out]; exact hlt), HX.out, HT.out]
        simp [scells])
      have HBX : Hid (Below base W0 (wr.alloc (.cells #[.int .i64 p, .int .i64 q, .string m] 139))) := Lib.hid (HB.out.alloc HSZ.out _)
      have HWX := Lib.hid (HW.out.alloc (.cells #[.int .i64 p, .int .i64 q, .string m] 139))
      have HSX : Hid (base ≤ (wr.alloc (.cells #[.int .i64 p, .int .i64 q, .string m] 139)).heap.size) := Lib.hid (by have := HSZ.out; simp; omega)
      have HN2 : Hid (n0 + k + 1 ≤ 1000) := Lib.hid (by have := HN.out; omega)
      subst ha
      clear hx hm hT
      go_wp2_with (first
        | (go_at_call 184; (with_reducible refine (implRecWord_any p q m _ HM.out).mono ?_); rw [HT.out]; rintro e wa ⟨rfl, hb1⟩
           have HW1 := Lib.hid (own_below HWX.out hb1)
           have BG := Lib.hid (HBX.out.trans (hb1.mono HSX.out))
           have BS : Hid (base ≤ wa.heap.size) := Lib.hid (Nat.le_trans HSX.out hb1.size))
        | (at_builtin; refine wpList_append_own _ rfl (.tmp 15) (.tmp 19) 38 rfl base 9 i0 (.string ⟨#[]⟩) 1 16 Tryz.underlying38 hi hz0 hz1 hz2 rfl (by decide) _ _ _ rfl (HW1.out.alloc _) ⟨wa.heap.size, 0, none⟩ 1 1 [.string T] rfl rfl (World.news_of_block (heap_alloc_new _ _)) (by simp [Value.oneCell']) (by have := HN2.out; unfold maxLen; omega) (by have := HN2.out; omega) (by have := BS.out; simp; omega) ?_; intro v2 wb hown2 hgrow2 hn2))
      have BG3 := Lib.hid ((BG.out.alloc BS.out _).grown hgrow2 (by have := BS.out; simp; omega) (own_block_ge HW1.out))
      have BS3 : Hid (base ≤ wb.heap.size) := Lib.hid (by have h9 := hgrow2.size; have := BS.out; simp at h9; omega)
      rw [HWN.out] at hown2
      have HO2 := Lib.hid hown2
      clear hown2 hgrow2 hn2 HW1 BG BS HB HW
      go_roundw
      case rel => exact ⟨k + 1, by omega, by go_num, HO2, BG3, BS3⟩
      case measure => (simp [intOf]; try omega)
    · obtain rfl : k = n := by omega
      have h9 := HW.out
      rw [List.take_of_length_le (by rw [HL.out]; exact Nat.le_refl _)] at h9
      have HW2 := Lib.hid h9
      clear h9
      go_wp2
      go_ret
      exact ⟨_, rfl, HW2.out, HB.out, HSZ.out⟩

set_option maxRecDepth 100000 in
set_option maxHeartbeats 2000000 in
theorem appendEntrys_any (W0 : World) (base : Nat) (v : Value) (n0 : Nat) (xs : List Value) (a : Option Addr) (n c : Nat) (L : List EntryR) (w : World) (hB0 : W0.heap.size ≤ base) (hb0 : Below base W0 w) (hbs : base ≤ w.heap.size)
    (hs : SrcEntry W0 a n L) (hf : FitEntry L n 2000000) (hn : n0 + n ≤ 1000) (hown : w.ownsRow base 9 1 v n0 xs) :
    Calls Tryz.prog 189 #[v, .slice a n c, .func (.func 186) #[] #[]] w (AppPost base W0 (n0 + n) (xs ++ scells (L.map entryWordB))) := by
  obtain ⟨i0, hi, hz0, hz1, hz2⟩ := info_parts infoText
  have HS := Lib.hid hs
  have HL := Lib.hid hs.len
  have HF := Lib.hid hf
  have HN := Lib.hid hn
  have HO := Lib.hid hown
  have HB0 := Lib.hid hb0
  have HBS := Lib.hid hbs
  have HBW := Lib.hid hB0
  have hn1 : n ≤ 1000 := by omega
  have hn0 : n0 ≤ 1000 := by omega
  clear hs hf hown hb0 hbs hB0 hn
  go_enter Tryz.func189, Tryz.ntmps189
  go_wp2
  go_loopw [0, 11] (fun u iv wr => ∃ k : Nat, k ≤ n ∧ iv = .int .i64 k ∧ Hid (wr.ownsRow base 9 1 u (n0 + k) (xs ++ scells ((L.take k).map entryWordB))) ∧ Hid (Below base W0 wr) ∧ Hid (base ≤ wr.heap.size)) (fun _ iv _ => n - (intOf iv).toNat)
  case atStart => exact ⟨0, Nat.zero_le _, rfl, Lib.hid (by simpa [scells] using HO.out), HB0, HBS⟩
  case round =>
    clear HO HB0 HBS
    obtain ⟨k, hk, rfl, HW, HB, HSZ⟩ := hrel
    by_cases hlt : k < n
    · obtain ⟨g, off, ha, hg, d0, d1⟩ := srcEntry_later HS.out HB.out HBW.out k hlt
      obtain ⟨⟨p, m⟩, hx⟩ : ∃ x, L.getD k default = x := ⟨_, rfl⟩
      have hm := HF.out k hlt
      rw [hx] at d0 d1 hm
      simp only at d0 d1 hm
      have HX := Lib.hid hx
      have HM := Lib.hid hm
      obtain ⟨T, hT⟩ : ∃ T, entryWordB ⟨p, m⟩ = T := ⟨_, rfl⟩
      have HT := Lib.hid hT
      have HWN : Hid ((xs ++ scells ((L.take k).map entryWordB)) ++ [.string T] = xs ++ scells ((L.take (k + 1)).map entryWordB)) := Lib.hid (by
        rw [take_more _ _ _ (by rw [HL.out]; exact hlt), HX.out, HT.out]
        simp [scells])
      have HBX : Hid (Below base W0 (wr.alloc (.cells #[.int .i64 p, .string m] 143))) := Lib.hid (HB.out.alloc HSZ.out _)
      have HWX := Lib.hid (HW.out.alloc (.cells #[.int .i64 p, .string m] 143))
      have HSX : Hid (base ≤ (wr.alloc (.cells #[.int .i64 p, .string m] 143)).heap.size) := Lib.hid (by have := HSZ.out; simp; omega)
      have HN2 : Hid (n0 + k + 1 ≤ 1000) := Lib.hid (by have := HN.out; omega)
      subst ha
      clear hx hm hT
      go_wp2_with (first
        | (go_at_call 186; (with_reducible refine (implEntryWord_any p m _ HM.out).mono ?_); rw [HT.out]; rintro e wa ⟨rfl, hb1⟩
           have HW1 := Lib.hid (own_below HWX.out hb1)
           have BG := Lib.hid (HBX.out.trans (hb1.mono HSX.out))
           have BS : Hid (base ≤ wa.heap.size) := Lib.hid (Nat.le_trans HSX.out hb1.size))
        | (at_builtin; refine wpList_append_own _ rfl (.tmp 15) (.tmp 19) 38 rfl base 9 i0 (.string ⟨#[]⟩) 1 16 Tryz.underlying38 hi hz0 hz1 hz2 rfl (by decide) _ _ _ rfl (HW1.out.alloc _) ⟨wa.heap.size, 0, none⟩ 1 1 [.string T] rfl rfl (World.news_of_block (heap_alloc_new _ _)) (by simp [Value.oneCell']) (by have := HN2.out; unfold maxLen; omega) (by have := HN2.out; omega) (by have := BS.out; simp; omega) ?_; intro v2 wb hown2 hgrow2 hn2))
      have BG3 := Lib.hid ((BG.out.alloc BS.out _).grown hgrow2 (by have := BS.out; simp; omega) (own_block_ge HW1.out))
      have BS3 : Hid (base ≤ wb.heap.size) := Lib.hid (by have h9 := hgrow2.size; have := BS.out; simp at h9; omega)
      rw [HWN.out] at hown2
      have HO2 := Lib.hid hown2
      clear hown2 hgrow2 hn2 HW1 BG BS HB HW
      go_roundw
      case rel => exact ⟨k + 1, by omega, by go_num, HO2, BG3, BS3⟩
      case measure => (simp [intOf]; try omega)
    · obtain rfl : k = n := by omega
      have h9 := HW.out
      rw [List.take_of_length_le (by rw [HL.out]; exact Nat.le_refl _)] at h9
      have HW2 := Lib.hid h9
      clear h9
      go_wp2
      go_ret
      exact ⟨_, rfl, HW2.out, HB.out, HSZ.out⟩

end Go.Proofs.YtkfkjcadmdcbnaaGreatDoor
namespace Go.Proofs.YtkfkjcadmdcbnaaGreatDoor
open Go.RowKit

theorem implPages_any (n : Int) (w : World) (h0 : -9223372036854775808 ≤ n) (h1 : n ≤ 9223372036854775807) : Calls Tryz.prog 111 #[.int .i64 n] w fun e w' => e = .returned (.int .i64 (pagesZ n)) ∧ w' = w := by
  by_cases h : n ≤ 0
  · have HE : Hid (pagesZ n = 0) := Lib.hid (if_pos h)
    go_enter Tryz.func111, Tryz.ntmps111
    go_wp2
    go_ret
    exact ⟨by rw [HE.out]; rfl, rfl⟩
  · have HE : Hid (pagesZ n = (n - 1) / 32 + 1) := Lib.hid (if_neg h)
    have hp : 1 ≤ n := by omega
    have hd : (n - 1) / 32 ≤ 288230376151711743 := by omega
    have hd0 : 0 ≤ (n - 1) / 32 := by omega
    go_enter Tryz.func111, Tryz.ntmps111
    go_wp2
    go_ret
    exact ⟨by rw [HE.out]; rfl, rfl⟩

end Go.Proofs.YtkfkjcadmdcbnaaGreatDoor
namespace Go.Proofs.YtkfkjcadmdcbnaaGreatDoor
open Go.RowKit Go.Proofs.YtkfkjcadmdcbnaaGreatDoor.Parts Go.Proofs.YtkfkjcadmdcbnaaGreatDoor.Hexa Go.Proofs.YtkfkjcadmdcbnaaGreatDoor.Byt

/-- Which pages the first k records have. -/
def takenB (R : List RecR) (k q : Nat) : Bool := (List.range k).any fun i => (R.getD i default).f0 == (q : Int)
theorem takenB_iff {R : List RecR} {k q : Nat} : takenB R k q = true ↔ ∃ i, i < k ∧ (R.getD i default).f0 = (q : Int) := by simp [takenB]
structure TakenTo (R : List RecR) (k : Nat) (cs : Array Value) : Prop where
  size : cs.size = 13
  cell : ∀ q, q < 13 → cs[q]? = some (.bool (takenB R k q))
theorem TakenTo.zero (R : List RecR) : TakenTo R 0 #[.bool false, .bool false, .bool false, .bool false, .bool false, .bool false, .bool false, .bool false, .bool false, .bool false, .bool false, .bool false, .bool false] :=
  ⟨rfl, fun q hq => by
    match q, hq with
    | 0, _ => rfl
    | 1, _ => rfl
    | 2, _ => rfl
    | 3, _ => rfl
    | 4, _ => rfl
    | 5, _ => rfl
    | 6, _ => rfl
    | 7, _ => rfl
    | 8, _ => rfl
    | 9, _ => rfl
    | 10, _ => rfl
    | 11, _ => rfl
    | 12, _ => rfl
    | q + 13, h => omega⟩
theorem takenB_next (R : List RecR) (k q p : Nat) (hp : (R.getD k default).f0 = (p : Int)) : takenB R (k + 1) q = (takenB R k q || decide (q = p)) := by
  unfold takenB
  rw [List.range_succ, List.any_append]
  simp only [List.any_cons, List.any_nil, Bool.or_false, hp]
  congr 1
  by_cases h : q = p
  · subst h; simp
  · simp [h]; omega
theorem TakenTo.next {R : List RecR} {k p : Nat} {cs : Array Value} (h : TakenTo R k cs) (hp : (R.getD k default).f0 = (p : Int)) (h12 : p < 13) : TakenTo R (k + 1) (cs.setIfInBounds p (.bool true)) :=
  ⟨by simp [h.size], fun q hq => by
    rw [takenB_next R k q p hp, Array.getElem?_setIfInBounds]
    by_cases e : p = q
    · subst e; simp [h.size, h12]
    · rw [if_neg e, h.cell q hq]
      have : ¬ q = p := fun x => e x.symm
      simp [this]⟩

section
variable (sz : Int) (key : ByteArray) (aR : Option Addr) (nR cR : Nat) (w : World) (R : List RecR)

set_option maxRecDepth 100000 in
set_option maxHeartbeats 1000000 in
theorem implFile_no (hz : -9223372036854775808 ≤ sz ∧ sz ≤ 9223372036854775807) (hno : ¬ ((0 ≤ sz ∧ sz ≤ 128) ∧ key.size = 8 ∧ (nR : Int) = pagesZ sz)) :
    Calls Tryz.prog 234 #[.agg #[.int .i64 sz, .string key, .slice aR nR cR]] w (SaysB false w) := by
  have HZ := Lib.hid hz
  have B0 := Lib.hid (below_bk w (.cells #[.int .i64 sz, .string key, .slice aR nR cR] 156))
  clear hz
  by_cases h1 : 0 ≤ sz ∧ sz ≤ 128
  · have H1 := Lib.hid h1
    by_cases h2 : key.size = 8
    · have e2 : ((key.size : Int) != 8) = false := by simp; omega
      have h3 : ¬ (nR : Int) = pagesZ sz := fun e => hno ⟨h1, h2, e⟩
      obtain ⟨p, hp⟩ : ∃ p, pagesZ sz = p := ⟨_, rfl⟩
      have HQ : Hid (∀ W : World, Calls Tryz.prog 111 #[.int .i64 sz] W fun e w' => e = .returned (.int .i64 p) ∧ w' = W) := Lib.hid (fun W => by
        rw [← hp]; exact implPages_any sz W HZ.out.1 HZ.out.2)
      rw [hp] at h3
      have e3 : ((nR : Int) != p) = true := by simpa using h3
      clear hno h1 h3 hp
      go_enter Tryz.func234, Tryz.ntmps234
      go_wp2
      go_quiet (first
        | (go_at_call 108; exact Calls.quiet_of_same (implIn_yes _ H1.out))
        | (go_at_call 111; exact Calls.quiet_of_same (HQ.out _)))
      go_wp2
      go_ret
      exact ⟨rfl, below_drewsN B0.out _⟩
    · have e2 : ((key.size : Int) != 8) = true := by have : ¬ ((key.size : Int) = 8) := by omega
                                                     simpa using this
      clear hno h1 h2
      go_enter Tryz.func234, Tryz.ntmps234
      go_wp2
      go_quiet ((go_at_call 108; exact Calls.quiet_of_same (implIn_yes _ H1.out)))
      go_wp2
      go_ret
      exact ⟨rfl, below_drewsN B0.out _⟩
  · have H1 := Lib.hid h1
    clear hno h1
    go_enter Tryz.func234, Tryz.ntmps234
    go_wp2
    go_quiet ((go_at_call 108; exact Calls.quiet_of_same (implIn_no _ H1.out)))
    go_wp2
    go_ret
    exact ⟨rfl, below_drewsN B0.out _⟩

set_option maxRecDepth 100000 in
set_option maxHeartbeats 2000000 in
theorem implFile_yes (h1 : 0 ≤ sz ∧ sz ≤ 128) (h2 : key.size = 8) (h3 : (nR : Int) = pagesZ sz) (hs : SrcRec w aR nR R) (hf : FitRec R nR 2000000) (b : Bool) (hb : b = true ↔ RecsOk R nR) :
    Calls Tryz.prog 234 #[.agg #[.int .i64 sz, .string key, .slice aR nR cR]] w (SaysB b w) := by
  have H1 := Lib.hid h1
  have HF := Lib.hid hf
  have HG := Lib.hid hb
  have B0 := Lib.hid (below_bk w (.cells #[.int .i64 sz, .string key, .slice aR nR cR] 156))
  have HS := Lib.hid hs
  have N0 : Hid ((w.alloc (.cells #[.int .i64 sz, .string key, .slice aR nR cR] 156)).heap.size = w.heap.size + 1) := Lib.hid (by simp)
  have e2 : ((key.size : Int) != 8) = false := by simp; omega
  have hn4 : nR ≤ 4 := by unfold pagesZ at h3; split at h3 <;> omega
  have HQ : Hid (∀ W : World, Calls Tryz.prog 111 #[.int .i64 sz] W fun e w' => e = .returned (.int .i64 nR) ∧ w' = W) := Lib.hid (fun W => by
    rw [h3]; exact implPages_any sz W (by omega) (by omega))
  clear h1 h2 h3 hs hf hb
  go_enter Tryz.func234, Tryz.ntmps234
  go_wp2
  go_quiet (first
    | (go_at_call 108; exact Calls.quiet_of_same (implIn_yes _ H1.out))
    | (go_at_call 111; exact Calls.quiet_of_same (HQ.out _)))
  go_wp2
  go_loopw [28] (fun iv wr => ∃ (k : Nat) (cs : Array Value), k ≤ nR ∧ iv = .int .i64 k ∧ Hid (RecsOk R k) ∧ Hid (TakenTo R k cs) ∧ Hid (Bk wr (w.heap.size + 1) cs 294) ∧ Hid (Below w.heap.size w wr)) (fun iv _ => nR - (intOf iv).toNat)
  case atStart =>
    exact ⟨0, _, Nat.zero_le _, rfl, Lib.hid (fun j hj => by omega), Lib.hid (TakenTo.zero R), Lib.hid (by rw [← N0.out]; exact Bk.alloc _ _ _), Lib.hid ((below_drewsN B0.out _).alloc B0.out.size _)⟩
  case round =>
    obtain ⟨k, cs, hk, rfl, HA, HT0, HK, HB⟩ := hrel
    by_cases hlt : k < nR
    · obtain ⟨g, off, ha, hg, d0, d1, d2⟩ := srcRec_later HS.out HB.out (Nat.le_refl _) k hlt
      obtain ⟨⟨p, q, m⟩, hx⟩ : ∃ x, R.getD k default = x := ⟨_, rfl⟩
      have hm := HF.out k hlt
      rw [hx] at d0 d1 d2 hm
      simp only at d0 d1 d2 hm
      have HX := Lib.hid hx
      have HM := Lib.hid hm
      have X0 := Lib.hid (Bk.alloc wr #[.int .i64 p, .int .i64 q, .string m] 139)
      have HKa := Lib.hid (HK.out.later (below_bk wr (.cells #[.int .i64 p, .int .i64 q, .string m] 139)))
      have HBa : Hid (Below w.heap.size w (wr.alloc (.cells #[.int .i64 p, .int .i64 q, .string m] 139))) := Lib.hid (HB.out.alloc HB.out.size _)
      have HNa : Hid (w.heap.size + 1 < wr.heap.size) := Lib.hid HK.out.lt
      subst ha
      clear hx hm
      by_cases i1 : RecOk ⟨p, q, m⟩
      · have hT8 := recWord_size i1
        have I1 := Lib.hid i1
        have hp1 : 1 ≤ p ∧ p ≤ 12 := i1.1
        obtain ⟨r, rfl⟩ : ∃ r : Nat, p = (r : Int) := ⟨p.toNat, by omega⟩
        have hr0 : 0 < r := by omega
        have hr12 : r < 13 := by omega
        obtain ⟨T, hT⟩ : ∃ T, recWordB ⟨(r : Int), q, m⟩ = T := ⟨_, rfl⟩
        have HT := Lib.hid hT
        rw [hT] at hT8
        have e1 : (T.toList == []) = false := text_full T (by omega)
        clear i1 hT hT8 hp1
        go_wp2_with fail
        refine (implRecWord_any (r : Int) q m _ HM.out).mono ?_
        rw [HT.out]
        rintro e w1 ⟨rfl, hb1⟩
        have X1 := Lib.hid (X0.out.later hb1)
        have K1 := Lib.hid (HKa.out.later hb1)
        have B1 : Hid (Below w.heap.size w w1) := Lib.hid (HBa.out.trans (hb1.mono HBa.out.size))
        have x0 := X1.out.cell (j := 0) rfl
        have f1 := K1.out.fr (o := r)
        have S1 : Hid (Bk (w1.setCell ⟨w.heap.size + 1, r, none⟩ (.bool true)) (w.heap.size + 1) (cs.setIfInBounds r (.bool true)) 294) := Lib.hid (K1.out.set r (.bool true))
        have B2 : Hid (Below w.heap.size w (w1.setCell ⟨w.heap.size + 1, r, none⟩ (.bool true))) := Lib.hid (B1.out.setCell (by simp) _)
        have HT2 := Lib.hid (HT0.out.next (p := r) (by rw [HX.out]) hr12)
        clear hb1 d0 d1 d2 HB HK HKa HBa
        by_cases i2 : takenB R k r = true
        · have k1 : w1.cell? ⟨w.heap.size + 1, r, none⟩ = some (.bool true) := by
            have h9 := K1.out.cell (HT0.out.cell r hr12)
            rw [i2] at h9; exact h9
          obtain rfl : b = false := bool_no HG.out (fun x => by
            obtain ⟨i, hi, he⟩ := takenB_iff.1 i2
            exact (x k hlt).2 i hi (by rw [he, HX.out]))
          clear i2
          go_wp2
          go_ret
          exact ⟨rfl, B1.out⟩
        · have k1 : w1.cell? ⟨w.heap.size + 1, r, none⟩ = some (.bool false) := by
            have h9 := K1.out.cell (HT0.out.cell r hr12)
            rw [show takenB R k r = false by simpa using i2] at h9; exact h9
          have HA2 : Hid (RecsOk R (k + 1)) := Lib.hid (recsOk_step HA.out (by rw [HX.out]; exact I1.out) (fun j hj e => i2 (takenB_iff.2 ⟨j, hj, by rw [e, HX.out]⟩)))
          clear i2
          go_wp2
          clear x0 f1 k1
          go_roundw
          case rel => exact ⟨k + 1, _, by omega, by go_num, HA2, HT2, S1, B2⟩
          case measure => (simp [intOf]; try omega)
      · have HT := Lib.hid (recWordB_no i1)
        obtain rfl : b = false := bool_no HG.out (fun x => i1 (by have h9 := (x k hlt).1; rw [HX.out] at h9; exact h9))
        clear i1
        go_wp2_with fail
        refine (implRecWord_any p q m _ HM.out).mono ?_
        rw [HT.out]
        rintro e w1 ⟨rfl, hb1⟩
        have B1 : Hid (Below w.heap.size w w1) := Lib.hid (HBa.out.trans (hb1.mono HBa.out.size))
        clear hb1 d0 d1 d2 HB HK HKa HBa
        go_wp2
        go_ret
        exact ⟨rfl, B1.out⟩
    · obtain rfl : k = nR := by omega
      obtain rfl : b = true := HG.out.2 HA.out
      go_wp2
      go_ret
      exact ⟨rfl, HB.out⟩
theorem implFile_any (hz : -9223372036854775808 ≤ sz ∧ sz ≤ 9223372036854775807) (hs : SrcRec w aR nR R) (hf : FitRec R nR 2000000) (b : Bool) (hb : b = true ↔ ((0 ≤ sz ∧ sz ≤ 128) ∧ key.size = 8 ∧ (nR : Int) = pagesZ sz ∧ RecsOk R nR)) :
    Calls Tryz.prog 234 #[.agg #[.int .i64 sz, .string key, .slice aR nR cR]] w (SaysB b w) := by
  by_cases h : (0 ≤ sz ∧ sz ≤ 128) ∧ key.size = 8 ∧ (nR : Int) = pagesZ sz
  · exact implFile_yes sz key aR nR cR w R h.1 h.2.1 h.2.2 hs hf b ⟨fun e => (hb.1 e).2.2.2, fun e => hb.2 ⟨h.1, h.2.1, h.2.2, e⟩⟩
  · obtain rfl : b = false := bool_no hb (fun x => h ⟨x.1, x.2.1, x.2.2.1⟩)
    exact implFile_no sz key aR nR cR w hz h
end
end Go.Proofs.YtkfkjcadmdcbnaaGreatDoor
namespace Go.Proofs.YtkfkjcadmdcbnaaGreatDoor
open Go.RowKit Go.Proofs.YtkfkjcadmdcbnaaGreatDoor.Parts Go.Proofs.YtkfkjcadmdcbnaaGreatDoor.Hexa Go.Proofs.YtkfkjcadmdcbnaaGreatDoor.Byt

/-- The name ahead of the k-th. -/
def prevT (E : List EntryR) (k : Nat) : ByteArray := if k = 0 then ⟨#[]⟩ else (E.getD (k - 1) default).f1
theorem prevT_next (E : List EntryR) (k : Nat) : prevT E (k + 1) = (E.getD k default).f1 := by unfold prevT; rw [if_neg (by omega)]; rfl
theorem text_first {m : ByteArray} (h : 0 < m.size) : textLt ⟨#[]⟩ m = true := by
  unfold textLt
  rw [Go.ByteArray.toList_eq, Go.ByteArray.toList_eq]
  have hl : 0 < m.data.toList.length := by simpa using h
  match m.data.toList, hl with
  | x :: r, _ => rfl
theorem entsOk_on {E : List EntryR} {m : Nat} (h : EntsOk E m) (h1 : EntryOk (E.getD m default)) (h2 : textLt (prevT E m) (E.getD m default).f1 = true) : EntsOk E (m + 1) :=
  entsOk_step h h1 (fun h0 => by unfold prevT at h2; rw [if_neg (by omega)] at h2; exact h2)
theorem entsOk_prev {E : List EntryR} {n k : Nat} (h : EntsOk E n) (hk : k < n) : textLt (prevT E k) (E.getD k default).f1 = true := by
  unfold prevT
  by_cases h0 : k = 0
  · rw [if_pos h0]; exact text_first (by have := (h k hk).1.2.1; omega)
  · rw [if_neg h0]; exact (h k hk).2 (by omega)

end Go.Proofs.YtkfkjcadmdcbnaaGreatDoor
namespace Go.Proofs.YtkfkjcadmdcbnaaGreatDoor
open Go.RowKit Go.Proofs.YtkfkjcadmdcbnaaGreatDoor.Parts Go.Proofs.YtkfkjcadmdcbnaaGreatDoor.Hexa Go.Proofs.YtkfkjcadmdcbnaaGreatDoor.Byt

theorem bytes_tri : ∀ a b : List UInt8, (Op.bytesLess b a = true ∧ Op.bytesLess a b = false ∧ (a == b) = false) ∨ (Op.bytesLess b a = false ∧ Op.bytesLess a b = true) ∨ (Op.bytesLess b a = false ∧ Op.bytesLess a b = false ∧ (a == b) = true)
  | [], [] => .inr (.inr ⟨rfl, rfl, rfl⟩)
  | [], y :: s => .inr (.inl ⟨rfl, rfl⟩)
  | x :: r, [] => .inl ⟨rfl, rfl, rfl⟩
  | x :: r, y :: s => by
    have ih := bytes_tri r s
    simp only [Op.bytesLess]
    by_cases h1 : x = y
    · subst h1
      have hl : ¬ (x < x) := UInt8.lt_irrefl x
      simpa [hl] using ih
    · rcases UInt8.lt_or_lt_of_ne h1 with h | h
      · have h2 : ¬ (y < x) := UInt8.not_lt.2 (UInt8.le_of_lt h)
        have h3 : ¬ (y = x) := fun e => h1 e.symm
        simp [h, h2, h1, h3]
      · have h2 : ¬ (x < y) := UInt8.not_lt.2 (UInt8.le_of_lt h)
        simp [h, h2, h1]
theorem text_tri (m u : ByteArray) : (textLt u m = true ∧ Op.bytesLess m.toList u.toList = false ∧ (m.toList == u.toList) = false) ∨ (textLt u m = false ∧ Op.bytesLess m.toList u.toList = true) ∨ (textLt u m = false ∧ Op.bytesLess m.toList u.toList = false ∧ (m.toList == u.toList) = true) :=
  bytes_tri m.toList u.toList
section
variable (aE : Option Addr) (nE cE : Nat) (w : World) (E : List EntryR)

set_option maxRecDepth 100000 in
set_option maxHeartbeats 2000000 in
theorem implDir_yes (h6 : nE ≤ 6) (hs : SrcEntry w aE nE E) (hf : FitEntry E nE 2000000) (b : Bool) (hb : b = true ↔ EntsOk E nE) :
    Calls Tryz.prog 235 #[.agg #[.slice aE nE cE]] w (SaysB b w) := by
  have HF := Lib.hid hf
  have HG := Lib.hid hb
  have B0 := Lib.hid (below_bk w (.cells #[.slice aE nE cE] 159))
  have HS := Lib.hid hs
  have e6 : decide ((6 : Int) < (nE : Int)) = false := by simp; omega
  clear hs hf hb
  go_enter Tryz.func235, Tryz.ntmps235
  go_wp2
  go_loopw [13, 3] (fun iv sv wr => ∃ (k : Nat) (u : ByteArray), k ≤ nE ∧ iv = .int .i64 k ∧ sv = .string u ∧ Hid (u = prevT E k) ∧ Hid (EntsOk E k) ∧ Hid (Below w.heap.size w wr)) (fun iv _ _ => nE - (intOf iv).toNat)
  case atStart => exact ⟨0, _, Nat.zero_le _, rfl, rfl, Lib.hid rfl, Lib.hid (fun j hj => by omega), B0⟩
  case round =>
    obtain ⟨k, u, hk, rfl, rfl, HU, HA, HB⟩ := hrel
    by_cases hlt : k < nE
    · obtain ⟨g, off, ha, hg, d0, d1⟩ := srcEntry_later HS.out HB.out (Nat.le_refl _) k hlt
      obtain ⟨⟨p, m⟩, hx⟩ : ∃ x, E.getD k default = x := ⟨_, rfl⟩
      have hm := HF.out k hlt
      rw [hx] at d0 d1 hm
      simp only at d0 d1 hm
      have HX := Lib.hid hx
      have HM := Lib.hid hm
      have X0 := Lib.hid (Bk.alloc wr #[.int .i64 p, .string m] 143)
      have HBa : Hid (Below w.heap.size w (wr.alloc (.cells #[.int .i64 p, .string m] 143))) := Lib.hid (HB.out.alloc HB.out.size _)
      subst ha
      clear hx hm
      by_cases i1 : EntryOk ⟨p, m⟩
      · have hT8 := entryWord_size i1
        have I1 := Lib.hid i1
        obtain ⟨T, hT⟩ : ∃ T, entryWordB ⟨p, m⟩ = T := ⟨_, rfl⟩
        have HT := Lib.hid hT
        rw [hT] at hT8
        have e1 : (T.toList == []) = false := text_full T (by omega)
        clear i1 hT hT8
        go_wp2_with fail
        refine (implEntryWord_any p m _ HM.out).mono ?_
        rw [HT.out]
        rintro e w1 ⟨rfl, hb1⟩
        have X1 := Lib.hid (X0.out.later hb1)
        have B1 : Hid (Below w.heap.size w w1) := Lib.hid (HBa.out.trans (hb1.mono HBa.out.size))
        have x1 := X1.out.cell (j := 1) rfl
        have HU2 : Hid (m = prevT E (k + 1)) := Lib.hid (by rw [prevT_next, HX.out])
        clear hb1 d0 d1 HB HBa
        rcases text_tri m u with ⟨i2, i3, i4⟩ | ⟨i2, i3⟩ | ⟨i2, i3, i4⟩
        · have HA2 : Hid (EntsOk E (k + 1)) := Lib.hid (entsOk_on HA.out (by rw [HX.out]; exact I1.out) (by rw [HX.out, ← HU.out]; exact i2))
          clear i2
          go_wp2
          clear x1 i3 i4
          go_roundw
          case rel => exact ⟨k + 1, _, by omega, by go_num, rfl, HU2, HA2, B1⟩
          case measure => (simp [intOf]; try omega)
        · obtain rfl : b = false := bool_no HG.out (fun x => by have h9 := entsOk_prev x hlt; rw [HX.out, ← HU.out] at h9; change textLt u m = true at h9; rw [i2] at h9; cases h9)
          clear i2
          go_wp2
          go_ret
          exact ⟨rfl, B1.out⟩
        · obtain rfl : b = false := bool_no HG.out (fun x => by have h9 := entsOk_prev x hlt; rw [HX.out, ← HU.out] at h9; change textLt u m = true at h9; rw [i2] at h9; cases h9)
          clear i2
          go_wp2
          go_ret
          exact ⟨rfl, B1.out⟩
      · have HT := Lib.hid (entryWordB_no i1)
        obtain rfl : b = false := bool_no HG.out (fun x => i1 (by have h9 := (x k hlt).1; rw [HX.out] at h9; exact h9))
        clear i1
        go_wp2_with fail
        refine (implEntryWord_any p m _ HM.out).mono ?_
        rw [HT.out]
        rintro e w1 ⟨rfl, hb1⟩
        have B1 : Hid (Below w.heap.size w w1) := Lib.hid (HBa.out.trans (hb1.mono HBa.out.size))
        clear hb1 d0 d1 HB HBa
        go_wp2
        go_ret
        exact ⟨rfl, B1.out⟩
    · obtain rfl : k = nE := by omega
      obtain rfl : b = true := HG.out.2 HA.out
      go_wp2
      go_ret
      exact ⟨rfl, HB.out⟩
theorem implDir_any (hn : nE ≤ 9223372036854775807) (hs : SrcEntry w aE nE E) (hf : FitEntry E nE 2000000) (b : Bool) (hb : b = true ↔ (nE ≤ 6 ∧ EntsOk E nE)) :
    Calls Tryz.prog 235 #[.agg #[.slice aE nE cE]] w (SaysB b w) := by
  by_cases h : nE ≤ 6
  · exact implDir_yes aE nE cE w E h hs hf b ⟨fun e => (hb.1 e).2, fun e => hb.2 ⟨h, e⟩⟩
  · obtain rfl : b = false := bool_no hb (fun x => h x.1)
    have B0 := Lib.hid (below_bk w (.cells #[.slice aE nE cE] 159))
    clear hb hs hf
    have h7 : (6 : Int) < (nE : Int) := by omega
    go_enter Tryz.func235, Tryz.ntmps235
    go_wp2
    go_ret
    exact ⟨rfl, B0.out⟩
end
end Go.Proofs.YtkfkjcadmdcbnaaGreatDoor
namespace Go.Proofs.YtkfkjcadmdcbnaaGreatDoor
open Go.RowKit Go.Proofs.YtkfkjcadmdcbnaaGreatDoor.Parts Go.Proofs.YtkfkjcadmdcbnaaGreatDoor.Hexa Go.Proofs.YtkfkjcadmdcbnaaGreatDoor.Byt

/-- What bodyOf returns. -/
def bodyV (kd sz : Int) (key : ByteArray) (aR : Option Addr) (nR cR : Nat) (aE : Option Addr) (nE cE : Nat) : Value :=
  if kd = 0 then .iface 204 (.agg #[]) else if kd = 1 then .iface 156 (.agg #[.int .i64 sz, .string key, .slice aR nR cR])
  else if kd = 2 then .iface 159 (.agg #[.slice aE nE cE]) else .nilIface

section
variable (kd sz gn : Int) (key : ByteArray) (aR : Option Addr) (nR cR : Nat) (aE : Option Addr) (nE cE : Nat) (w : World)

set_option maxRecDepth 100000 in
set_option maxHeartbeats 1000000 in
theorem implBody_any :
    Calls Tryz.prog 140 #[.agg #[.int .i64 kd, .int .i64 sz, .int .i64 gn, .string key, .slice aR nR cR, .slice aE nE cE]] w fun e w' => e = .returned (bodyV kd sz key aR nR cR aE nE cE) ∧ Below w.heap.size w w' := by
  have B0 := Lib.hid (below_bk w (inoObj kd sz gn key aR nR cR aE nE cE))
  by_cases h0 : kd = 0
  · subst h0
    go_enter Tryz.func140, Tryz.ntmps140
    go_wp2
    go_ret
    exact ⟨rfl, B0.out⟩
  · have e0 : (kd == 0) = false := by simpa using h0
    by_cases h1 : kd = 1
    · subst h1
      go_enter Tryz.func140, Tryz.ntmps140
      go_wp2
      go_ret
      exact ⟨rfl, B0.out⟩
    · have e1 : (kd == 1) = false := by simpa using h1
      by_cases h2 : kd = 2
      · subst h2
        go_enter Tryz.func140, Tryz.ntmps140
        go_wp2
        go_ret
        exact ⟨rfl, B0.out⟩
      · have e2 : (kd == 2) = false := by simpa using h2
        have HE : Hid (bodyV kd sz key aR nR cR aE nE cE = .nilIface) := Lib.hid (by unfold bodyV; rw [if_neg h0, if_neg h1, if_neg h2])
        clear h0 h1 h2
        go_enter Tryz.func140, Tryz.ntmps140
        go_wp2
        go_ret
        exact ⟨by rw [HE.out]; rfl, B0.out⟩
end
end Go.Proofs.YtkfkjcadmdcbnaaGreatDoor
namespace Go.Proofs.YtkfkjcadmdcbnaaGreatDoor
open Go.RowKit

theorem as_file (v : Value) (w : World) : (Instr.typeAssert (.iface 156 v) 153 156 true).run Tryz.prog w = .ok (.tuple #[v, .bool true]) w := by kernel_rfl
theorem as_dir (v : Value) (w : World) : (Instr.typeAssert (.iface 159 v) 153 159 true).run Tryz.prog w = .ok (.tuple #[v, .bool true]) w := by kernel_rfl
theorem as_free (v : Value) (w : World) : (Instr.typeAssert (.iface 204 v) 153 204 true).run Tryz.prog w = .ok (.tuple #[v, .bool true]) w := by kernel_rfl
theorem free_no_file (v : Value) (w : World) : (Instr.typeAssert (.iface 204 v) 153 156 true).run Tryz.prog w = .ok (.tuple #[.agg #[.int .i64 0, .string ⟨#[]⟩, .slice none 0 0], .bool false]) w := by kernel_rfl
theorem dir_no_file (v : Value) (w : World) : (Instr.typeAssert (.iface 159 v) 153 156 true).run Tryz.prog w = .ok (.tuple #[.agg #[.int .i64 0, .string ⟨#[]⟩, .slice none 0 0], .bool false]) w := by kernel_rfl
theorem nil_no_file (w : World) : (Instr.typeAssert .nilIface 153 156 true).run Tryz.prog w = .ok (.tuple #[.agg #[.int .i64 0, .string ⟨#[]⟩, .slice none 0 0], .bool false]) w := by kernel_rfl
theorem free_no_dir (v : Value) (w : World) : (Instr.typeAssert (.iface 204 v) 153 159 true).run Tryz.prog w = .ok (.tuple #[.agg #[.slice none 0 0], .bool false]) w := by kernel_rfl
theorem nil_no_dir (w : World) : (Instr.typeAssert .nilIface 153 159 true).run Tryz.prog w = .ok (.tuple #[.agg #[.slice none 0 0], .bool false]) w := by kernel_rfl
theorem nil_no_free (w : World) : (Instr.typeAssert .nilIface 153 204 true).run Tryz.prog w = .ok (.tuple #[.agg #[], .bool false]) w := by kernel_rfl
end Go.Proofs.YtkfkjcadmdcbnaaGreatDoor
namespace Go.Proofs.YtkfkjcadmdcbnaaGreatDoor
open Go.RowKit Go.Proofs.YtkfkjcadmdcbnaaGreatDoor.Parts Go.Proofs.YtkfkjcadmdcbnaaGreatDoor.Hexa Go.Proofs.YtkfkjcadmdcbnaaGreatDoor.Byt

theorem bool_of (p : Prop) : ∃ b : Bool, b = true ↔ p := by
  by_cases h : p
  · exact ⟨true, by simp [h]⟩
  · exact ⟨false, by simp [h]⟩
theorem noFile_cases (sz : Int) (key : ByteArray) (nR : Nat) : (sz = 0 ∧ key = ⟨#[]⟩ ∧ nR = 0) ∨ (sz = 0 ∧ key = ⟨#[]⟩ ∧ 0 < nR) ∨ (sz = 0 ∧ 0 < key.size) ∨ sz ≠ 0 := by
  by_cases h1 : sz = 0
  · by_cases h2 : key.size = 0
    · obtain rfl := text_nothing h2
      by_cases h3 : nR = 0
      · exact .inl ⟨h1, rfl, h3⟩
      · exact .inr (.inl ⟨h1, rfl, by omega⟩)
    · exact .inr (.inr (.inl ⟨h1, by omega⟩))
  · exact .inr (.inr (.inr h1))
/-- Neither a size nor a key nor records. -/
def noFileB (sz : Int) (key : ByteArray) (nR : Nat) : Bool := decide (sz = 0 ∧ key.size = 0 ∧ nR = 0)

section
variable (sz gn : Int) (key : ByteArray) (aR : Option Addr) (nR cR : Nat) (aE : Option Addr) (nE cE : Nat) (w : World)

set_option maxRecDepth 100000 in
set_option maxHeartbeats 1000000 in
theorem implIno_gen (kd : Int) (h : ¬ (0 ≤ gn ∧ gn ≤ 65535)) :
    Calls Tryz.prog 187 #[.agg #[.int .i64 kd, .int .i64 sz, .int .i64 gn, .string key, .slice aR nR cR, .slice aE nE cE]] w (SaysB false w) := by
  have H0 := Lib.hid h
  have B0 := Lib.hid (below_bk w (inoObj kd sz gn key aR nR cR aE nE cE))
  clear h
  go_enter Tryz.func187, Tryz.ntmps187
  go_wp2_with ((with_reducible refine (implIn_no _ H0.out).mono ?_); rintro e w1 ⟨rfl, rfl⟩)
  go_ret
  exact ⟨rfl, B0.out⟩

set_option maxRecDepth 100000 in
set_option maxHeartbeats 1000000 in
theorem implIno_free (h : 0 ≤ gn ∧ gn ≤ 65535) (b : Bool) (hb : b = true ↔ (noFileB sz key nR = true ∧ nE = 0)) :
    Calls Tryz.prog 187 #[.agg #[.int .i64 0, .int .i64 sz, .int .i64 gn, .string key, .slice aR nR cR, .slice aE nE cE]] w (SaysB b w) := by
  have H0 := Lib.hid h
  have HG := Lib.hid hb
  have K0 := Lib.hid (Bk.alloc w (inoCs 0 sz gn key aR nR cR aE nE cE) 102)
  have B0 := Lib.hid (below_bk w (inoObj 0 sz gn key aR nR cR aE nE cE))
  have HC : Hid (∀ W : World, Calls Tryz.prog 140 #[.agg #[.int .i64 0, .int .i64 sz, .int .i64 gn, .string key, .slice aR nR cR, .slice aE nE cE]] W fun e w' => e = .returned (.iface 204 (.agg #[])) ∧ Below W.heap.size W w') := Lib.hid (fun W => implBody_any 0 sz gn key aR nR cR aE nE cE W)
  clear h hb
  go_enter Tryz.func187, Tryz.ntmps187
  go_upto_region 3 with ((with_reducible refine (implIn_yes _ H0.out).mono ?_); rintro e w1 ⟨rfl, rfl⟩)
  go_cut [3] (fun v wx => v = .bool (noFileB sz key nR) ∧ wx = w.alloc (inoObj 0 sz gn key aR nR cR aE nE cE))
  case first =>
    rcases noFile_cases sz key nR with ⟨rfl, rfl, rfl⟩ | ⟨rfl, rfl, h3⟩ | ⟨rfl, h3⟩ | h3
    · go_wp2_with fail
      go_meet
      exact ⟨rfl, rfl⟩
    · have e3 : ((nR : Int) == 0) = false := by simp; omega
      have HF9 : Hid (noFileB 0 ⟨#[]⟩ nR = false) := Lib.hid (decide_eq_false (fun x => by omega))
      go_wp2_with fail
      go_meet
      exact ⟨by rw [HF9.out], rfl⟩
    · have e4 : (key.toList == []) = false := text_full key (by omega)
      have HF9 : Hid (noFileB 0 key nR = false) := Lib.hid (decide_eq_false (fun x => by omega))
      go_wp2_with fail
      go_meet
      exact ⟨by rw [HF9.out], rfl⟩
    · have e4 : (sz == 0) = false := by simpa using h3
      have HF9 : Hid (noFileB sz key nR = false) := Lib.hid (decide_eq_false (fun x => h3 x.1))
      clear h3
      go_wp2_with fail
      go_meet
      exact ⟨by rw [HF9.out], rfl⟩
  case rest =>
    obtain ⟨rfl, rfl⟩ := hcut
    go_wp2_with fail
    refine (HC.out _).mono ?_
    rintro e w1 ⟨rfl, hb1⟩
    have B1 : Hid (Below w.heap.size w w1) := Lib.hid (B0.out.trans (hb1.mono B0.out.size))
    clear hb1
    have a1 := free_no_file (.agg #[]) w1
    have a2 := free_no_dir (.agg #[]) w1
    have a3 := as_free (.agg #[]) w1
    have e9 : ((nE : Int) == 0) = decide (nE = 0) := by by_cases h : nE = 0 <;> simp [h]
    obtain ⟨f, hf⟩ : ∃ f, noFileB sz key nR = f := ⟨_, rfl⟩
    rw [hf] at HG ⊢
    clear hf
    cases f
    · obtain rfl : b = false := bool_no HG.out (fun x => by cases x.1)
      go_wp2
      go_ret
      exact ⟨rfl, B1.out.alloc B1.out.size _⟩
    · obtain rfl : b = decide (nE = 0) := by
        by_cases h : nE = 0
        · rw [HG.out.2 ⟨rfl, h⟩, decide_eq_true h]
        · rw [bool_no HG.out (fun x => h x.2), decide_eq_false h]
      go_wp2
      go_ret
      exact ⟨rfl, B1.out.alloc B1.out.size _⟩

set_option maxRecDepth 100000 in
set_option maxHeartbeats 1000000 in
theorem implIno_file (h : 0 ≤ gn ∧ gn ≤ 65535) (R : List RecR) (hz : -9223372036854775808 ≤ sz ∧ sz ≤ 9223372036854775807) (hs : SrcRec w aR nR R) (hf : FitRec R nR 2000000) (b : Bool)
    (hb : b = true ↔ (((0 ≤ sz ∧ sz ≤ 128) ∧ key.size = 8 ∧ (nR : Int) = pagesZ sz ∧ RecsOk R nR) ∧ nE = 0)) :
    Calls Tryz.prog 187 #[.agg #[.int .i64 1, .int .i64 sz, .int .i64 gn, .string key, .slice aR nR cR, .slice aE nE cE]] w (SaysB b w) := by
  obtain ⟨b1, hb1⟩ : ∃ b1 : Bool, b1 = true ↔ ((0 ≤ sz ∧ sz ≤ 128) ∧ key.size = 8 ∧ (nR : Int) = pagesZ sz ∧ RecsOk R nR) := bool_of _
  have hb2 : b = true ↔ (b1 = true ∧ nE = 0) := by rw [hb, hb1]
  have H0 := Lib.hid h
  have HG := Lib.hid hb2
  have HG1 := Lib.hid hb1
  have HZ := Lib.hid hz
  have HS := Lib.hid hs
  have HF := Lib.hid hf
  have K0 := Lib.hid (Bk.alloc w (inoCs 1 sz gn key aR nR cR aE nE cE) 102)
  have B0 := Lib.hid (below_bk w (inoObj 1 sz gn key aR nR cR aE nE cE))
  have HC : Hid (∀ W : World, Calls Tryz.prog 140 #[.agg #[.int .i64 1, .int .i64 sz, .int .i64 gn, .string key, .slice aR nR cR, .slice aE nE cE]] W fun e w' => e = .returned (.iface 156 (.agg #[.int .i64 sz, .string key, .slice aR nR cR])) ∧ Below W.heap.size W w') := Lib.hid (fun W => implBody_any 1 sz gn key aR nR cR aE nE cE W)
  clear h hb hb1 hb2 hz hs hf
  go_enter Tryz.func187, Tryz.ntmps187
  go_upto_region 3 with ((with_reducible refine (implIn_yes _ H0.out).mono ?_); rintro e w1 ⟨rfl, rfl⟩)
  go_cut [3] (fun v wx => v = .bool (noFileB sz key nR) ∧ wx = w.alloc (inoObj 1 sz gn key aR nR cR aE nE cE))
  case first =>
    rcases noFile_cases sz key nR with ⟨rfl, rfl, rfl⟩ | ⟨rfl, rfl, h3⟩ | ⟨rfl, h3⟩ | h3
    · go_wp2_with fail
      go_meet
      exact ⟨rfl, rfl⟩
    · have e3 : ((nR : Int) == 0) = false := by simp; omega
      have HF9 : Hid (noFileB 0 ⟨#[]⟩ nR = false) := Lib.hid (decide_eq_false (fun x => by omega))
      go_wp2_with fail
      go_meet
      exact ⟨by rw [HF9.out], rfl⟩
    · have e4 : (key.toList == []) = false := text_full key (by omega)
      have HF9 : Hid (noFileB 0 key nR = false) := Lib.hid (decide_eq_false (fun x => by omega))
      go_wp2_with fail
      go_meet
      exact ⟨by rw [HF9.out], rfl⟩
    · have e4 : (sz == 0) = false := by simpa using h3
      have HF9 : Hid (noFileB sz key nR = false) := Lib.hid (decide_eq_false (fun x => h3 x.1))
      clear h3
      go_wp2_with fail
      go_meet
      exact ⟨by rw [HF9.out], rfl⟩
  case rest =>
    obtain ⟨rfl, rfl⟩ := hcut
    go_wp2_with fail
    refine (HC.out _).mono ?_
    rintro e w1 ⟨rfl, hb1⟩
    have B1 : Hid (Below w.heap.size w w1) := Lib.hid (B0.out.trans (hb1.mono B0.out.size))
    clear hb1
    have a1 := as_file (.agg #[.int .i64 sz, .string key, .slice aR nR cR]) w1
    have e9 : ((nE : Int) == 0) = decide (nE = 0) := by by_cases h : nE = 0 <;> simp [h]
    have B2 : Hid (Below w.heap.size w (w1.alloc (.cells #[.int .i64 sz, .string key, .slice aR nR cR] 156))) := Lib.hid (B1.out.alloc B1.out.size _)
    go_wp2_with fail
    refine (implFile_any sz key aR nR cR _ R HZ.out (HS.out.later B2.out) HF.out b1 HG1.out).mono ?_
    rintro e w2 ⟨rfl, hb2⟩
    have B3 : Hid (Below w.heap.size w w2) := Lib.hid (B2.out.trans (hb2.mono B2.out.size))
    clear hb2 HG1
    cases b1
    · obtain rfl : b = false := bool_no HG.out (fun x => by cases x.1)
      go_wp2
      go_ret
      exact ⟨rfl, B3.out⟩
    · obtain rfl : b = decide (nE = 0) := by
        by_cases h : nE = 0
        · rw [HG.out.2 ⟨rfl, h⟩, decide_eq_true h]
        · rw [bool_no HG.out (fun x => h x.2), decide_eq_false h]
      go_wp2
      go_ret
      exact ⟨rfl, B3.out⟩

set_option maxRecDepth 100000 in
set_option maxHeartbeats 1000000 in
theorem implIno_dir (h : 0 ≤ gn ∧ gn ≤ 65535) (E : List EntryR) (hn : nE ≤ 9223372036854775807) (hs : SrcEntry w aE nE E) (hf : FitEntry E nE 2000000) (b : Bool)
    (hb : b = true ↔ ((nE ≤ 6 ∧ EntsOk E nE) ∧ noFileB sz key nR = true)) :
    Calls Tryz.prog 187 #[.agg #[.int .i64 2, .int .i64 sz, .int .i64 gn, .string key, .slice aR nR cR, .slice aE nE cE]] w (SaysB b w) := by
  obtain ⟨b1, hb1⟩ : ∃ b1 : Bool, b1 = true ↔ (nE ≤ 6 ∧ EntsOk E nE) := bool_of _
  have hb2 : b = true ↔ (b1 = true ∧ noFileB sz key nR = true) := by rw [hb, hb1]
  have H0 := Lib.hid h
  have HG := Lib.hid hb2
  have HG1 := Lib.hid hb1
  have HN := Lib.hid hn
  have HS := Lib.hid hs
  have HF := Lib.hid hf
  have K0 := Lib.hid (Bk.alloc w (inoCs 2 sz gn key aR nR cR aE nE cE) 102)
  have B0 := Lib.hid (below_bk w (inoObj 2 sz gn key aR nR cR aE nE cE))
  have HC : Hid (∀ W : World, Calls Tryz.prog 140 #[.agg #[.int .i64 2, .int .i64 sz, .int .i64 gn, .string key, .slice aR nR cR, .slice aE nE cE]] W fun e w' => e = .returned (.iface 159 (.agg #[.slice aE nE cE])) ∧ Below W.heap.size W w') := Lib.hid (fun W => implBody_any 2 sz gn key aR nR cR aE nE cE W)
  clear h hb hb1 hb2 hn hs hf
  go_enter Tryz.func187, Tryz.ntmps187
  go_upto_region 3 with ((with_reducible refine (implIn_yes _ H0.out).mono ?_); rintro e w1 ⟨rfl, rfl⟩)
  go_cut [3] (fun v wx => v = .bool (noFileB sz key nR) ∧ wx = w.alloc (inoObj 2 sz gn key aR nR cR aE nE cE))
  case first =>
    rcases noFile_cases sz key nR with ⟨rfl, rfl, rfl⟩ | ⟨rfl, rfl, h3⟩ | ⟨rfl, h3⟩ | h3
    · go_wp2_with fail
      go_meet
      exact ⟨rfl, rfl⟩
    · have e3 : ((nR : Int) == 0) = false := by simp; omega
      have HF9 : Hid (noFileB 0 ⟨#[]⟩ nR = false) := Lib.hid (decide_eq_false (fun x => by omega))
      go_wp2_with fail
      go_meet
      exact ⟨by rw [HF9.out], rfl⟩
    · have e4 : (key.toList == []) = false := text_full key (by omega)
      have HF9 : Hid (noFileB 0 key nR = false) := Lib.hid (decide_eq_false (fun x => by omega))
      go_wp2_with fail
      go_meet
      exact ⟨by rw [HF9.out], rfl⟩
    · have e4 : (sz == 0) = false := by simpa using h3
      have HF9 : Hid (noFileB sz key nR = false) := Lib.hid (decide_eq_false (fun x => h3 x.1))
      clear h3
      go_wp2_with fail
      go_meet
      exact ⟨by rw [HF9.out], rfl⟩
  case rest =>
    obtain ⟨rfl, rfl⟩ := hcut
    go_wp2_with fail
    refine (HC.out _).mono ?_
    rintro e w1 ⟨rfl, hb1⟩
    have B1 : Hid (Below w.heap.size w w1) := Lib.hid (B0.out.trans (hb1.mono B0.out.size))
    clear hb1
    have a1 := dir_no_file (.agg #[.slice aE nE cE]) w1
    have a2 := as_dir (.agg #[.slice aE nE cE]) w1
    have B2 : Hid (Below w.heap.size w (w1.alloc (.cells #[.slice aE nE cE] 159))) := Lib.hid (B1.out.alloc B1.out.size _)
    go_wp2_with fail
    refine (implDir_any aE nE cE _ E HN.out (HS.out.later B2.out) HF.out b1 HG1.out).mono ?_
    rintro e w2 ⟨rfl, hb2⟩
    have B3 : Hid (Below w.heap.size w w2) := Lib.hid (B2.out.trans (hb2.mono B2.out.size))
    clear hb2 HG1
    obtain ⟨f, hf⟩ : ∃ f, noFileB sz key nR = f := ⟨_, rfl⟩
    rw [hf] at HG ⊢
    clear hf
    cases b1
    · obtain rfl : b = false := bool_no HG.out (fun x => by cases x.1)
      go_wp2
      go_ret
      exact ⟨rfl, B3.out⟩
    · obtain rfl : b = f := by
        cases f
        · exact bool_no HG.out (fun x => by cases x.2)
        · exact HG.out.2 ⟨rfl, rfl⟩
      go_wp2
      go_ret
      exact ⟨rfl, B3.out⟩

set_option maxRecDepth 100000 in
set_option maxHeartbeats 1000000 in
theorem implIno_other (kd : Int) (h : 0 ≤ gn ∧ gn ≤ 65535) (h0 : ¬ kd = 0) (h1 : ¬ kd = 1) (h2 : ¬ kd = 2) :
    Calls Tryz.prog 187 #[.agg #[.int .i64 kd, .int .i64 sz, .int .i64 gn, .string key, .slice aR nR cR, .slice aE nE cE]] w (SaysB false w) := by
  have H0 := Lib.hid h
  have K0 := Lib.hid (Bk.alloc w (inoCs kd sz gn key aR nR cR aE nE cE) 102)
  have B0 := Lib.hid (below_bk w (inoObj kd sz gn key aR nR cR aE nE cE))
  have HC : Hid (∀ W : World, Calls Tryz.prog 140 #[.agg #[.int .i64 kd, .int .i64 sz, .int .i64 gn, .string key, .slice aR nR cR, .slice aE nE cE]] W fun e w' => e = .returned (.nilIface) ∧ Below W.heap.size W w') := Lib.hid (fun W => by have h9 := implBody_any kd sz gn key aR nR cR aE nE cE W; unfold bodyV at h9; rw [if_neg h0, if_neg h1, if_neg h2] at h9; exact h9)
  clear h h0 h1 h2
  go_enter Tryz.func187, Tryz.ntmps187
  go_upto_region 3 with ((with_reducible refine (implIn_yes _ H0.out).mono ?_); rintro e w1 ⟨rfl, rfl⟩)
  go_cut [3] (fun v wx => v = .bool (noFileB sz key nR) ∧ wx = w.alloc (inoObj kd sz gn key aR nR cR aE nE cE))
  case first =>
    rcases noFile_cases sz key nR with ⟨rfl, rfl, rfl⟩ | ⟨rfl, rfl, h3⟩ | ⟨rfl, h3⟩ | h3
    · go_wp2_with fail
      go_meet
      exact ⟨rfl, rfl⟩
    · have e3 : ((nR : Int) == 0) = false := by simp; omega
      have HF9 : Hid (noFileB 0 ⟨#[]⟩ nR = false) := Lib.hid (decide_eq_false (fun x => by omega))
      go_wp2_with fail
      go_meet
      exact ⟨by rw [HF9.out], rfl⟩
    · have e4 : (key.toList == []) = false := text_full key (by omega)
      have HF9 : Hid (noFileB 0 key nR = false) := Lib.hid (decide_eq_false (fun x => by omega))
      go_wp2_with fail
      go_meet
      exact ⟨by rw [HF9.out], rfl⟩
    · have e4 : (sz == 0) = false := by simpa using h3
      have HF9 : Hid (noFileB sz key nR = false) := Lib.hid (decide_eq_false (fun x => h3 x.1))
      clear h3
      go_wp2_with fail
      go_meet
      exact ⟨by rw [HF9.out], rfl⟩
  case rest =>
    obtain ⟨rfl, rfl⟩ := hcut
    go_wp2_with fail
    refine (HC.out _).mono ?_
    rintro e w1 ⟨rfl, hb1⟩
    have B1 : Hid (Below w.heap.size w w1) := Lib.hid (B0.out.trans (hb1.mono B0.out.size))
    clear hb1
    have a1 := nil_no_file w1
    have a2 := nil_no_dir w1
    have a3 := nil_no_free w1
    go_wp2
    go_ret
    exact ⟨rfl, B1.out⟩
end

theorem implIno_any (kd sz gn : Int) (key : ByteArray) (aR : Option Addr) (nR cR : Nat) (aE : Option Addr) (nE cE : Nat) (w : World) (R : List RecR) (E : List EntryR)
    (hz : -9223372036854775808 ≤ sz ∧ sz ≤ 9223372036854775807) (hn : nE ≤ 9223372036854775807) (hs : SrcRec w aR nR R) (hf : FitRec R nR 2000000) (hs' : SrcEntry w aE nE E) (hf' : FitEntry E nE 2000000) :
    Calls Tryz.prog 187 #[.agg #[.int .i64 kd, .int .i64 sz, .int .i64 gn, .string key, .slice aR nR cR, .slice aE nE cE]] w (SaysB (inoB ⟨kd, sz, gn, key, R, E⟩) w) := by
  have hlR : R.length = nR := hs.len
  have hlE : E.length = nE := hs'.len
  by_cases hg : 0 ≤ gn ∧ gn ≤ 65535
  · by_cases h0 : kd = 0
    · subst h0
      exact implIno_free sz gn key aR nR cR aE nE cE w hg _ (by rw [inoB_iff, inoOk_free hg]; subst hlR hlE; simp [noFileB, and_assoc])
    · by_cases h1 : kd = 1
      · subst h1
        exact implIno_file sz gn key aR nR cR aE nE cE w hg R hz hs hf _ (by
          rw [inoB_iff, inoOk_file hg]
          subst hlR hlE
          exact ⟨fun x => ⟨⟨x.1, x.2.1, x.2.2.1, x.2.2.2.2⟩, x.2.2.2.1⟩, fun x => ⟨x.1.1, x.1.2.1, x.1.2.2.1, x.2, x.1.2.2.2⟩⟩)
      · by_cases h2 : kd = 2
        · subst h2
          exact implIno_dir sz gn key aR nR cR aE nE cE w hg E hn hs' hf' _ (by
            rw [inoB_iff, inoOk_dir hg]
            subst hlR hlE
            simp only [noFileB, decide_eq_true_eq]
            exact ⟨fun x => ⟨⟨x.2.2.2.1, x.2.2.2.2⟩, x.1, x.2.1, x.2.2.1⟩, fun x => ⟨x.2.1, x.2.2.1, x.2.2.2, x.1.1, x.1.2⟩⟩)
        · rw [inoB_no (fun x => by
            rcases x with ⟨_, ⟨e, _⟩ | ⟨e, _⟩ | ⟨e, _⟩⟩
            · exact h0 e
            · exact h1 e
            · exact h2 e)]
          exact implIno_other sz gn key aR nR cR aE nE cE w kd hg h0 h1 h2
  · rw [inoB_no (fun x => hg x.1)]
    exact implIno_gen sz gn key aR nR cR aE nE cE w kd hg
end Go.Proofs.YtkfkjcadmdcbnaaGreatDoor
namespace Go.Proofs.YtkfkjcadmdcbnaaGreatDoor
open Go.RowKit Go.Proofs.YtkfkjcadmdcbnaaGreatDoor.Hexa Go.Proofs.YtkfkjcadmdcbnaaGreatDoor.Byt Go.Proofs.YtkfkjcadmdcbnaaGreatDoor.BitsM

set_option maxRecDepth 100000 in
set_option maxHeartbeats 1000000 in
theorem implZero_any (n : Int) (w : World) :
    Calls Tryz.prog 190 #[.int .i64 n] w fun e w' => e = .returned (.string (zeroB n)) ∧ Below w.heap.size w w' := by
  by_cases h : 0 ≤ n ∧ n ≤ 20000
  · obtain ⟨i0, hi, hz0, hz1, hz2⟩ := info_parts infoByte
    have HE : Hid (zeroB n = longB n.toNat 0) := Lib.hid (if_pos h)
    obtain ⟨k, rfl⟩ : ∃ k : Nat, n = k := ⟨n.toNat, by omega⟩
    have hk : k ≤ 20000 := by omega
    clear h
    go_enter Tryz.func190, Tryz.ntmps190
    go_wp2_with (at_make; refine wpList_make_full _ rfl _ _ 22 rfl w.heap.size 5 i0 (.int .u8 0) 1 Tryz.underlying22 hi hz0 hz1 .i64 .i64 _ _ k rfl rfl rfl rfl (by rw [hz2]; omega) (by unfold maxLen; omega) (Nat.le_refl _) ?_; intro w0 hown0 hgrow0; rw [made_zero] at hown0; have hconv := own_string (P := Tryz.prog) 22 9 Tryz.underlying22 Tryz.underlying5 Tryz.underlying9 hown0)
    have hg0 : Below w.heap.size w w0 := (Below.refl _ _).grown hgrow0 (Nat.le_refl _) (fun k h => by cases h)
    go_ret
    exact ⟨by rw [HE.out]; rfl, hg0⟩
  · have HE : Hid (zeroB n = ⟨#[]⟩) := Lib.hid (if_neg h)
    by_cases h0 : n < 0
    · go_enter Tryz.func190, Tryz.ntmps190
      go_wp2
      go_ret
      exact ⟨by rw [HE.out]; rfl, Below.refl _ _⟩
    · have h1 : 20000 < n := by omega
      clear h
      go_enter Tryz.func190, Tryz.ntmps190
      go_wp2
      go_ret
      exact ⟨by rw [HE.out]; rfl, Below.refl _ _⟩

end Go.Proofs.YtkfkjcadmdcbnaaGreatDoor
