/- Merged texts: SplitImpl, SplitLib, RangeImpl, NameImpl, Clone, NamesImpl, ErrAs, PathImpl, JoinImpl, PathImplB, VwKidsI, KidsFacts, TItemHS, TViewH, TItemMS, TViewM, VwFacts, TItemZ, TItemZS, TViewZ, TItemC, TItemCS. -/
import Derived.Test.YtkfkjcadmdcbnaaDoorPKB
import Derived.WalkKit
import Derived.WalkSpells
import Derived.Lib.Hide
import Derived.Test.YtkfkjcadmdcbnaaDoorShelfP
import Derived.Lib.IndexBytes
import Derived.Test.YtkfkjcadmdcbnaaDoorRows
import Derived.RowKit3
import Derived.Test.YtkfkjcadmdcbnaaDoorShelf
import Derived.LaidEql
import Derived.Stop.Asserts
import Derived.RowKitTokens
import Derived.Below
import Derived.Test.YtkfkjcadmdcbnaaDoorShelfJ
namespace Go.Proofs.YtkfkjcadmdcbnaaDoor
open Go.RowKit Go.Proofs.YtkfkjcadmdcbnaaDoor.Parts Go.Proofs.YtkfkjcadmdcbnaaDoor.Hexa

theorem head_cut {s : ByteArray} (h : headOk s = true) : 1 ≤ s.size ∧ s.extract 0 1 = ⟨#[47]⟩ := by
  obtain ⟨⟨l⟩⟩ := s
  cases l with
  | nil => simp [headOk] at h
  | cons a r =>
    have ha : a = 47 := by simpa [headOk] using h
    subst ha
    refine ⟨by simp [ByteArray.size], ?_⟩
    rw [Lib.extract_eq]
    rfl
theorem head_cut_no {s : ByteArray} (h : headOk s = false) (h1 : 1 ≤ s.size) : ¬ s.extract 0 1 = ⟨#[47]⟩ := by
  intro e
  obtain ⟨⟨l⟩⟩ := s
  cases l with
  | nil => simp [ByteArray.size] at h1
  | cons a r =>
    rw [Lib.extract_eq] at e
    have ha : a = 47 := by simpa using congrArg (fun x : ByteArray => x.data.toList) e
    subst ha
    simp [headOk] at h
theorem rest_data (s : ByteArray) : (s.extract 1 s.size).data.toList = tailL s := by
  rw [Lib.extract_data]
  unfold tailL
  rw [List.take_of_length_le (by rw [List.length_drop, ← Lib.size_eq]; omega)]

set_option maxRecDepth 100000 in
set_option maxHeartbeats 1000000 in
theorem hasPrefix_any (s : ByteArray) (w : World) : Calls Tryd.prog 89 #[.string s, .string ⟨#[47]⟩] w fun e w' => e = .returned (.bool (headOk s)) ∧ w' = w := by
  by_cases h1 : 1 ≤ s.size
  · cases hh : headOk s with
    | true =>
      obtain ⟨_, h2⟩ := head_cut hh
      have h3 : ((s.extract 0 1).toList == [47]) = true := by rw [h2, Go.ByteArray.toList_eq]; rfl
      go_enter Tryd.func89, Tryd.ntmps89
      go_wp2
      go_ret
      exact ⟨by first | rfl | (rw [h3]; rfl) | (simp [h3]), rfl⟩
    | false =>
      have h2 := head_cut_no hh h1
      have h3 : ((s.extract 0 1).toList == [47]) = false := by rw [← slash_list]; exact text_neB h2
      go_enter Tryd.func89, Tryd.ntmps89
      go_wp2
      go_ret
      exact ⟨by first | rfl | (rw [h3]; rfl) | (simp [h3]), rfl⟩
  · have hh := headOk_none (show s.size = 0 by omega)
    have h0 : s.size = 0 := by omega
    rw [hh]
    go_enter Tryd.func89, Tryd.ntmps89
    go_wp2
    go_ret
    exact ⟨rfl, rfl⟩
/-- What is left of a path behind its first slash. -/
def CutIs (s : ByteArray) (w : World) (e : Ending) (w' : World) : Prop :=
  ((headOk s = true ∧ e = .returned (.tuple #[.string (s.extract 1 s.size), .bool true])) ∨ (headOk s = false ∧ e = .returned (.tuple #[.string s, .bool false]))) ∧ w' = w
set_option maxRecDepth 100000 in
set_option maxHeartbeats 1000000 in
theorem cutLite_any (s : ByteArray) (w : World) : Calls Tryd.prog 80 #[.string s, .string ⟨#[47]⟩] w (CutIs s w) := by
  cases hh : headOk s with
  | true =>
    have h1 := (head_cut hh).1
    have HH := Lib.hid hh
    go_enter Tryd.func80, Tryd.ntmps80
    go_wp2_with fail
    refine (hasPrefix_any s _).mono ?_
    rw [HH.out]
    rintro e w1 ⟨rfl, rfl⟩
    clear hh
    go_wp2
    refine bodyPost_ret (v := .tuple #[.string (s.extract 1 s.size), .bool true]) ?_ rfl ⟨.inl ⟨HH.out, rfl⟩, rfl⟩
    simp [results, Tryd.results80, go_sem]
  | false =>
    have HH := Lib.hid hh
    go_enter Tryd.func80, Tryd.ntmps80
    go_wp2_with fail
    refine (hasPrefix_any s _).mono ?_
    rw [HH.out]
    rintro e w1 ⟨rfl, rfl⟩
    clear hh
    go_wp2
    refine bodyPost_ret (v := .tuple #[.string s, .bool false]) ?_ rfl ⟨.inr ⟨HH.out, rfl⟩, rfl⟩
    simp [results, Tryd.results80, go_sem]
set_option maxRecDepth 100000 in
set_option maxHeartbeats 1000000 in
theorem cutPrefix_any (s : ByteArray) (w : World) : Calls Tryd.prog 68 #[.string s, .string ⟨#[47]⟩] w (CutIs s w) := by
  go_enter Tryd.func68, Tryd.ntmps68
  go_wp2_with fail
  refine (cutLite_any s _).mono ?_
  rintro e w1 ⟨⟨hh, rfl⟩ | ⟨hh, rfl⟩, rfl⟩
  · have HH := Lib.hid hh
    clear hh
    go_wp2
    refine bodyPost_ret (v := .tuple #[.string (s.extract 1 s.size), .bool true]) ?_ rfl ⟨.inl ⟨HH.out, rfl⟩, rfl⟩
    simp [results, Tryd.results68, go_sem]
  · have HH := Lib.hid hh
    clear hh
    go_wp2
    refine bodyPost_ret (v := .tuple #[.string s, .bool false]) ?_ rfl ⟨.inr ⟨HH.out, rfl⟩, rfl⟩
    simp [results, Tryd.results68, go_sem]

/-- The pieces of a text at its slashes, in a new row. -/
def SplitIs (P : List (List UInt8)) (w : World) (e : Ending) (w' : World) : Prop :=
  e = .returned (.slice (some ⟨w.heap.size, 0, none⟩) P.length P.length) ∧ w'.ownsRow w.heap.size 9 1 (.slice (some ⟨w.heap.size, 0, none⟩) P.length P.length) P.length (scells (P.map bytesOf)) ∧ Below w.heap.size w w'
end Go.Proofs.YtkfkjcadmdcbnaaDoor
namespace Go.Proofs.YtkfkjcadmdcbnaaDoor
open Go.RowKit Go.Proofs.YtkfkjcadmdcbnaaDoor.Parts Go.Proofs.YtkfkjcadmdcbnaaDoor.Hexa

theorem infoSp : (Tryd.prog.info? (Tryd.lays221_ren.t 9)).map (fun i => (i.zero, i.size, i.bytes)) = some (some (.string ByteArray.empty), 1, 16) := by kernel_rfl
set_option maxRecDepth 100000 in
set_option maxHeartbeats 1000000 in
theorem genSplit_any (r : ByteArray) (w : World) (hr : r.size ≤ 60) :
    Calls Tryd.prog 81 #[.string r, .string ⟨#[47]⟩, .int .i64 0, .int .i64 (-1)] w (SplitIs (cutGo [] r.data.toList) w) := by
  have hle := Lib.countB_le ⟨#[47]⟩ (by decide) r.size r (Nat.le_refl _)
  have c := Any.strings_genSplit_core Tryd.lays221 infoSp r ⟨#[47]⟩ 0 (-1) (Lib.countB r ⟨#[47]⟩ + 1) w (by omega) (by decide) (Nat.zero_le _)
    (fun x cs _ => (Tryd.strings_Index_one x 47 _).mono (fun e w' ⟨he, hw⟩ => ⟨by rw [he]; exact congrArg (fun z => Ending.returned (Value.int .i64 z)) (Lib.index_one x.data.toList 47).symm, hw⟩))
    ((Tryd.strings_Count_one r 47 w).mono (fun e w' ⟨he, hw⟩ => ⟨by
      rw [he]
      show _ = Ending.returned (Value.int .i64 ((Lib.count r.data.toList [47] : Nat) : Int))
      rw [Lib.count_one]
      rfl, hw⟩))
    (by decide) (by decide) (by rw [if_pos (by decide)]; omega)
  have hlen := Lib.splitB_all ⟨#[47]⟩ (by decide) 0 _ r rfl
  have e1 : (Lib.splitB ⟨#[47]⟩ 0 (Lib.countB r ⟨#[47]⟩ + 1 - 1) r) = (cutGo [] r.data.toList).map bytesOf := by
    rw [Nat.add_sub_cancel]; exact split_cut r
  have e2 : Lib.countB r ⟨#[47]⟩ + 1 = (cutGo [] r.data.toList).length := by
    rw [← hlen, split_cut, List.length_map]
  rw [e1, e2, List.length_map] at c
  refine c.mono ?_
  rintro e w' ⟨he, hw⟩
  subst hw
  have e3 : Lib.cellsOf ((cutGo [] r.data.toList).map bytesOf) (cutGo [] r.data.toList).length = (scells ((cutGo [] r.data.toList).map bytesOf)).toArray := by
    have h := Lib.cellsOf_full ((cutGo [] r.data.toList).map bytesOf)
    rw [List.length_map] at h
    exact h
  have hl := cutGo_len r.data.toList []
  refine ⟨he, ?_, (Below.refl _ _).alloc (Nat.le_refl _) _⟩
  rw [e3]
  change (w.alloc (.cells (scells ((cutGo [] r.data.toList).map bytesOf)).toArray 9)).ownsRow _ _ _ _ _ _
  have h := World.ownsRow_lit (base := w.heap.size) (e := 9) (size := 1) w (scells ((cutGo [] r.data.toList).map bytesOf)).toArray (cutGo [] r.data.toList).length (Nat.le_refl _) (by unfold maxLen; rw [← Lib.size_eq] at hl; omega) (by simp [scells])
  simpa using h
set_option maxRecDepth 100000 in
set_option maxHeartbeats 1000000 in
theorem split_any (r : ByteArray) (P : List (List UInt8)) (w : World) (hr : r.size ≤ 60) (hP : cutGo [] r.data.toList = P) :
    Calls Tryd.prog 69 #[.string r, .string ⟨#[47]⟩] w (SplitIs P w) := by
  subst hP
  have HC := Lib.hid (genSplit_any r w hr)
  go_enter Tryd.func69, Tryd.ntmps69
  go_wp2_with fail
  refine HC.out.mono ?_
  rintro e w' ⟨rfl, ho, hb⟩
  have HO := Lib.hid ho
  have HB := Lib.hid hb
  clear ho hb
  go_wp2
  go_ret
  exact ⟨rfl, HO.out, HB.out⟩
end Go.Proofs.YtkfkjcadmdcbnaaDoor
namespace Go.Proofs.YtkfkjcadmdcbnaaDoor
open Go.RowKit

set_option maxRecDepth 100000 in
set_option maxHeartbeats 400000 in
theorem implIn_any (n a b : Int) (w : World) : Calls Tryd.prog 53 #[.int .i64 n, .int .i64 a, .int .i64 b] w fun e w' => e = .returned (.bool (decide (a ≤ n ∧ n ≤ b))) ∧ w' = w := by
  by_cases h1 : a ≤ n <;> by_cases h2 : n ≤ b
  all_goals
    go_enter Tryd.func53, Tryd.ntmps53
    go_wp2
    all_goals go_ret
    all_goals exact ⟨by simp [h1, h2], rfl⟩
theorem implIn_yes {n a b : Int} (w : World) (h : a ≤ n ∧ n ≤ b) : Calls Tryd.prog 53 #[.int .i64 n, .int .i64 a, .int .i64 b] w fun e w' => e = .returned (.bool true) ∧ w' = w :=
  (implIn_any n a b w).mono fun _ _ ⟨he, hw⟩ => ⟨by rw [he, decide_eq_true h], hw⟩
theorem implIn_no {n a b : Int} (w : World) (h : ¬ (a ≤ n ∧ n ≤ b)) : Calls Tryd.prog 53 #[.int .i64 n, .int .i64 a, .int .i64 b] w fun e w' => e = .returned (.bool false) ∧ w' = w :=
  (implIn_any n a b w).mono fun _ _ ⟨he, hw⟩ => ⟨by rw [he, decide_eq_false h], hw⟩

end Go.Proofs.YtkfkjcadmdcbnaaDoor
namespace Go.Proofs.YtkfkjcadmdcbnaaDoor
open Go.RowKit

set_option maxRecDepth 100000 in
set_option maxHeartbeats 1000000 in
theorem implNameByte_any (n : Int) (w : World) :
    Calls Tryd.prog 82 #[.int .u8 n] w fun e w' => e = .returned (.bool (decide ((97 ≤ n ∧ n ≤ 122) ∨ (48 ≤ n ∧ n ≤ 57)))) ∧ w' = w := by
  by_cases h1 : 97 ≤ n <;> by_cases h2 : n ≤ 122 <;> by_cases h3 : 48 ≤ n <;> by_cases h4 : n ≤ 57
  all_goals
    go_enter Tryd.func82, Tryd.ntmps82
    go_wp2
    all_goals go_ret
    all_goals exact ⟨by simp [h1, h2, h3, h4], rfl⟩
theorem implNameByte_yes {b : UInt8} (w : World) (h : NameC b) :
    Calls Tryd.prog 82 #[.int .u8 (b.toNat : Int)] w fun e w' => e = .returned (.bool true) ∧ w' = w :=
  (implNameByte_any (b.toNat : Int) w).mono fun _ _ ⟨he, hw⟩ => ⟨by rw [he, decide_eq_true (by rcases h with h | h <;> omega)], hw⟩
theorem implNameByte_no {b : UInt8} (w : World) (h : ¬ NameC b) :
    Calls Tryd.prog 82 #[.int .u8 (b.toNat : Int)] w fun e w' => e = .returned (.bool false) ∧ w' = w :=
  (implNameByte_any (b.toNat : Int) w).mono fun _ _ ⟨he, hw⟩ => ⟨by rw [he, decide_eq_false (fun x => h (by rcases x with x | x; exact .inl (by omega); exact .inr (by omega)))], hw⟩

/-- Every byte of it may stand in a name. -/
def nameBytes (s : ByteArray) : Bool := decide (∀ b ∈ s.data.toList, NameC b)
theorem nameBytes_yes {s : ByteArray} (h : ∀ j (hj : j < s.size), NameC s[j]) : nameBytes s = true := decide_eq_true (fun b hb => by
  obtain ⟨j, hj, rfl⟩ := List.mem_iff_getElem.1 hb
  have hj' : j < s.size := by simpa using hj
  exact h j hj')
theorem nameBytes_no {s : ByteArray} (j : Nat) (hj : j < s.size) (h : ¬ NameC s[j]) : nameBytes s = false := decide_eq_false (fun h2 => h (h2 _ (by
  rw [show s[j] = s.data.toList[j]'(by simpa using hj) from rfl]
  exact List.getElem_mem _)))
theorem nameB_split (s : ByteArray) : nameB s = (decide (1 ≤ s.size ∧ s.size ≤ 7) && nameBytes s) := by
  unfold nameB nameBytes NameR
  by_cases h1 : 1 ≤ s.size ∧ s.size ≤ 7 <;> simp [h1]

set_option maxRecDepth 100000 in
set_option maxHeartbeats 1000000 in
theorem implNameBytes_any (s : ByteArray) (w : World) (hs : s.size ≤ 2000000) :
    Calls Tryd.prog 70 #[.string s] w fun e w' => e = .returned (.bool (nameBytes s)) ∧ w' = w := by
  go_enter Tryd.func70, Tryd.ntmps70
  go_wp2
  go_loop [6] (fun i => ∃ k : Nat, k ≤ s.size ∧ i = .int .i64 k ∧ Hid (∀ j (hj : j < s.size), j < k → NameC s[j])) (fun i => s.size - (intOf i).toNat)
  case atStart => exact ⟨0, Nat.zero_le _, rfl, Lib.hid (fun j hj h => by omega)⟩
  case round =>
    obtain ⟨k, hk, rfl, HA⟩ := hrel
    by_cases hlt : k < s.size
    · obtain ⟨b, hb⟩ : ∃ b, s[k]'hlt = b := ⟨_, rfl⟩
      have hb255 := b.toNat_lt
      have HB := Lib.hid hb
      by_cases h1 : NameC b
      · have HR := Lib.hid h1
        have HA2 : Hid (∀ j (hj : j < s.size), j < k + 1 → NameC s[j]) := Lib.hid (fun j hj h => by
          by_cases e : j = k
          · subst e; rw [HB.out]; exact HR.out
          · exact HA.out j hj (by omega))
        clear h1
        go_wp2_with ((with_reducible refine (implNameByte_yes _ HR.out).mono ?_); rintro e w1 ⟨rfl, rfl⟩)
        go_round
        case rel => exact ⟨k + 1, by omega, by go_num, HA2⟩
        case measure => (simp [intOf]; try omega)
      · have HR := Lib.hid h1
        have HN : Hid (nameBytes s = false) := Lib.hid (nameBytes_no k hlt (by rw [hb]; exact h1))
        clear h1
        go_wp2_with ((with_reducible refine (implNameByte_no _ HR.out).mono ?_); rintro e w1 ⟨rfl, rfl⟩)
        go_ret
        exact ⟨by rw [HN.out]; rfl, rfl⟩
    · obtain rfl : k = s.size := by omega
      have HN : Hid (nameBytes s = true) := Lib.hid (nameBytes_yes (fun j hj => HA.out j hj hj))
      go_wp2
      go_ret
      exact ⟨by rw [HN.out]; rfl, rfl⟩
end Go.Proofs.YtkfkjcadmdcbnaaDoor
namespace Go.Proofs.YtkfkjcadmdcbnaaDoor
open Go.RowKit

set_option maxRecDepth 100000 in
set_option maxHeartbeats 400000 in
theorem cloneText_any (s : ByteArray) (w : World) (hs : s.size ≤ 2000000) :
    Calls Tryd.prog 39 #[.string s] w fun e w' => e = .returned (.string s) ∧ Below w.heap.size w w' := by
  go_enter Tryd.func39, Tryd.ntmps39
  go_wp2_with (go_at_call 58; refine (Tryd.stringslite_Clone _ _ (by omega)).mono ?_; rintro e w1 ⟨rfl, hb1⟩)
  go_ret
  exact ⟨rfl, hb1⟩
end Go.Proofs.YtkfkjcadmdcbnaaDoor
namespace Go.Proofs.YtkfkjcadmdcbnaaDoor
open Go.RowKit Go.Proofs.YtkfkjcadmdcbnaaDoor.Parts Go.Proofs.YtkfkjcadmdcbnaaDoor.Hexa Go.Proofs.YtkfkjcadmdcbnaaDoor.Byt

/-- What namesIn tells: an error with the code, or the names. -/
def NamesPost (s : ByteArray) (w : World) (e : Ending) (w' : World) : Prop :=
  ((pathCode s ≠ 0 ∧ e = .returned (.tuple #[.slice none 0 0, .iface 80 (.agg #[.int .i64 (pathCode s)])])) ∨
   (pathCode s = 0 ∧ ∃ v, e = .returned (.tuple #[v, .nilIface]) ∧ w'.ownsRow w.heap.size 9 1 v (pathNames s).length (scells (pathNames s)))) ∧ Below w.heap.size w w'
theorem names_err {s : ByteArray} {c : Int} {w w' : World} (h : pathCode s = c) (hc : c ≠ 0) (hb : Below w.heap.size w w') : NamesPost s w (.returned (.tuple #[.slice none 0 0, .iface 80 (.agg #[.int .i64 c])])) w' := by
  subst h
  exact ⟨.inl ⟨hc, rfl⟩, hb⟩
theorem full_of {x : ByteArray} (h : ¬ x = ⟨#[]⟩) : 0 < x.size := by
  obtain ⟨⟨l⟩⟩ := x
  cases l with
  | nil => exact absurd rfl h
  | cons a b => have h9 : (⟨⟨a :: b⟩⟩ : ByteArray).size = b.length + 1 := rfl
                omega
theorem nameL_bytes {p : List UInt8} (h0 : ¬ bytesOf p = ⟨#[]⟩) (h : nameBytes (bytesOf p) = true) : nameL p = true := by
  refine (nameL_iff p).2 ⟨fun e => h0 (by rw [e]; rfl), fun b hb => ?_⟩
  exact (of_decide_eq_true h : ∀ b ∈ (bytesOf p).data.toList, NameC b) b hb
theorem nameL_empty : nameL [] = false := rfl
theorem nameL_bad {p : List UInt8} (h : nameBytes (bytesOf p) = false) : nameL p = false := by
  cases hq : nameL p with
  | false => rfl
  | true =>
    have h2 := ((nameL_iff p).1 hq).2
    have h3 : nameBytes (bytesOf p) = true := decide_eq_true (fun b hb => h2 b hb)
    rw [h3] at h; cases h
theorem getD_in {P : List (List UInt8)} {j : Nat} (h : j < P.length) : P.getD j [] ∈ P := by
  simp [List.getD, h]
theorem okP_at {P : List (List UInt8)} {j : Nat} (h : j < P.length) (hq : nameL (P.getD j []) = false) : okP P = false := by
  cases hk : okP P with
  | false => rfl
  | true =>
    have := (List.all_eq_true.1 hk) _ (getD_in h)
    rw [hq] at this; cases this
theorem okP_all {P : List (List UInt8)} (h : ∀ j, j < P.length → nameL (P.getD j []) = true) : okP P = true := by
  refine List.all_eq_true.2 (fun p hp => ?_)
  obtain ⟨j, hj, rfl⟩ := List.mem_iff_getElem.1 hp
  have := h j hj
  simpa [List.getD, hj] using this
theorem longP_at {P : List (List UInt8)} {j : Nat} (h : j < P.length) (hq : 7 < (P.getD j []).length) : longP P = true :=
  List.any_eq_true.2 ⟨_, getD_in h, decide_eq_true hq⟩
theorem longP_all {P : List (List UInt8)} (h : ∀ j, j < P.length → ¬ 7 < (P.getD j []).length) : longP P = false := by
  refine List.any_eq_false.2 (fun p hp => ?_)
  obtain ⟨j, hj, rfl⟩ := List.mem_iff_getElem.1 hp
  have := h j hj
  simpa [List.getD, hj] using this
theorem cell_at {P : List (List UInt8)} {j : Nat} (h : j < P.length) : (scells (P.map bytesOf))[j]? = some (.string (bytesOf (P.getD j []))) := by
  simp [scells, List.getD, h]
theorem set_same {P : List (List UInt8)} {j : Nat} (h : j < P.length) : (scells (P.map bytesOf)).set j (.string (bytesOf (P.getD j []))) = scells (P.map bytesOf) := by
  apply List.ext_getElem?
  intro k
  rw [List.getElem?_set]
  by_cases e : j = k
  · subst e
    rw [if_pos rfl, if_pos (by simpa [scells] using h), cell_at h]
  · rw [if_neg e]

set_option maxRecDepth 100000 in
set_option maxHeartbeats 4000000 in
theorem implNames_any (s : ByteArray) (w : World) (hs : s.size ≤ 2000000) :
    Calls Tryd.prog 61 #[.string s] w (NamesPost s w) := by
  cases hh : headOk s with
  | false =>
    have HC := Lib.hid (code_head hh)
    have HH := Lib.hid hh
    go_enter Tryd.func61, Tryd.ntmps61
    go_wp2_with fail
    refine (cutPrefix_any s _).mono ?_
    rintro e w1 ⟨⟨h9, _⟩ | ⟨_, rfl⟩, rfl⟩
    · rw [HH.out] at h9; cases h9
    clear hh
    go_wp2
    refine bodyPost_ret (v := .tuple #[.slice none 0 0, .iface 80 (.agg #[.int .i64 1])]) ?_ rfl (names_err HC.out (by decide) (Below.refl _ _))
    simp [results, Tryd.results61, go_sem]
  | true =>
    have HH := Lib.hid hh
    by_cases h60 : 60 < s.size
    · have HC := Lib.hid (code_long h60)
      go_enter Tryd.func61, Tryd.ntmps61
      go_wp2_with fail
      refine (cutPrefix_any s _).mono ?_
      rintro e w1 ⟨⟨_, rfl⟩ | ⟨h9, _⟩, rfl⟩
      case inr => rw [HH.out] at h9; cases h9
      clear hh
      go_wp2
      refine bodyPost_ret (v := .tuple #[.slice none 0 0, .iface 80 (.agg #[.int .i64 1])]) ?_ rfl (names_err HC.out (by decide) (Below.refl _ _))
      simp [results, Tryd.results61, go_sem]
    obtain ⟨r, hr⟩ : ∃ r, s.extract 1 s.size = r := ⟨_, rfl⟩
    have HR := Lib.hid hr
    have hrs : r.size = s.size - 1 := by rw [← hr]; simp
    by_cases h1 : s.size = 1
    · have HC := Lib.hid (code_root hh h1)
      have HN : Hid (pathNames s = []) := Lib.hid (by unfold pathNames; rw [if_neg (fun h => h.2 h1)])
      have hr0 : r = ⟨#[]⟩ := by
        obtain ⟨⟨l⟩⟩ := r
        cases l with
        | nil => rfl
        | cons a b =>
          have h9 : (⟨⟨a :: b⟩⟩ : ByteArray).size = b.length + 1 := rfl
          omega
      subst hr0
      go_enter Tryd.func61, Tryd.ntmps61
      go_wp2_with fail
      refine (cutPrefix_any s _).mono ?_
      rintro e w1 ⟨⟨_, rfl⟩ | ⟨h9, _⟩, rfl⟩
      case inr => rw [HH.out] at h9; cases h9
      rw [HR.out]
      clear hh hr
      go_wp2
      refine bodyPost_ret (v := .tuple #[.slice none 0 0, .nilIface]) ?_ rfl ⟨.inr ⟨HC.out, _, rfl, ?_⟩, Below.refl _ _⟩
      · simp [results, Tryd.results61, go_sem]
      · rw [HN.out]; exact World.ownsRow_nil _ _ _ _
    have h8 := (head_cut hh).1
    have hr0 : ¬ r = ⟨#[]⟩ := by
      intro h
      have h9 : r.size = 0 := by rw [h]; rfl
      omega
    have ir := text_full r (full_of hr0)
    obtain ⟨P, hP⟩ : ∃ P, cutP s = P := ⟨_, rfl⟩
    have HP := Lib.hid hP
    have hPl : P.length ≤ 61 := by
      rw [← hP]
      have h2 := cutGo_len (tailL s) []
      have h3 : (tailL s).length ≤ s.size := by unfold tailL; rw [List.length_drop, Lib.size_eq]; omega
      show (cutGo [] (tailL s)).length ≤ 61
      omega
    have HPm : Hid (∀ j, j < P.length → (bytesOf (P.getD j [])).size ≤ 60) := Lib.hid (fun j hj => by
      rw [bytesOf_size]
      have h2 := cutGo_mem (tailL s) [] _ (by have := getD_in hj; rw [← hP] at this; exact this)
      have h3 : (tailL s).length ≤ s.size := by unfold tailL; rw [List.length_drop, Lib.size_eq]; omega
      have h4 : ([] : List UInt8).length = 0 := rfl
      rw [hP] at h2
      omega)
    have HCut : Hid (cutGo [] r.data.toList = P) := Lib.hid (by rw [← hr, rest_data]; exact hP)
    clear hP
    go_enter Tryd.func61, Tryd.ntmps61
    go_wp2_with fail
    refine (cutPrefix_any s _).mono ?_
    rintro e w1 ⟨⟨_, rfl⟩ | ⟨h9, _⟩, rfl⟩
    case inr => rw [HH.out] at h9; cases h9
    rw [HR.out]
    clear hh hr
    go_wp2_with fail
    refine (split_any r P w1 (by omega) HCut.out).mono ?_
    rintro e w2 ⟨rfl, ho, hb⟩
    have O2 := Lib.hid ho
    have B2 := Lib.hid hb
    clear ho hb hrs
    go_wp2
    go_loopw [31] (fun kv wr => ∃ k : Nat, k ≤ P.length ∧ kv = .int .i64 k ∧ Hid (∀ j, j < k → nameL (P.getD j []) = true) ∧ w2 = wr) (fun kv _ => P.length - (intOf kv).toNat)
    case atStart => exact ⟨0, Nat.zero_le _, rfl, Lib.hid (fun j hj => by omega), rfl⟩
    case round =>
      obtain ⟨k, hk, rfl, HA, rfl⟩ := hrel
      by_cases hlt : k < P.length
      · obtain ⟨x, hx⟩ : ∃ x, bytesOf (P.getD k []) = x := ⟨_, rfl⟩
        have hc : w2.cell? ⟨w1.heap.size, k, none⟩ = some (.string x) := by
          rw [O2.out.cellAt k (by omega), cell_at hlt, hx]
        have hx60 := HPm.out k hlt
        rw [hx] at hx60
        have HX := Lib.hid hx
        clear hx
        by_cases h0 : x = ⟨#[]⟩
        · have HC : Hid (pathCode s = 1) := Lib.hid (code_bad (by omega) HH.out h1 (by
            rw [HP.out]
            refine okP_at hlt ?_
            have h8 : P.getD k [] = [] := by
              have h9 := congrArg (fun z : ByteArray => z.data.toList) (HX.out.trans h0)
              exact h9
            rw [h8]; rfl))
          subst h0
          go_wp2
          refine bodyPost_ret (v := .tuple #[.slice none 0 0, .iface 80 (.agg #[.int .i64 1])]) ?_ rfl (names_err HC.out (by decide) B2.out)
          simp [results, Tryd.results61, go_sem]
        · have ix := text_full x (full_of h0)
          cases hb : nameBytes x with
          | true =>
            have HB := Lib.hid hb
            have HA2 : Hid (∀ j, j < k + 1 → nameL (P.getD j []) = true) := Lib.hid (fun j hj => by
              by_cases e : j = k
              · subst e; exact nameL_bytes (by rw [HX.out]; exact h0) (by rw [HX.out]; exact HB.out)
              · exact HA.out j (by omega))
            go_wp2_with fail
            refine (implNameBytes_any x _ (by omega)).mono ?_
            rw [HB.out]
            rintro e w3 ⟨rfl, rfl⟩
            clear hb hc h0 ix
            go_wp2
            go_roundw
            case rel => exact ⟨k + 1, by omega, by go_num, HA2, by first | rfl | trivial⟩
            case measure => (simp [intOf]; try omega)
          | false =>
            have HB := Lib.hid hb
            have HC : Hid (pathCode s = 1) := Lib.hid (code_bad (by omega) HH.out h1 (by
              rw [HP.out]
              exact okP_at hlt (nameL_bad (by rw [HX.out]; exact HB.out))))
            go_wp2_with fail
            refine (implNameBytes_any x _ (by omega)).mono ?_
            rw [HB.out]
            rintro e w3 ⟨rfl, rfl⟩
            clear hb hc h0 ix
            go_wp2
            refine bodyPost_ret (v := .tuple #[.slice none 0 0, .iface 80 (.agg #[.int .i64 1])]) ?_ rfl (names_err HC.out (by decide) B2.out)
            simp [results, Tryd.results61, go_sem]
      · obtain rfl : k = P.length := by omega
        have HK : Hid (okP (cutP s) = true) := Lib.hid (by rw [HP.out]; exact okP_all HA.out)
        clear hk hlt HA
        go_wp2
        go_loopw [47] (fun kv wr => ∃ k : Nat, k ≤ P.length ∧ kv = .int .i64 k ∧ Hid (∀ j, j < k → ¬ 7 < (P.getD j []).length) ∧ Hid (wr.ownsRow w1.heap.size 9 1 (.slice (some ⟨w1.heap.size, 0, none⟩) P.length P.length) P.length (scells (P.map bytesOf))) ∧ Hid (Below w1.heap.size w1 wr)) (fun kv _ => P.length - (intOf kv).toNat)
        case atStart => exact ⟨0, Nat.zero_le _, rfl, Lib.hid (fun j hj => by omega), O2, B2⟩
        case round =>
          clear O2 B2
          obtain ⟨k, hk, rfl, HA, HO, HB⟩ := hrel
          by_cases hlt : k < P.length
          · obtain ⟨x, hx⟩ : ∃ x, bytesOf (P.getD k []) = x := ⟨_, rfl⟩
            have hc : wr.cell? ⟨w1.heap.size, k, none⟩ = some (.string x) := by
              rw [HO.out.cellAt k (by omega), cell_at hlt, hx]
            have hx60 := HPm.out k hlt
            rw [hx] at hx60
            have HX := Lib.hid hx
            have HL : Hid (x.size = (P.getD k []).length) := Lib.hid (by rw [← hx, bytesOf_size])
            clear hx
            by_cases h7 : (7 : Int) < (x.size : Int)
            · have HC : Hid (pathCode s = 2) := Lib.hid (code_name (by omega) HH.out h1 HK.out (by
                rw [HP.out]
                exact longP_at hlt (by have := HL.out; omega)))
              go_wp2
              refine bodyPost_ret (v := .tuple #[.slice none 0 0, .iface 80 (.agg #[.int .i64 2])]) ?_ rfl (names_err HC.out (by decide) HB.out)
              simp [results, Tryd.results61, go_sem]
            · have HA2 : Hid (∀ j, j < k + 1 → ¬ 7 < (P.getD j []).length) := Lib.hid (fun j hj => by
                by_cases e : j = k
                · subst e; have := HL.out; omega
                · exact HA.out j (by omega))
              clear HA
              go_wp2_with fail
              refine (cloneText_any x _ (by omega)).mono ?_
              rintro e w3 ⟨rfl, hb3⟩
              have HO3 := Lib.hid (own_below HO.out hb3)
              have HB3 : Hid (Below w1.heap.size w1 w3) := Lib.hid (HB.out.trans (hb3.mono HB.out.size))
              obtain ⟨y, hy⟩ : ∃ y, w3.cell? ⟨w1.heap.size, k, none⟩ = some y := ⟨_, by rw [HO3.out.cellAt k (by omega), cell_at hlt]⟩
              have hfz := HO3.out.frozenAt k
              have HS : Hid ((w3.setCell ⟨w1.heap.size, k, none⟩ (.string x)).ownsRow w1.heap.size 9 1 (.slice (some ⟨w1.heap.size, 0, none⟩) P.length P.length) P.length (scells (P.map bytesOf))) := Lib.hid (by
                have h9 := (HO3.out.stored k (.string x)).1
                rw [← HX.out, set_same hlt] at h9
                rw [← HX.out]
                exact h9)
              have HB4 : Hid (Below w1.heap.size w1 (w3.setCell ⟨w1.heap.size, k, none⟩ (.string x))) := Lib.hid (HB3.out.setCell (Nat.le_refl _) _)
              clear hc hb3 HO HB
              go_wp2
              clear hy hfz
              go_roundw
              case rel => exact ⟨k + 1, by omega, by go_num, HA2, HS, HB4⟩
              case measure => (simp [intOf]; try omega)
          · obtain rfl : k = P.length := by omega
            have HC : Hid (pathCode s = 0) := Lib.hid (code_ok (by omega) HH.out h1 HK.out (by rw [HP.out]; exact longP_all HA.out))
            have HN : Hid (pathNames s = P.map bytesOf) := Lib.hid (by unfold pathNames; rw [if_pos ⟨HC.out, h1⟩, HP.out])
            go_wp2
            refine bodyPost_ret (v := .tuple #[.slice (some ⟨w1.heap.size, 0, none⟩) P.length P.length, .nilIface]) ?_ rfl ⟨.inr ⟨HC.out, _, rfl, ?_⟩, HB.out⟩
            · simp [results, Tryd.results61, go_sem]
            · rw [HN.out, List.length_map]; exact HO.out
end Go.Proofs.YtkfkjcadmdcbnaaDoor
namespace Go.Proofs.YtkfkjcadmdcbnaaDoor
open Go.RowKit Go.Extern.Stop Go.Stop Go.Extern

theorem errAs_nil (t : Value) (w : World) :
    Calls Tryd.prog 62 #[.nilIface, t] w fun e w' => e = .returned (.bool false) ∧ w' = w := by
  go_enter Tryd.func62, Tryd.ntmps62
  go_wp2
  go_ret
  exact ⟨rfl, rfl⟩

theorem ea_valueOfP (t : Addr) (w : World) : (ReflectliteValue.unpack (.iface 82 (.pointer (some t)))).run Tryd.prog w
    = .ok (.agg #[.pointer (some ⟨4, 82, none⟩), .pointer (some ⟨w.heap.size, 0, none⟩), .int .u64 150]) (w.alloc (.cells #[.pointer (some t)] 82)) := by kernel_rfl
theorem ea_typeP (a : Addr) (w : World) : (ReflectliteValue.methodAny (ReflectliteValue.valueError "reflectlite.Value.Type" 0) (fun t _ _ _ => ReflectliteType.toType t) #[.agg #[.pointer (some ⟨4, 82, none⟩), .pointer (some a), .int .u64 150]]).run Tryd.prog w
    = .ok (.iface 115 (.agg #[.pointer (some ⟨4, 82, none⟩)])) w := by kernel_rfl
theorem ea_methodKind (h : Value) (w : World) : (Go.method 269 115 (.agg #[h]) "Kind").run Tryd.prog w = .ok (120, h) w := by kernel_rfl
theorem ea_kindP (w : World) : ((ReflectliteType.abiMethod fun t => (fun a : Nat => Value.int IntKind.u8 (a : Int)) <$> Rtype.kind t) #[.pointer (some ⟨4, 82, none⟩)]).run Tryd.prog w = .ok (.int .u8 22) w := by kernel_rfl
theorem ea_kindE (w : World) : ((ReflectliteType.abiMethod fun t => (fun a : Nat => Value.int IntKind.u8 (a : Int)) <$> Rtype.kind t) #[.pointer (some ⟨4, 80, none⟩)]).run Tryd.prog w = .ok (.int .u8 25) w := by kernel_rfl
theorem ea_rlm (z : Sem Value) (f : TypeId → Addr → Nat → Nat → Sem Value) (v : Value) :
    ReflectliteValue.method z f #[v] = (do match ← ReflectliteValue.parts v with | none => z | some (t, a, fl) => f t a fl (fl % 32)) := rfl
theorem ea_partsP (a : Addr) (w : World) : (ReflectliteValue.parts (.agg #[.pointer (some ⟨4, 82, none⟩), .pointer (some a), .int .u64 150])).run Tryd.prog w = .ok (some (82, a, 150)) w := by kernel_rfl
theorem ea_isNilP (a p : Addr) (W : World) (ha : W.cell? a = some (.pointer (some p))) :
    (ReflectliteValue.method (ReflectliteValue.valueError "reflectlite.Value.IsNil" 0) ReflectliteValue.isNil #[.agg #[.pointer (some ⟨4, 82, none⟩), .pointer (some a), .int .u64 150]]).run Tryd.prog W = .ok (.bool false) W := by
  rw [ea_rlm]
  simp only [Sem.run_bind, ea_partsP, Result.andThen]
  simp [ReflectliteValue.isNil, loadVar, isAgg, underlying, Tryd.underlying82, ha, Result.andThen]
theorem ea_methodElem (h : Value) (w : World) : (Go.method 269 115 (.agg #[h]) "Elem").run Tryd.prog w = .ok (131, .agg #[h]) w := by kernel_rfl
theorem ea_methodImplements (h : Value) (w : World) : (Go.method 269 115 (.agg #[h]) "Implements").run Tryd.prog w = .ok (132, .agg #[h]) w := by kernel_rfl
theorem ea_methodAssignable (h : Value) (w : World) : (Go.method 269 115 (.agg #[h]) "AssignableTo").run Tryd.prog w = .ok (129, .agg #[h]) w := by kernel_rfl
theorem ea_elemP (w : World) : (ReflectliteType.method ReflectliteType.elem #[.agg #[.pointer (some ⟨4, 82, none⟩)]]).run Tryd.prog w = .ok (.iface 115 (.agg #[.pointer (some ⟨4, 80, none⟩)])) w := by kernel_rfl
theorem ea_implements (w : World) : (ReflectliteType.relation "Implements" ReflectliteType.implements_ #[.agg #[.pointer (some ⟨4, 80, none⟩)], .iface 115 (.agg #[.pointer (some ⟨4, 76, none⟩)])]).run Tryd.prog w = .ok (.bool true) w := by kernel_rfl
theorem ea_typeOf (v : Value) (w : World) : (ReflectliteType.typeOf #[.iface 80 v]).run Tryd.prog w = .ok (.iface 115 (.agg #[.pointer (some ⟨4, 80, none⟩)])) w := by kernel_rfl
theorem ea_assignable (w : World) : (ReflectliteType.relation "AssignableTo" ReflectliteType.assignableTo #[.agg #[.pointer (some ⟨4, 80, none⟩)], .iface 115 (.agg #[.pointer (some ⟨4, 80, none⟩)])]).run Tryd.prog w = .ok (.bool true) w := by kernel_rfl
theorem ea_valueOfE (c : Int) (w : World) : (ReflectliteValue.unpack (.iface 80 (.agg #[.int .i64 c]))).run Tryd.prog w
    = .ok (.agg #[.pointer (some ⟨4, 80, none⟩), .pointer (some ⟨w.heap.size, 0, none⟩), .int .u64 153]) (w.alloc (.cells #[.int .i64 c] 80)) := by kernel_rfl
theorem ea_elemOf (w : World) : (Rtype.elem? 82).run Tryd.prog w = .ok (some 80) w := by kernel_rfl
theorem ea_mkE (p : Addr) (w : World) : (ReflectliteValue.mk 80 p ReflectliteValue.flagAddr).run Tryd.prog w = .ok (.agg #[.pointer (some ⟨4, 80, none⟩), .pointer (some p), .int .u64 409]) w := by kernel_rfl
theorem ea_elemV (a p : Addr) (W : World) (ha : W.cell? a = some (.pointer (some p))) :
    (ReflectliteValue.method (ReflectliteValue.valueError "reflectlite.Value.Elem" 0) ReflectliteValue.elem #[.agg #[.pointer (some ⟨4, 82, none⟩), .pointer (some a), .int .u64 150]]).run Tryd.prog W
      = .ok (.agg #[.pointer (some ⟨4, 80, none⟩), .pointer (some p), .int .u64 409]) W := by
  rw [ea_rlm]
  simp only [Sem.run_bind, ea_partsP, Result.andThen]
  simp [ReflectliteValue.elem, loadVar, isAgg, underlying, Tryd.underlying82, ha, Result.andThen, ea_elemOf, ea_mkE]
theorem ea_rls (v x : Value) : ReflectliteValue.set #[v, x] = (do
    let (some (dst, a, fl), some (src, b, _)) := (← ReflectliteValue.parts v, ← ReflectliteValue.parts x)
      | unsupported (.noEntry "extern/(internal/reflectlite.Value).Set.zeroValue")
    if fl / ReflectliteValue.flagAddr % 2 == 0 then unsupported (.noEntry "extern/(internal/reflectlite.Value).Set.unaddressable")
    let val ← loadVar src b
    if ← Rtype.directlyAssignable dst src then storeVar dst a val
    else if ← Rtype.implements dst src then
      if (← Rtype.kind src) == 20 then
        match val with
        | .nilIface => unsupported (.noEntry "extern/reflectlite: a nil value of one interface type handed on as a value of another")
        | _ => storeVar dst a val
      else storeVar dst a (.iface src val)
    else panicString ("reflectlite.Set: value of type " ++ (← Rtype.spelt src) ++ " is not assignable to type " ++ (← Rtype.spelt dst))
    pure (.tuple #[])) := rfl
theorem ea_partsA (a : Addr) (w : World) : (ReflectliteValue.parts (.agg #[.pointer (some ⟨4, 80, none⟩), .pointer (some a), .int .u64 409])).run Tryd.prog w = .ok (some (80, a, 409)) w := by kernel_rfl
theorem ea_partsE (a : Addr) (w : World) : (ReflectliteValue.parts (.agg #[.pointer (some ⟨4, 80, none⟩), .pointer (some a), .int .u64 153])).run Tryd.prog w = .ok (some (80, a, 153)) w := by kernel_rfl
theorem ea_direct (w : World) : (Rtype.directlyAssignable 80 80).run Tryd.prog w = .ok true w := by kernel_rfl
theorem ea_load (b : Addr) (c : Int) (W : World) (hb : W.cell? b = some (.int .i64 c)) : (loadVar 80 b).run Tryd.prog W = .ok (.agg #[.int .i64 c]) W := by
  have h1 : (loadCells b 1).run Tryd.prog W = .ok #[.int .i64 c] W := by
    simp [loadCells, loadCellsFrom, Addr.add, hb]
  simp [loadVar, isAgg, underlying, Tryd.underlying80, Result.andThen, h1]
theorem ea_set (ta b : Addr) (c : Int) (old : Value) (W : World) (hb : W.cell? b = some (.int .i64 c)) (ht : W.cell? ta = some old) (hf : W.frozen? ta = false) :
    (ReflectliteValue.set #[.agg #[.pointer (some ⟨4, 80, none⟩), .pointer (some ta), .int .u64 409], .agg #[.pointer (some ⟨4, 80, none⟩), .pointer (some b), .int .u64 153]]).run Tryd.prog W
      = .ok (.tuple #[]) (W.setCell ta (.int .i64 c)) := by
  rw [ea_rls]
  simp only [Sem.run_bind, ea_partsA, ea_partsE, Result.andThen]
  simp [ReflectliteValue.flagAddr, ea_load b c W hb, Result.andThen, ea_direct, storeVar, Value.cells, storeCells, Addr.add]
  rw [run_store Tryd.prog W ta _ _ (by rfl)]
  simp [ht, hf]
/-- The variable that errors.As reads holds the handle of the type error. -/
def ErrIs (w : World) : Prop := w.cell? ⟨1, 0, none⟩ = some (.iface 115 (.agg #[.pointer (some ⟨4, 76, none⟩)]))
theorem ErrIs.lt {w : World} (h : ErrIs w) : 1 < w.heap.size := by
  rcases Nat.lt_or_ge 1 w.heap.size with h0 | h0
  · exact h0
  · exfalso
    unfold ErrIs at h
    simp [World.cell?, Array.getElem?_eq_none h0] at h
theorem ErrIs.later {B : Nat} {w w' : World} (h : ErrIs w) (hB : B = w.heap.size) (hb : Below B w w') : ErrIs w' := by
  subst hB
  unfold ErrIs
  rw [hb.cell (p := ⟨1, 0, none⟩) h.lt]
  exact h

set_option maxRecDepth 100000 in
set_option maxHeartbeats 4000000 in
theorem errAs_hit0 (c : Int) (t : Addr) (old : Value) (w : World) (hg : ErrIs w) (ht0 : w.cell? t = some old) (hf0 : w.frozen? t = false) :
    Calls Tryd.prog 62 #[.iface 80 (.agg #[.int .i64 c]), .iface 82 (.pointer (some t))] w fun ev w' => ev = .returned (.bool true) ∧ w' = ((((w.alloc (.cells #[.pointer (some t)] 82)).alloc (.cells #[.pointer (some ⟨4, 82, none⟩), .pointer (some ⟨w.heap.size, 0, none⟩), .int .u64 150] 94)).alloc (.cells #[.pointer (some ⟨4, 82, none⟩), .pointer (some ⟨w.heap.size, 0, none⟩), .int .u64 150] 94)).alloc (.cells #[.int .i64 c] 80)).setCell t (.int .i64 c) := by
  have h6 := @run_callFunc_extern Tryd.prog 71 _ (fun args => ReflectliteValue.unpack (args.getD 0 (.tuple #[]))) Tryd.func71 (by kernel_rfl) (by kernel_rfl) (by kernel_rfl) (by kernel_rfl)
  have h7 := @run_callFunc_extern Tryd.prog 72 _ (ReflectliteValue.methodAny (ReflectliteValue.valueError "reflectlite.Value.Type" 0) (fun t _ _ _ => ReflectliteType.toType t)) Tryd.func72 (by kernel_rfl) (by kernel_rfl) (by kernel_rfl) (by kernel_rfl)
  have h8 := @run_callFunc_extern Tryd.prog 73 _ (ReflectliteValue.method (ReflectliteValue.valueError "reflectlite.Value.IsNil" 0) ReflectliteValue.isNil) Tryd.func73 (by kernel_rfl) (by kernel_rfl) (by kernel_rfl) (by kernel_rfl)
  have h27 := @run_callFunc_extern Tryd.prog 120 _ (ReflectliteType.abiMethod fun t => do pure (.int .u8 (← Rtype.kind t))) Tryd.func120 (by kernel_rfl) (by kernel_rfl) (by kernel_rfl) (by kernel_rfl)
  have h37 := @run_callFunc_extern Tryd.prog 131 _ (ReflectliteType.method ReflectliteType.elem) Tryd.func131 (by kernel_rfl) (by kernel_rfl) (by kernel_rfl) (by kernel_rfl)
  have h38 := @run_callFunc_extern Tryd.prog 132 _ (ReflectliteType.relation "Implements" ReflectliteType.implements_) Tryd.func132 (by kernel_rfl) (by kernel_rfl) (by kernel_rfl) (by kernel_rfl)
  have h10 := @run_callFunc_extern Tryd.prog 83 _ ReflectliteType.typeOf Tryd.func83 (by kernel_rfl) (by kernel_rfl) (by kernel_rfl) (by kernel_rfl)
  have h35 := @run_callFunc_extern Tryd.prog 129 _ (ReflectliteType.relation "AssignableTo" ReflectliteType.assignableTo) Tryd.func129 (by kernel_rfl) (by kernel_rfl) (by kernel_rfl) (by kernel_rfl)
  have h11 := @run_callFunc_extern Tryd.prog 84 _ (ReflectliteValue.method (ReflectliteValue.valueError "reflectlite.Value.Elem" 0) ReflectliteValue.elem) Tryd.func84 (by kernel_rfl) (by kernel_rfl) (by kernel_rfl) (by kernel_rfl)
  have h12 := @run_callFunc_extern Tryd.prog 85 _ ReflectliteValue.set Tryd.func85 (by kernel_rfl) (by kernel_rfl) (by kernel_rfl) (by kernel_rfl)
  have tO := ea_typeOf
  have mA := ea_methodAssignable
  have a25 := ea_assignable
  have v25 := ea_valueOfE
  have f6 := ea_valueOfP
  have f7 := ea_typeP
  have mK := ea_methodKind
  have mE := ea_methodElem
  have mI := ea_methodImplements
  have k27 := ea_kindP
  have k25 := ea_kindE
  have e27 := ea_elemP
  have i25 := ea_implements
  have n8 := ea_isNilP ⟨w.heap.size, 0, none⟩ t ((w.alloc (.cells #[.pointer (some t)] 82)).alloc (.cells #[.pointer (some ⟨4, 82, none⟩), .pointer (some ⟨w.heap.size, 0, none⟩), .int .u64 150] 94)) (by simp)
  have hlt := hg.lt
  have hg2 : ((w.alloc (.cells #[.pointer (some t)] 82)).alloc (.cells #[.pointer (some ⟨4, 82, none⟩), .pointer (some ⟨w.heap.size, 0, none⟩), .int .u64 150] 94)).cell? ⟨1, 0, none⟩ = some (.iface 115 (.agg #[.pointer (some ⟨4, 76, none⟩)])) := by
    rw [World.cell?_alloc_lt _ _ ⟨1, 0, none⟩ (by simp; try omega), World.cell?_alloc_lt _ _ ⟨1, 0, none⟩ hlt]; exact hg
  have htl : t.block < w.heap.size := by
    rcases Nat.lt_or_ge t.block w.heap.size with h | h
    · exact h
    · simp [World.cell?, Array.getElem?_eq_none h] at ht0
  have el := ea_elemV ⟨w.heap.size, 0, none⟩ t (((w.alloc (.cells #[.pointer (some t)] 82)).alloc (.cells #[.pointer (some ⟨4, 82, none⟩), .pointer (some ⟨w.heap.size, 0, none⟩), .int .u64 150] 94)).alloc (.cells #[.pointer (some ⟨4, 82, none⟩), .pointer (some ⟨w.heap.size, 0, none⟩), .int .u64 150] 94)) (by rw [World.cell?_alloc_lt _ _ ⟨w.heap.size, 0, none⟩ (by simp; omega)]; simp)
  have st := ea_set t ⟨w.heap.size + 1 + 1 + 1, 0, none⟩ c old ((((w.alloc (.cells #[.pointer (some t)] 82)).alloc (.cells #[.pointer (some ⟨4, 82, none⟩), .pointer (some ⟨w.heap.size, 0, none⟩), .int .u64 150] 94)).alloc (.cells #[.pointer (some ⟨4, 82, none⟩), .pointer (some ⟨w.heap.size, 0, none⟩), .int .u64 150] 94)).alloc (.cells #[.int .i64 c] 80))
    (by rw [World.cell?_alloc_at _ _ _ _ (by simp)]; rfl)
    (by rw [World.cell?_alloc_lt _ _ t (by simp; omega), World.cell?_alloc_lt _ _ t (by simp; omega), World.cell?_alloc_lt _ _ t (by simp; omega), World.cell?_alloc_lt _ _ t htl]; exact ht0)
    (by rw [World.frozen?_alloc_old _ _ t (by simp; omega), World.frozen?_alloc_old _ _ t (by simp; omega), World.frozen?_alloc_old _ _ t (by simp; omega), World.frozen?_alloc_old _ _ t (Nat.ne_of_lt htl)]; exact hf0)
  unfold ErrIs at hg
  go_enter Tryd.func62, Tryd.ntmps62
  go_wp2
  refine wp_loop_rounds 1 ?_
  rw [rounds_succ]
  go_wp2
  go_ret
  exact ⟨rfl, rfl⟩
/-- errors.As at a pathError and a target of its own: true; the target's cell holds the code; nothing below the target is written. -/
theorem errAs_hit (c : Int) (b : Nat) (old : Value) (w : World) (hg : ErrIs w) (ht0 : w.cell? ⟨b, 0, none⟩ = some old) (hf0 : w.frozen? ⟨b, 0, none⟩ = false) :
    Calls Tryd.prog 62 #[.iface 80 (.agg #[.int .i64 c]), .iface 82 (.pointer (some ⟨b, 0, none⟩))] w fun ev w' => ev = .returned (.bool true) ∧ w'.cell? ⟨b, 0, none⟩ = some (.int .i64 c) ∧ Below b w w' := by
  have hbl : b < w.heap.size := by
    rcases Nat.lt_or_ge b w.heap.size with h | h
    · exact h
    · exfalso; simp [World.cell?, Array.getElem?_eq_none h] at ht0
  refine (errAs_hit0 c ⟨b, 0, none⟩ old w hg ht0 hf0).mono ?_
  rintro e w' ⟨he, hw⟩
  subst hw
  refine ⟨he, ?_, ?_⟩
  · refine World.cell?_setCell_same (u := old) _ _ _ ?_
    rw [World.cell?_alloc_lt _ _ ⟨b, 0, none⟩ (by simp; omega), World.cell?_alloc_lt _ _ ⟨b, 0, none⟩ (by simp; omega), World.cell?_alloc_lt _ _ ⟨b, 0, none⟩ (by simp; omega), World.cell?_alloc_lt _ _ ⟨b, 0, none⟩ hbl]
    exact ht0
  · refine Below.setCell (p := ⟨b, 0, none⟩) ?_ (Nat.le_refl b) _
    refine Below.alloc (Below.alloc (Below.alloc (Below.alloc (Below.refl _ _) ?_ _) ?_ _) ?_ _) ?_ _ <;> (first | omega | (simp; omega))
end Go.Proofs.YtkfkjcadmdcbnaaDoor
namespace Go.Proofs.YtkfkjcadmdcbnaaDoor
open Go.RowKit Go.Proofs.YtkfkjcadmdcbnaaDoor.Parts Go.Proofs.YtkfkjcadmdcbnaaDoor.Hexa Go.Proofs.YtkfkjcadmdcbnaaDoor.Byt

set_option maxRecDepth 100000 in
set_option maxHeartbeats 2000000 in
theorem implSplit_any (s : ByteArray) (w : World) (hs : s.size ≤ 2000000) (hE : ErrIs w) :
    Calls Tryd.prog 48 #[.string s] w (GivesTI (pathNames s) (pathCode s) w) := by
  have HE := Lib.hid hE
  obtain ⟨q, hq⟩ : ∃ q, pathCode s = q := ⟨_, rfl⟩
  have HQ := Lib.hid hq
  clear hE hq
  go_enter Tryd.func48, Tryd.ntmps48
  go_wp2_with fail
  refine (implNames_any s _ hs).mono ?_
  rintro e w1 ⟨⟨hc, rfl⟩ | ⟨hc, v, rfl, ho⟩, hb⟩
  · have HN : Hid (pathNames s = []) := Lib.hid (List.length_eq_zero_iff.1 (names_none hc))
    rw [HQ.out] at hc
    rw [HQ.out]
    have HE1 := Lib.hid (HE.out.later rfl hb)
    have B1 := Lib.hid hb
    have A1 : Hid (Below w1.heap.size w1 (w1.alloc (.cells #[.int .i64 0] 80))) := Lib.hid ((Below.refl _ _).alloc (Nat.le_refl _) _)
    have HC := Lib.hid hc
    clear hb hc HE
    go_wp2_with fail
    refine (errAs_hit q w1.heap.size (.int .i64 0) _ (HE1.out.later rfl A1.out) (by simp) (by simp)).mono ?_
    rintro e w2 ⟨rfl, hc2, hb2⟩
    have BW : Hid (Below w.heap.size w w2) := Lib.hid (B1.out.trans ((A1.out.trans hb2).mono B1.out.size))
    clear hb2
    go_wp2
    go_region
    all_goals
      go_wp2
      refine bodyPost_ret (v := .tuple #[.slice none 0 0, .int .i64 q]) ?_ rfl ⟨_, by rw [HQ.out], by rw [HN.out]; exact World.ownsRow_nil _ _ _ _, by first | exact BW.out | exact BW.out.drew⟩
      simp [results, Tryd.results48, go_sem]
  · rw [HQ.out] at hc
    subst hc
    obtain ⟨ad, cap, rfl, hcap, hnc, hr⟩ := own_form ho
    obtain ⟨L, hL⟩ : ∃ L, pathNames s = L := ⟨_, rfl⟩
    rw [hL] at ho hnc
    have HLL := Lib.hid hL
    have O1 := Lib.hid ho
    have B1 := Lib.hid hb
    have A1 : Hid (Below w1.heap.size w1 (w1.alloc (.cells #[.int .i64 0] 80))) := Lib.hid ((Below.refl _ _).alloc (Nat.le_refl _) _)
    have BW : Hid (Below w.heap.size w (w1.alloc (.cells #[.int .i64 0] 80))) := Lib.hid (hb.trans (A1.out.mono hb.size))
    have O2 := Lib.hid (own_below ho A1.out)
    clear ho hb hr hL
    go_wp2_with fail
    refine (errAs_nil _ _).mono ?_
    rintro e w2 ⟨rfl, rfl⟩
    go_wp2
    refine bodyPost_ret (v := .tuple #[.slice ad L.length cap, .int .i64 0]) ?_ rfl ⟨_, by rw [HQ.out], by rw [HLL.out]; exact O2.out, BW.out⟩
    simp [results, Tryd.results48, go_sem, HLL.out]
end Go.Proofs.YtkfkjcadmdcbnaaDoor
namespace Go.Proofs.YtkfkjcadmdcbnaaDoor
open Go.RowKit Go.Proofs.YtkfkjcadmdcbnaaDoor.Parts Go.Proofs.YtkfkjcadmdcbnaaDoor.Hexa

theorem joinL_data (L : List ByteArray) : ∀ k, (joinTo L k).data.toList = (L.take k).flatMap (fun x => 47 :: x.data.toList) ∨ L.length < k
  | 0 => .inl rfl
  | k + 1 => by
    by_cases h : L.length < k + 1
    · exact .inr h
    · rcases joinL_data L k with h1 | h1
      · refine .inl ?_
        rw [joinTo_next, List.take_succ_eq_append_getElem (by omega), List.flatMap_append, ← h1]
        simp [slashB, List.getD, show k < L.length by omega]
      · omega
theorem lib_join_cons (x : List UInt8) (r : List (List UInt8)) (sep : List UInt8) : sep ++ Lib.join (x :: r) sep = (x :: r).flatMap (fun y => sep ++ y) := by
  rw [Lib.join_cons, List.flatMap_cons, List.append_assoc]
  congr 1
theorem joinB_lib (L : List ByteArray) : slashB ++ ⟨(Lib.join (L.map (·.data.toList)) [47]).toArray⟩ = joinB L := by
  cases L with
  | nil => rfl
  | cons x r =>
    have h := joinL_data (x :: r) (x :: r).length
    rcases h with h | h
    · have h2 := lib_join_cons x.data.toList (r.map (·.data.toList)) [47]
      rw [List.take_length] at h
      unfold joinB
      rw [if_neg (by simp)]
      apply ByteArray.ext
      apply Array.toList_inj.1
      rw [h]
      have h3 : (slashB ++ ⟨(Lib.join ((x :: r).map (·.data.toList)) [47]).toArray⟩ : ByteArray).data.toList = [47] ++ Lib.join ((x :: r).map (·.data.toList)) [47] := by simp [slashB]
      rw [h3, List.map_cons, h2, List.flatMap_cons, List.flatMap_cons, List.flatMap_map]
      rfl
    · omega
theorem lib_tail_len (m : Nat) : ∀ (r : List (List UInt8)), (∀ x ∈ r, x.length ≤ m) → (Lib.joinTail [47] r).length ≤ r.length * (m + 1)
  | [], _ => by simp [Lib.joinTail]
  | x :: r, h => by
    have h1 := lib_tail_len m r (fun z hz => h z (by simp [hz]))
    have h2 := h x (by simp)
    have h3 : (Lib.joinTail [47] (x :: r)).length = 1 + x.length + (Lib.joinTail [47] r).length := by simp [Lib.joinTail]; omega
    rw [h3, List.length_cons, Nat.add_mul r.length 1]
    omega
theorem lib_join_len (m : Nat) (L : List (List UInt8)) (h : ∀ x ∈ L, x.length ≤ m) : (Lib.join L [47]).length ≤ L.length * (m + 1) := by
  cases L with
  | nil => simp [Lib.join_nil]
  | cons x r =>
    have h1 := lib_tail_len m r (fun z hz => h z (by simp [hz]))
    have h2 := h x (by simp)
    rw [Lib.join_cons, List.length_append, List.length_cons, Nat.add_mul r.length 1]
    omega

set_option maxRecDepth 100000 in
set_option maxHeartbeats 1000000 in
theorem implJoin_any (a : Option Addr) (n c : Nat) (L : List ByteArray) (w : World) (hs : SrcT w a n L) (hn : n ≤ 2000000) (hc : n ≤ c) (hm : ∀ j, j < n → (L.getD j default).size ≤ 2000000) :
    Calls Tryd.prog 49 #[.slice a n c] w (SaysT (joinB L) w) := by
  have hl := hs.len
  have HJ := Lib.hid (joinB_lib L)
  have HZ : Hid ((Lib.join (L.map (·.data.toList)) [47]).length ≤ 4000002000000) := Lib.hid (by
    have h1 := lib_join_len 2000000 (L.map (·.data.toList)) (fun x hx => by
      obtain ⟨y, hy, rfl⟩ := List.mem_map.1 hx
      obtain ⟨j, hj, rfl⟩ := List.mem_iff_getElem.1 hy
      have h9 := hm j (by omega)
      rw [← Lib.size_eq]
      simpa [List.getD, hj] using h9)
    rw [List.length_map, hl] at h1
    exact Nat.le_trans h1 (Nat.le_trans (Nat.mul_le_mul_right _ hn) (by decide)))
  obtain ⟨t, ht⟩ : ∃ t : ByteArray, t = ⟨(Lib.join (L.map (·.data.toList)) [47]).toArray⟩ := ⟨_, rfl⟩
  have HTs : t.size ≤ 4000002000000 := by rw [ht]; have := HZ.out; simpa [ByteArray.size] using this
  have HJ2 : Hid ((⟨#[47]⟩ : ByteArray) ++ t = joinB L) := Lib.hid (by rw [ht]; exact HJ.out)
  have HJc : Hid (Calls Tryd.prog 63 #[.slice a n c, .string ⟨#[47]⟩] w (SaysT t w)) := Lib.hid (by
    by_cases h0 : n = 0
    · subst h0
      have hL0 : L = [] := List.length_eq_zero_iff.1 hl
      subst hL0
      refine (Any.strings_Join_none Tryd.lays156 Tryd.Builder_Extra_156 a c ⟨#[47]⟩ w).mono ?_
      rintro e w' ⟨he, hw⟩
      subst hw
      exact ⟨by first | (rw [he, ht]; done) | (rw [he, ht]; rfl), Below.refl _ _⟩
    · obtain ⟨g, off, e, hg, _⟩ := srcT_at hs 0 (by omega)
      subst e
      subst hl
      refine (Tryd.strings_Join g off c L ⟨#[47]⟩ w (fun j x hx => ?_) hg (by omega) hc (by exact Nat.le_trans HZ.out (by decide))).mono ?_
      · have hj : j < L.length := by
          rcases Nat.lt_or_ge j L.length with h | h
          · exact h
          · rw [List.getElem?_eq_none h] at hx; cases hx
        obtain ⟨g', off', e', _, c'⟩ := srcT_at hs j hj
        cases e'
        have h8 : L.getD j default = x := by simp [List.getD, hx]
        rw [← h8]
        exact c'
      · rintro e w' ⟨he, hb⟩
        exact ⟨by first | (rw [he, ht]; done) | (rw [he, ht]; rfl), hb⟩)
  clear HJ HZ ht hm hs
  go_enter Tryd.func49, Tryd.ntmps49
  go_wp2_with fail
  refine HJc.out.mono ?_
  rintro e w1 ⟨rfl, hb⟩
  have HB := Lib.hid hb
  clear hb
  go_wp2
  go_ret
  exact ⟨by rw [HJ2.out]; rfl, HB.out⟩
end Go.Proofs.YtkfkjcadmdcbnaaDoor
namespace Go.Proofs.YtkfkjcadmdcbnaaDoor
open Go.RowKit Go.Proofs.YtkfkjcadmdcbnaaDoor.Parts Go.Proofs.YtkfkjcadmdcbnaaDoor.Hexa

set_option maxRecDepth 100000 in
set_option maxHeartbeats 1000000 in
theorem implParent_any (s : ByteArray) (w : World) (hs : s.size ≤ 2000000) (hE : ErrIs w) :
    Calls Tryd.prog 25 #[.string s] w (SaysT (parentB s) w) := by
  obtain ⟨L, hL⟩ : ∃ L, pathNames s = L := ⟨_, rfl⟩
  obtain ⟨q, hq⟩ : ∃ q, pathCode s = q := ⟨_, rfl⟩
  have HQ := Lib.hid hq
  have HL := Lib.hid hL
  have HN : Hid (q ≠ 0 → L.length = 0) := Lib.hid (fun h => by rw [← hL]; exact names_none (by rw [hq]; exact h))
  have HM : Hid (∀ j, j < L.length → (L.getD j default).size ≤ 60) := Lib.hid (fun j hj => by have := names_size s j (by rw [hL]; exact hj); rw [hL] at this; exact this)
  have hl : L.length ≤ 61 := by rw [← hL]; exact names_len s
  clear hL hq
  go_enter Tryd.func25, Tryd.ntmps25
  go_wp2_with fail
  refine (implSplit_any s _ hs hE).mono ?_
  rw [HQ.out, HL.out]
  rintro e w1 ⟨v, rfl, ho, hb⟩
  obtain ⟨ad, cap, rfl, hcap, hnc, hr⟩ := own_form ho
  have HO := Lib.hid ho
  have HB := Lib.hid hb
  unfold maxLen at hcap
  clear ho hb hr
  by_cases h0 : L.length = 0
  · have HJ : Hid (parentB s = ⟨#[]⟩) := Lib.hid (by unfold parentB; rw [HL.out, if_pos h0])
    go_wp2
    go_ret
    exact ⟨by rw [HJ.out]; rfl, HB.out⟩
  · have hz : q = 0 := by
      by_cases h : q = 0
      · exact h
      · exact absurd (HN.out h) h0
    subst hz
    have HJ : Hid (parentB s = joinB (L.take (L.length - 1))) := Lib.hid (by unfold parentB; rw [HL.out, if_neg h0])
    obtain ⟨m, hm⟩ : ∃ m, L.length = m + 1 := ⟨L.length - 1, by omega⟩
    have HT : Hid (SrcT w1 ad m (L.take m)) := Lib.hid (srcT_take (srcT_of_own HO.out) (by omega))
    have HT2 : Hid (∀ j, j < m → ((L.take m).getD j default).size ≤ 2000000) := Lib.hid (fun j hj => by
      have h9 := HM.out j (by omega)
      have e9 : (L.take m).getD j default = L.getD j default := by
        simp only [List.getD, List.getElem?_take]
        rw [if_pos hj]
      rw [e9]; omega)
    have HJ2 : Hid (parentB s = joinB (L.take m)) := Lib.hid (by rw [HJ.out, hm]; rfl)
    rw [hm] at hnc hl h0 ⊢
    clear HJ HN HM
    go_wp2_with fail
    refine (implJoin_any ad m cap (L.take m) _ HT.out (by omega) (by omega) HT2.out).mono ?_
    rw [← HJ2.out]
    rintro e w2 ⟨rfl, hb2⟩
    have B2 : Below w.heap.size w w2 := HB.out.trans (hb2.mono HB.out.size)
    clear hb2
    go_wp2
    go_ret
    exact ⟨rfl, B2⟩
set_option maxRecDepth 100000 in
set_option maxHeartbeats 1000000 in
theorem implLast_any (s : ByteArray) (w : World) (hs : s.size ≤ 2000000) (hE : ErrIs w) :
    Calls Tryd.prog 26 #[.string s] w (SaysT (lastB s) w) := by
  obtain ⟨L, hL⟩ : ∃ L, pathNames s = L := ⟨_, rfl⟩
  obtain ⟨q, hq⟩ : ∃ q, pathCode s = q := ⟨_, rfl⟩
  have HQ := Lib.hid hq
  have HL := Lib.hid hL
  have HN : Hid (q ≠ 0 → L.length = 0) := Lib.hid (fun h => by rw [← hL]; exact names_none (by rw [hq]; exact h))
  have hl : L.length ≤ 61 := by rw [← hL]; exact names_len s
  clear hL hq
  go_enter Tryd.func26, Tryd.ntmps26
  go_wp2_with fail
  refine (implSplit_any s _ hs hE).mono ?_
  rw [HQ.out, HL.out]
  rintro e w1 ⟨v, rfl, ho, hb⟩
  obtain ⟨ad, cap, rfl, hcap, hnc, hr⟩ := own_form ho
  have HO := Lib.hid ho
  have HB := Lib.hid hb
  unfold maxLen at hcap
  clear ho hb hr
  by_cases h0 : L.length = 0
  · have HJ : Hid (lastB s = ⟨#[]⟩) := Lib.hid (by unfold lastB; rw [HL.out, if_pos h0])
    go_wp2
    go_ret
    exact ⟨by rw [HJ.out]; rfl, HB.out⟩
  · have hz : q = 0 := by
      by_cases h : q = 0
      · exact h
      · exact absurd (HN.out h) h0
    subst hz
    obtain ⟨m, hm⟩ : ∃ m, L.length = m + 1 := ⟨L.length - 1, by omega⟩
    have HJ : Hid (lastB s = L.getD m default) := Lib.hid (by unfold lastB; rw [HL.out, if_neg h0, hm]; rfl)
    obtain ⟨g, off, rfl, hg, d0⟩ := srcT_at (srcT_of_own HO.out) m (by omega)
    rw [← HJ.out] at d0
    rw [hm] at hnc hl h0 ⊢
    clear HN
    go_wp2
    go_ret
    exact ⟨rfl, HB.out⟩
end Go.Proofs.YtkfkjcadmdcbnaaDoor
namespace Go.Proofs.YtkfkjcadmdcbnaaDoor
open Go.RowKit Go.Proofs.YtkfkjcadmdcbnaaDoor.Parts Go.Proofs.YtkfkjcadmdcbnaaDoor.Hexa

set_option maxRecDepth 100000 in
set_option maxHeartbeats 4000000 in
theorem implKids_any (a : Option Addr) (c : Nat) (L : List ItemR) (f : ByteArray) (w : World) (h : (celRow cItem L).Rd w (.slice a L.length c)) (hz : (celRow cItem L).sz ≤ 2000000) (hE : ErrIs w) :
    Calls Tryd.prog 9 #[.agg #[.slice a L.length c], .string f] w (GivesK (kidsR L f) w) := by
  have B0 := Lib.hid (below_bk w (.cells #[.slice a L.length c] 30))
  have T0 := Lib.hid (Bk.alloc w #[.slice a L.length c] 30)
  have HS := Lib.hid h
  rw [sz_row'] at hz
  have hn : L.length ≤ 2000000 := by omega
  have HZ : Hid (szL (celsE cItem L) ≤ 2000000) := Lib.hid (by omega)
  clear h hz
  have HE := Lib.hid hE
  clear hE
  by_cases hf0 : f.size = 0
  case pos =>
    have hf : f = ⟨#[]⟩ := by
      cases f with | mk f => cases f with | mk l => cases l with
      | nil => rfl
      | cons x r => simp [ByteArray.size] at hf0
    subst hf
    have HK : Hid (kidsR L ⟨#[]⟩ = []) := Lib.hid (kids_none rfl)
    go_enter Tryd.func9, Tryd.ntmps9
    go_wp2
    go_ret
    exact ⟨_, rfl, by rw [HK.out]; exact World.ownsRow_nil _ _ _ _, B0.out⟩
  have hfl : 0 < f.size := by omega
  have e1 := text_full f hfl
  have e2 := text_full' f hfl
  have HF := Lib.hid hf0
  have t0 := T0.out.cell (j := 0) rfl
  go_enter Tryd.func9, Tryd.ntmps9
  go_wp2
  clear t0 e1 e2 hf0
  go_loopw [5, 13] (fun ov jv wr => ∃ j : Nat, j ≤ L.length ∧ jv = .int .i64 j ∧ Hid (wr.ownsRow w.heap.size 9 1 ov (kidsR (L.take j) f).length (scells (kidsR (L.take j) f))) ∧ Hid (Below w.heap.size w wr)) (fun _ jv _ => L.length - (intOf jv).toNat)
  case atStart => exact ⟨0, Nat.zero_le _, rfl, Lib.hid (by rw [List.take_zero, kids_nil]; exact World.ownsRow_nil _ _ _ _), B0⟩
  case round =>
    clear T0 B0
    obtain ⟨j, hj, rfl, HO, HB⟩ := hrel
    by_cases hjt : j < L.length
    · obtain ⟨g, off, rfl, hg, d0, d1, d2⟩ := cItem_at (Cel.Rd.later HB.out _ _ HS.out) j hjt
      have HZJ := Lib.hid (Nat.le_trans (szL_at cItem L j hjt) HZ.out)
      rw [cItem_sz] at HZJ
      have D0 := Lib.hid (fun w' (hw : Below wr.heap.size wr w') => (hw.cell (p := ⟨g, off + j * 3, none⟩) hg).trans d0)
      have KY := Lib.hid (fun (h1 : f.size ≠ 0) (h2 : parentB (L.getD j default).path = f) => kids_yes h1 hjt h2)
      have KN := Lib.hid (fun (h2 : parentB (L.getD j default).path ≠ f) => kids_no hjt h2)
      have KU := Lib.hid (kidsR_upto L f j)
      obtain ⟨M, hM⟩ : ∃ M, kidsR (L.take j) f = M := ⟨_, rfl⟩
      obtain ⟨x, hx⟩ : ∃ x, L.getD j default = x := ⟨_, rfl⟩
      rw [hx] at d0 d1 d2 HZJ KY KN D0
      rw [hM] at HO KY KN KU
      have hps : x.path.size ≤ 2000000 := by have := HZJ.out; omega
      have HM := Lib.hid hM
      clear hx hM
      have hml : M.length ≤ 2000000 := by have := KU.out; omega
      obtain ⟨pp, hpp⟩ : ∃ q, parentB x.path = q := ⟨_, rfl⟩
      rw [hpp] at KY KN
      have HP := Lib.hid hpp
      clear hpp
      have HB1 : Hid (Below w.heap.size w (wr.alloc (.cells #[.string x.path, .bool x.dir, .string x.text] 48))) := Lib.hid (HB.out.alloc HB.out.size _)
      have HO1 : Hid ((wr.alloc (.cells #[.string x.path, .bool x.dir, .string x.text] 48)).ownsRow w.heap.size 9 1 u5 M.length (scells M)) := Lib.hid (own_below HO.out (below_bk _ _))
      have XB := Lib.hid (Bk.alloc wr #[.string x.path, .bool x.dir, .string x.text] 48)
      clear HB HO
      go_wp2_with fail
      clear d0 d1 d2
      refine (implParent_any x.path _ hps (HE.out.later rfl HB1.out)).mono ?_
      rw [HP.out]
      rintro e w2 ⟨rfl, hb⟩
      have HB2 : Hid (Below w.heap.size w w2) := Lib.hid (HB1.out.trans (hb.mono HB1.out.size))
      have HO2 := Lib.hid (own_below HO1.out hb)
      have XB2 := Lib.hid (XB.out.later hb)
      clear hb HB1 HO1 XB
      by_cases hq : pp = f
      case neg =>
        have HO3 : Hid (w2.ownsRow w.heap.size 9 1 u5 (kidsR (L.take (j + 1)) f).length (scells (kidsR (L.take (j + 1)) f))) := Lib.hid (by rw [KN.out hq]; exact HO2.out)
        have i1 := text_neB hq
        have i3 := text_ne hq
        clear HO2 KY KN hq
        go_wp2
        go_roundw
        case rel => exact ⟨j + 1, by omega, by go_num, HO3, HB2⟩
        case measure => (simp [intOf]; try omega)
      subst hq
      have KK := Lib.hid (KY.out HF.out rfl)
      have q0 := XB2.out.cell (j := 0) rfl
      clear KY KN
      go_wp2_with fail
      clear q0
      refine (implLast_any x.path _ hps (HE.out.later rfl HB2.out)).mono ?_
      rintro e w3 ⟨rfl, hb⟩
      have HB3 : Hid (Below w.heap.size w w3) := Lib.hid (HB2.out.trans (hb.mono HB2.out.size))
      have HAP := Lib.hid (fun ty => appT1 w3 ty w.heap.size _ M.length M (own_below HO2.out hb) HB3.out.size (lastB x.path) (by omega))
      obtain ⟨y, hy⟩ : ∃ y, lastB x.path = y := ⟨_, rfl⟩
      rw [hy] at HAP KK ⊢
      have HOQ := Lib.hid (fun q (hq : u5.ownBlock = some q) => (HO2.out.lt q hq))
      clear hb HO2 hy
      go_wp2_with (at_builtin; refine wpList_appE rfl _ _ _ _ rfl _ _ rfl rfl (HAP.out _) ?_; intro v4 w4 hown4 hgrow4 hat4)
      have HO4 : Hid (w4.ownsRow w.heap.size 9 1 v4 (kidsR (L.take (j + 1)) pp).length (scells (kidsR (L.take (j + 1)) pp))) := Lib.hid (by rw [KK.out, List.length_append]; exact hown4)
      have hba := below_bk w3 (.cells #[.string y] 9)
      have HB4 : Hid (Below w.heap.size w w4) := Lib.hid ((HB3.out.trans (hba.mono HB3.out.size)).grown hgrow4 (Nat.le_trans HB3.out.size hba.size) (fun q hq => (HOQ.out q hq).1))
      clear hown4 hgrow4 hat4 hba HAP KK
      go_wp2
      go_roundw
      case rel => exact ⟨j + 1, by omega, by go_num, HO4, HB4⟩
      case measure => (simp [intOf]; try omega)
    · obtain rfl : j = L.length := by omega
      rw [List.take_length] at HO
      go_wp2
      go_ret
      exact ⟨_, rfl, HO.out, HB.out⟩
end Go.Proofs.YtkfkjcadmdcbnaaDoor
namespace Go.Proofs.YtkfkjcadmdcbnaaDoor
open Go.RowKit

theorem strs_sz : ∀ {P : List ByteArray}, (∀ s ∈ P, s.size ≤ 60) → (celRow cStr P).sz ≤ 61 * P.length
  | [], _ => Nat.le_refl _
  | x :: r, h => by
    have h1 := strs_sz (P := r) (fun s hs => h s (List.mem_cons_of_mem _ hs))
    have h2 := h x List.mem_cons_self
    rw [szStrs_cons, List.length_cons]
    omega
theorem last_size (s : ByteArray) : (lastB s).size ≤ 60 := by
  unfold lastB
  split
  · exact Nat.zero_le _
  · exact names_size s _ (by omega)
theorem kids_sz {L : List ItemR} {f : ByteArray} (h : L.length ≤ 1048576) : (celRow cStr (kidsR L f)).sz ≤ 100000000 := by
  have h1 : ∀ s ∈ kidsR L f, s.size ≤ 60 := by
    intro s hs
    unfold kidsR at hs
    split at hs
    · cases hs
    · obtain ⟨x, _, rfl⟩ := List.mem_map.1 hs
      exact last_size _
  have h2 := strs_sz h1
  have h3 := kids_len L f
  omega
theorem kids_cnt {L : List ItemR} {f : ByteArray} (h : L.length ≤ 1048576) : 1 + (celRow cStr (kidsR L f)).cnt ≤ 100000000 := by
  rw [cntStrs_eq]
  have h3 := kids_len L f
  omega
end Go.Proofs.YtkfkjcadmdcbnaaDoor
namespace Go.Proofs.YtkfkjcadmdcbnaaDoor
open Go.RowKit Go.Proofs.YtkfkjcadmdcbnaaDoor.Parts Go.Proofs.YtkfkjcadmdcbnaaDoor.Hexa

theorem cItem_m {w : World} {L : List ItemR} {a : Option Addr} {n c k : Nat} (h : ((celRow cItem L).mk k).Rd w (.slice a n c)) (j q : Nat) (hj : j < n) (hq : q = k + cntL (celsE cItem (L.take j))) :
    ∃ (g off : Nat), a = some ⟨g, off, none⟩ ∧ g < w.heap.size ∧ w.cell? ⟨g, off + j * 3, none⟩ = some (.string (markT q)) ∧ w.cell? ⟨g, off + j * 3 + 1, none⟩ = some (.bool (((q : Int) + 1) % 3 == 0)) ∧ w.cell? ⟨g, off + j * 3 + 2, none⟩ = some (.string (markT ((q + 1) + 1))) := by
  obtain ⟨g, off, vs, ha, hg, hr, hc⟩ := rowM_at h (by decide) j hj
  rw [← hq] at hr
  obtain ⟨v0, r0, e0, h0, v1, r1, e1, h1, v2, r2, e2, h2, hend⟩ := hr
  have hend' : r2 = [] := hend
  rw [hend'] at e2
  rw [e2] at e1
  rw [e1] at e0
  subst e0
  exact ⟨g, off, ha, hg, (by have h9 := hc 0 _ rfl; rw [show v0 = _ from h0] at h9; exact h9), (by have h9 := hc 1 _ rfl; rw [show v1 = Value.bool (((q + 1 : Nat)) % 3 == 0) from h1, mark3_eq (a := q + 1) (b := q + 1) (c := (q : Int) + 1) rfl (by omega)] at h9; exact h9), (by have h9 := hc 2 _ rfl; rw [show v2 = _ from h2] at h9; exact h9)⟩
set_option maxRecDepth 100000 in
set_option maxHeartbeats 1000000 in
theorem heldItemS_any (v : Value) (L : List ItemR) (k : Nat) (kz : Int) (w : World) (hkz : kz = (k : Int)) (h0 : 0 < k) (hk : k + (celRow cItem L).cnt ≤ 100000000) (hz : L.length ≤ 100000000) (hs : ((celRow cItem L).mk k).Rd w v) :
    Calls Tryd.prog 43 #[v, .int .i64 kz] w fun e w' => e = .returned (.int .i64 ((k + (celRow cItem L).cnt : Nat) : Int)) ∧ Below w.heap.size w w' := by
  subst hkz
  obtain ⟨a, n, c, rfl, hn⟩ := rowK_form hs
  have HN := Lib.hid hn
  have HC : Hid ((celRow cItem L).cnt = cntL (celsE cItem L)) := Lib.hid rfl
  have hk' : k + cntL (celsE cItem L) ≤ 100000000 := hk
  have hz' : n ≤ 100000000 := by rw [← hn]; exact hz
  have hn9 : n ≤ 100000000 := by omega
  have HS := Lib.hid hs
  clear hn hs hk hz hz'
  go_enter Tryd.func43, Tryd.ntmps43
  go_wp2
  go_loopw [1, 5] (fun kv iv wr => ∃ (j q : Nat), j ≤ n ∧ 0 < q ∧ q ≤ 100000000 ∧ Hid (q = k + cntL (celsE cItem (L.take j))) ∧ iv = .int .i64 j ∧ kv = .int .i64 q ∧ Below w.heap.size w wr) (fun _ iv _ => n - (intOf iv).toNat)
  case atStart => exact ⟨0, k, Nat.zero_le _, h0, by omega, Lib.hid (by simp only [List.take_zero, celsE, cntL]; rfl), rfl, rfl, Below.refl _ _⟩
  case round =>
    obtain ⟨j, q, hj, hq0, hq9, HQ, rfl, rfl, hbel⟩ := hrel
    by_cases hlt : j < n
    · have hjL : j < L.length := by rw [HN.out]; exact hlt
      have HX := Lib.hid (cntL_next cItem hjL)
      have hm := cntL_take cItem L (j + 1)
      obtain ⟨g, off, rfl, hg, d0, d1, d2⟩ := cItem_m (Cel.Rd.later hbel _ _ HS.out) j q hlt HQ.out
      obtain ⟨x, hx⟩ : ∃ x, L.getD j default = x := ⟨_, rfl⟩
      rw [hx] at HX
      have hm2 : q + cntL (cItem.cels x) ≤ 100000000 := by have := HQ.out; have := HX.out; omega
      have HM2 := Lib.hid hm2
      have hm3 : q + 3 ≤ 100000000 := by have : cntL (cItem.cels x) = (1 + (1 + (1 + 0))) := rfl; omega
      clear hx hjL hm hm2
      go_wp2
      have hc1s : Hid (((q : Int)) = ((q : Nat) : Int)) := Lib.hid (by omega)
      go_region_with (go_at_call 29; refine (markText_n ((q : Int)) q _ hc1s.out (by omega) (by omega)).mono ?_; rintro e w1x ⟨rfl, hb⟩; have n1_0 := (hb.cell (p := ⟨g, off + j * 3, none⟩) hg).trans d0; have n1_1 := (hb.cell (p := ⟨g, off + j * 3 + 1, none⟩) hg).trans d1; have n1_2 := (hb.cell (p := ⟨g, off + j * 3 + 2, none⟩) hg).trans d2)
      all_goals
        have B1 : Below w.heap.size w w1x := hbel.drew.trans (hb.mono hbel.size)
        have hg1 : g < w1x.heap.size := Nat.lt_of_lt_of_le hg hb.size
        clear d0 d1 d2 hb
        go_wp2
        have hc2s : Hid (((q : Int) + 1 + 1) = (((q + 2) : Nat) : Int)) := Lib.hid (by omega)
        go_region_with (go_at_call 29; refine (markText_n ((q : Int) + 1 + 1) (q + 2) _ hc2s.out (by omega) (by omega)).mono ?_; rintro e w2x ⟨rfl, hb⟩; have n2_2 := (hb.cell (p := ⟨g, off + j * 3 + 2, none⟩) hg1).trans n1_2)
        all_goals
          have B2 : Below w.heap.size w w2x := B1.drew.trans (hb.mono B1.size)
          have hg2 : g < w2x.heap.size := Nat.lt_of_lt_of_le hg1 hb.size
          clear n1_0 n1_1 n1_2 hb
          go_wp2
          have HR : Hid ((q + 3) = k + cntL (celsE cItem (L.take (j + 1)))) := Lib.hid (by have := HQ.out; have := HX.out; have : cntL (cItem.cels x) = (1 + (1 + (1 + 0))) := rfl; omega)
          have hr9 : (q + 3) ≤ 100000000 := by have := HM2.out; have : cntL (cItem.cels x) = (1 + (1 + (1 + 0))) := rfl; omega
          go_roundw
          case rel => exact ⟨j + 1, (q + 3), by omega, by omega, hr9, HR, by go_num, by go_num, B2⟩
          case measure => (simp [intOf]; try omega)
    · obtain rfl : j = n := by omega
      go_wp2
      go_ret
      exact ⟨ret_i64m (by have := HQ.out; rw [List.take_of_length_le (by rw [HN.out]; omega)] at this; rw [HC.out]; omega), hbel⟩

end Go.Proofs.YtkfkjcadmdcbnaaDoor
namespace Go.Proofs.YtkfkjcadmdcbnaaDoor
open Go.RowKit Go.Proofs.YtkfkjcadmdcbnaaDoor.Parts Go.Proofs.YtkfkjcadmdcbnaaDoor.Hexa

set_option maxRecDepth 100000 in
set_option maxHeartbeats 1000000 in
theorem heldView_st (x : ViewR) (a0 : Option Addr) (c0 : Nat) (k : Nat) (kz : Int) (w : World) (hkz : kz = (k : Int)) (h0 : 0 < k) (hk : k + ((celRow cItem x.items).cnt + 0) ≤ 100000000) (hz : x.items.length ≤ 100000000) (hr : RdL w (mkTop (cView.cels x) k) [.slice a0 x.items.length c0]) :
    Calls Tryd.prog 20 #[.agg #[.slice a0 x.items.length c0], .int .i64 kz] w fun e w' => e = .returned (.int .i64 ((k + ((celRow cItem x.items).cnt + 0) : Nat) : Int)) ∧ Below w.heap.size w w' := by
  subst hkz
  obtain ⟨h0, hr⟩ := rd_cons hr
  have HS0 : Hid (((celRow cItem x.items).mk k).Rd w (.slice a0 x.items.length c0)) := Lib.hid h0
  have HZ := Lib.hid hz
  have HK := Lib.hid hk
  clear hr hz hk h0
  have B0 := Lib.hid (below_bk w (.cells #[.slice a0 x.items.length c0] 30))
  have T0 := Lib.hid (Bk.alloc w #[.slice a0 x.items.length c0] 30)
  go_enter Tryd.func20, Tryd.ntmps20
  go_wp2_with fail
  refine (heldItemS_any _ x.items k _ _ (by omega) (by omega) (by have := HK.out; omega) HZ.out (Cel.Rd.later B0.out _ _ HS0.out)).mono ?_
  rintro e w1 ⟨he, hb⟩
  obtain ⟨k0, hq0⟩ : ∃ y, k + (celRow cItem x.items).cnt = y := ⟨_, rfl⟩
  rw [hq0] at he
  subst he
  have HQ0 := Lib.hid hq0
  have hb0 : 0 < k0 := by omega
  have hl0 : k0 ≤ 100000000 := by have := HK.out; omega
  have hm0 : ¬ ((k0 : Int) < 0) := by omega
  have T1 := Lib.hid (T0.out.later hb)
  have B1 : Hid (Below w.heap.size w w1) := Lib.hid (B0.out.trans (hb.mono B0.out.size))
  clear hb hq0
  go_wp2
  go_ret
  exact ⟨ret_i64m (by have := HQ0.out; omega), B1.out⟩
end Go.Proofs.YtkfkjcadmdcbnaaDoor
namespace Go.Proofs.YtkfkjcadmdcbnaaDoor
open Go.RowKit Go.Proofs.YtkfkjcadmdcbnaaDoor.Parts Go.Proofs.YtkfkjcadmdcbnaaDoor.Hexa

set_option maxRecDepth 100000 in
set_option maxHeartbeats 1000000 in
theorem markItemS_any (v : Value) (L : List ItemR) (F : List Nat) (k : Nat) (kz : Int) (w : World) (hkz : kz = (k : Int)) (h0 : 0 < k) (hk : k + (celRow cItem L).cnt ≤ 100000000) (hz : L.length ≤ 100000000) (hF : F.Nodup) (ho : (celRow cItem L).Own w F v) :
    Calls Tryd.prog 28 #[v, .int .i64 kz] w (MarkPost (celRow cItem L) F v k w) := by
  subst hkz
  obtain ⟨a, n, c, rfl, hn⟩ := row_form (Cel.Own.rd _ _ _ ho)
  have HN := Lib.hid hn
  have hz' : n ≤ 100000000 := by rw [← hn]; exact hz
  have hn9 : n ≤ 100000000 := by omega
  have HF := Lib.hid hF
  have HC : Hid ((celRow cItem L).cnt = cntL (celsE cItem L)) := Lib.hid rfl
  have hk' : k + cntL (celsE cItem L) ≤ 100000000 := hk
  have HL : Hid ((celsE cItem L).length = n * 3) := Lib.hid (by rw [celsE_length, hn]; rfl)
  have HO : Hid ((Cel.sl cItem.e 3 n (stM (celsE cItem L) k 0)).Own w F (.slice a n c)) := Lib.hid (by rw [stM_zero]; have h9 := ho; unfold celRow at h9; rw [hn] at h9; exact h9)
  clear hn hF ho hk hz hz'
  go_enter Tryd.func28, Tryd.ntmps28
  go_wp2
  go_loopw [1, 5] (fun kv iv wr => ∃ (j q : Nat), j ≤ n ∧ 0 < q ∧ q ≤ 100000000 ∧ Hid (q = k + cntL (celsE cItem (L.take j))) ∧ iv = .int .i64 j ∧ kv = .int .i64 q ∧ Hid ((Cel.sl cItem.e 3 n (stM (celsE cItem L) k (j * 3))).Own wr F (.slice a n c)) ∧ Hid (OutF F w wr)) (fun _ iv _ => n - (intOf iv).toNat)
  case atStart => exact ⟨0, k, Nat.zero_le _, h0, by omega, Lib.hid (by simp only [List.take_zero, celsE, cntL]; rfl), rfl, rfl, by rw [Nat.zero_mul]; exact HO, Lib.hid (OutF.refl _ _)⟩
  case round =>
    clear HO
    obtain ⟨j, q, hj, hq0, hq9, HQ, rfl, rfl, HW, HU⟩ := hrel
    by_cases hlt : j < n
    · have hjL : j < L.length := by rw [HN.out]; exact hlt
      have HX := Lib.hid (cntL_next cItem hjL)
      have hm := cntL_take cItem L (j + 1)
      have HG : Hid (∀ o, o < 3 → (celsE cItem L).getD (j * 3 + o) default = (cItem.cels (L.getD j default)).getD o default) := Lib.hid (fun o ho => celsE_getD cItem L j o hjL ho)
      have HA : Hid (∀ o, o ≤ 3 → atM (celsE cItem L) k (j * 3 + o) = q + cntL ((cItem.cels (L.getD j default)).take o)) := Lib.hid (fun o ho => by rw [HQ.out]; exact atM_in cItem hjL ho)
      obtain ⟨x, hx⟩ : ∃ x, L.getD j default = x := ⟨_, rfl⟩
      rw [hx] at HX HG HA
      have hm2 : q + cntL (cItem.cels x) ≤ 100000000 := by have := HQ.out; have := HX.out; omega
      have HM2 := Lib.hid hm2
      have hm3 : q + 3 ≤ 100000000 := by have : cntL (cItem.cels x) = (1 + (1 + (1 + 0))) := rfl; omega
      clear hx hjL hm hm2
      go_wp2_with fail
      refine (markText_n _ q _ (by omega) (by omega) (by omega)).mono ?_
      rintro e y0 ⟨rfl, hb⟩
      have W0t := Lib.hid (Cel.Own.kept _ _ _ (fun g hg => hb.block g (Cel.Own.lt _ _ _ HW.out g hg)) HW.out)
      have U0t := Lib.hid (HU.out.trans (OutF.of_below hb))
      clear hb HW HU
      obtain ⟨g0, hg0, _, ⟨v0, e0⟩, z0, ho0, hu0⟩ := mark_val W0t.out HF.out (i := j * 3) (by omega) HL.out (HG.out 0 (by decide))
      subst hg0
      have e9 : atM (celsE cItem L) k (j * 3) = q + cntL ((cItem.cels x).take 0) := HA.out 0 (by decide)
      have e8 : markV (.string x.path) (atM (celsE cItem L) k (j * 3)) = (.string (markT q)) := by rw [e9]; show Value.string (markT (q + 0)) = _; rw [show q + 0 = q from by omega]
      rw [e8] at ho0 hu0
      clear e8 e9
      have W0 := Lib.hid ho0
      have U0 := Lib.hid (U0t.out.trans hu0)
      clear ho0 hu0 W0t U0t
      obtain ⟨g1, hg1, _, ⟨v1, e1⟩, z1, ho1, hu1⟩ := mark_val W0.out HF.out (i := j * 3 + 1) (by omega) HL.out (HG.out 1 (by decide))
      obtain rfl : g0 = g1 := by simpa using hg1
      have e9 : atM (celsE cItem L) k (j * 3 + 1) = q + cntL ((cItem.cels x).take 1) := HA.out 1 (by decide)
      have e8 : markV (.bool x.dir) (atM (celsE cItem L) k (j * 3 + 1)) = (.bool (((q : Int) + 1) % 3 == 0)) := by rw [e9]; show Value.bool (((q + (1 + 0) : Nat)) % 3 == 0) = _; rw [mark3_eq (a := q + (1 + 0)) (b := q + (1 + 0)) (c := (q : Int) + 1) rfl (by omega)]
      rw [e8] at ho1 hu1
      clear e8 e9
      have W1 := Lib.hid ho1
      have U1 := Lib.hid (U0.out.trans hu1)
      clear ho1 hu1 W0 U0
      go_wp2_with fail
      clear e0 z0 e1 z1
      obtain ⟨wa2, hwa⟩ : ∃ y, y = ((y0.setCell ⟨g0, j * 3, none⟩ (.string (markT q))).setCell ⟨g0, j * 3 + 1, none⟩ (.bool (((q : Int) + 1) % 3 == 0))) := ⟨_, rfl⟩
      rw [← hwa] at W1 U1 ⊢
      clear hwa
      refine (markText_n _ (q + 2) _ (by omega) (by omega) (by omega)).mono ?_
      rintro e y2 ⟨rfl, hb⟩
      have W2t := Lib.hid (Cel.Own.kept _ _ _ (fun g hg => hb.block g (Cel.Own.lt _ _ _ W1.out g hg)) W1.out)
      have U2t := Lib.hid (U1.out.trans (OutF.of_below hb))
      clear hb W1 U1
      obtain ⟨g2, hg2, _, ⟨v2, e2⟩, z2, ho2, hu2⟩ := mark_val W2t.out HF.out (i := j * 3 + 2) (by omega) HL.out (HG.out 2 (by decide))
      obtain rfl : g0 = g2 := by simpa using hg2
      have e9 : atM (celsE cItem L) k (j * 3 + 2) = q + cntL ((cItem.cels x).take 2) := HA.out 2 (by decide)
      have e8 : markV (.string x.text) (atM (celsE cItem L) k (j * 3 + 2)) = (.string (markT (q + 2))) := by rw [e9]; show Value.string (markT (q + (1 + (1 + 0)))) = _; rw [show q + (1 + (1 + 0)) = (q + 2) from by omega]
      rw [e8] at ho2 hu2
      clear e8 e9
      have W2 := Lib.hid ho2
      have U2 := Lib.hid (U2t.out.trans hu2)
      clear ho2 hu2 W2t U2t
      go_wp2
      clear e2 z2
      have HR : Hid ((q + 3) = k + cntL (celsE cItem (L.take (j + 1)))) := Lib.hid (by have := HQ.out; have := HX.out; have : cntL (cItem.cels x) = (1 + (1 + (1 + 0))) := rfl; omega)
      have hr9 : (q + 3) ≤ 100000000 := by have := HM2.out; have : cntL (cItem.cels x) = (1 + (1 + (1 + 0))) := rfl; omega
      go_roundw
      case rel => exact ⟨j + 1, (q + 3), by omega, by omega, hr9, HR, by go_num, by go_num, by rw [Nat.add_mul, Nat.one_mul]; exact W2, U2⟩
      case measure => (simp [intOf]; try omega)
    · obtain rfl : j = n := by omega
      have ho := HW.out
      rw [stM_all _ _ (by rw [HL.out]; omega)] at ho
      have HO := Lib.hid ho
      clear ho
      go_wp2
      go_ret
      refine ⟨ret_i64m (by have := HQ.out; rw [List.take_of_length_le (by rw [HN.out]; omega)] at this; rw [HC.out]; omega), HU.out, ?_⟩
      have h9 := HO.out
      rw [← HN.out] at h9 ⊢
      exact h9

theorem markItemS_obj (v : Value) (L : List ItemR) (lo hi k : Nat) (kz : Int) (w : World) (hkz : kz = (k : Int)) (h0 : 0 < k) (hk : k + (celRow cItem L).cnt ≤ 100000000) (hz : L.length ≤ 100000000) (ho : Obj1 w lo hi (celRow cItem L) v) :
    Calls Tryd.prog 28 #[v, .int .i64 kz] w fun e w' => e = .returned (.int .i64 ((k + (celRow cItem L).cnt : Nat) : Int)) ∧ OutR lo hi w w' ∧ Obj1 w' lo hi ((celRow cItem L).mk k) v := by
  obtain ⟨F, hn, hb, ho⟩ := ho
  refine (markItemS_any v L F k kz w hkz h0 hk hz hn ho).mono ?_
  rintro e w' ⟨he, hu, hw⟩
  exact ⟨he, OutR.of hu hb, F, hn, hb, hw⟩
end Go.Proofs.YtkfkjcadmdcbnaaDoor
namespace Go.Proofs.YtkfkjcadmdcbnaaDoor
open Go.RowKit Go.Proofs.YtkfkjcadmdcbnaaDoor.Parts Go.Proofs.YtkfkjcadmdcbnaaDoor.Hexa

theorem cView_top (x : ViewR) : cntTop (cView.cels x) = ((celRow cItem x.items).cnt + 0) := rfl
set_option maxRecDepth 100000 in
set_option maxHeartbeats 1000000 in
theorem markView_st (x : ViewR) (a0 : Option Addr) (c0 : Nat) (lo hi k : Nat) (kz : Int) (w : World) (hkz : kz = (k : Int)) (h0 : 0 < k) (hk : k + cntTop (cView.cels x) ≤ 100000000) (hz : x.items.length ≤ 100000000) (ho : Objs w lo hi (cView.cels x) [.slice a0 x.items.length c0]) :
    Calls Tryd.prog 12 #[.agg #[.slice a0 x.items.length c0], .int .i64 kz] w fun e w' => e = .returned (.int .i64 ((k + cntTop (cView.cels x) : Nat) : Int)) ∧ OutR lo hi w w' ∧ Objs w' lo hi (mkTop (cView.cels x) k) [.slice a0 x.items.length c0] := by
  subst hkz
  obtain ⟨F0, hn, hb, hO⟩ := ho
  obtain ⟨F0a, R0, e0, o0, hO⟩ := own_cons hO
  have en := own_nil hO
  clear hO
  rw [en] at e0
  rw [e0] at hn hb
  clear en e0
  have HN := Lib.hid hn
  have HB := Lib.hid hb
  have N0 : Hid (F0a.Nodup) := Lib.hid (by have := hn; simp only [List.nodup_append] at this; simp_all)
  have O0 := Lib.hid o0
  have P0 : Hid (∀ g ∈ F0a, g < w.heap.size) := Lib.hid (Cel.Own.lt _ _ _ o0)
  rw [cView_top] at hk
  have HZ := Lib.hid hz
  have HK := Lib.hid hk
  clear hn hb hz hk o0
  have B0 := Lib.hid (below_bk w (.cells #[.slice a0 x.items.length c0] 30))
  have T0 := Lib.hid (Bk.alloc w #[.slice a0 x.items.length c0] 30)
  have U0 := Lib.hid (OutF.of_below (F := (F0a ++ [])) B0.out)
  have O0_0 : Hid ((celRow cItem x.items).Own _ F0a _) := Lib.hid (Cel.Own.kept _ _ _ (fun g hg => B0.out.block g (P0.out g hg)) O0.out)
  clear O0
  go_enter Tryd.func12, Tryd.ntmps12
  go_wp2_with fail
  refine (markItemS_any _ x.items F0a k _ _ (by omega) (by omega) (by have := HK.out; omega) HZ.out N0.out O0_0.out).mono ?_
  rintro e w1 ⟨he, hu, hw⟩
  obtain ⟨k0, hq0⟩ : ∃ y, k + (celRow cItem x.items).cnt = y := ⟨_, rfl⟩
  rw [hq0] at he
  subst he
  have HQ0 := Lib.hid hq0
  have hb0 : 0 < k0 := by omega
  have hl0 : k0 ≤ 100000000 := by have := HK.out; omega
  have T1 : Hid (Bk w1 w.heap.size #[.slice a0 x.items.length c0] 30) := Lib.hid ((hu.block w.heap.size (fun h => by have := P0.out _ h; omega) T0.out.lt).trans T0.out)
  have U1 := Lib.hid (U0.out.trans (hu.mono (G := (F0a ++ [])) (fun g hg => by simp only [List.mem_append]; simp [hg])))
  have O0_1 := Lib.hid hw
  clear hu hw hq0 T0 U0 O0_0
  go_wp2
  go_ret
  have E0 : ((celRow cItem x.items).mk k).Own w1 F0a (.slice a0 x.items.length c0) := by exact O0_1.out
  refine ⟨ret_i64m (by rw [cView_top]; have := HQ0.out; omega), OutR.of U1.out HB.out, (F0a ++ []), HN.out, HB.out, ⟨_, _, F0a, _, rfl, rfl, E0, ⟨rfl, rfl⟩⟩⟩
end Go.Proofs.YtkfkjcadmdcbnaaDoor
namespace Go.Proofs.YtkfkjcadmdcbnaaDoor
open Go.RowKit

theorem cntItems_eq (L : List ItemR) : (celRow cItem L).cnt = 3 * L.length := by
  have h1 : ∀ M : List ItemR, cntL (celsE cItem M) = 3 * M.length := by
    intro M
    induction M with
    | nil => rfl
    | cons x r ih =>
      rw [celsE, cntL_append, ih, cItem_cnt, List.length_cons]
      omega
  exact h1 L
theorem view_marks (v : ViewR) {N : Nat} (h : v.items.length ≤ N) (hN : N ≤ 30000000) : 1 + cntTop (cView.cels v) ≤ 100000000 := by
  rw [cView_top, cntItems_eq]
  omega
end Go.Proofs.YtkfkjcadmdcbnaaDoor
namespace Go.Proofs.YtkfkjcadmdcbnaaDoor
open Go.RowKit Go.Proofs.YtkfkjcadmdcbnaaDoor.Parts Go.Proofs.YtkfkjcadmdcbnaaDoor.Hexa

set_option maxRecDepth 100000 in
set_option maxHeartbeats 1000000 in
theorem szItem_st (x : ItemR) (l : Int) (w : World) (l0 : 0 ≤ l) (l1 : l ≤ 1048576) (ht : TyL (cItem.cels x)) :
    Calls Tryd.prog 44 #[.agg #[.string x.path, .bool x.dir, .string x.text], .int .i64 l] w (SzPost (szL (cItem.cels x)) l w) := by
  have hz := cItem_sz x
  obtain ⟨t0, t1, t2, _⟩ := ht
  have k0 : x.path.size ≤ 9223372036854775807 := Nat.le_trans t0 (by decide)
  have k2 : x.text.size ≤ 9223372036854775807 := Nat.le_trans t2 (by decide)
  clear t0 t1 t2
  have B0 := Lib.hid (below_bk w (.cells #[.string x.path, .bool x.dir, .string x.text] 63))
  have T0 := Lib.hid (Bk.alloc w #[.string x.path, .bool x.dir, .string x.text] 63)
  by_cases b0 : l - (x.path.size : Int) < 0
  · go_enter Tryd.func44, Tryd.ntmps44
    go_wp2
    go_ret
    exact ⟨-1, rfl, .inl (by omega), B0.out⟩
  by_cases b2 : l - (x.path.size : Int) - (x.text.size : Int) < 0
  · go_enter Tryd.func44, Tryd.ntmps44
    go_wp2
    go_ret
    exact ⟨-1, rfl, .inl (by omega), B0.out⟩
  go_enter Tryd.func44, Tryd.ntmps44
  go_wp2
  go_ret
  refine ⟨_, rfl, .inr ⟨by omega, ?_⟩, B0.out⟩
  first | omega | (rw [hz]; omega)

end Go.Proofs.YtkfkjcadmdcbnaaDoor
namespace Go.Proofs.YtkfkjcadmdcbnaaDoor
open Go.RowKit Go.Proofs.YtkfkjcadmdcbnaaDoor.Parts Go.Proofs.YtkfkjcadmdcbnaaDoor.Hexa

set_option maxRecDepth 100000 in
set_option maxHeartbeats 1000000 in
theorem szItemS_any (v : Value) (L : List ItemR) (l0 : Int) (w : World) (hl0 : 0 ≤ l0) (hl1 : l0 ≤ 1048576) (hs : (celRow cItem L).Rd w v) (ht : (celRow cItem L).Ty) :
    Calls Tryd.prog 21 #[v, .int .i64 l0] w (SzPost ((celRow cItem L).sz) l0 w) := by
  obtain ⟨a, n, c, rfl, hn⟩ := row_form hs
  have HS := Lib.hid hs
  have HT : Hid (TyL (celsE cItem L)) := Lib.hid ht.2
  have hn0 : n ≤ 9223372036854775807 := by rw [← hn]; exact ht.1
  have HZ : Hid ((celRow cItem L).sz = n + szL (celsE cItem L)) := Lib.hid (by rw [← hn]; rfl)
  have HN := Lib.hid hn
  clear hs ht hn
  by_cases hlt0 : l0 - (n : Int) < 0
  · go_enter Tryd.func21, Tryd.ntmps21
    go_wp2
    go_ret
    exact ⟨-1, rfl, .inl (by omega), Below.refl _ _⟩
  · go_enter Tryd.func21, Tryd.ntmps21
    go_wp2
    go_loopw [1, 5] (fun lv iv wr => ∃ (k : Nat) (l : Int), k ≤ n ∧ iv = .int .i64 k ∧ lv = .int .i64 l ∧ 0 ≤ l ∧ l ≤ l0 ∧ Hid (l + (n : Int) + (szL (celsE cItem (L.take k)) : Int) = l0) ∧ Below w.heap.size w wr) (fun _ iv _ => n - (intOf iv).toNat)
    case atStart => exact ⟨0, _, Nat.zero_le _, rfl, rfl, by omega, by omega, Lib.hid (by simp only [List.take_zero, celsE, szL]; omega), Below.refl _ _⟩
    case round =>
      obtain ⟨k, l, hk, rfl, rfl, h0, hl, HA, hbel⟩ := hrel
      by_cases hlt : k < n
      · have HX := Lib.hid (TyL_at cItem L k HT.out (by rw [HN.out]; exact hlt))
        have HQ := Lib.hid (szL_next cItem (L := L) (j := k) (by rw [HN.out]; exact hlt))
        obtain ⟨g, off, rfl, hg, d0, d1, d2⟩ := cItem_at (Cel.Rd.later hbel _ _ HS.out) k hlt
        obtain ⟨x, hx⟩ : ∃ x, L.getD k default = x := ⟨_, rfl⟩
        rw [hx] at d0 d1 d2  HX HQ
        clear hx
        go_wp2_with fail
        refine (szItem_st x l _ h0 (by omega) HX.out).mono ?_
        rintro e w1 ⟨r, rfl, hr, hb1⟩
        have hb2 : Below w.heap.size w w1 := hbel.trans (hb1.mono hbel.size)
        clear d0 d1 d2  hb1
        rcases hr with h1 | ⟨h1, h2⟩
        · go_wp2
          go_ret
          exact ⟨-1, rfl, .inl (by omega), hb2⟩
        · have HA2 : Hid (r + (n : Int) + (szL (celsE cItem (L.take (k + 1))) : Int) = l0) := Lib.hid (by have h3 := HQ.out; have h4 := HA.out; omega)
          have hr2 : r ≤ l0 := by omega
          clear HA HQ h2
          go_wp2
          go_roundw
          case rel => exact ⟨k + 1, r, by omega, by go_num, rfl, h1, hr2, HA2, hb2⟩
          case measure => (simp [intOf]; try omega)
      · obtain rfl : k = n := by omega
        go_wp2
        go_ret
        refine ⟨l, rfl, .inr ⟨h0, ?_⟩, hbel⟩
        have h9 := HA.out
        rw [List.take_of_length_le (by rw [HN.out]; omega)] at h9
        rw [HZ.out]
        omega

end Go.Proofs.YtkfkjcadmdcbnaaDoor
namespace Go.Proofs.YtkfkjcadmdcbnaaDoor
open Go.RowKit Go.Proofs.YtkfkjcadmdcbnaaDoor.Parts Go.Proofs.YtkfkjcadmdcbnaaDoor.Hexa

set_option maxRecDepth 100000 in
set_option maxHeartbeats 1000000 in
theorem szView_st (x : ViewR) (a0 : Option Addr) (c0 : Nat) (l : Int) (w : World) (l0 : 0 ≤ l) (l1 : l ≤ 1048576) (h0 : (celRow cItem x.items).Rd w (.slice a0 x.items.length c0)) (ht : TyL (cView.cels x)) :
    Calls Tryd.prog 6 #[.agg #[.slice a0 x.items.length c0], .int .i64 l] w (SzPost (szL (cView.cels x)) l w) := by
  have hz := cView_sz x
  obtain ⟨t0, _⟩ := ht
  have HS0 := Lib.hid h0
  have HT0 := Lib.hid t0
  clear h0 t0
  have B0 := Lib.hid (below_bk w (.cells #[.slice a0 x.items.length c0] 24))
  have T0 := Lib.hid (Bk.alloc w #[.slice a0 x.items.length c0] 24)
  obtain ⟨m0, hm0⟩ : ∃ m : Int, l = m := ⟨_, rfl⟩
  subst hm0
  have hm0 : l = l := rfl
  have g0 := l0
  have g1 := l1
  have HM0 : Hid (l = l) := Lib.hid hm0
  have HZ := Lib.hid hz
  clear hz
  go_enter Tryd.func6, Tryd.ntmps6
  go_wp2_with fail
  refine (szItemS_any _ x.items l _ g0 g1 (Cel.Rd.later B0.out _ _ HS0.out) HT0.out).mono ?_
  rintro e w1 ⟨m1, rfl, hr, hb⟩
  have B1 : Hid (Below w.heap.size w w1) := Lib.hid (B0.out.trans (hb.mono B0.out.size))
  have T1 := Lib.hid (T0.out.later hb)
  clear hb
  rcases hr with hr | ⟨p0, p1⟩
  · go_wp2
    go_ret
    exact ⟨-1, rfl, .inl (by omega), B1.out⟩
  have HM1 := Lib.hid p1
  have g10 := p0
  have g11 : m1 ≤ 1048576 := by omega
  have q1 : ¬ (m1 < 0) := by omega
  clear p0 p1
  go_wp2
  go_ret
  exact ⟨m1, rfl, .inr ⟨g10, by have := HZ.out; have := HM0.out; have := HM1.out; omega⟩, B1.out⟩

end Go.Proofs.YtkfkjcadmdcbnaaDoor
namespace Go.Proofs.YtkfkjcadmdcbnaaDoor
open Go.RowKit Go.Proofs.YtkfkjcadmdcbnaaDoor.Parts Go.Proofs.YtkfkjcadmdcbnaaDoor.Hexa

set_option maxRecDepth 100000 in
set_option maxHeartbeats 1000000 in
theorem toItem_st (x : ItemR) (w : World) (_ : szL (cItem.cels x) ≤ 1048576) :
    Calls Tryd.prog 47 #[.agg #[.string x.path, .bool x.dir, .string x.text]] w (ToPostS (cItem.cels x) w) := by
  go_enter Tryd.func47, Tryd.ntmps47
  go_wp2
  refine bodyPost_ret (v := .agg #[.string x.path, .bool x.dir, .string x.text]) ?_ rfl ⟨_, rfl, (((Objs.nil _ _ _).val _).val _).val _, (((Below.refl _ _).alloc (Nat.le_refl _) _).alloc (by simp) _).alloc (by simp; omega) _⟩
  simp [results, Tryd.results47, go_sem]

end Go.Proofs.YtkfkjcadmdcbnaaDoor
namespace Go.Proofs.YtkfkjcadmdcbnaaDoor
open Go.RowKit Go.Proofs.YtkfkjcadmdcbnaaDoor.Parts Go.Proofs.YtkfkjcadmdcbnaaDoor.Hexa

set_option maxRecDepth 100000 in
set_option maxHeartbeats 1000000 in
theorem toItemS_any (v : Value) (L : List ItemR) (w : World) (hs : (celRow cItem L).Rd w v) (hz : (celRow cItem L).sz ≤ 1048576) :
    Calls Tryd.prog 24 #[v] w (ToPost (celRow cItem L) w) := by
  obtain ⟨i0, hi, hz0, hz1, hz2⟩ := info_parts infoItemD
  obtain ⟨a, n, c, rfl, hn⟩ := row_form hs
  have HS := Lib.hid hs
  have hz' : n + szL (celsE cItem L) ≤ 1048576 := by rw [← hn]; exact hz
  have hn1 : n ≤ 1048576 := by omega
  have HZ : Hid (szL (celsE cItem L) ≤ 1048576) := Lib.hid (by omega)
  have HN := Lib.hid hn
  clear hs hz hz' hn
  go_enter Tryd.func24, Tryd.ntmps24
  go_wp2_with (at_make; refine wpList_make_full _ rfl _ _ 28 rfl w.heap.size 48 i0 _ 3 Tryd.underlying28 hi hz0 hz1 .i64 .i64 _ _ n rfl rfl rfl rfl (by rw [hz2]; omega) (by unfold maxLen; omega) (Nat.le_refl _) ?_; intro w0 hown0 hgrow0)
  have hg0 : Below w.heap.size w w0 := (Below.refl _ _).grown hgrow0 (Nat.le_refl _) (fun k h => by cases h)
  have HO0 : Hid (Part2 cItem L w0 w.heap.size n 0) := Lib.hid (Part2.start hown0)
  clear hown0 hgrow0
  go_loopw [4] (fun iv wr => ∃ (k : Nat), k ≤ n ∧ iv = .int .i64 k ∧ Hid (Part2 cItem L wr w.heap.size n k) ∧ Below w.heap.size w wr)
    (fun iv _ => n - (intOf iv).toNat)
  case atStart => exact ⟨0, Nat.zero_le _, rfl, HO0, hg0⟩
  case round =>
    clear HO0 hg0
    obtain ⟨k, hk, rfl, HW, hbel⟩ := hrel
    by_cases hlt : k < n
    · have HX : Hid (szL (cItem.cels (L.getD k default)) ≤ 1048576) := Lib.hid (Nat.le_trans (szL_at cItem L k (by rw [HN.out]; exact hlt)) HZ.out)
      obtain ⟨g, off, rfl, hg, d0, d1, d2⟩ := cItem_at (Cel.Rd.later hbel _ _ HS.out) k hlt
      have HV : Hid (∀ (w1 : World) (hi : Nat) (vs : List Value), Below wr.heap.size wr w1 → Objs w1 wr.heap.size hi (cItem.cels (L.getD k default)) vs → Part2 cItem L (w1.setCells w.heap.size (k * 3) vs) w.heap.size n (k + 1)) :=
        Lib.hid (fun w1 hi vs hb ho => HW.out.next HN.out hlt hb ho)
      obtain ⟨x, hx⟩ : ∃ x, L.getD k default = x := ⟨_, rfl⟩
      rw [hx] at d0 d1 d2  HX HV
      clear hx
      go_wp2_with fail
      refine (toItem_st x _ HX.out).mono ?_
      rintro e w1 ⟨vs, rfl, ho, hb1⟩
      have hbx : Below w.heap.size w w1 := hbel.trans (hb1.mono hbel.size)
      have O1 := Lib.hid (HV.out w1 _ vs hb1 ho)
      obtain rfl := cItem_form ho.rd
      obtain ⟨xs, G, hrow, _, _, _⟩ := (HW.out.later hb1).ex
      have HW1 := Lib.hid hrow
      clear hrow
      obtain ⟨v0, e0⟩ := ownE_cell HW1.out (j := k * 3) (by show k * 3 < n * 3; omega)
      obtain ⟨v1, e1⟩ := ownE_cell HW1.out (j := k * 3 + 1) (by show k * 3 + 1 < n * 3; omega)
      obtain ⟨v2, e2⟩ := ownE_cell HW1.out (j := k * 3 + 2) (by show k * 3 + 2 < n * 3; omega)
      have z0 := HW1.out.frozenAt (k * 3)
      have z1 := HW1.out.frozenAt (k * 3 + 1)
      have z2 := HW1.out.frozenAt (k * 3 + 2)
      have hb2 := Lib.hid (below_sets (Nat.le_refl w.heap.size) [.string x.path, .bool x.dir, .string x.text] (k * 3) hbx)
      clear d0 d1 d2  hb1 hbx ho HW
      go_wp2
      go_roundw
      case rel => exact ⟨k + 1, by omega, by go_num, O1, hb2.out⟩
      case measure => (simp [intOf]; try omega)
    · obtain rfl : k = n := by omega
      have HO := Lib.hid (HW.out.done HN.out)
      go_wp2
      go_ret
      exact ⟨_, rfl, HO.out, hbel⟩

end Go.Proofs.YtkfkjcadmdcbnaaDoor
