/- Merged texts: ReadImpl, Clone, Says, InoMath, InoSpecA, TrimImpl, NumFore, HeadMath, ReadEntImpl, EntEq, ReadEntLaw, Drews, InoSpecB. -/
import Derived.Test.YtmkchilhnmkhkaaDoorPQC
import Derived.WalkKit
import Derived.WalkSpells
import Derived.WalkLawsBesides
import Derived.Deep.RegionLaw
import Derived.Lib.Hide
import Derived.Test.YtmkchilhnmkhkaaDoorShelf
import Derived.Test.YtmkchilhnmkhkaaDoorRows
import Derived.Below
import Derived.RowKit3
namespace Go.Proofs.YtmkchilhnmkhkaaDoor
open Go.RowKit Go.Proofs.YtmkchilhnmkhkaaDoor.Hexa Go.Proofs.YtmkchilhnmkhkaaDoor.Byt Go.Proofs.YtmkchilhnmkhkaaDoor.BitsM

theorem num_step (V : Nat) (b : UInt8) (hV : V < 281474976710656) : bits .or .i64 (RowKit.wrap64 ((V : Int) * 256)) (RowKit.wrap64 (b.toNat : Int)) = ((256 * V + b.toNat : Nat) : Int) := by
  have hb := b.toNat_lt
  have e1 : RowKit.wrap64 ((V : Int) * 256) = ((256 * V : Nat) : Int) := by unfold RowKit.wrap64; omega
  have e2 : RowKit.wrap64 (b.toNat : Int) = (b.toNat : Int) := by unfold RowKit.wrap64; omega
  rw [e1, e2, or64 _ _ (by omega) (by omega)]
  have h := Nat.two_pow_add_eq_or_of_lt (i := 8) (b := b.toNat) (by omega) V
  rw [show (2 : Nat) ^ 8 = 256 by decide] at h
  rw [h]
theorem read_next (s : ByteArray) (a j : Nat) (h : a + j < s.size) (hj : j ≤ 6) : bits .or .i64 (RowKit.wrap64 ((numV (cutL s a j) : Int) * 256)) (RowKit.wrap64 ((s[a + j]'h).toNat : Int)) = (numV (cutL s a (j + 1)) : Int) := by
  have h1 := numV_lt (cutL s a j)
  rw [cutL_length s a j (by omega)] at h1
  have h2 : numV (cutL s a j) < 281474976710656 := Nat.lt_of_lt_of_le h1 (Nat.le_trans (Nat.pow_le_pow_right (by omega) hj) (by decide))
  rw [num_step _ _ h2, ← cutL_next s a j h, numV_snoc]

set_option maxRecDepth 100000 in
set_option maxHeartbeats 1000000 in
theorem numberOf1_any (s : ByteArray) (a : Int) (w : World) (hs : s.size ≤ 100000000) :
    Calls Tryd.prog 119 #[.string s, .int .i64 a] w fun e w' => e = .returned (.tuple #[.int .i64 (numAtV s a 1), .bool (numAtB s a 1)]) ∧ Below w.heap.size w w' := by
  by_cases h : 0 ≤ a ∧ a ≤ (s.size : Int) - 1
  · have hV : numAtV s a 1 = numV (cutL s a.toNat 1) := by unfold numAtV; exact if_pos ⟨by decide, h⟩
    have hB : numAtB s a 1 = true := decide_eq_true ⟨by decide, h⟩
    rw [hV, hB]
    obtain ⟨k, rfl⟩ : ∃ k : Nat, a = k := ⟨a.toNat, by omega⟩
    have h1 : ¬ (((s.size : Int) - 1) < k) := by omega
    have h2 : k + 1 ≤ s.size := by omega
    rw [Int.toNat_natCast]
    clear h hV hB
    go_enter Tryd.func119, Tryd.ntmps119
    go_wp2
    go_loopw [7, 22] (fun nv iv wr => ∃ j : Nat, j ≤ 1 ∧ iv = .int .i64 j ∧ nv = .int .i64 (numV (cutL s k j)) ∧ Below w.heap.size w wr)
      (fun _ iv _ => 1 - (intOf iv).toNat)
    case atStart => exact ⟨0, Nat.zero_le _, rfl, rfl, (Below.refl _ _).alloc (Nat.le_refl _) _⟩
    case round =>
      obtain ⟨j, hj, rfl, rfl, hbel⟩ := hrel
      by_cases hlt : j < 1
      · have hlt2 : k + j < s.size := by omega
        have HN := Lib.hid (read_next s k j hlt2 (by omega))
        go_wp2
        rw [HN.out]
        go_roundw
        case rel => exact ⟨j + 1, by omega, by go_num, rfl, hbel⟩
        case measure => (simp [intOf]; try omega)
      · obtain rfl : j = 1 := by omega
        go_wp2
        go_ret2
        exact ⟨rfl, hbel⟩
  · have hV : numAtV s a 1 = 0 := by unfold numAtV; exact if_neg (fun h' => h h'.2)
    have hB : numAtB s a 1 = false := decide_eq_false (fun h' => h h'.2)
    rw [hV, hB]
    by_cases h0 : a < 0
    · go_enter Tryd.func119, Tryd.ntmps119
      go_wp2
      go_ret2
      exact ⟨rfl, (Below.refl _ _).alloc (Nat.le_refl _) _⟩
    · have h1 : ((s.size : Int) - 1) < a := by omega
      clear h hV hB
      go_enter Tryd.func119, Tryd.ntmps119
      go_wp2
      go_ret2
      exact ⟨rfl, (Below.refl _ _).alloc (Nat.le_refl _) _⟩

set_option maxRecDepth 100000 in
set_option maxHeartbeats 1000000 in
theorem numberOf2_any (s : ByteArray) (a : Int) (w : World) (hs : s.size ≤ 100000000) :
    Calls Tryd.prog 120 #[.string s, .int .i64 a] w fun e w' => e = .returned (.tuple #[.int .i64 (numAtV s a 2), .bool (numAtB s a 2)]) ∧ Below w.heap.size w w' := by
  by_cases h : 0 ≤ a ∧ a ≤ (s.size : Int) - 2
  · have hV : numAtV s a 2 = numV (cutL s a.toNat 2) := by unfold numAtV; exact if_pos ⟨by decide, h⟩
    have hB : numAtB s a 2 = true := decide_eq_true ⟨by decide, h⟩
    rw [hV, hB]
    obtain ⟨k, rfl⟩ : ∃ k : Nat, a = k := ⟨a.toNat, by omega⟩
    have h1 : ¬ (((s.size : Int) - 2) < k) := by omega
    have h2 : k + 2 ≤ s.size := by omega
    rw [Int.toNat_natCast]
    clear h hV hB
    go_enter Tryd.func120, Tryd.ntmps120
    go_wp2
    go_loopw [7, 22] (fun nv iv wr => ∃ j : Nat, j ≤ 2 ∧ iv = .int .i64 j ∧ nv = .int .i64 (numV (cutL s k j)) ∧ Below w.heap.size w wr)
      (fun _ iv _ => 2 - (intOf iv).toNat)
    case atStart => exact ⟨0, Nat.zero_le _, rfl, rfl, (Below.refl _ _).alloc (Nat.le_refl _) _⟩
    case round =>
      obtain ⟨j, hj, rfl, rfl, hbel⟩ := hrel
      by_cases hlt : j < 2
      · have hlt2 : k + j < s.size := by omega
        have HN := Lib.hid (read_next s k j hlt2 (by omega))
        go_wp2
        rw [HN.out]
        go_roundw
        case rel => exact ⟨j + 1, by omega, by go_num, rfl, hbel⟩
        case measure => (simp [intOf]; try omega)
      · obtain rfl : j = 2 := by omega
        go_wp2
        go_ret2
        exact ⟨rfl, hbel⟩
  · have hV : numAtV s a 2 = 0 := by unfold numAtV; exact if_neg (fun h' => h h'.2)
    have hB : numAtB s a 2 = false := decide_eq_false (fun h' => h h'.2)
    rw [hV, hB]
    by_cases h0 : a < 0
    · go_enter Tryd.func120, Tryd.ntmps120
      go_wp2
      go_ret2
      exact ⟨rfl, (Below.refl _ _).alloc (Nat.le_refl _) _⟩
    · have h1 : ((s.size : Int) - 2) < a := by omega
      clear h hV hB
      go_enter Tryd.func120, Tryd.ntmps120
      go_wp2
      go_ret2
      exact ⟨rfl, (Below.refl _ _).alloc (Nat.le_refl _) _⟩

set_option maxRecDepth 100000 in
set_option maxHeartbeats 1000000 in
theorem numberOf3_any (s : ByteArray) (a : Int) (w : World) (hs : s.size ≤ 100000000) :
    Calls Tryd.prog 121 #[.string s, .int .i64 a] w fun e w' => e = .returned (.tuple #[.int .i64 (numAtV s a 3), .bool (numAtB s a 3)]) ∧ Below w.heap.size w w' := by
  by_cases h : 0 ≤ a ∧ a ≤ (s.size : Int) - 3
  · have hV : numAtV s a 3 = numV (cutL s a.toNat 3) := by unfold numAtV; exact if_pos ⟨by decide, h⟩
    have hB : numAtB s a 3 = true := decide_eq_true ⟨by decide, h⟩
    rw [hV, hB]
    obtain ⟨k, rfl⟩ : ∃ k : Nat, a = k := ⟨a.toNat, by omega⟩
    have h1 : ¬ (((s.size : Int) - 3) < k) := by omega
    have h2 : k + 3 ≤ s.size := by omega
    rw [Int.toNat_natCast]
    clear h hV hB
    go_enter Tryd.func121, Tryd.ntmps121
    go_wp2
    go_loopw [7, 22] (fun nv iv wr => ∃ j : Nat, j ≤ 3 ∧ iv = .int .i64 j ∧ nv = .int .i64 (numV (cutL s k j)) ∧ Below w.heap.size w wr)
      (fun _ iv _ => 3 - (intOf iv).toNat)
    case atStart => exact ⟨0, Nat.zero_le _, rfl, rfl, (Below.refl _ _).alloc (Nat.le_refl _) _⟩
    case round =>
      obtain ⟨j, hj, rfl, rfl, hbel⟩ := hrel
      by_cases hlt : j < 3
      · have hlt2 : k + j < s.size := by omega
        have HN := Lib.hid (read_next s k j hlt2 (by omega))
        go_wp2
        rw [HN.out]
        go_roundw
        case rel => exact ⟨j + 1, by omega, by go_num, rfl, hbel⟩
        case measure => (simp [intOf]; try omega)
      · obtain rfl : j = 3 := by omega
        go_wp2
        go_ret2
        exact ⟨rfl, hbel⟩
  · have hV : numAtV s a 3 = 0 := by unfold numAtV; exact if_neg (fun h' => h h'.2)
    have hB : numAtB s a 3 = false := decide_eq_false (fun h' => h h'.2)
    rw [hV, hB]
    by_cases h0 : a < 0
    · go_enter Tryd.func121, Tryd.ntmps121
      go_wp2
      go_ret2
      exact ⟨rfl, (Below.refl _ _).alloc (Nat.le_refl _) _⟩
    · have h1 : ((s.size : Int) - 3) < a := by omega
      clear h hV hB
      go_enter Tryd.func121, Tryd.ntmps121
      go_wp2
      go_ret2
      exact ⟨rfl, (Below.refl _ _).alloc (Nat.le_refl _) _⟩

set_option maxRecDepth 100000 in
set_option maxHeartbeats 1000000 in
theorem numberOf4_any (s : ByteArray) (a : Int) (w : World) (hs : s.size ≤ 100000000) :
    Calls Tryd.prog 122 #[.string s, .int .i64 a] w fun e w' => e = .returned (.tuple #[.int .i64 (numAtV s a 4), .bool (numAtB s a 4)]) ∧ Below w.heap.size w w' := by
  by_cases h : 0 ≤ a ∧ a ≤ (s.size : Int) - 4
  · have hV : numAtV s a 4 = numV (cutL s a.toNat 4) := by unfold numAtV; exact if_pos ⟨by decide, h⟩
    have hB : numAtB s a 4 = true := decide_eq_true ⟨by decide, h⟩
    rw [hV, hB]
    obtain ⟨k, rfl⟩ : ∃ k : Nat, a = k := ⟨a.toNat, by omega⟩
    have h1 : ¬ (((s.size : Int) - 4) < k) := by omega
    have h2 : k + 4 ≤ s.size := by omega
    rw [Int.toNat_natCast]
    clear h hV hB
    go_enter Tryd.func122, Tryd.ntmps122
    go_wp2
    go_loopw [7, 22] (fun nv iv wr => ∃ j : Nat, j ≤ 4 ∧ iv = .int .i64 j ∧ nv = .int .i64 (numV (cutL s k j)) ∧ Below w.heap.size w wr)
      (fun _ iv _ => 4 - (intOf iv).toNat)
    case atStart => exact ⟨0, Nat.zero_le _, rfl, rfl, (Below.refl _ _).alloc (Nat.le_refl _) _⟩
    case round =>
      obtain ⟨j, hj, rfl, rfl, hbel⟩ := hrel
      by_cases hlt : j < 4
      · have hlt2 : k + j < s.size := by omega
        have HN := Lib.hid (read_next s k j hlt2 (by omega))
        go_wp2
        rw [HN.out]
        go_roundw
        case rel => exact ⟨j + 1, by omega, by go_num, rfl, hbel⟩
        case measure => (simp [intOf]; try omega)
      · obtain rfl : j = 4 := by omega
        go_wp2
        go_ret2
        exact ⟨rfl, hbel⟩
  · have hV : numAtV s a 4 = 0 := by unfold numAtV; exact if_neg (fun h' => h h'.2)
    have hB : numAtB s a 4 = false := decide_eq_false (fun h' => h h'.2)
    rw [hV, hB]
    by_cases h0 : a < 0
    · go_enter Tryd.func122, Tryd.ntmps122
      go_wp2
      go_ret2
      exact ⟨rfl, (Below.refl _ _).alloc (Nat.le_refl _) _⟩
    · have h1 : ((s.size : Int) - 4) < a := by omega
      clear h hV hB
      go_enter Tryd.func122, Tryd.ntmps122
      go_wp2
      go_ret2
      exact ⟨rfl, (Below.refl _ _).alloc (Nat.le_refl _) _⟩

set_option maxRecDepth 100000 in
set_option maxHeartbeats 1000000 in
theorem numberOf5_any (s : ByteArray) (a : Int) (w : World) (hs : s.size ≤ 100000000) :
    Calls Tryd.prog 123 #[.string s, .int .i64 a] w fun e w' => e = .returned (.tuple #[.int .i64 (numAtV s a 5), .bool (numAtB s a 5)]) ∧ Below w.heap.size w w' := by
  by_cases h : 0 ≤ a ∧ a ≤ (s.size : Int) - 5
  · have hV : numAtV s a 5 = numV (cutL s a.toNat 5) := by unfold numAtV; exact if_pos ⟨by decide, h⟩
    have hB : numAtB s a 5 = true := decide_eq_true ⟨by decide, h⟩
    rw [hV, hB]
    obtain ⟨k, rfl⟩ : ∃ k : Nat, a = k := ⟨a.toNat, by omega⟩
    have h1 : ¬ (((s.size : Int) - 5) < k) := by omega
    have h2 : k + 5 ≤ s.size := by omega
    rw [Int.toNat_natCast]
    clear h hV hB
    go_enter Tryd.func123, Tryd.ntmps123
    go_wp2
    go_loopw [7, 22] (fun nv iv wr => ∃ j : Nat, j ≤ 5 ∧ iv = .int .i64 j ∧ nv = .int .i64 (numV (cutL s k j)) ∧ Below w.heap.size w wr)
      (fun _ iv _ => 5 - (intOf iv).toNat)
    case atStart => exact ⟨0, Nat.zero_le _, rfl, rfl, (Below.refl _ _).alloc (Nat.le_refl _) _⟩
    case round =>
      obtain ⟨j, hj, rfl, rfl, hbel⟩ := hrel
      by_cases hlt : j < 5
      · have hlt2 : k + j < s.size := by omega
        have HN := Lib.hid (read_next s k j hlt2 (by omega))
        go_wp2
        rw [HN.out]
        go_roundw
        case rel => exact ⟨j + 1, by omega, by go_num, rfl, hbel⟩
        case measure => (simp [intOf]; try omega)
      · obtain rfl : j = 5 := by omega
        go_wp2
        go_ret2
        exact ⟨rfl, hbel⟩
  · have hV : numAtV s a 5 = 0 := by unfold numAtV; exact if_neg (fun h' => h h'.2)
    have hB : numAtB s a 5 = false := decide_eq_false (fun h' => h h'.2)
    rw [hV, hB]
    by_cases h0 : a < 0
    · go_enter Tryd.func123, Tryd.ntmps123
      go_wp2
      go_ret2
      exact ⟨rfl, (Below.refl _ _).alloc (Nat.le_refl _) _⟩
    · have h1 : ((s.size : Int) - 5) < a := by omega
      clear h hV hB
      go_enter Tryd.func123, Tryd.ntmps123
      go_wp2
      go_ret2
      exact ⟨rfl, (Below.refl _ _).alloc (Nat.le_refl _) _⟩

set_option maxRecDepth 100000 in
set_option maxHeartbeats 1000000 in
theorem numberOf6_any (s : ByteArray) (a : Int) (w : World) (hs : s.size ≤ 100000000) :
    Calls Tryd.prog 124 #[.string s, .int .i64 a] w fun e w' => e = .returned (.tuple #[.int .i64 (numAtV s a 6), .bool (numAtB s a 6)]) ∧ Below w.heap.size w w' := by
  by_cases h : 0 ≤ a ∧ a ≤ (s.size : Int) - 6
  · have hV : numAtV s a 6 = numV (cutL s a.toNat 6) := by unfold numAtV; exact if_pos ⟨by decide, h⟩
    have hB : numAtB s a 6 = true := decide_eq_true ⟨by decide, h⟩
    rw [hV, hB]
    obtain ⟨k, rfl⟩ : ∃ k : Nat, a = k := ⟨a.toNat, by omega⟩
    have h1 : ¬ (((s.size : Int) - 6) < k) := by omega
    have h2 : k + 6 ≤ s.size := by omega
    rw [Int.toNat_natCast]
    clear h hV hB
    go_enter Tryd.func124, Tryd.ntmps124
    go_wp2
    go_loopw [7, 22] (fun nv iv wr => ∃ j : Nat, j ≤ 6 ∧ iv = .int .i64 j ∧ nv = .int .i64 (numV (cutL s k j)) ∧ Below w.heap.size w wr)
      (fun _ iv _ => 6 - (intOf iv).toNat)
    case atStart => exact ⟨0, Nat.zero_le _, rfl, rfl, (Below.refl _ _).alloc (Nat.le_refl _) _⟩
    case round =>
      obtain ⟨j, hj, rfl, rfl, hbel⟩ := hrel
      by_cases hlt : j < 6
      · have hlt2 : k + j < s.size := by omega
        have HN := Lib.hid (read_next s k j hlt2 (by omega))
        go_wp2
        rw [HN.out]
        go_roundw
        case rel => exact ⟨j + 1, by omega, by go_num, rfl, hbel⟩
        case measure => (simp [intOf]; try omega)
      · obtain rfl : j = 6 := by omega
        go_wp2
        go_ret2
        exact ⟨rfl, hbel⟩
  · have hV : numAtV s a 6 = 0 := by unfold numAtV; exact if_neg (fun h' => h h'.2)
    have hB : numAtB s a 6 = false := decide_eq_false (fun h' => h h'.2)
    rw [hV, hB]
    by_cases h0 : a < 0
    · go_enter Tryd.func124, Tryd.ntmps124
      go_wp2
      go_ret2
      exact ⟨rfl, (Below.refl _ _).alloc (Nat.le_refl _) _⟩
    · have h1 : ((s.size : Int) - 6) < a := by omega
      clear h hV hB
      go_enter Tryd.func124, Tryd.ntmps124
      go_wp2
      go_ret2
      exact ⟨rfl, (Below.refl _ _).alloc (Nat.le_refl _) _⟩

set_option maxRecDepth 100000 in
set_option maxHeartbeats 1000000 in
theorem numberOf7_any (s : ByteArray) (a : Int) (w : World) (hs : s.size ≤ 100000000) :
    Calls Tryd.prog 125 #[.string s, .int .i64 a] w fun e w' => e = .returned (.tuple #[.int .i64 (numAtV s a 7), .bool (numAtB s a 7)]) ∧ Below w.heap.size w w' := by
  by_cases h : 0 ≤ a ∧ a ≤ (s.size : Int) - 7
  · have hV : numAtV s a 7 = numV (cutL s a.toNat 7) := by unfold numAtV; exact if_pos ⟨by decide, h⟩
    have hB : numAtB s a 7 = true := decide_eq_true ⟨by decide, h⟩
    rw [hV, hB]
    obtain ⟨k, rfl⟩ : ∃ k : Nat, a = k := ⟨a.toNat, by omega⟩
    have h1 : ¬ (((s.size : Int) - 7) < k) := by omega
    have h2 : k + 7 ≤ s.size := by omega
    rw [Int.toNat_natCast]
    clear h hV hB
    go_enter Tryd.func125, Tryd.ntmps125
    go_wp2
    go_loopw [7, 22] (fun nv iv wr => ∃ j : Nat, j ≤ 7 ∧ iv = .int .i64 j ∧ nv = .int .i64 (numV (cutL s k j)) ∧ Below w.heap.size w wr)
      (fun _ iv _ => 7 - (intOf iv).toNat)
    case atStart => exact ⟨0, Nat.zero_le _, rfl, rfl, (Below.refl _ _).alloc (Nat.le_refl _) _⟩
    case round =>
      obtain ⟨j, hj, rfl, rfl, hbel⟩ := hrel
      by_cases hlt : j < 7
      · have hlt2 : k + j < s.size := by omega
        have HN := Lib.hid (read_next s k j hlt2 (by omega))
        go_wp2
        rw [HN.out]
        go_roundw
        case rel => exact ⟨j + 1, by omega, by go_num, rfl, hbel⟩
        case measure => (simp [intOf]; try omega)
      · obtain rfl : j = 7 := by omega
        go_wp2
        go_ret2
        exact ⟨rfl, hbel⟩
  · have hV : numAtV s a 7 = 0 := by unfold numAtV; exact if_neg (fun h' => h h'.2)
    have hB : numAtB s a 7 = false := decide_eq_false (fun h' => h h'.2)
    rw [hV, hB]
    by_cases h0 : a < 0
    · go_enter Tryd.func125, Tryd.ntmps125
      go_wp2
      go_ret2
      exact ⟨rfl, (Below.refl _ _).alloc (Nat.le_refl _) _⟩
    · have h1 : ((s.size : Int) - 7) < a := by omega
      clear h hV hB
      go_enter Tryd.func125, Tryd.ntmps125
      go_wp2
      go_ret2
      exact ⟨rfl, (Below.refl _ _).alloc (Nat.le_refl _) _⟩

theorem numAt_out (s : ByteArray) (a k : Int) (h : ¬ (1 ≤ k ∧ k ≤ 7)) : numAtV s a k = 0 ∧ numAtB s a k = false := by
  refine ⟨?_, decide_eq_false fun h' => h h'.1⟩
  unfold numAtV
  exact if_neg fun h' => h h'.1

set_option maxRecDepth 100000 in
set_option maxHeartbeats 1000000 in
theorem implNumAt_any (s : ByteArray) (a k : Int) (w : World) (hs : s.size ≤ 100000000) :
    Calls Tryd.prog 70 #[.string s, .int .i64 a, .int .i64 k] w fun e w' => e = .returned (.tuple #[.int .i64 (numAtV s a k), .bool (numAtB s a k)]) ∧ Below w.heap.size w w' := by
  by_cases h : 1 ≤ k ∧ k ≤ 7
  · have hk : k = 1 ∨ k = 2 ∨ k = 3 ∨ k = 4 ∨ k = 5 ∨ k = 6 ∨ k = 7 := by omega
    clear h
    rcases hk with rfl | rfl | rfl | rfl | rfl | rfl | rfl
    · have R := Lib.hid (numberOf1_any s a w hs)
      generalize numAtV s a 1 = rv at R ⊢
      generalize numAtB s a 1 = rb at R ⊢
      go_enter Tryd.func70, Tryd.ntmps70
      go_wp2_with (go_at_call 119; refine R.out.mono ?_; rintro e w1 ⟨rfl, hb1⟩)
      go_ret2
      exact ⟨rfl, hb1⟩
    · have R := Lib.hid (numberOf2_any s a w hs)
      generalize numAtV s a 2 = rv at R ⊢
      generalize numAtB s a 2 = rb at R ⊢
      go_enter Tryd.func70, Tryd.ntmps70
      go_wp2_with (go_at_call 120; refine R.out.mono ?_; rintro e w1 ⟨rfl, hb1⟩)
      go_ret2
      exact ⟨rfl, hb1⟩
    · have R := Lib.hid (numberOf3_any s a w hs)
      generalize numAtV s a 3 = rv at R ⊢
      generalize numAtB s a 3 = rb at R ⊢
      go_enter Tryd.func70, Tryd.ntmps70
      go_wp2_with (go_at_call 121; refine R.out.mono ?_; rintro e w1 ⟨rfl, hb1⟩)
      go_ret2
      exact ⟨rfl, hb1⟩
    · have R := Lib.hid (numberOf4_any s a w hs)
      generalize numAtV s a 4 = rv at R ⊢
      generalize numAtB s a 4 = rb at R ⊢
      go_enter Tryd.func70, Tryd.ntmps70
      go_wp2_with (go_at_call 122; refine R.out.mono ?_; rintro e w1 ⟨rfl, hb1⟩)
      go_ret2
      exact ⟨rfl, hb1⟩
    · have R := Lib.hid (numberOf5_any s a w hs)
      generalize numAtV s a 5 = rv at R ⊢
      generalize numAtB s a 5 = rb at R ⊢
      go_enter Tryd.func70, Tryd.ntmps70
      go_wp2_with (go_at_call 123; refine R.out.mono ?_; rintro e w1 ⟨rfl, hb1⟩)
      go_ret2
      exact ⟨rfl, hb1⟩
    · have R := Lib.hid (numberOf6_any s a w hs)
      generalize numAtV s a 6 = rv at R ⊢
      generalize numAtB s a 6 = rb at R ⊢
      go_enter Tryd.func70, Tryd.ntmps70
      go_wp2_with (go_at_call 124; refine R.out.mono ?_; rintro e w1 ⟨rfl, hb1⟩)
      go_ret2
      exact ⟨rfl, hb1⟩
    · have R := Lib.hid (numberOf7_any s a w hs)
      generalize numAtV s a 7 = rv at R ⊢
      generalize numAtB s a 7 = rb at R ⊢
      go_enter Tryd.func70, Tryd.ntmps70
      go_wp2_with (go_at_call 125; refine R.out.mono ?_; rintro e w1 ⟨rfl, hb1⟩)
      go_ret2
      exact ⟨rfl, hb1⟩
  · obtain ⟨hV, hB⟩ := numAt_out s a k h
    rw [hV, hB]
    have n1 : ¬ k = 1 := by omega
    have n2 : ¬ k = 2 := by omega
    have n3 : ¬ k = 3 := by omega
    have n4 : ¬ k = 4 := by omega
    have n5 : ¬ k = 5 := by omega
    have n6 : ¬ k = 6 := by omega
    have n7 : ¬ k = 7 := by omega
    clear h hV hB
    go_enter Tryd.func70, Tryd.ntmps70
    go_wp2
    go_ret2
    exact ⟨rfl, Below.refl _ _⟩
end Go.Proofs.YtmkchilhnmkhkaaDoor
namespace Go.Proofs.YtmkchilhnmkhkaaDoor
open Go.RowKit

set_option maxRecDepth 100000 in
set_option maxHeartbeats 400000 in
theorem cloneText_any (s : ByteArray) (w : World) (hs : s.size ≤ 2000000) :
    Calls Tryd.prog 72 #[.string s] w fun e w' => e = .returned (.string s) ∧ Below w.heap.size w w' := by
  go_enter Tryd.func72, Tryd.ntmps72
  go_wp2_with (go_at_call 130; refine (Tryd.stringslite_Clone _ _ (by omega)).mono ?_; rintro e w1 ⟨rfl, hb1⟩)
  go_ret
  exact ⟨rfl, hb1⟩
end Go.Proofs.YtmkchilhnmkhkaaDoor
namespace Go.Proofs.YtmkchilhnmkhkaaDoor
open Go.RowKit
def SaysB (b : Bool) (w : World) (e : Ending) (w' : World) : Prop := e = .returned (.bool b) ∧ Below w.heap.size w w'
end Go.Proofs.YtmkchilhnmkhkaaDoor
namespace Go.Proofs.YtmkchilhnmkhkaaDoor
open Go.RowKit Go.Proofs.YtmkchilhnmkhkaaDoor.Parts Go.Proofs.YtmkchilhnmkhkaaDoor.Hexa Go.Proofs.YtmkchilhnmkhkaaDoor.Byt

structure InoR where
  kd : Int
  sz : Int
  gn : Int
  key : ByteArray
  R : List RecR
  E : List EntryR
def textLt (a b : ByteArray) : Bool := Op.bytesLess a.toList b.toList
def RecsOk (R : List RecR) (m : Nat) : Prop := ∀ j, j < m → RecOk (R.getD j default) ∧ ∀ k, k < j → (R.getD k default).f0 ≠ (R.getD j default).f0
def EntsOk (E : List EntryR) (m : Nat) : Prop := ∀ j, j < m → EntryOk (E.getD j default) ∧ (0 < j → textLt (E.getD (j - 1) default).f1 (E.getD j default).f1 = true)
def FreeOk (n : InoR) : Prop := n.sz = 0 ∧ n.key.size = 0 ∧ n.R.length = 0 ∧ n.E.length = 0
def FileOk (n : InoR) : Prop := (0 ≤ n.sz ∧ n.sz ≤ 128) ∧ n.key.size = 8 ∧ (n.R.length : Int) = pagesZ n.sz ∧ n.E.length = 0 ∧ RecsOk n.R n.R.length
def DirOk (n : InoR) : Prop := n.sz = 0 ∧ n.key.size = 0 ∧ n.R.length = 0 ∧ n.E.length ≤ 6 ∧ EntsOk n.E n.E.length
def InoOk (n : InoR) : Prop := (0 ≤ n.gn ∧ n.gn ≤ 65535) ∧ ((n.kd = 0 ∧ FreeOk n) ∨ (n.kd = 1 ∧ FileOk n) ∨ (n.kd = 2 ∧ DirOk n))
noncomputable def inoB (n : InoR) : Bool := @decide (InoOk n) (Classical.propDecidable _)
theorem inoB_yes {n : InoR} (h : InoOk n) : inoB n = true := by unfold inoB; exact @decide_eq_true _ (Classical.propDecidable _) h
theorem inoB_no {n : InoR} (h : ¬ InoOk n) : inoB n = false := by unfold inoB; exact @decide_eq_false _ (Classical.propDecidable _) h
theorem recsOk_step {R : List RecR} {m : Nat} (h : RecsOk R m) (h1 : RecOk (R.getD m default)) (h2 : ∀ k, k < m → (R.getD k default).f0 ≠ (R.getD m default).f0) : RecsOk R (m + 1) := fun j hj => by
  by_cases e : j = m
  · subst e; exact ⟨h1, h2⟩
  · exact h j (by omega)
theorem entsOk_step {E : List EntryR} {m : Nat} (h : EntsOk E m) (h1 : EntryOk (E.getD m default)) (h2 : 0 < m → textLt (E.getD (m - 1) default).f1 (E.getD m default).f1 = true) : EntsOk E (m + 1) := fun j hj => by
  by_cases e : j = m
  · subst e; exact ⟨h1, h2⟩
  · exact h j (by omega)

/-- The words of an inode. -/
def headB (n : InoR) : ByteArray := wordB (numTextB n.kd 1 ++ numTextB n.sz 2 ++ numTextB n.gn 2)
def zero8 : ByteArray := zeroB 8
def wordsI (n : InoR) : List ByteArray := [headB n, wordB n.key] ++ n.R.map recWordB ++ n.E.map entryWordB
noncomputable def inoWordsB (n : InoR) : List ByteArray := if inoB n = true then wordsI n ++ List.replicate (8 - (wordsI n).length) zero8 else []
theorem wordsI_le {n : InoR} (h : InoOk n) : (wordsI n).length ≤ 8 := by
  unfold wordsI
  simp only [List.length_append, List.length_map, List.length_cons, List.length_nil]
  obtain ⟨_, ⟨_, h0⟩ | ⟨_, h0⟩ | ⟨_, h0⟩⟩ := h
  · obtain ⟨_, _, h1, h2⟩ := h0; omega
  · obtain ⟨h1, _, h2, h3, _⟩ := h0
    have : pagesZ n.sz ≤ 4 := by unfold pagesZ; split <;> omega
    omega
  · obtain ⟨_, _, h1, h2, _⟩ := h0; omega
theorem entryWord_size {r : EntryR} (h : EntryOk r) : (entryWordB r).size = 8 := by
  obtain ⟨⟨h0, h1⟩, h2⟩ := h
  rw [entryWordB_yes ⟨⟨h0, h1⟩, h2⟩]
  have e1 : (numTextB r.f0 1).size = 1 := numText_size (k := 1) (by omega) (by omega) (by omega)
  have e2 : (numTextB r.f0 1 ++ r.f1).size ≤ 8 := by rw [ByteArray.size_append, e1]; have := h2.1.2; omega
  unfold wordB
  rw [if_pos e2, ByteArray.size_append, longB_size]
  omega
end Go.Proofs.YtmkchilhnmkhkaaDoor
namespace Go.Proofs.YtmkchilhnmkhkaaDoor
open Go.RowKit Go.Proofs.YtmkchilhnmkhkaaDoor.Parts Go.Proofs.YtmkchilhnmkhkaaDoor.Hexa Go.Proofs.YtmkchilhnmkhkaaDoor.Byt

abbrev inoCs (kd sz gn : Int) (key : ByteArray) (aR : Option Addr) (nR cR : Nat) (aE : Option Addr) (nE cE : Nat) : Array Value :=
  #[.int .i64 kd, .int .i64 sz, .int .i64 gn, .string key, .slice aR nR cR, .slice aE nE cE]
abbrev inoObj (kd sz gn : Int) (key : ByteArray) (aR : Option Addr) (nR cR : Nat) (aE : Option Addr) (nE cE : Nat) : Obj :=
  .cells #[.int .i64 kd, .int .i64 sz, .int .i64 gn, .string key, .slice aR nR cR, .slice aE nE cE] 54

theorem text_nothing {x : ByteArray} (h : x.size = 0) : x = ⟨#[]⟩ := by
  cases x with
  | mk d => rw [show d = #[] from Array.eq_empty_of_size_eq_zero h]
theorem bool_no {b : Bool} {p : Prop} (hb : b = true ↔ p) (h : ¬ p) : b = false := by
  cases b
  · rfl
  · exact absurd (hb.1 rfl) h

section
variable (kd sz gn : Int) (key : ByteArray) (aR : Option Addr) (nR cR : Nat) (aE : Option Addr) (nE cE : Nat) (w : World)

set_option maxRecDepth 100000 in
set_option maxHeartbeats 1000000 in
theorem specIno_gen (h : ¬ (0 ≤ gn ∧ gn ≤ 65535)) :
    Calls Tryd.prog 44 #[.agg #[.int .i64 kd, .int .i64 sz, .int .i64 gn, .string key, .slice aR nR cR, .slice aE nE cE]] w (SaysB false w) := by
  have H0 := Lib.hid h
  have B0 := Lib.hid (below_bk w (inoObj kd sz gn key aR nR cR aE nE cE))
  clear h
  go_enter Tryd.func44, Tryd.ntmps44
  go_wp2_with ((with_reducible refine (range_no _ H0.out).mono ?_); rintro e w1 ⟨rfl, rfl⟩)
  go_ret
  exact ⟨rfl, B0.out⟩

set_option maxRecDepth 100000 in
set_option maxHeartbeats 1000000 in
theorem specIno_other (h : 0 ≤ gn ∧ gn ≤ 65535) (h0 : ¬ kd = 0) (h1 : ¬ kd = 1) (h2 : ¬ kd = 2) :
    Calls Tryd.prog 44 #[.agg #[.int .i64 kd, .int .i64 sz, .int .i64 gn, .string key, .slice aR nR cR, .slice aE nE cE]] w (SaysB false w) := by
  have H0 := Lib.hid h
  have B0 := Lib.hid (below_bk w (inoObj kd sz gn key aR nR cR aE nE cE))
  clear h
  go_enter Tryd.func44, Tryd.ntmps44
  go_wp2_with ((with_reducible refine (range_yes _ H0.out).mono ?_); rintro e w1 ⟨rfl, rfl⟩)
  go_ret
  exact ⟨rfl, B0.out⟩

set_option maxRecDepth 100000 in
set_option maxHeartbeats 1000000 in
theorem specIno_free (h : 0 ≤ gn ∧ gn ≤ 65535) (b : Bool) (hb : b = true ↔ (sz = 0 ∧ key.size = 0 ∧ nR = 0 ∧ nE = 0)) :
    Calls Tryd.prog 44 #[.agg #[.int .i64 0, .int .i64 sz, .int .i64 gn, .string key, .slice aR nR cR, .slice aE nE cE]] w (SaysB b w) := by
  have H0 := Lib.hid h
  have B0 := Lib.hid (below_bk w (inoObj 0 sz gn key aR nR cR aE nE cE))
  clear h
  by_cases h1 : sz = 0
  · subst h1
    by_cases h2 : key.size = 0
    · obtain rfl : key = ⟨#[]⟩ := text_nothing h2
      by_cases h3 : nR = 0
      · subst h3
        by_cases h4 : nE = 0
        · subst h4
          obtain rfl : b = true := hb.2 ⟨rfl, rfl, rfl, rfl⟩
          clear hb
          go_enter Tryd.func44, Tryd.ntmps44
          go_wp2_with ((with_reducible refine (range_yes _ H0.out).mono ?_); rintro e w1 ⟨rfl, rfl⟩)
          go_ret
          exact ⟨rfl, B0.out⟩
        · obtain rfl : b = false := bool_no hb (fun x => h4 x.2.2.2)
          have e4 : ((nE : Int) == 0) = false := by simp; omega
          clear hb
          go_enter Tryd.func44, Tryd.ntmps44
          go_wp2_with ((with_reducible refine (range_yes _ H0.out).mono ?_); rintro e w1 ⟨rfl, rfl⟩)
          go_ret
          exact ⟨rfl, B0.out⟩
      · obtain rfl : b = false := bool_no hb (fun x => h3 x.2.2.1)
        have e4 : ((nR : Int) == 0) = false := by simp; omega
        clear hb
        go_enter Tryd.func44, Tryd.ntmps44
        go_wp2_with ((with_reducible refine (range_yes _ H0.out).mono ?_); rintro e w1 ⟨rfl, rfl⟩)
        go_ret
        exact ⟨rfl, B0.out⟩
    · obtain rfl : b = false := bool_no hb (fun x => h2 x.2.1)
      have e4 : (key.toList == []) = false := text_full key (by omega)
      clear hb
      go_enter Tryd.func44, Tryd.ntmps44
      go_wp2_with ((with_reducible refine (range_yes _ H0.out).mono ?_); rintro e w1 ⟨rfl, rfl⟩)
      go_ret
      exact ⟨rfl, B0.out⟩
  · obtain rfl : b = false := bool_no hb (fun x => h1 x.1)
    clear hb
    go_enter Tryd.func44, Tryd.ntmps44
    go_wp2_with ((with_reducible refine (range_yes _ H0.out).mono ?_); rintro e w1 ⟨rfl, rfl⟩)
    go_ret
    exact ⟨rfl, B0.out⟩
end
end Go.Proofs.YtmkchilhnmkhkaaDoor
namespace Go.Proofs.YtmkchilhnmkhkaaDoor
open Go.RowKit Go.Proofs.YtmkchilhnmkhkaaDoor.Parts Go.Proofs.YtmkchilhnmkhkaaDoor.Hexa Go.Proofs.YtmkchilhnmkhkaaDoor.Byt

/-- How many bytes are left without the last zeros. -/
def trimTo (l : List UInt8) : Nat → Nat
  | 0 => 0
  | k + 1 => if l.getD k 0 = 0 then trimTo l k else k + 1
def trimB (s : ByteArray) : ByteArray := s.extract 0 (trimTo s.data.toList s.size)
theorem trimTo_step (l : List UInt8) (k : Nat) (h : l.getD k 0 = 0) : trimTo l (k + 1) = trimTo l k := if_pos h
theorem trimTo_stop (l : List UInt8) (k : Nat) (h : ¬ l.getD k 0 = 0) : trimTo l (k + 1) = k + 1 := if_neg h
theorem trimTo_le (l : List UInt8) : ∀ k, trimTo l k ≤ k
  | 0 => Nat.le_refl _
  | k + 1 => by
    rw [trimTo]
    split
    · exact Nat.le_trans (trimTo_le l k) (Nat.le_succ _)
    · exact Nat.le_refl _
theorem extract_all (s : ByteArray) : s.extract 0 s.size = s := by
  apply ByteArray.ext
  simp
theorem extract_two (s : ByteArray) (k m : Nat) (h : m ≤ k) : (s.extract 0 k).extract 0 m = s.extract 0 m := by
  apply ByteArray.ext
  apply Array.toList_inj.1
  simp only [ByteArray.data_extract, Array.toList_extract, List.extract_eq_take_drop, List.drop_zero, Nat.sub_zero, List.take_take]
  rw [Nat.min_eq_left h]
theorem trimTo_same {l l' : List UInt8} : ∀ k, (∀ j, j < k → l.getD j 0 = l'.getD j 0) → trimTo l k = trimTo l' k
  | 0, _ => rfl
  | k + 1, h => by rw [trimTo, trimTo, h k (by omega), trimTo_same k (fun j hj => h j (by omega))]
theorem extract_getD (u : ByteArray) (m j : Nat) (hj : j < m) (hm : m ≤ u.size) : (u.extract 0 m).data.toList.getD j 0 = u.data.toList.getD j 0 := by
  have h2 : j < u.data.toList.length := by simp; omega
  simp only [ByteArray.data_extract, Array.toList_extract, List.extract_eq_take_drop, List.drop_zero, List.getD, Nat.sub_zero]
  rw [List.getElem?_take_of_lt hj]
theorem trim_step {u : ByteArray} {m : Nat} (hu : u.size = m + 1) (h0 : u.data.toList.getD m 0 = 0) : trimB (u.extract 0 m) = trimB u := by
  have hs : (u.extract 0 m).size = m := by rw [ByteArray.size_extract]; omega
  unfold trimB
  rw [hs, hu, trimTo_step _ _ h0, trimTo_same m (fun j hj => extract_getD u m j hj (by omega))]
  exact extract_two u m _ (trimTo_le _ _)
theorem trim_stop {u : ByteArray} {m : Nat} (hu : u.size = m + 1) (h0 : ¬ u.data.toList.getD m 0 = 0) : trimB u = u := by
  unfold trimB
  rw [hu, trimTo_stop _ _ h0, ← hu]
  exact extract_all u
theorem trim_none {u : ByteArray} (hu : u.size = 0) : trimB u = u := by
  unfold trimB
  have h := trimTo_le u.data.toList u.size
  have e : trimTo u.data.toList u.size = u.size := by omega
  rw [e]
  exact extract_all u
theorem getD_byte (s : ByteArray) (j : Nat) (hj : j < s.size) : s.data.toList.getD j 0 = s[j] := by
  have hj' : j < s.data.toList.length := by simpa using hj
  simp only [List.getD, List.getElem?_eq_getElem hj', Option.getD_some]
  rfl
def txtLen : Value → Nat
  | .string s => s.size
  | _ => 0

set_option maxRecDepth 100000 in
set_option maxHeartbeats 1000000 in
theorem trimByte_any (s : ByteArray) (w : World) (hs : s.size ≤ 2000000) :
    Calls Tryd.prog 126 #[.string s, .int .u8 0] w fun e w' => e = .returned (.string (trimB s)) ∧ w' = w := by
  go_enter Tryd.func126, Tryd.ntmps126
  go_wp2
  go_loop [0] (fun v => ∃ u : ByteArray, u.size ≤ 2000000 ∧ v = .string u ∧ Hid (trimB u = trimB s)) (fun v => txtLen v)
  case atStart => exact ⟨s, hs, rfl, Lib.hid rfl⟩
  case round =>
    obtain ⟨u, hu, rfl, HT⟩ := hrel
    by_cases h0 : u.size = 0
    · have HN : Hid (trimB u = u) := Lib.hid (trim_none h0)
      have hn : decide ((0 : Int) < (u.size : Int)) = false := decide_eq_false (by omega)
      go_wp2
      go_ret
      exact ⟨by rw [← HT.out, HN.out]; rfl, rfl⟩
    · obtain ⟨m, hm⟩ : ∃ m, u.size = m + 1 := ⟨u.size - 1, by omega⟩
      have hml : m < u.size := by omega
      obtain ⟨b, hb⟩ : ∃ b, u[m]'hml = b := ⟨_, rfl⟩
      have HB : Hid (u.data.toList.getD m 0 = b) := Lib.hid (by rw [getD_byte u m hml]; exact hb)
      have HM := Lib.hid hm
      have hpos : (0 : Int) < (u.size : Int) := by omega
      have hum : (u.size : Int) - 1 = (m : Int) := by omega
      have hm2 : m ≤ 2000000 := by omega
      have hb255 := b.toNat_lt
      clear hm h0
      by_cases h1 : b = 0
      · subst h1
        have HS : Hid (trimB (u.extract 0 m) = trimB s) := Lib.hid (by rw [trim_step HM.out HB.out, HT.out])
        have hs2 : (u.extract 0 m).size ≤ 2000000 := by rw [ByteArray.size_extract]; omega
        have HM2 : Hid ((u.extract 0 m).size < u.size) := Lib.hid (by rw [ByteArray.size_extract]; omega)
        go_wp2
        go_round
        case rel => exact ⟨_, hs2, rfl, HS⟩
        case measure => exact HM2.out
      · have HN : Hid (trimB u = u) := Lib.hid (trim_stop HM.out (by rw [HB.out]; exact h1))
        have hbt : ¬ b.toNat = 0 := fun e => h1 (UInt8.toNat_inj.1 (by rw [e]; rfl))
        have e1 : ((b.toNat : Int) == 0) = false := by simp; omega
        clear h1 hbt
        go_wp2
        go_ret
        exact ⟨by rw [← HT.out, HN.out]; rfl, rfl⟩

set_option maxRecDepth 100000 in
set_option maxHeartbeats 1000000 in
theorem trimRight_any (s : ByteArray) (w : World) (hs : s.size ≤ 2000000) :
    Calls Tryd.prog 71 #[.string s, .string ⟨#[0]⟩] w fun e w' => e = .returned (.string (trimB s)) ∧ w' = w := by
  by_cases h0 : s.size = 0
  · obtain rfl := text_nothing h0
    go_enter Tryd.func71, Tryd.ntmps71
    go_wp2
    go_ret
    exact ⟨rfl, rfl⟩
  · have e4 : (s.toList == []) = false := text_full s (by omega)
    have HC := Lib.hid (fun w => trimByte_any s w hs)
    clear h0
    go_enter Tryd.func71, Tryd.ntmps71
    go_wp2_with fail
    refine (HC.out _).mono ?_
    rintro e w1 ⟨rfl, rfl⟩
    go_wp2
    go_ret
    exact ⟨rfl, rfl⟩
end Go.Proofs.YtmkchilhnmkhkaaDoor
namespace Go.Proofs.YtmkchilhnmkhkaaDoor
open Go.RowKit Go.Proofs.YtmkchilhnmkhkaaDoor.Hexa Go.Proofs.YtmkchilhnmkhkaaDoor.Byt

/-- A number's bytes say it. -/
theorem numV_num (m k : Nat) (h : m < 256 ^ k) : numV (numL m k k) = m := by
  have H : ∀ j, j ≤ k → numV (numL m k j) = m / 256 ^ (k - j) := by
    intro j
    induction j with
    | zero => intro _; rw [Nat.sub_zero, Nat.div_eq_of_lt h]; rfl
    | succ j ih =>
      intro hj
      rw [← numL_next, numV_snoc, ih (by omega), UInt8.toNat_ofNat']
      have e : k - j = (k - 1 - j) + 1 := by omega
      rw [e, Nat.pow_succ, ← Nat.div_div_eq_div_mul, show k - (j + 1) = k - 1 - j by omega]
      have := Nat.div_add_mod (m / 256 ^ (k - 1 - j)) 256
      omega
  have := H k (Nat.le_refl _)
  simpa using this
theorem numAt_fore (s : ByteArray) (a k : Nat) (n : Int) (hk : 1 ≤ k ∧ k ≤ 7) (h : a + k ≤ s.size) (h0 : 0 ≤ n) (h1 : n < 256 ^ k) (hc : cutL s a k = (numTextB n k).data.toList) : numAtV s a k = n := by
  have e : numTextB n k = numB n.toNat k := by
    unfold numTextB
    rw [if_pos ⟨h0, by omega, by simpa using h1⟩]
    simp
  have e2 : (numTextB n k).data.toList = numL n.toNat k k := by rw [e]; rfl
  have e3 : numAtV s a k = (numV (cutL s a k) : Int) := by
    unfold numAtV
    rw [if_pos ⟨by omega, by omega⟩]
    simp
  have h2 : n.toNat < 256 ^ k := by
    have h3 : ((n.toNat : Nat) : Int) < ((256 ^ k : Nat) : Int) := by rw [Int.toNat_of_nonneg h0]; simpa using h1
    exact Int.ofNat_lt.1 h3
  rw [e3, hc, e2, numV_num _ _ h2, Int.toNat_of_nonneg h0]
end Go.Proofs.YtmkchilhnmkhkaaDoor
namespace Go.Proofs.YtmkchilhnmkhkaaDoor
open Go.RowKit Go.Proofs.YtmkchilhnmkhkaaDoor.Parts Go.Proofs.YtmkchilhnmkhkaaDoor.Hexa Go.Proofs.YtmkchilhnmkhkaaDoor.Byt

theorem entry_head {s : ByteArray} (h : 1 ≤ s.size) : numAtV s 0 1 = ((s.data.toList.getD 0 0).toNat : Int) := by
  have hb := (s.data.toList.getD 0 0).toNat_lt
  refine numAt_fore s 0 1 _ (by omega) (by omega) (by omega) (by omega) ?_
  rw [show ((1 : Nat) : Int) = 1 from rfl, one_byte _ (by omega)]
  unfold cutL
  have hl : 1 ≤ s.data.toList.length := by simpa using h
  match s.data.toList, hl with
  | x :: r, _ => rfl
end Go.Proofs.YtmkchilhnmkhkaaDoor
namespace Go.Proofs.YtmkchilhnmkhkaaDoor
open Go.RowKit Go.Proofs.YtmkchilhnmkhkaaDoor.Parts Go.Proofs.YtmkchilhnmkhkaaDoor.Hexa Go.Proofs.YtmkchilhnmkhkaaDoor.Byt

theorem endTo_trim {l t : List UInt8} (h : ∀ j, t.getD j 0 = l.getD (j + 1) 0) : ∀ k, endTo l (k + 1) = trimTo t k + 1
  | 0 => rfl
  | k + 1 => by
    rw [endTo, trimTo, h k, endTo_trim h k]
    split <;> rfl
theorem extract_tail (s : ByteArray) (m : Nat) (hm : m ≤ s.size - 1) : (s.extract 1 s.size).extract 0 m = s.extract 1 (m + 1) := by
  apply ByteArray.ext
  apply Array.toList_inj.1
  have hl : s.data.toList.length = s.size := by simp
  simp only [ByteArray.data_extract, Array.toList_extract, List.extract_eq_take_drop, List.drop_zero, Nat.sub_zero, List.take_take]
  congr 1
  omega
theorem tail_getD (s : ByteArray) (j : Nat) : (s.extract 1 s.size).data.toList.getD j 0 = s.data.toList.getD (j + 1) 0 := by
  have hl : s.data.toList.length = s.size := by simp
  simp only [ByteArray.data_extract, Array.toList_extract, List.extract_eq_take_drop, List.getD]
  rw [List.take_of_length_le (by rw [List.length_drop]; omega), List.getElem?_drop, Nat.add_comm]
/-- What the program reads. -/
def entryGot (s : ByteArray) : EntryR := ⟨numAtV s 0 1, trimB (s.extract 1 s.size)⟩
theorem entryGot_eq {s : ByteArray} (h8 : s.size = 8) : entryGot s = entryOf s := by
  have h7 : (s.extract 1 s.size).size = 7 := by rw [ByteArray.size_extract]; omega
  have hE := endTo_trim (l := s.data.toList) (t := (s.extract 1 s.size).data.toList) (tail_getD s) 7
  have hle := trimTo_le (s.extract 1 s.size).data.toList 7
  unfold entryGot entryOf endOf trimB
  rw [entry_head (by omega), h7, hE, extract_tail s _ (by omega)]
theorem got_yes {s : ByteArray} (h8 : s.size = 8) (h : EntryOk (entryOf s)) : entryWordB (entryGot s) = s := by rw [entryGot_eq h8]; exact entry_back h8 h
theorem got_no {s : ByteArray} (h1 : 1 ≤ s.size) (h : ¬ (s.size = 8 ∧ EntryOk (entryOf s))) : ¬ entryWordB (entryGot s) = s := fun e => by
  by_cases hk : EntryOk (entryGot s)
  · have h8 : s.size = 8 := by rw [← e]; exact entryWord_size hk
    exact h ⟨h8, by rw [← entryGot_eq h8]; exact hk⟩
  · rw [entryWordB_no hk] at e
    rw [← e] at h1
    exact absurd h1 (by decide)

set_option maxRecDepth 100000 in
set_option maxHeartbeats 1000000 in
theorem implReadEntry_none (s : ByteArray) (w : World) (h : s.size = 0) :
    Calls Tryd.prog 33 #[.string s] w (SaysEnt ⟨0, ⟨#[]⟩⟩ false w) := by
  have R0 := Lib.hid (Bk.alloc w #[.int .i64 0, .string ⟨#[]⟩] 47)
  have B0 := Lib.hid (below_bk w (.cells #[.int .i64 0, .string ⟨#[]⟩] 47))
  have HB : Hid (numAtB s 0 1 = false) := Lib.hid (decide_eq_false (by omega))
  have hs : s.size ≤ 100 := by omega
  clear h
  go_enter Tryd.func33, Tryd.ntmps33
  go_wp2_with fail
  refine (implNumAt_any s 0 1 _ (by omega)).mono ?_
  rw [HB.out]
  rintro e w1 ⟨rfl, hb⟩
  have R1 := Lib.hid (R0.out.later hb)
  have B1 : Hid (Below w.heap.size w w1) := Lib.hid (B0.out.trans (hb.mono B0.out.size))
  clear hb
  have r0 := R1.out.cell (j := 0) rfl
  have r1 := R1.out.cell (j := 1) rfl
  have f0 := R1.out.fr (o := 0)
  have f1 := R1.out.fr (o := 1)
  have qf := (R1.out.set 0 (.int .i64 0)).set 1 (.string ⟨#[]⟩)
  have q0 := qf.cell (j := 0) (v := .int .i64 0) rfl
  have q1 := qf.cell (j := 1) (v := .string ⟨#[]⟩) rfl
  clear qf
  go_wp2
  refine bodyPost_ret (v := .tuple #[.agg #[.int .i64 0, .string ⟨#[]⟩], .bool false]) ?_ rfl ⟨rfl, ?_⟩
  · simp [results, Tryd.results33, go_sem, q0, q1]
  · exact (B1.out.setCell (Nat.le_refl _) _).setCell (Nat.le_refl _) _

set_option maxRecDepth 100000 in
set_option maxHeartbeats 2000000 in
theorem implReadEntry_got (s : ByteArray) (w : World) (h1 : 1 ≤ s.size) (hs : s.size ≤ 2000000) (b : Bool) (hb : b = true ↔ entryWordB (entryGot s) = s) :
    Calls Tryd.prog 33 #[.string s] w (SaysEnt (if b then entryGot s else ⟨0, ⟨#[]⟩⟩) b w) := by
  have R0 := Lib.hid (Bk.alloc w #[.int .i64 0, .string ⟨#[]⟩] 47)
  have B0 := Lib.hid (below_bk w (.cells #[.int .i64 0, .string ⟨#[]⟩] 47))
  have HB : Hid (numAtB s 0 1 = true) := Lib.hid (decide_eq_true (by omega))
  obtain ⟨P, hP⟩ : ∃ P, numAtV s 0 1 = P := ⟨_, rfl⟩
  obtain ⟨X, hX⟩ : ∃ X, s.extract 1 s.size = X := ⟨_, rfl⟩
  obtain ⟨M, hM⟩ : ∃ M, trimB X = M := ⟨_, rfl⟩
  have HXS : Hid (X.size ≤ 2000000) := Lib.hid (by rw [← hX, ByteArray.size_extract]; omega)
  have HMS : Hid (M.size ≤ 2000000) := Lib.hid (by have := HXS.out; rw [← hM]; unfold trimB; rw [ByteArray.size_extract]; omega)
  have hG : entryGot s = ⟨P, M⟩ := by unfold entryGot; rw [hP, hX, hM]
  obtain ⟨T, hT⟩ : ∃ T, entryWordB ⟨P, M⟩ = T := ⟨_, rfl⟩
  rw [hG] at hb ⊢
  rw [hT] at hb
  have HP := Lib.hid hP
  have HM := Lib.hid hM
  have HT := Lib.hid hT
  have HG := Lib.hid hb
  obtain ⟨RR, hRR⟩ : ∃ RR : EntryR, (if b then (⟨P, M⟩ : EntryR) else ⟨0, ⟨#[]⟩⟩) = RR := ⟨_, rfl⟩
  rw [hRR]
  have HRR := Lib.hid hRR
  clear hRR
  have l1 : (1 : Int) ≤ (s.size : Int) := by omega
  have hs1 := Lib.hid h1
  have hs0 := Lib.hid hs
  clear hb hP hM hT hG
  go_enter Tryd.func33, Tryd.ntmps33
  go_wp2_with fail
  refine (implNumAt_any s 0 1 _ (by omega)).mono ?_
  rw [HB.out, HP.out]
  rintro e w1 ⟨rfl, hb⟩
  have R1 := Lib.hid (R0.out.later hb)
  have B1 : Hid (Below w.heap.size w w1) := Lib.hid (B0.out.trans (hb.mono B0.out.size))
  clear hb
  go_wp2_with fail
  refine (trimRight_any X _ HXS.out).mono ?_
  rw [HM.out]
  rintro e w1x ⟨rfl, rfl⟩
  go_wp2_with fail
  refine (cloneText_any M _ HMS.out).mono ?_
  rintro e w2 ⟨rfl, hb⟩
  have hba := below_bk w2 (.cells #[.int .i64 P, .string M] 47)
  have R3 := Lib.hid ((R1.out.later hb).later hba)
  have B2 : Below w.heap.size w w2 := B1.out.trans (hb.mono B1.out.size)
  have B3 : Hid (Below w.heap.size w (w2.alloc (.cells #[.int .i64 P, .string M] 47))) := Lib.hid (B2.trans (hba.mono B2.size))
  have X3 := Lib.hid (Bk.alloc w2 #[.int .i64 P, .string M] 47)
  clear hb hba B2
  go_wp2_with fail
  refine (implEntryWord_any P M _ HMS.out).mono ?_
  rw [HT.out]
  rintro e w4 ⟨rfl, hb⟩
  have R4 := Lib.hid (R3.out.later hb)
  have X4 := Lib.hid (X3.out.later hb)
  have B4 : Hid (Below w.heap.size w w4) := Lib.hid (B3.out.trans (hb.mono B3.out.size))
  clear hb R3 X3 B3
  have x0 := X4.out.cell (j := 0) rfl
  have x1 := X4.out.cell (j := 1) rfl
  have r0 := R4.out.cell (j := 0) rfl
  have r1 := R4.out.cell (j := 1) rfl
  have f0 := R4.out.fr (o := 0)
  have f1 := R4.out.fr (o := 1)
  cases b
  · have hne : ¬ T = s := fun e => by cases HG.out.2 e
    have n1 := text_neB hne
    have n2 := text_ne hne
    have qf := (R4.out.set 0 (.int .i64 0)).set 1 (.string ⟨#[]⟩)
    have q0 := qf.cell (j := 0) (v := .int .i64 0) rfl
    have q1 := qf.cell (j := 1) (v := .string ⟨#[]⟩) rfl
    clear qf hne
    go_wp2
    refine bodyPost_ret (v := .tuple #[.agg #[.int .i64 0, .string ⟨#[]⟩], .bool false]) ?_ rfl ⟨by rw [← HRR.out]; rfl, ?_⟩
    · simp [results, Tryd.results33, go_sem, q0, q1]
    · exact (B4.out.setCell (Nat.le_refl _) _).setCell (Nat.le_refl _) _
  · obtain rfl : T = s := HG.out.1 rfl
    have qf := (R4.out.set 0 (.int .i64 P)).set 1 (.string M)
    have q0 := qf.cell (j := 0) (v := .int .i64 P) rfl
    have q1 := qf.cell (j := 1) (v := .string M) rfl
    clear qf
    go_wp2
    refine bodyPost_ret (v := .tuple #[.agg #[.int .i64 P, .string M], .bool true]) ?_ rfl ⟨by rw [← HRR.out]; rfl, ?_⟩
    · simp [results, Tryd.results33, go_sem, q0, q1]
    · exact (B4.out.setCell (Nat.le_refl _) _).setCell (Nat.le_refl _) _
theorem implReadEntry_any (s : ByteArray) (w : World) (hs : s.size ≤ 2000000) :
    Calls Tryd.prog 33 #[.string s] w (SaysEnt (entryReadR s) (entryReadB s) w) := by
  by_cases h : s.size = 8 ∧ EntryOk (entryOf s)
  · rw [show entryReadR s = entryOf s from if_pos h, show entryReadB s = true from decide_eq_true h, ← entryGot_eq h.1]
    exact implReadEntry_got s w (by omega) hs true ⟨fun _ => got_yes h.1 h.2, fun _ => rfl⟩
  · rw [show entryReadR s = ⟨0, ⟨#[]⟩⟩ from if_neg h, show entryReadB s = false from decide_eq_false h]
    by_cases h0 : s.size = 0
    · exact implReadEntry_none s w h0
    · exact implReadEntry_got s w (by omega) hs false ⟨fun e => (by cases e), fun e => absurd e (got_no (by omega) h)⟩
end Go.Proofs.YtmkchilhnmkhkaaDoor
namespace Go.Proofs.YtmkchilhnmkhkaaDoor
open Go.RowKit Go.Proofs.YtmkchilhnmkhkaaDoor.Parts Go.Proofs.YtmkchilhnmkhkaaDoor.Hexa

set_option maxRecDepth 100000 in
set_option maxHeartbeats 400000 in
theorem eqEntry_any (x0 : Int) (x1 : ByteArray) (w : World) :
    Calls Tryd.prog 34 #[.agg #[.int .i64 x0, .string x1], .agg #[.int .i64 x0, .string x1]] w fun e w' => e = .returned (.bool true) ∧ Below w.heap.size w w' := by
  go_enter Tryd.func34, Tryd.ntmps34
  go_wp2
  go_ret
  exact ⟨rfl, ((Below.refl _ _).alloc (Nat.le_refl _) _).alloc (by simp) _⟩

end Go.Proofs.YtmkchilhnmkhkaaDoor
namespace Go.Proofs.YtmkchilhnmkhkaaDoor
open Go.RowKit Go.Proofs.YtmkchilhnmkhkaaDoor.Parts Go.Proofs.YtmkchilhnmkhkaaDoor.Hexa Go.Proofs.YtmkchilhnmkhkaaDoor.Byt

set_option maxRecDepth 100000 in
set_option maxHeartbeats 1000000 in
theorem readEntry_law (s : ByteArray) (w : World) :
    Calls Tryd.prog 9 #[.string s] w fun e w' => e = .returned (.bool true) ∧ Below w.heap.size w w' := by
  by_cases ha : s.size ≤ 1048576
  · have k1 := Lib.hid fun w => specReadEntry_any s w (by omega)
    have k2 := Lib.hid fun w => implReadEntry_any s w (by omega)
    obtain ⟨⟨p, m⟩, hr⟩ : ∃ r, entryReadR s = r := ⟨_, rfl⟩
    obtain ⟨b, hb⟩ : ∃ b, entryReadB s = b := ⟨_, rfl⟩
    rw [hr, hb] at k1 k2
    clear hr hb
    go_enter Tryd.func9, Tryd.ntmps9
    go_wp2_with fail
    refine (k1.out _).mono ?_
    rintro e w1 ⟨rfl, hb1⟩
    have T1 := Lib.hid (Bk.alloc w1 #[.int .i64 p, .string m] 47)
    have B1 : Hid (Below w.heap.size w (w1.alloc (.cells #[.int .i64 p, .string m] 47))) := Lib.hid (hb1.alloc hb1.size _)
    clear hb1
    go_wp2_with fail
    refine (k2.out _).mono ?_
    rintro e w2 ⟨rfl, hb2⟩
    have T2 := Lib.hid ((T1.out.later hb2).later (below_bk w2 (.cells #[.int .i64 p, .string m] 47)))
    have B2 : Hid (Below w.heap.size w w2) := Lib.hid (B1.out.trans (hb2.mono B1.out.size))
    have B3 : Hid (Below w.heap.size w (w2.alloc (.cells #[.int .i64 p, .string m] 47))) := Lib.hid (B2.out.alloc B2.out.size _)
    have c0 := T2.out.cell (j := 0) rfl
    have c1 := T2.out.cell (j := 1) rfl
    clear hb2
    go_wp2_with fail
    refine (eqEntry_any p m _).mono ?_
    rintro e w4 ⟨rfl, hb4⟩
    have B4 : Hid (Below w.heap.size w w4) := Lib.hid (B3.out.trans (hb4.mono B3.out.size))
    clear hb4
    go_wp2
    go_ret
    exact ⟨rfl, B4.out⟩
  · have hn : 1048576 < s.size := by omega
    go_enter Tryd.func9, Tryd.ntmps9
    go_wp2
    go_ret
    exact ⟨rfl, Below.refl _ _⟩
end Go.Proofs.YtmkchilhnmkhkaaDoor
namespace Go.Proofs.YtmkchilhnmkhkaaDoor
open Go.RowKit

theorem below_drewsN {B : Nat} {a w : World} (h : Below B a w) (m : Nat) : Below B a (w.drewN m) := ⟨h.os, h.tape, h.output, h.size, h.block⟩
end Go.Proofs.YtmkchilhnmkhkaaDoor
namespace Go.Proofs.YtmkchilhnmkhkaaDoor
open Go.RowKit Go.Proofs.YtmkchilhnmkhkaaDoor.Parts Go.Proofs.YtmkchilhnmkhkaaDoor.Hexa Go.Proofs.YtmkchilhnmkhkaaDoor.Byt

section
variable (sz gn : Int) (key : ByteArray) (aR : Option Addr) (nR cR : Nat) (aE : Option Addr) (nE cE : Nat) (w : World)

set_option maxRecDepth 100000 in
set_option maxHeartbeats 1000000 in
theorem specIno_fileNo (h : 0 ≤ gn ∧ gn ≤ 65535) (hz : -9223372036854775808 ≤ sz ∧ sz ≤ 9223372036854775807) (hno : ¬ ((0 ≤ sz ∧ sz ≤ 128) ∧ key.size = 8 ∧ (nR : Int) = pagesZ sz ∧ nE = 0)) :
    Calls Tryd.prog 44 #[.agg #[.int .i64 1, .int .i64 sz, .int .i64 gn, .string key, .slice aR nR cR, .slice aE nE cE]] w (SaysB false w) := by
  have H0 := Lib.hid h
  have HZ := Lib.hid hz
  have B0 := Lib.hid (below_bk w (inoObj 1 sz gn key aR nR cR aE nE cE))
  clear h hz
  by_cases h1 : 0 ≤ sz ∧ sz ≤ 128
  · have H1 := Lib.hid h1
    by_cases h2 : key.size = 8
    · have e2 : ((key.size : Int) != 8) = false := by simp; omega
      by_cases h3 : (nR : Int) = pagesZ sz
      · have h4 : ¬ nE = 0 := fun e => hno ⟨h1, h2, h3, e⟩
        have e4 : (0 : Int) < (nE : Int) := by omega
        have HQ : Hid (∀ W : World, Calls Tryd.prog 94 #[.int .i64 sz] W fun e w' => e = .returned (.int .i64 nR) ∧ w' = W) := Lib.hid (fun W => by
          rw [h3]; exact specPages_any sz W HZ.out.1 HZ.out.2)
        clear hno h1 h3
        go_enter Tryd.func44, Tryd.ntmps44
        go_wp2_with ((with_reducible refine (range_yes _ H0.out).mono ?_); rintro e w1 ⟨rfl, rfl⟩)
        go_quiet (first
          | (go_at_call 56; exact Calls.quiet_of_same (range_yes _ H1.out))
          | (go_at_call 94; exact Calls.quiet_of_same (HQ.out _)))
        go_wp2
        go_ret
        exact ⟨rfl, below_drewsN B0.out _⟩
      · obtain ⟨p, hp⟩ : ∃ p, pagesZ sz = p := ⟨_, rfl⟩
        have HQ : Hid (∀ W : World, Calls Tryd.prog 94 #[.int .i64 sz] W fun e w' => e = .returned (.int .i64 p) ∧ w' = W) := Lib.hid (fun W => by
          rw [← hp]; exact specPages_any sz W HZ.out.1 HZ.out.2)
        rw [hp] at h3
        have e3 : ((nR : Int) != p) = true := by simpa using h3
        clear hno h1 h3 hp
        go_enter Tryd.func44, Tryd.ntmps44
        go_wp2_with ((with_reducible refine (range_yes _ H0.out).mono ?_); rintro e w1 ⟨rfl, rfl⟩)
        go_quiet (first
          | (go_at_call 56; exact Calls.quiet_of_same (range_yes _ H1.out))
          | (go_at_call 94; exact Calls.quiet_of_same (HQ.out _)))
        go_wp2
        go_ret
        exact ⟨rfl, below_drewsN B0.out _⟩
    · have e2 : ((key.size : Int) != 8) = true := by have : ¬ ((key.size : Int) = 8) := by omega
                                                     simpa using this
      clear hno h1 h2
      go_enter Tryd.func44, Tryd.ntmps44
      go_wp2_with ((with_reducible refine (range_yes _ H0.out).mono ?_); rintro e w1 ⟨rfl, rfl⟩)
      go_quiet ((go_at_call 56; exact Calls.quiet_of_same (range_yes _ H1.out)))
      go_wp2
      go_ret
      exact ⟨rfl, below_drewsN B0.out _⟩
  · have H1 := Lib.hid h1
    clear hno h1
    go_enter Tryd.func44, Tryd.ntmps44
    go_wp2_with ((with_reducible refine (range_yes _ H0.out).mono ?_); rintro e w1 ⟨rfl, rfl⟩)
    go_quiet ((go_at_call 56; exact Calls.quiet_of_same (range_no _ H1.out)))
    go_wp2
    go_ret
    exact ⟨rfl, below_drewsN B0.out _⟩
end
end Go.Proofs.YtmkchilhnmkhkaaDoor
