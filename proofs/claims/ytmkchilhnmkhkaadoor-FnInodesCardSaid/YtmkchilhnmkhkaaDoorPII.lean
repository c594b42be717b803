/- Merged texts: ReadImpl, Clone, ReadRecImpl, NameImpl, WordImpl, EntImpl, TrimImpl. -/
import Derived.Test.YtmkchilhnmkhkaaDoorPIH
import Derived.WalkKit
import Derived.WalkSpells
import Derived.WalkLawsBesides
import Derived.Deep.RegionLaw
import Derived.Lib.Hide
import Derived.Test.YtmkchilhnmkhkaaDoorShelf
namespace Go.Proofs.YtmkchilhnmkhkaaDoor
open Go.RowKit Go.Proofs.YtmkchilhnmkhkaaDoor.Hexa Go.Proofs.YtmkchilhnmkhkaaDoor.Byt Go.Proofs.YtmkchilhnmkhkaaDoor.BitsM

theorem num_step (V : Nat) (b : UInt8) (hV : V < 281474976710656) : bits .or .i64 (RowKit.wrap64 ((V : Int) * 256)) (RowKit.wrap64 (b.toNat : Int)) = ((256 * V + b.toNat : Nat) : Int) := by
  have hb := b.toNat_lt
  have e1 : RowKit.wrap64 ((V : Int) * 256) = ((256 * V : Nat) : Int) := by unfold RowKit.wrap64; omega
  have e2 : RowKit.wrap64 (b.toNat : Int) = (b.toNat : Int) := by unfold RowKit.wrap64; omega
  rw [e1, e2, or64 _ _ (by omega) (by omega)]
  have h := Nat.two_pow_add_eq_or_of_lt (i := 8) (b := b.toNat) (by omega) V
  rw [show (2 : Nat) ^ 8 = 256 by decide] at h
  rw [h]
theorem read_next (s : ByteArray) (a j : Nat) (h : a + j < s.size) (hj : j ≤ 6) : bits .or .i64 (RowKit.wrap64 ((numV (cutL s a j) : Int) * 256)) (RowKit.wrap64 ((s[a + j]'h).toNat : Int)) = (numV (cutL s a (j + 1)) : Int) := by
  have h1 := numV_lt (cutL s a j)
  rw [cutL_length s a j (by omega)] at h1
  have h2 : numV (cutL s a j) < 281474976710656 := Nat.lt_of_lt_of_le h1 (Nat.le_trans (Nat.pow_le_pow_right (by omega) hj) (by decide))
  rw [num_step _ _ h2, ← cutL_next s a j h, numV_snoc]

set_option maxRecDepth 100000 in
set_option maxHeartbeats 1000000 in
theorem numberOf1_any (s : ByteArray) (a : Int) (w : World) (hs : s.size ≤ 100000000) :
    Calls Tryd.prog 119 #[.string s, .int .i64 a] w fun e w' => e = .returned (.tuple #[.int .i64 (numAtV s a 1), .bool (numAtB s a 1)]) ∧ Below w.heap.size w w' := by
  by_cases h : 0 ≤ a ∧ a ≤ (s.size : Int) - 1
  · have hV : numAtV s a 1 = numV (cutL s a.toNat 1) := by unfold numAtV; exact if_pos ⟨by decide, h⟩
    have hB : numAtB s a 1 = true := decide_eq_true ⟨by decide, h⟩
    rw [hV, hB]
    obtain ⟨k, rfl⟩ : ∃ k : Nat, a = k := ⟨a.toNat, by omega⟩
    have h1 : ¬ (((s.size : Int) - 1) < k) := by omega
    have h2 : k + 1 ≤ s.size := by omega
    rw [Int.toNat_natCast]
    clear h hV hB
    go_enter Tryd.func119, Tryd.ntmps119
    go_wp2
    go_loopw [7, 22] (fun nv iv wr => ∃ j : Nat, j ≤ 1 ∧ iv = .int .i64 j ∧ nv = .int .i64 (numV (cutL s k j)) ∧ Below w.heap.size w wr)
      (fun _ iv _ => 1 - (intOf iv).toNat)
    case atStart => exact ⟨0, Nat.zero_le _, rfl, rfl, (Below.refl _ _).alloc (Nat.le_refl _) _⟩
    case round =>
      obtain ⟨j, hj, rfl, rfl, hbel⟩ := hrel
      by_cases hlt : j < 1
      · have hlt2 : k + j < s.size := by omega
        have HN := Lib.hid (read_next s k j hlt2 (by omega))
        go_wp2
        rw [HN.out]
        go_roundw
        case rel => exact ⟨j + 1, by omega, by go_num, rfl, hbel⟩
        case measure => (simp [intOf]; try omega)
      · obtain rfl : j = 1 := by omega
        go_wp2
        go_ret2
        exact ⟨rfl, hbel⟩
  · have hV : numAtV s a 1 = 0 := by unfold numAtV; exact if_neg (fun h' => h h'.2)
    have hB : numAtB s a 1 = false := decide_eq_false (fun h' => h h'.2)
    rw [hV, hB]
    by_cases h0 : a < 0
    · go_enter Tryd.func119, Tryd.ntmps119
      go_wp2
      go_ret2
      exact ⟨rfl, (Below.refl _ _).alloc (Nat.le_refl _) _⟩
    · have h1 : ((s.size : Int) - 1) < a := by omega
      clear h hV hB
      go_enter Tryd.func119, Tryd.ntmps119
      go_wp2
      go_ret2
      exact ⟨rfl, (Below.refl _ _).alloc (Nat.le_refl _) _⟩

set_option maxRecDepth 100000 in
set_option maxHeartbeats 1000000 in
theorem numberOf2_any (s : ByteArray) (a : Int) (w : World) (hs : s.size ≤ 100000000) :
    Calls Tryd.prog 120 #[.string s, .int .i64 a] w fun e w' => e = .returned (.tuple #[.int .i64 (numAtV s a 2), .bool (numAtB s a 2)]) ∧ Below w.heap.size w w' := by
  by_cases h : 0 ≤ a ∧ a ≤ (s.size : Int) - 2
  · have hV : numAtV s a 2 = numV (cutL s a.toNat 2) := by unfold numAtV; exact if_pos ⟨by decide, h⟩
    have hB : numAtB s a 2 = true := decide_eq_true ⟨by decide, h⟩
    rw [hV, hB]
    obtain ⟨k, rfl⟩ : ∃ k : Nat, a = k := ⟨a.toNat, by omega⟩
    have h1 : ¬ (((s.size : Int) - 2) < k) := by omega
    have h2 : k + 2 ≤ s.size := by omega
    rw [Int.toNat_natCast]
    clear h hV hB
    go_enter Tryd.func120, Tryd.ntmps120
    go_wp2
    go_loopw [7, 22] (fun nv iv wr => ∃ j : Nat, j ≤ 2 ∧ iv = .int .i64 j ∧ nv = .int .i64 (numV (cutL s k j)) ∧ Below w.heap.size w wr)
      (fun _ iv _ => 2 - (intOf iv).toNat)
    case atStart => exact ⟨0, Nat.zero_le _, rfl, rfl, (Below.refl _ _).alloc (Nat.le_refl _) _⟩
    case round =>
      obtain ⟨j, hj, rfl, rfl, hbel⟩ := hrel
      by_cases hlt : j < 2
      · have hlt2 : k + j < s.size := by omega
        have HN := Lib.hid (read_next s k j hlt2 (by omega))
        go_wp2
        rw [HN.out]
        go_roundw
        case rel => exact ⟨j + 1, by omega, by go_num, rfl, hbel⟩
        case measure => (simp [intOf]; try omega)
      · obtain rfl : j = 2 := by omega
        go_wp2
        go_ret2
        exact ⟨rfl, hbel⟩
  · have hV : numAtV s a 2 = 0 := by unfold numAtV; exact if_neg (fun h' => h h'.2)
    have hB : numAtB s a 2 = false := decide_eq_false (fun h' => h h'.2)
    rw [hV, hB]
    by_cases h0 : a < 0
    · go_enter Tryd.func120, Tryd.ntmps120
      go_wp2
      go_ret2
      exact ⟨rfl, (Below.refl _ _).alloc (Nat.le_refl _) _⟩
    · have h1 : ((s.size : Int) - 2) < a := by omega
      clear h hV hB
      go_enter Tryd.func120, Tryd.ntmps120
      go_wp2
      go_ret2
      exact ⟨rfl, (Below.refl _ _).alloc (Nat.le_refl _) _⟩

set_option maxRecDepth 100000 in
set_option maxHeartbeats 1000000 in
theorem numberOf3_any (s : ByteArray) (a : Int) (w : World) (hs : s.size ≤ 100000000) :
    Calls Tryd.prog 121 #[.string s, .int .i64 a] w fun e w' => e = .returned (.tuple #[.int .i64 (numAtV s a 3), .bool (numAtB s a 3)]) ∧ Below w.heap.size w w' := by
  by_cases h : 0 ≤ a ∧ a ≤ (s.size : Int) - 3
  · have hV : numAtV s a 3 = numV (cutL s a.toNat 3) := by unfold numAtV; exact if_pos ⟨by decide, h⟩
    have hB : numAtB s a 3 = true := decide_eq_true ⟨by decide, h⟩
    rw [hV, hB]
    obtain ⟨k, rfl⟩ : ∃ k : Nat, a = k := ⟨a.toNat, by omega⟩
    have h1 : ¬ (((s.size : Int) - 3) < k) := by omega
    have h2 : k + 3 ≤ s.size := by omega
    rw [Int.toNat_natCast]
    clear h hV hB
    go_enter Tryd.func121, Tryd.ntmps121
    go_wp2
    go_loopw [7, 22] (fun nv iv wr => ∃ j : Nat, j ≤ 3 ∧ iv = .int .i64 j ∧ nv = .int .i64 (numV (cutL s k j)) ∧ Below w.heap.size w wr)
      (fun _ iv _ => 3 - (intOf iv).toNat)
    case atStart => exact ⟨0, Nat.zero_le _, rfl, rfl, (Below.refl _ _).alloc (Nat.le_refl _) _⟩
    case round =>
      obtain ⟨j, hj, rfl, rfl, hbel⟩ := hrel
      by_cases hlt : j < 3
      · have hlt2 : k + j < s.size := by omega
        have HN := Lib.hid (read_next s k j hlt2 (by omega))
        go_wp2
        rw [HN.out]
        go_roundw
        case rel => exact ⟨j + 1, by omega, by go_num, rfl, hbel⟩
        case measure => (simp [intOf]; try omega)
      · obtain rfl : j = 3 := by omega
        go_wp2
        go_ret2
        exact ⟨rfl, hbel⟩
  · have hV : numAtV s a 3 = 0 := by unfold numAtV; exact if_neg (fun h' => h h'.2)
    have hB : numAtB s a 3 = false := decide_eq_false (fun h' => h h'.2)
    rw [hV, hB]
    by_cases h0 : a < 0
    · go_enter Tryd.func121, Tryd.ntmps121
      go_wp2
      go_ret2
      exact ⟨rfl, (Below.refl _ _).alloc (Nat.le_refl _) _⟩
    · have h1 : ((s.size : Int) - 3) < a := by omega
      clear h hV hB
      go_enter Tryd.func121, Tryd.ntmps121
      go_wp2
      go_ret2
      exact ⟨rfl, (Below.refl _ _).alloc (Nat.le_refl _) _⟩

set_option maxRecDepth 100000 in
set_option maxHeartbeats 1000000 in
theorem numberOf4_any (s : ByteArray) (a : Int) (w : World) (hs : s.size ≤ 100000000) :
    Calls Tryd.prog 122 #[.string s, .int .i64 a] w fun e w' => e = .returned (.tuple #[.int .i64 (numAtV s a 4), .bool (numAtB s a 4)]) ∧ Below w.heap.size w w' := by
  by_cases h : 0 ≤ a ∧ a ≤ (s.size : Int) - 4
  · have hV : numAtV s a 4 = numV (cutL s a.toNat 4) := by unfold numAtV; exact if_pos ⟨by decide, h⟩
    have hB : numAtB s a 4 = true := decide_eq_true ⟨by decide, h⟩
    rw [hV, hB]
    obtain ⟨k, rfl⟩ : ∃ k : Nat, a = k := ⟨a.toNat, by omega⟩
    have h1 : ¬ (((s.size : Int) - 4) < k) := by omega
    have h2 : k + 4 ≤ s.size := by omega
    rw [Int.toNat_natCast]
    clear h hV hB
    go_enter Tryd.func122, Tryd.ntmps122
    go_wp2
    go_loopw [7, 22] (fun nv iv wr => ∃ j : Nat, j ≤ 4 ∧ iv = .int .i64 j ∧ nv = .int .i64 (numV (cutL s k j)) ∧ Below w.heap.size w wr)
      (fun _ iv _ => 4 - (intOf iv).toNat)
    case atStart => exact ⟨0, Nat.zero_le _, rfl, rfl, (Below.refl _ _).alloc (Nat.le_refl _) _⟩
    case round =>
      obtain ⟨j, hj, rfl, rfl, hbel⟩ := hrel
      by_cases hlt : j < 4
      · have hlt2 : k + j < s.size := by omega
        have HN := Lib.hid (read_next s k j hlt2 (by omega))
        go_wp2
        rw [HN.out]
        go_roundw
        case rel => exact ⟨j + 1, by omega, by go_num, rfl, hbel⟩
        case measure => (simp [intOf]; try omega)
      · obtain rfl : j = 4 := by omega
        go_wp2
        go_ret2
        exact ⟨rfl, hbel⟩
  · have hV : numAtV s a 4 = 0 := by unfold numAtV; exact if_neg (fun h' => h h'.2)
    have hB : numAtB s a 4 = false := decide_eq_false (fun h' => h h'.2)
    rw [hV, hB]
    by_cases h0 : a < 0
    · go_enter Tryd.func122, Tryd.ntmps122
      go_wp2
      go_ret2
      exact ⟨rfl, (Below.refl _ _).alloc (Nat.le_refl _) _⟩
    · have h1 : ((s.size : Int) - 4) < a := by omega
      clear h hV hB
      go_enter Tryd.func122, Tryd.ntmps122
      go_wp2
      go_ret2
      exact ⟨rfl, (Below.refl _ _).alloc (Nat.le_refl _) _⟩

set_option maxRecDepth 100000 in
set_option maxHeartbeats 1000000 in
theorem numberOf5_any (s : ByteArray) (a : Int) (w : World) (hs : s.size ≤ 100000000) :
    Calls Tryd.prog 123 #[.string s, .int .i64 a] w fun e w' => e = .returned (.tuple #[.int .i64 (numAtV s a 5), .bool (numAtB s a 5)]) ∧ Below w.heap.size w w' := by
  by_cases h : 0 ≤ a ∧ a ≤ (s.size : Int) - 5
  · have hV : numAtV s a 5 = numV (cutL s a.toNat 5) := by unfold numAtV; exact if_pos ⟨by decide, h⟩
    have hB : numAtB s a 5 = true := decide_eq_true ⟨by decide, h⟩
    rw [hV, hB]
    obtain ⟨k, rfl⟩ : ∃ k : Nat, a = k := ⟨a.toNat, by omega⟩
    have h1 : ¬ (((s.size : Int) - 5) < k) := by omega
    have h2 : k + 5 ≤ s.size := by omega
    rw [Int.toNat_natCast]
    clear h hV hB
    go_enter Tryd.func123, Tryd.ntmps123
    go_wp2
    go_loopw [7, 22] (fun nv iv wr => ∃ j : Nat, j ≤ 5 ∧ iv = .int .i64 j ∧ nv = .int .i64 (numV (cutL s k j)) ∧ Below w.heap.size w wr)
      (fun _ iv _ => 5 - (intOf iv).toNat)
    case atStart => exact ⟨0, Nat.zero_le _, rfl, rfl, (Below.refl _ _).alloc (Nat.le_refl _) _⟩
    case round =>
      obtain ⟨j, hj, rfl, rfl, hbel⟩ := hrel
      by_cases hlt : j < 5
      · have hlt2 : k + j < s.size := by omega
        have HN := Lib.hid (read_next s k j hlt2 (by omega))
        go_wp2
        rw [HN.out]
        go_roundw
        case rel => exact ⟨j + 1, by omega, by go_num, rfl, hbel⟩
        case measure => (simp [intOf]; try omega)
      · obtain rfl : j = 5 := by omega
        go_wp2
        go_ret2
        exact ⟨rfl, hbel⟩
  · have hV : numAtV s a 5 = 0 := by unfold numAtV; exact if_neg (fun h' => h h'.2)
    have hB : numAtB s a 5 = false := decide_eq_false (fun h' => h h'.2)
    rw [hV, hB]
    by_cases h0 : a < 0
    · go_enter Tryd.func123, Tryd.ntmps123
      go_wp2
      go_ret2
      exact ⟨rfl, (Below.refl _ _).alloc (Nat.le_refl _) _⟩
    · have h1 : ((s.size : Int) - 5) < a := by omega
      clear h hV hB
      go_enter Tryd.func123, Tryd.ntmps123
      go_wp2
      go_ret2
      exact ⟨rfl, (Below.refl _ _).alloc (Nat.le_refl _) _⟩

set_option maxRecDepth 100000 in
set_option maxHeartbeats 1000000 in
theorem numberOf6_any (s : ByteArray) (a : Int) (w : World) (hs : s.size ≤ 100000000) :
    Calls Tryd.prog 124 #[.string s, .int .i64 a] w fun e w' => e = .returned (.tuple #[.int .i64 (numAtV s a 6), .bool (numAtB s a 6)]) ∧ Below w.heap.size w w' := by
  by_cases h : 0 ≤ a ∧ a ≤ (s.size : Int) - 6
  · have hV : numAtV s a 6 = numV (cutL s a.toNat 6) := by unfold numAtV; exact if_pos ⟨by decide, h⟩
    have hB : numAtB s a 6 = true := decide_eq_true ⟨by decide, h⟩
    rw [hV, hB]
    obtain ⟨k, rfl⟩ : ∃ k : Nat, a = k := ⟨a.toNat, by omega⟩
    have h1 : ¬ (((s.size : Int) - 6) < k) := by omega
    have h2 : k + 6 ≤ s.size := by omega
    rw [Int.toNat_natCast]
    clear h hV hB
    go_enter Tryd.func124, Tryd.ntmps124
    go_wp2
    go_loopw [7, 22] (fun nv iv wr => ∃ j : Nat, j ≤ 6 ∧ iv = .int .i64 j ∧ nv = .int .i64 (numV (cutL s k j)) ∧ Below w.heap.size w wr)
      (fun _ iv _ => 6 - (intOf iv).toNat)
    case atStart => exact ⟨0, Nat.zero_le _, rfl, rfl, (Below.refl _ _).alloc (Nat.le_refl _) _⟩
    case round =>
      obtain ⟨j, hj, rfl, rfl, hbel⟩ := hrel
      by_cases hlt : j < 6
      · have hlt2 : k + j < s.size := by omega
        have HN := Lib.hid (read_next s k j hlt2 (by omega))
        go_wp2
        rw [HN.out]
        go_roundw
        case rel => exact ⟨j + 1, by omega, by go_num, rfl, hbel⟩
        case measure => (simp [intOf]; try omega)
      · obtain rfl : j = 6 := by omega
        go_wp2
        go_ret2
        exact ⟨rfl, hbel⟩
  · have hV : numAtV s a 6 = 0 := by unfold numAtV; exact if_neg (fun h' => h h'.2)
    have hB : numAtB s a 6 = false := decide_eq_false (fun h' => h h'.2)
    rw [hV, hB]
    by_cases h0 : a < 0
    · go_enter Tryd.func124, Tryd.ntmps124
      go_wp2
      go_ret2
      exact ⟨rfl, (Below.refl _ _).alloc (Nat.le_refl _) _⟩
    · have h1 : ((s.size : Int) - 6) < a := by omega
      clear h hV hB
      go_enter Tryd.func124, Tryd.ntmps124
      go_wp2
      go_ret2
      exact ⟨rfl, (Below.refl _ _).alloc (Nat.le_refl _) _⟩

set_option maxRecDepth 100000 in
set_option maxHeartbeats 1000000 in
theorem numberOf7_any (s : ByteArray) (a : Int) (w : World) (hs : s.size ≤ 100000000) :
    Calls Tryd.prog 125 #[.string s, .int .i64 a] w fun e w' => e = .returned (.tuple #[.int .i64 (numAtV s a 7), .bool (numAtB s a 7)]) ∧ Below w.heap.size w w' := by
  by_cases h : 0 ≤ a ∧ a ≤ (s.size : Int) - 7
  · have hV : numAtV s a 7 = numV (cutL s a.toNat 7) := by unfold numAtV; exact if_pos ⟨by decide, h⟩
    have hB : numAtB s a 7 = true := decide_eq_true ⟨by decide, h⟩
    rw [hV, hB]
    obtain ⟨k, rfl⟩ : ∃ k : Nat, a = k := ⟨a.toNat, by omega⟩
    have h1 : ¬ (((s.size : Int) - 7) < k) := by omega
    have h2 : k + 7 ≤ s.size := by omega
    rw [Int.toNat_natCast]
    clear h hV hB
    go_enter Tryd.func125, Tryd.ntmps125
    go_wp2
    go_loopw [7, 22] (fun nv iv wr => ∃ j : Nat, j ≤ 7 ∧ iv = .int .i64 j ∧ nv = .int .i64 (numV (cutL s k j)) ∧ Below w.heap.size w wr)
      (fun _ iv _ => 7 - (intOf iv).toNat)
    case atStart => exact ⟨0, Nat.zero_le _, rfl, rfl, (Below.refl _ _).alloc (Nat.le_refl _) _⟩
    case round =>
      obtain ⟨j, hj, rfl, rfl, hbel⟩ := hrel
      by_cases hlt : j < 7
      · have hlt2 : k + j < s.size := by omega
        have HN := Lib.hid (read_next s k j hlt2 (by omega))
        go_wp2
        rw [HN.out]
        go_roundw
        case rel => exact ⟨j + 1, by omega, by go_num, rfl, hbel⟩
        case measure => (simp [intOf]; try omega)
      · obtain rfl : j = 7 := by omega
        go_wp2
        go_ret2
        exact ⟨rfl, hbel⟩
  · have hV : numAtV s a 7 = 0 := by unfold numAtV; exact if_neg (fun h' => h h'.2)
    have hB : numAtB s a 7 = false := decide_eq_false (fun h' => h h'.2)
    rw [hV, hB]
    by_cases h0 : a < 0
    · go_enter Tryd.func125, Tryd.ntmps125
      go_wp2
      go_ret2
      exact ⟨rfl, (Below.refl _ _).alloc (Nat.le_refl _) _⟩
    · have h1 : ((s.size : Int) - 7) < a := by omega
      clear h hV hB
      go_enter Tryd.func125, Tryd.ntmps125
      go_wp2
      go_ret2
      exact ⟨rfl, (Below.refl _ _).alloc (Nat.le_refl _) _⟩

theorem numAt_out (s : ByteArray) (a k : Int) (h : ¬ (1 ≤ k ∧ k ≤ 7)) : numAtV s a k = 0 ∧ numAtB s a k = false := by
  refine ⟨?_, decide_eq_false fun h' => h h'.1⟩
  unfold numAtV
  exact if_neg fun h' => h h'.1

set_option maxRecDepth 100000 in
set_option maxHeartbeats 1000000 in
theorem implNumAt_any (s : ByteArray) (a k : Int) (w : World) (hs : s.size ≤ 100000000) :
    Calls Tryd.prog 70 #[.string s, .int .i64 a, .int .i64 k] w fun e w' => e = .returned (.tuple #[.int .i64 (numAtV s a k), .bool (numAtB s a k)]) ∧ Below w.heap.size w w' := by
  by_cases h : 1 ≤ k ∧ k ≤ 7
  · have hk : k = 1 ∨ k = 2 ∨ k = 3 ∨ k = 4 ∨ k = 5 ∨ k = 6 ∨ k = 7 := by omega
    clear h
    rcases hk with rfl | rfl | rfl | rfl | rfl | rfl | rfl
    · have R := Lib.hid (numberOf1_any s a w hs)
      generalize numAtV s a 1 = rv at R ⊢
      generalize numAtB s a 1 = rb at R ⊢
      go_enter Tryd.func70, Tryd.ntmps70
      go_wp2_with (go_at_call 119; refine R.out.mono ?_; rintro e w1 ⟨rfl, hb1⟩)
      go_ret2
      exact ⟨rfl, hb1⟩
    · have R := Lib.hid (numberOf2_any s a w hs)
      generalize numAtV s a 2 = rv at R ⊢
      generalize numAtB s a 2 = rb at R ⊢
      go_enter Tryd.func70, Tryd.ntmps70
      go_wp2_with (go_at_call 120; refine R.out.mono ?_; rintro e w1 ⟨rfl, hb1⟩)
      go_ret2
      exact ⟨rfl, hb1⟩
    · have R := Lib.hid (numberOf3_any s a w hs)
      generalize numAtV s a 3 = rv at R ⊢
      generalize numAtB s a 3 = rb at R ⊢
      go_enter Tryd.func70, Tryd.ntmps70
      go_wp2_with (go_at_call 121; refine R.out.mono ?_; rintro e w1 ⟨rfl, hb1⟩)
      go_ret2
      exact ⟨rfl, hb1⟩
    · have R := Lib.hid (numberOf4_any s a w hs)
      generalize numAtV s a 4 = rv at R ⊢
      generalize numAtB s a 4 = rb at R ⊢
      go_enter Tryd.func70, Tryd.ntmps70
      go_wp2_with (go_at_call 122; refine R.out.mono ?_; rintro e w1 ⟨rfl, hb1⟩)
      go_ret2
      exact ⟨rfl, hb1⟩
    · have R := Lib.hid (numberOf5_any s a w hs)
      generalize numAtV s a 5 = rv at R ⊢
      generalize numAtB s a 5 = rb at R ⊢
      go_enter Tryd.func70, Tryd.ntmps70
      go_wp2_with (go_at_call 123; refine R.out.mono ?_; rintro e w1 ⟨rfl, hb1⟩)
      go_ret2
      exact ⟨rfl, hb1⟩
    · have R := Lib.hid (numberOf6_any s a w hs)
      generalize numAtV s a 6 = rv at R ⊢
      generalize numAtB s a 6 = rb at R ⊢
      go_enter Tryd.func70, Tryd.ntmps70
      go_wp2_with (go_at_call 124; refine R.out.mono ?_; rintro e w1 ⟨rfl, hb1⟩)
      go_ret2
      exact ⟨rfl, hb1⟩
    · have R := Lib.hid (numberOf7_any s a w hs)
      generalize numAtV s a 7 = rv at R ⊢
      generalize numAtB s a 7 = rb at R ⊢
      go_enter Tryd.func70, Tryd.ntmps70
      go_wp2_with (go_at_call 125; refine R.out.mono ?_; rintro e w1 ⟨rfl, hb1⟩)
      go_ret2
      exact ⟨rfl, hb1⟩
  · obtain ⟨hV, hB⟩ := numAt_out s a k h
    rw [hV, hB]
    have n1 : ¬ k = 1 := by omega
    have n2 : ¬ k = 2 := by omega
    have n3 : ¬ k = 3 := by omega
    have n4 : ¬ k = 4 := by omega
    have n5 : ¬ k = 5 := by omega
    have n6 : ¬ k = 6 := by omega
    have n7 : ¬ k = 7 := by omega
    clear h hV hB
    go_enter Tryd.func70, Tryd.ntmps70
    go_wp2
    go_ret2
    exact ⟨rfl, Below.refl _ _⟩
end Go.Proofs.YtmkchilhnmkhkaaDoor
namespace Go.Proofs.YtmkchilhnmkhkaaDoor
open Go.RowKit

set_option maxRecDepth 100000 in
set_option maxHeartbeats 400000 in
theorem cloneText_any (s : ByteArray) (w : World) (hs : s.size ≤ 2000000) :
    Calls Tryd.prog 72 #[.string s] w fun e w' => e = .returned (.string s) ∧ Below w.heap.size w w' := by
  go_enter Tryd.func72, Tryd.ntmps72
  go_wp2_with (go_at_call 130; refine (Tryd.stringslite_Clone _ _ (by omega)).mono ?_; rintro e w1 ⟨rfl, hb1⟩)
  go_ret
  exact ⟨rfl, hb1⟩
end Go.Proofs.YtmkchilhnmkhkaaDoor
namespace Go.Proofs.YtmkchilhnmkhkaaDoor
open Go.RowKit Go.Proofs.YtmkchilhnmkhkaaDoor.Parts Go.Proofs.YtmkchilhnmkhkaaDoor.Hexa Go.Proofs.YtmkchilhnmkhkaaDoor.Byt

set_option maxRecDepth 100000 in
set_option maxHeartbeats 1000000 in
theorem implReadRec_len (s : ByteArray) (w : World) (_hs : s.size ≤ 2000000) (h : ¬ s.size = 8) :
    Calls Tryd.prog 47 #[.string s] w (SaysRec ⟨0, 0, ⟨#[]⟩⟩ false w) := by
  have R0 := Bk.alloc w #[.int .i64 0, .int .i64 0, .string ⟨#[]⟩] 66
  have B0 := Lib.hid (below_bk w (.cells #[.int .i64 0, .int .i64 0, .string ⟨#[]⟩] 66))
  have e8 : ((s.size : Int) == 8) = false := by simp; omega
  have e9 : ((s.size : Int) != 8) = true := by simp; omega
  clear R0
  go_enter Tryd.func47, Tryd.ntmps47
  go_wp2
  refine bodyPost_ret (v := .tuple #[.agg #[.int .i64 0, .int .i64 0, .string ⟨#[]⟩], .bool false]) ?_ rfl ⟨rfl, ?_⟩
  · simp [results, Tryd.results47, go_sem]
  · exact B0.out

set_option maxRecDepth 100000 in
set_option maxHeartbeats 1000000 in
theorem implReadRec_yes (s : ByteArray) (w : World) (h8 : s.size = 8) (h : RecOk (recOf s)) :
    Calls Tryd.prog 47 #[.string s] w (SaysRec (recOf s) true w) := by
  have R0 := Lib.hid (Bk.alloc w #[.int .i64 0, .int .i64 0, .string ⟨#[]⟩] 66)
  have B0 := Lib.hid (below_bk w (.cells #[.int .i64 0, .int .i64 0, .string ⟨#[]⟩] 66))
  have e8 : ((s.size : Int) == 8) = true := by simp; omega
  have e9 : ((s.size : Int) != 8) = false := by simp; omega
  have hs8 : s.size ≤ 8 := by omega
  have hs9 : 8 ≤ s.size := by omega
  have HB := Lib.hid (rec_back h8 h)
  have hex : s.extract 4 s.size = (recOf s).f2 := by rw [h8]; rfl
  obtain ⟨P, hP⟩ : ∃ P, numAtV s 0 1 = P := ⟨_, rfl⟩
  obtain ⟨Q, hQ⟩ : ∃ Q, numAtV s 1 3 = Q := ⟨_, rfl⟩
  obtain ⟨M, hM⟩ : ∃ M, s.extract 4 s.size = M := ⟨_, rfl⟩
  have hR : recOf s = ⟨P, Q, M⟩ := by rw [← hP, ← hQ, ← hM, hex]; rfl
  have hMs : M.size ≤ 8 := by rw [← hM, ByteArray.size_extract]; omega
  rw [hR] at HB ⊢
  have HP := Lib.hid hP
  have HQ := Lib.hid hQ
  have HM8 := Lib.hid hMs
  clear h8 h hex hP hQ hR hMs
  go_enter Tryd.func47, Tryd.ntmps47
  go_wp2_with fail
  refine (implNumAt_any s 0 1 _ (by omega)).mono ?_
  rw [HP.out]
  rintro e w1 ⟨rfl, hb⟩
  have R1 := Lib.hid (R0.out.later hb)
  have B1 : Hid (Below w.heap.size w w1) := Lib.hid (B0.out.trans (hb.mono B0.out.size))
  clear hb R0 B0
  go_wp2_with fail
  refine (implNumAt_any s 1 3 _ (by omega)).mono ?_
  rw [HQ.out]
  rintro e w2 ⟨rfl, hb⟩
  have R2 := Lib.hid (R1.out.later hb)
  have B2' : Hid (Below w.heap.size w w2) := Lib.hid (B1.out.trans (hb.mono B1.out.size))
  clear hb R1 B1
  go_wp2_with fail
  refine (cloneText_any M _ (by have := HM8.out; omega)).mono ?_
  rintro e w2x ⟨rfl, hb⟩
  have hba := below_bk w2x (.cells #[.int .i64 P, .int .i64 Q, .string M] 66)
  have R3 := Lib.hid ((R2.out.later hb).later hba)
  have B2 : Below w.heap.size w w2x := B2'.out.trans (hb.mono B2'.out.size)
  have B3 : Hid (Below w.heap.size w (w2x.alloc (.cells #[.int .i64 P, .int .i64 Q, .string M] 66))) := Lib.hid (B2.trans (hba.mono B2.size))
  have X3 := Lib.hid (Bk.alloc w2x #[.int .i64 P, .int .i64 Q, .string M] 66)
  clear hb hba B2 R2 B2'
  go_wp2_with fail
  refine (implRecWord_any P Q M _ (by have := HM8.out; omega)).mono ?_
  rw [HB.out]
  rintro e w4 ⟨rfl, hb⟩
  have R4 := Lib.hid (R3.out.later hb)
  have X4 := Lib.hid (X3.out.later hb)
  have B4 : Hid (Below w.heap.size w w4) := Lib.hid (B3.out.trans (hb.mono B3.out.size))
  clear hb R3 X3 B3
  have x0 := X4.out.cell (j := 0) rfl
  have x1 := X4.out.cell (j := 1) rfl
  have x2 := X4.out.cell (j := 2) rfl
  have r0 := R4.out.cell (j := 0) rfl
  have r1 := R4.out.cell (j := 1) rfl
  have r2 := R4.out.cell (j := 2) rfl
  have f0 := R4.out.fr (o := 0)
  have f1 := R4.out.fr (o := 1)
  have f2 := R4.out.fr (o := 2)
  have qf := ((R4.out.set 0 (.int .i64 P)).set 1 (.int .i64 Q)).set 2 (.string M)
  have q0 := qf.cell (j := 0) (v := .int .i64 P) rfl
  have q1 := qf.cell (j := 1) (v := .int .i64 Q) rfl
  have q2 := qf.cell (j := 2) (v := .string M) rfl
  clear qf
  go_wp2
  refine bodyPost_ret (v := .tuple #[.agg #[.int .i64 P, .int .i64 Q, .string M], .bool true]) ?_ rfl ⟨rfl, ?_⟩
  · simp [results, Tryd.results47, go_sem, q0, q1, q2]
  · exact ((B4.out.setCell (Nat.le_refl _) _).setCell (Nat.le_refl _) _).setCell (Nat.le_refl _) _
set_option maxRecDepth 100000 in
set_option maxHeartbeats 1000000 in
theorem implReadRec_no (s : ByteArray) (w : World) (h8 : s.size = 8) (h : ¬ RecOk (recOf s)) :
    Calls Tryd.prog 47 #[.string s] w (SaysRec (⟨0, 0, ⟨#[]⟩⟩) false w) := by
  have R0 := Lib.hid (Bk.alloc w #[.int .i64 0, .int .i64 0, .string ⟨#[]⟩] 66)
  have B0 := Lib.hid (below_bk w (.cells #[.int .i64 0, .int .i64 0, .string ⟨#[]⟩] 66))
  have e8 : ((s.size : Int) == 8) = true := by simp; omega
  have e9 : ((s.size : Int) != 8) = false := by simp; omega
  have hs8 : s.size ≤ 8 := by omega
  have hs9 : 8 ≤ s.size := by omega
  have HB := Lib.hid (recWordB_no h)
  have n1 := text_full s (by omega)
  have n2 := text_full' s (by omega)
  have hex : s.extract 4 s.size = (recOf s).f2 := by rw [h8]; rfl
  obtain ⟨P, hP⟩ : ∃ P, numAtV s 0 1 = P := ⟨_, rfl⟩
  obtain ⟨Q, hQ⟩ : ∃ Q, numAtV s 1 3 = Q := ⟨_, rfl⟩
  obtain ⟨M, hM⟩ : ∃ M, s.extract 4 s.size = M := ⟨_, rfl⟩
  have hR : recOf s = ⟨P, Q, M⟩ := by rw [← hP, ← hQ, ← hM, hex]; rfl
  have hMs : M.size ≤ 8 := by rw [← hM, ByteArray.size_extract]; omega
  rw [hR] at HB
  have HP := Lib.hid hP
  have HQ := Lib.hid hQ
  have HM8 := Lib.hid hMs
  clear h8 h hex hP hQ hR hMs
  go_enter Tryd.func47, Tryd.ntmps47
  go_wp2_with fail
  refine (implNumAt_any s 0 1 _ (by omega)).mono ?_
  rw [HP.out]
  rintro e w1 ⟨rfl, hb⟩
  have R1 := Lib.hid (R0.out.later hb)
  have B1 : Hid (Below w.heap.size w w1) := Lib.hid (B0.out.trans (hb.mono B0.out.size))
  clear hb R0 B0
  go_wp2_with fail
  refine (implNumAt_any s 1 3 _ (by omega)).mono ?_
  rw [HQ.out]
  rintro e w2 ⟨rfl, hb⟩
  have R2 := Lib.hid (R1.out.later hb)
  have B2' : Hid (Below w.heap.size w w2) := Lib.hid (B1.out.trans (hb.mono B1.out.size))
  clear hb R1 B1
  go_wp2_with fail
  refine (cloneText_any M _ (by have := HM8.out; omega)).mono ?_
  rintro e w2x ⟨rfl, hb⟩
  have hba := below_bk w2x (.cells #[.int .i64 P, .int .i64 Q, .string M] 66)
  have R3 := Lib.hid ((R2.out.later hb).later hba)
  have B2 : Below w.heap.size w w2x := B2'.out.trans (hb.mono B2'.out.size)
  have B3 : Hid (Below w.heap.size w (w2x.alloc (.cells #[.int .i64 P, .int .i64 Q, .string M] 66))) := Lib.hid (B2.trans (hba.mono B2.size))
  have X3 := Lib.hid (Bk.alloc w2x #[.int .i64 P, .int .i64 Q, .string M] 66)
  clear hb hba B2 R2 B2'
  go_wp2_with fail
  refine (implRecWord_any P Q M _ (by have := HM8.out; omega)).mono ?_
  rw [HB.out]
  rintro e w4 ⟨rfl, hb⟩
  have R4 := Lib.hid (R3.out.later hb)
  have X4 := Lib.hid (X3.out.later hb)
  have B4 : Hid (Below w.heap.size w w4) := Lib.hid (B3.out.trans (hb.mono B3.out.size))
  clear hb R3 X3 B3
  have x0 := X4.out.cell (j := 0) rfl
  have x1 := X4.out.cell (j := 1) rfl
  have x2 := X4.out.cell (j := 2) rfl
  have r0 := R4.out.cell (j := 0) rfl
  have r1 := R4.out.cell (j := 1) rfl
  have r2 := R4.out.cell (j := 2) rfl
  have f0 := R4.out.fr (o := 0)
  have f1 := R4.out.fr (o := 1)
  have f2 := R4.out.fr (o := 2)
  have qf := ((R4.out.set 0 (.int .i64 0)).set 1 (.int .i64 0)).set 2 (.string ⟨#[]⟩)
  have q0 := qf.cell (j := 0) (v := .int .i64 0) rfl
  have q1 := qf.cell (j := 1) (v := .int .i64 0) rfl
  have q2 := qf.cell (j := 2) (v := .string ⟨#[]⟩) rfl
  clear qf
  go_wp2
  refine bodyPost_ret (v := .tuple #[.agg #[.int .i64 0, .int .i64 0, .string ⟨#[]⟩], .bool false]) ?_ rfl ⟨rfl, ?_⟩
  · simp [results, Tryd.results47, go_sem, q0, q1, q2]
  · exact ((B4.out.setCell (Nat.le_refl _) _).setCell (Nat.le_refl _) _).setCell (Nat.le_refl _) _
theorem implReadRec_any (s : ByteArray) (w : World) (hs : s.size ≤ 2000000) :
    Calls Tryd.prog 47 #[.string s] w (SaysRec (recReadR s) (recReadB s) w) := by
  by_cases h : s.size = 8 ∧ RecOk (recOf s)
  · rw [show recReadR s = recOf s from if_pos h, show recReadB s = true from decide_eq_true h]
    exact implReadRec_yes s w h.1 h.2
  · rw [show recReadR s = ⟨0, 0, ⟨#[]⟩⟩ from if_neg h, show recReadB s = false from decide_eq_false h]
    by_cases h8 : s.size = 8
    · exact implReadRec_no s w h8 (fun e => h ⟨h8, e⟩)
    · exact implReadRec_len s w hs h8
end Go.Proofs.YtmkchilhnmkhkaaDoor
namespace Go.Proofs.YtmkchilhnmkhkaaDoor
open Go.RowKit Go.Proofs.YtmkchilhnmkhkaaDoor.Parts Go.Proofs.YtmkchilhnmkhkaaDoor.Hexa Go.Proofs.YtmkchilhnmkhkaaDoor.Byt

set_option maxRecDepth 100000 in
set_option maxHeartbeats 1000000 in
theorem implNameByte_any (n : Int) (w : World) :
    Calls Tryd.prog 139 #[.int .u8 n] w fun e w' => e = .returned (.bool (decide ((97 ≤ n ∧ n ≤ 122) ∨ (48 ≤ n ∧ n ≤ 57)))) ∧ w' = w := by
  by_cases h1 : 97 ≤ n <;> by_cases h2 : n ≤ 122 <;> by_cases h3 : 48 ≤ n <;> by_cases h4 : n ≤ 57
  all_goals
    go_enter Tryd.func139, Tryd.ntmps139
    go_wp2
    all_goals go_ret
    all_goals exact ⟨by simp [h1, h2, h3, h4], rfl⟩
theorem implNameByte_yes {b : UInt8} (w : World) (h : NameC b) :
    Calls Tryd.prog 139 #[.int .u8 (b.toNat : Int)] w fun e w' => e = .returned (.bool true) ∧ w' = w :=
  (implNameByte_any (b.toNat : Int) w).mono fun _ _ ⟨he, hw⟩ => ⟨by rw [he, decide_eq_true (by rcases h with h | h <;> omega)], hw⟩
theorem implNameByte_no {b : UInt8} (w : World) (h : ¬ NameC b) :
    Calls Tryd.prog 139 #[.int .u8 (b.toNat : Int)] w fun e w' => e = .returned (.bool false) ∧ w' = w :=
  (implNameByte_any (b.toNat : Int) w).mono fun _ _ ⟨he, hw⟩ => ⟨by rw [he, decide_eq_false (fun x => h (by rcases x with x | x; exact .inl (by omega); exact .inr (by omega)))], hw⟩

/-- Every byte of it may stand in a name. -/
def nameBytes (s : ByteArray) : Bool := decide (∀ b ∈ s.data.toList, NameC b)
theorem nameBytes_yes {s : ByteArray} (h : ∀ j (hj : j < s.size), NameC s[j]) : nameBytes s = true := decide_eq_true (fun b hb => by
  obtain ⟨j, hj, rfl⟩ := List.mem_iff_getElem.1 hb
  have hj' : j < s.size := by simpa using hj
  exact h j hj')
theorem nameBytes_no {s : ByteArray} (j : Nat) (hj : j < s.size) (h : ¬ NameC s[j]) : nameBytes s = false := decide_eq_false (fun h2 => h (h2 _ (by
  rw [show s[j] = s.data.toList[j]'(by simpa using hj) from rfl]
  exact List.getElem_mem _)))
theorem nameB_split (s : ByteArray) : nameB s = (decide (1 ≤ s.size ∧ s.size ≤ 7) && nameBytes s) := by
  unfold nameB nameBytes NameR
  by_cases h1 : 1 ≤ s.size ∧ s.size ≤ 7 <;> simp [h1]

set_option maxRecDepth 100000 in
set_option maxHeartbeats 1000000 in
theorem implNameBytes_any (s : ByteArray) (w : World) (hs : s.size ≤ 2000000) :
    Calls Tryd.prog 99 #[.string s] w fun e w' => e = .returned (.bool (nameBytes s)) ∧ w' = w := by
  go_enter Tryd.func99, Tryd.ntmps99
  go_wp2
  go_loop [6] (fun i => ∃ k : Nat, k ≤ s.size ∧ i = .int .i64 k ∧ Hid (∀ j (hj : j < s.size), j < k → NameC s[j])) (fun i => s.size - (intOf i).toNat)
  case atStart => exact ⟨0, Nat.zero_le _, rfl, Lib.hid (fun j hj h => by omega)⟩
  case round =>
    obtain ⟨k, hk, rfl, HA⟩ := hrel
    by_cases hlt : k < s.size
    · obtain ⟨b, hb⟩ : ∃ b, s[k]'hlt = b := ⟨_, rfl⟩
      have hb255 := b.toNat_lt
      have HB := Lib.hid hb
      by_cases h1 : NameC b
      · have HR := Lib.hid h1
        have HA2 : Hid (∀ j (hj : j < s.size), j < k + 1 → NameC s[j]) := Lib.hid (fun j hj h => by
          by_cases e : j = k
          · subst e; rw [HB.out]; exact HR.out
          · exact HA.out j hj (by omega))
        clear h1
        go_wp2_with ((with_reducible refine (implNameByte_yes _ HR.out).mono ?_); rintro e w1 ⟨rfl, rfl⟩)
        go_round
        case rel => exact ⟨k + 1, by omega, by go_num, HA2⟩
        case measure => (simp [intOf]; try omega)
      · have HR := Lib.hid h1
        have HN : Hid (nameBytes s = false) := Lib.hid (nameBytes_no k hlt (by rw [hb]; exact h1))
        clear h1
        go_wp2_with ((with_reducible refine (implNameByte_no _ HR.out).mono ?_); rintro e w1 ⟨rfl, rfl⟩)
        go_ret
        exact ⟨by rw [HN.out]; rfl, rfl⟩
    · obtain rfl : k = s.size := by omega
      have HN : Hid (nameBytes s = true) := Lib.hid (nameBytes_yes (fun j hj => HA.out j hj hj))
      go_wp2
      go_ret
      exact ⟨by rw [HN.out]; rfl, rfl⟩
set_option maxRecDepth 100000 in
set_option maxHeartbeats 1000000 in
theorem implName_any (s : ByteArray) (w : World) (hs : s.size ≤ 2000000) :
    Calls Tryd.prog 50 #[.string s] w fun e w' => e = .returned (.bool (nameB s)) ∧ w' = w := by
  by_cases hl : (1 : Int) ≤ (s.size : Int) ∧ (s.size : Int) ≤ 7
  · have HL := Lib.hid hl
    have HN : Hid (nameBytes s = nameB s) := Lib.hid (by rw [nameB_split, decide_eq_true (show 1 ≤ s.size ∧ s.size ≤ 7 by omega)]; rfl)
    clear hl
    go_enter Tryd.func50, Tryd.ntmps50
    go_wp2_with (first
      | ((with_reducible refine (implIn_yes _ HL.out).mono ?_); rintro e w1 ⟨rfl, rfl⟩)
      | ((with_reducible refine (implNameBytes_any s _ hs).mono ?_); rintro e w1 ⟨rfl, rfl⟩))
    go_ret
    exact ⟨by rw [HN.out]; rfl, rfl⟩
  · have HL := Lib.hid hl
    have HN : Hid (nameB s = false) := Lib.hid (nameB_no (fun h => hl (by have := h.1; omega)))
    clear hl
    go_enter Tryd.func50, Tryd.ntmps50
    go_wp2_with ((with_reducible refine (implIn_no _ HL.out).mono ?_); rintro e w1 ⟨rfl, rfl⟩)
    go_ret
    exact ⟨by rw [HN.out]; rfl, rfl⟩
end Go.Proofs.YtmkchilhnmkhkaaDoor
namespace Go.Proofs.YtmkchilhnmkhkaaDoor
open Go.RowKit Go.Proofs.YtmkchilhnmkhkaaDoor.Hexa Go.Proofs.YtmkchilhnmkhkaaDoor.Byt Go.Proofs.YtmkchilhnmkhkaaDoor.BitsM

theorem wordB_list (s : ByteArray) (h : s.size ≤ 8) : (⟨(s.data.toList ++ (partB [] 8).drop s.size).toArray⟩ : ByteArray) = wordB s := by
  have hE : wordB s = s ++ longB (8 - s.size) 0 := if_pos h
  rw [hE, partB_nil, List.drop_replicate]
  apply ByteArray.ext
  apply Array.toList_inj.1
  rw [ByteArray.data_append, Array.toList_append]
  rfl

set_option maxRecDepth 100000 in
set_option maxHeartbeats 1000000 in
theorem implWord_any (s : ByteArray) (w : World) :
    Calls Tryd.prog 90 #[.string s] w fun e w' => e = .returned (.string (wordB s)) ∧ Below w.heap.size w w' := by
  by_cases h : s.size ≤ 8
  · obtain ⟨i0, hi, hz0, hz1, hz2⟩ := info_parts infoByte
    have HE := Lib.hid (wordB_list s h)
    go_enter Tryd.func90, Tryd.ntmps90
    go_wp2_with (at_make; refine wpList_make_full _ rfl _ _ 22 rfl w.heap.size 5 i0 (.int .u8 0) 1 Tryd.underlying22 hi hz0 hz1 .i64 .i64 _ _ 8 rfl rfl rfl rfl (by rw [hz2]; omega) (by unfold maxLen; omega) (Nat.le_refl _) ?_; intro w0 hown0 hgrow0; have hg0 : Below w.heap.size w w0 := (Below.refl _ _).grown hgrow0 (Nat.le_refl _) (fun k h => by cases h); obtain ⟨w1, hrun, hb1, hg1⟩ := bytes_copy (P := Tryd.prog) (u := 9) (ty := 3) Tryd.underlying22 hi hz1 (partB_length [] 8 (by decide)) (part_start hown0) s h; have hconv := bytes_string (P := Tryd.prog) 22 9 Tryd.underlying22 Tryd.underlying5 Tryd.underlying9 hb1; rw [HE.out] at hconv; clear hown0 hgrow0 hb1)
    go_ret
    exact ⟨rfl, hg0.trans hg1⟩
  · have HE : Hid (wordB s = ⟨#[]⟩) := Lib.hid (if_neg h)
    have hlt : 8 < s.size := by omega
    go_enter Tryd.func90, Tryd.ntmps90
    go_wp2
    go_ret
    exact ⟨by rw [HE.out]; rfl, Below.refl _ _⟩
end Go.Proofs.YtmkchilhnmkhkaaDoor
namespace Go.Proofs.YtmkchilhnmkhkaaDoor
open Go.RowKit Go.Proofs.YtmkchilhnmkhkaaDoor.Parts Go.Proofs.YtmkchilhnmkhkaaDoor.Hexa Go.Proofs.YtmkchilhnmkhkaaDoor.Byt

set_option maxRecDepth 100000 in
set_option maxHeartbeats 1000000 in
theorem implEntryWord_no (p : Int) (m : ByteArray) (w : World) (hm : m.size ≤ 2000000) (h : ¬ EntryOk ⟨p, m⟩) :
    Calls Tryd.prog 49 #[.agg #[.int .i64 p, .string m]] w (SaysT ⟨#[]⟩ w) := by
  by_cases h0 : 1 ≤ p ∧ p ≤ 5
  · have H0 := Lib.hid h0
    have h2 : ¬ NameR m := fun e => h ⟨h0, e⟩
    have HN := Lib.hid (nameB_no h2)
    clear h0 h h2
    go_enter Tryd.func49, Tryd.ntmps49
    go_wp2_with (first | ((with_reducible refine (implIn_yes _ H0.out).mono ?_); rintro e w1 ⟨rfl, rfl⟩) | (go_at_call 50; refine (implName_any m _ hm).mono ?_; rw [HN.out]; rintro e w1 ⟨rfl, rfl⟩))
    go_ret
    exact ⟨rfl, below_bk w _⟩
  · have H0 := Lib.hid h0
    clear h0 h
    go_enter Tryd.func49, Tryd.ntmps49
    go_wp2_with ((with_reducible refine (implIn_no _ H0.out).mono ?_); rintro e w1 ⟨rfl, rfl⟩)
    go_ret
    exact ⟨rfl, below_bk w _⟩

set_option maxRecDepth 100000 in
set_option maxHeartbeats 1000000 in
theorem implEntryWord_yes (p : Int) (m : ByteArray) (w : World) (h : EntryOk ⟨p, m⟩) :
    Calls Tryd.prog 49 #[.agg #[.int .i64 p, .string m]] w (SaysT (entryWordB ⟨p, m⟩) w) := by
  have HE := Lib.hid (entryWordB_yes h)
  obtain ⟨h0, h1⟩ := h
  have H0 : Hid (1 ≤ p ∧ p ≤ 5) := Lib.hid h0
  have HN := Lib.hid (nameB_yes h1)
  have hm : m.size ≤ 7 := h1.1.2
  have T0 := Lib.hid (Bk.alloc w #[.int .i64 p, .string m] 47)
  have B0 := Lib.hid (below_bk w (.cells #[.int .i64 p, .string m] 47))
  have hA : (numTextB p 1).size = 1 := numText_size (k := 1) (by omega) (by have := H0.out.1; omega) (by have := H0.out.2; omega)
  obtain ⟨A, hAe⟩ : ∃ A, numTextB p 1 = A := ⟨_, rfl⟩
  have HA := Lib.hid hAe
  rw [hAe] at hA
  have hA1 : ¬ (9223372036854775807 < A.size + m.size) := by omega
  have T0d := Lib.hid T0.out.drew
  have B0d : Hid (Below w.heap.size w (w.alloc (.cells #[.int .i64 p, .string m] 47)).drew) := Lib.hid B0.out.drew
  clear h0 h1 hAe hA
  go_enter Tryd.func49, Tryd.ntmps49
  go_wp2_with (first | ((with_reducible refine (implIn_yes _ H0.out).mono ?_); rintro e w1 ⟨rfl, rfl⟩) | (go_at_call 50; refine (implName_any m _ (by omega)).mono ?_; rw [HN.out]; rintro e w1 ⟨rfl, rfl⟩))
  go_region_held3 (fun w' => w'.cell? ⟨w.heap.size, 0, none⟩ = some (.int .i64 p) ∧ w'.cell? ⟨w.heap.size, 1, none⟩ = some (.string m))
    (first
      | exact ⟨T0d.out.cell rfl, T0d.out.cell rfl⟩
      | exact ⟨T1.out.cell rfl, T1.out.cell rfl⟩
      | exact ⟨T2.out.cell rfl, T2.out.cell rfl⟩
      | go_keep)
    (first
      | (go_at_call 89; (with_reducible refine (implNum_any p 1 _ (by have := H0.out.2; omega)).mono ?_); rw [HA.out]; rintro e w1 ⟨rfl, hb⟩; have T1 := Lib.hid (T0d.out.later hb); have B1 : Hid (Below w.heap.size w w1) := Lib.hid (B0d.out.trans (hb.mono B0d.out.size)); clear hb)
      | (go_at_call 90; (with_reducible refine (implWord_any (A ++ m) _).mono ?_); rintro e w2 ⟨rfl, hb⟩; have T2 := Lib.hid (T1.out.later hb); have B2 : Hid (Below w.heap.size w w2) := Lib.hid (B1.out.trans (hb.mono B1.out.size)); clear hb))
  go_wp2
  go_ret
  exact ⟨by rw [HE.out, HA.out]; rfl, B2.out⟩
theorem implEntryWord_any (p : Int) (m : ByteArray) (w : World) (hm : m.size ≤ 2000000) :
    Calls Tryd.prog 49 #[.agg #[.int .i64 p, .string m]] w (SaysT (entryWordB ⟨p, m⟩) w) := by
  by_cases h : EntryOk ⟨p, m⟩
  · exact implEntryWord_yes p m w h
  · rw [entryWordB_no h]; exact implEntryWord_no p m w hm h

end Go.Proofs.YtmkchilhnmkhkaaDoor
namespace Go.Proofs.YtmkchilhnmkhkaaDoor
open Go.RowKit Go.Proofs.YtmkchilhnmkhkaaDoor.Parts Go.Proofs.YtmkchilhnmkhkaaDoor.Hexa Go.Proofs.YtmkchilhnmkhkaaDoor.Byt

/-- How many bytes are left without the last zeros. -/
def trimTo (l : List UInt8) : Nat → Nat
  | 0 => 0
  | k + 1 => if l.getD k 0 = 0 then trimTo l k else k + 1
def trimB (s : ByteArray) : ByteArray := s.extract 0 (trimTo s.data.toList s.size)
theorem trimTo_step (l : List UInt8) (k : Nat) (h : l.getD k 0 = 0) : trimTo l (k + 1) = trimTo l k := if_pos h
theorem trimTo_stop (l : List UInt8) (k : Nat) (h : ¬ l.getD k 0 = 0) : trimTo l (k + 1) = k + 1 := if_neg h
theorem trimTo_le (l : List UInt8) : ∀ k, trimTo l k ≤ k
  | 0 => Nat.le_refl _
  | k + 1 => by
    rw [trimTo]
    split
    · exact Nat.le_trans (trimTo_le l k) (Nat.le_succ _)
    · exact Nat.le_refl _
theorem extract_all (s : ByteArray) : s.extract 0 s.size = s := by
  apply ByteArray.ext
  simp
theorem extract_two (s : ByteArray) (k m : Nat) (h : m ≤ k) : (s.extract 0 k).extract 0 m = s.extract 0 m := by
  apply ByteArray.ext
  apply Array.toList_inj.1
  simp only [ByteArray.data_extract, Array.toList_extract, List.extract_eq_take_drop, List.drop_zero, Nat.sub_zero, List.take_take]
  rw [Nat.min_eq_left h]
theorem trimTo_same {l l' : List UInt8} : ∀ k, (∀ j, j < k → l.getD j 0 = l'.getD j 0) → trimTo l k = trimTo l' k
  | 0, _ => rfl
  | k + 1, h => by rw [trimTo, trimTo, h k (by omega), trimTo_same k (fun j hj => h j (by omega))]
theorem extract_getD (u : ByteArray) (m j : Nat) (hj : j < m) (hm : m ≤ u.size) : (u.extract 0 m).data.toList.getD j 0 = u.data.toList.getD j 0 := by
  have h2 : j < u.data.toList.length := by simp; omega
  simp only [ByteArray.data_extract, Array.toList_extract, List.extract_eq_take_drop, List.drop_zero, List.getD, Nat.sub_zero]
  rw [List.getElem?_take_of_lt hj]
theorem trim_step {u : ByteArray} {m : Nat} (hu : u.size = m + 1) (h0 : u.data.toList.getD m 0 = 0) : trimB (u.extract 0 m) = trimB u := by
  have hs : (u.extract 0 m).size = m := by rw [ByteArray.size_extract]; omega
  unfold trimB
  rw [hs, hu, trimTo_step _ _ h0, trimTo_same m (fun j hj => extract_getD u m j hj (by omega))]
  exact extract_two u m _ (trimTo_le _ _)
theorem trim_stop {u : ByteArray} {m : Nat} (hu : u.size = m + 1) (h0 : ¬ u.data.toList.getD m 0 = 0) : trimB u = u := by
  unfold trimB
  rw [hu, trimTo_stop _ _ h0, ← hu]
  exact extract_all u
theorem trim_none {u : ByteArray} (hu : u.size = 0) : trimB u = u := by
  unfold trimB
  have h := trimTo_le u.data.toList u.size
  have e : trimTo u.data.toList u.size = u.size := by omega
  rw [e]
  exact extract_all u
theorem getD_byte (s : ByteArray) (j : Nat) (hj : j < s.size) : s.data.toList.getD j 0 = s[j] := by
  have hj' : j < s.data.toList.length := by simpa using hj
  simp only [List.getD, List.getElem?_eq_getElem hj', Option.getD_some]
  rfl
def txtLen : Value → Nat
  | .string s => s.size
  | _ => 0

set_option maxRecDepth 100000 in
set_option maxHeartbeats 1000000 in
theorem trimByte_any (s : ByteArray) (w : World) (hs : s.size ≤ 2000000) :
    Calls Tryd.prog 126 #[.string s, .int .u8 0] w fun e w' => e = .returned (.string (trimB s)) ∧ w' = w := by
  go_enter Tryd.func126, Tryd.ntmps126
  go_wp2
  go_loop [0] (fun v => ∃ u : ByteArray, u.size ≤ 2000000 ∧ v = .string u ∧ Hid (trimB u = trimB s)) (fun v => txtLen v)
  case atStart => exact ⟨s, hs, rfl, Lib.hid rfl⟩
  case round =>
    obtain ⟨u, hu, rfl, HT⟩ := hrel
    by_cases h0 : u.size = 0
    · have HN : Hid (trimB u = u) := Lib.hid (trim_none h0)
      have hn : decide ((0 : Int) < (u.size : Int)) = false := decide_eq_false (by omega)
      go_wp2
      go_ret
      exact ⟨by rw [← HT.out, HN.out]; rfl, rfl⟩
    · obtain ⟨m, hm⟩ : ∃ m, u.size = m + 1 := ⟨u.size - 1, by omega⟩
      have hml : m < u.size := by omega
      obtain ⟨b, hb⟩ : ∃ b, u[m]'hml = b := ⟨_, rfl⟩
      have HB : Hid (u.data.toList.getD m 0 = b) := Lib.hid (by rw [getD_byte u m hml]; exact hb)
      have HM := Lib.hid hm
      have hpos : (0 : Int) < (u.size : Int) := by omega
      have hum : (u.size : Int) - 1 = (m : Int) := by omega
      have hm2 : m ≤ 2000000 := by omega
      have hb255 := b.toNat_lt
      clear hm h0
      by_cases h1 : b = 0
      · subst h1
        have HS : Hid (trimB (u.extract 0 m) = trimB s) := Lib.hid (by rw [trim_step HM.out HB.out, HT.out])
        have hs2 : (u.extract 0 m).size ≤ 2000000 := by rw [ByteArray.size_extract]; omega
        have HM2 : Hid ((u.extract 0 m).size < u.size) := Lib.hid (by rw [ByteArray.size_extract]; omega)
        go_wp2
        go_round
        case rel => exact ⟨_, hs2, rfl, HS⟩
        case measure => exact HM2.out
      · have HN : Hid (trimB u = u) := Lib.hid (trim_stop HM.out (by rw [HB.out]; exact h1))
        have hbt : ¬ b.toNat = 0 := fun e => h1 (UInt8.toNat_inj.1 (by rw [e]; rfl))
        have e1 : ((b.toNat : Int) == 0) = false := by simp; omega
        clear h1 hbt
        go_wp2
        go_ret
        exact ⟨by rw [← HT.out, HN.out]; rfl, rfl⟩

set_option maxRecDepth 100000 in
set_option maxHeartbeats 1000000 in
theorem trimRight_any (s : ByteArray) (w : World) (hs : s.size ≤ 2000000) :
    Calls Tryd.prog 71 #[.string s, .string ⟨#[0]⟩] w fun e w' => e = .returned (.string (trimB s)) ∧ w' = w := by
  by_cases h0 : s.size = 0
  · obtain rfl := text_nothing h0
    go_enter Tryd.func71, Tryd.ntmps71
    go_wp2
    go_ret
    exact ⟨rfl, rfl⟩
  · have e4 : (s.toList == []) = false := text_full s (by omega)
    have HC := Lib.hid (fun w => trimByte_any s w hs)
    clear h0
    go_enter Tryd.func71, Tryd.ntmps71
    go_wp2_with fail
    refine (HC.out _).mono ?_
    rintro e w1 ⟨rfl, rfl⟩
    go_wp2
    go_ret
    exact ⟨rfl, rfl⟩
end Go.Proofs.YtmkchilhnmkhkaaDoor
