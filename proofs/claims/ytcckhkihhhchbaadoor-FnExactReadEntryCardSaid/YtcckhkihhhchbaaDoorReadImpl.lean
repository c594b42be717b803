/- The program's NumAt: the generic reader at its seven widths. -/
import Derived.Test.YtcckhkihhhchbaaDoorNumMath
import Derived.Test.YtcckhkihhhchbaaDoorBitsMath
import Derived.WalkKit
import Derived.WalkSpells
import Derived.WalkLawsBesides
import Derived.Deep.RegionLaw
import Derived.Lib.Hide
namespace Go.Proofs.YtcckhkihhhchbaaDoor
open Go.RowKit Go.Proofs.YtcckhkihhhchbaaDoor.Hexa Go.Proofs.YtcckhkihhhchbaaDoor.Byt Go.Proofs.YtcckhkihhhchbaaDoor.BitsM

theorem num_step (V : Nat) (b : UInt8) (hV : V < 281474976710656) : bits .or .i64 (RowKit.wrap64 ((V : Int) * 256)) (RowKit.wrap64 (b.toNat : Int)) = ((256 * V + b.toNat : Nat) : Int) := by
  have hb := b.toNat_lt
  have e1 : RowKit.wrap64 ((V : Int) * 256) = ((256 * V : Nat) : Int) := by unfold RowKit.wrap64; omega
  have e2 : RowKit.wrap64 (b.toNat : Int) = (b.toNat : Int) := by unfold RowKit.wrap64; omega
  rw [e1, e2, or64 _ _ (by omega) (by omega)]
  have h := Nat.two_pow_add_eq_or_of_lt (i := 8) (b := b.toNat) (by omega) V
  rw [show (2 : Nat) ^ 8 = 256 by decide] at h
  rw [h]
theorem read_next (s : ByteArray) (a j : Nat) (h : a + j < s.size) (hj : j ≤ 6) : bits .or .i64 (RowKit.wrap64 ((numV (cutL s a j) : Int) * 256)) (RowKit.wrap64 ((s[a + j]'h).toNat : Int)) = (numV (cutL s a (j + 1)) : Int) := by
  have h1 := numV_lt (cutL s a j)
  rw [cutL_length s a j (by omega)] at h1
  have h2 : numV (cutL s a j) < 281474976710656 := Nat.lt_of_lt_of_le h1 (Nat.le_trans (Nat.pow_le_pow_right (by omega) hj) (by decide))
  rw [num_step _ _ h2, ← cutL_next s a j h, numV_snoc]

set_option maxRecDepth 100000 in
set_option maxHeartbeats 1000000 in
theorem numberOf1_any (s : ByteArray) (a : Int) (w : World) (hs : s.size ≤ 100000000) :
    Calls Tryd.prog 80 #[.string s, .int .i64 a] w fun e w' => e = .returned (.tuple #[.int .i64 (numAtV s a 1), .bool (numAtB s a 1)]) ∧ Below w.heap.size w w' := by
  by_cases h : 0 ≤ a ∧ a ≤ (s.size : Int) - 1
  · have hV : numAtV s a 1 = numV (cutL s a.toNat 1) := by unfold numAtV; exact if_pos ⟨by decide, h⟩
    have hB : numAtB s a 1 = true := decide_eq_true ⟨by decide, h⟩
    rw [hV, hB]
    obtain ⟨k, rfl⟩ : ∃ k : Nat, a = k := ⟨a.toNat, by omega⟩
    have h1 : ¬ (((s.size : Int) - 1) < k) := by omega
    have h2 : k + 1 ≤ s.size := by omega
    rw [Int.toNat_natCast]
    clear h hV hB
    go_enter Tryd.func80, Tryd.ntmps80
    go_wp2
    go_loopw [7, 22] (fun nv iv wr => ∃ j : Nat, j ≤ 1 ∧ iv = .int .i64 j ∧ nv = .int .i64 (numV (cutL s k j)) ∧ Below w.heap.size w wr)
      (fun _ iv _ => 1 - (intOf iv).toNat)
    case atStart => exact ⟨0, Nat.zero_le _, rfl, rfl, (Below.refl _ _).alloc (Nat.le_refl _) _⟩
    case round =>
      obtain ⟨j, hj, rfl, rfl, hbel⟩ := hrel
      by_cases hlt : j < 1
      · have hlt2 : k + j < s.size := by omega
        have HN := Lib.hid (read_next s k j hlt2 (by omega))
        go_wp2
        rw [HN.out]
        go_roundw
        case rel => exact ⟨j + 1, by omega, by go_num, rfl, hbel⟩
        case measure => (simp [intOf]; try omega)
      · obtain rfl : j = 1 := by omega
        go_wp2
        go_ret2
        exact ⟨rfl, hbel⟩
  · have hV : numAtV s a 1 = 0 := by unfold numAtV; exact if_neg (fun h' => h h'.2)
    have hB : numAtB s a 1 = false := decide_eq_false (fun h' => h h'.2)
    rw [hV, hB]
    by_cases h0 : a < 0
    · go_enter Tryd.func80, Tryd.ntmps80
      go_wp2
      go_ret2
      exact ⟨rfl, (Below.refl _ _).alloc (Nat.le_refl _) _⟩
    · have h1 : ((s.size : Int) - 1) < a := by omega
      clear h hV hB
      go_enter Tryd.func80, Tryd.ntmps80
      go_wp2
      go_ret2
      exact ⟨rfl, (Below.refl _ _).alloc (Nat.le_refl _) _⟩

set_option maxRecDepth 100000 in
set_option maxHeartbeats 1000000 in
theorem numberOf2_any (s : ByteArray) (a : Int) (w : World) (hs : s.size ≤ 100000000) :
    Calls Tryd.prog 81 #[.string s, .int .i64 a] w fun e w' => e = .returned (.tuple #[.int .i64 (numAtV s a 2), .bool (numAtB s a 2)]) ∧ Below w.heap.size w w' := by
  by_cases h : 0 ≤ a ∧ a ≤ (s.size : Int) - 2
  · have hV : numAtV s a 2 = numV (cutL s a.toNat 2) := by unfold numAtV; exact if_pos ⟨by decide, h⟩
    have hB : numAtB s a 2 = true := decide_eq_true ⟨by decide, h⟩
    rw [hV, hB]
    obtain ⟨k, rfl⟩ : ∃ k : Nat, a = k := ⟨a.toNat, by omega⟩
    have h1 : ¬ (((s.size : Int) - 2) < k) := by omega
    have h2 : k + 2 ≤ s.size := by omega
    rw [Int.toNat_natCast]
    clear h hV hB
    go_enter Tryd.func81, Tryd.ntmps81
    go_wp2
    go_loopw [7, 22] (fun nv iv wr => ∃ j : Nat, j ≤ 2 ∧ iv = .int .i64 j ∧ nv = .int .i64 (numV (cutL s k j)) ∧ Below w.heap.size w wr)
      (fun _ iv _ => 2 - (intOf iv).toNat)
    case atStart => exact ⟨0, Nat.zero_le _, rfl, rfl, (Below.refl _ _).alloc (Nat.le_refl _) _⟩
    case round =>
      obtain ⟨j, hj, rfl, rfl, hbel⟩ := hrel
      by_cases hlt : j < 2
      · have hlt2 : k + j < s.size := by omega
        have HN := Lib.hid (read_next s k j hlt2 (by omega))
        go_wp2
        rw [HN.out]
        go_roundw
        case rel => exact ⟨j + 1, by omega, by go_num, rfl, hbel⟩
        case measure => (simp [intOf]; try omega)
      · obtain rfl : j = 2 := by omega
        go_wp2
        go_ret2
        exact ⟨rfl, hbel⟩
  · have hV : numAtV s a 2 = 0 := by unfold numAtV; exact if_neg (fun h' => h h'.2)
    have hB : numAtB s a 2 = false := decide_eq_false (fun h' => h h'.2)
    rw [hV, hB]
    by_cases h0 : a < 0
    · go_enter Tryd.func81, Tryd.ntmps81
      go_wp2
      go_ret2
      exact ⟨rfl, (Below.refl _ _).alloc (Nat.le_refl _) _⟩
    · have h1 : ((s.size : Int) - 2) < a := by omega
      clear h hV hB
      go_enter Tryd.func81, Tryd.ntmps81
      go_wp2
      go_ret2
      exact ⟨rfl, (Below.refl _ _).alloc (Nat.le_refl _) _⟩

set_option maxRecDepth 100000 in
set_option maxHeartbeats 1000000 in
theorem numberOf3_any (s : ByteArray) (a : Int) (w : World) (hs : s.size ≤ 100000000) :
    Calls Tryd.prog 82 #[.string s, .int .i64 a] w fun e w' => e = .returned (.tuple #[.int .i64 (numAtV s a 3), .bool (numAtB s a 3)]) ∧ Below w.heap.size w w' := by
  by_cases h : 0 ≤ a ∧ a ≤ (s.size : Int) - 3
  · have hV : numAtV s a 3 = numV (cutL s a.toNat 3) := by unfold numAtV; exact if_pos ⟨by decide, h⟩
    have hB : numAtB s a 3 = true := decide_eq_true ⟨by decide, h⟩
    rw [hV, hB]
    obtain ⟨k, rfl⟩ : ∃ k : Nat, a = k := ⟨a.toNat, by omega⟩
    have h1 : ¬ (((s.size : Int) - 3) < k) := by omega
    have h2 : k + 3 ≤ s.size := by omega
    rw [Int.toNat_natCast]
    clear h hV hB
    go_enter Tryd.func82, Tryd.ntmps82
    go_wp2
    go_loopw [7, 22] (fun nv iv wr => ∃ j : Nat, j ≤ 3 ∧ iv = .int .i64 j ∧ nv = .int .i64 (numV (cutL s k j)) ∧ Below w.heap.size w wr)
      (fun _ iv _ => 3 - (intOf iv).toNat)
    case atStart => exact ⟨0, Nat.zero_le _, rfl, rfl, (Below.refl _ _).alloc (Nat.le_refl _) _⟩
    case round =>
      obtain ⟨j, hj, rfl, rfl, hbel⟩ := hrel
      by_cases hlt : j < 3
      · have hlt2 : k + j < s.size := by omega
        have HN := Lib.hid (read_next s k j hlt2 (by omega))
        go_wp2
        rw [HN.out]
        go_roundw
        case rel => exact ⟨j + 1, by omega, by go_num, rfl, hbel⟩
        case measure => (simp [intOf]; try omega)
      · obtain rfl : j = 3 := by omega
        go_wp2
        go_ret2
        exact ⟨rfl, hbel⟩
  · have hV : numAtV s a 3 = 0 := by unfold numAtV; exact if_neg (fun h' => h h'.2)
    have hB : numAtB s a 3 = false := decide_eq_false (fun h' => h h'.2)
    rw [hV, hB]
    by_cases h0 : a < 0
    · go_enter Tryd.func82, Tryd.ntmps82
      go_wp2
      go_ret2
      exact ⟨rfl, (Below.refl _ _).alloc (Nat.le_refl _) _⟩
    · have h1 : ((s.size : Int) - 3) < a := by omega
      clear h hV hB
      go_enter Tryd.func82, Tryd.ntmps82
      go_wp2
      go_ret2
      exact ⟨rfl, (Below.refl _ _).alloc (Nat.le_refl _) _⟩

set_option maxRecDepth 100000 in
set_option maxHeartbeats 1000000 in
theorem numberOf4_any (s : ByteArray) (a : Int) (w : World) (hs : s.size ≤ 100000000) :
    Calls Tryd.prog 83 #[.string s, .int .i64 a] w fun e w' => e = .returned (.tuple #[.int .i64 (numAtV s a 4), .bool (numAtB s a 4)]) ∧ Below w.heap.size w w' := by
  by_cases h : 0 ≤ a ∧ a ≤ (s.size : Int) - 4
  · have hV : numAtV s a 4 = numV (cutL s a.toNat 4) := by unfold numAtV; exact if_pos ⟨by decide, h⟩
    have hB : numAtB s a 4 = true := decide_eq_true ⟨by decide, h⟩
    rw [hV, hB]
    obtain ⟨k, rfl⟩ : ∃ k : Nat, a = k := ⟨a.toNat, by omega⟩
    have h1 : ¬ (((s.size : Int) - 4) < k) := by omega
    have h2 : k + 4 ≤ s.size := by omega
    rw [Int.toNat_natCast]
    clear h hV hB
    go_enter Tryd.func83, Tryd.ntmps83
    go_wp2
    go_loopw [7, 22] (fun nv iv wr => ∃ j : Nat, j ≤ 4 ∧ iv = .int .i64 j ∧ nv = .int .i64 (numV (cutL s k j)) ∧ Below w.heap.size w wr)
      (fun _ iv _ => 4 - (intOf iv).toNat)
    case atStart => exact ⟨0, Nat.zero_le _, rfl, rfl, (Below.refl _ _).alloc (Nat.le_refl _) _⟩
    case round =>
      obtain ⟨j, hj, rfl, rfl, hbel⟩ := hrel
      by_cases hlt : j < 4
      · have hlt2 : k + j < s.size := by omega
        have HN := Lib.hid (read_next s k j hlt2 (by omega))
        go_wp2
        rw [HN.out]
        go_roundw
        case rel => exact ⟨j + 1, by omega, by go_num, rfl, hbel⟩
        case measure => (simp [intOf]; try omega)
      · obtain rfl : j = 4 := by omega
        go_wp2
        go_ret2
        exact ⟨rfl, hbel⟩
  · have hV : numAtV s a 4 = 0 := by unfold numAtV; exact if_neg (fun h' => h h'.2)
    have hB : numAtB s a 4 = false := decide_eq_false (fun h' => h h'.2)
    rw [hV, hB]
    by_cases h0 : a < 0
    · go_enter Tryd.func83, Tryd.ntmps83
      go_wp2
      go_ret2
      exact ⟨rfl, (Below.refl _ _).alloc (Nat.le_refl _) _⟩
    · have h1 : ((s.size : Int) - 4) < a := by omega
      clear h hV hB
      go_enter Tryd.func83, Tryd.ntmps83
      go_wp2
      go_ret2
      exact ⟨rfl, (Below.refl _ _).alloc (Nat.le_refl _) _⟩

set_option maxRecDepth 100000 in
set_option maxHeartbeats 1000000 in
theorem numberOf5_any (s : ByteArray) (a : Int) (w : World) (hs : s.size ≤ 100000000) :
    Calls Tryd.prog 84 #[.string s, .int .i64 a] w fun e w' => e = .returned (.tuple #[.int .i64 (numAtV s a 5), .bool (numAtB s a 5)]) ∧ Below w.heap.size w w' := by
  by_cases h : 0 ≤ a ∧ a ≤ (s.size : Int) - 5
  · have hV : numAtV s a 5 = numV (cutL s a.toNat 5) := by unfold numAtV; exact if_pos ⟨by decide, h⟩
    have hB : numAtB s a 5 = true := decide_eq_true ⟨by decide, h⟩
    rw [hV, hB]
    obtain ⟨k, rfl⟩ : ∃ k : Nat, a = k := ⟨a.toNat, by omega⟩
    have h1 : ¬ (((s.size : Int) - 5) < k) := by omega
    have h2 : k + 5 ≤ s.size := by omega
    rw [Int.toNat_natCast]
    clear h hV hB
    go_enter Tryd.func84, Tryd.ntmps84
    go_wp2
    go_loopw [7, 22] (fun nv iv wr => ∃ j : Nat, j ≤ 5 ∧ iv = .int .i64 j ∧ nv = .int .i64 (numV (cutL s k j)) ∧ Below w.heap.size w wr)
      (fun _ iv _ => 5 - (intOf iv).toNat)
    case atStart => exact ⟨0, Nat.zero_le _, rfl, rfl, (Below.refl _ _).alloc (Nat.le_refl _) _⟩
    case round =>
      obtain ⟨j, hj, rfl, rfl, hbel⟩ := hrel
      by_cases hlt : j < 5
      · have hlt2 : k + j < s.size := by omega
        have HN := Lib.hid (read_next s k j hlt2 (by omega))
        go_wp2
        rw [HN.out]
        go_roundw
        case rel => exact ⟨j + 1, by omega, by go_num, rfl, hbel⟩
        case measure => (simp [intOf]; try omega)
      · obtain rfl : j = 5 := by omega
        go_wp2
        go_ret2
        exact ⟨rfl, hbel⟩
  · have hV : numAtV s a 5 = 0 := by unfold numAtV; exact if_neg (fun h' => h h'.2)
    have hB : numAtB s a 5 = false := decide_eq_false (fun h' => h h'.2)
    rw [hV, hB]
    by_cases h0 : a < 0
    · go_enter Tryd.func84, Tryd.ntmps84
      go_wp2
      go_ret2
      exact ⟨rfl, (Below.refl _ _).alloc (Nat.le_refl _) _⟩
    · have h1 : ((s.size : Int) - 5) < a := by omega
      clear h hV hB
      go_enter Tryd.func84, Tryd.ntmps84
      go_wp2
      go_ret2
      exact ⟨rfl, (Below.refl _ _).alloc (Nat.le_refl _) _⟩

set_option maxRecDepth 100000 in
set_option maxHeartbeats 1000000 in
theorem numberOf6_any (s : ByteArray) (a : Int) (w : World) (hs : s.size ≤ 100000000) :
    Calls Tryd.prog 85 #[.string s, .int .i64 a] w fun e w' => e = .returned (.tuple #[.int .i64 (numAtV s a 6), .bool (numAtB s a 6)]) ∧ Below w.heap.size w w' := by
  by_cases h : 0 ≤ a ∧ a ≤ (s.size : Int) - 6
  · have hV : numAtV s a 6 = numV (cutL s a.toNat 6) := by unfold numAtV; exact if_pos ⟨by decide, h⟩
    have hB : numAtB s a 6 = true := decide_eq_true ⟨by decide, h⟩
    rw [hV, hB]
    obtain ⟨k, rfl⟩ : ∃ k : Nat, a = k := ⟨a.toNat, by omega⟩
    have h1 : ¬ (((s.size : Int) - 6) < k) := by omega
    have h2 : k + 6 ≤ s.size := by omega
    rw [Int.toNat_natCast]
    clear h hV hB
    go_enter Tryd.func85, Tryd.ntmps85
    go_wp2
    go_loopw [7, 22] (fun nv iv wr => ∃ j : Nat, j ≤ 6 ∧ iv = .int .i64 j ∧ nv = .int .i64 (numV (cutL s k j)) ∧ Below w.heap.size w wr)
      (fun _ iv _ => 6 - (intOf iv).toNat)
    case atStart => exact ⟨0, Nat.zero_le _, rfl, rfl, (Below.refl _ _).alloc (Nat.le_refl _) _⟩
    case round =>
      obtain ⟨j, hj, rfl, rfl, hbel⟩ := hrel
      by_cases hlt : j < 6
      · have hlt2 : k + j < s.size := by omega
        have HN := Lib.hid (read_next s k j hlt2 (by omega))
        go_wp2
        rw [HN.out]
        go_roundw
        case rel => exact ⟨j + 1, by omega, by go_num, rfl, hbel⟩
        case measure => (simp [intOf]; try omega)
      · obtain rfl : j = 6 := by omega
        go_wp2
        go_ret2
        exact ⟨rfl, hbel⟩
  · have hV : numAtV s a 6 = 0 := by unfold numAtV; exact if_neg (fun h' => h h'.2)
    have hB : numAtB s a 6 = false := decide_eq_false (fun h' => h h'.2)
    rw [hV, hB]
    by_cases h0 : a < 0
    · go_enter Tryd.func85, Tryd.ntmps85
      go_wp2
      go_ret2
      exact ⟨rfl, (Below.refl _ _).alloc (Nat.le_refl _) _⟩
    · have h1 : ((s.size : Int) - 6) < a := by omega
      clear h hV hB
      go_enter Tryd.func85, Tryd.ntmps85
      go_wp2
      go_ret2
      exact ⟨rfl, (Below.refl _ _).alloc (Nat.le_refl _) _⟩

set_option maxRecDepth 100000 in
set_option maxHeartbeats 1000000 in
theorem numberOf7_any (s : ByteArray) (a : Int) (w : World) (hs : s.size ≤ 100000000) :
    Calls Tryd.prog 86 #[.string s, .int .i64 a] w fun e w' => e = .returned (.tuple #[.int .i64 (numAtV s a 7), .bool (numAtB s a 7)]) ∧ Below w.heap.size w w' := by
  by_cases h : 0 ≤ a ∧ a ≤ (s.size : Int) - 7
  · have hV : numAtV s a 7 = numV (cutL s a.toNat 7) := by unfold numAtV; exact if_pos ⟨by decide, h⟩
    have hB : numAtB s a 7 = true := decide_eq_true ⟨by decide, h⟩
    rw [hV, hB]
    obtain ⟨k, rfl⟩ : ∃ k : Nat, a = k := ⟨a.toNat, by omega⟩
    have h1 : ¬ (((s.size : Int) - 7) < k) := by omega
    have h2 : k + 7 ≤ s.size := by omega
    rw [Int.toNat_natCast]
    clear h hV hB
    go_enter Tryd.func86, Tryd.ntmps86
    go_wp2
    go_loopw [7, 22] (fun nv iv wr => ∃ j : Nat, j ≤ 7 ∧ iv = .int .i64 j ∧ nv = .int .i64 (numV (cutL s k j)) ∧ Below w.heap.size w wr)
      (fun _ iv _ => 7 - (intOf iv).toNat)
    case atStart => exact ⟨0, Nat.zero_le _, rfl, rfl, (Below.refl _ _).alloc (Nat.le_refl _) _⟩
    case round =>
      obtain ⟨j, hj, rfl, rfl, hbel⟩ := hrel
      by_cases hlt : j < 7
      · have hlt2 : k + j < s.size := by omega
        have HN := Lib.hid (read_next s k j hlt2 (by omega))
        go_wp2
        rw [HN.out]
        go_roundw
        case rel => exact ⟨j + 1, by omega, by go_num, rfl, hbel⟩
        case measure => (simp [intOf]; try omega)
      · obtain rfl : j = 7 := by omega
        go_wp2
        go_ret2
        exact ⟨rfl, hbel⟩
  · have hV : numAtV s a 7 = 0 := by unfold numAtV; exact if_neg (fun h' => h h'.2)
    have hB : numAtB s a 7 = false := decide_eq_false (fun h' => h h'.2)
    rw [hV, hB]
    by_cases h0 : a < 0
    · go_enter Tryd.func86, Tryd.ntmps86
      go_wp2
      go_ret2
      exact ⟨rfl, (Below.refl _ _).alloc (Nat.le_refl _) _⟩
    · have h1 : ((s.size : Int) - 7) < a := by omega
      clear h hV hB
      go_enter Tryd.func86, Tryd.ntmps86
      go_wp2
      go_ret2
      exact ⟨rfl, (Below.refl _ _).alloc (Nat.le_refl _) _⟩

theorem numAt_out (s : ByteArray) (a k : Int) (h : ¬ (1 ≤ k ∧ k ≤ 7)) : numAtV s a k = 0 ∧ numAtB s a k = false := by
  refine ⟨?_, decide_eq_false fun h' => h h'.1⟩
  unfold numAtV
  exact if_neg fun h' => h h'.1

set_option maxRecDepth 100000 in
set_option maxHeartbeats 1000000 in
theorem implNumAt_any (s : ByteArray) (a k : Int) (w : World) (hs : s.size ≤ 100000000) :
    Calls Tryd.prog 52 #[.string s, .int .i64 a, .int .i64 k] w fun e w' => e = .returned (.tuple #[.int .i64 (numAtV s a k), .bool (numAtB s a k)]) ∧ Below w.heap.size w w' := by
  by_cases h : 1 ≤ k ∧ k ≤ 7
  · have hk : k = 1 ∨ k = 2 ∨ k = 3 ∨ k = 4 ∨ k = 5 ∨ k = 6 ∨ k = 7 := by omega
    clear h
    rcases hk with rfl | rfl | rfl | rfl | rfl | rfl | rfl
    · have R := Lib.hid (numberOf1_any s a w hs)
      generalize numAtV s a 1 = rv at R ⊢
      generalize numAtB s a 1 = rb at R ⊢
      go_enter Tryd.func52, Tryd.ntmps52
      go_wp2_with (go_at_call 80; refine R.out.mono ?_; rintro e w1 ⟨rfl, hb1⟩)
      go_ret2
      exact ⟨rfl, hb1⟩
    · have R := Lib.hid (numberOf2_any s a w hs)
      generalize numAtV s a 2 = rv at R ⊢
      generalize numAtB s a 2 = rb at R ⊢
      go_enter Tryd.func52, Tryd.ntmps52
      go_wp2_with (go_at_call 81; refine R.out.mono ?_; rintro e w1 ⟨rfl, hb1⟩)
      go_ret2
      exact ⟨rfl, hb1⟩
    · have R := Lib.hid (numberOf3_any s a w hs)
      generalize numAtV s a 3 = rv at R ⊢
      generalize numAtB s a 3 = rb at R ⊢
      go_enter Tryd.func52, Tryd.ntmps52
      go_wp2_with (go_at_call 82; refine R.out.mono ?_; rintro e w1 ⟨rfl, hb1⟩)
      go_ret2
      exact ⟨rfl, hb1⟩
    · have R := Lib.hid (numberOf4_any s a w hs)
      generalize numAtV s a 4 = rv at R ⊢
      generalize numAtB s a 4 = rb at R ⊢
      go_enter Tryd.func52, Tryd.ntmps52
      go_wp2_with (go_at_call 83; refine R.out.mono ?_; rintro e w1 ⟨rfl, hb1⟩)
      go_ret2
      exact ⟨rfl, hb1⟩
    · have R := Lib.hid (numberOf5_any s a w hs)
      generalize numAtV s a 5 = rv at R ⊢
      generalize numAtB s a 5 = rb at R ⊢
      go_enter Tryd.func52, Tryd.ntmps52
      go_wp2_with (go_at_call 84; refine R.out.mono ?_; rintro e w1 ⟨rfl, hb1⟩)
      go_ret2
      exact ⟨rfl, hb1⟩
    · have R := Lib.hid (numberOf6_any s a w hs)
      generalize numAtV s a 6 = rv at R ⊢
      generalize numAtB s a 6 = rb at R ⊢
      go_enter Tryd.func52, Tryd.ntmps52
      go_wp2_with (go_at_call 85; refine R.out.mono ?_; rintro e w1 ⟨rfl, hb1⟩)
      go_ret2
      exact ⟨rfl, hb1⟩
    · have R := Lib.hid (numberOf7_any s a w hs)
      generalize numAtV s a 7 = rv at R ⊢
      generalize numAtB s a 7 = rb at R ⊢
      go_enter Tryd.func52, Tryd.ntmps52
      go_wp2_with (go_at_call 86; refine R.out.mono ?_; rintro e w1 ⟨rfl, hb1⟩)
      go_ret2
      exact ⟨rfl, hb1⟩
  · obtain ⟨hV, hB⟩ := numAt_out s a k h
    rw [hV, hB]
    have n1 : ¬ k = 1 := by omega
    have n2 : ¬ k = 2 := by omega
    have n3 : ¬ k = 3 := by omega
    have n4 : ¬ k = 4 := by omega
    have n5 : ¬ k = 5 := by omega
    have n6 : ¬ k = 6 := by omega
    have n7 : ¬ k = 7 := by omega
    clear h hV hB
    go_enter Tryd.func52, Tryd.ntmps52
    go_wp2
    go_ret2
    exact ⟨rfl, Below.refl _ _⟩
end Go.Proofs.YtcckhkihhhchbaaDoor
