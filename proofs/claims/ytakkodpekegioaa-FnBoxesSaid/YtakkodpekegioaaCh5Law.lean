/- FnExactFieldDouble, FnExactFieldMul, FnExactFieldPow, FnExactFieldInverse, FnExactBoxOf: the laws' walks, over what the program's functions return. -/
import Derived.Test.YtakkodpekegioaaBoxSpec
import Derived.Below
namespace Go.Proofs.Ytakkodpekegioaa
open Go.RowKit Go.Proofs.Ytakkodpekegioaa.Fld

/-- What the functions say of every number. -/
def dblI (a : Int) : Int := if 0 ≤ a ∧ a ≤ 255 then (dbl a.toNat : Int) else 0
def mulI (a b : Int) : Int := if (0 ≤ a ∧ a ≤ 255) ∧ (0 ≤ b ∧ b ≤ 255) then (mul a.toNat b.toNat : Int) else 0
def powI (a n : Int) : Int := if (0 ≤ a ∧ a ≤ 255) ∧ (0 ≤ n ∧ n ≤ 1000) then (pow a.toNat n.toNat : Int) else 0
theorem below_same {e : Ending} {w w' : World} {v : Int} (h : e = .returned (.int .i64 v) ∧ w' = w) : e = .returned (.int .i64 v) ∧ Below w.heap.size w w' := ⟨h.1, by rw [h.2]; exact Below.refl _ _⟩
theorem specDouble_any (a : Int) (w : World) : Calls Try.prog 17 #[.int .i64 a] w fun e w' => e = .returned (.int .i64 (dblI a)) ∧ Below w.heap.size w w' := by
  by_cases h : 0 ≤ a ∧ a ≤ 255
  · have hE : dblI a = (dbl a.toNat : Int) := if_pos h
    obtain ⟨m, rfl⟩ : ∃ m : Nat, a = m := ⟨a.toNat, by omega⟩
    rw [hE, Int.toNat_natCast]
    exact (specDouble_yes m w (by omega)).mono fun _ _ h => below_same h
  · have hE : dblI a = 0 := if_neg h
    rw [hE]
    exact (specDouble_no a w h).mono fun _ _ h => below_same h
theorem specMul_any (a b : Int) (w : World) : Calls Try.prog 18 #[.int .i64 a, .int .i64 b] w fun e w' => e = .returned (.int .i64 (mulI a b)) ∧ Below w.heap.size w w' := by
  by_cases h : (0 ≤ a ∧ a ≤ 255) ∧ (0 ≤ b ∧ b ≤ 255)
  · have hE : mulI a b = (mul a.toNat b.toNat : Int) := if_pos h
    obtain ⟨m, rfl⟩ : ∃ m : Nat, a = m := ⟨a.toNat, by omega⟩
    obtain ⟨n, rfl⟩ : ∃ n : Nat, b = n := ⟨b.toNat, by omega⟩
    rw [hE, Int.toNat_natCast, Int.toNat_natCast]
    exact (specMul_yes m n w (by omega) (by omega)).mono fun _ _ h => below_same h
  · have hE : mulI a b = 0 := if_neg h
    rw [hE]
    exact (specMul_no a b w h).mono fun _ _ h => below_same h
theorem specPow_any (a b : Int) (w : World) : Calls Try.prog 19 #[.int .i64 a, .int .i64 b] w fun e w' => e = .returned (.int .i64 (powI a b)) ∧ Below w.heap.size w w' := by
  by_cases h : (0 ≤ a ∧ a ≤ 255) ∧ (0 ≤ b ∧ b ≤ 1000)
  · have hE : powI a b = (pow a.toNat b.toNat : Int) := if_pos h
    obtain ⟨m, rfl⟩ : ∃ m : Nat, a = m := ⟨a.toNat, by omega⟩
    obtain ⟨n, rfl⟩ : ∃ n : Nat, b = n := ⟨b.toNat, by omega⟩
    rw [hE, Int.toNat_natCast, Int.toNat_natCast]
    exact (specPow_yes m n w (by omega) (by omega)).mono fun _ _ h => below_same h
  · have hE : powI a b = 0 := if_neg h
    rw [hE]
    exact (specPow_no a b w h).mono fun _ _ h => below_same h

set_option maxHeartbeats 400000 in
theorem double_law_of (a : Int) (w : World)
    (h2 : ∀ w, Calls Try.prog 14 #[.int .i64 a] w fun e w' => e = .returned (.int .i64 (dblI a)) ∧ Below w.heap.size w w') :
    Calls Try.prog 5 #[.int .i64 a] w fun e w' => e = .returned (.bool true) ∧ Below w.heap.size w w' := by
  have k1 := Lib.hid fun w => specDouble_any a w
  have k2 := Lib.hid (h2)
  clear h2
  generalize dblI a = r at k1 k2
  go_enter Try.func5, Try.ntmps5
  go_wp2_with (first
    | (go_at_call 17; refine (k1.out _).mono ?_; rintro e w1 ⟨rfl, hb1⟩)
    | (go_at_call 14; refine (k2.out _).mono ?_; rintro e w2 ⟨rfl, hb2⟩))
  go_ret
  exact ⟨rfl, hb1.trans (hb2.mono hb1.size)⟩

set_option maxHeartbeats 400000 in
theorem mul_law_of (a : Int) (b : Int) (w : World)
    (h2 : ∀ w, Calls Try.prog 13 #[.int .i64 a, .int .i64 b] w fun e w' => e = .returned (.int .i64 (mulI a b)) ∧ Below w.heap.size w w') :
    Calls Try.prog 6 #[.int .i64 a, .int .i64 b] w fun e w' => e = .returned (.bool true) ∧ Below w.heap.size w w' := by
  have k1 := Lib.hid fun w => specMul_any a b w
  have k2 := Lib.hid (h2)
  clear h2
  generalize mulI a b = r at k1 k2
  go_enter Try.func6, Try.ntmps6
  go_wp2_with (first
    | (go_at_call 18; refine (k1.out _).mono ?_; rintro e w1 ⟨rfl, hb1⟩)
    | (go_at_call 13; refine (k2.out _).mono ?_; rintro e w2 ⟨rfl, hb2⟩))
  go_ret
  exact ⟨rfl, hb1.trans (hb2.mono hb1.size)⟩

set_option maxHeartbeats 400000 in
theorem pow_law_of (a : Int) (n : Int) (w : World)
    (h2 : ∀ w, Calls Try.prog 15 #[.int .i64 a, .int .i64 n] w fun e w' => e = .returned (.int .i64 (powI a n)) ∧ Below w.heap.size w w') :
    Calls Try.prog 7 #[.int .i64 a, .int .i64 n] w fun e w' => e = .returned (.bool true) ∧ Below w.heap.size w w' := by
  have k1 := Lib.hid fun w => specPow_any a n w
  have k2 := Lib.hid (h2)
  clear h2
  generalize powI a n = r at k1 k2
  go_enter Try.func7, Try.ntmps7
  go_wp2_with (first
    | (go_at_call 19; refine (k1.out _).mono ?_; rintro e w1 ⟨rfl, hb1⟩)
    | (go_at_call 15; refine (k2.out _).mono ?_; rintro e w2 ⟨rfl, hb2⟩))
  go_ret
  exact ⟨rfl, hb1.trans (hb2.mono hb1.size)⟩

set_option maxHeartbeats 400000 in
theorem inverse_law_of (a : Int) (w : World)
    (h2 : ∀ w, Calls Try.prog 12 #[.int .i64 a] w fun e w' => e = .returned (.int .i64 (invI a)) ∧ Below w.heap.size w w') :
    Calls Try.prog 8 #[.int .i64 a] w fun e w' => e = .returned (.bool true) ∧ Below w.heap.size w w' := by
  have k1 := Lib.hid fun w => (specInverse_any a w).mono fun _ _ h => below_same h
  have k2 := Lib.hid (h2)
  clear h2
  generalize invI a = r at k1 k2
  go_enter Try.func8, Try.ntmps8
  go_wp2_with (first
    | (go_at_call 20; refine (k1.out _).mono ?_; rintro e w1 ⟨rfl, hb1⟩)
    | (go_at_call 12; refine (k2.out _).mono ?_; rintro e w2 ⟨rfl, hb2⟩))
  go_ret
  exact ⟨rfl, hb1.trans (hb2.mono hb1.size)⟩

set_option maxHeartbeats 400000 in
theorem box_law_of (a : Int) (w : World)
    (h2 : ∀ w, Calls Try.prog 16 #[.int .i64 a] w fun e w' => e = .returned (.int .i64 (boxI a)) ∧ Below w.heap.size w w') :
    Calls Try.prog 9 #[.int .i64 a] w fun e w' => e = .returned (.bool true) ∧ Below w.heap.size w w' := by
  have k1 := Lib.hid fun w => (specBox_any a w).mono fun _ _ h => below_same h
  have k2 := Lib.hid (h2)
  clear h2
  generalize boxI a = r at k1 k2
  go_enter Try.func9, Try.ntmps9
  go_wp2_with (first
    | (go_at_call 21; refine (k1.out _).mono ?_; rintro e w1 ⟨rfl, hb1⟩)
    | (go_at_call 16; refine (k2.out _).mono ?_; rintro e w2 ⟨rfl, hb2⟩))
  go_ret
  exact ⟨rfl, hb1.trans (hb2.mono hb1.size)⟩

end Go.Proofs.Ytakkodpekegioaa
