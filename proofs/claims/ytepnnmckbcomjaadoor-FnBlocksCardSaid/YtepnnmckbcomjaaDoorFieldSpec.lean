/- The model's chapter 5: the field of 256 elements and the box. -/
import Derived.Test.YtepnnmckbcomjaaDoorFieldMath
import Derived.Test.YtepnnmckbcomjaaDoorBitsMath
import Derived.WalkKit
import Derived.WalkSpells
import Derived.WalkLawsBesides
import Derived.Lib.Hide
namespace Go.Proofs.YtepnnmckbcomjaaDoor
open Go.RowKit Go.Proofs.YtepnnmckbcomjaaDoor.Fld Go.Proofs.YtepnnmckbcomjaaDoor.BitsM

set_option maxHeartbeats 400000 in
theorem rangeF_any (n a b : Int) (w : World) : Calls Tryd.prog 46 #[.int .i64 n, .int .i64 a, .int .i64 b] w fun e w' => e = .returned (.bool (decide (a ≤ n ∧ n ≤ b))) ∧ w' = w := by
  by_cases h1 : a ≤ n <;> by_cases h2 : n ≤ b
  all_goals
    go_enter Tryd.func46, Tryd.ntmps46
    go_wp2
    all_goals go_ret
    all_goals exact ⟨by simp [h1, h2], rfl⟩
theorem rangeF_yes {n a b : Int} (w : World) (h : a ≤ n ∧ n ≤ b) : Calls Tryd.prog 46 #[.int .i64 n, .int .i64 a, .int .i64 b] w fun e w' => e = .returned (.bool true) ∧ w' = w :=
  (rangeF_any n a b w).mono fun _ _ ⟨he, hw⟩ => ⟨by rw [he, decide_eq_true h], hw⟩
theorem rangeF_no {n a b : Int} (w : World) (h : ¬ (a ≤ n ∧ n ≤ b)) : Calls Tryd.prog 46 #[.int .i64 n, .int .i64 a, .int .i64 b] w fun e w' => e = .returned (.bool false) ∧ w' = w :=
  (rangeF_any n a b w).mono fun _ _ ⟨he, hw⟩ => ⟨by rw [he, decide_eq_false h], hw⟩
/-- A byte's number. -/
def IsByte (n : Int) : Prop := 0 ≤ n ∧ n ≤ 255
set_option maxHeartbeats 400000 in
theorem isByte_yes {n : Int} (w : World) (h : IsByte n) : Calls Tryd.prog 42 #[.int .i64 n] w fun e w' => e = .returned (.bool true) ∧ w' = w := by
  have HR := Lib.hid h
  clear h
  go_enter Tryd.func42, Tryd.ntmps42
  go_wp2_with fail
  refine (rangeF_yes _ HR.out).mono ?_
  rintro e w1 ⟨rfl, rfl⟩
  go_wp2
  go_ret
  exact ⟨rfl, rfl⟩
set_option maxHeartbeats 400000 in
theorem isByte_no {n : Int} (w : World) (h : ¬ IsByte n) : Calls Tryd.prog 42 #[.int .i64 n] w fun e w' => e = .returned (.bool false) ∧ w' = w := by
  have HR := Lib.hid h
  clear h
  go_enter Tryd.func42, Tryd.ntmps42
  go_wp2_with fail
  refine (rangeF_no _ HR.out).mono ?_
  rintro e w1 ⟨rfl, rfl⟩
  go_wp2
  go_ret
  exact ⟨rfl, rfl⟩
theorem ret_int {a b : Int} (h : a = b) : Ending.returned (.int .i64 a) = .returned (.int .i64 b) := by rw [h]

set_option maxHeartbeats 400000 in
theorem specDouble_yes (m : Nat) (w : World) (h : m < 256) : Calls Tryd.prog 30 #[.int .i64 m] w fun e w' => e = .returned (.int .i64 (dbl m)) ∧ w' = w := by
  have HB : Hid (IsByte m) := Lib.hid ⟨by omega, by omega⟩
  by_cases hb : 255 < 2 * m
  · have HD : Hid (dbl m = (2 * m) ^^^ 283) := Lib.hid (if_pos hb)
    have hx := xor64 (2 * m) 283 (by omega) (by omega)
    have e2 : ((2 * m : Nat) : Int) = 2 * (m : Int) := by simp
    rw [e2] at hx
    have e3 : ((283 : Nat) : Int) = 283 := rfl
    rw [e3] at hx
    clear e2 e3
    go_enter Tryd.func30, Tryd.ntmps30
    go_wp2_with fail
    refine (isByte_yes _ HB.out).mono ?_
    rintro e w1 ⟨rfl, rfl⟩
    go_wp2
    go_ret
    exact ⟨ret_int (by rw [HD.out]), rfl⟩
  · have HD : Hid (dbl m = 2 * m) := Lib.hid (if_neg hb)
    go_enter Tryd.func30, Tryd.ntmps30
    go_wp2_with fail
    refine (isByte_yes _ HB.out).mono ?_
    rintro e w1 ⟨rfl, rfl⟩
    go_wp2
    go_ret
    exact ⟨ret_int (by rw [HD.out]; simp), rfl⟩
set_option maxHeartbeats 400000 in
theorem specDouble_no (n : Int) (w : World) (h : ¬ IsByte n) : Calls Tryd.prog 30 #[.int .i64 n] w fun e w' => e = .returned (.int .i64 0) ∧ w' = w := by
  have HB := Lib.hid h
  clear h
  go_enter Tryd.func30, Tryd.ntmps30
  go_wp2_with fail
  refine (isByte_no _ HB.out).mono ?_
  rintro e w1 ⟨rfl, rfl⟩
  go_wp2
  go_ret
  exact ⟨rfl, rfl⟩

theorem pow_succ_lt {b f : Nat} (h : b < 2 ^ (f + 1)) : b / 2 < 2 ^ f := by
  rw [Nat.pow_succ] at h; omega
theorem mulF_succ (f a b : Nat) : mulF (f + 1) a b = (if b % 2 = 1 then a else 0) ^^^ mulF f (dbl a) (b / 2) := rfl
theorem mul_round {f a b out r : Nat} (h : out ^^^ mulF (f + 1) a b = r) : (if b % 2 = 1 then out ^^^ a else out) ^^^ mulF f (dbl a) (b / 2) = r := by
  rw [← h, mulF_succ]
  split
  · rw [← Nat.xor_assoc]
  · rw [Nat.zero_xor]

set_option maxHeartbeats 1000000 in
theorem specMul_yes (A B : Nat) (w : World) (hA : A < 256) (hB : B < 256) : Calls Tryd.prog 47 #[.int .i64 A, .int .i64 B] w fun e w' => e = .returned (.int .i64 (mul A B)) ∧ w' = w := by
  have HA : Hid (IsByte A) := Lib.hid ⟨by omega, by omega⟩
  have HB : Hid (IsByte B) := Lib.hid ⟨by omega, by omega⟩
  have HM : Hid (0 ^^^ mulF 8 A B = mul A B) := Lib.hid (by rw [Nat.zero_xor]; rfl)
  go_enter Tryd.func47, Tryd.ntmps47
  go_wp2_with fail
  refine (isByte_yes _ HA.out).mono ?_
  rintro e w1 ⟨rfl, rfl⟩
  go_wp2_with fail
  refine (isByte_yes _ HB.out).mono ?_
  rintro e w2 ⟨rfl, rfl⟩
  go_wp2
  go_loopw [0, 1, 5] (fun av bv ov wr => ∃ f a b out : Nat, b < 2 ^ f ∧ b < 256 ∧ a < 256 ∧ out < 256 ∧ av = .int .i64 a ∧ bv = .int .i64 b ∧ ov = .int .i64 out ∧ Hid (out ^^^ mulF f a b = mul A B) ∧ wr = w2)
    (fun _ bv _ _ => (intOf bv).toNat)
  case atStart => exact ⟨8, A, B, 0, hB, hB, hA, by omega, rfl, rfl, rfl, HM, rfl⟩
  case round =>
    obtain ⟨f, a, b, out, hf, hb, ha, ho, rfl, rfl, rfl, HR, rfl⟩ := hrel
    by_cases hpos : 0 < b
    · obtain ⟨f', rfl⟩ : ∃ f', f = f' + 1 := by
        rcases f with _ | f
        · simp at hf; omega
        · exact ⟨f, rfl⟩
      have hf2 := pow_succ_lt hf
      have HN := Lib.hid (mul_round HR.out)
      by_cases hodd : b % 2 = 1
      · have hx := xor64 out a (by omega) (by omega)
        have ho2 : out ^^^ a < 256 := xor_lt ho ha
        have hm : ((b : Int) % 2 == 1) = true := by simp; omega
        rw [if_pos hodd] at HN
        clear hf
        go_wp2_with (go_at_call 30; refine (specDouble_yes a _ ha).mono ?_; rintro e w3 ⟨rfl, rfl⟩)
        go_roundw
        case rel => exact ⟨f', dbl a, b / 2, out ^^^ a, hf2, by omega, dbl_lt a ha, ho2, by go_num, by go_num, by go_num, HN, by first | rfl | trivial⟩
        case measure => simp [intOf]; omega
      · have hm : ((b : Int) % 2 == 1) = false := by simp; omega
        rw [if_neg hodd] at HN
        clear hf
        go_wp2_with (go_at_call 30; refine (specDouble_yes a _ ha).mono ?_; rintro e w3 ⟨rfl, rfl⟩)
        go_roundw
        case rel => exact ⟨f', dbl a, b / 2, out, hf2, by omega, dbl_lt a ha, ho, by go_num, by go_num, by go_num, HN, by first | rfl | trivial⟩
        case measure => simp [intOf]; omega
    · obtain rfl : b = 0 := by omega
      have hfin : out = mul A B := by
        have := HR.out
        rw [mulF_zero, Nat.xor_zero] at this
        exact this
      go_wp2
      go_ret
      exact ⟨ret_int (by rw [hfin]), rfl⟩
set_option maxHeartbeats 400000 in
theorem specMul_no (n m : Int) (w : World) (h : ¬ (IsByte n ∧ IsByte m)) : Calls Tryd.prog 47 #[.int .i64 n, .int .i64 m] w fun e w' => e = .returned (.int .i64 0) ∧ w' = w := by
  by_cases hn : IsByte n
  · have HN := Lib.hid hn
    have HM : Hid (¬ IsByte m) := Lib.hid (fun hm => h ⟨hn, hm⟩)
    clear h hn
    go_enter Tryd.func47, Tryd.ntmps47
    go_wp2_with fail
    refine (isByte_yes _ HN.out).mono ?_
    rintro e w1 ⟨rfl, rfl⟩
    go_wp2_with fail
    refine (isByte_no _ HM.out).mono ?_
    rintro e w2 ⟨rfl, rfl⟩
    go_wp2
    go_ret
    exact ⟨rfl, rfl⟩
  · have HN := Lib.hid hn
    clear h hn
    go_enter Tryd.func47, Tryd.ntmps47
    go_wp2_with fail
    refine (isByte_no _ HN.out).mono ?_
    rintro e w1 ⟨rfl, rfl⟩
    go_wp2
    go_ret
    exact ⟨rfl, rfl⟩

/-- An exponent in its range. -/
def IsExp (n : Int) : Prop := 0 ≤ n ∧ n ≤ 1000
set_option maxHeartbeats 1000000 in
theorem specPow_yes (A n : Nat) (w : World) (hA : A < 256) (hn : n ≤ 1000) : Calls Tryd.prog 37 #[.int .i64 A, .int .i64 n] w fun e w' => e = .returned (.int .i64 (pow A n)) ∧ w' = w := by
  have HA : Hid (IsByte A) := Lib.hid ⟨by omega, by omega⟩
  have HE : Hid ((0 : Int) ≤ (n : Int) ∧ (n : Int) ≤ 1000) := Lib.hid ⟨by omega, by omega⟩
  go_enter Tryd.func37, Tryd.ntmps37
  go_wp2_with fail
  refine (isByte_yes _ HA.out).mono ?_
  rintro e w1 ⟨rfl, rfl⟩
  go_wp2_with fail
  refine (rangeF_yes _ HE.out).mono ?_
  rintro e w2 ⟨rfl, rfl⟩
  go_wp2
  go_loopw [5, 6] (fun ov iv wr => ∃ k out : Nat, k ≤ n ∧ iv = .int .i64 k ∧ ov = .int .i64 out ∧ out < 256 ∧ Hid (out = pow A k) ∧ wr = w2) (fun _ iv _ => n - (intOf iv).toNat)
  case atStart => exact ⟨0, 1, Nat.zero_le _, rfl, rfl, by omega, Lib.hid rfl, rfl⟩
  case round =>
    obtain ⟨k, out, hk, rfl, rfl, ho, HO, rfl⟩ := hrel
    by_cases hlt : k < n
    · have HN : Hid (mul out A = pow A (k + 1)) := Lib.hid (by rw [HO.out]; rfl)
      go_wp2_with (go_at_call 47; refine (specMul_yes out A _ ho hA).mono ?_; rintro e w3 ⟨rfl, rfl⟩)
      go_roundw
      case rel => exact ⟨k + 1, mul out A, by omega, by go_num, rfl, mul_lt _ _ ho, HN, by first | rfl | trivial⟩
      case measure => simp [intOf]; omega
    · obtain rfl : k = n := by omega
      go_wp2
      go_ret
      exact ⟨ret_int (by rw [HO.out]), rfl⟩
set_option maxHeartbeats 400000 in
theorem specPow_no (a n : Int) (w : World) (h : ¬ (IsByte a ∧ IsExp n)) : Calls Tryd.prog 37 #[.int .i64 a, .int .i64 n] w fun e w' => e = .returned (.int .i64 0) ∧ w' = w := by
  by_cases ha : IsByte a
  · have HN := Lib.hid ha
    have HM : Hid (¬ ((0 : Int) ≤ n ∧ n ≤ 1000)) := Lib.hid (fun hm => h ⟨ha, hm⟩)
    clear h ha
    go_enter Tryd.func37, Tryd.ntmps37
    go_wp2_with fail
    refine (isByte_yes _ HN.out).mono ?_
    rintro e w1 ⟨rfl, rfl⟩
    go_wp2_with fail
    refine (rangeF_no _ HM.out).mono ?_
    rintro e w2 ⟨rfl, rfl⟩
    go_wp2
    go_ret
    exact ⟨rfl, rfl⟩
  · have HN := Lib.hid ha
    clear h ha
    go_enter Tryd.func37, Tryd.ntmps37
    go_wp2_with fail
    refine (isByte_no _ HN.out).mono ?_
    rintro e w1 ⟨rfl, rfl⟩
    go_wp2
    go_ret
    exact ⟨rfl, rfl⟩
end Go.Proofs.YtepnnmckbcomjaaDoor
