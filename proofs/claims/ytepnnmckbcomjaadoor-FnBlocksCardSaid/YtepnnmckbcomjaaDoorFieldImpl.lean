/- The program's chapter 5: doubling, product, power, inverse, the box. -/
import Derived.Test.YtepnnmckbcomjaaDoorByteMath
import Derived.Test.YtepnnmckbcomjaaDoorPowMath
import Derived.Test.YtepnnmckbcomjaaDoorShelfB
namespace Go.Proofs.YtepnnmckbcomjaaDoor
open Go.RowKit Go.Proofs.YtepnnmckbcomjaaDoor.Fld Go.Proofs.YtepnnmckbcomjaaDoor.BitsM

set_option maxHeartbeats 400000 in
theorem isElem_any (n : Int) (w : World) : Calls Tryd.prog 38 #[.int .i64 n] w fun e w' => e = .returned (.bool (decide (0 ≤ n ∧ n ≤ 255))) ∧ w' = w := by
  by_cases h1 : 0 ≤ n <;> by_cases h2 : n ≤ 255
  all_goals
    go_enter Tryd.func38, Tryd.ntmps38
    go_wp2
    all_goals go_ret
    all_goals exact ⟨by simp [h1, h2], rfl⟩
theorem isElem_yes {n : Int} (w : World) (h : IsByte n) : Calls Tryd.prog 38 #[.int .i64 n] w fun e w' => e = .returned (.bool true) ∧ w' = w :=
  (isElem_any n w).mono fun _ _ ⟨he, hw⟩ => ⟨by rw [he, decide_eq_true (show 0 ≤ n ∧ n ≤ 255 from h)], hw⟩
theorem isElem_no {n : Int} (w : World) (h : ¬ IsByte n) : Calls Tryd.prog 38 #[.int .i64 n] w fun e w' => e = .returned (.bool false) ∧ w' = w :=
  (isElem_any n w).mono fun _ _ ⟨he, hw⟩ => ⟨by rw [he, decide_eq_false (show ¬ (0 ≤ n ∧ n ≤ 255) from h)], hw⟩

set_option maxHeartbeats 400000 in
theorem implDouble_yes (m : Nat) (w : World) (h : m < 256) : Calls Tryd.prog 39 #[.int .i64 m] w fun e w' => e = .returned (.int .i64 (dbl m)) ∧ w' = w := by
  have HB : Hid (IsByte m) := Lib.hid ⟨by omega, by omega⟩
  by_cases hb : 255 < 2 * m
  · have HD : Hid (dbl m = (2 * m) ^^^ 283) := Lib.hid (if_pos hb)
    have hx := xor64 (2 * m) 283 (by omega) (by omega)
    have e2 : ((2 * m : Nat) : Int) = 2 * (m : Int) := by simp
    rw [e2] at hx
    have e3 : ((283 : Nat) : Int) = 283 := rfl
    rw [e3] at hx
    clear e2 e3
    go_enter Tryd.func39, Tryd.ntmps39
    go_wp2_with fail
    refine (isElem_yes _ HB.out).mono ?_
    rintro e w1 ⟨rfl, rfl⟩
    go_wp2
    go_ret
    exact ⟨ret_int (by rw [HD.out]), rfl⟩
  · have HD : Hid (dbl m = 2 * m) := Lib.hid (if_neg hb)
    go_enter Tryd.func39, Tryd.ntmps39
    go_wp2_with fail
    refine (isElem_yes _ HB.out).mono ?_
    rintro e w1 ⟨rfl, rfl⟩
    go_wp2
    go_ret
    exact ⟨ret_int (by rw [HD.out]; simp), rfl⟩
set_option maxHeartbeats 400000 in
theorem implDouble_no (n : Int) (w : World) (h : ¬ IsByte n) : Calls Tryd.prog 39 #[.int .i64 n] w fun e w' => e = .returned (.int .i64 0) ∧ w' = w := by
  have HB := Lib.hid h
  clear h
  go_enter Tryd.func39, Tryd.ntmps39
  go_wp2_with fail
  refine (isElem_no _ HB.out).mono ?_
  rintro e w1 ⟨rfl, rfl⟩
  go_wp2
  go_ret
  exact ⟨rfl, rfl⟩

theorem and_one (b : Nat) (hb : b < 9223372036854775808) : bits .and .i64 (b : Int) 1 = ((b % 2 : Nat) : Int) := by
  have h := and64 b 1 hb (by decide)
  rw [Nat.and_one_is_mod] at h
  exact h
theorem shr_odd (b k : Nat) (hb : b < 9223372036854775808) : (bits .and .i64 ((b : Int) / 2 ^ k) 1 == 1) = decide (b / 2 ^ k % 2 = 1) := by
  have e : (b : Int) / 2 ^ k = ((b / 2 ^ k : Nat) : Int) := by simp
  have hl : b / 2 ^ k < 9223372036854775808 := Nat.lt_of_le_of_lt (Nat.div_le_self _ _) hb
  rw [e, and_one _ hl]
  by_cases h : b / 2 ^ k % 2 = 1
  · rw [h]; rfl
  · have h0 : b / 2 ^ k % 2 = 0 := by omega
    rw [h0]; rfl
theorem half_next (b k : Nat) : b / 2 ^ k / 2 = b / 2 ^ (k + 1) := by
  rw [Nat.div_div_eq_div_mul, Nat.pow_succ]

set_option maxHeartbeats 1000000 in
theorem implMul_yes (A B : Nat) (w : World) (hA : A < 256) (hB : B < 256) : Calls Tryd.prog 28 #[.int .i64 A, .int .i64 B] w fun e w' => e = .returned (.int .i64 (mul A B)) ∧ w' = w := by
  have HA : Hid (IsByte A) := Lib.hid ⟨by omega, by omega⟩
  have HB : Hid (IsByte B) := Lib.hid ⟨by omega, by omega⟩
  have HM : Hid (0 ^^^ mulF 8 A (B / 2 ^ 0) = mul A B) := Lib.hid (by rw [Nat.zero_xor, Nat.pow_zero, Nat.div_one]; rfl)
  go_enter Tryd.func28, Tryd.ntmps28
  go_wp2_with fail
  refine (isElem_yes _ HA.out).mono ?_
  rintro e w1 ⟨rfl, rfl⟩
  go_wp2_with fail
  refine (isElem_yes _ HB.out).mono ?_
  rintro e w2 ⟨rfl, rfl⟩
  go_wp2
  go_loopw [0, 5, 15] (fun av ov kv wr => ∃ k a out : Nat, k ≤ 8 ∧ a < 256 ∧ out < 256 ∧ av = .int .i64 a ∧ kv = .int .i64 k ∧ ov = .int .i64 out ∧ Hid (out ^^^ mulF (8 - k) a (B / 2 ^ k) = mul A B) ∧ wr = w2)
    (fun _ _ kv _ => 8 - (intOf kv).toNat)
  case atStart => exact ⟨0, A, 0, by omega, hA, by omega, rfl, rfl, rfl, HM, rfl⟩
  case round =>
    obtain ⟨k, a, out, hk, ha, ho, rfl, rfl, rfl, HR, rfl⟩ := hrel
    by_cases hlt : k < 8
    · obtain ⟨f, hf⟩ : ∃ f, 8 - k = f + 1 := ⟨7 - k, by omega⟩
      have hf2 : 8 - (k + 1) = f := by omega
      have h1 := HR.out
      rw [hf] at h1
      have HN := Lib.hid (mul_round h1)
      rw [half_next, ← hf2] at HN
      clear h1
      have hm := shr_odd B k (by omega)
      by_cases hodd : B / 2 ^ k % 2 = 1
      · have hx := xor64 out a (by omega) (by omega)
        have ho2 : out ^^^ a < 256 := xor_lt ho ha
        rw [decide_eq_true hodd] at hm
        rw [if_pos hodd] at HN
        clear hodd hf hf2
        go_wp2_with (go_at_call 39; refine (implDouble_yes a _ ha).mono ?_; rintro e w3 ⟨rfl, rfl⟩)
        go_roundw
        case rel => exact ⟨k + 1, dbl a, out ^^^ a, by omega, dbl_lt a ha, ho2, by go_num, by go_num, by go_num, HN, by first | rfl | trivial⟩
        case measure => simp [intOf]; omega
      · rw [decide_eq_false hodd] at hm
        rw [if_neg hodd] at HN
        clear hodd hf hf2
        go_wp2_with (go_at_call 39; refine (implDouble_yes a _ ha).mono ?_; rintro e w3 ⟨rfl, rfl⟩)
        go_roundw
        case rel => exact ⟨k + 1, dbl a, out, by omega, dbl_lt a ha, ho, by go_num, by go_num, by go_num, HN, by first | rfl | trivial⟩
        case measure => simp [intOf]; omega
    · obtain rfl : k = 8 := by omega
      have hfin : out = mul A B := by
        have := HR.out
        rw [show 8 - 8 = 0 from rfl, show mulF 0 a (B / 2 ^ 8) = 0 from rfl, Nat.xor_zero] at this
        exact this
      go_wp2
      go_ret
      exact ⟨ret_int (by rw [hfin]), rfl⟩
set_option maxHeartbeats 400000 in
theorem implMul_no (n m : Int) (w : World) (h : ¬ (IsByte n ∧ IsByte m)) : Calls Tryd.prog 28 #[.int .i64 n, .int .i64 m] w fun e w' => e = .returned (.int .i64 0) ∧ w' = w := by
  by_cases hn : IsByte n
  · have HN := Lib.hid hn
    have HM : Hid (¬ IsByte m) := Lib.hid (fun hm => h ⟨hn, hm⟩)
    clear h hn
    go_enter Tryd.func28, Tryd.ntmps28
    go_wp2_with fail
    refine (isElem_yes _ HN.out).mono ?_
    rintro e w1 ⟨rfl, rfl⟩
    go_wp2_with fail
    refine (isElem_no _ HM.out).mono ?_
    rintro e w2 ⟨rfl, rfl⟩
    go_wp2
    go_ret
    exact ⟨rfl, rfl⟩
  · have HN := Lib.hid hn
    clear h hn
    go_enter Tryd.func28, Tryd.ntmps28
    go_wp2_with fail
    refine (isElem_no _ HN.out).mono ?_
    rintro e w1 ⟨rfl, rfl⟩
    go_wp2
    go_ret
    exact ⟨rfl, rfl⟩
end Go.Proofs.YtepnnmckbcomjaaDoor
