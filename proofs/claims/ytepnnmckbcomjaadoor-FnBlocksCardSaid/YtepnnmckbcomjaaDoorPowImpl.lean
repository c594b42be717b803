/- The program's power and inverse. -/
import Derived.Test.YtepnnmckbcomjaaDoorFieldImpl
namespace Go.Proofs.YtepnnmckbcomjaaDoor
open Go.RowKit Go.Proofs.YtepnnmckbcomjaaDoor.Fld Go.Proofs.YtepnnmckbcomjaaDoor.BitsM

/-- How many bits an exponent in its range has. -/
theorem len_all : (List.range 1001).all (fun n => decide (n < 2 ^ Lib.bitLen n) && decide (Lib.bitLen n ≤ 10)) = true := by decide +kernel
theorem len_of (n : Nat) (h : n ≤ 1000) : n < 2 ^ Lib.bitLen n ∧ Lib.bitLen n ≤ 10 := by
  have := List.all_eq_true.1 len_all n (List.mem_range.2 (by omega))
  simpa using this
theorem pow_next (A n k out x : Nat) (ho : out < 256) (hx : x < 256) (h : mul out (pow x (n / 2 ^ k)) = pow A n) :
    mul (if n / 2 ^ k % 2 = 1 then mul out x else out) (pow (mul x x) (n / 2 ^ (k + 1))) = pow A n := by
  have := pow_round out x (n / 2 ^ k) _ ho hx h
  rwa [half_next] at this

set_option maxHeartbeats 1000000 in
theorem implPow_yes (A n : Nat) (w : World) (hA : A < 256) (hn : n ≤ 1000) : Calls Tryd.prog 45 #[.int .i64 A, .int .i64 n] w fun e w' => e = .returned (.int .i64 (pow A n)) ∧ w' = w := by
  have HA : Hid (IsByte A) := Lib.hid ⟨by omega, by omega⟩
  have HM : Hid (mul 1 (pow A (n / 2 ^ 0)) = pow A n) := Lib.hid (by rw [Nat.pow_zero, Nat.div_one, mul_comm 1 _ (by decide) (pow_lt A n), mul_one _ (pow_lt A n)])
  obtain ⟨hl1, hl2⟩ := len_of n hn
  obtain ⟨L, hL⟩ : ∃ L, Lib.bitLen n = L := ⟨_, rfl⟩
  have KL : Hid (∀ w, Calls Tryd.prog 48 #[.int .u64 (n : Int)] w fun e w' => e = .returned (.int .i64 L) ∧ w' = w) := Lib.hid (fun w => by
    have := Tryd.bits_Len (n : Int) w (by omega) (by omega)
    rwa [Int.toNat_natCast, hL] at this)
  rw [hL] at hl1 hl2
  have HL := Lib.hid hl1
  clear hl1 hL
  go_enter Tryd.func45, Tryd.ntmps45
  go_wp2_with fail
  refine (isElem_yes _ HA.out).mono ?_
  rintro e w1 ⟨rfl, rfl⟩
  go_wp2_with fail
  refine (KL.out _).mono ?_
  rintro e w2 ⟨rfl, rfl⟩
  go_wp2
  go_loopw [0, 5, 21] (fun av ov kv wr => ∃ k a out : Nat, k ≤ L ∧ a < 256 ∧ out < 256 ∧ av = .int .i64 a ∧ kv = .int .i64 k ∧ ov = .int .i64 out ∧ Hid (mul out (pow a (n / 2 ^ k)) = pow A n) ∧ wr = w2)
    (fun _ _ kv _ => L - (intOf kv).toNat)
  case atStart => exact ⟨0, A, 1, by omega, hA, by omega, rfl, rfl, rfl, HM, rfl⟩
  case round =>
    obtain ⟨k, a, out, hk, ha, ho, rfl, rfl, rfl, HR, rfl⟩ := hrel
    by_cases hlt : k < L
    · have HN := Lib.hid (pow_next A n k out a ho ha HR.out)
      have hm := shr_odd n k (by omega)
      have hsq := mul_lt a a ha
      by_cases hodd : n / 2 ^ k % 2 = 1
      · have hml := mul_lt out a ho
        rw [decide_eq_true hodd] at hm
        rw [if_pos hodd] at HN
        clear hodd
        go_wp2_with fail
        refine (implMul_yes out a _ ho ha).mono ?_
        rintro e w3 ⟨rfl, rfl⟩
        go_wp2_with fail
        refine (implMul_yes a a _ ha ha).mono ?_
        rintro e w4 ⟨rfl, rfl⟩
        go_wp2
        go_roundw
        case rel => exact ⟨k + 1, mul a a, mul out a, by omega, hsq, hml, by go_num, by go_num, by go_num, HN, by first | rfl | trivial⟩
        case measure => simp [intOf]; omega
      · rw [decide_eq_false hodd] at hm
        rw [if_neg hodd] at HN
        clear hodd
        go_wp2_with fail
        refine (implMul_yes a a _ ha ha).mono ?_
        rintro e w4 ⟨rfl, rfl⟩
        go_wp2
        go_roundw
        case rel => exact ⟨k + 1, mul a a, out, by omega, hsq, ho, by go_num, by go_num, by go_num, HN, by first | rfl | trivial⟩
        case measure => simp [intOf]; omega
    · obtain rfl : k = L := by omega
      have hfin : out = pow A n := by
        have := HR.out
        rw [Nat.div_eq_of_lt HL.out, pow_end out a ho] at this
        exact this
      go_wp2
      go_ret
      exact ⟨ret_int (by rw [hfin]), rfl⟩
set_option maxHeartbeats 400000 in
theorem implPow_no (a n : Int) (w : World) (h : ¬ (IsByte a ∧ IsExp n)) : Calls Tryd.prog 45 #[.int .i64 a, .int .i64 n] w fun e w' => e = .returned (.int .i64 0) ∧ w' = w := by
  by_cases ha : IsByte a
  · have HN := Lib.hid ha
    have hM : n < 0 ∨ 1000 < n := by
      have : ¬ IsExp n := fun hm => h ⟨ha, hm⟩
      unfold IsExp at this
      omega
    clear h ha
    rcases hM with hM | hM
    all_goals
      go_enter Tryd.func45, Tryd.ntmps45
      go_wp2_with fail
      refine (isElem_yes _ HN.out).mono ?_
      rintro e w1 ⟨rfl, rfl⟩
      go_wp2
      go_ret
      exact ⟨rfl, rfl⟩
  · have HN := Lib.hid ha
    clear h ha
    go_enter Tryd.func45, Tryd.ntmps45
    go_wp2_with fail
    refine (isElem_no _ HN.out).mono ?_
    rintro e w1 ⟨rfl, rfl⟩
    go_wp2
    go_ret
    exact ⟨rfl, rfl⟩

theorem implDouble_any (a : Int) (w : World) : Calls Tryd.prog 39 #[.int .i64 a] w fun e w' => e = .returned (.int .i64 (dblI a)) ∧ Below w.heap.size w w' := by
  by_cases h : 0 ≤ a ∧ a ≤ 255
  · have hE : dblI a = (dbl a.toNat : Int) := if_pos h
    obtain ⟨m, rfl⟩ : ∃ m : Nat, a = m := ⟨a.toNat, by omega⟩
    rw [hE, Int.toNat_natCast]
    exact (implDouble_yes m w (by omega)).mono fun _ _ h => below_same h
  · have hE : dblI a = 0 := if_neg h
    rw [hE]
    exact (implDouble_no a w h).mono fun _ _ h => below_same h
theorem implMul_any (a b : Int) (w : World) : Calls Tryd.prog 28 #[.int .i64 a, .int .i64 b] w fun e w' => e = .returned (.int .i64 (mulI a b)) ∧ Below w.heap.size w w' := by
  by_cases h : (0 ≤ a ∧ a ≤ 255) ∧ (0 ≤ b ∧ b ≤ 255)
  · have hE : mulI a b = (mul a.toNat b.toNat : Int) := if_pos h
    obtain ⟨m, rfl⟩ : ∃ m : Nat, a = m := ⟨a.toNat, by omega⟩
    obtain ⟨n, rfl⟩ : ∃ n : Nat, b = n := ⟨b.toNat, by omega⟩
    rw [hE, Int.toNat_natCast, Int.toNat_natCast]
    exact (implMul_yes m n w (by omega) (by omega)).mono fun _ _ h => below_same h
  · have hE : mulI a b = 0 := if_neg h
    rw [hE]
    exact (implMul_no a b w h).mono fun _ _ h => below_same h
theorem implPow_id (a b : Int) (w : World) : Calls Tryd.prog 45 #[.int .i64 a, .int .i64 b] w fun e w' => e = .returned (.int .i64 (powI a b)) ∧ w' = w := by
  by_cases h : (0 ≤ a ∧ a ≤ 255) ∧ (0 ≤ b ∧ b ≤ 1000)
  · have hE : powI a b = (pow a.toNat b.toNat : Int) := if_pos h
    obtain ⟨m, rfl⟩ : ∃ m : Nat, a = m := ⟨a.toNat, by omega⟩
    obtain ⟨n, rfl⟩ : ∃ n : Nat, b = n := ⟨b.toNat, by omega⟩
    rw [hE, Int.toNat_natCast, Int.toNat_natCast]
    exact implPow_yes m n w (by omega) (by omega)
  · have hE : powI a b = 0 := if_neg h
    rw [hE]
    exact implPow_no a b w h
theorem implPow_any (a b : Int) (w : World) : Calls Tryd.prog 45 #[.int .i64 a, .int .i64 b] w fun e w' => e = .returned (.int .i64 (powI a b)) ∧ Below w.heap.size w w' :=
  (implPow_id a b w).mono fun _ _ h => below_same h
theorem powI_inv (a : Int) : powI a 254 = invI a := by
  unfold powI invI
  by_cases h : 1 ≤ a ∧ a ≤ 255
  · rw [if_pos (by omega), if_pos h, inv_pow _ (by omega)]
    rfl
  · rw [if_neg h]
    by_cases h0 : a = 0
    · subst h0
      rw [if_pos (by decide)]
      show ((pow 0 254 : Nat) : Int) = 0
      rw [← inv_pow 0 (by decide), inv_zero]; rfl
    · rw [if_neg (by omega)]
set_option maxHeartbeats 400000 in
theorem implInverse_id (a : Int) (w : World) : Calls Tryd.prog 40 #[.int .i64 a] w fun e w' => e = .returned (.int .i64 (invI a)) ∧ w' = w := by
  have K := Lib.hid (fun w => implPow_id a 254 w)
  rw [powI_inv] at K
  go_enter Tryd.func40, Tryd.ntmps40
  go_wp2_with fail
  refine (K.out _).mono ?_
  rintro e w1 ⟨rfl, rfl⟩
  go_wp2
  go_ret
  exact ⟨rfl, rfl⟩
theorem implInverse_any (a : Int) (w : World) : Calls Tryd.prog 40 #[.int .i64 a] w fun e w' => e = .returned (.int .i64 (invI a)) ∧ Below w.heap.size w w' :=
  (implInverse_id a w).mono fun _ _ h => below_same h
end Go.Proofs.YtepnnmckbcomjaaDoor
