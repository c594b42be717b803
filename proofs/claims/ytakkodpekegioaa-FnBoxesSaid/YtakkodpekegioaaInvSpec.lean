/- The model's inverse. -/
import Derived.Test.YtakkodpekegioaaFieldSpec
namespace Go.Proofs.Ytakkodpekegioaa
open Go.RowKit Go.Proofs.Ytakkodpekegioaa.Fld Go.Proofs.Ytakkodpekegioaa.BitsM

theorem invF_succ (f out x n : Nat) : invF (f + 1) out x n = invF f (if n % 2 = 1 then mul out x else out) (mul x x) (n / 2) := rfl
theorem invF_zero : ∀ (f out x : Nat), invF f out x 0 = out
  | 0, _, _ => rfl
  | f + 1, out, x => by rw [invF_succ, if_neg (by decide)]; exact invF_zero f out (mul x x)
/-- The inverse of a number that is none of 1 to 255 is 0. -/
def invI (a : Int) : Int := if 1 ≤ a ∧ a ≤ 255 then (inv a.toNat : Int) else 0

set_option maxHeartbeats 1000000 in
theorem specInv_yes (A : Nat) (w : World) (h0 : 0 < A) (hA : A < 256) : Calls Try.prog 29 #[.int .i64 A] w fun e w' => e = .returned (.int .i64 (inv A)) ∧ w' = w := by
  have HE : Hid ((1 : Int) ≤ (A : Int) ∧ (A : Int) ≤ 255) := Lib.hid ⟨by omega, by omega⟩
  go_enter Try.func29, Try.ntmps29
  go_wp2_with fail
  refine (rangeF_yes _ HE.out).mono ?_
  rintro e w1 ⟨rfl, rfl⟩
  go_wp2
  go_loopw [3, 4, 5] (fun ov xv nv wr => ∃ f out x n : Nat, n < 2 ^ f ∧ n < 256 ∧ out < 256 ∧ x < 256 ∧ ov = .int .i64 out ∧ xv = .int .i64 x ∧ nv = .int .i64 n ∧ Hid (invF f out x n = inv A) ∧ wr = w1)
    (fun _ _ nv _ => (intOf nv).toNat)
  case atStart => exact ⟨8, 1, A, 254, by decide, by decide, by decide, hA, rfl, rfl, rfl, Lib.hid rfl, rfl⟩
  case round =>
    obtain ⟨f, out, x, n, hf, hn, ho, hx, rfl, rfl, rfl, HR, rfl⟩ := hrel
    by_cases hpos : 0 < n
    · obtain ⟨f', rfl⟩ : ∃ f', f = f' + 1 := by
        rcases f with _ | f
        · simp at hf; omega
        · exact ⟨f, rfl⟩
      have hf2 := pow_succ_lt hf
      have HN := Lib.hid ((invF_succ f' out x n).symm.trans HR.out)
      by_cases hodd : n % 2 = 1
      · have hm : ((n : Int) % 2 == 1) = true := by simp; omega
        rw [if_pos hodd] at HN
        clear hf
        go_wp2_with fail
        refine (specMul_yes out x _ ho hx).mono ?_
        rintro e w3 ⟨rfl, rfl⟩
        go_wp2_with fail
        refine (specMul_yes x x _ hx hx).mono ?_
        rintro e w4 ⟨rfl, rfl⟩
        go_wp2
        go_roundw
        case rel => exact ⟨f', mul out x, mul x x, n / 2, hf2, by omega, mul_lt _ _ ho, mul_lt _ _ hx, rfl, rfl, by go_num, HN, by first | rfl | trivial⟩
        case measure => simp [intOf]; omega
      · have hm : ((n : Int) % 2 == 1) = false := by simp; omega
        rw [if_neg hodd] at HN
        clear hf
        go_wp2_with fail
        refine (specMul_yes x x _ hx hx).mono ?_
        rintro e w4 ⟨rfl, rfl⟩
        go_wp2
        go_roundw
        case rel => exact ⟨f', out, mul x x, n / 2, hf2, by omega, ho, mul_lt _ _ hx, rfl, rfl, by go_num, HN, by first | rfl | trivial⟩
        case measure => simp [intOf]; omega
    · obtain rfl : n = 0 := by omega
      have hfin : out = inv A := by have := HR.out; rw [invF_zero] at this; exact this
      go_wp2
      go_ret
      exact ⟨ret_int (by rw [hfin]), rfl⟩
set_option maxHeartbeats 400000 in
theorem specInv_any (a : Int) (w : World) : Calls Try.prog 29 #[.int .i64 a] w fun e w' => e = .returned (.int .i64 (invI a)) ∧ w' = w := by
  by_cases h : 1 ≤ a ∧ a ≤ 255
  · obtain ⟨A, rfl⟩ : ∃ A : Nat, a = A := ⟨a.toNat, by omega⟩
    have hE : invI (A : Int) = inv A := by unfold invI; rw [if_pos h, Int.toNat_natCast]
    rw [hE]
    exact specInv_yes A w (by omega) (by omega)
  · have hE : invI a = 0 := if_neg h
    rw [hE]
    have HR := Lib.hid h
    clear h hE
    go_enter Try.func29, Try.ntmps29
    go_wp2_with fail
    refine (rangeF_no _ HR.out).mono ?_
    rintro e w1 ⟨rfl, rfl⟩
    go_wp2
    go_ret
    exact ⟨rfl, rfl⟩
set_option maxHeartbeats 400000 in
theorem specInverse_any (a : Int) (w : World) : Calls Try.prog 20 #[.int .i64 a] w fun e w' => e = .returned (.int .i64 (invI a)) ∧ w' = w := by
  go_enter Try.func20, Try.ntmps20
  go_wp2_with fail
  refine (specInv_any a _).mono ?_
  rintro e w1 ⟨rfl, rfl⟩
  go_wp2
  go_ret
  exact ⟨rfl, rfl⟩
end Go.Proofs.Ytakkodpekegioaa
