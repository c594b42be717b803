/- The program's Decimal, over the library's contract of strconv.Itoa. -/
import Derived.Test.YtenjaedhkleooaaDoorDecMath
import Derived.Test.YtenjaedhkleooaaDoorShelfI
import Derived.WalkKit
import Derived.WalkSpells
import Derived.WalkLawsBesides
import Derived.Lib.Hide
namespace Go.Proofs.YtenjaedhkleooaaDoor
open Go.RowKit Go.Proofs.YtenjaedhkleooaaDoor.Parts Go.Proofs.YtenjaedhkleooaaDoor.Hexa

theorem gPow : Tryd.prog.globalNamed "internal/strconv.uint64pow10" = some 0 := by kernel_rfl

def Tab (w : World) : Prop := Lib.TabIs Tryd.prog w "internal/strconv.uint64pow10" .u64 Lib.pow10Tab
theorem Tab.below {w w' : World} (h : Tab w) (hb : Below w.heap.size w w') : Tab w' := tab_below h gPow hb

set_option maxHeartbeats 400000 in
theorem implDecimal_any (n : Int) (w : World) (h0 : -9223372036854775808 ≤ n) (h1 : n ≤ 9223372036854775807) (ht : Tab w) :
    Calls Tryd.prog 7 #[.int .i64 n] w fun e w' => e = .returned (.string ⟨(Lib.itoa n).toArray⟩) ∧ Below w.heap.size w w' := by
  have HT := Lib.hid ht
  clear ht
  go_enter Tryd.func7, Tryd.ntmps7
  go_wp2_with (go_at_call 14; refine (Tryd.strconv_Itoa n h0 h1 _ HT.out).mono ?_; rintro e w1 ⟨rfl, k, os, rfl⟩)
  go_ret
  exact ⟨rfl, below_grow w k os⟩

theorem digits_small {n : Nat} (h : n < 10) : Lib.decDigits n = [UInt8.ofNat (48 + n)] := by rw [Lib.decDigits, dif_pos h]
theorem digits_big {n : Nat} (h : ¬ n < 10) : Lib.decDigits n = Lib.decDigits (n / 10) ++ [UInt8.ofNat (48 + n % 10)] := by rw [Lib.decDigits, dif_neg h]
theorem digits_length (k : Nat) : ∀ n, n < 10 ^ (k + 1) → (Lib.decDigits n).length ≤ k + 1 := by
  induction k with
  | zero => intro n h; rw [digits_small (by omega)]; simp
  | succ k ih =>
    intro n h
    by_cases h1 : n < 10
    · rw [digits_small h1]; simp
    · rw [digits_big h1, List.length_append]
      have := ih (n / 10) (by rw [Nat.pow_succ] at h; omega)
      simp; omega
theorem short_num (n : Nat) : Lib.itoa (n : Int) = Lib.decDigits n := by unfold Lib.itoa; rw [if_neg (by omega), Int.toNat_natCast]
/-- Decimal of a drawn number: a short text. -/
theorem dec_short (n : Int) (w : World) (h0 : 0 ≤ n) (h1 : n < 10000) (ht : Tab w) :
    Calls Tryd.prog 7 #[.int .i64 n] w fun e w' => ∃ d : ByteArray, d.size ≤ 4 ∧ e = .returned (.string d) ∧ Below w.heap.size w w' := by
  obtain ⟨k, rfl⟩ : ∃ k : Nat, n = k := ⟨n.toNat, by omega⟩
  refine (implDecimal_any k w (by omega) (by omega) ht).mono fun e w' ⟨he, hb⟩ => ⟨_, ?_, he, hb⟩
  show (Lib.itoa (k : Int)).toArray.size ≤ 4
  rw [short_num]
  simpa using digits_length 3 k (by omega)
end Go.Proofs.YtenjaedhkleooaaDoor
