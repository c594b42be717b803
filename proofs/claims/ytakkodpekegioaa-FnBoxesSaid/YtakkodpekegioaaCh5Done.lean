/- The five exact laws of chapter 5, FnField and FnBoxes: their walks over the program. -/
import Derived.Test.YtakkodpekegioaaBoxImpl
import Derived.Test.YtakkodpekegioaaFieldLaw
import Derived.Test.YtakkodpekegioaaBoxLaw
namespace Go.Proofs.Ytakkodpekegioaa
open Go.RowKit Go.Proofs.Ytakkodpekegioaa.Fld

theorem double_law (a : Int) (w : World) :
    Calls Try.prog 5 #[.int .i64 a] w fun e w' => e = .returned (.bool true) ∧ Below w.heap.size w w' :=
  double_law_of a w fun w => implDouble_any a w
theorem mul_law (a b : Int) (w : World) :
    Calls Try.prog 6 #[.int .i64 a, .int .i64 b] w fun e w' => e = .returned (.bool true) ∧ Below w.heap.size w w' :=
  mul_law_of a b w fun w => implMul_any a b w
theorem pow_law (a n : Int) (w : World) :
    Calls Try.prog 7 #[.int .i64 a, .int .i64 n] w fun e w' => e = .returned (.bool true) ∧ Below w.heap.size w w' :=
  pow_law_of a n w fun w => implPow_any a n w
theorem inverse_law (a : Int) (w : World) :
    Calls Try.prog 8 #[.int .i64 a] w fun e w' => e = .returned (.bool true) ∧ Below w.heap.size w w' :=
  inverse_law_of a w fun w => implInverse_any a w
theorem box_law (a : Int) (w : World) :
    Calls Try.prog 9 #[.int .i64 a] w fun e w' => e = .returned (.bool true) ∧ Below w.heap.size w w' :=
  box_law_of a w fun w => implBox_any a w
theorem invI_of (m : Nat) (h : m < 256) : invI (m : Int) = inv m := by
  unfold invI
  split
  · rw [Int.toNat_natCast]
  · obtain rfl : m = 0 := by omega
    rw [inv_zero]; rfl
theorem field_law (ad : Option Addr) (len cap : Nat) (w : World) (hs : Draw.Src w w.heap.size ad len) :
    Calls Try.prog 3 #[.slice ad len cap] w fun e w' => e = .returned (.bool true) ∧ Below w.heap.size w w' := by
  by_cases h : len ≤ 1048576
  · exact field_law_of ad len cap w h hs
      (fun m n hm hn w => (implMul_yes m n w hm hn).mono fun _ _ h => below_same h)
      (fun m hm w => (implDouble_yes m w hm).mono fun _ _ h => below_same h)
      (fun m hm w => by have := implInverse_any m w; rwa [invI_of m hm] at this)
      (fun m hm w => (implPow_yes m 3 w hm (by omega)).mono fun _ _ h => below_same h)
  · exact field_big ad len cap w (by omega)
theorem boxes_law (ad : Option Addr) (len cap : Nat) (w : World) :
    Calls Try.prog 4 #[.slice ad len cap] w fun e w' => e = .returned (.bool true) ∧ Below w.heap.size w w' := by
  by_cases h : len ≤ 1048576
  · exact boxes_law_of ad len cap w h fun a w => implBox_any a w
  · exact boxes_big ad len cap w (by omega)
end Go.Proofs.Ytakkodpekegioaa
