/- The model's box. -/
import Derived.Test.YtakkodpekegioaaInvSpec
import Derived.Test.YtakkodpekegioaaTurnedSpec
namespace Go.Proofs.Ytakkodpekegioaa
open Go.RowKit Go.Proofs.Ytakkodpekegioaa.Fld Go.Proofs.Ytakkodpekegioaa.BitsM

/-- The box of a number; 0 where it is no byte's. -/
def boxI (a : Int) : Int := if 0 ≤ a ∧ a ≤ 255 then (turnF (invI a).toNat 5 : Int) else 0
theorem invI_lt (a : Int) : 0 ≤ invI a ∧ invI a < 256 := by
  unfold invI
  split
  · rename_i h
    have := inv_lt a.toNat (by omega)
    omega
  · omega
set_option maxHeartbeats 400000 in
theorem specBox_any (a : Int) (w : World) : Calls Try.prog 21 #[.int .i64 a] w fun e w' => e = .returned (.int .i64 (boxI a)) ∧ w' = w := by
  by_cases h : 0 ≤ a ∧ a ≤ 255
  · have hl := invI_lt a
    have HE : Hid (boxI a = (turnF (invI a).toNat 5 : Int)) := Lib.hid (if_pos h)
    have hi := specInv_any a
    obtain ⟨b, hb⟩ : ∃ b : Nat, invI a = b := ⟨(invI a).toNat, by omega⟩
    rw [hb] at hi hl
    have HT := Lib.hid (fun w => specTurned_any b w (by omega))
    have HI := Lib.hid hi
    have HB : Hid (IsByte a) := Lib.hid h
    clear h hi hl
    go_enter Try.func21, Try.ntmps21
    go_wp2_with fail
    refine (isByte_yes _ HB.out).mono ?_
    rintro e w1 ⟨rfl, rfl⟩
    go_wp2_with fail
    refine (HI.out _).mono ?_
    rintro e w2 ⟨rfl, rfl⟩
    go_wp2_with fail
    refine (HT.out _).mono ?_
    rintro e w3 ⟨rfl, rfl⟩
    go_wp2
    go_ret
    exact ⟨ret_int (by rw [HE.out, hb, Int.toNat_natCast]), rfl⟩
  · have HE : Hid (boxI a = 0) := Lib.hid (if_neg h)
    have HB : Hid (¬ IsByte a) := Lib.hid h
    clear h
    go_enter Try.func21, Try.ntmps21
    go_wp2_with fail
    refine (isByte_no _ HB.out).mono ?_
    rintro e w1 ⟨rfl, rfl⟩
    go_wp2
    go_ret
    exact ⟨ret_int (by rw [HE.out]), rfl⟩
end Go.Proofs.Ytakkodpekegioaa
