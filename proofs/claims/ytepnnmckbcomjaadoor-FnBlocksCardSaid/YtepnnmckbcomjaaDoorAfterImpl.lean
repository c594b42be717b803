/- The program's next round key. -/
import Derived.Test.YtepnnmckbcomjaaDoorTurnImpl
import Derived.Test.YtepnnmckbcomjaaDoorAesText
namespace Go.Proofs.YtepnnmckbcomjaaDoor
open Go.RowKit Go.Proofs.YtepnnmckbcomjaaDoor.Hexa Go.Proofs.YtepnnmckbcomjaaDoor.Byt Go.Proofs.YtepnnmckbcomjaaDoor.Aes Go.Proofs.YtepnnmckbcomjaaDoor.Fld Go.Proofs.YtepnnmckbcomjaaDoor.BitsM

set_option maxHeartbeats 1000000 in
theorem implAfter_any (s : ByteArray) (k : Nat) (w : World) (hs : s.size = 16) (hk1 : 1 ≤ k) (hk : k ≤ 10) :
    Calls Tryd.prog 24 #[.string s, .int .i64 k] w fun e w' => e = .returned (.string (txt (afterL s.data.toList k))) ∧ Below w.heap.size w w' := by
  have HL : Hid (s.data.toList.length = 16) := Lib.hid (by simpa using hs)
  have k1 := Lib.hid fun w => implTurned_any (s.extract 12 16) k w (by rw [ByteArray.size_extract]; omega) hk1 hk
  have k2 := Lib.hid fun (j : Nat) (_ : j < 4) w => implXor_any (s.extract (4 * j) (4 * j + 4)) (txt (goneW s.data.toList k j)) w (by rw [ByteArray.size_extract]; omega)
  have k3 := Lib.hid fun (j : Nat) (hj : j < 4) => xor_words s hs k j hj
  go_enter Tryd.func24, Tryd.ntmps24
  go_wp2_with fail
  refine (k1.out _).mono ?_
  rintro e w1 ⟨rfl, hb1⟩
  rw [show (⟨(turnedL (s.extract 12 16).data.toList k).toArray⟩ : ByteArray) = txt (goneW s.data.toList k 0) by rw [turn_words]; rfl]
  go_wp2_with fail
  go_loopw [5, 6, 7] (fun wv nv av wr => ∃ j : Nat, j ≤ 4 ∧ av = .int .i64 (4 * (j : Int)) ∧ wv = .string (txt (goneW s.data.toList k j)) ∧ nv = .string (txt (goneT s.data.toList k j)) ∧ Below w.heap.size w wr)
    (fun _ _ av _ => 16 - (intOf av).toNat)
  case atStart => exact ⟨0, Nat.zero_le _, by go_num, rfl, rfl, hb1⟩
  case round =>
    obtain ⟨j, hj, rfl, rfl, rfl, hbel⟩ := hrel
    by_cases hlt : j < 4
    · have n1 : (4 * (j : Int)).toNat = 4 * j := by omega
      have n2 : (4 * (j : Int) + 4).toNat = 4 * j + 4 := by omega
      have hlen : 4 * j + 4 ≤ s.size := by omega
      go_wp2_with fail
      refine (k2.out j hlt _).mono ?_
      rintro e w2 ⟨rfl, hb2⟩
      have hb3 : Below w.heap.size w w2 := hbel.trans (hb2.mono hbel.size)
      rw [k3.out j hlt]
      have hz1 : (txt (goneT s.data.toList k j)).size = 4 * j := by rw [txt_size]; exact goneT_length _ k (HL.out) j hj
      have hz2 : (txt (goneW s.data.toList k (j + 1))).size = 4 := by rw [txt_size]; exact goneW_length _ k (HL.out) (j + 1) (by omega)
      have H4 := Lib.hid (step_words s.data.toList k j)
      go_wp2_with fail
      rw [H4.out]
      go_roundw
      case rel => exact ⟨j + 1, by omega, by go_num, rfl, rfl, hb3⟩
      case measure => (simp [intOf]; try omega)
    · obtain rfl : j = 4 := by omega
      go_wp2
      go_ret
      exact ⟨rfl, hbel⟩
end Go.Proofs.YtepnnmckbcomjaaDoor
