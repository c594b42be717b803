/- The program's ShiftRows. -/
import Derived.Test.YtepnnmckbcomjaaDoorAesMem
namespace Go.Proofs.YtepnnmckbcomjaaDoor
open Go.RowKit Go.Proofs.YtepnnmckbcomjaaDoor.Hexa Go.Proofs.YtepnnmckbcomjaaDoor.Byt Go.Proofs.YtepnnmckbcomjaaDoor.Aes

theorem shiftAt_turned (l : List UInt8) (p : Nat) (hp : p < 16) : shiftAt l p = l.getD ((p + 4 * (p % 4)) % 16) 0 := by
  unfold shiftAt
  rw [show 4 * ((p / 4 + p % 4) % 4) + p % 4 = (p + 4 * (p % 4)) % 16 by omega]

set_option maxHeartbeats 1000000 in
theorem implShift_yes (s : ByteArray) (w : World) (hs : s.size = 16) :
    Calls Tryd.prog 15 #[.string s] w fun e w' => e = .returned (.string ⟨(shiftL s.data.toList).toArray⟩) ∧ Below w.heap.size w w' := by
  obtain ⟨i0, hi, hz0, hz1, hz2⟩ := info_parts infoByte
  go_enter Tryd.func15, Tryd.ntmps15
  go_wp2_with (at_make; refine wpList_make_full _ rfl _ _ 22 rfl w.heap.size 5 i0 (.int .u8 0) 1 Tryd.underlying22 hi hz0 hz1 .i64 .i64 _ _ 16 rfl rfl rfl rfl (by rw [hz2]; omega) (by unfold maxLen; omega) (Nat.le_refl _) ?_; intro w0 hown0 hgrow0)
  have hg0 : Below w.heap.size w w0 := (Below.refl _ _).grown hgrow0 (Nat.le_refl _) (fun k h => by cases h)
  have HO0 := Lib.hid (part_start hown0)
  clear hown0 hgrow0
  go_loopw [4, 5, 13] (fun jv rv iv wr => ∃ k : Nat, k ≤ 16 ∧ iv = .int .i64 k ∧ Hid (Bytes wr w.heap.size 5 (.slice (some ⟨w.heap.size, 0, none⟩) 16 16) (partB (mapTo (shiftAt s.data.toList) k) 16)) ∧ Below w.heap.size w wr)
    (fun _ _ iv _ => 16 - (intOf iv).toNat)
  case atStart => exact ⟨0, Nat.zero_le _, rfl, HO0, hg0⟩
  case round =>
    clear HO0 hg0
    obtain ⟨k, hk, rfl, HW, hbel⟩ := hrel
    by_cases hlt : k < 16
    · have hq : (k + 4 * (k % 4)) % 16 < s.size := by omega
      have hl := mapTo_length (shiftAt s.data.toList) k
      have hta := text_at s _ hq
      obtain ⟨⟨v, c3⟩, z3, hB⟩ := part_at HW.out (by omega)
      have N3 := part_next HW.out (shiftAt s.data.toList k) (by omega)
      rw [hl] at c3 z3
      rw [hl, mapTo_next, shiftAt_turned _ k hlt, ← hta] at N3
      have HN3 := Lib.hid N3
      have hb3 : Below w.heap.size w (wr.setCell ⟨w.heap.size, k, none⟩ (.int .u8 ((s[(k + 4 * (k % 4)) % 16]'hq).toNat : Int))) := hbel.setCell (Nat.le_refl _) _
      clear N3 hta
      go_wp2
      go_roundw
      case rel => exact ⟨k + 1, by omega, by go_num, HN3, hb3⟩
      case measure => (simp [intOf]; try omega)
    · obtain rfl : k = 16 := by omega
      have hl := mapTo_length (shiftAt s.data.toList) 16
      have h9 := HW.out
      rw [partB_full _ _ hl] at h9
      have hconv := bytes_string (P := Tryd.prog) 22 9 Tryd.underlying22 Tryd.underlying5 Tryd.underlying9 h9
      clear h9
      go_wp2
      go_ret
      exact ⟨rfl, hbel⟩

set_option maxHeartbeats 400000 in
theorem implShift_no (s : ByteArray) (w : World) (hs : ¬ s.size = 16) :
    Calls Tryd.prog 15 #[.string s] w fun e w' => e = .returned (.string s) ∧ Below w.heap.size w w' := by
  go_enter Tryd.func15, Tryd.ntmps15
  go_wp2
  go_ret
  exact ⟨rfl, Below.refl _ _⟩
end Go.Proofs.YtepnnmckbcomjaaDoor
