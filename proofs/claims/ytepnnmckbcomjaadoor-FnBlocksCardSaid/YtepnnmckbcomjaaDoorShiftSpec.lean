/- The model's rows shifted. -/
import Derived.Test.YtepnnmckbcomjaaDoorAesMem
namespace Go.Proofs.YtepnnmckbcomjaaDoor
open Go.RowKit Go.Proofs.YtepnnmckbcomjaaDoor.Hexa Go.Proofs.YtepnnmckbcomjaaDoor.Byt Go.Proofs.YtepnnmckbcomjaaDoor.Aes

theorem shiftAt_place (l : List UInt8) (c r : Nat) (hr : r < 4) : shiftAt l (4 * c + r) = l.getD (4 * ((c + r) % 4) + r) 0 := by
  unfold shiftAt
  rw [show (4 * c + r) / 4 = c by omega, show (4 * c + r) % 4 = r by omega]

set_option maxHeartbeats 1000000 in
theorem specShift_yes (s : ByteArray) (w : World) (hs : s.size = 16) :
    Calls Tryd.prog 35 #[.string s] w fun e w' => e = .returned (.string ⟨(shiftL s.data.toList).toArray⟩) ∧ Below w.heap.size w w' := by
  obtain ⟨i0, hi, hz0, hz1, hz2⟩ := info_parts infoByte
  go_enter Tryd.func35, Tryd.ntmps35
  go_wp2_with (at_make; refine wpList_make_full _ rfl _ _ 22 rfl w.heap.size 5 i0 (.int .u8 0) 1 Tryd.underlying22 hi hz0 hz1 .i64 .i64 _ _ 16 rfl rfl rfl rfl (by rw [hz2]; omega) (by unfold maxLen; omega) (Nat.le_refl _) ?_; intro w0 hown0 hgrow0)
  have hg0 : Below w.heap.size w w0 := (Below.refl _ _).grown hgrow0 (Nat.le_refl _) (fun k h => by cases h)
  have HO0 := Lib.hid (part_start hown0)
  clear hown0 hgrow0
  go_loopw [4] (fun cv wr => ∃ c : Nat, c ≤ 4 ∧ cv = .int .i64 c ∧ Hid (Bytes wr w.heap.size 5 (.slice (some ⟨w.heap.size, 0, none⟩) 16 16) (partB (mapTo (shiftAt s.data.toList) (4 * c)) 16)) ∧ Below w.heap.size w wr)
    (fun cv _ => 4 - (intOf cv).toNat)
  case atStart => exact ⟨0, Nat.zero_le _, rfl, HO0, hg0⟩
  case round =>
    clear HO0 hg0
    obtain ⟨c, hc, rfl, HW, hbel⟩ := hrel
    by_cases hlt : c < 4
    · have hd : decide ((c : Int) < 4) = true := decide_eq_true (by omega)
      go_wp2
      clear hd
      go_loopw [5] (fun rv wq => ∃ r : Nat, r ≤ 4 ∧ rv = .int .i64 r ∧ Hid (Bytes wq w.heap.size 5 (.slice (some ⟨w.heap.size, 0, none⟩) 16 16) (partB (mapTo (shiftAt s.data.toList) (4 * c + r)) 16)) ∧ Below w.heap.size w wq)
        (fun rv _ => 4 - (intOf rv).toNat)
      case atStart => exact ⟨0, Nat.zero_le _, rfl, HW, hbel⟩
      case round =>
        clear HW hbel
        obtain ⟨r, hr, rfl, HW, hbel⟩ := hrel
        by_cases hrt : r < 4
        · have hp : 4 * c + r < 16 := by omega
          have hq : 4 * ((c + r) % 4) + r < s.size := by omega
          have hl := mapTo_length (shiftAt s.data.toList) (4 * c + r)
          have hsa := shiftAt_place s.data.toList c r hrt
          have hta := text_at s (4 * ((c + r) % 4) + r) hq
          obtain ⟨⟨v, c3⟩, z3, hB⟩ := part_at HW.out (by omega)
          have N3 := part_next HW.out (shiftAt s.data.toList (4 * c + r)) (by omega)
          rw [hl] at c3 z3
          rw [hl, mapTo_next, hsa, ← hta] at N3
          have HN3 := Lib.hid N3
          have hb3 : Below w.heap.size w (wr.setCell ⟨w.heap.size, 4 * c + r, none⟩ (.int .u8 ((s[4 * ((c + r) % 4) + r]'hq).toNat : Int))) := hbel.setCell (Nat.le_refl _) _
          clear N3 hta hsa
          go_wp2
          go_roundw
          case rel => exact ⟨r + 1, by omega, by go_num, HN3, hb3⟩
          case measure => (simp [intOf]; try omega)
        · obtain rfl : r = 4 := by omega
          go_wp2
          go_roundw
          case rel => exact ⟨c + 1, by omega, by go_num, HW, hbel⟩
          case measure => (simp [intOf]; try omega)
    · obtain rfl : c = 4 := by omega
      have hl := mapTo_length (shiftAt s.data.toList) 16
      have h9 := HW.out
      rw [partB_full _ _ hl] at h9
      have hconv := bytes_string (P := Tryd.prog) 22 9 Tryd.underlying22 Tryd.underlying5 Tryd.underlying9 h9
      clear h9
      go_wp2
      go_ret
      exact ⟨rfl, hbel⟩

set_option maxHeartbeats 400000 in
theorem specShift_no (s : ByteArray) (w : World) (hs : ¬ s.size = 16) :
    Calls Tryd.prog 35 #[.string s] w fun e w' => e = .returned (.string s) ∧ Below w.heap.size w w' := by
  go_enter Tryd.func35, Tryd.ntmps35
  go_wp2
  go_ret
  exact ⟨rfl, Below.refl _ _⟩
end Go.Proofs.YtepnnmckbcomjaaDoor
