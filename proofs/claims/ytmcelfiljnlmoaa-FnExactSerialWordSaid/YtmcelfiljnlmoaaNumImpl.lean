/- The program's NumText. -/
import Derived.Test.YtmcelfiljnlmoaaMade
import Derived.WalkKit
import Derived.WalkSpells
import Derived.WalkLawsBesides
import Derived.Deep.RegionLaw
import Derived.Lib.Hide
namespace Go.Proofs.Ytmcelfiljnlmoaa
open Go.RowKit Go.Proofs.Ytmcelfiljnlmoaa.Hexa Go.Proofs.Ytmcelfiljnlmoaa.Byt Go.Proofs.Ytmcelfiljnlmoaa.BitsM

set_option maxRecDepth 100000 in
set_option maxHeartbeats 1000000 in
theorem implNum_yes (m k : Nat) (w : World) (hk : 1 ≤ k) (hk' : k ≤ 7) (hm : m < 256 ^ k) :
    Calls Try.prog 77 #[.int .i64 m, .int .i64 k] w fun e w' => e = .returned (.string (numB m k)) ∧ Below w.heap.size w w' := by
  obtain ⟨i0, hi, hz0, hz1, hz2⟩ := info_parts infoByte
  have hmb : m < 72057594037927936 := Nat.lt_of_lt_of_le hm (Nat.le_trans (Nat.pow_le_pow_right (by omega) hk') (by decide))
  have hq := shift_zero hm
  have h0 : ¬ ((m : Int) < 0) := by omega
  have hsh0 : (8 * (k : Int)).toNat = 8 * k := by omega
  clear hm
  go_enter Try.func77, Try.ntmps77
  go_wp2_with (at_make; refine wpList_make_full _ rfl _ _ 48 rfl w.heap.size 5 i0 (.int .u8 0) 1 Try.underlying48 hi hz0 hz1 .i64 .i64 _ _ k rfl rfl rfl rfl (by rw [hz2]; omega) (by unfold maxLen; omega) (Nat.le_refl _) ?_; intro w0 hown0 hgrow0)
  have hg0 : Below w.heap.size w w0 := (Below.refl _ _).grown hgrow0 (Nat.le_refl _) (fun k h => by cases h)
  have HO0 := Lib.hid (part_start hown0)
  clear hown0 hgrow0 hq hsh0
  go_loopw [6, 28] (fun jv iv wr => ∃ j : Nat, j ≤ k ∧ iv = .int .i64 j ∧ Hid (Bytes wr w.heap.size 5 (.slice (some ⟨w.heap.size, 0, none⟩) k k) (partB (numL m k j) k)) ∧ Below w.heap.size w wr)
    (fun _ iv _ => k - (intOf iv).toNat)
  case atStart => exact ⟨0, Nat.zero_le _, rfl, HO0, hg0⟩
  case round =>
    clear HO0 hg0
    obtain ⟨j, hj, rfl, HW, hbel⟩ := hrel
    have hl := numL_length m k j
    by_cases hlt : j < k
    · have hsh : (8 * ((k : Int) - 1 - j)).toNat = 8 * (k - 1 - j) := by omega
      have hge : 0 ≤ (k : Int) - 1 - j := by omega
      have hby := num_byte m (k - 1 - j)
      have HNX := Lib.hid (numL_next m k j)
      obtain ⟨⟨v, c3⟩, z3, hB⟩ := part_at HW.out (by omega)
      have N3 := Lib.hid (part_next HW.out (UInt8.ofNat (m / 256 ^ (k - 1 - j))) (by omega))
      rw [hl] at c3 z3 N3
      rw [HNX.out] at N3
      generalize UInt8.ofNat (m / 256 ^ (k - 1 - j)) = z at hby N3
      have hb1 : Below w.heap.size w (wr.setCell ⟨w.heap.size, j, none⟩ (.int .u8 (z.toNat : Int))) := hbel.setCell (Nat.le_refl _) _
      clear HNX
      go_wp2
      go_roundw
      case rel => exact ⟨j + 1, by omega, by go_num, N3, hb1⟩
      case measure => (simp [intOf]; try omega)
    · obtain rfl : j = k := by omega
      have h9 := HW.out
      rw [partB_full _ _ hl] at h9
      have hconv := bytes_string (P := Try.prog) 48 9 Try.underlying48 Try.underlying5 Try.underlying9 h9
      clear h9
      go_wp2
      go_ret
      exact ⟨rfl, hbel⟩
end Go.Proofs.Ytmcelfiljnlmoaa
