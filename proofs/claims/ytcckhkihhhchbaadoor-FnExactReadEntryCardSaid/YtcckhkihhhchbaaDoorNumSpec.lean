/- The model's chapter 4: bytes and words. -/
import Derived.Test.YtcckhkihhhchbaaDoorZeroSpec
import Derived.Test.YtcckhkihhhchbaaDoorNumTSpec
namespace Go.Proofs.YtcckhkihhhchbaaDoor
open Go.RowKit Go.Proofs.YtcckhkihhhchbaaDoor.Hexa Go.Proofs.YtcckhkihhhchbaaDoor.Byt Go.Proofs.YtcckhkihhhchbaaDoor.BitsM Go.Proofs.YtcckhkihhhchbaaDoor.Parts

set_option maxRecDepth 100000 in
set_option maxHeartbeats 400000 in
theorem specWord_any (s : ByteArray) (w : World) :
    Calls Tryd.prog 78 #[.string s] w fun e w' => e = .returned (.string (wordB s)) ∧ Below w.heap.size w w' := by
  by_cases h : s.size ≤ 8
  · have HE : Hid (wordB s = s ++ longB (8 - s.size) 0) := Lib.hid (if_pos h)
    have hsz : s.size + (longB (8 - s.size) 0).size ≤ 8 := by rw [longB_size]; omega
    have hz := zeroB_of s h
    go_enter Tryd.func78, Tryd.ntmps78
    go_wp2_with (first
      | (go_at_call 62; refine (specZero_any _ _).mono ?_; rintro e w2 ⟨rfl, hb2⟩; rw [hz]))
    go_ret
    exact ⟨by rw [HE.out]; rfl, hb2⟩
  · have HE : Hid (wordB s = ⟨#[]⟩) := Lib.hid (if_neg h)
    have hlt : 8 < s.size := by omega
    go_enter Tryd.func78, Tryd.ntmps78
    go_wp2
    go_ret
    exact ⟨by rw [HE.out]; rfl, Below.refl _ _⟩

set_option maxRecDepth 100000 in
set_option maxHeartbeats 1000000 in
theorem specNumAt_yes (s : ByteArray) (a k : Nat) (w : World) (hs : s.size ≤ 100000000) (hk : 1 ≤ k) (hk' : k ≤ 7) (ha : a + k ≤ s.size) :
    Calls Tryd.prog 61 #[.string s, .int .i64 a, .int .i64 k] w fun e w' => e = .returned (.tuple #[.int .i64 (numV (cutL s a k)), .bool true]) ∧ w' = w := by
  have HR : Hid ((1 : Int) ≤ (k : Int) ∧ (k : Int) ≤ 7) := Lib.hid (by omega)
  have HR2 : Hid ((0 : Int) ≤ (a : Int) ∧ (a : Int) ≤ (s.size : Int) - k) := Lib.hid (by omega)
  go_enter Tryd.func61, Tryd.ntmps61
  go_wp2_with fail
  refine (range_yes _ HR.out).mono ?_
  rintro e w0 ⟨rfl, rfl⟩
  go_wp2_with fail
  refine (range_yes _ HR2.out).mono ?_
  rintro e w1 ⟨rfl, rfl⟩
  go_wp2
  go_loopw [8, 9] (fun nv iv wr => ∃ (j v : Nat), j ≤ k ∧ iv = .int .i64 ((a : Int) + j) ∧ nv = .int .i64 v ∧ v < 72057594037927936 ∧ Hid (v = numV (cutL s a j)) ∧ wr = w1) (fun _ iv _ => ((a : Int) + k - intOf iv).toNat)
  case atStart => exact ⟨0, 0, Nat.zero_le _, by go_num, rfl, by omega, Lib.hid (by simp [cutL, numV]), rfl⟩
  case round =>
    obtain ⟨j, v, hj, rfl, rfl, hv, HV, rfl⟩ := hrel
    by_cases hlt : j < k
    · have hin : a + j < s.size := by omega
      have hb := (s[a + j]'hin).toNat_lt
      have e1 : ((a : Int) + j).toNat = a + j := by omega
      have hv2 : v < 256 ^ j := by
        have := numV_lt (cutL s a j)
        rw [cutL_length s a j (by omega)] at this
        rw [HV.out]; exact this
      have hv3 : 256 * v + (s[a + j]'hin).toNat < 72057594037927936 := by
        have h7 : 256 ^ j ≤ 256 ^ 6 := Nat.pow_le_pow_right (by omega) (by omega)
        have h8 : 256 * 256 ^ 6 = 72057594037927936 := by decide
        omega
      have HN : Hid (256 * v + (s[a + j]'hin).toNat = numV (cutL s a (j + 1))) := Lib.hid (by rw [← cutL_next s a j hin, numV_snoc, HV.out])
      clear hv2
      go_wp2
      go_roundw
      case rel => exact ⟨j + 1, 256 * v + (s[a + j]'hin).toNat, by omega, by go_num, by go_num, hv3, HN, by first | rfl | trivial⟩
      case measure => simp [intOf]; omega
    · obtain rfl : j = k := by omega
      go_wp2
      go_ret2
      exact ⟨ret_pair (by rw [HV.out]), rfl⟩

set_option maxRecDepth 100000 in
set_option maxHeartbeats 1000000 in
theorem specNumAt_no (s : ByteArray) (a width : Int) (w : World) (hs : s.size ≤ 100000000) (hw0 : -9223372036854775808 ≤ width) (hw1 : width ≤ 9223372036854775807) (h : ¬ NumThere s a width) :
    Calls Tryd.prog 61 #[.string s, .int .i64 a, .int .i64 width] w fun e w' => e = .returned (.tuple #[.int .i64 0, .bool false]) ∧ w' = w := by
  by_cases hr : 1 ≤ width ∧ width ≤ 7
  · have hq : ¬ (0 ≤ a ∧ a ≤ (s.size : Int) - width) := fun hq => h ⟨hr, hq⟩
    have HR := Lib.hid hr
    have HQ := Lib.hid hq
    obtain ⟨h1, h2⟩ := hr
    clear h hq
    go_enter Tryd.func61, Tryd.ntmps61
    go_wp2_with fail
    refine (range_yes _ HR.out).mono ?_
    rintro e w0 ⟨rfl, rfl⟩
    go_wp2_with fail
    refine (range_no _ HQ.out).mono ?_
    rintro e w1 ⟨rfl, rfl⟩
    go_wp2
    go_ret2
    exact ⟨rfl, rfl⟩
  · have HR := Lib.hid hr
    clear h hr
    go_enter Tryd.func61, Tryd.ntmps61
    go_wp2_with (first
      | (go_at_call 40; refine (range_no _ HR.out).mono ?_; rintro e w1 ⟨rfl, rfl⟩))
    go_ret2
    exact ⟨rfl, rfl⟩
theorem specNumAt_any (s : ByteArray) (a width : Int) (w : World) (hs : s.size ≤ 100000000) (hw0 : -9223372036854775808 ≤ width) (hw1 : width ≤ 9223372036854775807) :
    Calls Tryd.prog 61 #[.string s, .int .i64 a, .int .i64 width] w fun e w' => e = .returned (.tuple #[.int .i64 (numAtV s a width), .bool (numAtB s a width)]) ∧ Below w.heap.size w w' := by
  by_cases h : NumThere s a width
  · have hV : numAtV s a width = numV (cutL s a.toNat width.toNat) := by unfold numAtV; exact if_pos h
    have hB : numAtB s a width = true := decide_eq_true h
    rw [hV, hB]
    obtain ⟨⟨h1, h7⟩, h0, ha⟩ := h
    obtain ⟨k, rfl⟩ : ∃ k : Nat, width = k := ⟨width.toNat, by omega⟩
    obtain ⟨j, rfl⟩ : ∃ j : Nat, a = j := ⟨a.toNat, by omega⟩
    simp only [Int.toNat_natCast]
    exact (specNumAt_yes s j k w hs (by omega) (by omega) (by omega)).mono fun e w' ⟨he, hw⟩ => ⟨he, by rw [hw]; exact Below.refl _ _⟩
  · have hV : numAtV s a width = 0 := by unfold numAtV; exact if_neg h
    have hB : numAtB s a width = false := decide_eq_false h
    rw [hV, hB]
    exact (specNumAt_no s a width w hs hw0 hw1 h).mono fun e w' ⟨he, hw⟩ => ⟨he, by rw [hw]; exact Below.refl _ _⟩
end Go.Proofs.YtcckhkihhhchbaaDoor
