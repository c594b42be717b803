/- FnExactZeroText, FnExactWordText, FnExactXorText, FnExactNumText, FnExactNumAt: the laws' walks, over what the program's functions return. -/
import Derived.Test.YtenjaedhkleooaaNumSpec
namespace Go.Proofs.Ytenjaedhkleooaa
open Go.RowKit Go.Proofs.Ytenjaedhkleooaa.Hexa

set_option maxHeartbeats 400000 in
theorem zero_law_of (n : Int) (w : World)
    (h2 : ∀ w, Calls Try.prog 13 #[.int .i64 n] w fun e w' => e = .returned (.string (zeroB n)) ∧ Below w.heap.size w w') :
    Calls Try.prog 9 #[.int .i64 n] w fun e w' => e = .returned (.bool true) ∧ Below w.heap.size w w' := by
  have k1 := Lib.hid fun w => specZero_any n w
  have k2 := Lib.hid (h2)
  clear h2
  go_enter Try.func9, Try.ntmps9
  go_wp2_with (first
    | (go_at_call 26; refine (k1.out _).mono ?_; rintro e w1 ⟨rfl, hb1⟩)
    | (go_at_call 13; refine (k2.out _).mono ?_; rintro e w2 ⟨rfl, hb2⟩))
  go_ret
  exact ⟨rfl, hb1.trans (hb2.mono hb1.size)⟩

set_option maxHeartbeats 400000 in
theorem word_law_of (s : ByteArray) (w : World)
    (h2 : s.size ≤ 1048576 → ∀ w, Calls Try.prog 19 #[.string s] w fun e w' => e = .returned (.string (wordB s)) ∧ Below w.heap.size w w') :
    Calls Try.prog 6 #[.string s] w fun e w' => e = .returned (.bool true) ∧ Below w.heap.size w w' := by
  by_cases hs : s.size ≤ 1048576
  · skip
    have k1 := Lib.hid fun w => specWord_any s w
    have k2 := Lib.hid (h2 hs)
    clear h2
    go_enter Try.func6, Try.ntmps6
    go_wp2_with (first
      | (go_at_call 18; refine (k1.out _).mono ?_; rintro e w1 ⟨rfl, hb1⟩)
      | (go_at_call 19; refine (k2.out _).mono ?_; rintro e w2 ⟨rfl, hb2⟩))
    go_ret
    exact ⟨rfl, hb1.trans (hb2.mono hb1.size)⟩
  · have hn : 1048576 < s.size := by omega
    go_enter Try.func6, Try.ntmps6
    go_wp2
    go_ret
    exact ⟨rfl, Below.refl _ _⟩

set_option maxHeartbeats 400000 in
theorem xor_law_of (a : ByteArray) (b : ByteArray) (w : World)
    (h2 : a.size ≤ 1048576 → b.size ≤ 1048576 → ∀ w, Calls Try.prog 12 #[.string a, .string b] w fun e w' => e = .returned (.string (xorT a b)) ∧ Below w.heap.size w w') :
    Calls Try.prog 7 #[.string a, .string b] w fun e w' => e = .returned (.bool true) ∧ Below w.heap.size w w' := by
  by_cases ha : a.size ≤ 1048576
  · skip
    by_cases hb : b.size ≤ 1048576
    · skip
      have k1 := Lib.hid fun w => specXor_any a b w (by omega)
      have k2 := Lib.hid (h2 ha hb)
      clear h2
      go_enter Try.func7, Try.ntmps7
      go_wp2_with (first
        | (go_at_call 20; refine (k1.out _).mono ?_; rintro e w1 ⟨rfl, hb1⟩)
        | (go_at_call 12; refine (k2.out _).mono ?_; rintro e w2 ⟨rfl, hb2⟩))
      go_ret
      exact ⟨rfl, hb1.trans (hb2.mono hb1.size)⟩
    · have hn : 1048576 < b.size := by omega
      go_enter Try.func7, Try.ntmps7
      go_wp2
      go_ret
      exact ⟨rfl, Below.refl _ _⟩
  · have hn : 1048576 < a.size := by omega
    go_enter Try.func7, Try.ntmps7
    go_wp2
    go_ret
    exact ⟨rfl, Below.refl _ _⟩

theorem specNum_any (n width : Int) (w : World) (hn : n ≤ 9223372036854775807) :
    Calls Try.prog 14 #[.int .i64 n, .int .i64 width] w fun e w' => e = .returned (.string (numTextB n width)) ∧ Below w.heap.size w w' := by
  by_cases h : NumFits n width
  · have hE : numTextB n width = numB n.toNat width.toNat := by unfold numTextB; exact if_pos h
    obtain ⟨h0, ⟨h1, h7⟩, hf⟩ := h
    obtain ⟨m, rfl⟩ : ∃ m : Nat, n = m := ⟨n.toNat, by omega⟩
    obtain ⟨k, rfl⟩ : ∃ k : Nat, width = k := ⟨width.toNat, by omega⟩
    rw [hE]
    simp only [Int.toNat_natCast] at hf ⊢
    have e2 : (256 : Int) ^ k = ((256 ^ k : Nat) : Int) := by simp
    rw [e2] at hf
    exact specNum_yes m k w (by omega) (by omega) (by omega)
  · have hE : numTextB n width = ⟨#[]⟩ := by unfold numTextB; exact if_neg h
    rw [hE]
    exact (specNum_no n width w h hn).mono fun e w' ⟨he, hw⟩ => ⟨he, by rw [hw]; exact Below.refl _ _⟩

set_option maxHeartbeats 400000 in
theorem num_law_of (n : Int) (width : Int) (w : World) (hn : n ≤ 9223372036854775807)
    (h2 : ∀ w, Calls Try.prog 15 #[.int .i64 n, .int .i64 width] w fun e w' => e = .returned (.string (numTextB n width)) ∧ Below w.heap.size w w') :
    Calls Try.prog 4 #[.int .i64 n, .int .i64 width] w fun e w' => e = .returned (.bool true) ∧ Below w.heap.size w w' := by
  have k1 := Lib.hid fun w => specNum_any n width w hn
  have k2 := Lib.hid (h2)
  clear h2
  go_enter Try.func4, Try.ntmps4
  go_wp2_with (first
    | (go_at_call 14; refine (k1.out _).mono ?_; rintro e w1 ⟨rfl, hb1⟩)
    | (go_at_call 15; refine (k2.out _).mono ?_; rintro e w2 ⟨rfl, hb2⟩))
  go_ret
  exact ⟨rfl, hb1.trans (hb2.mono hb1.size)⟩

theorem specNumAt_any (s : ByteArray) (a width : Int) (w : World) (hs : s.size ≤ 100000000) (hw0 : -9223372036854775808 ≤ width) (hw1 : width ≤ 9223372036854775807) :
    Calls Try.prog 16 #[.string s, .int .i64 a, .int .i64 width] w fun e w' => e = .returned (.tuple #[.int .i64 (numAtV s a width), .bool (numAtB s a width)]) ∧ Below w.heap.size w w' := by
  by_cases h : NumThere s a width
  · have hV : numAtV s a width = numV (cutL s a.toNat width.toNat) := by unfold numAtV; exact if_pos h
    have hB : numAtB s a width = true := decide_eq_true h
    rw [hV, hB]
    obtain ⟨⟨h1, h7⟩, h0, ha⟩ := h
    obtain ⟨k, rfl⟩ : ∃ k : Nat, width = k := ⟨width.toNat, by omega⟩
    obtain ⟨j, rfl⟩ : ∃ j : Nat, a = j := ⟨a.toNat, by omega⟩
    simp only [Int.toNat_natCast]
    exact (specNumAt_yes s j k w hs (by omega) (by omega) (by omega)).mono fun e w' ⟨he, hw⟩ => ⟨he, by rw [hw]; exact Below.refl _ _⟩
  · have hV : numAtV s a width = 0 := by unfold numAtV; exact if_neg h
    have hB : numAtB s a width = false := decide_eq_false h
    rw [hV, hB]
    exact (specNumAt_no s a width w hs hw0 hw1 h).mono fun e w' ⟨he, hw⟩ => ⟨he, by rw [hw]; exact Below.refl _ _⟩

set_option maxHeartbeats 400000 in
theorem numAt_law_of (s : ByteArray) (a : Int) (width : Int) (w : World) (hw0 : -9223372036854775808 ≤ width) (hw1 : width ≤ 9223372036854775807)
    (h2 : s.size ≤ 1048576 → ∀ w, Calls Try.prog 17 #[.string s, .int .i64 a, .int .i64 width] w fun e w' => e = .returned (.tuple #[.int .i64 (numAtV s a width), .bool (numAtB s a width)]) ∧ Below w.heap.size w w') :
    Calls Try.prog 5 #[.string s, .int .i64 a, .int .i64 width] w fun e w' => e = .returned (.bool true) ∧ Below w.heap.size w w' := by
  by_cases hs : s.size ≤ 1048576
  · skip
    have k1 := Lib.hid fun w => specNumAt_any s a width w (by omega) hw0 hw1
    have k2 := Lib.hid (h2 hs)
    clear h2
    generalize numAtV s a width = rv at k1 k2
    generalize numAtB s a width = rb at k1 k2
    go_enter Try.func5, Try.ntmps5
    go_wp2_with (first
      | (go_at_call 16; refine (k1.out _).mono ?_; rintro e w1 ⟨rfl, hb1⟩)
      | (go_at_call 17; refine (k2.out _).mono ?_; rintro e w2 ⟨rfl, hb2⟩))
    go_ret
    exact ⟨rfl, hb1.trans (hb2.mono hb1.size)⟩
  · have hn : 1048576 < s.size := by omega
    go_enter Try.func5, Try.ntmps5
    go_wp2
    go_ret
    exact ⟨rfl, Below.refl _ _⟩

end Go.Proofs.Ytenjaedhkleooaa
