/- The model's NumText. -/
import Derived.Test.YtmcelfiljnlmoaaRangeSpec
import Derived.Test.YtmcelfiljnlmoaaNumMath
namespace Go.Proofs.Ytmcelfiljnlmoaa
open Go.RowKit Go.Proofs.Ytmcelfiljnlmoaa.Hexa Go.Proofs.Ytmcelfiljnlmoaa.Byt Go.Proofs.Ytmcelfiljnlmoaa.BitsM Go.Proofs.Ytmcelfiljnlmoaa.Parts

set_option maxRecDepth 100000 in
set_option maxHeartbeats 1000000 in
theorem specNum_yes (m k : Nat) (w : World) (hk : 1 ≤ k) (hk' : k ≤ 7) (hm : m < 256 ^ k) :
    Calls Try.prog 75 #[.int .i64 m, .int .i64 k] w fun e w' => e = .returned (.string (numB m k)) ∧ Below w.heap.size w w' := by
  have hmb : m < 72057594037927936 := Nat.lt_of_lt_of_le hm (Nat.le_trans (Nat.pow_le_pow_right (by omega) hk') (by decide))
  have hq := shift_zero hm
  have h0 : ¬ ((m : Int) < 0) := by omega
  have HR : Hid ((1 : Int) ≤ (k : Int) ∧ (k : Int) ≤ 7) := Lib.hid (by omega)
  clear hm
  go_enter Try.func75, Try.ntmps75
  go_wp2_with (first
    | (go_at_call 64; refine (range_yes _ HR.out).mono ?_; rintro e w1 ⟨rfl, rfl⟩))
  try rw [hq]
  clear hq
  go_loopw [5, 6] (fun v iv wr => ∃ j : Nat, j ≤ k ∧ iv = .int .i64 ((k : Int) - 1 - j) ∧ Bytes wr w1.heap.size 5 v (numL m k j) ∧ Below w1.heap.size w1 wr)
    (fun _ iv _ => (intOf iv + 1).toNat)
  case atStart => exact ⟨0, Nat.zero_le _, by go_num, bytes_of_own (l := []) (World.ownsRow_lit w1 #[] 0 (Nat.le_refl _) (by decide) rfl), (Below.refl _ _).alloc (Nat.le_refl _) _⟩
  case round =>
    obtain ⟨j, hj, rfl, hb, hg⟩ := hrel
    obtain ⟨a, c, rfl⟩ := bytes_len hb
    have hl := numL_length m k j
    by_cases hlt : j < k
    · have hw : IntKind.u64.wrap ((k : Int) - 1 - j) = (k : Int) - 1 - j := IntWalk.u64_in _ (by omega)
      have hsh : ((k : Int) - 1 - j).toNat = k - 1 - j := by omega
      have hge : 0 ≤ (k : Int) - 1 - j := by omega
      go_wp2_with (first
        | (at_builtin; refine wpList_append_out rfl (.tmp 29) (.tmp 36) 48 48 rfl _ _ rfl rfl (outB _ hb hg.size _ (UInt8.ofNat (m / 256 ^ (k - 1 - j))) _ (num_byte m (k - 1 - j)) (by omega)) ?_; intro v1 w2 hb1 hg1))
      rw [numL_next] at hb1
      go_roundw
      case rel => exact ⟨j + 1, by omega, by go_num, hb1, (hg.alloc hg.size _).trans hg1⟩
      case measure => simp [intOf]; omega
    · obtain rfl : j = k := by omega
      have hconv := bytes_string (P := Try.prog) 48 9 Try.underlying48 Try.underlying5 Try.underlying9 hb
      rw [hl] at hconv
      go_wp2
      go_ret
      exact ⟨rfl, hg⟩

set_option maxRecDepth 100000 in
set_option maxHeartbeats 1000000 in
theorem specNum_no (n width : Int) (w : World) (h : ¬ NumFits n width) (hn : n ≤ 9223372036854775807) :
    Calls Try.prog 75 #[.int .i64 n, .int .i64 width] w fun e w' => e = .returned (.string ⟨#[]⟩) ∧ w' = w := by
  by_cases h0 : n < 0
  · go_enter Try.func75, Try.ntmps75
    go_wp2
    go_ret
    exact ⟨rfl, rfl⟩
  · by_cases hr : 1 ≤ width ∧ width ≤ 7
    · have hbig : ¬ n < 256 ^ width.toNat := fun hlt => h ⟨by omega, hr, hlt⟩
      obtain ⟨k, rfl⟩ : ∃ k : Nat, width = k := ⟨width.toNat, by omega⟩
      obtain ⟨m, rfl⟩ : ∃ m : Nat, n = m := ⟨n.toNat, by omega⟩
      have hm : 256 ^ k ≤ m := by
        have e : ((k : Int).toNat) = k := by omega
        rw [e] at hbig
        have e2 : (256 : Int) ^ k = ((256 ^ k : Nat) : Int) := by simp
        rw [e2] at hbig
        omega
      have hq := shift_pos hm
      have HR := Lib.hid hr
      have hk7 : k ≤ 7 := by omega
      clear h hbig hm hr
      go_enter Try.func75, Try.ntmps75
      go_wp2_with (first
        | (go_at_call 64; refine (range_yes _ HR.out).mono ?_; rintro e w1 ⟨rfl, rfl⟩))
      go_ret
      exact ⟨rfl, rfl⟩
    · have HR := Lib.hid hr
      clear h hr
      go_enter Try.func75, Try.ntmps75
      go_wp2_with (first
        | (go_at_call 64; refine (range_no _ HR.out).mono ?_; rintro e w1 ⟨rfl, rfl⟩))
      go_ret
      exact ⟨rfl, rfl⟩

theorem specNum_any (n width : Int) (w : World) (hn : n ≤ 9223372036854775807) :
    Calls Try.prog 75 #[.int .i64 n, .int .i64 width] w fun e w' => e = .returned (.string (numTextB n width)) ∧ Below w.heap.size w w' := by
  by_cases h : NumFits n width
  · have hE : numTextB n width = numB n.toNat width.toNat := by unfold numTextB; exact if_pos h
    obtain ⟨h0, ⟨h1, h7⟩, hf⟩ := h
    obtain ⟨m, rfl⟩ : ∃ m : Nat, n = m := ⟨n.toNat, by omega⟩
    obtain ⟨k, rfl⟩ : ∃ k : Nat, width = k := ⟨width.toNat, by omega⟩
    rw [hE]
    simp only [Int.toNat_natCast] at hf ⊢
    have e2 : (256 : Int) ^ k = ((256 ^ k : Nat) : Int) := by simp
    rw [e2] at hf
    exact specNum_yes m k w (by omega) (by omega) (by omega)
  · have hE : numTextB n width = ⟨#[]⟩ := by unfold numTextB; exact if_neg h
    rw [hE]
    exact (specNum_no n width w h hn).mono fun e w' ⟨he, hw⟩ => ⟨he, by rw [hw]; exact Below.refl _ _⟩
end Go.Proofs.Ytmcelfiljnlmoaa
