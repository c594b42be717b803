/- The program's box. -/
import Derived.Test.YtepnnmckbcomjaaDoorPowImpl
namespace Go.Proofs.YtepnnmckbcomjaaDoor
open Go.RowKit Go.Proofs.YtepnnmckbcomjaaDoor.Fld Go.Proofs.YtepnnmckbcomjaaDoor.BitsM

/-- A byte turned by k bits. -/
def rot (b k : Nat) : Nat := ((b * 2 ^ k) ||| (b / 2 ^ (8 - k))) &&& 255
theorem rot_lt (b k : Nat) : rot b k < 256 := Nat.lt_of_le_of_lt Nat.and_le_right (by omega)
theorem rot_zero (b : Nat) (h : b < 256) : rot b 0 = b := by
  have := all256 (p := fun b => rot b 0 == b) (by decide +kernel) b h
  simpa using this
theorem turn_next (b k : Nat) : turnF b (k + 1) = turnF b k ^^^ rot b k := rfl
theorem rot_or (b k : Nat) (hb : b < 256) : (b * 2 ^ k % 256) ||| (b / 2 ^ (8 - k)) = rot b k := by
  have h1 : b / 2 ^ (8 - k) < 256 := Nat.lt_of_le_of_lt (Nat.div_le_self _ _) hb
  have e (x : Nat) : x &&& 255 = x % 256 := Nat.and_two_pow_sub_one_eq_mod x 8
  unfold rot
  rw [Nat.and_or_distrib_right, e, e, Nat.mod_eq_of_lt h1]

theorem u8n (a : Nat) (h : a < 256) : ((UInt8.ofNat a).toNat : Int) = (a : Int) := by
  rw [UInt8.toNat_ofNat', Nat.mod_eq_of_lt h]
theorem xor8n (a b : Nat) (ha : a < 256) (hb : b < 256) : bits .xor .u8 (a : Int) (b : Int) = ((a ^^^ b : Nat) : Int) := by
  rw [← u8n a ha, ← u8n b hb, xor8, UInt8.toNat_xor, UInt8.toNat_ofNat', UInt8.toNat_ofNat', Nat.mod_eq_of_lt ha, Nat.mod_eq_of_lt hb]
theorem or8n (a b : Nat) (ha : a < 256) (hb : b < 256) : bits .or .u8 (a : Int) (b : Int) = ((a ||| b : Nat) : Int) := by
  rw [← u8n a ha, ← u8n b hb, or8, UInt8.toNat_or, UInt8.toNat_ofNat', UInt8.toNat_ofNat', Nat.mod_eq_of_lt ha, Nat.mod_eq_of_lt hb]
theorem rot_bits (b k c d : Nat) (hb : b < 256) (hc : 2 ^ k = c) (hd : 2 ^ (8 - k) = d) : bits .or .u8 ((b : Int) * (c : Nat) % 256) ((b : Int) / (d : Nat)) = (rot b k : Int) := by
  have e1 : (b : Int) * (c : Nat) % 256 = ((b * 2 ^ k % 256 : Nat) : Int) := by rw [hc]; simp
  have e2 : (b : Int) / (d : Nat) = ((b / 2 ^ (8 - k) : Nat) : Int) := by rw [hd]; simp
  rw [e1, e2, or8n _ _ (by omega) (Nat.lt_of_le_of_lt (Nat.div_le_self _ _) hb), rot_or b k hb]
theorem ret_u8 {a b : Int} (h : a = b) : Ending.returned (.int .u8 a) = .returned (.int .u8 b) := by rw [h]

set_option maxHeartbeats 1000000 in
theorem rotl_any (b k : Nat) (w : World) (hb : b < 256) (h1 : k < 4) : Calls Tryd.prog 41 #[.int .u8 b, .int .i64 ((k : Int) + 1)] w fun e w' => e = .returned (.int .u8 (rot b (k + 1))) ∧ w' = w := by
  have hk : k = 0 ∨ k = 1 ∨ k = 2 ∨ k = 3 := by omega
  have y1 : bits .and .u64 1 7 = 1 := by decide
  have y2 : bits .and .u64 2 7 = 2 := by decide
  have y3 : bits .and .u64 3 7 = 3 := by decide
  have y4 : bits .and .u64 4 7 = 4 := by decide
  rcases hk with rfl | rfl | rfl | rfl
  all_goals
    go_enter Tryd.func41, Tryd.ntmps41
    go_wp2
    go_ret
  · exact ⟨ret_u8 (rot_bits b 1 2 128 hb rfl rfl), rfl⟩
  · exact ⟨ret_u8 (rot_bits b 2 4 64 hb rfl rfl), rfl⟩
  · exact ⟨ret_u8 (rot_bits b 3 8 32 hb rfl rfl), rfl⟩
  · exact ⟨ret_u8 (rot_bits b 4 16 16 hb rfl rfl), rfl⟩

set_option maxHeartbeats 1000000 in
theorem implBox_id (a : Int) (w : World) : Calls Tryd.prog 29 #[.int .i64 a] w fun e w' => e = .returned (.int .i64 (boxI a)) ∧ w' = w := by
  by_cases h : 0 ≤ a ∧ a ≤ 255
  · have hl := invI_lt a
    have hE : boxI a = (turnF (invI a).toNat 5 : Int) := if_pos h
    have hi := implInverse_id a
    obtain ⟨b, hb⟩ : ∃ b : Nat, invI a = b := ⟨(invI a).toNat, by omega⟩
    rw [hb] at hi hl hE
    rw [Int.toNat_natCast] at hE
    have hb2 : b < 256 := by omega
    have HE := Lib.hid hE
    have HI := Lib.hid hi
    have HB : Hid (IsByte a) := Lib.hid h
    have hx := xor8n b 99 hb2 (by decide)
    rw [show ((99 : Nat) : Int) = 99 from rfl] at hx
    have H0 : Hid (b ^^^ 99 = turnF b 1) := Lib.hid (by rw [turn_next, rot_zero b hb2]; exact Nat.xor_comm b 99)
    have hx0 : b ^^^ 99 < 256 := xor_lt hb2 (by decide)
    clear h hi hl hE hb
    go_enter Tryd.func29, Tryd.ntmps29
    go_wp2_with fail
    refine (isElem_yes _ HB.out).mono ?_
    rintro e w1 ⟨rfl, rfl⟩
    go_wp2_with fail
    refine (HI.out _).mono ?_
    rintro e w2 ⟨rfl, rfl⟩
    go_wp2
    go_loopw [4, 14] (fun ov kv wr => ∃ k out : Nat, k ≤ 4 ∧ out < 256 ∧ kv = .int .i64 k ∧ ov = .int .u8 out ∧ Hid (out = turnF b (k + 1)) ∧ wr = w2)
      (fun _ kv _ => 4 - (intOf kv).toNat)
    case atStart => exact ⟨0, b ^^^ 99, by omega, hx0, rfl, by go_num, H0, rfl⟩
    case round =>
      obtain ⟨k, out, hk, ho, rfl, rfl, HR, rfl⟩ := hrel
      clear hx H0 hx0
      by_cases hlt : k < 4
      · have hr := rot_lt b (k + 1)
        have HN : Hid (out ^^^ rot b (k + 1) = turnF b (k + 1 + 1)) := Lib.hid (by rw [turn_next, ← HR.out])
        have hx := xor8n out (rot b (k + 1)) ho hr
        have hl := xor_lt ho hr
        have HC := Lib.hid (fun w => rotl_any b k w hb2 hlt)
        generalize rot b (k + 1) = r at hr HN hx hl HC
        go_wp2_with fail
        refine (HC.out _).mono ?_
        rintro e w3 ⟨rfl, rfl⟩
        go_wp2
        go_roundw
        case rel => exact ⟨k + 1, out ^^^ r, by omega, hl, by go_num, by go_num, HN, by first | rfl | trivial⟩
        case measure => simp [intOf]; omega
      · obtain rfl : k = 4 := by omega
        go_wp2
        go_ret
        exact ⟨ret_int (by rw [HE.out, ← HR.out]), rfl⟩
  · have HE : Hid (boxI a = 0) := Lib.hid (if_neg h)
    have HB : Hid (¬ IsByte a) := Lib.hid h
    clear h
    go_enter Tryd.func29, Tryd.ntmps29
    go_wp2_with fail
    refine (isElem_no _ HB.out).mono ?_
    rintro e w1 ⟨rfl, rfl⟩
    go_wp2
    go_ret
    exact ⟨ret_int (by rw [HE.out]), rfl⟩
theorem implBox_any (a : Int) (w : World) : Calls Tryd.prog 29 #[.int .i64 a] w fun e w' => e = .returned (.int .i64 (boxI a)) ∧ Below w.heap.size w w' :=
  (implBox_id a w).mono fun _ _ h => below_same h
end Go.Proofs.YtepnnmckbcomjaaDoor
