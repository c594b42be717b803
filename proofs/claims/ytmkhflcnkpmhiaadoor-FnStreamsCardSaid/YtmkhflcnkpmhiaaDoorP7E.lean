/- Merged texts: MixMath, ByteMath, PowMath, FieldImpl, MixImpl, ShiftImpl, PowImpl, BoxImpl, BoxTextImpl, XorImpl, TurnImpl, AfterImpl. -/
import Derived.Test.YtmkhflcnkpmhiaaDoorP7D
import Derived.Below
import Derived.Test.YtmkhflcnkpmhiaaDoorShelfB
import Derived.Laws.Rows
import Derived.StillTailTactics
import Derived.WalkKit
import Derived.WalkSpells
import Derived.WalkLawsBesides
import Derived.Deep.RegionLaw
import Derived.Lib.Hide
namespace Go.Proofs.YtmkhflcnkpmhiaaDoor.Aes
open Go.Proofs.YtmkhflcnkpmhiaaDoor.Fld

/-- The factors of a column's bytes, counted from the row that is computed. -/
def facN : Nat → Nat
  | 0 => 2
  | 1 => 3
  | _ => 1
theorem facN_lt : ∀ k, facN k < 256
  | 0 => by decide
  | 1 => by decide
  | _ + 2 => by show 1 < 256; decide
/-- Byte p of a mixed block, when the first k factors are in. -/
def mixTo (l : List UInt8) (p : Nat) : Nat → UInt8
  | 0 => 0
  | k + 1 => mixTo l p k ^^^ UInt8.ofNat (mul (l.getD (4 * (p / 4) + (p % 4 + k) % 4) 0).toNat (facN k))
theorem mul_two (a : UInt8) : UInt8.ofNat (mul a.toNat 2) = dblU a := by rw [← dbl_two _ a.toNat_lt]; rfl
theorem mul_one8 (a : UInt8) : UInt8.ofNat (mul a.toNat 1) = a := by rw [mul_one _ a.toNat_lt]; simp
theorem mul_three (a : UInt8) : UInt8.ofNat (mul a.toNat 3) = dblU a ^^^ a := by
  have h := mul_xor a.toNat 2 1
  have l1 := dbl_lt _ a.toNat_lt
  have l2 := a.toNat_lt
  rw [show (2 ^^^ 1 : Nat) = 3 from rfl, ← dbl_two _ a.toNat_lt, mul_one _ a.toNat_lt] at h
  rw [h]
  apply UInt8.toNat_inj.1
  unfold dblU
  rw [UInt8.toNat_xor, UInt8.toNat_ofNat', UInt8.toNat_ofNat', Nat.mod_eq_of_lt l1, Nat.mod_eq_of_lt (xor_lt l1 l2)]
theorem mixTo_four (l : List UInt8) (p : Nat) : mixTo l p 4 = mixAt l p := by
  have h (x : Nat) : p % 4 % 4 = p % 4 := by omega
  simp only [mixTo, facN, mul_two, mul_three, mul_one8, Nat.add_zero]
  rw [h 0]
  unfold mixAt mixB
  simp only [UInt8.zero_xor, UInt8.xor_assoc]
end Go.Proofs.YtmkhflcnkpmhiaaDoor.Aes
namespace Go.Proofs.YtmkhflcnkpmhiaaDoor
open Go.RowKit Go.Proofs.YtmkhflcnkpmhiaaDoor.Fld Go.Proofs.YtmkhflcnkpmhiaaDoor.BitsM

theorem invF_succ (f out x n : Nat) : invF (f + 1) out x n = invF f (if n % 2 = 1 then mul out x else out) (mul x x) (n / 2) := rfl
theorem invF_zero : ∀ (f out x : Nat), invF f out x 0 = out
  | 0, _, _ => rfl
  | f + 1, out, x => by rw [invF_succ, if_neg (by decide)]; exact invF_zero f out (mul x x)
/-- The inverse of a number that is none of 1 to 255 is 0. -/
def invI (a : Int) : Int := if 1 ≤ a ∧ a ≤ 255 then (inv a.toNat : Int) else 0

/-- The box of a number; 0 where it is no byte's. -/
def boxI (a : Int) : Int := if 0 ≤ a ∧ a ≤ 255 then (turnF (invI a).toNat 5 : Int) else 0
theorem invI_lt (a : Int) : 0 ≤ invI a ∧ invI a < 256 := by
  unfold invI
  split
  · rename_i h
    have := inv_lt a.toNat (by omega)
    omega
  · omega
/-- What the functions say of every number. -/
def dblI (a : Int) : Int := if 0 ≤ a ∧ a ≤ 255 then (dbl a.toNat : Int) else 0
def mulI (a b : Int) : Int := if (0 ≤ a ∧ a ≤ 255) ∧ (0 ≤ b ∧ b ≤ 255) then (mul a.toNat b.toNat : Int) else 0
def powI (a n : Int) : Int := if (0 ≤ a ∧ a ≤ 255) ∧ (0 ≤ n ∧ n ≤ 1000) then (pow a.toNat n.toNat : Int) else 0
theorem below_same {e : Ending} {w w' : World} {v : Int} (h : e = .returned (.int .i64 v) ∧ w' = w) : e = .returned (.int .i64 v) ∧ Below w.heap.size w w' := ⟨h.1, by rw [h.2]; exact Below.refl _ _⟩
end Go.Proofs.YtmkhflcnkpmhiaaDoor
namespace Go.Proofs.YtmkhflcnkpmhiaaDoor.Fld

theorem pow_square (x : Nat) (hx : x < 256) : ∀ m, pow (mul x x) m = pow x (2 * m)
  | 0 => rfl
  | m + 1 => by
    have e1 : pow (mul x x) (m + 1) = mul (pow (mul x x) m) (mul x x) := rfl
    have e2 : pow x (2 * (m + 1)) = mul (mul (pow x (2 * m)) x) x := rfl
    rw [e1, e2, pow_square x hx m, mul_assoc _ _ _ (pow_lt x (2 * m)) hx]
theorem pow_odd (out x m : Nat) (ho : out < 256) (hx : x < 256) : mul (mul out x) (pow x m) = mul out (pow x (m + 1)) := by
  have e1 : pow x (m + 1) = mul (pow x m) x := rfl
  rw [mul_assoc _ _ _ ho hx, e1, mul_comm x (pow x m) hx (pow_lt x m)]
/-- The loop's round: the exponent's lowest bit, the rest with the square. -/
theorem pow_round (out x n r : Nat) (ho : out < 256) (hx : x < 256) (h : mul out (pow x n) = r) :
    mul (if n % 2 = 1 then mul out x else out) (pow (mul x x) (n / 2)) = r := by
  rw [pow_square x hx, ← h]
  split
  · have e : n = 2 * (n / 2) + 1 := by omega
    rw [pow_odd out x _ ho hx, ← e]
  · have e : 2 * (n / 2) = n := by omega
    rw [e]
theorem pow_end (out x : Nat) (ho : out < 256) : mul out (pow x 0) = out := mul_one out ho
theorem invF_pow : ∀ (f out x n : Nat), n < 2 ^ f → out < 256 → x < 256 → invF f out x n = mul out (pow x n)
  | 0, out, x, n, hn, ho, hx => by
    obtain rfl : n = 0 := by simpa using hn
    exact (pow_end out x ho).symm
  | f + 1, out, x, n, hn, ho, hx => by
    have e : invF (f + 1) out x n = invF f (if n % 2 = 1 then mul out x else out) (mul x x) (n / 2) := rfl
    have ho' : (if n % 2 = 1 then mul out x else out) < 256 := by
      split
      · exact mul_lt _ _ ho
      · exact ho
    rw [e, invF_pow f _ _ _ (by rw [Nat.pow_succ] at hn; omega) ho' (mul_lt _ _ hx)]
    exact pow_round out x n _ ho hx rfl
theorem inv_pow (a : Nat) (h : a < 256) : inv a = pow a 254 := by
  have e : inv a = mul 1 (pow a 254) := invF_pow 8 1 a 254 (by decide) (by decide) h
  rw [e, mul_comm 1 _ (by decide) (pow_lt a 254), mul_one _ (pow_lt a 254)]
end Go.Proofs.YtmkhflcnkpmhiaaDoor.Fld
namespace Go.Proofs.YtmkhflcnkpmhiaaDoor
open Go.RowKit Go.Proofs.YtmkhflcnkpmhiaaDoor.Fld Go.Proofs.YtmkhflcnkpmhiaaDoor.BitsM

set_option maxHeartbeats 400000 in
theorem isElem_any (n : Int) (w : World) : Calls Tryd.prog 53 #[.int .i64 n] w fun e w' => e = .returned (.bool (decide (0 ≤ n ∧ n ≤ 255))) ∧ w' = w := by
  by_cases h1 : 0 ≤ n <;> by_cases h2 : n ≤ 255
  all_goals
    go_enter Tryd.func53, Tryd.ntmps53
    go_wp2
    all_goals go_ret
    all_goals exact ⟨by simp [h1, h2], rfl⟩
theorem isElem_yes {n : Int} (w : World) (h : IsByte n) : Calls Tryd.prog 53 #[.int .i64 n] w fun e w' => e = .returned (.bool true) ∧ w' = w :=
  (isElem_any n w).mono fun _ _ ⟨he, hw⟩ => ⟨by rw [he, decide_eq_true (show 0 ≤ n ∧ n ≤ 255 from h)], hw⟩
theorem isElem_no {n : Int} (w : World) (h : ¬ IsByte n) : Calls Tryd.prog 53 #[.int .i64 n] w fun e w' => e = .returned (.bool false) ∧ w' = w :=
  (isElem_any n w).mono fun _ _ ⟨he, hw⟩ => ⟨by rw [he, decide_eq_false (show ¬ (0 ≤ n ∧ n ≤ 255) from h)], hw⟩

set_option maxHeartbeats 400000 in
theorem implDouble_yes (m : Nat) (w : World) (h : m < 256) : Calls Tryd.prog 56 #[.int .i64 m] w fun e w' => e = .returned (.int .i64 (dbl m)) ∧ w' = w := by
  have HB : Hid (IsByte m) := Lib.hid ⟨by omega, by omega⟩
  by_cases hb : 255 < 2 * m
  · have HD : Hid (dbl m = (2 * m) ^^^ 283) := Lib.hid (if_pos hb)
    have hx := xor64 (2 * m) 283 (by omega) (by omega)
    have e2 : ((2 * m : Nat) : Int) = 2 * (m : Int) := by simp
    rw [e2] at hx
    have e3 : ((283 : Nat) : Int) = 283 := rfl
    rw [e3] at hx
    clear e2 e3
    go_enter Tryd.func56, Tryd.ntmps56
    go_wp2_with fail
    refine (isElem_yes _ HB.out).mono ?_
    rintro e w1 ⟨rfl, rfl⟩
    go_wp2
    go_ret
    exact ⟨ret_int (by rw [HD.out]), rfl⟩
  · have HD : Hid (dbl m = 2 * m) := Lib.hid (if_neg hb)
    go_enter Tryd.func56, Tryd.ntmps56
    go_wp2_with fail
    refine (isElem_yes _ HB.out).mono ?_
    rintro e w1 ⟨rfl, rfl⟩
    go_wp2
    go_ret
    exact ⟨ret_int (by rw [HD.out]; simp), rfl⟩
set_option maxHeartbeats 400000 in
theorem implDouble_no (n : Int) (w : World) (h : ¬ IsByte n) : Calls Tryd.prog 56 #[.int .i64 n] w fun e w' => e = .returned (.int .i64 0) ∧ w' = w := by
  have HB := Lib.hid h
  clear h
  go_enter Tryd.func56, Tryd.ntmps56
  go_wp2_with fail
  refine (isElem_no _ HB.out).mono ?_
  rintro e w1 ⟨rfl, rfl⟩
  go_wp2
  go_ret
  exact ⟨rfl, rfl⟩

theorem and_one (b : Nat) (hb : b < 9223372036854775808) : bits .and .i64 (b : Int) 1 = ((b % 2 : Nat) : Int) := by
  have h := and64 b 1 hb (by decide)
  rw [Nat.and_one_is_mod] at h
  exact h
theorem shr_odd (b k : Nat) (hb : b < 9223372036854775808) : (bits .and .i64 ((b : Int) / 2 ^ k) 1 == 1) = decide (b / 2 ^ k % 2 = 1) := by
  have e : (b : Int) / 2 ^ k = ((b / 2 ^ k : Nat) : Int) := by simp
  have hl : b / 2 ^ k < 9223372036854775808 := Nat.lt_of_le_of_lt (Nat.div_le_self _ _) hb
  rw [e, and_one _ hl]
  by_cases h : b / 2 ^ k % 2 = 1
  · rw [h]; rfl
  · have h0 : b / 2 ^ k % 2 = 0 := by omega
    rw [h0]; rfl
theorem half_next (b k : Nat) : b / 2 ^ k / 2 = b / 2 ^ (k + 1) := by
  rw [Nat.div_div_eq_div_mul, Nat.pow_succ]

set_option maxHeartbeats 1000000 in
theorem implMul_yes (A B : Nat) (w : World) (hA : A < 256) (hB : B < 256) : Calls Tryd.prog 51 #[.int .i64 A, .int .i64 B] w fun e w' => e = .returned (.int .i64 (mul A B)) ∧ w' = w := by
  have HA : Hid (IsByte A) := Lib.hid ⟨by omega, by omega⟩
  have HB : Hid (IsByte B) := Lib.hid ⟨by omega, by omega⟩
  have HM : Hid (0 ^^^ mulF 8 A (B / 2 ^ 0) = mul A B) := Lib.hid (by rw [Nat.zero_xor, Nat.pow_zero, Nat.div_one]; rfl)
  go_enter Tryd.func51, Tryd.ntmps51
  go_wp2_with fail
  refine (isElem_yes _ HA.out).mono ?_
  rintro e w1 ⟨rfl, rfl⟩
  go_wp2_with fail
  refine (isElem_yes _ HB.out).mono ?_
  rintro e w2 ⟨rfl, rfl⟩
  go_wp2
  go_loopw [0, 5, 15] (fun av ov kv wr => ∃ k a out : Nat, k ≤ 8 ∧ a < 256 ∧ out < 256 ∧ av = .int .i64 a ∧ kv = .int .i64 k ∧ ov = .int .i64 out ∧ Hid (out ^^^ mulF (8 - k) a (B / 2 ^ k) = mul A B) ∧ wr = w2)
    (fun _ _ kv _ => 8 - (intOf kv).toNat)
  case atStart => exact ⟨0, A, 0, by omega, hA, by omega, rfl, rfl, rfl, HM, rfl⟩
  case round =>
    obtain ⟨k, a, out, hk, ha, ho, rfl, rfl, rfl, HR, rfl⟩ := hrel
    by_cases hlt : k < 8
    · obtain ⟨f, hf⟩ : ∃ f, 8 - k = f + 1 := ⟨7 - k, by omega⟩
      have hf2 : 8 - (k + 1) = f := by omega
      have h1 := HR.out
      rw [hf] at h1
      have HN := Lib.hid (mul_round h1)
      rw [half_next, ← hf2] at HN
      clear h1
      have hm := shr_odd B k (by omega)
      by_cases hodd : B / 2 ^ k % 2 = 1
      · have hx := xor64 out a (by omega) (by omega)
        have ho2 : out ^^^ a < 256 := xor_lt ho ha
        rw [decide_eq_true hodd] at hm
        rw [if_pos hodd] at HN
        clear hodd hf hf2
        go_wp2_with (go_at_call 56; refine (implDouble_yes a _ ha).mono ?_; rintro e w3 ⟨rfl, rfl⟩)
        go_roundw
        case rel => exact ⟨k + 1, dbl a, out ^^^ a, by omega, dbl_lt a ha, ho2, by go_num, by go_num, by go_num, HN, by first | rfl | trivial⟩
        case measure => simp [intOf]; omega
      · rw [decide_eq_false hodd] at hm
        rw [if_neg hodd] at HN
        clear hodd hf hf2
        go_wp2_with (go_at_call 56; refine (implDouble_yes a _ ha).mono ?_; rintro e w3 ⟨rfl, rfl⟩)
        go_roundw
        case rel => exact ⟨k + 1, dbl a, out, by omega, dbl_lt a ha, ho, by go_num, by go_num, by go_num, HN, by first | rfl | trivial⟩
        case measure => simp [intOf]; omega
    · obtain rfl : k = 8 := by omega
      have hfin : out = mul A B := by
        have := HR.out
        rw [show 8 - 8 = 0 from rfl, show mulF 0 a (B / 2 ^ 8) = 0 from rfl, Nat.xor_zero] at this
        exact this
      go_wp2
      go_ret
      exact ⟨ret_int (by rw [hfin]), rfl⟩
set_option maxHeartbeats 400000 in
theorem implMul_no (n m : Int) (w : World) (h : ¬ (IsByte n ∧ IsByte m)) : Calls Tryd.prog 51 #[.int .i64 n, .int .i64 m] w fun e w' => e = .returned (.int .i64 0) ∧ w' = w := by
  by_cases hn : IsByte n
  · have HN := Lib.hid hn
    have HM : Hid (¬ IsByte m) := Lib.hid (fun hm => h ⟨hn, hm⟩)
    clear h hn
    go_enter Tryd.func51, Tryd.ntmps51
    go_wp2_with fail
    refine (isElem_yes _ HN.out).mono ?_
    rintro e w1 ⟨rfl, rfl⟩
    go_wp2_with fail
    refine (isElem_no _ HM.out).mono ?_
    rintro e w2 ⟨rfl, rfl⟩
    go_wp2
    go_ret
    exact ⟨rfl, rfl⟩
  · have HN := Lib.hid hn
    clear h hn
    go_enter Tryd.func51, Tryd.ntmps51
    go_wp2_with fail
    refine (isElem_no _ HN.out).mono ?_
    rintro e w1 ⟨rfl, rfl⟩
    go_wp2
    go_ret
    exact ⟨rfl, rfl⟩
end Go.Proofs.YtmkhflcnkpmhiaaDoor
namespace Go.Proofs.YtmkhflcnkpmhiaaDoor
open Go.RowKit Go.Proofs.YtmkhflcnkpmhiaaDoor.Hexa Go.Proofs.YtmkhflcnkpmhiaaDoor.Byt Go.Proofs.YtmkhflcnkpmhiaaDoor.Aes Go.Proofs.YtmkhflcnkpmhiaaDoor.Fld Go.Proofs.YtmkhflcnkpmhiaaDoor.BitsM

def mixCells : Array Value := #[.int .i64 2, .int .i64 3, .int .i64 1, .int .i64 1]
/-- The table of the factors, in its block. -/
def MixTab (w : World) : Prop := ∃ t fr, w.heap[0]? = some (.cells mixCells t fr)
theorem MixTab.lt {w : World} (h : MixTab w) : 0 < w.heap.size := by
  obtain ⟨t, fr, h⟩ := h
  exact (Array.getElem?_eq_some_iff.1 h).1
theorem MixTab.below {w w' : World} (h : MixTab w) (hb : Below w.heap.size w w') : MixTab w' := by
  have hl := h.lt
  obtain ⟨t, fr, h⟩ := h
  exact ⟨t, fr, by rw [hb.block _ hl]; exact h⟩
theorem mix_index0 (W : World) : (Instr.index 65 (.agg mixCells) (.int .i64 0)).run Tryd.prog W = .ok (.int .i64 2) W := by kernel_rfl
theorem mix_index1 (W : World) : (Instr.index 65 (.agg mixCells) (.int .i64 1)).run Tryd.prog W = .ok (.int .i64 3) W := by kernel_rfl
theorem mix_index2 (W : World) : (Instr.index 65 (.agg mixCells) (.int .i64 2)).run Tryd.prog W = .ok (.int .i64 1) W := by kernel_rfl
theorem mix_index3 (W : World) : (Instr.index 65 (.agg mixCells) (.int .i64 3)).run Tryd.prog W = .ok (.int .i64 1) W := by kernel_rfl
theorem mix_index (W : World) (k : Nat) (hk : k < 4) : (Instr.index 65 (.agg mixCells) (.int .i64 (k : Int))).run Tryd.prog W = .ok (.int .i64 (facN k : Int)) W := by
  match k, hk with
  | 0, _ => exact mix_index0 W
  | 1, _ => exact mix_index1 W
  | 2, _ => exact mix_index2 W
  | 3, _ => exact mix_index3 W
theorem partB_more (A : List UInt8) (n : Nat) (h : A.length < n) : partB A n = partB (A ++ [0]) n := by
  obtain ⟨m, hm⟩ : ∃ m, n - A.length = m + 1 := ⟨n - A.length - 1, by omega⟩
  have h2 : n - (A ++ [0]).length = m := by simp; omega
  unfold partB
  rw [h2, hm, List.replicate_succ, List.append_assoc]
  rfl
theorem partB_turn (A : List UInt8) (n : Nat) (x y : UInt8) (_h : A.length < n) : (partB (A ++ [x]) n).set A.length y = partB (A ++ [y]) n := by
  have h2 : (A ++ [x]).length = (A ++ [y]).length := by simp
  unfold partB
  rw [h2, List.set_append_left _ _ (by simp), List.set_append_right _ _ (Nat.le_refl _), Nat.sub_self]
  rfl
/-- The last byte written, turned. -/
theorem part_turn {w : World} {B e g n : Nat} {A : List UInt8} {x : UInt8} (h : Bytes w B e (.slice (some ⟨g, 0, none⟩) n n) (partB (A ++ [x]) n)) (y : UInt8) (hl : A.length < n) :
    w.cell? ⟨g, A.length, none⟩ = some (.int .u8 x.toNat) ∧ w.frozen? ⟨g, A.length, none⟩ = false ∧ B ≤ g ∧ Bytes (w.setCell ⟨g, A.length, none⟩ (.int .u8 y.toNat)) B e (.slice (some ⟨g, 0, none⟩) n n) (partB (A ++ [y]) n) := by
  have hp := partB_length (A ++ [x]) n (by simp; omega)
  have h' : Bytes w B e (.slice (some ⟨g, 0, none⟩) (partB (A ++ [x]) n).length n) (partB (A ++ [x]) n) := by rw [hp]; exact h
  obtain ⟨h1, h2, h3⟩ := bytes_at h' A.length (by omega)
  have hs := bytes_set h' A.length y
  rw [partB_turn A n x y hl, hp] at hs
  refine ⟨?_, h2, h3, hs⟩
  rw [h1]
  have e : (partB (A ++ [x]) n)[A.length]? = some x := by unfold partB; rw [List.append_assoc, List.getElem?_append_right (Nat.le_refl _), Nat.sub_self]; rfl
  rw [List.getElem?_eq_getElem (by omega)] at e
  rw [Option.some.inj e]
theorem ofNat_toNat8 (r : Nat) (h : r < 256) : (UInt8.ofNat r).toNat = r := by rw [UInt8.toNat_ofNat']; exact Nat.mod_eq_of_lt h

set_option maxHeartbeats 2000000 in
theorem implMix_yes (s : ByteArray) (w : World) (hs : s.size = 16) (hT : MixTab w) :
    Calls Tryd.prog 46 #[.string s] w fun e w' => e = .returned (.string ⟨(mixL s.data.toList).toArray⟩) ∧ Below w.heap.size w w' := by
  obtain ⟨i0, hi, hz0, hz1, hz2⟩ := info_parts infoByte
  have HT := Lib.hid hT
  clear hT
  have HS := Lib.hid hs
  go_enter Tryd.func46, Tryd.ntmps46
  go_wp2_with (at_make; refine wpList_make_full _ rfl _ _ 22 rfl w.heap.size 5 i0 (.int .u8 0) 1 Tryd.underlying22 hi hz0 hz1 .i64 .i64 _ _ 16 rfl rfl rfl rfl (by rw [hz2]; omega) (by unfold maxLen; omega) (Nat.le_refl _) ?_; intro w0 hown0 hgrow0)
  have hg0 : Below w.heap.size w w0 := (Below.refl _ _).grown hgrow0 (Nat.le_refl _) (fun k h => by cases h)
  have HO0 := Lib.hid (part_start hown0)
  clear hown0 hgrow0 hs
  go_loopw [4, 5, 6, 7, 8, 16] (fun _ _ _ _ _ iv wr => ∃ i : Nat, i ≤ 16 ∧ iv = .int .i64 i ∧ Hid (Bytes wr w.heap.size 5 (.slice (some ⟨w.heap.size, 0, none⟩) 16 16) (partB (mapTo (mixAt s.data.toList) i) 16)) ∧ Below w.heap.size w wr)
    (fun _ _ _ _ _ iv _ => 16 - (intOf iv).toNat)
  case atStart => exact ⟨0, Nat.zero_le _, rfl, HO0, hg0⟩
  case round =>
    clear HO0 hg0
    obtain ⟨i, hi, rfl, HW, hbel⟩ := hrel
    by_cases hlt : i < 16
    · obtain ⟨c, r, hcr, hc4, hr4⟩ : ∃ c r, i = 4 * c + r ∧ c < 4 ∧ r < 4 := ⟨i / 4, i % 4, by omega, by omega, by omega⟩
      have HCR := Lib.hid hcr
      have e1 : (i : Int) % 4 = (r : Int) := by omega
      have e2 : (i : Int) - (r : Int) = 4 * (c : Int) := by omega
      have e3 : IntKind.i64.wrap (4 * (c : Int)) = 4 * (c : Int) := IntWalk.i64_in _ (by omega)
      have e4 : (4 * (c : Int)).toNat = 4 * c := by omega
      have e5 : (4 * (c : Int) + 4).toNat = 4 * c + 4 := by omega
      have e6 : 4 * (c : Int) + 4 ≤ (s.size : Int) := by have := HS.out; omega
      have hTr := HT.out.below hbel
      obtain ⟨tt, tfr, htab⟩ := hTr
      clear hcr
      go_wp2_with (first
        | (refine wpList_load_row rfl 65 (.global 0) rfl 0 rfl tt mixCells tfr _ htab Tryd.underlying65 rfl (by kernel_rfl) ?_))
      obtain ⟨col, hcol⟩ : ∃ col, s.extract (4 * c) (4 * c + 4) = col := ⟨_, rfl⟩
      have hcz : col.size = 4 := by rw [← hcol, ByteArray.size_extract]; have := HS.out; omega
      have HC : Hid (∀ (j : Nat) (h : j < col.size), col[j]'h = s.data.toList.getD (4 * c + j) 0) := Lib.hid (fun j h => by
        subst hcol
        have hj : 4 * c + j < s.size := by rw [ByteArray.size_extract] at h; omega
        rw [← text_at s _ hj]
        exact ByteArray.getElem_extract h)
      rw [hcol]
      have HZ := Lib.hid hcz
      clear hcol e6 e5 e4 e3 e2 e1 htab
      have hlA := mapTo_length (mixAt s.data.toList) i
      have HW0 : Hid (Bytes wr w.heap.size 5 (.slice (some ⟨w.heap.size, 0, none⟩) 16 16) (partB (mapTo (mixAt s.data.toList) i ++ [mixTo s.data.toList i 0]) 16)) := Lib.hid (by
        have h := HW.out
        rw [partB_more _ _ (by omega)] at h
        exact h)
      have HA := Lib.hid hlA
      clear hlA
      go_loopw [7, 8, 31] (fun _ _ kv wq => ∃ k : Nat, k ≤ 4 ∧ kv = .int .i64 k ∧ Hid (Bytes wq w.heap.size 5 (.slice (some ⟨w.heap.size, 0, none⟩) 16 16) (partB (mapTo (mixAt s.data.toList) i ++ [mixTo s.data.toList i k]) 16)) ∧ Below w.heap.size w wq)
        (fun _ _ kv _ => 4 - (intOf kv).toNat)
      case atStart => exact ⟨0, Nat.zero_le _, rfl, HW0, hbel⟩
      case round =>
        clear HW HW0 hbel
        obtain ⟨k, hk, rfl, HW, hbel⟩ := hrel
        by_cases hkt : k < 4
        · have hix := mix_index wr k hkt
          obtain ⟨q, hq, hq4, hq5⟩ : ∃ q : Nat, ((r : Int) + (k : Int)) % 4 = (q : Int) ∧ q < 4 ∧ 4 * (i / 4) + (i % 4 + k) % 4 = 4 * c + q := ⟨(r + k) % 4, by omega, by omega, by have := HCR.out; omega⟩
          obtain ⟨cc, cz, cB, HN⟩ := part_turn HW.out (mixTo s.data.toList i (k + 1)) (by rw [HA.out]; exact hlt)
          rw [HA.out] at cc cz HN
          have hqz : q < col.size := by omega
          have hval := HC.out q hqz
          have HM : Hid (mixTo s.data.toList i (k + 1) = mixTo s.data.toList i k ^^^ UInt8.ofNat (mul (col[q]'hqz).toNat (facN k))) := Lib.hid (by
            rw [hval, ← hq5]; rfl)
          have HN2 := Lib.hid HN
          clear HN hval
          have hf := facN_lt k
          have g1 : IntKind.i64.wrap ((r : Int) + (k : Int)) = (r : Int) + (k : Int) := IntWalk.i64_in _ (by omega)
          have g5 : ((r : Int) + (k : Int)).tmod 4 = (q : Int) := by rw [Int.tmod_eq_emod_of_nonneg (by omega)]; exact hq
          have g2 : (q : Int) < 4 := by omega
          have g3 : (k : Int) < 4 := by omega
          have g4 : (i : Int) < 16 := by omega
          go_wp2_with fail
          refine wp_region_still_tail 16 (by kernel_rfl) (by kernel_rfl) ?_
          simp only [List.take_succ_cons, List.take_zero, List.drop_succ_cons, List.drop_zero]
          repeat still_step
          generalize (col[q]'hqz) = x at HM ⊢
          have hx := x.toNat_lt
          have hM := mul_lt x.toNat (facN k) hx
          have kp := Lib.hid fun w => implMul_yes x.toNat (facN k) w hx hf
          have hx8 : bits .xor .u8 ((mixTo s.data.toList i k).toNat : Int) ((mul x.toNat (facN k) : Nat) : Int) = ((mixTo s.data.toList i (k + 1)).toNat : Int) := by
            rw [HM.out, ← xor8, ofNat_toNat8 _ hM]
          generalize mul x.toNat (facN k) = M at kp hx8 hM
          rw [show IntKind.i64.wrap (x.toNat : Int) = (x.toNat : Int) from IntWalk.i64_in _ (by omega)]
          still_call (kp.out _)
          repeat still_step
          refine wpStill_nil ?_
          change wpList _ _ _ _ _ wr.drew
          have hw8 : IntKind.u8.wrap (M : Int) = (M : Int) := by have := IntKind.wrap_u8 (M : Int); rw [this]; omega
          rw [hw8, hx8]
          clear hw8 hx8 kp hx hM HM g1 g2 g3 g4 g5 hq hqz
          go_wp2
          go_roundw
          case rel => exact ⟨k + 1, by omega, by go_num, HN2, (hbel.setCell (Nat.le_refl _) _).drew⟩
          case measure => (simp [intOf]; try omega)
        · obtain rfl : k = 4 := by omega
          have h := HW.out
          rw [mixTo_four, mapTo_next] at h
          have HN := Lib.hid h
          clear h
          go_wp2
          go_roundw
          case rel => exact ⟨i + 1, by omega, by go_num, HN, hbel⟩
          case measure => (simp [intOf]; try omega)
    · obtain rfl : i = 16 := by omega
      have hl := mapTo_length (mixAt s.data.toList) 16
      have h9 := HW.out
      rw [partB_full _ _ hl] at h9
      have hconv := bytes_string (P := Tryd.prog) 22 9 Tryd.underlying22 Tryd.underlying5 Tryd.underlying9 h9
      clear h9
      go_wp2
      go_ret
      exact ⟨rfl, hbel⟩

set_option maxHeartbeats 400000 in
theorem implMix_no (s : ByteArray) (w : World) (hs : ¬ s.size = 16) :
    Calls Tryd.prog 46 #[.string s] w fun e w' => e = .returned (.string s) ∧ Below w.heap.size w w' := by
  go_enter Tryd.func46, Tryd.ntmps46
  go_wp2
  go_ret
  exact ⟨rfl, Below.refl _ _⟩
end Go.Proofs.YtmkhflcnkpmhiaaDoor
namespace Go.Proofs.YtmkhflcnkpmhiaaDoor
open Go.RowKit Go.Proofs.YtmkhflcnkpmhiaaDoor.Hexa Go.Proofs.YtmkhflcnkpmhiaaDoor.Byt Go.Proofs.YtmkhflcnkpmhiaaDoor.Aes

theorem shiftAt_turned (l : List UInt8) (p : Nat) (_hp : p < 16) : shiftAt l p = l.getD ((p + 4 * (p % 4)) % 16) 0 := by
  unfold shiftAt
  rw [show 4 * ((p / 4 + p % 4) % 4) + p % 4 = (p + 4 * (p % 4)) % 16 by omega]

set_option maxHeartbeats 1000000 in
theorem implShift_yes (s : ByteArray) (w : World) (hs : s.size = 16) :
    Calls Tryd.prog 45 #[.string s] w fun e w' => e = .returned (.string ⟨(shiftL s.data.toList).toArray⟩) ∧ Below w.heap.size w w' := by
  obtain ⟨i0, hi, hz0, hz1, hz2⟩ := info_parts infoByte
  go_enter Tryd.func45, Tryd.ntmps45
  go_wp2_with (at_make; refine wpList_make_full _ rfl _ _ 22 rfl w.heap.size 5 i0 (.int .u8 0) 1 Tryd.underlying22 hi hz0 hz1 .i64 .i64 _ _ 16 rfl rfl rfl rfl (by rw [hz2]; omega) (by unfold maxLen; omega) (Nat.le_refl _) ?_; intro w0 hown0 hgrow0)
  have hg0 : Below w.heap.size w w0 := (Below.refl _ _).grown hgrow0 (Nat.le_refl _) (fun k h => by cases h)
  have HO0 := Lib.hid (part_start hown0)
  clear hown0 hgrow0
  go_loopw [4, 5, 13] (fun jv rv iv wr => ∃ k : Nat, k ≤ 16 ∧ iv = .int .i64 k ∧ Hid (Bytes wr w.heap.size 5 (.slice (some ⟨w.heap.size, 0, none⟩) 16 16) (partB (mapTo (shiftAt s.data.toList) k) 16)) ∧ Below w.heap.size w wr)
    (fun _ _ iv _ => 16 - (intOf iv).toNat)
  case atStart => exact ⟨0, Nat.zero_le _, rfl, HO0, hg0⟩
  case round =>
    clear HO0 hg0
    obtain ⟨k, hk, rfl, HW, hbel⟩ := hrel
    by_cases hlt : k < 16
    · have hq : (k + 4 * (k % 4)) % 16 < s.size := by omega
      have hl := mapTo_length (shiftAt s.data.toList) k
      have hta := text_at s _ hq
      obtain ⟨⟨v, c3⟩, z3, hB⟩ := part_at HW.out (by omega)
      have N3 := part_next HW.out (shiftAt s.data.toList k) (by omega)
      rw [hl] at c3 z3
      rw [hl, mapTo_next, shiftAt_turned _ k hlt, ← hta] at N3
      have HN3 := Lib.hid N3
      have hb3 : Below w.heap.size w (wr.setCell ⟨w.heap.size, k, none⟩ (.int .u8 ((s[(k + 4 * (k % 4)) % 16]'hq).toNat : Int))) := hbel.setCell (Nat.le_refl _) _
      clear N3 hta
      go_wp2
      go_roundw
      case rel => exact ⟨k + 1, by omega, by go_num, HN3, hb3⟩
      case measure => (simp [intOf]; try omega)
    · obtain rfl : k = 16 := by omega
      have hl := mapTo_length (shiftAt s.data.toList) 16
      have h9 := HW.out
      rw [partB_full _ _ hl] at h9
      have hconv := bytes_string (P := Tryd.prog) 22 9 Tryd.underlying22 Tryd.underlying5 Tryd.underlying9 h9
      clear h9
      go_wp2
      go_ret
      exact ⟨rfl, hbel⟩

set_option maxHeartbeats 400000 in
theorem implShift_no (s : ByteArray) (w : World) (hs : ¬ s.size = 16) :
    Calls Tryd.prog 45 #[.string s] w fun e w' => e = .returned (.string s) ∧ Below w.heap.size w w' := by
  go_enter Tryd.func45, Tryd.ntmps45
  go_wp2
  go_ret
  exact ⟨rfl, Below.refl _ _⟩
end Go.Proofs.YtmkhflcnkpmhiaaDoor
namespace Go.Proofs.YtmkhflcnkpmhiaaDoor
open Go.RowKit Go.Proofs.YtmkhflcnkpmhiaaDoor.Fld Go.Proofs.YtmkhflcnkpmhiaaDoor.BitsM

/-- How many bits an exponent in its range has. -/
theorem len_all : (List.range 1001).all (fun n => decide (n < 2 ^ Lib.bitLen n) && decide (Lib.bitLen n ≤ 10)) = true := by decide +kernel
theorem len_of (n : Nat) (h : n ≤ 1000) : n < 2 ^ Lib.bitLen n ∧ Lib.bitLen n ≤ 10 := by
  have := List.all_eq_true.1 len_all n (List.mem_range.2 (by omega))
  simpa using this
theorem pow_next (A n k out x : Nat) (ho : out < 256) (hx : x < 256) (h : mul out (pow x (n / 2 ^ k)) = pow A n) :
    mul (if n / 2 ^ k % 2 = 1 then mul out x else out) (pow (mul x x) (n / 2 ^ (k + 1))) = pow A n := by
  have := pow_round out x (n / 2 ^ k) _ ho hx h
  rwa [half_next] at this

set_option maxHeartbeats 1000000 in
theorem implPow_yes (A n : Nat) (w : World) (hA : A < 256) (hn : n ≤ 1000) : Calls Tryd.prog 52 #[.int .i64 A, .int .i64 n] w fun e w' => e = .returned (.int .i64 (pow A n)) ∧ w' = w := by
  have HA : Hid (IsByte A) := Lib.hid ⟨by omega, by omega⟩
  have HM : Hid (mul 1 (pow A (n / 2 ^ 0)) = pow A n) := Lib.hid (by rw [Nat.pow_zero, Nat.div_one, mul_comm 1 _ (by decide) (pow_lt A n), mul_one _ (pow_lt A n)])
  obtain ⟨hl1, hl2⟩ := len_of n hn
  obtain ⟨L, hL⟩ : ∃ L, Lib.bitLen n = L := ⟨_, rfl⟩
  have KL : Hid (∀ w, Calls Tryd.prog 57 #[.int .u64 (n : Int)] w fun e w' => e = .returned (.int .i64 L) ∧ w' = w) := Lib.hid (fun w => by
    have := Tryd.bits_Len (n : Int) w (by omega) (by omega)
    rwa [Int.toNat_natCast, hL] at this)
  rw [hL] at hl1 hl2
  have HL := Lib.hid hl1
  clear hl1 hL
  go_enter Tryd.func52, Tryd.ntmps52
  go_wp2_with fail
  refine (isElem_yes _ HA.out).mono ?_
  rintro e w1 ⟨rfl, rfl⟩
  go_wp2_with fail
  refine (KL.out _).mono ?_
  rintro e w2 ⟨rfl, rfl⟩
  go_wp2
  go_loopw [0, 5, 21] (fun av ov kv wr => ∃ k a out : Nat, k ≤ L ∧ a < 256 ∧ out < 256 ∧ av = .int .i64 a ∧ kv = .int .i64 k ∧ ov = .int .i64 out ∧ Hid (mul out (pow a (n / 2 ^ k)) = pow A n) ∧ wr = w2)
    (fun _ _ kv _ => L - (intOf kv).toNat)
  case atStart => exact ⟨0, A, 1, by omega, hA, by omega, rfl, rfl, rfl, HM, rfl⟩
  case round =>
    obtain ⟨k, a, out, hk, ha, ho, rfl, rfl, rfl, HR, rfl⟩ := hrel
    by_cases hlt : k < L
    · have HN := Lib.hid (pow_next A n k out a ho ha HR.out)
      have hm := shr_odd n k (by omega)
      have hsq := mul_lt a a ha
      by_cases hodd : n / 2 ^ k % 2 = 1
      · have hml := mul_lt out a ho
        rw [decide_eq_true hodd] at hm
        rw [if_pos hodd] at HN
        clear hodd
        go_wp2_with fail
        refine (implMul_yes out a _ ho ha).mono ?_
        rintro e w3 ⟨rfl, rfl⟩
        go_wp2_with fail
        refine (implMul_yes a a _ ha ha).mono ?_
        rintro e w4 ⟨rfl, rfl⟩
        go_wp2
        go_roundw
        case rel => exact ⟨k + 1, mul a a, mul out a, by omega, hsq, hml, by go_num, by go_num, by go_num, HN, by first | rfl | trivial⟩
        case measure => simp [intOf]; omega
      · rw [decide_eq_false hodd] at hm
        rw [if_neg hodd] at HN
        clear hodd
        go_wp2_with fail
        refine (implMul_yes a a _ ha ha).mono ?_
        rintro e w4 ⟨rfl, rfl⟩
        go_wp2
        go_roundw
        case rel => exact ⟨k + 1, mul a a, out, by omega, hsq, ho, by go_num, by go_num, by go_num, HN, by first | rfl | trivial⟩
        case measure => simp [intOf]; omega
    · obtain rfl : k = L := by omega
      have hfin : out = pow A n := by
        have := HR.out
        rw [Nat.div_eq_of_lt HL.out, pow_end out a ho] at this
        exact this
      go_wp2
      go_ret
      exact ⟨ret_int (by rw [hfin]), rfl⟩
set_option maxHeartbeats 400000 in
theorem implPow_no (a n : Int) (w : World) (h : ¬ (IsByte a ∧ IsExp n)) : Calls Tryd.prog 52 #[.int .i64 a, .int .i64 n] w fun e w' => e = .returned (.int .i64 0) ∧ w' = w := by
  by_cases ha : IsByte a
  · have HN := Lib.hid ha
    have hM : n < 0 ∨ 1000 < n := by
      have : ¬ IsExp n := fun hm => h ⟨ha, hm⟩
      unfold IsExp at this
      omega
    clear h ha
    rcases hM with hM | hM
    all_goals
      go_enter Tryd.func52, Tryd.ntmps52
      go_wp2_with fail
      refine (isElem_yes _ HN.out).mono ?_
      rintro e w1 ⟨rfl, rfl⟩
      go_wp2
      go_ret
      exact ⟨rfl, rfl⟩
  · have HN := Lib.hid ha
    clear h ha
    go_enter Tryd.func52, Tryd.ntmps52
    go_wp2_with fail
    refine (isElem_no _ HN.out).mono ?_
    rintro e w1 ⟨rfl, rfl⟩
    go_wp2
    go_ret
    exact ⟨rfl, rfl⟩

theorem implDouble_any (a : Int) (w : World) : Calls Tryd.prog 56 #[.int .i64 a] w fun e w' => e = .returned (.int .i64 (dblI a)) ∧ Below w.heap.size w w' := by
  by_cases h : 0 ≤ a ∧ a ≤ 255
  · have hE : dblI a = (dbl a.toNat : Int) := if_pos h
    obtain ⟨m, rfl⟩ : ∃ m : Nat, a = m := ⟨a.toNat, by omega⟩
    rw [hE, Int.toNat_natCast]
    exact (implDouble_yes m w (by omega)).mono fun _ _ h => below_same h
  · have hE : dblI a = 0 := if_neg h
    rw [hE]
    exact (implDouble_no a w h).mono fun _ _ h => below_same h
theorem implMul_any (a b : Int) (w : World) : Calls Tryd.prog 51 #[.int .i64 a, .int .i64 b] w fun e w' => e = .returned (.int .i64 (mulI a b)) ∧ Below w.heap.size w w' := by
  by_cases h : (0 ≤ a ∧ a ≤ 255) ∧ (0 ≤ b ∧ b ≤ 255)
  · have hE : mulI a b = (mul a.toNat b.toNat : Int) := if_pos h
    obtain ⟨m, rfl⟩ : ∃ m : Nat, a = m := ⟨a.toNat, by omega⟩
    obtain ⟨n, rfl⟩ : ∃ n : Nat, b = n := ⟨b.toNat, by omega⟩
    rw [hE, Int.toNat_natCast, Int.toNat_natCast]
    exact (implMul_yes m n w (by omega) (by omega)).mono fun _ _ h => below_same h
  · have hE : mulI a b = 0 := if_neg h
    rw [hE]
    exact (implMul_no a b w h).mono fun _ _ h => below_same h
theorem implPow_id (a b : Int) (w : World) : Calls Tryd.prog 52 #[.int .i64 a, .int .i64 b] w fun e w' => e = .returned (.int .i64 (powI a b)) ∧ w' = w := by
  by_cases h : (0 ≤ a ∧ a ≤ 255) ∧ (0 ≤ b ∧ b ≤ 1000)
  · have hE : powI a b = (pow a.toNat b.toNat : Int) := if_pos h
    obtain ⟨m, rfl⟩ : ∃ m : Nat, a = m := ⟨a.toNat, by omega⟩
    obtain ⟨n, rfl⟩ : ∃ n : Nat, b = n := ⟨b.toNat, by omega⟩
    rw [hE, Int.toNat_natCast, Int.toNat_natCast]
    exact implPow_yes m n w (by omega) (by omega)
  · have hE : powI a b = 0 := if_neg h
    rw [hE]
    exact implPow_no a b w h
theorem implPow_any (a b : Int) (w : World) : Calls Tryd.prog 52 #[.int .i64 a, .int .i64 b] w fun e w' => e = .returned (.int .i64 (powI a b)) ∧ Below w.heap.size w w' :=
  (implPow_id a b w).mono fun _ _ h => below_same h
theorem powI_inv (a : Int) : powI a 254 = invI a := by
  unfold powI invI
  by_cases h : 1 ≤ a ∧ a ≤ 255
  · rw [if_pos (by omega), if_pos h, inv_pow _ (by omega)]
    rfl
  · rw [if_neg h]
    by_cases h0 : a = 0
    · subst h0
      rw [if_pos (by decide)]
      show ((pow 0 254 : Nat) : Int) = 0
      rw [← inv_pow 0 (by decide), inv_zero]; rfl
    · rw [if_neg (by omega)]
set_option maxHeartbeats 400000 in
theorem implInverse_id (a : Int) (w : World) : Calls Tryd.prog 54 #[.int .i64 a] w fun e w' => e = .returned (.int .i64 (invI a)) ∧ w' = w := by
  have K := Lib.hid (fun w => implPow_id a 254 w)
  rw [powI_inv] at K
  go_enter Tryd.func54, Tryd.ntmps54
  go_wp2_with fail
  refine (K.out _).mono ?_
  rintro e w1 ⟨rfl, rfl⟩
  go_wp2
  go_ret
  exact ⟨rfl, rfl⟩
theorem implInverse_any (a : Int) (w : World) : Calls Tryd.prog 54 #[.int .i64 a] w fun e w' => e = .returned (.int .i64 (invI a)) ∧ Below w.heap.size w w' :=
  (implInverse_id a w).mono fun _ _ h => below_same h
end Go.Proofs.YtmkhflcnkpmhiaaDoor
namespace Go.Proofs.YtmkhflcnkpmhiaaDoor
open Go.RowKit Go.Proofs.YtmkhflcnkpmhiaaDoor.Fld Go.Proofs.YtmkhflcnkpmhiaaDoor.BitsM

/-- A byte turned by k bits. -/
def rot (b k : Nat) : Nat := ((b * 2 ^ k) ||| (b / 2 ^ (8 - k))) &&& 255
theorem rot_lt (b k : Nat) : rot b k < 256 := Nat.lt_of_le_of_lt Nat.and_le_right (by omega)
theorem rot_zero (b : Nat) (h : b < 256) : rot b 0 = b := by
  have := all256 (p := fun b => rot b 0 == b) (by decide +kernel) b h
  simpa using this
theorem turn_next (b k : Nat) : turnF b (k + 1) = turnF b k ^^^ rot b k := rfl
theorem rot_or (b k : Nat) (hb : b < 256) : (b * 2 ^ k % 256) ||| (b / 2 ^ (8 - k)) = rot b k := by
  have h1 : b / 2 ^ (8 - k) < 256 := Nat.lt_of_le_of_lt (Nat.div_le_self _ _) hb
  have e (x : Nat) : x &&& 255 = x % 256 := Nat.and_two_pow_sub_one_eq_mod x 8
  unfold rot
  rw [Nat.and_or_distrib_right, e, e, Nat.mod_eq_of_lt h1]

theorem u8n (a : Nat) (h : a < 256) : ((UInt8.ofNat a).toNat : Int) = (a : Int) := by
  rw [UInt8.toNat_ofNat', Nat.mod_eq_of_lt h]
theorem xor8n (a b : Nat) (ha : a < 256) (hb : b < 256) : bits .xor .u8 (a : Int) (b : Int) = ((a ^^^ b : Nat) : Int) := by
  rw [← u8n a ha, ← u8n b hb, xor8, UInt8.toNat_xor, UInt8.toNat_ofNat', UInt8.toNat_ofNat', Nat.mod_eq_of_lt ha, Nat.mod_eq_of_lt hb]
theorem or8n (a b : Nat) (ha : a < 256) (hb : b < 256) : bits .or .u8 (a : Int) (b : Int) = ((a ||| b : Nat) : Int) := by
  rw [← u8n a ha, ← u8n b hb, or8, UInt8.toNat_or, UInt8.toNat_ofNat', UInt8.toNat_ofNat', Nat.mod_eq_of_lt ha, Nat.mod_eq_of_lt hb]
theorem rot_bits (b k c d : Nat) (hb : b < 256) (hc : 2 ^ k = c) (hd : 2 ^ (8 - k) = d) : bits .or .u8 ((b : Int) * (c : Nat) % 256) ((b : Int) / (d : Nat)) = (rot b k : Int) := by
  have e1 : (b : Int) * (c : Nat) % 256 = ((b * 2 ^ k % 256 : Nat) : Int) := by rw [hc]; simp
  have e2 : (b : Int) / (d : Nat) = ((b / 2 ^ (8 - k) : Nat) : Int) := by rw [hd]; simp
  rw [e1, e2, or8n _ _ (by omega) (Nat.lt_of_le_of_lt (Nat.div_le_self _ _) hb), rot_or b k hb]
theorem ret_u8 {a b : Int} (h : a = b) : Ending.returned (.int .u8 a) = .returned (.int .u8 b) := by rw [h]

set_option maxHeartbeats 1000000 in
theorem rotl_any (b k : Nat) (w : World) (hb : b < 256) (h1 : k < 4) : Calls Tryd.prog 55 #[.int .u8 b, .int .i64 ((k : Int) + 1)] w fun e w' => e = .returned (.int .u8 (rot b (k + 1))) ∧ w' = w := by
  have hk : k = 0 ∨ k = 1 ∨ k = 2 ∨ k = 3 := by omega
  have y1 : bits .and .u64 1 7 = 1 := by decide
  have y2 : bits .and .u64 2 7 = 2 := by decide
  have y3 : bits .and .u64 3 7 = 3 := by decide
  have y4 : bits .and .u64 4 7 = 4 := by decide
  rcases hk with rfl | rfl | rfl | rfl
  all_goals
    go_enter Tryd.func55, Tryd.ntmps55
    go_wp2
    go_ret
  · exact ⟨ret_u8 (rot_bits b 1 2 128 hb rfl rfl), rfl⟩
  · exact ⟨ret_u8 (rot_bits b 2 4 64 hb rfl rfl), rfl⟩
  · exact ⟨ret_u8 (rot_bits b 3 8 32 hb rfl rfl), rfl⟩
  · exact ⟨ret_u8 (rot_bits b 4 16 16 hb rfl rfl), rfl⟩

set_option maxHeartbeats 1000000 in
theorem implBox_id (a : Int) (w : World) : Calls Tryd.prog 50 #[.int .i64 a] w fun e w' => e = .returned (.int .i64 (boxI a)) ∧ w' = w := by
  by_cases h : 0 ≤ a ∧ a ≤ 255
  · have hl := invI_lt a
    have hE : boxI a = (turnF (invI a).toNat 5 : Int) := if_pos h
    have hi := implInverse_id a
    obtain ⟨b, hb⟩ : ∃ b : Nat, invI a = b := ⟨(invI a).toNat, by omega⟩
    rw [hb] at hi hl hE
    rw [Int.toNat_natCast] at hE
    have hb2 : b < 256 := by omega
    have HE := Lib.hid hE
    have HI := Lib.hid hi
    have HB : Hid (IsByte a) := Lib.hid h
    have hx := xor8n b 99 hb2 (by decide)
    rw [show ((99 : Nat) : Int) = 99 from rfl] at hx
    have H0 : Hid (b ^^^ 99 = turnF b 1) := Lib.hid (by rw [turn_next, rot_zero b hb2]; exact Nat.xor_comm b 99)
    have hx0 : b ^^^ 99 < 256 := xor_lt hb2 (by decide)
    clear h hi hl hE hb
    go_enter Tryd.func50, Tryd.ntmps50
    go_wp2_with fail
    refine (isElem_yes _ HB.out).mono ?_
    rintro e w1 ⟨rfl, rfl⟩
    go_wp2_with fail
    refine (HI.out _).mono ?_
    rintro e w2 ⟨rfl, rfl⟩
    go_wp2
    go_loopw [4, 14] (fun ov kv wr => ∃ k out : Nat, k ≤ 4 ∧ out < 256 ∧ kv = .int .i64 k ∧ ov = .int .u8 out ∧ Hid (out = turnF b (k + 1)) ∧ wr = w2)
      (fun _ kv _ => 4 - (intOf kv).toNat)
    case atStart => exact ⟨0, b ^^^ 99, by omega, hx0, rfl, by go_num, H0, rfl⟩
    case round =>
      obtain ⟨k, out, hk, ho, rfl, rfl, HR, rfl⟩ := hrel
      clear hx H0 hx0
      by_cases hlt : k < 4
      · have hr := rot_lt b (k + 1)
        have HN : Hid (out ^^^ rot b (k + 1) = turnF b (k + 1 + 1)) := Lib.hid (by rw [turn_next, ← HR.out])
        have hx := xor8n out (rot b (k + 1)) ho hr
        have hl := xor_lt ho hr
        have HC := Lib.hid (fun w => rotl_any b k w hb2 hlt)
        generalize rot b (k + 1) = r at hr HN hx hl HC
        go_wp2_with fail
        refine (HC.out _).mono ?_
        rintro e w3 ⟨rfl, rfl⟩
        go_wp2
        go_roundw
        case rel => exact ⟨k + 1, out ^^^ r, by omega, hl, by go_num, by go_num, HN, by first | rfl | trivial⟩
        case measure => simp [intOf]; omega
      · obtain rfl : k = 4 := by omega
        go_wp2
        go_ret
        exact ⟨ret_int (by rw [HE.out, ← HR.out]), rfl⟩
  · have HE : Hid (boxI a = 0) := Lib.hid (if_neg h)
    have HB : Hid (¬ IsByte a) := Lib.hid h
    clear h
    go_enter Tryd.func50, Tryd.ntmps50
    go_wp2_with fail
    refine (isElem_no _ HB.out).mono ?_
    rintro e w1 ⟨rfl, rfl⟩
    go_wp2
    go_ret
    exact ⟨ret_int (by rw [HE.out]), rfl⟩
theorem implBox_any (a : Int) (w : World) : Calls Tryd.prog 50 #[.int .i64 a] w fun e w' => e = .returned (.int .i64 (boxI a)) ∧ Below w.heap.size w w' :=
  (implBox_id a w).mono fun _ _ h => below_same h
end Go.Proofs.YtmkhflcnkpmhiaaDoor
namespace Go.Proofs.YtmkhflcnkpmhiaaDoor
open Go.RowKit Go.Proofs.YtmkhflcnkpmhiaaDoor.Hexa Go.Proofs.YtmkhflcnkpmhiaaDoor.Byt Go.Proofs.YtmkhflcnkpmhiaaDoor.Aes Go.Proofs.YtmkhflcnkpmhiaaDoor.Fld

theorem boxI_byte (x : UInt8) : boxI (x.toNat : Int) = ((boxU x).toNat : Int) := by
  have h := x.toNat_lt
  have hz : inv 0 = 0 := by decide
  have hl := turnF_lt (inv x.toNat) 5
  have hi : (invI (x.toNat : Int)).toNat = inv x.toNat := by
    unfold invI
    split
    · simp
    · rw [show x.toNat = 0 by omega, hz]; rfl
  unfold boxI boxU box
  rw [if_pos (by omega), hi, UInt8.toNat_ofNat', Nat.mod_eq_of_lt hl]
theorem mapTo_all (f : UInt8 → UInt8) (l : List UInt8) : mapTo (fun p => f (l.getD p 0)) l.length = l.map f := by
  refine List.ext_getElem (by simp [mapTo]) fun i h1 h2 => ?_
  have : i < l.length := by simpa [mapTo] using h1
  simp [mapTo, List.getD, this]
theorem implBox_byte (x : UInt8) (w : World) : Calls Tryd.prog 50 #[.int .i64 (x.toNat : Int)] w fun e w' => e = .returned (.int .i64 ((boxU x).toNat : Int)) ∧ w' = w := by
  rw [← boxI_byte]
  exact implBox_id _ w

set_option maxHeartbeats 1000000 in
theorem implBoxText_any (s : ByteArray) (w : World) (hs : s.size ≤ 8000000) :
    Calls Tryd.prog 44 #[.string s] w fun e w' => e = .returned (.string ⟨(boxL s.data.toList).toArray⟩) ∧ Below w.heap.size w w' := by
  obtain ⟨i0, hi, hz0, hz1, hz2⟩ := info_parts infoByte
  have hsl : s.data.toList.length = s.size := by simp
  obtain ⟨n, hn⟩ : ∃ n, s.size = n := ⟨_, rfl⟩
  have HN := Lib.hid hn
  have HL := Lib.hid (hsl.trans hn)
  rw [hn] at hs
  clear hsl
  go_enter Tryd.func44, Tryd.ntmps44
  go_wp2_with (at_make; refine wpList_make_full _ rfl _ _ 22 rfl w.heap.size 5 i0 (.int .u8 0) 1 Tryd.underlying22 hi hz0 hz1 .i64 .i64 _ _ n rfl rfl rfl rfl (by rw [hz2]; omega) (by unfold maxLen; omega) (Nat.le_refl _) ?_; intro w0 hown0 hgrow0)
  have hg0 : Below w.heap.size w w0 := (Below.refl _ _).grown hgrow0 (Nat.le_refl _) (fun k h => by cases h)
  have HO0 := Lib.hid (part_start hown0)
  clear hown0 hgrow0
  go_loopw [4, 10] (fun jv iv wr => ∃ k : Nat, k ≤ n ∧ iv = .int .i64 k ∧ Hid (Bytes wr w.heap.size 5 (.slice (some ⟨w.heap.size, 0, none⟩) n n) (partB (mapTo (fun p => boxU (s.data.toList.getD p 0)) k) n)) ∧ Below w.heap.size w wr)
    (fun _ iv _ => n - (intOf iv).toNat)
  case atStart => exact ⟨0, Nat.zero_le _, rfl, HO0, hg0⟩
  case round =>
    clear HO0 hg0
    obtain ⟨k, hk, rfl, HW, hbel⟩ := hrel
    by_cases hlt : k < n
    · have hlt1 : k < s.size := by have := HN.out; omega
      have hl := mapTo_length (fun p => boxU (s.data.toList.getD p 0)) k
      have hta := text_at s k hlt1
      obtain ⟨⟨v, c3⟩, z3, hB⟩ := part_at HW.out (by omega)
      have N3 := part_next HW.out (boxU (s.data.toList.getD k 0)) (by omega)
      rw [hl] at c3 z3 N3
      rw [mapTo_next (fun p => boxU (s.data.toList.getD p 0))] at N3
      rw [← hta] at N3
      have HN3 := Lib.hid N3
      clear N3 hta
      have hv : ∀ x : UInt8, RowKit.wrap64 (x.toNat : Int) = (x.toNat : Int) := fun x => by have := x.toNat_lt; unfold RowKit.wrap64; omega
      go_wp2_with fail
      generalize s[k]'hlt1 = x at HN3 ⊢
      have hx := x.toNat_lt
      rw [hv x]
      go_wp2_with (go_at_call 50; refine (implBox_byte x _).mono ?_; rintro e w3 ⟨rfl, rfl⟩)
      generalize boxU x = z at HN3 ⊢
      have hz := z.toNat_lt
      have hz8 : (z.toNat : Int) % 256 = (z.toNat : Int) := by omega
      go_wp2
      (try rw [hz8])
      go_roundw
      case rel => exact ⟨k + 1, by omega, by go_num, HN3, hbel.setCell (Nat.le_refl _) _⟩
      case measure => (simp [intOf]; try omega)
    · obtain rfl : k = n := by omega
      have hl := mapTo_length (fun p => boxU (s.data.toList.getD p 0)) k
      have h9 := HW.out
      rw [partB_full _ _ hl] at h9
      have hconv := bytes_string (P := Tryd.prog) 22 9 Tryd.underlying22 Tryd.underlying5 Tryd.underlying9 h9
      rw [show mapTo (fun p => boxU (s.data.toList.getD p 0)) k = boxL s.data.toList by rw [← HL.out]; exact mapTo_all boxU _] at hconv
      clear h9
      go_wp2
      go_ret
      exact ⟨rfl, hbel⟩
end Go.Proofs.YtmkhflcnkpmhiaaDoor
namespace Go.Proofs.YtmkhflcnkpmhiaaDoor
open Go.RowKit Go.Lib Go.Proofs.YtmkhflcnkpmhiaaDoor.Hexa Go.Proofs.YtmkhflcnkpmhiaaDoor.Byt Go.Proofs.YtmkhflcnkpmhiaaDoor.BitsM

theorem xorL_snoc (a b : ByteArray) (k : Nat) (ha : k < a.size) (hb : k < b.size) : xorL a b k ++ [(a[k]'ha) ^^^ (b[k]'hb)] = xorL a b (k + 1) := by
  have h1 : k < a.data.toList.length := by simpa using ha
  have h2 : k < b.data.toList.length := by simpa using hb
  have e : (List.zipWith (· ^^^ ·) a.data.toList b.data.toList)[k]'(by rw [List.length_zipWith]; omega) = (a[k]'ha) ^^^ (b[k]'hb) := by rw [List.getElem_zipWith]; rfl
  unfold xorL
  rw [List.take_succ_eq_append_getElem (by rw [List.length_zipWith]; omega), e]

set_option maxHeartbeats 1000000 in
theorem implXor_any (a b : ByteArray) (w : World) (ha : a.size ≤ 8000000) :
    Calls Tryd.prog 20 #[.string a, .string b] w fun e w' => e = .returned (.string (xorT a b)) ∧ Below w.heap.size w w' := by
  by_cases hl : a.size = b.size
  · obtain ⟨i0, hi, hz0, hz1, hz2⟩ := info_parts infoByte
    have HE : Hid (xorT a b = ⟨(xorL a b a.size).toArray⟩) := Lib.hid (if_pos hl)
    have HL := Lib.hid hl
    obtain ⟨n, hn⟩ : ∃ n, a.size = n := ⟨_, rfl⟩
    have hm : b.size = n := by omega
    rw [hn] at HE
    clear hl
    go_enter Tryd.func20, Tryd.ntmps20
    go_wp2_with (at_make; refine wpList_make_full _ rfl _ _ 22 rfl w.heap.size 5 i0 (.int .u8 0) 1 Tryd.underlying22 hi hz0 hz1 .i64 .i64 _ _ n rfl rfl rfl rfl (by rw [hz2]; omega) (by unfold maxLen; omega) (Nat.le_refl _) ?_; intro w0 hown0 hgrow0)
    have hg0 : Below w.heap.size w w0 := (Below.refl _ _).grown hgrow0 (Nat.le_refl _) (fun k h => by cases h)
    have HO0 := Lib.hid (part_start hown0)
    clear hown0 hgrow0
    go_loopw [6, 17] (fun jv iv wr => ∃ k : Nat, k ≤ n ∧ iv = .int .i64 k ∧ Hid (Bytes wr w.heap.size 5 (.slice (some ⟨w.heap.size, 0, none⟩) n n) (partB (xorL a b k) n)) ∧ Below w.heap.size w wr)
      (fun _ iv _ => n - (RowKit.intOf iv).toNat)
    case atStart => exact ⟨0, Nat.zero_le _, rfl, HO0, hg0⟩
    case round =>
      clear HO0 hg0
      obtain ⟨k, hk, rfl, HW, hbel⟩ := hrel
      have hxl := xorL_length a b HL.out k (by omega)
      by_cases hlt : k < n
      · have hlt1 : k < a.size := by omega
        have hlt' : k < b.size := by omega
        have e1 := xor8 (a[k]'hlt1) (b[k]'hlt')
        have HNX := Lib.hid (xorL_snoc a b k hlt1 hlt')
        obtain ⟨⟨v, c3⟩, z3, hB⟩ := part_at HW.out (by omega)
        have N3 := Lib.hid (part_next HW.out ((a[k]'hlt1) ^^^ (b[k]'hlt')) (by omega))
        rw [hxl] at c3 z3 N3
        rw [HNX.out] at N3
        generalize ((a[k]'hlt1) ^^^ (b[k]'hlt')) = z at e1 N3
        have hb1 : Below w.heap.size w (wr.setCell ⟨w.heap.size, k, none⟩ (.int .u8 (z.toNat : Int))) := hbel.setCell (Nat.le_refl _) _
        clear HNX
        go_wp2
        go_region
        go_wp2
        go_roundw
        case rel => exact ⟨k + 1, by omega, by go_num, N3, hb1.drew⟩
        case measure => (simp [RowKit.intOf]; try omega)
      · obtain rfl : k = n := by omega
        have h9 := HW.out
        rw [partB_full _ _ hxl] at h9
        have hconv := bytes_string (P := Tryd.prog) 22 9 Tryd.underlying22 Tryd.underlying5 Tryd.underlying9 h9
        clear h9
        go_wp2
        go_ret
        exact ⟨by rw [HE.out]; rfl, hbel⟩
  · have HE : Hid (xorT a b = ⟨#[]⟩) := Lib.hid (if_neg hl)
    go_enter Tryd.func20, Tryd.ntmps20
    go_wp2
    go_ret
    exact ⟨by rw [HE.out]; rfl, Below.refl _ _⟩
end Go.Proofs.YtmkhflcnkpmhiaaDoor
namespace Go.Proofs.YtmkhflcnkpmhiaaDoor
open Go.RowKit Go.Proofs.YtmkhflcnkpmhiaaDoor.Hexa Go.Proofs.YtmkhflcnkpmhiaaDoor.Byt Go.Proofs.YtmkhflcnkpmhiaaDoor.Aes Go.Proofs.YtmkhflcnkpmhiaaDoor.Fld Go.Proofs.YtmkhflcnkpmhiaaDoor.BitsM

theorem turn_list (t : ByteArray) (ht : t.size = 4) : ∃ a b c d, t.data.toList = [a, b, c, d] ∧ (t.extract 1 4 ++ t.extract 0 1).data.toList = [b, c, d, a] := by
  have hl : t.data.toList.length = 4 := by simpa using ht
  match h : t.data.toList, hl with
  | [a, b, c, d], _ =>
    refine ⟨a, b, c, d, rfl, ?_⟩
    rw [ByteArray.data_append, Array.toList_append, ByteArray.data_extract, ByteArray.data_extract, Array.toList_extract, Array.toList_extract, h]
    rfl

theorem two_pow (m : Nat) (hm : m ≤ 1000) (w : World) : Calls Tryd.prog 52 #[.int .i64 2, .int .i64 (m : Int)] w fun e w' => e = .returned (.int .i64 (pow 2 m : Nat)) ∧ w' = w :=
  implPow_yes 2 m w (by omega) hm
theorem xor_ofNat (x : UInt8) (r : Nat) (hr : r < 256) : bits .xor .u8 (x.toNat : Int) (r : Int) = ((x ^^^ UInt8.ofNat r).toNat : Int) := by
  rw [← xor8, UInt8.toNat_ofNat', Nat.mod_eq_of_lt hr]

set_option maxHeartbeats 1000000 in
theorem implTurned_any (t : ByteArray) (k : Nat) (w : World) (ht : t.size = 4) (hk1 : 1 ≤ k) (hk : k ≤ 10) :
    Calls Tryd.prog 49 #[.string t, .int .i64 k] w fun e w' => e = .returned (.string ⟨(turnedL t.data.toList k).toArray⟩) ∧ Below w.heap.size w w' := by
  obtain ⟨m, rfl⟩ : ∃ m, k = m + 1 := ⟨k - 1, by omega⟩
  obtain ⟨xa, xb, xc, xd, hT, hT2⟩ := turn_list t ht
  have HT := Lib.hid hT
  have HT2 := Lib.hid hT2
  have hz : (t.extract 1 4 ++ t.extract 0 1).size ≤ 8000000 := by rw [ByteArray.size_append, ByteArray.size_extract, ByteArray.size_extract]; omega
  have k1 := Lib.hid fun w => implBoxText_any (t.extract 1 4 ++ t.extract 0 1) w hz
  clear hT hT2 hz
  go_enter Tryd.func49, Tryd.ntmps49
  go_wp2_with fail
  refine wp_region_still_tail 5 (by kernel_rfl) (by kernel_rfl) ?_
  simp only [List.take_succ_cons, List.take_zero, List.drop_succ_cons, List.drop_zero]
  still_step
  still_step
  still_step
  still_step
  still_step
  refine wpStill_nil ?_
  change wpList _ _ _ _ _ w.drew
  go_wp2_with fail
  refine (k1.out _).mono ?_
  rintro e w1 ⟨rfl, hb1⟩
  have hb1 : Below w.heap.size w w1 := ((Below.refl _ _).drew).trans hb1
  obtain ⟨s1, hs1⟩ : ∃ s1 : ByteArray, s1 = ⟨(boxL (t.extract 1 4 ++ t.extract 0 1).data.toList).toArray⟩ := ⟨_, rfl⟩
  have hs2 : s1.data.toList = [boxU xb, boxU xc, boxU xd, boxU xa] := by rw [hs1, HT2.out]; rfl
  have hs3 : s1.size = 4 := by have : s1.data.toList.length = s1.size := by simp
                               rw [hs2] at this; exact this.symm
  rw [← hs1]
  clear hs1 k1
  have kc0 := run_bytes_of_string (P := Tryd.prog) w1 9 22 5 s1 Tryd.underlying9 Tryd.underlying22 Tryd.underlying5
  have b0 := bytes_conv w1 5 s1 w1.heap.size (by simp) (by omega)
  have g0 : Below w1.heap.size w1 (w1.drew.alloc (.cells (bytesRow s1 (grownCap w1 s1.size 0 5)) 5 ((bytesRow s1 (grownCap w1 s1.size 0 5)).size, (bytesRow s1 (grownCap w1 s1.size 0 5)).size + 1))) := below_grown _ (by simp) _
  generalize w1.drew.alloc (.cells (bytesRow s1 (grownCap w1 s1.size 0 5)) 5 ((bytesRow s1 (grownCap w1 s1.size 0 5)).size, (bytesRow s1 (grownCap w1 s1.size 0 5)).size + 1)) = W0 at b0 g0 kc0
  generalize grownCap w1 s1.size 0 5 = c0 at b0 kc0
  rw [hs2, hs3] at b0
  rw [hs3] at kc0
  have hB := bytes_at (l := [boxU xb, boxU xc, boxU xd, boxU xa]) b0 0 (by simp)
  have N1 := Lib.hid (bytes_set (l := [boxU xb, boxU xc, boxU xd, boxU xa]) b0 0 (boxU xb ^^^ UInt8.ofNat (pow 2 m)))
  obtain ⟨cc, cz, _⟩ := hB
  have G0 := Lib.hid (hb1.trans (g0.mono hb1.size))
  clear b0 g0 hs2 hs3
  go_wp2_with fail
  have cc1 : W0.cell? ⟨w1.heap.size, 0, none⟩ = some (.int .u8 ((boxU xb).toNat : Int)) := cc
  clear cc
  have wm : IntKind.i64.wrap (m : Int) = (m : Int) := IntWalk.i64_in _ (by omega)
  have hp := pow_lt 2 m
  have kp := Lib.hid (two_pow m (by omega))
  have hx8 := xor_ofNat (boxU xb) (pow 2 m) hp
  obtain ⟨r, hr⟩ : ∃ r, pow 2 m = r := ⟨_, rfl⟩
  rw [hr] at kp hx8 N1 hp
  have HR : Hid (pow 2 (m + 1 - 1) = r) := Lib.hid hr
  have hr8 : (r : Int) % 256 = (r : Int) := by omega
  refine wp_region_still_tail 9 (by kernel_rfl) (by kernel_rfl) ?_
  simp only [List.take_succ_cons, List.take_zero, List.drop_succ_cons, List.drop_zero]
  still_step
  still_step
  still_step
  still_step
  still_step
  still_call (kp.out _)
  still_step
  still_step
  still_step
  refine wpStill_nil ?_
  change wpList _ _ _ _ _ W0.drew
  have hw8 : IntKind.u8.wrap (r : Int) = (r : Int) := by have := IntKind.wrap_u8 (r : Int); rw [this]; omega
  rw [hw8, hx8]
  have HE : Hid ([boxU xb ^^^ UInt8.ofNat r, boxU xc, boxU xd, boxU xa] = turnedL t.data.toList (m + 1)) := Lib.hid (by rw [HT.out, ← HR.out]; rfl)
  generalize boxU xb ^^^ UInt8.ofNat r = z at N1 HE ⊢
  have hconv := bytes_string (P := Tryd.prog) (w := (W0.setCell ⟨w1.heap.size, 0, none⟩ (.int .u8 (z.toNat : Int))).drew) (B := w1.heap.size) (l := [z, boxU xc, boxU xd, boxU xa]) 22 9 Tryd.underlying22 Tryd.underlying5 Tryd.underlying9 (v := .slice (some ⟨w1.heap.size, 0, none⟩) 4 c0) N1.out
  have hB2 : Below w.heap.size w (W0.setCell ⟨w1.heap.size, 0, none⟩ (.int .u8 (z.toNat : Int))).drew := (G0.out.setCell (by exact hb1.size) _).drew
  rw [HE.out] at hconv
  clear hx8 hw8 hr8 kp kc0
  go_wp2
  go_ret
  exact ⟨rfl, hB2⟩
end Go.Proofs.YtmkhflcnkpmhiaaDoor
namespace Go.Proofs.YtmkhflcnkpmhiaaDoor
open Go.RowKit Go.Proofs.YtmkhflcnkpmhiaaDoor.Hexa Go.Proofs.YtmkhflcnkpmhiaaDoor.Byt Go.Proofs.YtmkhflcnkpmhiaaDoor.Aes Go.Proofs.YtmkhflcnkpmhiaaDoor.Fld Go.Proofs.YtmkhflcnkpmhiaaDoor.BitsM

set_option maxHeartbeats 1000000 in
theorem implAfter_any (s : ByteArray) (k : Nat) (w : World) (hs : s.size = 16) (hk1 : 1 ≤ k) (hk : k ≤ 10) :
    Calls Tryd.prog 43 #[.string s, .int .i64 k] w fun e w' => e = .returned (.string (txt (afterL s.data.toList k))) ∧ Below w.heap.size w w' := by
  have HL : Hid (s.data.toList.length = 16) := Lib.hid (by simpa using hs)
  have k1 := Lib.hid fun w => implTurned_any (s.extract 12 16) k w (by rw [ByteArray.size_extract]; omega) hk1 hk
  have k2 := Lib.hid fun (j : Nat) (_ : j < 4) w => implXor_any (s.extract (4 * j) (4 * j + 4)) (txt (goneW s.data.toList k j)) w (by rw [ByteArray.size_extract]; omega)
  have k3 := Lib.hid fun (j : Nat) (hj : j < 4) => xor_words s hs k j hj
  go_enter Tryd.func43, Tryd.ntmps43
  go_wp2_with fail
  refine (k1.out _).mono ?_
  rintro e w1 ⟨rfl, hb1⟩
  rw [show (⟨(turnedL (s.extract 12 16).data.toList k).toArray⟩ : ByteArray) = txt (goneW s.data.toList k 0) by rw [turn_words]; rfl]
  go_wp2_with fail
  go_loopw [5, 6, 7] (fun wv nv av wr => ∃ j : Nat, j ≤ 4 ∧ av = .int .i64 (4 * (j : Int)) ∧ wv = .string (txt (goneW s.data.toList k j)) ∧ nv = .string (txt (goneT s.data.toList k j)) ∧ Below w.heap.size w wr)
    (fun _ _ av _ => 16 - (intOf av).toNat)
  case atStart => exact ⟨0, Nat.zero_le _, by go_num, rfl, rfl, hb1⟩
  case round =>
    obtain ⟨j, hj, rfl, rfl, rfl, hbel⟩ := hrel
    by_cases hlt : j < 4
    · have n1 : (4 * (j : Int)).toNat = 4 * j := by omega
      have n2 : (4 * (j : Int) + 4).toNat = 4 * j + 4 := by omega
      have hlen : 4 * j + 4 ≤ s.size := by omega
      go_wp2_with fail
      refine (k2.out j hlt _).mono ?_
      rintro e w2 ⟨rfl, hb2⟩
      have hb3 : Below w.heap.size w w2 := hbel.trans (hb2.mono hbel.size)
      rw [k3.out j hlt]
      have hz1 : (txt (goneT s.data.toList k j)).size = 4 * j := by rw [txt_size]; exact goneT_length _ k (HL.out) j hj
      have hz2 : (txt (goneW s.data.toList k (j + 1))).size = 4 := by rw [txt_size]; exact goneW_length _ k (HL.out) (j + 1) (by omega)
      have H4 := Lib.hid (step_words s.data.toList k j)
      go_wp2_with fail
      rw [H4.out]
      go_roundw
      case rel => exact ⟨j + 1, by omega, by go_num, rfl, rfl, hb3⟩
      case measure => (simp [intOf]; try omega)
    · obtain rfl : j = 4 := by omega
      go_wp2
      go_ret
      exact ⟨rfl, hbel⟩
end Go.Proofs.YtmkhflcnkpmhiaaDoor
