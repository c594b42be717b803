/- Merged texts: FieldImpl, MixImpl, GenMix, ShiftImpl, PowImpl, BoxImpl, BoxTextImpl, XorImpl. -/
import Derived.Test.YtgpjklnlchbbbaaGreatDoorP9D
import Derived.Test.YtgpjklnlchbbbaaGreatDoorShelfB
import Derived.Laws.Rows
import Derived.StillTailTactics
import Derived.WalkKit
import Derived.WalkSpells
import Derived.WalkLawsBesides
import Derived.Deep.RegionLaw
import Derived.Lib.Hide
namespace Go.Proofs.YtgpjklnlchbbbaaGreatDoor
open Go.RowKit Go.Proofs.YtgpjklnlchbbbaaGreatDoor.Fld Go.Proofs.YtgpjklnlchbbbaaGreatDoor.BitsM

set_option maxRecDepth 100000 in
set_option maxHeartbeats 400000 in
theorem isElem_any (n : Int) (w : World) : Calls Tryz.prog 122 #[.int .i64 n] w fun e w' => e = .returned (.bool (decide (0 ≤ n ∧ n ≤ 255))) ∧ w' = w := by
  by_cases h1 : 0 ≤ n <;> by_cases h2 : n ≤ 255
  all_goals
    go_enter Tryz.func122, Tryz.ntmps122
    go_wp2
    all_goals go_ret
    all_goals exact ⟨by simp [h1, h2], rfl⟩
theorem isElem_yes {n : Int} (w : World) (h : IsByte n) : Calls Tryz.prog 122 #[.int .i64 n] w fun e w' => e = .returned (.bool true) ∧ w' = w :=
  (isElem_any n w).mono fun _ _ ⟨he, hw⟩ => ⟨by rw [he, decide_eq_true (show 0 ≤ n ∧ n ≤ 255 from h)], hw⟩
theorem isElem_no {n : Int} (w : World) (h : ¬ IsByte n) : Calls Tryz.prog 122 #[.int .i64 n] w fun e w' => e = .returned (.bool false) ∧ w' = w :=
  (isElem_any n w).mono fun _ _ ⟨he, hw⟩ => ⟨by rw [he, decide_eq_false (show ¬ (0 ≤ n ∧ n ≤ 255) from h)], hw⟩

set_option maxRecDepth 100000 in
set_option maxHeartbeats 400000 in
theorem implDouble_yes (m : Nat) (w : World) (h : m < 256) : Calls Tryz.prog 125 #[.int .i64 m] w fun e w' => e = .returned (.int .i64 (dbl m)) ∧ w' = w := by
  have HB : Hid (IsByte m) := Lib.hid ⟨by omega, by omega⟩
  by_cases hb : 255 < 2 * m
  · have HD : Hid (dbl m = (2 * m) ^^^ 283) := Lib.hid (if_pos hb)
    have hx := xor64 (2 * m) 283 (by omega) (by omega)
    have e2 : ((2 * m : Nat) : Int) = 2 * (m : Int) := by simp
    rw [e2] at hx
    have e3 : ((283 : Nat) : Int) = 283 := rfl
    rw [e3] at hx
    clear e2 e3
    go_enter Tryz.func125, Tryz.ntmps125
    go_wp2_with fail
    refine (isElem_yes _ HB.out).mono ?_
    rintro e w1 ⟨rfl, rfl⟩
    go_wp2
    go_ret
    exact ⟨ret_int (by rw [HD.out]), rfl⟩
  · have HD : Hid (dbl m = 2 * m) := Lib.hid (if_neg hb)
    go_enter Tryz.func125, Tryz.ntmps125
    go_wp2_with fail
    refine (isElem_yes _ HB.out).mono ?_
    rintro e w1 ⟨rfl, rfl⟩
    go_wp2
    go_ret
    exact ⟨ret_int (by rw [HD.out]; simp), rfl⟩
set_option maxRecDepth 100000 in
set_option maxHeartbeats 400000 in
theorem implDouble_no (n : Int) (w : World) (h : ¬ IsByte n) : Calls Tryz.prog 125 #[.int .i64 n] w fun e w' => e = .returned (.int .i64 0) ∧ w' = w := by
  have HB := Lib.hid h
  clear h
  go_enter Tryz.func125, Tryz.ntmps125
  go_wp2_with fail
  refine (isElem_no _ HB.out).mono ?_
  rintro e w1 ⟨rfl, rfl⟩
  go_wp2
  go_ret
  exact ⟨rfl, rfl⟩

theorem and_one (b : Nat) (hb : b < 9223372036854775808) : bits .and .i64 (b : Int) 1 = ((b % 2 : Nat) : Int) := by
  have h := and64 b 1 hb (by decide)
  rw [Nat.and_one_is_mod] at h
  exact h
theorem shr_odd (b k : Nat) (hb : b < 9223372036854775808) : (bits .and .i64 ((b : Int) / 2 ^ k) 1 == 1) = decide (b / 2 ^ k % 2 = 1) := by
  have e : (b : Int) / 2 ^ k = ((b / 2 ^ k : Nat) : Int) := by simp
  have hl : b / 2 ^ k < 9223372036854775808 := Nat.lt_of_le_of_lt (Nat.div_le_self _ _) hb
  rw [e, and_one _ hl]
  by_cases h : b / 2 ^ k % 2 = 1
  · rw [h]; rfl
  · have h0 : b / 2 ^ k % 2 = 0 := by omega
    rw [h0]; rfl
theorem half_next (b k : Nat) : b / 2 ^ k / 2 = b / 2 ^ (k + 1) := by
  rw [Nat.div_div_eq_div_mul, Nat.pow_succ]

set_option maxRecDepth 100000 in
set_option maxHeartbeats 1000000 in
theorem implMul_yes (A B : Nat) (w : World) (hA : A < 256) (hB : B < 256) : Calls Tryz.prog 120 #[.int .i64 A, .int .i64 B] w fun e w' => e = .returned (.int .i64 (mul A B)) ∧ w' = w := by
  have HA : Hid (IsByte A) := Lib.hid ⟨by omega, by omega⟩
  have HB : Hid (IsByte B) := Lib.hid ⟨by omega, by omega⟩
  have HM : Hid (0 ^^^ mulF 8 A (B / 2 ^ 0) = mul A B) := Lib.hid (by rw [Nat.zero_xor, Nat.pow_zero, Nat.div_one]; rfl)
  go_enter Tryz.func120, Tryz.ntmps120
  go_wp2_with fail
  refine (isElem_yes _ HA.out).mono ?_
  rintro e w1 ⟨rfl, rfl⟩
  go_wp2_with fail
  refine (isElem_yes _ HB.out).mono ?_
  rintro e w2 ⟨rfl, rfl⟩
  go_wp2
  go_loopw [0, 5, 15] (fun av ov kv wr => ∃ k a out : Nat, k ≤ 8 ∧ a < 256 ∧ out < 256 ∧ av = .int .i64 a ∧ kv = .int .i64 k ∧ ov = .int .i64 out ∧ Hid (out ^^^ mulF (8 - k) a (B / 2 ^ k) = mul A B) ∧ wr = w2)
    (fun _ _ kv _ => 8 - (intOf kv).toNat)
  case atStart => exact ⟨0, A, 0, by omega, hA, by omega, rfl, rfl, rfl, HM, rfl⟩
  case round =>
    obtain ⟨k, a, out, hk, ha, ho, rfl, rfl, rfl, HR, rfl⟩ := hrel
    by_cases hlt : k < 8
    · obtain ⟨f, hf⟩ : ∃ f, 8 - k = f + 1 := ⟨7 - k, by omega⟩
      have hf2 : 8 - (k + 1) = f := by omega
      have h1 := HR.out
      rw [hf] at h1
      have HN := Lib.hid (mul_round h1)
      rw [half_next, ← hf2] at HN
      clear h1
      have hm := shr_odd B k (by omega)
      by_cases hodd : B / 2 ^ k % 2 = 1
      · have hx := xor64 out a (by omega) (by omega)
        have ho2 : out ^^^ a < 256 := xor_lt ho ha
        rw [decide_eq_true hodd] at hm
        rw [if_pos hodd] at HN
        clear hodd hf hf2
        go_wp2_with (go_at_call 125; refine (implDouble_yes a _ ha).mono ?_; rintro e w3 ⟨rfl, rfl⟩)
        go_roundw
        case rel => exact ⟨k + 1, dbl a, out ^^^ a, by omega, dbl_lt a ha, ho2, by go_num, by go_num, by go_num, HN, by first | rfl | trivial⟩
        case measure => simp [intOf]; omega
      · rw [decide_eq_false hodd] at hm
        rw [if_neg hodd] at HN
        clear hodd hf hf2
        go_wp2_with (go_at_call 125; refine (implDouble_yes a _ ha).mono ?_; rintro e w3 ⟨rfl, rfl⟩)
        go_roundw
        case rel => exact ⟨k + 1, dbl a, out, by omega, dbl_lt a ha, ho, by go_num, by go_num, by go_num, HN, by first | rfl | trivial⟩
        case measure => simp [intOf]; omega
    · obtain rfl : k = 8 := by omega
      have hfin : out = mul A B := by
        have := HR.out
        rw [show 8 - 8 = 0 from rfl, show mulF 0 a (B / 2 ^ 8) = 0 from rfl, Nat.xor_zero] at this
        exact this
      go_wp2
      go_ret
      exact ⟨ret_int (by rw [hfin]), rfl⟩
set_option maxRecDepth 100000 in
set_option maxHeartbeats 400000 in
theorem implMul_no (n m : Int) (w : World) (h : ¬ (IsByte n ∧ IsByte m)) : Calls Tryz.prog 120 #[.int .i64 n, .int .i64 m] w fun e w' => e = .returned (.int .i64 0) ∧ w' = w := by
  by_cases hn : IsByte n
  · have HN := Lib.hid hn
    have HM : Hid (¬ IsByte m) := Lib.hid (fun hm => h ⟨hn, hm⟩)
    clear h hn
    go_enter Tryz.func120, Tryz.ntmps120
    go_wp2_with fail
    refine (isElem_yes _ HN.out).mono ?_
    rintro e w1 ⟨rfl, rfl⟩
    go_wp2_with fail
    refine (isElem_no _ HM.out).mono ?_
    rintro e w2 ⟨rfl, rfl⟩
    go_wp2
    go_ret
    exact ⟨rfl, rfl⟩
  · have HN := Lib.hid hn
    clear h hn
    go_enter Tryz.func120, Tryz.ntmps120
    go_wp2_with fail
    refine (isElem_no _ HN.out).mono ?_
    rintro e w1 ⟨rfl, rfl⟩
    go_wp2
    go_ret
    exact ⟨rfl, rfl⟩
end Go.Proofs.YtgpjklnlchbbbaaGreatDoor
namespace Go.Proofs.YtgpjklnlchbbbaaGreatDoor
open Go.RowKit Go.Proofs.YtgpjklnlchbbbaaGreatDoor.Hexa Go.Proofs.YtgpjklnlchbbbaaGreatDoor.Byt Go.Proofs.YtgpjklnlchbbbaaGreatDoor.Aes Go.Proofs.YtgpjklnlchbbbaaGreatDoor.Fld Go.Proofs.YtgpjklnlchbbbaaGreatDoor.BitsM

def mixCells : Array Value := #[.int .i64 2, .int .i64 3, .int .i64 1, .int .i64 1]
/-- The table of the factors, in its block. -/
def MixTab (w : World) : Prop := ∃ t fr, w.heap[3]? = some (.cells mixCells t fr)
theorem MixTab.lt {w : World} (h : MixTab w) : 3 < w.heap.size := by
  obtain ⟨t, fr, h⟩ := h
  exact (Array.getElem?_eq_some_iff.1 h).1
theorem MixTab.below {w w' : World} (h : MixTab w) (hb : Below w.heap.size w w') : MixTab w' := by
  have hl := h.lt
  obtain ⟨t, fr, h⟩ := h
  exact ⟨t, fr, by rw [hb.block _ hl]; exact h⟩
theorem mix_index0 (W : World) : (Instr.index 135 (.agg mixCells) (.int .i64 0)).run Tryz.prog W = .ok (.int .i64 2) W := by kernel_rfl
theorem mix_index1 (W : World) : (Instr.index 135 (.agg mixCells) (.int .i64 1)).run Tryz.prog W = .ok (.int .i64 3) W := by kernel_rfl
theorem mix_index2 (W : World) : (Instr.index 135 (.agg mixCells) (.int .i64 2)).run Tryz.prog W = .ok (.int .i64 1) W := by kernel_rfl
theorem mix_index3 (W : World) : (Instr.index 135 (.agg mixCells) (.int .i64 3)).run Tryz.prog W = .ok (.int .i64 1) W := by kernel_rfl
theorem mix_index (W : World) (k : Nat) (hk : k < 4) : (Instr.index 135 (.agg mixCells) (.int .i64 (k : Int))).run Tryz.prog W = .ok (.int .i64 (facN k : Int)) W := by
  match k, hk with
  | 0, _ => exact mix_index0 W
  | 1, _ => exact mix_index1 W
  | 2, _ => exact mix_index2 W
  | 3, _ => exact mix_index3 W
theorem partB_more (A : List UInt8) (n : Nat) (h : A.length < n) : partB A n = partB (A ++ [0]) n := by
  obtain ⟨m, hm⟩ : ∃ m, n - A.length = m + 1 := ⟨n - A.length - 1, by omega⟩
  have h2 : n - (A ++ [0]).length = m := by simp; omega
  unfold partB
  rw [h2, hm, List.replicate_succ, List.append_assoc]
  rfl
theorem partB_turn (A : List UInt8) (n : Nat) (x y : UInt8) (_h : A.length < n) : (partB (A ++ [x]) n).set A.length y = partB (A ++ [y]) n := by
  have h2 : (A ++ [x]).length = (A ++ [y]).length := by simp
  unfold partB
  rw [h2, List.set_append_left _ _ (by simp), List.set_append_right _ _ (Nat.le_refl _), Nat.sub_self]
  rfl
/-- The last byte written, turned. -/
theorem part_turn {w : World} {B e g n : Nat} {A : List UInt8} {x : UInt8} (h : Bytes w B e (.slice (some ⟨g, 0, none⟩) n n) (partB (A ++ [x]) n)) (y : UInt8) (hl : A.length < n) :
    w.cell? ⟨g, A.length, none⟩ = some (.int .u8 x.toNat) ∧ w.frozen? ⟨g, A.length, none⟩ = false ∧ B ≤ g ∧ Bytes (w.setCell ⟨g, A.length, none⟩ (.int .u8 y.toNat)) B e (.slice (some ⟨g, 0, none⟩) n n) (partB (A ++ [y]) n) := by
  have hp := partB_length (A ++ [x]) n (by simp; omega)
  have h' : Bytes w B e (.slice (some ⟨g, 0, none⟩) (partB (A ++ [x]) n).length n) (partB (A ++ [x]) n) := by rw [hp]; exact h
  obtain ⟨h1, h2, h3⟩ := bytes_at h' A.length (by omega)
  have hs := bytes_set h' A.length y
  rw [partB_turn A n x y hl, hp] at hs
  refine ⟨?_, h2, h3, hs⟩
  rw [h1]
  have e : (partB (A ++ [x]) n)[A.length]? = some x := by unfold partB; rw [List.append_assoc, List.getElem?_append_right (Nat.le_refl _), Nat.sub_self]; rfl
  rw [List.getElem?_eq_getElem (by omega)] at e
  rw [Option.some.inj e]
theorem ofNat_toNat8 (r : Nat) (h : r < 256) : (UInt8.ofNat r).toNat = r := by rw [UInt8.toNat_ofNat']; exact Nat.mod_eq_of_lt h

set_option maxRecDepth 100000 in
set_option maxHeartbeats 2000000 in
theorem implMix_yes (s : ByteArray) (w : World) (hs : s.size = 16) (hT : MixTab w) :
    Calls Tryz.prog 117 #[.string s] w fun e w' => e = .returned (.string ⟨(mixL s.data.toList).toArray⟩) ∧ Below w.heap.size w w' := by
  obtain ⟨i0, hi, hz0, hz1, hz2⟩ := info_parts infoByte
  have HT := Lib.hid hT
  clear hT
  have HS := Lib.hid hs
  go_enter Tryz.func117, Tryz.ntmps117
  go_wp2_with (at_make; refine wpList_make_full _ rfl _ _ 22 rfl w.heap.size 5 i0 (.int .u8 0) 1 Tryz.underlying22 hi hz0 hz1 .i64 .i64 _ _ 16 rfl rfl rfl rfl (by rw [hz2]; omega) (by unfold maxLen; omega) (Nat.le_refl _) ?_; intro w0 hown0 hgrow0)
  have hg0 : Below w.heap.size w w0 := (Below.refl _ _).grown hgrow0 (Nat.le_refl _) (fun k h => by cases h)
  have HO0 := Lib.hid (part_start hown0)
  clear hown0 hgrow0 hs
  go_loopw [4, 5, 6, 7, 8, 16] (fun _ _ _ _ _ iv wr => ∃ i : Nat, i ≤ 16 ∧ iv = .int .i64 i ∧ Hid (Bytes wr w.heap.size 5 (.slice (some ⟨w.heap.size, 0, none⟩) 16 16) (partB (mapTo (mixAt s.data.toList) i) 16)) ∧ Below w.heap.size w wr)
    (fun _ _ _ _ _ iv _ => 16 - (intOf iv).toNat)
  case atStart => exact ⟨0, Nat.zero_le _, rfl, HO0, hg0⟩
  case round =>
    clear HO0 hg0
    obtain ⟨i, hi, rfl, HW, hbel⟩ := hrel
    by_cases hlt : i < 16
    · obtain ⟨c, r, hcr, hc4, hr4⟩ : ∃ c r, i = 4 * c + r ∧ c < 4 ∧ r < 4 := ⟨i / 4, i % 4, by omega, by omega, by omega⟩
      have HCR := Lib.hid hcr
      have e1 : (i : Int) % 4 = (r : Int) := by omega
      have e2 : (i : Int) - (r : Int) = 4 * (c : Int) := by omega
      have e3 : IntKind.i64.wrap (4 * (c : Int)) = 4 * (c : Int) := IntWalk.i64_in _ (by omega)
      have e4 : (4 * (c : Int)).toNat = 4 * c := by omega
      have e5 : (4 * (c : Int) + 4).toNat = 4 * c + 4 := by omega
      have e6 : 4 * (c : Int) + 4 ≤ (s.size : Int) := by have := HS.out; omega
      have hTr := HT.out.below hbel
      obtain ⟨tt, tfr, htab⟩ := hTr
      clear hcr
      go_wp2_with (first
        | (refine wpList_load_row rfl 135 (.global 3) rfl 3 rfl tt mixCells tfr _ htab Tryz.underlying135 rfl (by kernel_rfl) ?_))
      obtain ⟨col, hcol⟩ : ∃ col, s.extract (4 * c) (4 * c + 4) = col := ⟨_, rfl⟩
      have hcz : col.size = 4 := by rw [← hcol, ByteArray.size_extract]; have := HS.out; omega
      have HC : Hid (∀ (j : Nat) (h : j < col.size), col[j]'h = s.data.toList.getD (4 * c + j) 0) := Lib.hid (fun j h => by
        subst hcol
        have hj : 4 * c + j < s.size := by rw [ByteArray.size_extract] at h; omega
        rw [← text_at s _ hj]
        exact ByteArray.getElem_extract h)
      rw [hcol]
      have HZ := Lib.hid hcz
      clear hcol e6 e5 e4 e3 e2 e1 htab
      have hlA := mapTo_length (mixAt s.data.toList) i
      have HW0 : Hid (Bytes wr w.heap.size 5 (.slice (some ⟨w.heap.size, 0, none⟩) 16 16) (partB (mapTo (mixAt s.data.toList) i ++ [mixTo s.data.toList i 0]) 16)) := Lib.hid (by
        have h := HW.out
        rw [partB_more _ _ (by omega)] at h
        exact h)
      have HA := Lib.hid hlA
      clear hlA
      go_loopw [7, 8, 31] (fun _ _ kv wq => ∃ k : Nat, k ≤ 4 ∧ kv = .int .i64 k ∧ Hid (Bytes wq w.heap.size 5 (.slice (some ⟨w.heap.size, 0, none⟩) 16 16) (partB (mapTo (mixAt s.data.toList) i ++ [mixTo s.data.toList i k]) 16)) ∧ Below w.heap.size w wq)
        (fun _ _ kv _ => 4 - (intOf kv).toNat)
      case atStart => exact ⟨0, Nat.zero_le _, rfl, HW0, hbel⟩
      case round =>
        clear HW HW0 hbel
        obtain ⟨k, hk, rfl, HW, hbel⟩ := hrel
        by_cases hkt : k < 4
        · have hix := mix_index wr k hkt
          obtain ⟨q, hq, hq4, hq5⟩ : ∃ q : Nat, ((r : Int) + (k : Int)) % 4 = (q : Int) ∧ q < 4 ∧ 4 * (i / 4) + (i % 4 + k) % 4 = 4 * c + q := ⟨(r + k) % 4, by omega, by omega, by have := HCR.out; omega⟩
          obtain ⟨cc, cz, cB, HN⟩ := part_turn HW.out (mixTo s.data.toList i (k + 1)) (by rw [HA.out]; exact hlt)
          rw [HA.out] at cc cz HN
          have hqz : q < col.size := by omega
          have hval := HC.out q hqz
          have HM : Hid (mixTo s.data.toList i (k + 1) = mixTo s.data.toList i k ^^^ UInt8.ofNat (mul (col[q]'hqz).toNat (facN k))) := Lib.hid (by
            rw [hval, ← hq5]; rfl)
          have HN2 := Lib.hid HN
          clear HN hval
          have hf := facN_lt k
          have g1 : IntKind.i64.wrap ((r : Int) + (k : Int)) = (r : Int) + (k : Int) := IntWalk.i64_in _ (by omega)
          have g5 : ((r : Int) + (k : Int)).tmod 4 = (q : Int) := by rw [Int.tmod_eq_emod_of_nonneg (by omega)]; exact hq
          have g2 : (q : Int) < 4 := by omega
          have g3 : (k : Int) < 4 := by omega
          have g4 : (i : Int) < 16 := by omega
          go_wp2_with fail
          refine wp_region_still_tail 16 (by kernel_rfl) (by kernel_rfl) ?_
          simp only [List.take_succ_cons, List.take_zero, List.drop_succ_cons, List.drop_zero]
          repeat still_step
          generalize (col[q]'hqz) = x at HM ⊢
          have hx := x.toNat_lt
          have hM := mul_lt x.toNat (facN k) hx
          have kp := Lib.hid fun w => implMul_yes x.toNat (facN k) w hx hf
          have hx8 : bits .xor .u8 ((mixTo s.data.toList i k).toNat : Int) ((mul x.toNat (facN k) : Nat) : Int) = ((mixTo s.data.toList i (k + 1)).toNat : Int) := by
            rw [HM.out, ← xor8, ofNat_toNat8 _ hM]
          generalize mul x.toNat (facN k) = M at kp hx8 hM
          rw [show IntKind.i64.wrap (x.toNat : Int) = (x.toNat : Int) from IntWalk.i64_in _ (by omega)]
          still_call (kp.out _)
          repeat still_step
          refine wpStill_nil ?_
          change wpList _ _ _ _ _ wr.drew
          have hw8 : IntKind.u8.wrap (M : Int) = (M : Int) := by have := IntKind.wrap_u8 (M : Int); rw [this]; omega
          rw [hw8, hx8]
          clear hw8 hx8 kp hx hM HM g1 g2 g3 g4 g5 hq hqz
          go_wp2
          go_roundw
          case rel => exact ⟨k + 1, by omega, by go_num, HN2, (hbel.setCell (Nat.le_refl _) _).drew⟩
          case measure => (simp [intOf]; try omega)
        · obtain rfl : k = 4 := by omega
          have h := HW.out
          rw [mixTo_four, mapTo_next] at h
          have HN := Lib.hid h
          clear h
          go_wp2
          go_roundw
          case rel => exact ⟨i + 1, by omega, by go_num, HN, hbel⟩
          case measure => (simp [intOf]; try omega)
    · obtain rfl : i = 16 := by omega
      have hl := mapTo_length (mixAt s.data.toList) 16
      have h9 := HW.out
      rw [partB_full _ _ hl] at h9
      have hconv := bytes_string (P := Tryz.prog) 22 9 Tryz.underlying22 Tryz.underlying5 Tryz.underlying9 h9
      clear h9
      go_wp2
      go_ret
      exact ⟨rfl, hbel⟩

set_option maxRecDepth 100000 in
set_option maxHeartbeats 400000 in
theorem implMix_no (s : ByteArray) (w : World) (hs : ¬ s.size = 16) :
    Calls Tryz.prog 117 #[.string s] w fun e w' => e = .returned (.string s) ∧ Below w.heap.size w w' := by
  go_enter Tryz.func117, Tryz.ntmps117
  go_wp2
  go_ret
  exact ⟨rfl, Below.refl _ _⟩
end Go.Proofs.YtgpjklnlchbbbaaGreatDoor
namespace Go.Proofs.YtgpjklnlchbbbaaGreatDoor.Gen
/-- Four factors. -/
structure Mix4 where
  a : Int
  b : Int
  c : Int
  d : Int
open Go.RowKit Go.Proofs.YtgpjklnlchbbbaaGreatDoor.Hexa Go.Proofs.YtgpjklnlchbbbaaGreatDoor.Byt Go.Proofs.YtgpjklnlchbbbaaGreatDoor.Aes Go.Proofs.YtgpjklnlchbbbaaGreatDoor.Fld Go.Proofs.YtgpjklnlchbbbaaGreatDoor.BitsM Go.Proofs.YtgpjklnlchbbbaaGreatDoor.Parts

/-- What FieldMul returns for a byte and any number. -/
def mulI (a : Nat) (f : Int) : Nat := if 0 ≤ f ∧ f ≤ 255 then mul a f.toNat else 0
theorem mulI_lt (a : Nat) (f : Int) (h : a < 256) : mulI a f < 256 := by
  unfold mulI
  split
  · exact mul_lt _ _ h
  · decide
theorem implMulI (A : Nat) (f : Int) (w : World) (hA : A < 256) : Calls Tryz.prog 120 #[.int .i64 A, .int .i64 f] w fun e w' => e = .returned (.int .i64 (mulI A f)) ∧ w' = w := by
  by_cases h : 0 ≤ f ∧ f ≤ 255
  · obtain ⟨m, rfl⟩ : ∃ m : Nat, f = m := ⟨f.toNat, by omega⟩
    have e : mulI A m = mul A m := if_pos h
    rw [e]
    exact implMul_yes A m w hA (by omega)
  · have e : mulI A f = 0 := if_neg h
    rw [e]
    exact implMul_no A f w (fun hh => h (by have := hh.2; unfold IsByte at this; omega))
theorem mix_any (a b c d : Int) (W : World) : (Instr.index 135 (.agg #[.int .i64 a, .int .i64 b, .int .i64 c, .int .i64 d]) (.int .i64 0)).run Tryz.prog W = .ok (.int .i64 a) W ∧
    (Instr.index 135 (.agg #[.int .i64 a, .int .i64 b, .int .i64 c, .int .i64 d]) (.int .i64 1)).run Tryz.prog W = .ok (.int .i64 b) W ∧
    (Instr.index 135 (.agg #[.int .i64 a, .int .i64 b, .int .i64 c, .int .i64 d]) (.int .i64 2)).run Tryz.prog W = .ok (.int .i64 c) W ∧
    (Instr.index 135 (.agg #[.int .i64 a, .int .i64 b, .int .i64 c, .int .i64 d]) (.int .i64 3)).run Tryz.prog W = .ok (.int .i64 d) W :=
  ⟨by kernel_rfl, by kernel_rfl, by kernel_rfl, by kernel_rfl⟩
variable [Inhabited Mix4]
def facI : Nat → Int
  | 0 => (default : Mix4).a
  | 1 => (default : Mix4).b
  | 2 => (default : Mix4).c
  | _ => (default : Mix4).d
/-- Byte p of a mixed block, when the first k factors are in. -/
def mixTo (l : List UInt8) (p : Nat) : Nat → UInt8
  | 0 => 0
  | k + 1 => mixTo l p k ^^^ UInt8.ofNat (mulI (l.getD (4 * (p / 4) + (p % 4 + k) % 4) 0).toNat (facI k))
def mixAt (l : List UInt8) (p : Nat) : UInt8 := mixTo l p 4
theorem mixTo_four (l : List UInt8) (p : Nat) : mixTo l p 4 = mixAt l p := rfl
def mixL (l : List UInt8) : List UInt8 := (List.range 16).map (mixAt l)
theorem mixL_length (l : List UInt8) : (mixL l).length = 16 := by simp [mixL]
def mixCells : Array Value := #[.int .i64 (facI 0), .int .i64 (facI 1), .int .i64 (facI 2), .int .i64 (facI 3)]
/-- The table of the factors, in its block. -/
def MixTab (w : World) : Prop := ∃ t fr, w.heap[3]? = some (.cells mixCells t fr)
theorem MixTab.lt {w : World} (h : MixTab w) : 3 < w.heap.size := by
  obtain ⟨t, fr, h⟩ := h
  exact (Array.getElem?_eq_some_iff.1 h).1
theorem MixTab.below {w w' : World} (h : MixTab w) (hb : Below w.heap.size w w') : MixTab w' := by
  have hl := h.lt
  obtain ⟨t, fr, h⟩ := h
  exact ⟨t, fr, by rw [hb.block _ hl]; exact h⟩

theorem mix_index (W : World) (k : Nat) (hk : k < 4) : (Instr.index 135 (.agg mixCells) (.int .i64 (k : Int))).run Tryz.prog W = .ok (.int .i64 (facI k)) W := by
  obtain ⟨h0, h1, h2, h3⟩ := mix_any (facI 0) (facI 1) (facI 2) (facI 3) W
  match k, hk with
  | 0, _ => exact h0
  | 1, _ => exact h1
  | 2, _ => exact h2
  | 3, _ => exact h3

set_option maxRecDepth 100000 in
set_option maxHeartbeats 2000000 in
theorem implMix_yes (s : ByteArray) (w : World) (hs : s.size = 16) (hT : MixTab w) :
    Calls Tryz.prog 117 #[.string s] w fun e w' => e = .returned (.string ⟨(mixL s.data.toList).toArray⟩) ∧ Below w.heap.size w w' := by
  obtain ⟨i0, hi, hz0, hz1, hz2⟩ := info_parts infoByte
  have HT := Lib.hid hT
  clear hT
  have HS := Lib.hid hs
  go_enter Tryz.func117, Tryz.ntmps117
  go_wp2_with (at_make; refine wpList_make_full _ rfl _ _ 22 rfl w.heap.size 5 i0 (.int .u8 0) 1 Tryz.underlying22 hi hz0 hz1 .i64 .i64 _ _ 16 rfl rfl rfl rfl (by rw [hz2]; omega) (by unfold maxLen; omega) (Nat.le_refl _) ?_; intro w0 hown0 hgrow0)
  have hg0 : Below w.heap.size w w0 := (Below.refl _ _).grown hgrow0 (Nat.le_refl _) (fun k h => by cases h)
  have HO0 := Lib.hid (part_start hown0)
  clear hown0 hgrow0 hs
  go_loopw [4, 5, 6, 7, 8, 16] (fun _ _ _ _ _ iv wr => ∃ i : Nat, i ≤ 16 ∧ iv = .int .i64 i ∧ Hid (Bytes wr w.heap.size 5 (.slice (some ⟨w.heap.size, 0, none⟩) 16 16) (partB (mapTo (mixAt s.data.toList) i) 16)) ∧ Below w.heap.size w wr)
    (fun _ _ _ _ _ iv _ => 16 - (intOf iv).toNat)
  case atStart => exact ⟨0, Nat.zero_le _, rfl, HO0, hg0⟩
  case round =>
    clear HO0 hg0
    obtain ⟨i, hi, rfl, HW, hbel⟩ := hrel
    by_cases hlt : i < 16
    · obtain ⟨c, r, hcr, hc4, hr4⟩ : ∃ c r, i = 4 * c + r ∧ c < 4 ∧ r < 4 := ⟨i / 4, i % 4, by omega, by omega, by omega⟩
      have HCR := Lib.hid hcr
      have e1 : (i : Int) % 4 = (r : Int) := by omega
      have e2 : (i : Int) - (r : Int) = 4 * (c : Int) := by omega
      have e3 : IntKind.i64.wrap (4 * (c : Int)) = 4 * (c : Int) := IntWalk.i64_in _ (by omega)
      have e4 : (4 * (c : Int)).toNat = 4 * c := by omega
      have e5 : (4 * (c : Int) + 4).toNat = 4 * c + 4 := by omega
      have e6 : 4 * (c : Int) + 4 ≤ (s.size : Int) := by have := HS.out; omega
      have hTr := HT.out.below hbel
      obtain ⟨tt, tfr, htab⟩ := hTr
      clear hcr
      go_wp2_with (first
        | (refine wpList_load_row rfl 135 (.global 3) rfl 3 rfl tt mixCells tfr _ htab Tryz.underlying135 rfl (by kernel_rfl) ?_))
      obtain ⟨col, hcol⟩ : ∃ col, s.extract (4 * c) (4 * c + 4) = col := ⟨_, rfl⟩
      have hcz : col.size = 4 := by rw [← hcol, ByteArray.size_extract]; have := HS.out; omega
      have HC : Hid (∀ (j : Nat) (h : j < col.size), col[j]'h = s.data.toList.getD (4 * c + j) 0) := Lib.hid (fun j h => by
        subst hcol
        have hj : 4 * c + j < s.size := by rw [ByteArray.size_extract] at h; omega
        rw [← text_at s _ hj]
        exact ByteArray.getElem_extract h)
      rw [hcol]
      have HZ := Lib.hid hcz
      clear hcol e6 e5 e4 e3 e2 e1 htab
      have hlA := mapTo_length (mixAt s.data.toList) i
      have HW0 : Hid (Bytes wr w.heap.size 5 (.slice (some ⟨w.heap.size, 0, none⟩) 16 16) (partB (mapTo (mixAt s.data.toList) i ++ [mixTo s.data.toList i 0]) 16)) := Lib.hid (by
        have h := HW.out
        rw [partB_more _ _ (by omega)] at h
        exact h)
      have HA := Lib.hid hlA
      clear hlA
      go_loopw [7, 8, 31] (fun _ _ kv wq => ∃ k : Nat, k ≤ 4 ∧ kv = .int .i64 k ∧ Hid (Bytes wq w.heap.size 5 (.slice (some ⟨w.heap.size, 0, none⟩) 16 16) (partB (mapTo (mixAt s.data.toList) i ++ [mixTo s.data.toList i k]) 16)) ∧ Below w.heap.size w wq)
        (fun _ _ kv _ => 4 - (intOf kv).toNat)
      case atStart => exact ⟨0, Nat.zero_le _, rfl, HW0, hbel⟩
      case round =>
        clear HW HW0 hbel
        obtain ⟨k, hk, rfl, HW, hbel⟩ := hrel
        by_cases hkt : k < 4
        · have hix := mix_index wr k hkt
          obtain ⟨q, hq, hq4, hq5⟩ : ∃ q : Nat, ((r : Int) + (k : Int)) % 4 = (q : Int) ∧ q < 4 ∧ 4 * (i / 4) + (i % 4 + k) % 4 = 4 * c + q := ⟨(r + k) % 4, by omega, by omega, by have := HCR.out; omega⟩
          obtain ⟨cc, cz, cB, HN⟩ := part_turn HW.out (mixTo s.data.toList i (k + 1)) (by rw [HA.out]; exact hlt)
          rw [HA.out] at cc cz HN
          have hqz : q < col.size := by omega
          have hval := HC.out q hqz
          have HM : Hid (mixTo s.data.toList i (k + 1) = mixTo s.data.toList i k ^^^ UInt8.ofNat (mulI (col[q]'hqz).toNat (facI k))) := Lib.hid (by
            rw [hval, ← hq5]; rfl)
          have HN2 := Lib.hid HN
          clear HN hval
          have g1 : IntKind.i64.wrap ((r : Int) + (k : Int)) = (r : Int) + (k : Int) := IntWalk.i64_in _ (by omega)
          have g5 : ((r : Int) + (k : Int)).tmod 4 = (q : Int) := by rw [Int.tmod_eq_emod_of_nonneg (by omega)]; exact hq
          have g2 : (q : Int) < 4 := by omega
          have g3 : (k : Int) < 4 := by omega
          have g4 : (i : Int) < 16 := by omega
          go_wp2_with fail
          refine wp_region_still_tail 16 (by kernel_rfl) (by kernel_rfl) ?_
          simp only [List.take_succ_cons, List.take_zero, List.drop_succ_cons, List.drop_zero]
          repeat still_step
          generalize (col[q]'hqz) = x at HM ⊢
          have hx := x.toNat_lt
          have hM := mulI_lt x.toNat (facI k) hx
          have kp := Lib.hid fun w => implMulI x.toNat (facI k) w hx
          have hx8 : bits .xor .u8 ((mixTo s.data.toList i k).toNat : Int) ((mulI x.toNat (facI k) : Nat) : Int) = ((mixTo s.data.toList i (k + 1)).toNat : Int) := by
            rw [HM.out, ← xor8, ofNat_toNat8 _ hM]
          generalize mulI x.toNat (facI k) = M at kp hx8 hM
          rw [show IntKind.i64.wrap (x.toNat : Int) = (x.toNat : Int) from IntWalk.i64_in _ (by omega)]
          still_call (kp.out _)
          repeat still_step
          refine wpStill_nil ?_
          change wpList _ _ _ _ _ wr.drew
          have hw8 : IntKind.u8.wrap (M : Int) = (M : Int) := by have := IntKind.wrap_u8 (M : Int); rw [this]; omega
          rw [hw8, hx8]
          clear hw8 hx8 kp hx hM HM g1 g2 g3 g4 g5 hq hqz
          go_wp2
          go_roundw
          case rel => exact ⟨k + 1, by omega, by go_num, HN2, (hbel.setCell (Nat.le_refl _) _).drew⟩
          case measure => (simp [intOf]; try omega)
        · obtain rfl : k = 4 := by omega
          have h := HW.out
          rw [mixTo_four, mapTo_next] at h
          have HN := Lib.hid h
          clear h
          go_wp2
          go_roundw
          case rel => exact ⟨i + 1, by omega, by go_num, HN, hbel⟩
          case measure => (simp [intOf]; try omega)
    · obtain rfl : i = 16 := by omega
      have hl := mapTo_length (mixAt s.data.toList) 16
      have h9 := HW.out
      rw [partB_full _ _ hl] at h9
      have hconv := bytes_string (P := Tryz.prog) 22 9 Tryz.underlying22 Tryz.underlying5 Tryz.underlying9 h9
      clear h9
      go_wp2
      go_ret
      exact ⟨rfl, hbel⟩

end Go.Proofs.YtgpjklnlchbbbaaGreatDoor.Gen
namespace Go.Proofs.YtgpjklnlchbbbaaGreatDoor
open Go.RowKit Go.Proofs.YtgpjklnlchbbbaaGreatDoor.Hexa Go.Proofs.YtgpjklnlchbbbaaGreatDoor.Byt Go.Proofs.YtgpjklnlchbbbaaGreatDoor.Aes

theorem shiftAt_turned (l : List UInt8) (p : Nat) (_hp : p < 16) : shiftAt l p = l.getD ((p + 4 * (p % 4)) % 16) 0 := by
  unfold shiftAt
  rw [show 4 * ((p / 4 + p % 4) % 4) + p % 4 = (p + 4 * (p % 4)) % 16 by omega]

set_option maxRecDepth 100000 in
set_option maxHeartbeats 1000000 in
theorem implShift_yes (s : ByteArray) (w : World) (hs : s.size = 16) :
    Calls Tryz.prog 116 #[.string s] w fun e w' => e = .returned (.string ⟨(shiftL s.data.toList).toArray⟩) ∧ Below w.heap.size w w' := by
  obtain ⟨i0, hi, hz0, hz1, hz2⟩ := info_parts infoByte
  go_enter Tryz.func116, Tryz.ntmps116
  go_wp2_with (at_make; refine wpList_make_full _ rfl _ _ 22 rfl w.heap.size 5 i0 (.int .u8 0) 1 Tryz.underlying22 hi hz0 hz1 .i64 .i64 _ _ 16 rfl rfl rfl rfl (by rw [hz2]; omega) (by unfold maxLen; omega) (Nat.le_refl _) ?_; intro w0 hown0 hgrow0)
  have hg0 : Below w.heap.size w w0 := (Below.refl _ _).grown hgrow0 (Nat.le_refl _) (fun k h => by cases h)
  have HO0 := Lib.hid (part_start hown0)
  clear hown0 hgrow0
  go_loopw [4, 5, 13] (fun jv rv iv wr => ∃ k : Nat, k ≤ 16 ∧ iv = .int .i64 k ∧ Hid (Bytes wr w.heap.size 5 (.slice (some ⟨w.heap.size, 0, none⟩) 16 16) (partB (mapTo (shiftAt s.data.toList) k) 16)) ∧ Below w.heap.size w wr)
    (fun _ _ iv _ => 16 - (intOf iv).toNat)
  case atStart => exact ⟨0, Nat.zero_le _, rfl, HO0, hg0⟩
  case round =>
    clear HO0 hg0
    obtain ⟨k, hk, rfl, HW, hbel⟩ := hrel
    by_cases hlt : k < 16
    · have hq : (k + 4 * (k % 4)) % 16 < s.size := by omega
      have hl := mapTo_length (shiftAt s.data.toList) k
      have hta := text_at s _ hq
      obtain ⟨⟨v, c3⟩, z3, hB⟩ := part_at HW.out (by omega)
      have N3 := part_next HW.out (shiftAt s.data.toList k) (by omega)
      rw [hl] at c3 z3
      rw [hl, mapTo_next, shiftAt_turned _ k hlt, ← hta] at N3
      have HN3 := Lib.hid N3
      have hb3 : Below w.heap.size w (wr.setCell ⟨w.heap.size, k, none⟩ (.int .u8 ((s[(k + 4 * (k % 4)) % 16]'hq).toNat : Int))) := hbel.setCell (Nat.le_refl _) _
      clear N3 hta
      go_wp2
      go_roundw
      case rel => exact ⟨k + 1, by omega, by go_num, HN3, hb3⟩
      case measure => (simp [intOf]; try omega)
    · obtain rfl : k = 16 := by omega
      have hl := mapTo_length (shiftAt s.data.toList) 16
      have h9 := HW.out
      rw [partB_full _ _ hl] at h9
      have hconv := bytes_string (P := Tryz.prog) 22 9 Tryz.underlying22 Tryz.underlying5 Tryz.underlying9 h9
      clear h9
      go_wp2
      go_ret
      exact ⟨rfl, hbel⟩

set_option maxRecDepth 100000 in
set_option maxHeartbeats 400000 in
theorem implShift_no (s : ByteArray) (w : World) (hs : ¬ s.size = 16) :
    Calls Tryz.prog 116 #[.string s] w fun e w' => e = .returned (.string s) ∧ Below w.heap.size w w' := by
  go_enter Tryz.func116, Tryz.ntmps116
  go_wp2
  go_ret
  exact ⟨rfl, Below.refl _ _⟩
end Go.Proofs.YtgpjklnlchbbbaaGreatDoor
namespace Go.Proofs.YtgpjklnlchbbbaaGreatDoor
open Go.RowKit Go.Proofs.YtgpjklnlchbbbaaGreatDoor.Fld Go.Proofs.YtgpjklnlchbbbaaGreatDoor.BitsM

/-- How many bits an exponent in its range has. -/
theorem len_all : (List.range 1001).all (fun n => decide (n < 2 ^ Lib.bitLen n) && decide (Lib.bitLen n ≤ 10)) = true := by decide +kernel
theorem len_of (n : Nat) (h : n ≤ 1000) : n < 2 ^ Lib.bitLen n ∧ Lib.bitLen n ≤ 10 := by
  have := List.all_eq_true.1 len_all n (List.mem_range.2 (by omega))
  simpa using this
theorem pow_next (A n k out x : Nat) (ho : out < 256) (hx : x < 256) (h : mul out (pow x (n / 2 ^ k)) = pow A n) :
    mul (if n / 2 ^ k % 2 = 1 then mul out x else out) (pow (mul x x) (n / 2 ^ (k + 1))) = pow A n := by
  have := pow_round out x (n / 2 ^ k) _ ho hx h
  rwa [half_next] at this

set_option maxRecDepth 100000 in
set_option maxHeartbeats 1000000 in
theorem implPow_yes (A n : Nat) (w : World) (hA : A < 256) (hn : n ≤ 1000) : Calls Tryz.prog 121 #[.int .i64 A, .int .i64 n] w fun e w' => e = .returned (.int .i64 (pow A n)) ∧ w' = w := by
  have HA : Hid (IsByte A) := Lib.hid ⟨by omega, by omega⟩
  have HM : Hid (mul 1 (pow A (n / 2 ^ 0)) = pow A n) := Lib.hid (by rw [Nat.pow_zero, Nat.div_one, mul_comm 1 _ (by decide) (pow_lt A n), mul_one _ (pow_lt A n)])
  obtain ⟨hl1, hl2⟩ := len_of n hn
  obtain ⟨L, hL⟩ : ∃ L, Lib.bitLen n = L := ⟨_, rfl⟩
  have KL : Hid (∀ w, Calls Tryz.prog 126 #[.int .u64 (n : Int)] w fun e w' => e = .returned (.int .i64 L) ∧ w' = w) := Lib.hid (fun w => by
    have := Tryz.bits_Len (n : Int) w (by omega) (by omega)
    rwa [Int.toNat_natCast, hL] at this)
  rw [hL] at hl1 hl2
  have HL := Lib.hid hl1
  clear hl1 hL
  go_enter Tryz.func121, Tryz.ntmps121
  go_wp2_with fail
  refine (isElem_yes _ HA.out).mono ?_
  rintro e w1 ⟨rfl, rfl⟩
  go_wp2_with fail
  refine (KL.out _).mono ?_
  rintro e w2 ⟨rfl, rfl⟩
  go_wp2
  go_loopw [0, 5, 21] (fun av ov kv wr => ∃ k a out : Nat, k ≤ L ∧ a < 256 ∧ out < 256 ∧ av = .int .i64 a ∧ kv = .int .i64 k ∧ ov = .int .i64 out ∧ Hid (mul out (pow a (n / 2 ^ k)) = pow A n) ∧ wr = w2)
    (fun _ _ kv _ => L - (intOf kv).toNat)
  case atStart => exact ⟨0, A, 1, by omega, hA, by omega, rfl, rfl, rfl, HM, rfl⟩
  case round =>
    obtain ⟨k, a, out, hk, ha, ho, rfl, rfl, rfl, HR, rfl⟩ := hrel
    by_cases hlt : k < L
    · have HN := Lib.hid (pow_next A n k out a ho ha HR.out)
      have hm := shr_odd n k (by omega)
      have hsq := mul_lt a a ha
      by_cases hodd : n / 2 ^ k % 2 = 1
      · have hml := mul_lt out a ho
        rw [decide_eq_true hodd] at hm
        rw [if_pos hodd] at HN
        clear hodd
        go_wp2_with fail
        refine (implMul_yes out a _ ho ha).mono ?_
        rintro e w3 ⟨rfl, rfl⟩
        go_wp2_with fail
        refine (implMul_yes a a _ ha ha).mono ?_
        rintro e w4 ⟨rfl, rfl⟩
        go_wp2
        go_roundw
        case rel => exact ⟨k + 1, mul a a, mul out a, by omega, hsq, hml, by go_num, by go_num, by go_num, HN, by first | rfl | trivial⟩
        case measure => simp [intOf]; omega
      · rw [decide_eq_false hodd] at hm
        rw [if_neg hodd] at HN
        clear hodd
        go_wp2_with fail
        refine (implMul_yes a a _ ha ha).mono ?_
        rintro e w4 ⟨rfl, rfl⟩
        go_wp2
        go_roundw
        case rel => exact ⟨k + 1, mul a a, out, by omega, hsq, ho, by go_num, by go_num, by go_num, HN, by first | rfl | trivial⟩
        case measure => simp [intOf]; omega
    · obtain rfl : k = L := by omega
      have hfin : out = pow A n := by
        have := HR.out
        rw [Nat.div_eq_of_lt HL.out, pow_end out a ho] at this
        exact this
      go_wp2
      go_ret
      exact ⟨ret_int (by rw [hfin]), rfl⟩
set_option maxRecDepth 100000 in
set_option maxHeartbeats 400000 in
theorem implPow_no (a n : Int) (w : World) (h : ¬ (IsByte a ∧ IsExp n)) : Calls Tryz.prog 121 #[.int .i64 a, .int .i64 n] w fun e w' => e = .returned (.int .i64 0) ∧ w' = w := by
  by_cases ha : IsByte a
  · have HN := Lib.hid ha
    have hM : n < 0 ∨ 1000 < n := by
      have : ¬ IsExp n := fun hm => h ⟨ha, hm⟩
      unfold IsExp at this
      omega
    clear h ha
    rcases hM with hM | hM
    all_goals
      go_enter Tryz.func121, Tryz.ntmps121
      go_wp2_with fail
      refine (isElem_yes _ HN.out).mono ?_
      rintro e w1 ⟨rfl, rfl⟩
      go_wp2
      go_ret
      exact ⟨rfl, rfl⟩
  · have HN := Lib.hid ha
    clear h ha
    go_enter Tryz.func121, Tryz.ntmps121
    go_wp2_with fail
    refine (isElem_no _ HN.out).mono ?_
    rintro e w1 ⟨rfl, rfl⟩
    go_wp2
    go_ret
    exact ⟨rfl, rfl⟩

theorem implDouble_any (a : Int) (w : World) : Calls Tryz.prog 125 #[.int .i64 a] w fun e w' => e = .returned (.int .i64 (dblI a)) ∧ Below w.heap.size w w' := by
  by_cases h : 0 ≤ a ∧ a ≤ 255
  · have hE : dblI a = (dbl a.toNat : Int) := if_pos h
    obtain ⟨m, rfl⟩ : ∃ m : Nat, a = m := ⟨a.toNat, by omega⟩
    rw [hE, Int.toNat_natCast]
    exact (implDouble_yes m w (by omega)).mono fun _ _ h => below_same h
  · have hE : dblI a = 0 := if_neg h
    rw [hE]
    exact (implDouble_no a w h).mono fun _ _ h => below_same h
theorem implMul_any (a b : Int) (w : World) : Calls Tryz.prog 120 #[.int .i64 a, .int .i64 b] w fun e w' => e = .returned (.int .i64 (mulI a b)) ∧ Below w.heap.size w w' := by
  by_cases h : (0 ≤ a ∧ a ≤ 255) ∧ (0 ≤ b ∧ b ≤ 255)
  · have hE : mulI a b = (mul a.toNat b.toNat : Int) := if_pos h
    obtain ⟨m, rfl⟩ : ∃ m : Nat, a = m := ⟨a.toNat, by omega⟩
    obtain ⟨n, rfl⟩ : ∃ n : Nat, b = n := ⟨b.toNat, by omega⟩
    rw [hE, Int.toNat_natCast, Int.toNat_natCast]
    exact (implMul_yes m n w (by omega) (by omega)).mono fun _ _ h => below_same h
  · have hE : mulI a b = 0 := if_neg h
    rw [hE]
    exact (implMul_no a b w h).mono fun _ _ h => below_same h
theorem implPow_id (a b : Int) (w : World) : Calls Tryz.prog 121 #[.int .i64 a, .int .i64 b] w fun e w' => e = .returned (.int .i64 (powI a b)) ∧ w' = w := by
  by_cases h : (0 ≤ a ∧ a ≤ 255) ∧ (0 ≤ b ∧ b ≤ 1000)
  · have hE : powI a b = (pow a.toNat b.toNat : Int) := if_pos h
    obtain ⟨m, rfl⟩ : ∃ m : Nat, a = m := ⟨a.toNat, by omega⟩
    obtain ⟨n, rfl⟩ : ∃ n : Nat, b = n := ⟨b.toNat, by omega⟩
    rw [hE, Int.toNat_natCast, Int.toNat_natCast]
    exact implPow_yes m n w (by omega) (by omega)
  · have hE : powI a b = 0 := if_neg h
    rw [hE]
    exact implPow_no a b w h
theorem implPow_any (a b : Int) (w : World) : Calls Tryz.prog 121 #[.int .i64 a, .int .i64 b] w fun e w' => e = .returned (.int .i64 (powI a b)) ∧ Below w.heap.size w w' :=
  (implPow_id a b w).mono fun _ _ h => below_same h
theorem powI_inv (a : Int) : powI a 254 = invI a := by
  unfold powI invI
  by_cases h : 1 ≤ a ∧ a ≤ 255
  · rw [if_pos (by omega), if_pos h, inv_pow _ (by omega)]
    rfl
  · rw [if_neg h]
    by_cases h0 : a = 0
    · subst h0
      rw [if_pos (by decide)]
      show ((pow 0 254 : Nat) : Int) = 0
      rw [← inv_pow 0 (by decide), inv_zero]; rfl
    · rw [if_neg (by omega)]
set_option maxRecDepth 100000 in
set_option maxHeartbeats 400000 in
theorem implInverse_id (a : Int) (w : World) : Calls Tryz.prog 123 #[.int .i64 a] w fun e w' => e = .returned (.int .i64 (invI a)) ∧ w' = w := by
  have K := Lib.hid (fun w => implPow_id a 254 w)
  rw [powI_inv] at K
  go_enter Tryz.func123, Tryz.ntmps123
  go_wp2_with fail
  refine (K.out _).mono ?_
  rintro e w1 ⟨rfl, rfl⟩
  go_wp2
  go_ret
  exact ⟨rfl, rfl⟩
theorem implInverse_any (a : Int) (w : World) : Calls Tryz.prog 123 #[.int .i64 a] w fun e w' => e = .returned (.int .i64 (invI a)) ∧ Below w.heap.size w w' :=
  (implInverse_id a w).mono fun _ _ h => below_same h
end Go.Proofs.YtgpjklnlchbbbaaGreatDoor
namespace Go.Proofs.YtgpjklnlchbbbaaGreatDoor
open Go.RowKit Go.Proofs.YtgpjklnlchbbbaaGreatDoor.Fld Go.Proofs.YtgpjklnlchbbbaaGreatDoor.BitsM

/-- A byte turned by k bits. -/
def rot (b k : Nat) : Nat := ((b * 2 ^ k) ||| (b / 2 ^ (8 - k))) &&& 255
theorem rot_lt (b k : Nat) : rot b k < 256 := Nat.lt_of_le_of_lt Nat.and_le_right (by omega)
theorem rot_zero (b : Nat) (h : b < 256) : rot b 0 = b := by
  have := all256 (p := fun b => rot b 0 == b) (by decide +kernel) b h
  simpa using this
theorem turn_next (b k : Nat) : turnF b (k + 1) = turnF b k ^^^ rot b k := rfl
theorem rot_or (b k : Nat) (hb : b < 256) : (b * 2 ^ k % 256) ||| (b / 2 ^ (8 - k)) = rot b k := by
  have h1 : b / 2 ^ (8 - k) < 256 := Nat.lt_of_le_of_lt (Nat.div_le_self _ _) hb
  have e (x : Nat) : x &&& 255 = x % 256 := Nat.and_two_pow_sub_one_eq_mod x 8
  unfold rot
  rw [Nat.and_or_distrib_right, e, e, Nat.mod_eq_of_lt h1]

theorem u8n (a : Nat) (h : a < 256) : ((UInt8.ofNat a).toNat : Int) = (a : Int) := by
  rw [UInt8.toNat_ofNat', Nat.mod_eq_of_lt h]
theorem xor8n (a b : Nat) (ha : a < 256) (hb : b < 256) : bits .xor .u8 (a : Int) (b : Int) = ((a ^^^ b : Nat) : Int) := by
  rw [← u8n a ha, ← u8n b hb, xor8, UInt8.toNat_xor, UInt8.toNat_ofNat', UInt8.toNat_ofNat', Nat.mod_eq_of_lt ha, Nat.mod_eq_of_lt hb]
theorem or8n (a b : Nat) (ha : a < 256) (hb : b < 256) : bits .or .u8 (a : Int) (b : Int) = ((a ||| b : Nat) : Int) := by
  rw [← u8n a ha, ← u8n b hb, or8, UInt8.toNat_or, UInt8.toNat_ofNat', UInt8.toNat_ofNat', Nat.mod_eq_of_lt ha, Nat.mod_eq_of_lt hb]
theorem rot_bits (b k c d : Nat) (hb : b < 256) (hc : 2 ^ k = c) (hd : 2 ^ (8 - k) = d) : bits .or .u8 ((b : Int) * (c : Nat) % 256) ((b : Int) / (d : Nat)) = (rot b k : Int) := by
  have e1 : (b : Int) * (c : Nat) % 256 = ((b * 2 ^ k % 256 : Nat) : Int) := by rw [hc]; simp
  have e2 : (b : Int) / (d : Nat) = ((b / 2 ^ (8 - k) : Nat) : Int) := by rw [hd]; simp
  rw [e1, e2, or8n _ _ (by omega) (Nat.lt_of_le_of_lt (Nat.div_le_self _ _) hb), rot_or b k hb]
theorem ret_u8 {a b : Int} (h : a = b) : Ending.returned (.int .u8 a) = .returned (.int .u8 b) := by rw [h]

set_option maxRecDepth 100000 in
set_option maxHeartbeats 1000000 in
theorem rotl_any (b k : Nat) (w : World) (hb : b < 256) (h1 : k < 4) : Calls Tryz.prog 124 #[.int .u8 b, .int .i64 ((k : Int) + 1)] w fun e w' => e = .returned (.int .u8 (rot b (k + 1))) ∧ w' = w := by
  have hk : k = 0 ∨ k = 1 ∨ k = 2 ∨ k = 3 := by omega
  have y1 : bits .and .u64 1 7 = 1 := by decide
  have y2 : bits .and .u64 2 7 = 2 := by decide
  have y3 : bits .and .u64 3 7 = 3 := by decide
  have y4 : bits .and .u64 4 7 = 4 := by decide
  rcases hk with rfl | rfl | rfl | rfl
  all_goals
    go_enter Tryz.func124, Tryz.ntmps124
    go_wp2
    go_ret
  · exact ⟨ret_u8 (rot_bits b 1 2 128 hb rfl rfl), rfl⟩
  · exact ⟨ret_u8 (rot_bits b 2 4 64 hb rfl rfl), rfl⟩
  · exact ⟨ret_u8 (rot_bits b 3 8 32 hb rfl rfl), rfl⟩
  · exact ⟨ret_u8 (rot_bits b 4 16 16 hb rfl rfl), rfl⟩

set_option maxRecDepth 100000 in
set_option maxHeartbeats 1000000 in
theorem implBox_id (a : Int) (w : World) : Calls Tryz.prog 119 #[.int .i64 a] w fun e w' => e = .returned (.int .i64 (boxI a)) ∧ w' = w := by
  by_cases h : 0 ≤ a ∧ a ≤ 255
  · have hl := invI_lt a
    have hE : boxI a = (turnF (invI a).toNat 5 : Int) := if_pos h
    have hi := implInverse_id a
    obtain ⟨b, hb⟩ : ∃ b : Nat, invI a = b := ⟨(invI a).toNat, by omega⟩
    rw [hb] at hi hl hE
    rw [Int.toNat_natCast] at hE
    have hb2 : b < 256 := by omega
    have HE := Lib.hid hE
    have HI := Lib.hid hi
    have HB : Hid (IsByte a) := Lib.hid h
    have hx := xor8n b 99 hb2 (by decide)
    rw [show ((99 : Nat) : Int) = 99 from rfl] at hx
    have H0 : Hid (b ^^^ 99 = turnF b 1) := Lib.hid (by rw [turn_next, rot_zero b hb2]; exact Nat.xor_comm b 99)
    have hx0 : b ^^^ 99 < 256 := xor_lt hb2 (by decide)
    clear h hi hl hE hb
    go_enter Tryz.func119, Tryz.ntmps119
    go_wp2_with fail
    refine (isElem_yes _ HB.out).mono ?_
    rintro e w1 ⟨rfl, rfl⟩
    go_wp2_with fail
    refine (HI.out _).mono ?_
    rintro e w2 ⟨rfl, rfl⟩
    go_wp2
    go_loopw [4, 14] (fun ov kv wr => ∃ k out : Nat, k ≤ 4 ∧ out < 256 ∧ kv = .int .i64 k ∧ ov = .int .u8 out ∧ Hid (out = turnF b (k + 1)) ∧ wr = w2)
      (fun _ kv _ => 4 - (intOf kv).toNat)
    case atStart => exact ⟨0, b ^^^ 99, by omega, hx0, rfl, by go_num, H0, rfl⟩
    case round =>
      obtain ⟨k, out, hk, ho, rfl, rfl, HR, rfl⟩ := hrel
      clear hx H0 hx0
      by_cases hlt : k < 4
      · have hr := rot_lt b (k + 1)
        have HN : Hid (out ^^^ rot b (k + 1) = turnF b (k + 1 + 1)) := Lib.hid (by rw [turn_next, ← HR.out])
        have hx := xor8n out (rot b (k + 1)) ho hr
        have hl := xor_lt ho hr
        have HC := Lib.hid (fun w => rotl_any b k w hb2 hlt)
        generalize rot b (k + 1) = r at hr HN hx hl HC
        go_wp2_with fail
        refine (HC.out _).mono ?_
        rintro e w3 ⟨rfl, rfl⟩
        go_wp2
        go_roundw
        case rel => exact ⟨k + 1, out ^^^ r, by omega, hl, by go_num, by go_num, HN, by first | rfl | trivial⟩
        case measure => simp [intOf]; omega
      · obtain rfl : k = 4 := by omega
        go_wp2
        go_ret
        exact ⟨ret_int (by rw [HE.out, ← HR.out]), rfl⟩
  · have HE : Hid (boxI a = 0) := Lib.hid (if_neg h)
    have HB : Hid (¬ IsByte a) := Lib.hid h
    clear h
    go_enter Tryz.func119, Tryz.ntmps119
    go_wp2_with fail
    refine (isElem_no _ HB.out).mono ?_
    rintro e w1 ⟨rfl, rfl⟩
    go_wp2
    go_ret
    exact ⟨ret_int (by rw [HE.out]), rfl⟩
theorem implBox_any (a : Int) (w : World) : Calls Tryz.prog 119 #[.int .i64 a] w fun e w' => e = .returned (.int .i64 (boxI a)) ∧ Below w.heap.size w w' :=
  (implBox_id a w).mono fun _ _ h => below_same h
end Go.Proofs.YtgpjklnlchbbbaaGreatDoor
namespace Go.Proofs.YtgpjklnlchbbbaaGreatDoor
open Go.RowKit Go.Proofs.YtgpjklnlchbbbaaGreatDoor.Hexa Go.Proofs.YtgpjklnlchbbbaaGreatDoor.Byt Go.Proofs.YtgpjklnlchbbbaaGreatDoor.Aes Go.Proofs.YtgpjklnlchbbbaaGreatDoor.Fld

theorem boxI_byte (x : UInt8) : boxI (x.toNat : Int) = ((boxU x).toNat : Int) := by
  have h := x.toNat_lt
  have hz : inv 0 = 0 := by decide
  have hl := turnF_lt (inv x.toNat) 5
  have hi : (invI (x.toNat : Int)).toNat = inv x.toNat := by
    unfold invI
    split
    · simp
    · rw [show x.toNat = 0 by omega, hz]; rfl
  unfold boxI boxU box
  rw [if_pos (by omega), hi, UInt8.toNat_ofNat', Nat.mod_eq_of_lt hl]
theorem mapTo_all (f : UInt8 → UInt8) (l : List UInt8) : mapTo (fun p => f (l.getD p 0)) l.length = l.map f := by
  refine List.ext_getElem (by simp [mapTo]) fun i h1 h2 => ?_
  have : i < l.length := by simpa [mapTo] using h1
  simp [mapTo, List.getD, this]
theorem implBox_byte (x : UInt8) (w : World) : Calls Tryz.prog 119 #[.int .i64 (x.toNat : Int)] w fun e w' => e = .returned (.int .i64 ((boxU x).toNat : Int)) ∧ w' = w := by
  rw [← boxI_byte]
  exact implBox_id _ w

set_option maxRecDepth 100000 in
set_option maxHeartbeats 1000000 in
theorem implBoxText_any (s : ByteArray) (w : World) (hs : s.size ≤ 8000000) :
    Calls Tryz.prog 115 #[.string s] w fun e w' => e = .returned (.string ⟨(boxL s.data.toList).toArray⟩) ∧ Below w.heap.size w w' := by
  obtain ⟨i0, hi, hz0, hz1, hz2⟩ := info_parts infoByte
  have hsl : s.data.toList.length = s.size := by simp
  obtain ⟨n, hn⟩ : ∃ n, s.size = n := ⟨_, rfl⟩
  have HN := Lib.hid hn
  have HL := Lib.hid (hsl.trans hn)
  rw [hn] at hs
  clear hsl
  go_enter Tryz.func115, Tryz.ntmps115
  go_wp2_with (at_make; refine wpList_make_full _ rfl _ _ 22 rfl w.heap.size 5 i0 (.int .u8 0) 1 Tryz.underlying22 hi hz0 hz1 .i64 .i64 _ _ n rfl rfl rfl rfl (by rw [hz2]; omega) (by unfold maxLen; omega) (Nat.le_refl _) ?_; intro w0 hown0 hgrow0)
  have hg0 : Below w.heap.size w w0 := (Below.refl _ _).grown hgrow0 (Nat.le_refl _) (fun k h => by cases h)
  have HO0 := Lib.hid (part_start hown0)
  clear hown0 hgrow0
  go_loopw [4, 10] (fun jv iv wr => ∃ k : Nat, k ≤ n ∧ iv = .int .i64 k ∧ Hid (Bytes wr w.heap.size 5 (.slice (some ⟨w.heap.size, 0, none⟩) n n) (partB (mapTo (fun p => boxU (s.data.toList.getD p 0)) k) n)) ∧ Below w.heap.size w wr)
    (fun _ iv _ => n - (intOf iv).toNat)
  case atStart => exact ⟨0, Nat.zero_le _, rfl, HO0, hg0⟩
  case round =>
    clear HO0 hg0
    obtain ⟨k, hk, rfl, HW, hbel⟩ := hrel
    by_cases hlt : k < n
    · have hlt1 : k < s.size := by have := HN.out; omega
      have hl := mapTo_length (fun p => boxU (s.data.toList.getD p 0)) k
      have hta := text_at s k hlt1
      obtain ⟨⟨v, c3⟩, z3, hB⟩ := part_at HW.out (by omega)
      have N3 := part_next HW.out (boxU (s.data.toList.getD k 0)) (by omega)
      rw [hl] at c3 z3 N3
      rw [mapTo_next (fun p => boxU (s.data.toList.getD p 0))] at N3
      rw [← hta] at N3
      have HN3 := Lib.hid N3
      clear N3 hta
      have hv : ∀ x : UInt8, RowKit.wrap64 (x.toNat : Int) = (x.toNat : Int) := fun x => by have := x.toNat_lt; unfold RowKit.wrap64; omega
      go_wp2_with fail
      generalize s[k]'hlt1 = x at HN3 ⊢
      have hx := x.toNat_lt
      rw [hv x]
      go_wp2_with (go_at_call 119; refine (implBox_byte x _).mono ?_; rintro e w3 ⟨rfl, rfl⟩)
      generalize boxU x = z at HN3 ⊢
      have hz := z.toNat_lt
      have hz8 : (z.toNat : Int) % 256 = (z.toNat : Int) := by omega
      go_wp2
      (try rw [hz8])
      go_roundw
      case rel => exact ⟨k + 1, by omega, by go_num, HN3, hbel.setCell (Nat.le_refl _) _⟩
      case measure => (simp [intOf]; try omega)
    · obtain rfl : k = n := by omega
      have hl := mapTo_length (fun p => boxU (s.data.toList.getD p 0)) k
      have h9 := HW.out
      rw [partB_full _ _ hl] at h9
      have hconv := bytes_string (P := Tryz.prog) 22 9 Tryz.underlying22 Tryz.underlying5 Tryz.underlying9 h9
      rw [show mapTo (fun p => boxU (s.data.toList.getD p 0)) k = boxL s.data.toList by rw [← HL.out]; exact mapTo_all boxU _] at hconv
      clear h9
      go_wp2
      go_ret
      exact ⟨rfl, hbel⟩
end Go.Proofs.YtgpjklnlchbbbaaGreatDoor
namespace Go.Proofs.YtgpjklnlchbbbaaGreatDoor
open Go.RowKit Go.Lib Go.Proofs.YtgpjklnlchbbbaaGreatDoor.Hexa Go.Proofs.YtgpjklnlchbbbaaGreatDoor.Byt Go.Proofs.YtgpjklnlchbbbaaGreatDoor.BitsM

theorem xorL_snoc (a b : ByteArray) (k : Nat) (ha : k < a.size) (hb : k < b.size) : xorL a b k ++ [(a[k]'ha) ^^^ (b[k]'hb)] = xorL a b (k + 1) := by
  have h1 : k < a.data.toList.length := by simpa using ha
  have h2 : k < b.data.toList.length := by simpa using hb
  have e : (List.zipWith (· ^^^ ·) a.data.toList b.data.toList)[k]'(by rw [List.length_zipWith]; omega) = (a[k]'ha) ^^^ (b[k]'hb) := by rw [List.getElem_zipWith]; rfl
  unfold xorL
  rw [List.take_succ_eq_append_getElem (by rw [List.length_zipWith]; omega), e]

set_option maxRecDepth 100000 in
set_option maxHeartbeats 1000000 in
theorem implXor_any (a b : ByteArray) (w : World) (ha : a.size ≤ 8000000) :
    Calls Tryz.prog 105 #[.string a, .string b] w fun e w' => e = .returned (.string (xorT a b)) ∧ Below w.heap.size w w' := by
  by_cases hl : a.size = b.size
  · obtain ⟨i0, hi, hz0, hz1, hz2⟩ := info_parts infoByte
    have HE : Hid (xorT a b = ⟨(xorL a b a.size).toArray⟩) := Lib.hid (if_pos hl)
    have HL := Lib.hid hl
    obtain ⟨n, hn⟩ : ∃ n, a.size = n := ⟨_, rfl⟩
    have hm : b.size = n := by omega
    rw [hn] at HE
    clear hl
    go_enter Tryz.func105, Tryz.ntmps105
    go_wp2_with (at_make; refine wpList_make_full _ rfl _ _ 22 rfl w.heap.size 5 i0 (.int .u8 0) 1 Tryz.underlying22 hi hz0 hz1 .i64 .i64 _ _ n rfl rfl rfl rfl (by rw [hz2]; omega) (by unfold maxLen; omega) (Nat.le_refl _) ?_; intro w0 hown0 hgrow0)
    have hg0 : Below w.heap.size w w0 := (Below.refl _ _).grown hgrow0 (Nat.le_refl _) (fun k h => by cases h)
    have HO0 := Lib.hid (part_start hown0)
    clear hown0 hgrow0
    go_loopw [6, 17] (fun jv iv wr => ∃ k : Nat, k ≤ n ∧ iv = .int .i64 k ∧ Hid (Bytes wr w.heap.size 5 (.slice (some ⟨w.heap.size, 0, none⟩) n n) (partB (xorL a b k) n)) ∧ Below w.heap.size w wr)
      (fun _ iv _ => n - (RowKit.intOf iv).toNat)
    case atStart => exact ⟨0, Nat.zero_le _, rfl, HO0, hg0⟩
    case round =>
      clear HO0 hg0
      obtain ⟨k, hk, rfl, HW, hbel⟩ := hrel
      have hxl := xorL_length a b HL.out k (by omega)
      by_cases hlt : k < n
      · have hlt1 : k < a.size := by omega
        have hlt' : k < b.size := by omega
        have e1 := xor8 (a[k]'hlt1) (b[k]'hlt')
        have HNX := Lib.hid (xorL_snoc a b k hlt1 hlt')
        obtain ⟨⟨v, c3⟩, z3, hB⟩ := part_at HW.out (by omega)
        have N3 := Lib.hid (part_next HW.out ((a[k]'hlt1) ^^^ (b[k]'hlt')) (by omega))
        rw [hxl] at c3 z3 N3
        rw [HNX.out] at N3
        generalize ((a[k]'hlt1) ^^^ (b[k]'hlt')) = z at e1 N3
        have hb1 : Below w.heap.size w (wr.setCell ⟨w.heap.size, k, none⟩ (.int .u8 (z.toNat : Int))) := hbel.setCell (Nat.le_refl _) _
        clear HNX
        go_wp2
        go_region
        go_wp2
        go_roundw
        case rel => exact ⟨k + 1, by omega, by go_num, N3, hb1.drew⟩
        case measure => (simp [RowKit.intOf]; try omega)
      · obtain rfl : k = n := by omega
        have h9 := HW.out
        rw [partB_full _ _ hxl] at h9
        have hconv := bytes_string (P := Tryz.prog) 22 9 Tryz.underlying22 Tryz.underlying5 Tryz.underlying9 h9
        clear h9
        go_wp2
        go_ret
        exact ⟨by rw [HE.out]; rfl, hbel⟩
  · have HE : Hid (xorT a b = ⟨#[]⟩) := Lib.hid (if_neg hl)
    go_enter Tryz.func105, Tryz.ntmps105
    go_wp2
    go_ret
    exact ⟨by rw [HE.out]; rfl, Below.refl _ _⟩
end Go.Proofs.YtgpjklnlchbbbaaGreatDoor
