/- The program's MixColumns. -/
import Derived.Test.YtepnnmckbcomjaaDoorAesMem
import Derived.Test.YtepnnmckbcomjaaDoorMixMath
import Derived.Test.YtepnnmckbcomjaaDoorFieldImpl
import Derived.Laws.Rows
import Derived.StillTailTactics
namespace Go.Proofs.YtepnnmckbcomjaaDoor
open Go.RowKit Go.Proofs.YtepnnmckbcomjaaDoor.Hexa Go.Proofs.YtepnnmckbcomjaaDoor.Byt Go.Proofs.YtepnnmckbcomjaaDoor.Aes Go.Proofs.YtepnnmckbcomjaaDoor.Fld Go.Proofs.YtepnnmckbcomjaaDoor.BitsM

def mixCells : Array Value := #[.int .i64 2, .int .i64 3, .int .i64 1, .int .i64 1]
/-- The table of the factors, in its block. -/
def MixTab (w : World) : Prop := ∃ t fr, w.heap[0]? = some (.cells mixCells t fr)
theorem MixTab.lt {w : World} (h : MixTab w) : 0 < w.heap.size := by
  obtain ⟨t, fr, h⟩ := h
  exact (Array.getElem?_eq_some_iff.1 h).1
theorem MixTab.below {w w' : World} (h : MixTab w) (hb : Below w.heap.size w w') : MixTab w' := by
  have hl := h.lt
  obtain ⟨t, fr, h⟩ := h
  exact ⟨t, fr, by rw [hb.block _ hl]; exact h⟩
theorem mix_index0 (W : World) : (Instr.index 47 (.agg mixCells) (.int .i64 0)).run Tryd.prog W = .ok (.int .i64 2) W := by kernel_rfl
theorem mix_index1 (W : World) : (Instr.index 47 (.agg mixCells) (.int .i64 1)).run Tryd.prog W = .ok (.int .i64 3) W := by kernel_rfl
theorem mix_index2 (W : World) : (Instr.index 47 (.agg mixCells) (.int .i64 2)).run Tryd.prog W = .ok (.int .i64 1) W := by kernel_rfl
theorem mix_index3 (W : World) : (Instr.index 47 (.agg mixCells) (.int .i64 3)).run Tryd.prog W = .ok (.int .i64 1) W := by kernel_rfl
theorem mix_index (W : World) (k : Nat) (hk : k < 4) : (Instr.index 47 (.agg mixCells) (.int .i64 (k : Int))).run Tryd.prog W = .ok (.int .i64 (facN k : Int)) W := by
  match k, hk with
  | 0, _ => exact mix_index0 W
  | 1, _ => exact mix_index1 W
  | 2, _ => exact mix_index2 W
  | 3, _ => exact mix_index3 W
theorem partB_more (A : List UInt8) (n : Nat) (h : A.length < n) : partB A n = partB (A ++ [0]) n := by
  obtain ⟨m, hm⟩ : ∃ m, n - A.length = m + 1 := ⟨n - A.length - 1, by omega⟩
  have h2 : n - (A ++ [0]).length = m := by simp; omega
  unfold partB
  rw [h2, hm, List.replicate_succ, List.append_assoc]
  rfl
theorem partB_turn (A : List UInt8) (n : Nat) (x y : UInt8) (h : A.length < n) : (partB (A ++ [x]) n).set A.length y = partB (A ++ [y]) n := by
  have h2 : (A ++ [x]).length = (A ++ [y]).length := by simp
  unfold partB
  rw [h2, List.set_append_left _ _ (by simp), List.set_append_right _ _ (Nat.le_refl _), Nat.sub_self]
  rfl
/-- The last byte written, turned. -/
theorem part_turn {w : World} {B e g n : Nat} {A : List UInt8} {x : UInt8} (h : Bytes w B e (.slice (some ⟨g, 0, none⟩) n n) (partB (A ++ [x]) n)) (y : UInt8) (hl : A.length < n) :
    w.cell? ⟨g, A.length, none⟩ = some (.int .u8 x.toNat) ∧ w.frozen? ⟨g, A.length, none⟩ = false ∧ B ≤ g ∧ Bytes (w.setCell ⟨g, A.length, none⟩ (.int .u8 y.toNat)) B e (.slice (some ⟨g, 0, none⟩) n n) (partB (A ++ [y]) n) := by
  have hp := partB_length (A ++ [x]) n (by simp; omega)
  have h' : Bytes w B e (.slice (some ⟨g, 0, none⟩) (partB (A ++ [x]) n).length n) (partB (A ++ [x]) n) := by rw [hp]; exact h
  obtain ⟨h1, h2, h3⟩ := bytes_at h' A.length (by omega)
  have hs := bytes_set h' A.length y
  rw [partB_turn A n x y hl, hp] at hs
  refine ⟨?_, h2, h3, hs⟩
  rw [h1]
  have e : (partB (A ++ [x]) n)[A.length]? = some x := by unfold partB; rw [List.append_assoc, List.getElem?_append_right (Nat.le_refl _), Nat.sub_self]; rfl
  rw [List.getElem?_eq_getElem (by omega)] at e
  rw [Option.some.inj e]
theorem ofNat_toNat8 (r : Nat) (h : r < 256) : (UInt8.ofNat r).toNat = r := by rw [UInt8.toNat_ofNat']; exact Nat.mod_eq_of_lt h

set_option maxHeartbeats 2000000 in
theorem implMix_yes (s : ByteArray) (w : World) (hs : s.size = 16) (hT : MixTab w) :
    Calls Tryd.prog 16 #[.string s] w fun e w' => e = .returned (.string ⟨(mixL s.data.toList).toArray⟩) ∧ Below w.heap.size w w' := by
  obtain ⟨i0, hi, hz0, hz1, hz2⟩ := info_parts infoByte
  have HT := Lib.hid hT
  clear hT
  have HS := Lib.hid hs
  go_enter Tryd.func16, Tryd.ntmps16
  go_wp2_with (at_make; refine wpList_make_full _ rfl _ _ 22 rfl w.heap.size 5 i0 (.int .u8 0) 1 Tryd.underlying22 hi hz0 hz1 .i64 .i64 _ _ 16 rfl rfl rfl rfl (by rw [hz2]; omega) (by unfold maxLen; omega) (Nat.le_refl _) ?_; intro w0 hown0 hgrow0)
  have hg0 : Below w.heap.size w w0 := (Below.refl _ _).grown hgrow0 (Nat.le_refl _) (fun k h => by cases h)
  have HO0 := Lib.hid (part_start hown0)
  clear hown0 hgrow0 hs
  go_loopw [4, 5, 6, 7, 8, 16] (fun _ _ _ _ _ iv wr => ∃ i : Nat, i ≤ 16 ∧ iv = .int .i64 i ∧ Hid (Bytes wr w.heap.size 5 (.slice (some ⟨w.heap.size, 0, none⟩) 16 16) (partB (mapTo (mixAt s.data.toList) i) 16)) ∧ Below w.heap.size w wr)
    (fun _ _ _ _ _ iv _ => 16 - (intOf iv).toNat)
  case atStart => exact ⟨0, Nat.zero_le _, rfl, HO0, hg0⟩
  case round =>
    clear HO0 hg0
    obtain ⟨i, hi, rfl, HW, hbel⟩ := hrel
    by_cases hlt : i < 16
    · obtain ⟨c, r, hcr, hc4, hr4⟩ : ∃ c r, i = 4 * c + r ∧ c < 4 ∧ r < 4 := ⟨i / 4, i % 4, by omega, by omega, by omega⟩
      have HCR := Lib.hid hcr
      have e1 : (i : Int) % 4 = (r : Int) := by omega
      have e2 : (i : Int) - (r : Int) = 4 * (c : Int) := by omega
      have e3 : IntKind.i64.wrap (4 * (c : Int)) = 4 * (c : Int) := IntWalk.i64_in _ (by omega)
      have e4 : (4 * (c : Int)).toNat = 4 * c := by omega
      have e5 : (4 * (c : Int) + 4).toNat = 4 * c + 4 := by omega
      have e6 : 4 * (c : Int) + 4 ≤ (s.size : Int) := by have := HS.out; omega
      have hTr := HT.out.below hbel
      obtain ⟨tt, tfr, htab⟩ := hTr
      clear hcr
      go_wp2_with (first
        | (refine wpList_load_row rfl 47 (.global 0) rfl 0 rfl tt mixCells tfr _ htab Tryd.underlying47 rfl (by kernel_rfl) ?_))
      obtain ⟨col, hcol⟩ : ∃ col, s.extract (4 * c) (4 * c + 4) = col := ⟨_, rfl⟩
      have hcz : col.size = 4 := by rw [← hcol, ByteArray.size_extract]; have := HS.out; omega
      have HC : Hid (∀ (j : Nat) (h : j < col.size), col[j]'h = s.data.toList.getD (4 * c + j) 0) := Lib.hid (fun j h => by
        subst hcol
        have hj : 4 * c + j < s.size := by rw [ByteArray.size_extract] at h; omega
        rw [← text_at s _ hj]
        exact ByteArray.getElem_extract h)
      rw [hcol]
      have HZ := Lib.hid hcz
      clear hcol e6 e5 e4 e3 e2 e1 htab
      have hlA := mapTo_length (mixAt s.data.toList) i
      have HW0 : Hid (Bytes wr w.heap.size 5 (.slice (some ⟨w.heap.size, 0, none⟩) 16 16) (partB (mapTo (mixAt s.data.toList) i ++ [mixTo s.data.toList i 0]) 16)) := Lib.hid (by
        have h := HW.out
        rw [partB_more _ _ (by omega)] at h
        exact h)
      have HA := Lib.hid hlA
      clear hlA
      go_loopw [7, 8, 31] (fun _ _ kv wq => ∃ k : Nat, k ≤ 4 ∧ kv = .int .i64 k ∧ Hid (Bytes wq w.heap.size 5 (.slice (some ⟨w.heap.size, 0, none⟩) 16 16) (partB (mapTo (mixAt s.data.toList) i ++ [mixTo s.data.toList i k]) 16)) ∧ Below w.heap.size w wq)
        (fun _ _ kv _ => 4 - (intOf kv).toNat)
      case atStart => exact ⟨0, Nat.zero_le _, rfl, HW0, hbel⟩
      case round =>
        clear HW HW0 hbel
        obtain ⟨k, hk, rfl, HW, hbel⟩ := hrel
        by_cases hkt : k < 4
        · have hix := mix_index wr k hkt
          obtain ⟨q, hq, hq4, hq5⟩ : ∃ q : Nat, ((r : Int) + (k : Int)) % 4 = (q : Int) ∧ q < 4 ∧ 4 * (i / 4) + (i % 4 + k) % 4 = 4 * c + q := ⟨(r + k) % 4, by omega, by omega, by have := HCR.out; omega⟩
          obtain ⟨cc, cz, cB, HN⟩ := part_turn HW.out (mixTo s.data.toList i (k + 1)) (by rw [HA.out]; exact hlt)
          rw [HA.out] at cc cz HN
          have hqz : q < col.size := by omega
          have hval := HC.out q hqz
          have HM : Hid (mixTo s.data.toList i (k + 1) = mixTo s.data.toList i k ^^^ UInt8.ofNat (mul (col[q]'hqz).toNat (facN k))) := Lib.hid (by
            rw [hval, ← hq5]; rfl)
          have HN2 := Lib.hid HN
          clear HN hval
          have hf := facN_lt k
          have g1 : IntKind.i64.wrap ((r : Int) + (k : Int)) = (r : Int) + (k : Int) := IntWalk.i64_in _ (by omega)
          have g5 : ((r : Int) + (k : Int)).tmod 4 = (q : Int) := by rw [Int.tmod_eq_emod_of_nonneg (by omega)]; exact hq
          have g2 : (q : Int) < 4 := by omega
          have g3 : (k : Int) < 4 := by omega
          have g4 : (i : Int) < 16 := by omega
          go_wp2_with fail
          refine wp_region_still_tail 16 (by kernel_rfl) (by kernel_rfl) ?_
          simp only [List.take_succ_cons, List.take_zero, List.drop_succ_cons, List.drop_zero]
          repeat still_step
          generalize (col[q]'hqz) = x at HM ⊢
          have hx := x.toNat_lt
          have hM := mul_lt x.toNat (facN k) hx
          have kp := Lib.hid fun w => implMul_yes x.toNat (facN k) w hx hf
          have hx8 : bits .xor .u8 ((mixTo s.data.toList i k).toNat : Int) ((mul x.toNat (facN k) : Nat) : Int) = ((mixTo s.data.toList i (k + 1)).toNat : Int) := by
            rw [HM.out, ← xor8, ofNat_toNat8 _ hM]
          generalize mul x.toNat (facN k) = M at kp hx8 hM
          rw [show IntKind.i64.wrap (x.toNat : Int) = (x.toNat : Int) from IntWalk.i64_in _ (by omega)]
          still_call (kp.out _)
          repeat still_step
          refine wpStill_nil ?_
          change wpList _ _ _ _ _ wr.drew
          have hw8 : IntKind.u8.wrap (M : Int) = (M : Int) := by have := IntKind.wrap_u8 (M : Int); rw [this]; omega
          rw [hw8, hx8]
          clear hw8 hx8 kp hx hM HM g1 g2 g3 g4 g5 hq hqz
          go_wp2
          go_roundw
          case rel => exact ⟨k + 1, by omega, by go_num, HN2, (hbel.setCell (Nat.le_refl _) _).drew⟩
          case measure => (simp [intOf]; try omega)
        · obtain rfl : k = 4 := by omega
          have h := HW.out
          rw [mixTo_four, mapTo_next] at h
          have HN := Lib.hid h
          clear h
          go_wp2
          go_roundw
          case rel => exact ⟨i + 1, by omega, by go_num, HN, hbel⟩
          case measure => (simp [intOf]; try omega)
    · obtain rfl : i = 16 := by omega
      have hl := mapTo_length (mixAt s.data.toList) 16
      have h9 := HW.out
      rw [partB_full _ _ hl] at h9
      have hconv := bytes_string (P := Tryd.prog) 22 9 Tryd.underlying22 Tryd.underlying5 Tryd.underlying9 h9
      clear h9
      go_wp2
      go_ret
      exact ⟨rfl, hbel⟩

set_option maxHeartbeats 400000 in
theorem implMix_no (s : ByteArray) (w : World) (hs : ¬ s.size = 16) :
    Calls Tryd.prog 16 #[.string s] w fun e w' => e = .returned (.string s) ∧ Below w.heap.size w w' := by
  go_enter Tryd.func16, Tryd.ntmps16
  go_wp2
  go_ret
  exact ⟨rfl, Below.refl _ _⟩
end Go.Proofs.YtepnnmckbcomjaaDoor
