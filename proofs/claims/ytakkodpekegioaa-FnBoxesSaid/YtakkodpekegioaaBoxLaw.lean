/- FnBoxes: the law's walk, over what the program's BoxOf returns. -/
import Derived.Test.YtakkodpekegioaaBoxSpec
import Derived.Test.YtakkodpekegioaaLongMath
import Derived.Deep.RegionLaw
namespace Go.Proofs.Ytakkodpekegioaa
open Go.RowKit Go.Proofs.Ytakkodpekegioaa.Fld

def boxL : List Nat := [99, 124, 119, 123, 242, 107, 111, 197, 48, 1, 103, 43, 254, 215, 171, 118, 202, 130, 201, 125, 250, 89, 71, 240, 173, 212, 162, 175, 156, 164, 114, 192, 183, 253, 147, 38, 54, 63, 247, 204, 52, 165, 229, 241, 113, 216, 49, 21, 4, 199, 35, 195, 24, 150, 5, 154, 7, 18, 128, 226, 235, 39, 178, 117, 9, 131, 44, 26, 27, 110, 90, 160, 82, 59, 214, 179, 41, 227, 47, 132, 83, 209, 0, 237, 32, 252, 177, 91, 106, 203, 190, 57, 74, 76, 88, 207, 208, 239, 170, 251, 67, 77, 51, 133, 69, 249, 2, 127, 80, 60, 159, 168, 81, 163, 64, 143, 146, 157, 56, 245, 188, 182, 218, 33, 16, 255, 243, 210, 205, 12, 19, 236, 95, 151, 68, 23, 196, 167, 126, 61, 100, 93, 25, 115, 96, 129, 79, 220, 34, 42, 144, 136, 70, 238, 184, 20, 222, 94, 11, 219, 224, 50, 58, 10, 73, 6, 36, 92, 194, 211, 172, 98, 145, 149, 228, 121, 231, 200, 55, 109, 141, 213, 78, 169, 108, 86, 244, 234, 101, 122, 174, 8, 186, 120, 37, 46, 28, 166, 180, 198, 232, 221, 116, 31, 75, 189, 139, 138, 112, 62, 181, 102, 72, 3, 246, 14, 97, 53, 87, 185, 134, 193, 29, 158, 225, 248, 152, 17, 105, 217, 142, 148, 155, 30, 135, 233, 206, 85, 40, 223, 140, 161, 137, 13, 191, 230, 66, 104, 65, 153, 45, 15, 176, 84, 187, 22]
theorem box_all : (List.range 256).map box = boxL := by decide +kernel
def noRep : List Nat → Bool
  | [] => true
  | a :: l => !(l.any (· == a)) && noRep l
theorem noRep_nodup : ∀ l : List Nat, noRep l = true → l.Nodup
  | [], _ => List.nodup_nil
  | a :: l, h => by
    simp only [noRep, Bool.and_eq_true, Bool.not_eq_true', List.any_eq_false, beq_iff_eq] at h
    exact List.nodup_cons.2 ⟨fun hm => h.1 a hm rfl, noRep_nodup l h.2⟩
theorem boxL_noRep : noRep boxL = true := by decide +kernel
theorem boxL_nodup : boxL.Nodup := noRep_nodup _ boxL_noRep
theorem box_at (i : Nat) (h : i < 256) : boxL[i]? = some (box i) := by
  rw [← box_all]; simp [h]
theorem box_lt (i : Nat) : box i < 256 := turnF_lt _ 5
theorem box_inj (i j : Nat) (hi : i < 256) (hj : j < 256) (h : box i = box j) : i = j := by
  have a := box_at i hi
  have b := box_at j hj
  have hl : boxL.length = 256 := by rw [← box_all]; simp
  exact (List.getElem?_inj (by omega) boxL_nodup).1 (by rw [a, b, h])
theorem boxI_box (i : Nat) (h : i < 256) : boxI i = (box i : Int) := by
  unfold boxI box
  rw [if_pos (by omega)]
  have : (invI (i : Int)).toNat = inv i := by
    unfold invI
    split
    · simp
    · rename_i h'
      obtain rfl : i = 0 := by omega
      exact inv_zero.symm
  rw [this]
def metB (k j : Nat) : Bool := (List.range k).any fun i => box i == j
theorem metB_zero (j : Nat) : metB 0 j = false := rfl
theorem metB_self (k : Nat) (h : k < 256) : metB k (box k) = false := by
  unfold metB
  rw [List.any_eq_false]
  intro i hi
  have hik := List.mem_range.1 hi
  simp only [beq_iff_eq]
  intro e
  have := box_inj i k (by omega) h e
  omega
theorem metB_next (k j : Nat) : metB (k + 1) j = (metB k j || (box k == j)) := by
  unfold metB
  rw [List.range_succ, List.any_append]
  simp
theorem Try.infoBool : (Try.prog.info? 4).map (fun i => (i.zero, i.size, i.bytes)) = some (some (.bool false), 1, 1) := by kernel_rfl

theorem own_kept' {w w' : World} {B e : Nat} {v : Value} {n : Nat} {xs : List Value} (h : w.ownsRow B e 1 v n xs) (hb : Below w.heap.size w w') : w'.ownsRow B e 1 v n xs := by
  refine ⟨h.1, h.2.imp id fun ⟨g, cap, cur, hv, hg, hh, r⟩ => ⟨g, cap, cur, hv, hg, ?_, r⟩⟩
  rw [hb.block g (Array.getElem?_eq_some_iff.1 hh).1]; exact hh
theorem own_length' {w : World} {B e : Nat} {v : Value} {n : Nat} {xs : List Value} (h : w.ownsRow B e 1 v n xs) : xs.length = n := by simpa using h.1

set_option maxRecDepth 100000 in
set_option maxHeartbeats 4000000 in
theorem boxes_law_of (ad : Option Addr) (len cap : Nat) (w : World) (hlen : len ≤ 1048576)
    (hb : ∀ (a : Int) (w : World), Calls Try.prog 16 #[.int .i64 a] w fun e w' => e = .returned (.int .i64 (boxI a)) ∧ Below w.heap.size w w') :
    Calls Try.prog 4 #[.slice ad len cap] w fun e w' => e = .returned (.bool true) ∧ Below w.heap.size w w' := by
  obtain ⟨i0, hi, hz0, hz1, hz2⟩ := info_parts Try.infoBool
  have HB := Lib.hid hb
  clear hb
  go_enter Try.func4, Try.ntmps4
  go_wp2_with (first
    | (go_at_call 10; go_in)
    | (at_make; refine wpList_make_full _ rfl _ _ 28 rfl w.heap.size 4 i0 (.bool false) 1 Try.underlying28 hi hz0 hz1 .i64 .i64 _ _ 256 rfl rfl rfl rfl (by rw [hz2]; omega) (by unfold maxLen; omega) (Nat.le_refl _) ?_; intro w0 hown0 hgrow0))
  have hg0 : Below w.heap.size w w0 := (Below.refl _ _).grown hgrow0 (Nat.le_refl _) (fun k h => by cases h)
  have HO0 := Lib.hid hown0
  clear hown0 hgrow0
  go_loopw [4] (fun iv wr => ∃ (k : Nat) (xs : List Value), k ≤ 256 ∧ iv = .int .i64 k ∧ Hid (wr.ownsRow w.heap.size 4 1 (.slice (some ⟨w.heap.size, 0, none⟩) 256 256) 256 xs) ∧ Hid (∀ j, j < 256 → xs[j]? = some (.bool (metB k j))) ∧ Hid (Below w.heap.size w wr))
    (fun iv _ => 256 - (intOf iv).toNat)
  case atStart => exact ⟨0, _, Nat.zero_le _, rfl, HO0, Lib.hid (fun j hj => by rw [metB_zero]; have hcl : (Value.bool false).cells = #[Value.bool false] := rfl; simp [madeCells, hj, hcl, Nat.mod_one]), Lib.hid hg0⟩
  case round =>
    clear HO0 hg0
    obtain ⟨k, xs, hk, rfl, HW, HX, HBel⟩ := hrel
    have hxl : Hid (xs.length = 256) := Lib.hid (own_length' HW.out)
    by_cases hlt : k < 256
    · have hc := HB.out (k : Int) wr
      have hbl := box_lt k
      have HM := Lib.hid (metB_self k hlt)
      have HN := Lib.hid (metB_next k)
      rw [boxI_box k hlt] at hc
      generalize box k = n at hc hbl HM HN
      have HC := Lib.hid hc
      clear hc
      go_wp2_with fail
      refine HC.out.mono ?_
      rintro e w1 ⟨rfl, hb1⟩
      have HW1 := Lib.hid (own_kept' HW.out hb1)
      have hb2 : Hid (Below w.heap.size w w1) := Lib.hid (HBel.out.trans (hb1.mono HBel.out.size))
      clear hb1 HBel
      have c3 : w1.cell? ⟨w.heap.size, n, none⟩ = some (.bool false) := by rw [HW1.out.cellAt n (by omega), HX.out n hbl, HM.out]
      have z3 := HW1.out.frozenAt n
      have O1 := Lib.hid (HW1.out.stored n (.bool true)).1
      have hb3 : Hid (Below w.heap.size w (w1.setCell ⟨w.heap.size, n, none⟩ (.bool true))) := Lib.hid (hb2.out.setCell (Nat.le_refl _) _)
      have X1 : Hid (∀ j, j < 256 → (xs.set n (.bool true))[j]? = some (.bool (metB (k + 1) j))) := Lib.hid (fun j hj => by
        by_cases e : j = n
        · subst e; rw [List.getElem?_set_self (by have := hxl.out; omega), HN.out]; simp
        · rw [List.getElem?_set_ne (by omega), HX.out j hj, HN.out]
          have : (n == j) = false := by simpa using fun h => e h.symm
          rw [this, Bool.or_false])
      go_wp2
      go_roundw
      case rel => exact ⟨k + 1, _, by omega, by go_num, O1, X1, hb3⟩
      case measure => (simp [intOf]; try omega)
    · obtain rfl : k = 256 := by omega
      have HB0 := Lib.hid HBel.out
      clear HBel HW HX hxl
      have e0 : boxI 0 = 99 := by decide +kernel
      have q0 := HB.out 0 wr
      rw [e0] at q0
      have Q0 := Lib.hid q0
      clear q0 e0
      go_wp2_with fail
      refine Q0.out.mono ?_
      rintro e w1 ⟨rfl, hb1⟩
      have HB1 : Hid (Below w.heap.size w w1) := Lib.hid (HB0.out.trans (hb1.mono HB0.out.size))
      clear hb1 HB0
      have e1 : boxI 1 = 124 := by decide +kernel
      have q1 := HB.out 1 w1
      rw [e1] at q1
      have Q1 := Lib.hid q1
      clear q1 e1
      go_wp2_with fail
      refine Q1.out.mono ?_
      rintro e w2 ⟨rfl, hb2⟩
      have HB2 : Hid (Below w.heap.size w w2) := Lib.hid (HB1.out.trans (hb2.mono HB1.out.size))
      clear hb2 HB1
      have e83 : boxI 83 = 237 := by decide +kernel
      have q83 := HB.out 83 w2
      rw [e83] at q83
      have Q83 := Lib.hid q83
      clear q83 e83
      go_wp2_with fail
      refine Q83.out.mono ?_
      rintro e w3 ⟨rfl, hb3⟩
      have HB3 : Hid (Below w.heap.size w w3) := Lib.hid (HB2.out.trans (hb3.mono HB2.out.size))
      clear hb3 HB2
      have e255 : boxI 255 = 22 := by decide +kernel
      have q255 := HB.out 255 w3
      rw [e255] at q255
      have Q255 := Lib.hid q255
      clear q255 e255
      go_wp2_with fail
      refine Q255.out.mono ?_
      rintro e w4 ⟨rfl, hb4⟩
      have HB4 : Hid (Below w.heap.size w w4) := Lib.hid (HB3.out.trans (hb4.mono HB3.out.size))
      clear hb4 HB3
      have e256 : boxI 256 = 0 := by decide +kernel
      have q256 := HB.out 256 w4
      rw [e256] at q256
      have Q256 := Lib.hid q256
      clear q256 e256
      go_wp2_with fail
      refine Q256.out.mono ?_
      rintro e w5 ⟨rfl, hb5⟩
      have HB5 : Hid (Below w.heap.size w w5) := Lib.hid (HB4.out.trans (hb5.mono HB4.out.size))
      clear hb5 HB4
      go_wp2
      go_ret
      exact ⟨rfl, HB5.out⟩

theorem boxes_big (ad : Option Addr) (len cap : Nat) (w : World) (hlen : 1048576 < len) :
    Calls Try.prog 4 #[.slice ad len cap] w fun e w' => e = .returned (.bool true) ∧ Below w.heap.size w w' := by
  go_enter Try.func4, Try.ntmps4
  go_wp2_with (go_at_call 10; go_in)
  go_ret
  exact ⟨rfl, Below.refl _ _⟩
end Go.Proofs.Ytakkodpekegioaa
