/- The model's columns mixed. -/
import Derived.Test.YtepnnmckbcomjaaDoorAesMem
import Derived.Test.YtepnnmckbcomjaaDoorFieldSpec
import Derived.BigRegion
import Derived.Deep.QuietTactic
import Derived.BigQuiet
namespace Go.Proofs.YtepnnmckbcomjaaDoor
open Go.RowKit Go.Proofs.YtepnnmckbcomjaaDoor.Hexa Go.Proofs.YtepnnmckbcomjaaDoor.Byt Go.Proofs.YtepnnmckbcomjaaDoor.Aes Go.Proofs.YtepnnmckbcomjaaDoor.Fld Go.Proofs.YtepnnmckbcomjaaDoor.BitsM

theorem mixAt_place (l : List UInt8) (c r : Nat) (hr : r < 4) : mixAt l (4 * c + r) = mixB (l.getD (4 * c + r) 0) (l.getD (4 * c + (r + 1) % 4) 0) (l.getD (4 * c + (r + 2) % 4) 0) (l.getD (4 * c + (r + 3) % 4) 0) := by
  unfold mixAt
  rw [show (4 * c + r) / 4 = c by omega, show (4 * c + r) % 4 = r by omega]

theorem dblU_nat (a : UInt8) : (dblU a).toNat = dbl a.toNat := by
  have := dbl_lt _ a.toNat_lt
  unfold dblU
  rw [UInt8.toNat_ofNat']
  exact Nat.mod_eq_of_lt this
theorem mix_val (a b c d : UInt8) : bits .xor .u8 ((dbl a.toNat ^^^ dbl b.toNat ^^^ b.toNat : Nat) : Int) ((c.toNat ^^^ d.toNat : Nat) : Int) = ((mixB a b c d).toNat : Int) := by
  have e1 : (dblU a ^^^ (dblU b ^^^ b)).toNat = dbl a.toNat ^^^ dbl b.toNat ^^^ b.toNat := by rw [UInt8.toNat_xor, UInt8.toNat_xor, dblU_nat, dblU_nat, Nat.xor_assoc]
  rw [← e1, ← UInt8.toNat_xor, xor8]
  rfl
theorem below_drawn {B : Nat} {a w : World} (h : Below B a w) (n k : Nat) (v : Value) (hB : B ≤ B := Nat.le_refl _) : Below B a ((w.drewN n).setCell ⟨B, k, none⟩ v) :=
  (show Below B a (w.drewN n) from ⟨h.os, h.tape, h.output, h.size, h.block⟩).setCell hB v

set_option maxHeartbeats 1000000 in
theorem specMix_yes (s : ByteArray) (w : World) (hs : s.size = 16) :
    Calls Tryd.prog 19 #[.string s] w fun e w' => e = .returned (.string ⟨(mixL s.data.toList).toArray⟩) ∧ Below w.heap.size w w' := by
  obtain ⟨i0, hi, hz0, hz1, hz2⟩ := info_parts infoByte
  go_enter Tryd.func19, Tryd.ntmps19
  go_wp2_with (at_make; refine wpList_make_full _ rfl _ _ 22 rfl w.heap.size 5 i0 (.int .u8 0) 1 Tryd.underlying22 hi hz0 hz1 .i64 .i64 _ _ 16 rfl rfl rfl rfl (by rw [hz2]; omega) (by unfold maxLen; omega) (Nat.le_refl _) ?_; intro w0 hown0 hgrow0)
  have hg0 : Below w.heap.size w w0 := (Below.refl _ _).grown hgrow0 (Nat.le_refl _) (fun k h => by cases h)
  have HO0 := Lib.hid (part_start hown0)
  clear hown0 hgrow0
  go_loopw [4] (fun cv wr => ∃ c : Nat, c ≤ 4 ∧ cv = .int .i64 c ∧ Hid (Bytes wr w.heap.size 5 (.slice (some ⟨w.heap.size, 0, none⟩) 16 16) (partB (mapTo (mixAt s.data.toList) (4 * c)) 16)) ∧ Below w.heap.size w wr)
    (fun cv _ => 4 - (intOf cv).toNat)
  case atStart => exact ⟨0, Nat.zero_le _, rfl, HO0, hg0⟩
  case round =>
    clear HO0 hg0
    obtain ⟨c, hc, rfl, HW, hbel⟩ := hrel
    by_cases hlt : c < 4
    · have hd : decide ((c : Int) < 4) = true := decide_eq_true (by omega)
      go_wp2
      clear hd
      go_loopw [5] (fun rv wq => ∃ r : Nat, r ≤ 4 ∧ rv = .int .i64 r ∧ Hid (Bytes wq w.heap.size 5 (.slice (some ⟨w.heap.size, 0, none⟩) 16 16) (partB (mapTo (mixAt s.data.toList) (4 * c + r)) 16)) ∧ Below w.heap.size w wq)
        (fun rv _ => 4 - (intOf rv).toNat)
      case atStart => exact ⟨0, Nat.zero_le _, rfl, HW, hbel⟩
      case round =>
        clear HW hbel
        obtain ⟨r, hr, rfl, HW, hbel⟩ := hrel
        by_cases hrt : r < 4
        · have hp : 4 * c + r < 16 := by omega
          have q0 : 4 * c + r < s.size := by omega
          have q1 : 4 * c + (r + 1) % 4 < s.size := by omega
          have q2 : 4 * c + (r + 2) % 4 < s.size := by omega
          have q3 : 4 * c + (r + 3) % 4 < s.size := by omega
          have hl := mapTo_length (mixAt s.data.toList) (4 * c + r)
          have hsa := mixAt_place s.data.toList c r hrt
          obtain ⟨⟨v, c3⟩, z3, hB⟩ := part_at HW.out (by omega)
          have N3 := part_next HW.out (mixAt s.data.toList (4 * c + r)) (by omega)
          rw [hl] at c3 z3
          rw [hl, mapTo_next, hsa, ← text_at s _ q0, ← text_at s _ q1, ← text_at s _ q2, ← text_at s _ q3] at N3
          clear hsa hl
          have HN3 := Lib.hid N3
          clear N3
          have hv : ∀ x : UInt8, RowKit.wrap64 (x.toNat : Int) = (x.toNat : Int) := fun x => by have := x.toNat_lt; unfold RowKit.wrap64; omega
          have hx : ∀ a b : UInt8, bits .xor .u8 (a.toNat : Int) (b.toNat : Int) = ((a ^^^ b).toNat : Int) := xor8
          go_wp2
          have w0 : IntKind.i64.wrap (4 * (c : Int)) = 4 * (c : Int) := IntWalk.i64_in _ (by omega)
          have w2 : IntKind.i64.wrap ((r : Int) + 2) = (r : Int) + 2 := IntWalk.i64_in _ (by omega)
          have w3 : IntKind.i64.wrap ((r : Int) + 3) = (r : Int) + 3 := IntWalk.i64_in _ (by omega)
          have t2 : ((r : Int) + 2).tmod 4 = ((r : Int) + 2) % 4 := Int.tmod_eq_emod_of_nonneg (by omega)
          have t3 : ((r : Int) + 3).tmod 4 = ((r : Int) + 3) % 4 := Int.tmod_eq_emod_of_nonneg (by omega)
          have y2 : IntKind.i64.wrap (4 * (c : Int) + ((r : Int) + 2) % 4) = 4 * (c : Int) + ((r : Int) + 2) % 4 := IntWalk.i64_in _ (by omega)
          have y3 : IntKind.i64.wrap (4 * (c : Int) + ((r : Int) + 3) % 4) = 4 * (c : Int) + ((r : Int) + 3) % 4 := IntWalk.i64_in _ (by omega)
          have z2 : (0 : Int) ≤ 4 * (c : Int) + ((r : Int) + 2) % 4 ∧ 4 * (c : Int) + ((r : Int) + 2) % 4 < 16 := by omega
          have z4 : (0 : Int) ≤ 4 * (c : Int) + ((r : Int) + 3) % 4 ∧ 4 * (c : Int) + ((r : Int) + 3) % 4 < 16 := by omega
          have n2 : (4 * (c : Int) + ((r : Int) + 2) % 4).toNat = 4 * c + (r + 2) % 4 := by omega
          have n3 : (4 * (c : Int) + ((r : Int) + 3) % 4).toNat = 4 * c + (r + 3) % 4 := by omega
          go_quiet (fail)
          generalize s[4 * c + r]'q0 = xa at HN3 ⊢
          generalize s[4 * c + (r + 1) % 4]'q1 = xb at HN3 ⊢
          generalize s[4 * c + (r + 2) % 4]'q2 = xc at HN3 ⊢
          generalize s[4 * c + (r + 3) % 4]'q3 = xd at HN3 ⊢
          clear w0 w2 w3 t2 t3 y2 y3 z2 z4 n2 n3
          have d0 := xa.toNat_lt
          have d1 := xb.toNat_lt
          rw [hv xb]
          go_wp2_with fail
          refine (specDouble_yes xa.toNat _ d0).mono ?_
          rintro e w3 ⟨rfl, rfl⟩
          go_wp2_with fail
          refine (specDouble_yes xb.toNat _ d1).mono ?_
          rintro e w4 ⟨rfl, rfl⟩
          have l0 := dbl_lt _ d0
          have l1 := dbl_lt _ d1
          have x1 := xor64 (dbl xa.toNat) (dbl xb.toNat) (by omega) (by omega)
          have l2 := xor_lt l0 l1
          have x2 := xor64 (dbl xa.toNat ^^^ dbl xb.toNat) xb.toNat (by omega) (by omega)
          have l3 := xor_lt l2 d1
          go_wp2
          rw [mix_val]
          go_roundw
          case rel => exact ⟨r + 1, by omega, by go_num, HN3, below_drawn hbel nq _ _⟩
          case measure => (simp [intOf]; try omega)
        · obtain rfl : r = 4 := by omega
          go_wp2
          go_roundw
          case rel => exact ⟨c + 1, by omega, by go_num, HW, hbel⟩
          case measure => (simp [intOf]; try omega)
    · obtain rfl : c = 4 := by omega
      have hl := mapTo_length (mixAt s.data.toList) 16
      have h9 := HW.out
      rw [partB_full _ _ hl] at h9
      have hconv := bytes_string (P := Tryd.prog) 22 9 Tryd.underlying22 Tryd.underlying5 Tryd.underlying9 h9
      clear h9
      go_wp2
      go_ret
      exact ⟨rfl, hbel⟩

set_option maxHeartbeats 400000 in
theorem specMix_no (s : ByteArray) (w : World) (hs : ¬ s.size = 16) :
    Calls Tryd.prog 19 #[.string s] w fun e w' => e = .returned (.string s) ∧ Below w.heap.size w w' := by
  go_enter Tryd.func19, Tryd.ntmps19
  go_wp2
  go_ret
  exact ⟨rfl, Below.refl _ _⟩
end Go.Proofs.YtepnnmckbcomjaaDoor
