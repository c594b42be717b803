/- The program's turned word. -/
import Derived.Test.YtepnnmckbcomjaaDoorBoxTextImpl
import Derived.Test.YtepnnmckbcomjaaDoorXorImpl
import Derived.Test.YtepnnmckbcomjaaDoorKeyMath
import Derived.StillTailTactics
namespace Go.Proofs.YtepnnmckbcomjaaDoor
open Go.RowKit Go.Proofs.YtepnnmckbcomjaaDoor.Hexa Go.Proofs.YtepnnmckbcomjaaDoor.Byt Go.Proofs.YtepnnmckbcomjaaDoor.Aes Go.Proofs.YtepnnmckbcomjaaDoor.Fld Go.Proofs.YtepnnmckbcomjaaDoor.BitsM

theorem turn_list (t : ByteArray) (ht : t.size = 4) : ∃ a b c d, t.data.toList = [a, b, c, d] ∧ (t.extract 1 4 ++ t.extract 0 1).data.toList = [b, c, d, a] := by
  have hl : t.data.toList.length = 4 := by simpa using ht
  match h : t.data.toList, hl with
  | [a, b, c, d], _ =>
    refine ⟨a, b, c, d, rfl, ?_⟩
    rw [ByteArray.data_append, Array.toList_append, ByteArray.data_extract, ByteArray.data_extract, Array.toList_extract, Array.toList_extract, h]
    rfl

theorem two_pow (m : Nat) (hm : m ≤ 1000) (w : World) : Calls Tryd.prog 45 #[.int .i64 2, .int .i64 (m : Int)] w fun e w' => e = .returned (.int .i64 (pow 2 m : Nat)) ∧ w' = w :=
  implPow_yes 2 m w (by omega) hm
theorem xor_ofNat (x : UInt8) (r : Nat) (hr : r < 256) : bits .xor .u8 (x.toNat : Int) (r : Int) = ((x ^^^ UInt8.ofNat r).toNat : Int) := by
  rw [← xor8, UInt8.toNat_ofNat', Nat.mod_eq_of_lt hr]

set_option maxHeartbeats 1000000 in
theorem implTurned_any (t : ByteArray) (k : Nat) (w : World) (ht : t.size = 4) (hk1 : 1 ≤ k) (hk : k ≤ 10) :
    Calls Tryd.prog 33 #[.string t, .int .i64 k] w fun e w' => e = .returned (.string ⟨(turnedL t.data.toList k).toArray⟩) ∧ Below w.heap.size w w' := by
  obtain ⟨m, rfl⟩ : ∃ m, k = m + 1 := ⟨k - 1, by omega⟩
  obtain ⟨xa, xb, xc, xd, hT, hT2⟩ := turn_list t ht
  have HT := Lib.hid hT
  have HT2 := Lib.hid hT2
  have hz : (t.extract 1 4 ++ t.extract 0 1).size ≤ 8000000 := by rw [ByteArray.size_append, ByteArray.size_extract, ByteArray.size_extract]; omega
  have k1 := Lib.hid fun w => implBoxText_any (t.extract 1 4 ++ t.extract 0 1) w hz
  clear hT hT2 hz
  go_enter Tryd.func33, Tryd.ntmps33
  go_wp2_with fail
  refine wp_region_still_tail 5 (by kernel_rfl) (by kernel_rfl) ?_
  simp only [List.take_succ_cons, List.take_zero, List.drop_succ_cons, List.drop_zero]
  still_step
  still_step
  still_step
  still_step
  still_step
  refine wpStill_nil ?_
  change wpList _ _ _ _ _ w.drew
  go_wp2_with fail
  refine (k1.out _).mono ?_
  rintro e w1 ⟨rfl, hb1⟩
  have hb1 : Below w.heap.size w w1 := ((Below.refl _ _).drew).trans hb1
  obtain ⟨s1, hs1⟩ : ∃ s1 : ByteArray, s1 = ⟨(boxL (t.extract 1 4 ++ t.extract 0 1).data.toList).toArray⟩ := ⟨_, rfl⟩
  have hs2 : s1.data.toList = [boxU xb, boxU xc, boxU xd, boxU xa] := by rw [hs1, HT2.out]; rfl
  have hs3 : s1.size = 4 := by have : s1.data.toList.length = s1.size := by simp
                               rw [hs2] at this; exact this.symm
  rw [← hs1]
  clear hs1 k1
  have kc0 := run_bytes_of_string (P := Tryd.prog) w1 9 22 5 s1 Tryd.underlying9 Tryd.underlying22 Tryd.underlying5
  have b0 := bytes_conv w1 5 s1 w1.heap.size (by simp) (by omega)
  have g0 : Below w1.heap.size w1 (w1.drew.alloc (.cells (bytesRow s1 (grownCap w1 s1.size 0 5)) 5 ((bytesRow s1 (grownCap w1 s1.size 0 5)).size, (bytesRow s1 (grownCap w1 s1.size 0 5)).size + 1))) := below_grown _ (by simp) _
  generalize w1.drew.alloc (.cells (bytesRow s1 (grownCap w1 s1.size 0 5)) 5 ((bytesRow s1 (grownCap w1 s1.size 0 5)).size, (bytesRow s1 (grownCap w1 s1.size 0 5)).size + 1)) = W0 at b0 g0 kc0
  generalize grownCap w1 s1.size 0 5 = c0 at b0 kc0
  rw [hs2, hs3] at b0
  rw [hs3] at kc0
  have hB := bytes_at (l := [boxU xb, boxU xc, boxU xd, boxU xa]) b0 0 (by simp)
  have N1 := Lib.hid (bytes_set (l := [boxU xb, boxU xc, boxU xd, boxU xa]) b0 0 (boxU xb ^^^ UInt8.ofNat (pow 2 m)))
  obtain ⟨cc, cz, _⟩ := hB
  have G0 := Lib.hid (hb1.trans (g0.mono hb1.size))
  clear b0 g0 hs2 hs3
  go_wp2_with fail
  have cc1 : W0.cell? ⟨w1.heap.size, 0, none⟩ = some (.int .u8 ((boxU xb).toNat : Int)) := cc
  clear cc
  have wm : IntKind.i64.wrap (m : Int) = (m : Int) := IntWalk.i64_in _ (by omega)
  have hp := pow_lt 2 m
  have kp := Lib.hid (two_pow m (by omega))
  have hx8 := xor_ofNat (boxU xb) (pow 2 m) hp
  obtain ⟨r, hr⟩ : ∃ r, pow 2 m = r := ⟨_, rfl⟩
  rw [hr] at kp hx8 N1 hp
  have HR : Hid (pow 2 (m + 1 - 1) = r) := Lib.hid hr
  have hr8 : (r : Int) % 256 = (r : Int) := by omega
  refine wp_region_still_tail 9 (by kernel_rfl) (by kernel_rfl) ?_
  simp only [List.take_succ_cons, List.take_zero, List.drop_succ_cons, List.drop_zero]
  still_step
  still_step
  still_step
  still_step
  still_step
  still_call (kp.out _)
  still_step
  still_step
  still_step
  refine wpStill_nil ?_
  change wpList _ _ _ _ _ W0.drew
  have hw8 : IntKind.u8.wrap (r : Int) = (r : Int) := by have := IntKind.wrap_u8 (r : Int); rw [this]; omega
  rw [hw8, hx8]
  have HE : Hid ([boxU xb ^^^ UInt8.ofNat r, boxU xc, boxU xd, boxU xa] = turnedL t.data.toList (m + 1)) := Lib.hid (by rw [HT.out, ← HR.out]; rfl)
  generalize boxU xb ^^^ UInt8.ofNat r = z at N1 HE ⊢
  have hconv := bytes_string (P := Tryd.prog) (w := (W0.setCell ⟨w1.heap.size, 0, none⟩ (.int .u8 (z.toNat : Int))).drew) (B := w1.heap.size) (l := [z, boxU xc, boxU xd, boxU xa]) 22 9 Tryd.underlying22 Tryd.underlying5 Tryd.underlying9 (v := .slice (some ⟨w1.heap.size, 0, none⟩) 4 c0) N1.out
  have hB2 : Below w.heap.size w (W0.setCell ⟨w1.heap.size, 0, none⟩ (.int .u8 (z.toNat : Int))).drew := (G0.out.setCell (by exact hb1.size) _).drew
  rw [HE.out] at hconv
  clear hx8 hw8 hr8 kp kc0
  go_wp2
  go_ret
  exact ⟨rfl, hB2⟩
end Go.Proofs.YtepnnmckbcomjaaDoor
