/- The program's ZeroText, WordText, XorText and NumText. -/
import Derived.Test.YtenjaedhkleooaaMade
import Derived.WalkKit
import Derived.WalkSpells
import Derived.WalkLawsBesides
import Derived.Deep.RegionLaw
import Derived.Lib.Hide
namespace Go.Proofs.Ytenjaedhkleooaa
open Go.RowKit Go.Proofs.Ytenjaedhkleooaa.Hexa Go.Proofs.Ytenjaedhkleooaa.Byt Go.Proofs.Ytenjaedhkleooaa.BitsM

set_option maxHeartbeats 1000000 in
theorem implZero_any (n : Int) (w : World) :
    Calls Try.prog 13 #[.int .i64 n] w fun e w' => e = .returned (.string (zeroB n)) ∧ Below w.heap.size w w' := by
  by_cases h : 0 ≤ n ∧ n ≤ 20000
  · obtain ⟨i0, hi, hz0, hz1, hz2⟩ := info_parts infoByte
    have HE : Hid (zeroB n = longB n.toNat 0) := Lib.hid (if_pos h)
    obtain ⟨k, rfl⟩ : ∃ k : Nat, n = k := ⟨n.toNat, by omega⟩
    have hk : k ≤ 20000 := by omega
    clear h
    go_enter Try.func13, Try.ntmps13
    go_wp2_with (at_make; refine wpList_make_full _ rfl _ _ 22 rfl w.heap.size 5 i0 (.int .u8 0) 1 Try.underlying22 hi hz0 hz1 .i64 .i64 _ _ k rfl rfl rfl rfl (by rw [hz2]; omega) (by unfold maxLen; omega) (Nat.le_refl _) ?_; intro w0 hown0 hgrow0; rw [made_zero] at hown0; have hconv := own_string (P := Try.prog) 22 9 Try.underlying22 Try.underlying5 Try.underlying9 hown0)
    have hg0 : Below w.heap.size w w0 := (Below.refl _ _).grown hgrow0 (Nat.le_refl _) (fun k h => by cases h)
    go_ret
    exact ⟨by rw [HE.out]; rfl, hg0⟩
  · have HE : Hid (zeroB n = ⟨#[]⟩) := Lib.hid (if_neg h)
    by_cases h0 : n < 0
    · go_enter Try.func13, Try.ntmps13
      go_wp2
      go_ret
      exact ⟨by rw [HE.out]; rfl, Below.refl _ _⟩
    · have h1 : 20000 < n := by omega
      clear h
      go_enter Try.func13, Try.ntmps13
      go_wp2
      go_ret
      exact ⟨by rw [HE.out]; rfl, Below.refl _ _⟩

theorem wordB_list (s : ByteArray) (h : s.size ≤ 8) : (⟨(s.data.toList ++ (partB [] 8).drop s.size).toArray⟩ : ByteArray) = wordB s := by
  have hE : wordB s = s ++ longB (8 - s.size) 0 := if_pos h
  rw [hE, partB_nil, List.drop_replicate]
  apply ByteArray.ext
  apply Array.toList_inj.1
  rw [ByteArray.data_append, Array.toList_append]
  rfl

set_option maxHeartbeats 1000000 in
theorem implWord_any (s : ByteArray) (w : World) :
    Calls Try.prog 19 #[.string s] w fun e w' => e = .returned (.string (wordB s)) ∧ Below w.heap.size w w' := by
  by_cases h : s.size ≤ 8
  · obtain ⟨i0, hi, hz0, hz1, hz2⟩ := info_parts infoByte
    have HE := Lib.hid (wordB_list s h)
    go_enter Try.func19, Try.ntmps19
    go_wp2_with (at_make; refine wpList_make_full _ rfl _ _ 22 rfl w.heap.size 5 i0 (.int .u8 0) 1 Try.underlying22 hi hz0 hz1 .i64 .i64 _ _ 8 rfl rfl rfl rfl (by rw [hz2]; omega) (by unfold maxLen; omega) (Nat.le_refl _) ?_; intro w0 hown0 hgrow0; have hg0 : Below w.heap.size w w0 := (Below.refl _ _).grown hgrow0 (Nat.le_refl _) (fun k h => by cases h); obtain ⟨w1, hrun, hb1, hg1⟩ := bytes_copy (P := Try.prog) (u := 9) (ty := 3) Try.underlying22 hi hz1 (partB_length [] 8 (by decide)) (part_start hown0) s h; have hconv := bytes_string (P := Try.prog) 22 9 Try.underlying22 Try.underlying5 Try.underlying9 hb1; rw [HE.out] at hconv; clear hown0 hgrow0 hb1)
    go_ret
    exact ⟨rfl, hg0.trans hg1⟩
  · have HE : Hid (wordB s = ⟨#[]⟩) := Lib.hid (if_neg h)
    have hlt : 8 < s.size := by omega
    go_enter Try.func19, Try.ntmps19
    go_wp2
    go_ret
    exact ⟨by rw [HE.out]; rfl, Below.refl _ _⟩

theorem xorL_snoc (a b : ByteArray) (k : Nat) (ha : k < a.size) (hb : k < b.size) : xorL a b k ++ [(a[k]'ha) ^^^ (b[k]'hb)] = xorL a b (k + 1) := by
  have h1 : k < a.data.toList.length := by simpa using ha
  have h2 : k < b.data.toList.length := by simpa using hb
  have e : (List.zipWith (· ^^^ ·) a.data.toList b.data.toList)[k]'(by rw [List.length_zipWith]; omega) = (a[k]'ha) ^^^ (b[k]'hb) := by rw [List.getElem_zipWith]; rfl
  unfold xorL
  rw [List.take_succ_eq_append_getElem (by rw [List.length_zipWith]; omega), e]

set_option maxHeartbeats 1000000 in
theorem implXor_any (a b : ByteArray) (w : World) (ha : a.size ≤ 8000000) :
    Calls Try.prog 12 #[.string a, .string b] w fun e w' => e = .returned (.string (xorT a b)) ∧ Below w.heap.size w w' := by
  by_cases hl : a.size = b.size
  · obtain ⟨i0, hi, hz0, hz1, hz2⟩ := info_parts infoByte
    have HE : Hid (xorT a b = ⟨(xorL a b a.size).toArray⟩) := Lib.hid (if_pos hl)
    have HL := Lib.hid hl
    obtain ⟨n, hn⟩ : ∃ n, a.size = n := ⟨_, rfl⟩
    have hm : b.size = n := by omega
    rw [hn] at HE
    clear hl
    go_enter Try.func12, Try.ntmps12
    go_wp2_with (at_make; refine wpList_make_full _ rfl _ _ 22 rfl w.heap.size 5 i0 (.int .u8 0) 1 Try.underlying22 hi hz0 hz1 .i64 .i64 _ _ n rfl rfl rfl rfl (by rw [hz2]; omega) (by unfold maxLen; omega) (Nat.le_refl _) ?_; intro w0 hown0 hgrow0)
    have hg0 : Below w.heap.size w w0 := (Below.refl _ _).grown hgrow0 (Nat.le_refl _) (fun k h => by cases h)
    have HO0 := Lib.hid (part_start hown0)
    clear hown0 hgrow0
    go_loopw [6, 17] (fun jv iv wr => ∃ k : Nat, k ≤ n ∧ iv = .int .i64 k ∧ Hid (Bytes wr w.heap.size 5 (.slice (some ⟨w.heap.size, 0, none⟩) n n) (partB (xorL a b k) n)) ∧ Below w.heap.size w wr)
      (fun _ iv _ => n - (intOf iv).toNat)
    case atStart => exact ⟨0, Nat.zero_le _, rfl, HO0, hg0⟩
    case round =>
      clear HO0 hg0
      obtain ⟨k, hk, rfl, HW, hbel⟩ := hrel
      have hxl := xorL_length a b HL.out k (by omega)
      by_cases hlt : k < n
      · have hlt1 : k < a.size := by omega
        have hlt' : k < b.size := by omega
        have e1 := xor8 (a[k]'hlt1) (b[k]'hlt')
        have HNX := Lib.hid (xorL_snoc a b k hlt1 hlt')
        obtain ⟨⟨v, c3⟩, z3, hB⟩ := part_at HW.out (by omega)
        have N3 := Lib.hid (part_next HW.out ((a[k]'hlt1) ^^^ (b[k]'hlt')) (by omega))
        rw [hxl] at c3 z3 N3
        rw [HNX.out] at N3
        generalize ((a[k]'hlt1) ^^^ (b[k]'hlt')) = z at e1 N3
        have hb1 : Below w.heap.size w (wr.setCell ⟨w.heap.size, k, none⟩ (.int .u8 (z.toNat : Int))) := hbel.setCell (Nat.le_refl _) _
        clear HNX
        go_wp2
        go_region
        go_wp2
        go_roundw
        case rel => exact ⟨k + 1, by omega, by go_num, N3, hb1.drew⟩
        case measure => (simp [intOf]; try omega)
      · obtain rfl : k = n := by omega
        have h9 := HW.out
        rw [partB_full _ _ hxl] at h9
        have hconv := bytes_string (P := Try.prog) 22 9 Try.underlying22 Try.underlying5 Try.underlying9 h9
        clear h9
        go_wp2
        go_ret
        exact ⟨by rw [HE.out]; rfl, hbel⟩
  · have HE : Hid (xorT a b = ⟨#[]⟩) := Lib.hid (if_neg hl)
    go_enter Try.func12, Try.ntmps12
    go_wp2
    go_ret
    exact ⟨by rw [HE.out]; rfl, Below.refl _ _⟩
end Go.Proofs.Ytenjaedhkleooaa
