/- The program's XorText. -/
import Derived.Test.YtepnnmckbcomjaaDoorMade
import Derived.WalkKit
import Derived.WalkSpells
import Derived.WalkLawsBesides
import Derived.Deep.RegionLaw
import Derived.Lib.Hide
namespace Go.Proofs.YtepnnmckbcomjaaDoor
open Go.RowKit Go.Lib Go.Proofs.YtepnnmckbcomjaaDoor.Hexa Go.Proofs.YtepnnmckbcomjaaDoor.Byt Go.Proofs.YtepnnmckbcomjaaDoor.BitsM

theorem xorL_snoc (a b : ByteArray) (k : Nat) (ha : k < a.size) (hb : k < b.size) : xorL a b k ++ [(a[k]'ha) ^^^ (b[k]'hb)] = xorL a b (k + 1) := by
  have h1 : k < a.data.toList.length := by simpa using ha
  have h2 : k < b.data.toList.length := by simpa using hb
  have e : (List.zipWith (· ^^^ ·) a.data.toList b.data.toList)[k]'(by rw [List.length_zipWith]; omega) = (a[k]'ha) ^^^ (b[k]'hb) := by rw [List.getElem_zipWith]; rfl
  unfold xorL
  rw [List.take_succ_eq_append_getElem (by rw [List.length_zipWith]; omega), e]

set_option maxHeartbeats 1000000 in
theorem implXor_any (a b : ByteArray) (w : World) (ha : a.size ≤ 8000000) :
    Calls Tryd.prog 22 #[.string a, .string b] w fun e w' => e = .returned (.string (xorT a b)) ∧ Below w.heap.size w w' := by
  by_cases hl : a.size = b.size
  · obtain ⟨i0, hi, hz0, hz1, hz2⟩ := info_parts infoByte
    have HE : Hid (xorT a b = ⟨(xorL a b a.size).toArray⟩) := Lib.hid (if_pos hl)
    have HL := Lib.hid hl
    obtain ⟨n, hn⟩ : ∃ n, a.size = n := ⟨_, rfl⟩
    have hm : b.size = n := by omega
    rw [hn] at HE
    clear hl
    go_enter Tryd.func22, Tryd.ntmps22
    go_wp2_with (at_make; refine wpList_make_full _ rfl _ _ 22 rfl w.heap.size 5 i0 (.int .u8 0) 1 Tryd.underlying22 hi hz0 hz1 .i64 .i64 _ _ n rfl rfl rfl rfl (by rw [hz2]; omega) (by unfold maxLen; omega) (Nat.le_refl _) ?_; intro w0 hown0 hgrow0)
    have hg0 : Below w.heap.size w w0 := (Below.refl _ _).grown hgrow0 (Nat.le_refl _) (fun k h => by cases h)
    have HO0 := Lib.hid (part_start hown0)
    clear hown0 hgrow0
    go_loopw [6, 17] (fun jv iv wr => ∃ k : Nat, k ≤ n ∧ iv = .int .i64 k ∧ Hid (Bytes wr w.heap.size 5 (.slice (some ⟨w.heap.size, 0, none⟩) n n) (partB (xorL a b k) n)) ∧ Below w.heap.size w wr)
      (fun _ iv _ => n - (intOf iv).toNat)
    case atStart => exact ⟨0, Nat.zero_le _, rfl, HO0, hg0⟩
    case round =>
      clear HO0 hg0
      obtain ⟨k, hk, rfl, HW, hbel⟩ := hrel
      have hxl := xorL_length a b HL.out k (by omega)
      by_cases hlt : k < n
      · have hlt1 : k < a.size := by omega
        have hlt' : k < b.size := by omega
        have e1 := xor8 (a[k]'hlt1) (b[k]'hlt')
        have HNX := Lib.hid (xorL_snoc a b k hlt1 hlt')
        obtain ⟨⟨v, c3⟩, z3, hB⟩ := part_at HW.out (by omega)
        have N3 := Lib.hid (part_next HW.out ((a[k]'hlt1) ^^^ (b[k]'hlt')) (by omega))
        rw [hxl] at c3 z3 N3
        rw [HNX.out] at N3
        generalize ((a[k]'hlt1) ^^^ (b[k]'hlt')) = z at e1 N3
        have hb1 : Below w.heap.size w (wr.setCell ⟨w.heap.size, k, none⟩ (.int .u8 (z.toNat : Int))) := hbel.setCell (Nat.le_refl _) _
        clear HNX
        go_wp2
        go_region
        go_wp2
        go_roundw
        case rel => exact ⟨k + 1, by omega, by go_num, N3, hb1.drew⟩
        case measure => (simp [intOf]; try omega)
      · obtain rfl : k = n := by omega
        have h9 := HW.out
        rw [partB_full _ _ hxl] at h9
        have hconv := bytes_string (P := Tryd.prog) 22 9 Tryd.underlying22 Tryd.underlying5 Tryd.underlying9 h9
        clear h9
        go_wp2
        go_ret
        exact ⟨by rw [HE.out]; rfl, hbel⟩
  · have HE : Hid (xorT a b = ⟨#[]⟩) := Lib.hid (if_neg hl)
    go_enter Tryd.func22, Tryd.ntmps22
    go_wp2
    go_ret
    exact ⟨by rw [HE.out]; rfl, Below.refl _ _⟩
end Go.Proofs.YtepnnmckbcomjaaDoor
