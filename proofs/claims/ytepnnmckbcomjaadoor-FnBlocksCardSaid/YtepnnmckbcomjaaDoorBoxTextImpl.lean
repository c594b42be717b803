/- The program's BoxText. -/
import Derived.Test.YtepnnmckbcomjaaDoorAesMem
import Derived.Test.YtepnnmckbcomjaaDoorBoxImpl
namespace Go.Proofs.YtepnnmckbcomjaaDoor
open Go.RowKit Go.Proofs.YtepnnmckbcomjaaDoor.Hexa Go.Proofs.YtepnnmckbcomjaaDoor.Byt Go.Proofs.YtepnnmckbcomjaaDoor.Aes Go.Proofs.YtepnnmckbcomjaaDoor.Fld

theorem boxI_byte (x : UInt8) : boxI (x.toNat : Int) = ((boxU x).toNat : Int) := by
  have h := x.toNat_lt
  have hz : inv 0 = 0 := by decide
  have hl := turnF_lt (inv x.toNat) 5
  have hi : (invI (x.toNat : Int)).toNat = inv x.toNat := by
    unfold invI
    split
    · simp
    · rw [show x.toNat = 0 by omega, hz]; rfl
  unfold boxI boxU box
  rw [if_pos (by omega), hi, UInt8.toNat_ofNat', Nat.mod_eq_of_lt hl]
theorem mapTo_all (f : UInt8 → UInt8) (l : List UInt8) : mapTo (fun p => f (l.getD p 0)) l.length = l.map f := by
  refine List.ext_getElem (by simp [mapTo]) fun i h1 h2 => ?_
  have : i < l.length := by simpa [mapTo] using h1
  simp [mapTo, List.getD, this]
theorem implBox_byte (x : UInt8) (w : World) : Calls Tryd.prog 29 #[.int .i64 (x.toNat : Int)] w fun e w' => e = .returned (.int .i64 ((boxU x).toNat : Int)) ∧ w' = w := by
  rw [← boxI_byte]
  exact implBox_id _ w

set_option maxHeartbeats 1000000 in
theorem implBoxText_any (s : ByteArray) (w : World) (hs : s.size ≤ 8000000) :
    Calls Tryd.prog 17 #[.string s] w fun e w' => e = .returned (.string ⟨(boxL s.data.toList).toArray⟩) ∧ Below w.heap.size w w' := by
  obtain ⟨i0, hi, hz0, hz1, hz2⟩ := info_parts infoByte
  have hsl : s.data.toList.length = s.size := by simp
  obtain ⟨n, hn⟩ : ∃ n, s.size = n := ⟨_, rfl⟩
  have HN := Lib.hid hn
  have HL := Lib.hid (hsl.trans hn)
  rw [hn] at hs
  clear hsl
  go_enter Tryd.func17, Tryd.ntmps17
  go_wp2_with (at_make; refine wpList_make_full _ rfl _ _ 22 rfl w.heap.size 5 i0 (.int .u8 0) 1 Tryd.underlying22 hi hz0 hz1 .i64 .i64 _ _ n rfl rfl rfl rfl (by rw [hz2]; omega) (by unfold maxLen; omega) (Nat.le_refl _) ?_; intro w0 hown0 hgrow0)
  have hg0 : Below w.heap.size w w0 := (Below.refl _ _).grown hgrow0 (Nat.le_refl _) (fun k h => by cases h)
  have HO0 := Lib.hid (part_start hown0)
  clear hown0 hgrow0
  go_loopw [4, 10] (fun jv iv wr => ∃ k : Nat, k ≤ n ∧ iv = .int .i64 k ∧ Hid (Bytes wr w.heap.size 5 (.slice (some ⟨w.heap.size, 0, none⟩) n n) (partB (mapTo (fun p => boxU (s.data.toList.getD p 0)) k) n)) ∧ Below w.heap.size w wr)
    (fun _ iv _ => n - (intOf iv).toNat)
  case atStart => exact ⟨0, Nat.zero_le _, rfl, HO0, hg0⟩
  case round =>
    clear HO0 hg0
    obtain ⟨k, hk, rfl, HW, hbel⟩ := hrel
    by_cases hlt : k < n
    · have hlt1 : k < s.size := by have := HN.out; omega
      have hl := mapTo_length (fun p => boxU (s.data.toList.getD p 0)) k
      have hta := text_at s k hlt1
      obtain ⟨⟨v, c3⟩, z3, hB⟩ := part_at HW.out (by omega)
      have N3 := part_next HW.out (boxU (s.data.toList.getD k 0)) (by omega)
      rw [hl] at c3 z3 N3
      rw [mapTo_next (fun p => boxU (s.data.toList.getD p 0))] at N3
      rw [← hta] at N3
      have HN3 := Lib.hid N3
      clear N3 hta
      have hv : ∀ x : UInt8, RowKit.wrap64 (x.toNat : Int) = (x.toNat : Int) := fun x => by have := x.toNat_lt; unfold RowKit.wrap64; omega
      go_wp2_with fail
      generalize s[k]'hlt1 = x at HN3 ⊢
      have hx := x.toNat_lt
      rw [hv x]
      go_wp2_with (go_at_call 29; refine (implBox_byte x _).mono ?_; rintro e w3 ⟨rfl, rfl⟩)
      generalize boxU x = z at HN3 ⊢
      have hz := z.toNat_lt
      have hz8 : (z.toNat : Int) % 256 = (z.toNat : Int) := by omega
      go_wp2
      (try rw [hz8])
      go_roundw
      case rel => exact ⟨k + 1, by omega, by go_num, HN3, hbel.setCell (Nat.le_refl _) _⟩
      case measure => (simp [intOf]; try omega)
    · obtain rfl : k = n := by omega
      have hl := mapTo_length (fun p => boxU (s.data.toList.getD p 0)) k
      have h9 := HW.out
      rw [partB_full _ _ hl] at h9
      have hconv := bytes_string (P := Tryd.prog) 22 9 Tryd.underlying22 Tryd.underlying5 Tryd.underlying9 h9
      rw [show mapTo (fun p => boxU (s.data.toList.getD p 0)) k = boxL s.data.toList by rw [← HL.out]; exact mapTo_all boxU _] at hconv
      clear h9
      go_wp2
      go_ret
      exact ⟨rfl, hbel⟩
end Go.Proofs.YtepnnmckbcomjaaDoor
