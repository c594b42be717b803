/- The program's Unhex. -/
import Derived.Test.YtlnfbddamlhifaaDoorRows
import Derived.Test.YtlnfbddamlhifaaDoorUnhexMath
import Derived.Test.YtlnfbddamlhifaaDoorShelfX
import Derived.WalkKit
import Derived.WalkSpells
import Derived.WalkLawsBesides
import Derived.Lib.Hide
import Derived.Deep.AppendLies
namespace Go.Proofs.YtlnfbddamlhifaaDoor
open Go.RowKit Go.Proofs.YtlnfbddamlhifaaDoor.Hexa

theorem Tryd.infoU8i : (Tryd.prog.info? 5).map (fun i => (i.zero, i.size, i.bytes)) = some (some (.int .u8 0), 1, 1) := by kernel_rfl

theorem index_digit (c : UInt8) (w : World) :
    Calls Tryd.prog 18 #[.string ⟨#[48, 49, 50, 51, 52, 53, 54, 55, 56, 57, 97, 98, 99, 100, 101, 102]⟩, .int .u8 c.toNat] w fun e w' => e = .returned (.int .i64 (valI c)) ∧ w = w' := by
  refine (Tryd.strings_IndexByte _ _ w).mono fun e w' ⟨he, hw⟩ => ⟨?_, hw.symm⟩
  rw [he]
  have : ((c.toNat : Int).toNat).toUInt8 = c := by simp
  rw [this, ← indexDigit c]

set_option maxHeartbeats 1000000 in
theorem implUnhex_even (s : ByteArray) (w : World) (hs : s.size ≤ 40000) (he : s.size % 2 = 0) :
    Calls Tryd.prog 10 #[.string s] w fun e w' => e = .returned (.tuple #[.string (unhexText s), .bool (unhexOk s)]) ∧ Below w.heap.size w w' := by
  obtain ⟨i0, hi, hz0, hz1, hz2⟩ := info_parts Tryd.infoU8i
  have he' : ((s.size : Int) % 2 != 0) = false := by simp; omega
  go_enter Tryd.func10, Tryd.ntmps10
  go_wp2_with (first
    | (at_make; refine wpList_make_own _ rfl _ _ 22 rfl w.heap.size 5 i0 (.int .u8 0) 1 Tryd.underlying22 hi hz0 hz1 .i64 .i64 _ (s.size / 2) rfl rfl (by omega) (by rw [hz2]; omega) (by unfold maxLen; omega) (Nat.le_refl _) ?_; intro w0 hown0 hgrow0))
  have hbel0 : Below w.heap.size w w0 := (Below.refl _ _).grown hgrow0 (Nat.le_refl _) (fun k h => by cases h)
  have HO0 := Lib.hid hown0
  clear hown0 hgrow0
  go_loopw [4, 5] (fun v i wr => ∃ k j : Nat, j ≤ s.size ∧ Hid (j = 2 * k) ∧ Hid (goodTo s j) ∧ i = .int .i64 j ∧ wr.ownsRow w.heap.size 5 1 v k (bcells (pairsL s k)) ∧ Below w.heap.size w wr)
    (fun _ i _ => s.size - (intOf i).toNat)
  case atStart => exact ⟨0, 0, Nat.zero_le _, Lib.hid rfl, Lib.hid (fun j hj => by omega), rfl, HO0.out, hbel0⟩
  case round =>
    obtain ⟨k, j, hj, HJ, HG, rfl, hown, hbel⟩ := hrel
    clear HO0 hbel0
    by_cases hlt : j < s.size
    · have hlt1 : j + 1 < s.size := by have := HJ.out; omega
      have a1 := valI_bd s[j]
      have a2 := valI_bd s[j + 1]
      by_cases g1 : 0 ≤ valI s[j]
      · by_cases g2 : 0 ≤ valI s[j + 1]
        · have c1 := orShift (valI s[j]) (valI s[j + 1]) ⟨g1, a1.2⟩ ⟨g2, a2.2⟩
          go_wp2_with (first
            | (go_at_call 18; refine (index_digit _ _).mono ?_; rintro e w' ⟨rfl, rfl⟩)
            | (at_builtin; refine wpList_append_own _ rfl (.tmp 42) (.tmp 48) 22 rfl w.heap.size 5 i0 (.int .u8 0) 1 1 Tryd.underlying22 hi hz0 hz1 hz2 rfl (by decide) _ _ _ rfl (hown.alloc _) ⟨wr.heap.size, 0, none⟩ 1 1 [.int .u8 (16 * valI s[j] + valI s[j + 1])] rfl rfl (World.news_of_block (heap_alloc_new _ _)) (by simp [Value.oneCell']) (by have := HJ.out; unfold maxLen; omega) (by have := HJ.out; omega) (by have := hbel.size; simp; omega) ?_; intro v1 w1 hown1 hgrow1 hn1))
          have hb1 : Below w.heap.size w w1 := (hbel.alloc hbel.size _).grown hgrow1 (by have := hbel.size; simp; omega) (own_block_ge hown)
          have G1 := Lib.hid (goodTo_step' HG.out hlt hlt1 g1 g2)
          rw [unhex_round' s k j HJ.out hlt hlt1 g1 g2] at hown1
          have HO := Lib.hid hown1
          clear hown1 hgrow1 hn1 hown c1
          go_wp2
          go_roundw
          case rel => exact ⟨k + 1, j + 2, by omega, Lib.hid (by have := HJ.out; omega), G1, by go_num, HO.out, hb1⟩
          case measure => simp [intOf]; omega
        · go_wp2_with (go_at_call 18; refine (index_digit _ _).mono ?_; rintro e w' ⟨rfl, rfl⟩)
          go_ret2
          exact ⟨ret_unhex (unhex_bad' (j + 1) hlt1 (by omega)), hbel⟩
      · go_wp2_with (go_at_call 18; refine (index_digit _ _).mono ?_; rintro e w' ⟨rfl, rfl⟩)
        go_ret2
        exact ⟨ret_unhex (unhex_bad' j hlt (by omega)), hbel⟩
    · obtain rfl : j = s.size := by omega
      have hk : k = s.size / 2 := by have := HJ.out; omega
      have R := Lib.hid (unhex_good HG.out)
      subst hk
      have hconv := own_string (P := Tryd.prog) 22 9 Tryd.underlying22 Tryd.underlying5 Tryd.underlying9 hown
      go_wp2
      go_ret2
      exact ⟨ret_unhex R.out, hbel⟩

set_option maxHeartbeats 400000 in
theorem implUnhex_not (s : ByteArray) (w : World) (h : 40000 < s.size ∨ s.size % 2 = 1) :
    Calls Tryd.prog 10 #[.string s] w fun e w' => e = .returned (.tuple #[.string ⟨#[]⟩, .bool false]) ∧ Below w.heap.size w w' := by
  by_cases hp : s.size % 2 = 1
  · have he' : ((s.size : Int) % 2 != 0) = true := by simp; omega
    clear h
    go_enter Tryd.func10, Tryd.ntmps10
    go_wp2
    go_ret2
    exact ⟨rfl, Below.refl _ _⟩
  · have he' : ((s.size : Int) % 2 != 0) = false := by simp; omega
    have hs : 40000 < s.size := by omega
    clear h
    go_enter Tryd.func10, Tryd.ntmps10
    go_wp2
    go_ret2
    exact ⟨rfl, Below.refl _ _⟩
end Go.Proofs.YtlnfbddamlhifaaDoor
