/- The model's Unhex, and the value of one digit. -/
import Derived.Test.YtlnfbddamlhifaaRows
import Derived.Test.YtlnfbddamlhifaaUnhexMath
import Derived.WalkKit
import Derived.WalkSpells
import Derived.WalkLawsBesides
import Derived.Lib.Hide
import Derived.Deep.AppendLies
namespace Go.Proofs.Ytlnfbddamlhifaa
open Go.RowKit Go.Proofs.Ytlnfbddamlhifaa.Hexa

theorem Try.infoU8s : (Try.prog.info? 5).map (fun i => (i.zero, i.size, i.bytes)) = some (some (.int .u8 0), 1, 1) := by kernel_rfl

theorem ret_i64 {a b : Int} (h : a = b) : Ending.returned (.int .i64 a) = .returned (.int .i64 b) := by rw [h]

set_option maxHeartbeats 400000 in
theorem value_any (c : UInt8) (w : World) :
    Calls Try.prog 19 #[.int .u8 c.toNat] w fun e w' => e = .returned (.int .i64 (valI c)) ∧ w = w' := by
  have hc := c.toNat_lt
  by_cases h1 : (48 : Int) ≤ c.toNat <;> by_cases h2 : (c.toNat : Int) ≤ 57 <;> by_cases h3 : (97 : Int) ≤ c.toNat <;> by_cases h4 : (c.toNat : Int) ≤ 102 <;> first | omega | skip
  all_goals
    go_enter Try.func19, Try.ntmps19
    go_wp2
    go_ret
    exact ⟨ret_i64 (by first | exact valI_1 c (by omega) (by omega) | exact valI_2 c (by omega) (by omega) | exact valI_3 c (by omega) (by omega)), rfl⟩

set_option maxHeartbeats 1000000 in
theorem specUnhex_even (s : ByteArray) (w : World) (hs : s.size ≤ 40000) (he : s.size % 2 = 0) :
    Calls Try.prog 9 #[.string s] w fun e w' => e = .returned (.tuple #[.string (unhexText s), .bool (unhexOk s)]) ∧ Below w.heap.size w w' := by
  obtain ⟨i0, hi, hz0, hz1, hz2⟩ := info_parts Try.infoU8s
  have he' : ((s.size : Int) % 2 != 0) = false := by simp; omega
  go_enter Try.func9, Try.ntmps9
  go_wp2
  go_loopw [4, 5] (fun v i wr => ∃ k j : Nat, j ≤ s.size ∧ Hid (j = 2 * k) ∧ Hid (goodTo s j) ∧ i = .int .i64 j ∧ wr.ownsRow w.heap.size 5 1 v k (bcells (pairsL s k)) ∧ Below w.heap.size w wr)
    (fun _ i _ => s.size - (intOf i).toNat)
  case atStart => exact ⟨0, 0, Nat.zero_le _, Lib.hid rfl, Lib.hid (fun j hj => by omega), rfl, World.ownsRow_lit w #[] 0 (Nat.le_refl _) (by decide) rfl, (Below.refl _ _).alloc (Nat.le_refl _) _⟩
  case round =>
    obtain ⟨k, j, hj, HJ, HG, rfl, hown, hbel⟩ := hrel
    by_cases hlt : j < s.size
    · have hlt1 : j + 1 < s.size := by have := HJ.out; omega
      have a1 := valI_bd s[j]
      have a2 := valI_bd s[j + 1]
      by_cases g1 : 0 ≤ valI s[j]
      · by_cases g2 : 0 ≤ valI s[j + 1]
        · go_wp2_with (first
            | (go_at_call 19; refine (value_any _ _).mono ?_; rintro e w' ⟨rfl, rfl⟩)
            | (at_builtin; refine wpList_append_own _ rfl (.tmp 39) (.tmp 45) 32 rfl w.heap.size 5 i0 (.int .u8 0) 1 1 Try.underlying32 hi hz0 hz1 hz2 rfl (by decide) _ _ _ rfl (hown.alloc _) ⟨wr.heap.size, 0, none⟩ 1 1 [.int .u8 (16 * valI s[j] + valI s[j + 1])] rfl rfl (World.news_of_block (heap_alloc_new _ _)) (by simp [Value.oneCell']) (by have := HJ.out; unfold maxLen; omega) (by have := HJ.out; omega) (by have := hbel.size; simp; omega) ?_; intro v1 w1 hown1 hgrow1 hn1))
          have hb1 : Below w.heap.size w w1 := (hbel.alloc hbel.size _).grown hgrow1 (by have := hbel.size; simp; omega) (own_block_ge hown)
          have G1 := Lib.hid (goodTo_step' HG.out hlt hlt1 g1 g2)
          rw [unhex_round' s k j HJ.out hlt hlt1 g1 g2] at hown1
          have HO := Lib.hid hown1
          clear hown1 hgrow1 hn1 hown
          go_wp2
          go_roundw
          case rel => exact ⟨k + 1, j + 2, by omega, Lib.hid (by have := HJ.out; omega), G1, by go_num, HO.out, hb1⟩
          case measure => simp [intOf]; omega
        · go_wp2_with (go_at_call 19; refine (value_any _ _).mono ?_; rintro e w' ⟨rfl, rfl⟩)
          go_ret2
          exact ⟨ret_unhex (unhex_bad' (j + 1) hlt1 (by omega)), hbel⟩
      · go_wp2_with (go_at_call 19; refine (value_any _ _).mono ?_; rintro e w' ⟨rfl, rfl⟩)
        go_ret2
        exact ⟨ret_unhex (unhex_bad' j hlt (by omega)), hbel⟩
    · obtain rfl : j = s.size := by omega
      have hk : k = s.size / 2 := by have := HJ.out; omega
      have R := Lib.hid (unhex_good HG.out)
      subst hk
      have hconv := own_string (P := Try.prog) 32 9 Try.underlying32 Try.underlying5 Try.underlying9 hown
      go_wp2
      go_ret2
      exact ⟨ret_unhex R.out, hbel⟩

set_option maxHeartbeats 400000 in
theorem specUnhex_not (s : ByteArray) (w : World) (h : 40000 < s.size ∨ s.size % 2 = 1) :
    Calls Try.prog 9 #[.string s] w fun e w' => e = .returned (.tuple #[.string ⟨#[]⟩, .bool false]) ∧ Below w.heap.size w w' := by
  by_cases hs : 40000 < s.size
  · clear h
    go_enter Try.func9, Try.ntmps9
    go_wp2
    go_ret2
    exact ⟨rfl, Below.refl _ _⟩
  · have he' : ((s.size : Int) % 2 != 0) = true := by simp; omega
    clear h
    go_enter Try.func9, Try.ntmps9
    go_wp2
    go_ret2
    exact ⟨rfl, Below.refl _ _⟩
end Go.Proofs.Ytlnfbddamlhifaa
