/- The model's XorText. -/
import Derived.Test.YtepnnmckbcomjaaDoorRangeSpec
import Derived.Test.YtepnnmckbcomjaaDoorNumMath
namespace Go.Proofs.YtepnnmckbcomjaaDoor
open Go.RowKit Go.Proofs.YtepnnmckbcomjaaDoor.Hexa Go.Proofs.YtepnnmckbcomjaaDoor.Byt Go.Proofs.YtepnnmckbcomjaaDoor.BitsM Go.Proofs.YtepnnmckbcomjaaDoor.Parts

set_option maxHeartbeats 1000000 in
theorem specXor_any (a b : ByteArray) (w : World) (ha : a.size ≤ 8000000) :
    Calls Tryd.prog 18 #[.string a, .string b] w fun e w' => e = .returned (.string (xorT a b)) ∧ Below w.heap.size w w' := by
  obtain ⟨i0, hi, hz0, hz1, hz2⟩ := info_parts infoByte
  by_cases hl : a.size = b.size
  · have HE : Hid (xorT a b = ⟨(xorL a b a.size).toArray⟩) := Lib.hid (if_pos hl)
    go_enter Tryd.func18, Tryd.ntmps18
    go_wp2
    go_loopw [5, 6] (fun v iv wr => ∃ k : Nat, k ≤ a.size ∧ iv = .int .i64 k ∧ wr.ownsRow w.heap.size 5 1 v k (bcells (xorL a b k)) ∧ Below w.heap.size w wr)
      (fun _ iv _ => a.size - (intOf iv).toNat)
    case atStart => exact ⟨0, Nat.zero_le _, rfl, World.ownsRow_lit w #[] 0 (Nat.le_refl _) (by decide) rfl, (Below.refl _ _).alloc (Nat.le_refl _) _⟩
    case round =>
      obtain ⟨k, hk, rfl, hown, hbel⟩ := hrel
      by_cases hlt : k < a.size
      · have hlt' : k < b.size := by omega
        have e1 := xor8 (a[k]'hlt) (b[k]'hlt')
        have hnx := xorL_next a b k hlt hlt'
        have hzl := ((a[k]'hlt) ^^^ (b[k]'hlt')).toNat_lt
        generalize ((a[k]'hlt) ^^^ (b[k]'hlt')) = z at e1 hnx hzl
        have HNX := Lib.hid hnx
        clear hnx
        go_wp2
        go_region_law (first
          | (refine step_append_lies _ rfl (.tmp 19) (.tmp 27) 22 rfl w.heap.size 5 i0 (.int .u8 0) 1 1 Tryd.underlying22 hi hz0 hz1 hz2 rfl (by decide) u5 k (bcells (xorL a b k)) (by simp [Act.eval]) (hown.alloc _) ⟨wr.heap.size, 0, none⟩ 1 1 [.int .u8 (z.toNat : Int)] (by simp [Act.eval]) rfl (World.news_of_block (heap_alloc_new _ _)) (by simp [Value.oneCell']) (by decide) (by unfold maxLen; omega) (by omega) (by have := hbel.size; simp; omega) _ rfl ?_; intro g cap w1 hown1 hgrow1 hat1 hlt1))
        all_goals
          have hb1 : Below w.heap.size w w1 := ((hbel.alloc hbel.size _).drew).grown hgrow1 (by have := hbel.size; simp; omega) (own_block_ge hown)
          rw [HNX.out] at hown1
          have HO := Lib.hid hown1
          clear hown1 hgrow1 hat1 hlt1 e1 hown
          go_wp2
          go_roundw
          case rel => exact ⟨k + 1, by omega, by go_num, HO.out, hb1⟩
          case measure => simp [intOf]; omega
      · obtain rfl : k = a.size := by omega
        have hconv := own_string (P := Tryd.prog) 22 9 Tryd.underlying22 Tryd.underlying5 Tryd.underlying9 hown
        go_wp2
        go_ret
        exact ⟨by rw [HE.out, hl]; rfl, hbel⟩
  · have HE : Hid (xorT a b = ⟨#[]⟩) := Lib.hid (if_neg hl)
    go_enter Tryd.func18, Tryd.ntmps18
    go_wp2
    go_ret
    exact ⟨by rw [HE.out]; rfl, Below.refl _ _⟩
end Go.Proofs.YtepnnmckbcomjaaDoor
