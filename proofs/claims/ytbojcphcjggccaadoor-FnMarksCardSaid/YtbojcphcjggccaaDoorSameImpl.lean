/- The program's SameBytes. -/
import Derived.Test.YtbojcphcjggccaaDoorSameMath
import Derived.Below
namespace Go.Proofs.YtbojcphcjggccaaDoor
open Go.RowKit Go.Proofs.YtbojcphcjggccaaDoor.BitsM

theorem below_drewN {B : Nat} (w : World) (m : Nat) : Below B w (w.drewN m) := ⟨rfl, rfl, rfl, Nat.le_refl _, fun _ _ => rfl⟩

set_option maxRecDepth 100000 in
set_option maxHeartbeats 1000000 in
theorem implSame_any (a b : ByteArray) (w : World) (ha : a.size ≤ 100000000) :
    Calls Tryd.prog 19 #[.string a, .string b] w fun e w' => e = .returned (.bool (decide (a = b))) ∧ ∃ m, w' = w.drewN m := by
  by_cases hl : a.size = b.size
  · go_enter Tryd.func19, Tryd.ntmps19
    go_wp2
    go_loopw [5, 14] (fun yv iv wr => ∃ (k m : Nat) (y : UInt8), k ≤ a.size ∧ iv = .int .i64 k ∧ yv = .int .u8 y.toNat ∧ Hid (y.toNat = 0 ↔ SameTo a b k) ∧ wr = w.drewN m) (fun _ iv _ => a.size - (intOf iv).toNat)
    case atStart => exact ⟨0, 0, 0, Nat.zero_le _, rfl, rfl, Lib.hid ⟨fun _ j hj => by omega, fun _ => rfl⟩, rfl⟩
    case round =>
      obtain ⟨k, m, y, hk, rfl, rfl, HY, rfl⟩ := hrel
      by_cases hlt : k < a.size
      · have hlt' : k < b.size := by omega
        have e1 := xor8 (a[k]'hlt) (b[k]'hlt')
        have e2 := or8 y ((a[k]'hlt) ^^^ (b[k]'hlt'))
        have HN := Lib.hid (same_next hlt hlt' HY.out)
        have HN' : Hid ((y ||| ((a[k]'hlt) ^^^ (b[k]'hlt'))).toNat = 0 ↔ SameTo a b (k + 1)) := Lib.hid (by rw [UInt8.toNat_or]; exact HN.out)
        clear HN
        generalize ((a[k]'hlt) ^^^ (b[k]'hlt')) = z at e1 e2 HN'
        go_wp2
        go_quiet (fail)
        go_wp2
        go_roundw
        case rel => exact ⟨k + 1, _, y ||| z, by omega, by go_num, rfl, HN', rfl⟩
        case measure => (simp [intOf]; try omega)
      · obtain rfl : k = a.size := by omega
        have hr : ((y.toNat : Int) == 0) = decide (a = b) := by
          have hi := (HY.out).trans (same_all hl)
          by_cases h0 : y.toNat = 0
          · rw [decide_eq_true (hi.1 h0), h0]; rfl
          · rw [decide_eq_false (fun h => h0 (hi.2 h))]; exact beq_eq_false_iff_ne.2 (by omega)
        go_wp2
        go_ret
        exact ⟨rfl, _, rfl⟩
  · have hne : decide (a = b) = false := decide_eq_false (fun h => hl (by rw [h]))
    rw [hne]
    go_enter Tryd.func19, Tryd.ntmps19
    go_wp2
    go_ret
    exact ⟨rfl, 0, rfl⟩

end Go.Proofs.YtbojcphcjggccaaDoor
