/- The model's SameBytes. -/
import Derived.Test.YtoibghcemmgomaaRows
import Derived.Test.YtoibghcemmgomaaBitsMath
import Derived.WalkKit
import Derived.WalkSpells
import Derived.WalkLawsBesides
import Derived.Lib.Hide
import Derived.Deep.QuietTactic
import Derived.BigQuiet
namespace Go.Proofs.Ytoibghcemmgomaa
open Go.RowKit Go.Proofs.Ytoibghcemmgomaa.BitsM

/-- The first k bytes agree. -/
def SameTo (a b : ByteArray) (k : Nat) : Prop := ∀ j, j < k → a.data.toList[j]? = b.data.toList[j]?
theorem same_all {a b : ByteArray} (hl : a.size = b.size) : SameTo a b a.size ↔ a = b := by
  constructor
  · intro h
    apply ByteArray.ext
    apply Array.toList_inj.1
    apply List.ext_getElem?
    intro j
    by_cases hj : j < a.size
    · exact h j hj
    · have h1 : a.data.toList.length = a.size := by simp
      have h2 : b.data.toList.length = b.size := by simp
      rw [List.getElem?_eq_none (by omega), List.getElem?_eq_none (by omega)]
  · rintro rfl j _; rfl
theorem get_toList (a : ByteArray) (k : Nat) (h : k < a.size) : a.data.toList[k]? = some (a[k]'h) := by
  have h1 : k < a.data.toList.length := by simpa using h
  rw [List.getElem?_eq_getElem h1]; rfl
/-- One byte more. -/
theorem same_next {a b : ByteArray} {k y : Nat} (ha : k < a.size) (hb : k < b.size) (hy : y = 0 ↔ SameTo a b k) : (y ||| ((a[k]'ha) ^^^ (b[k]'hb)).toNat = 0) ↔ SameTo a b (k + 1) := by
  rw [Nat.or_eq_zero_iff, hy]
  have hx : ((a[k]'ha) ^^^ (b[k]'hb)).toNat = 0 ↔ a[k]'ha = b[k]'hb := by
    constructor
    · intro h
      have : (a[k]'ha) ^^^ (b[k]'hb) = 0 := by apply UInt8.toNat.inj; simpa using h
      exact UInt8.xor_eq_zero_iff.1 this
    · intro h; rw [h]; simp
  rw [hx]
  constructor
  · rintro ⟨h1, h2⟩ j hj
    by_cases e : j = k
    · subst e; rw [get_toList a j ha, get_toList b j hb, h2]
    · exact h1 j (by omega)
  · intro h
    refine ⟨fun j hj => h j (by omega), ?_⟩
    have := h k (by omega)
    rw [get_toList a k ha, get_toList b k hb] at this
    exact Option.some.inj this

set_option maxHeartbeats 1000000 in
theorem specSame_any (a b : ByteArray) (w : World) (ha : a.size ≤ 100000000) :
    Calls Try.prog 4 #[.string a, .string b] w fun e w' => e = .returned (.bool (decide (a = b))) ∧ ∃ m, w' = w.drewN m := by
  by_cases hl : a.size = b.size
  · go_enter Try.func4, Try.ntmps4
    go_wp2
    go_loopw [5, 6] (fun yv iv wr => ∃ (k y m : Nat), k ≤ a.size ∧ iv = .int .i64 k ∧ yv = .int .i64 y ∧ y < 256 ∧ Hid (y = 0 ↔ SameTo a b k) ∧ wr = w.drewN m) (fun _ iv _ => a.size - (intOf iv).toNat)
    case atStart => exact ⟨0, 0, 0, Nat.zero_le _, rfl, rfl, by omega, Lib.hid ⟨fun _ j hj => by omega, fun _ => rfl⟩, rfl⟩
    case round =>
      obtain ⟨k, y, m, hk, rfl, rfl, hy, HY, rfl⟩ := hrel
      by_cases hlt : k < a.size
      · have hlt' : k < b.size := by omega
        have e1 := xor8 (a[k]'hlt) (b[k]'hlt')
        have hzl := ((a[k]'hlt) ^^^ (b[k]'hlt')).toNat_lt
        have e2 := or64 y ((a[k]'hlt) ^^^ (b[k]'hlt')).toNat (by omega) (by omega)
        have HN := Lib.hid (same_next hlt hlt' HY.out)
        have hor : y ||| ((a[k]'hlt) ^^^ (b[k]'hlt')).toNat < 256 := Nat.or_lt_two_pow (n := 8) (by omega) (by omega)
        generalize ((a[k]'hlt) ^^^ (b[k]'hlt')) = z at e1 e2 HN hor hzl
        go_wp2
        go_quiet (fail)
        go_wp2
        go_roundw
        case rel => exact ⟨k + 1, _, _, by omega, by go_num, rfl, hor, HN, rfl⟩
        case measure => (simp [intOf]; try omega)
      · obtain rfl : k = a.size := by omega
        have hr : ((y : Int) == 0) = decide (a = b) := by
          have hi := (HY.out).trans (same_all hl)
          by_cases h0 : y = 0
          · rw [decide_eq_true (hi.1 h0), h0]; rfl
          · rw [decide_eq_false (fun h => h0 (hi.2 h))]; exact beq_eq_false_iff_ne.2 (by omega)
        go_wp2
        go_ret
        exact ⟨rfl, _, rfl⟩
  · have hne : decide (a = b) = false := decide_eq_false (fun h => hl (by rw [h]))
    rw [hne]
    go_enter Try.func4, Try.ntmps4
    go_wp2
    go_ret
    exact ⟨rfl, 0, rfl⟩
end Go.Proofs.Ytoibghcemmgomaa
