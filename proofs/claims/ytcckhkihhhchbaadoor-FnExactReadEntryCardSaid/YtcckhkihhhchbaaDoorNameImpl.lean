/- NameOk: the program's. -/
import Derived.Test.YtcckhkihhhchbaaDoorRecSpec
import Derived.Test.YtcckhkihhhchbaaDoorRangeImpl
namespace Go.Proofs.YtcckhkihhhchbaaDoor
open Go.RowKit Go.Proofs.YtcckhkihhhchbaaDoor.Parts Go.Proofs.YtcckhkihhhchbaaDoor.Hexa Go.Proofs.YtcckhkihhhchbaaDoor.Byt

set_option maxRecDepth 100000 in
set_option maxHeartbeats 1000000 in
theorem implNameByte_any (n : Int) (w : World) :
    Calls Tryd.prog 54 #[.int .u8 n] w fun e w' => e = .returned (.bool (decide ((97 ≤ n ∧ n ≤ 122) ∨ (48 ≤ n ∧ n ≤ 57)))) ∧ w' = w := by
  by_cases h1 : 97 ≤ n <;> by_cases h2 : n ≤ 122 <;> by_cases h3 : 48 ≤ n <;> by_cases h4 : n ≤ 57
  all_goals
    go_enter Tryd.func54, Tryd.ntmps54
    go_wp2
    all_goals go_ret
    all_goals exact ⟨by simp [h1, h2, h3, h4], rfl⟩
theorem implNameByte_yes {b : UInt8} (w : World) (h : NameC b) :
    Calls Tryd.prog 54 #[.int .u8 (b.toNat : Int)] w fun e w' => e = .returned (.bool true) ∧ w' = w :=
  (implNameByte_any (b.toNat : Int) w).mono fun _ _ ⟨he, hw⟩ => ⟨by rw [he, decide_eq_true (by rcases h with h | h <;> omega)], hw⟩
theorem implNameByte_no {b : UInt8} (w : World) (h : ¬ NameC b) :
    Calls Tryd.prog 54 #[.int .u8 (b.toNat : Int)] w fun e w' => e = .returned (.bool false) ∧ w' = w :=
  (implNameByte_any (b.toNat : Int) w).mono fun _ _ ⟨he, hw⟩ => ⟨by rw [he, decide_eq_false (fun x => h (by rcases x with x | x; exact .inl (by omega); exact .inr (by omega)))], hw⟩

set_option maxRecDepth 100000 in
set_option maxHeartbeats 1000000 in
theorem implName_any (s : ByteArray) (w : World) (hs : s.size ≤ 2000000) :
    Calls Tryd.prog 18 #[.string s] w fun e w' => e = .returned (.bool (nameB s)) ∧ w' = w := by
  by_cases hl : (1 : Int) ≤ (s.size : Int) ∧ (s.size : Int) ≤ 7
  · have HL := Lib.hid hl
    clear hl
    go_enter Tryd.func18, Tryd.ntmps18
    go_wp2_with ((with_reducible refine (implIn_yes _ HL.out).mono ?_); rintro e w1 ⟨rfl, rfl⟩)
    go_loop [10] (fun i => ∃ k : Nat, k ≤ s.size ∧ i = .int .i64 k ∧ Hid (∀ j (hj : j < s.size), j < k → NameC s[j])) (fun i => s.size - (intOf i).toNat)
    case atStart => exact ⟨0, Nat.zero_le _, rfl, Lib.hid (fun j hj h => by omega)⟩
    case round =>
      obtain ⟨k, hk, rfl, HA⟩ := hrel
      by_cases hlt : k < s.size
      · obtain ⟨b, hb⟩ : ∃ b, s[k]'hlt = b := ⟨_, rfl⟩
        have hb255 := b.toNat_lt
        have HB := Lib.hid hb
        by_cases h1 : NameC b
        · have HR := Lib.hid h1
          have HA2 : Hid (∀ j (hj : j < s.size), j < k + 1 → NameC s[j]) := Lib.hid (fun j hj h => by
            by_cases e : j = k
            · subst e; rw [HB.out]; exact HR.out
            · exact HA.out j hj (by omega))
          clear h1
          go_wp2_with ((with_reducible refine (implNameByte_yes _ HR.out).mono ?_); rintro e w1 ⟨rfl, rfl⟩)
          go_round
          case rel => exact ⟨k + 1, by omega, by go_num, HA2⟩
          case measure => (simp [intOf]; try omega)
        · have HR := Lib.hid h1
          have HN : Hid (nameB s = false) := Lib.hid (nameB_no (fun h => by
            have h3 := name_at h k hlt
            rw [hb] at h3
            exact h1 h3))
          clear h1
          go_wp2_with ((with_reducible refine (implNameByte_no _ HR.out).mono ?_); rintro e w1 ⟨rfl, rfl⟩)
          go_ret
          exact ⟨by rw [HN.out]; rfl, rfl⟩
      · obtain rfl : k = s.size := by omega
        have HN : Hid (nameB s = true) := Lib.hid (nameB_yes (name_all (by have := HL.out; omega) (fun j hj => HA.out j hj hj)))
        go_wp2
        go_ret
        exact ⟨by rw [HN.out]; rfl, rfl⟩
  · have HL := Lib.hid hl
    have HN : Hid (nameB s = false) := Lib.hid (nameB_no (fun h => hl (by have := h.1; omega)))
    clear hl
    go_enter Tryd.func18, Tryd.ntmps18
    go_wp2_with ((with_reducible refine (implIn_no _ HL.out).mono ?_); rintro e w1 ⟨rfl, rfl⟩)
    go_ret
    exact ⟨by rw [HN.out]; rfl, rfl⟩
end Go.Proofs.YtcckhkihhhchbaaDoor
