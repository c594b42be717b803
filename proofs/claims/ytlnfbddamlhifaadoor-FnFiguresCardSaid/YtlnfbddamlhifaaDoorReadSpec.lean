/- The model's ReadDecimal. -/
import Derived.Test.YtlnfbddamlhifaaDoorDecLaw
import Derived.Test.YtlnfbddamlhifaaDoorReadMath
namespace Go.Proofs.YtlnfbddamlhifaaDoor
open Go.RowKit Go.Proofs.YtlnfbddamlhifaaDoor.Parts Go.Proofs.YtlnfbddamlhifaaDoor.Hexa

def RdPost (s : ByteArray) (w : World) (e : Ending) (w' : World) : Prop := e = .returned (.tuple #[.int .i64 (rdN s), .bool (rdOk s)]) ∧ Below w.heap.size w w'

theorem no_long {s : ByteArray} (h : 10 < s.size) : ∀ n, ¬ Spells s n := fun n k => by have := spells_size k; omega
theorem no_digit {s : ByteArray} (i : Nat) (hi : i < s.size) (h : (s[i].toNat : Int) < 48 ∨ (57 : Int) < s[i].toNat) : ∀ n, ¬ Spells s n := fun n k => by have := spells_digits k i hi; omega
theorem no_val {s : ByteArray} {m : Nat} (hm : valN s.data.toList = m) (h : 1000000000 < m ∨ ¬ (⟨(Lib.itoa (m : Int)).toArray⟩ : ByteArray) = s) : ∀ n, ¬ Spells s n := fun n k => by
  have := spells_val k
  obtain rfl : n = m := by omega
  rcases h with h | h
  · have := k.1; omega
  · exact h (spells_text k)
theorem val_take {s : ByteArray} {i : Nat} (h : i < s.size) (h1 : (48 : Int) ≤ s[i].toNat) : (valN (s.data.toList.take (i + 1)) : Int) = 10 * (valN (s.data.toList.take i) : Int) + s[i].toNat - 48 := by
  rw [take_snoc s i h, valN_snoc]; omega
theorem pow_step {i m c : Nat} (h : m < 10 ^ i) (hc : 48 ≤ c ∧ c ≤ 57) : 10 * m + (c - 48) < 10 ^ (i + 1) := by rw [Nat.pow_succ]; omega
theorem val_bd {s : ByteArray} {i : Nat} (h : i < s.size) (h1 : (48 : Int) ≤ s[i].toNat) (h2 : (s[i].toNat : Int) ≤ 57) (hb : valN (s.data.toList.take i) < 10 ^ i) : valN (s.data.toList.take (i + 1)) < 10 ^ (i + 1) := by
  rw [take_snoc s i h, valN_snoc]; exact pow_step hb (by omega)
theorem pow_le {i : Nat} (h : i ≤ 10) : 10 ^ i ≤ 10000000000 := by
  have := Nat.pow_le_pow_right (n := 10) (by omega) h
  omega

set_option maxHeartbeats 1000000 in
theorem specRead_any (s : ByteArray) (w : World) :
    Calls Tryd.prog 14 #[.string s] w (RdPost s w) := by
  by_cases hl : 10 < s.size
  · have R := Lib.hid (rd_no (no_long hl))
    go_enter Tryd.func14, Tryd.ntmps14
    go_wp2
    go_ret2
    exact ⟨ret_rd R.out, Below.refl _ _⟩
  · have hs : s.size ≤ 10 := by omega
    clear hl
    go_enter Tryd.func14, Tryd.ntmps14
    go_wp2
    go_loop [4, 5] (fun nv iv => ∃ i m : Nat, i ≤ s.size ∧ m < 10000000000 ∧ Hid (valN (s.data.toList.take i) = m) ∧ Hid (valN (s.data.toList.take i) < 10 ^ i) ∧ iv = .int .i64 i ∧ nv = .int .i64 m) (fun _ iv => s.size - (intOf iv).toNat)
    case atStart => exact ⟨0, 0, Nat.zero_le _, by decide, Lib.hid rfl, Lib.hid (by simp [valN]), rfl, rfl⟩
    case round =>
      obtain ⟨i, m, hi, hm, HV, HB, rfl, rfl⟩ := hrel
      by_cases hlt : i < s.size
      · by_cases c1 : (s[i].toNat : Int) < 48
        · have R := Lib.hid (rd_no (no_digit i hlt (Or.inl c1)))
          go_wp2
          go_ret2
          exact ⟨ret_rd R.out, Below.refl _ _⟩
        · by_cases c2 : (57 : Int) < s[i].toNat
          · have R := Lib.hid (rd_no (no_digit i hlt (Or.inr c2)))
            go_wp2
            go_ret2
            exact ⟨ret_rd R.out, Below.refl _ _⟩
          · have V1 := Lib.hid (val_take hlt (by omega))
            have B1 := Lib.hid (val_bd hlt (by omega) (by omega) HB.out)
            have B2 : valN (s.data.toList.take (i + 1)) < 10000000000 := by have := B1.out; have := pow_le (i := i + 1) (by omega); omega
            have B3 := Lib.hid B2
            clear B2
            go_wp2
            go_round
            case rel => exact ⟨i + 1, valN (s.data.toList.take (i + 1)), by omega, B3.out, Lib.hid rfl, B1, by go_num, by have := V1.out; have := HV.out; congr 1; omega⟩
            case measure => (simp [intOf]; try omega)
      · obtain rfl : i = s.size := by omega
        have hv : valN s.data.toList = m := by have := HV.out; rwa [List.take_of_length_le (by simp)] at this
        have HV2 := Lib.hid hv
        clear hv
        by_cases hbig : 1000000000 < m
        · have R := Lib.hid (rd_no (no_val HV2.out (Or.inl hbig)))
          go_wp2
          go_ret2
          exact ⟨ret_rd R.out, Below.refl _ _⟩
        · by_cases ht : (⟨(Lib.itoa (m : Int)).toArray⟩ : ByteArray) = s
          · have R := Lib.hid (rd_yes (spells_of_text (by omega) ht))
            have HT := text_yes ht
            clear ht
            go_wp2_with (go_at_call 13; refine (specDecimal_any _ _ (by omega) (by omega)).mono ?_; rintro e w1 ⟨rfl, hb1⟩)
            go_ret2
            exact ⟨ret_rd R.out, hb1⟩
          · have R := Lib.hid (rd_no (no_val HV2.out (Or.inr ht)))
            have HT := text_no ht
            clear ht
            go_wp2_with (go_at_call 13; refine (specDecimal_any _ _ (by omega) (by omega)).mono ?_; rintro e w1 ⟨rfl, hb1⟩)
            go_ret2
            exact ⟨ret_rd R.out, hb1⟩
end Go.Proofs.YtlnfbddamlhifaaDoor
