/- The model's Decimal: the decimal numeral of every int. -/
import Derived.Test.YtlnfbddamlhifaaDoorRows
import Derived.Test.YtlnfbddamlhifaaDoorDecMath
import Derived.WalkKit
import Derived.WalkSpells
import Derived.WalkLawsBesides
import Derived.Lib.Hide
namespace Go.Proofs.YtlnfbddamlhifaaDoor
open Go.RowKit Go.Proofs.YtlnfbddamlhifaaDoor.Parts Go.Proofs.YtlnfbddamlhifaaDoor.Hexa

set_option maxHeartbeats 400000 in
theorem figure_dec (x : Int) (w : World) (h0 : 0 ≤ x) (h1 : x < 10) :
    Calls Tryd.prog 20 #[.int .i64 x] w fun e w' => e = .returned (.int .u8 (figI x)) ∧ w = w' := by
  have hn := nib_toNat x.toNat (by omega)
  have e : figI x = 48 + x := by unfold figI; rw [hn, if_pos (by omega)]; omega
  clear hn
  have HE := Lib.hid e
  clear e
  go_enter Tryd.func20, Tryd.ntmps20
  go_wp2
  go_ret
  exact ⟨by rw [HE.out]; rfl, rfl⟩

theorem ret_str {a b : ByteArray} (h : a = b) : Ending.returned (.string a) = .returned (.string b) := by rw [h]

/-- The text of one byte that a call has just laid. -/
theorem one_conv (wr : World) (x : Int) (c : UInt8) (h : x = (c.toNat : Int)) :
    (convert 22 9 (.slice (some ⟨wr.heap.size, 0, none⟩) 1 1)).run Tryd.prog (wr.alloc (.cells #[.int .u8 x] 5)) = .ok (.string ⟨[c].toArray⟩) (wr.alloc (.cells #[.int .u8 x] 5)) := by
  subst h
  exact own_string (P := Tryd.prog) (l := [c]) 22 9 Tryd.underlying22 Tryd.underlying5 Tryd.underlying9 (World.ownsRow_lit (e := 5) (size := 1) (base := 0) wr #[.int .u8 (c.toNat : Int)] 1 (Nat.zero_le _) (by decide) rfl)

set_option maxHeartbeats 400000 in
theorem specDecimal_zero (w : World) :
    Calls Tryd.prog 13 #[.int .i64 0] w fun e w' => e = .returned (.string ⟨(Lib.itoa 0).toArray⟩) ∧ Below w.heap.size w w' := by
  rw [itoa_zero]
  go_enter Tryd.func13, Tryd.ntmps13
  go_wp2
  go_ret
  exact ⟨rfl, Below.refl _ _⟩

set_option maxHeartbeats 1000000 in
theorem specDecimal_pos (k : Nat) (w : World) (hk : 0 < k) (hm : k ≤ 9223372036854775807) :
    Calls Tryd.prog 13 #[.int .i64 k] w fun e w' => e = .returned (.string ⟨(Lib.itoa (k : Int)).toArray⟩) ∧ Below w.heap.size w w' := by
  have h0 : ((k : Int) == 0) = false := by simp; omega
  go_enter Tryd.func13, Tryd.ntmps13
  go_wp2
  go_loopw [0, 4] (fun kv sv wr => ∃ (j : Nat) (t : ByteArray), j ≤ k ∧ t.size ≤ k / 2 + 1 ∧ Hid (digs j ++ t.data.toList = digs k) ∧ kv = .int .i64 j ∧ sv = .string t ∧ Below w.heap.size w wr) (fun kv _ _ => (intOf kv).toNat)
  case atStart => exact ⟨k, ⟨#[]⟩, Nat.le_refl _, Nat.zero_le _, Lib.hid (by simp), rfl, rfl, Below.refl _ _⟩
  case round =>
    obtain ⟨j, t, hj, ht, HD, rfl, rfl, hbel⟩ := hrel
    by_cases hlt : 0 < j
    · have hne : ((j : Int) != 0) = true := by simp; omega
      obtain ⟨cs, hcs, hcd, hce⟩ := one_byte (UInt8.ofNat (48 + j % 10))
      have HT := Lib.hid (digs_round hlt HD.out hcd)
      have HS := digs_size2 HT.out
      have HS' : cs.size + t.size ≤ 9223372036854775807 := by omega
      have hconv := one_conv wr (figI ((j : Int) % 10)) _ (fig_digit j)
      rw [← hce] at hconv
      clear hcd hce
      go_wp2_with (go_at_call 20; refine (figure_dec _ _ (by omega) (by omega)).mono ?_; rintro e w' ⟨rfl, rfl⟩)
      go_roundw
      case rel => exact ⟨j / 10, cs ++ t, by omega, HS, HT, by go_num, rfl, hbel.alloc hbel.size _⟩
      case measure => (simp [intOf]; omega)
    · obtain rfl : j = 0 := by omega
      go_wp2
      go_ret
      exact ⟨ret_str (itoa_pos hk HD.out), hbel⟩

set_option maxHeartbeats 1000000 in
theorem specDecimal_neg (k : Nat) (w : World) (hk : 0 < k) (hm : k ≤ 9223372036854775808) :
    Calls Tryd.prog 13 #[.int .i64 (-(k : Int))] w fun e w' => e = .returned (.string ⟨(Lib.itoa (-(k : Int))).toArray⟩) ∧ Below w.heap.size w w' := by
  have h0 : ((-(k : Int)) == 0) = false := by simp; omega
  have h1 : -(k : Int) < 0 := by omega
  go_enter Tryd.func13, Tryd.ntmps13
  go_wp2
  go_loopw [0, 4] (fun kv sv wr => ∃ (j : Nat) (t : ByteArray), j ≤ k ∧ t.size ≤ k / 2 + 1 ∧ Hid (digs j ++ t.data.toList = digs k) ∧ kv = .int .i64 (-(j : Int)) ∧ sv = .string t ∧ Below w.heap.size w wr) (fun kv _ _ => (-(intOf kv)).toNat)
  case atStart => exact ⟨k, ⟨#[]⟩, Nat.le_refl _, Nat.zero_le _, Lib.hid (by simp), rfl, rfl, Below.refl _ _⟩
  case round =>
    obtain ⟨j, t, hj, ht, HD, rfl, rfl, hbel⟩ := hrel
    by_cases hlt : 0 < j
    · have hne : ((-(j : Int)) != 0) = true := by simp; omega
      obtain ⟨cs, hcs, hcd, hce⟩ := one_byte (UInt8.ofNat (48 + j % 10))
      have HT := Lib.hid (digs_round hlt HD.out hcd)
      have HS := digs_size2 HT.out
      have HS' : cs.size + t.size ≤ 9223372036854775807 := by omega
      have c1 := neg_tmod j
      have c2 := neg_tdiv j
      by_cases hd : 0 < j % 10
      · have hconv := one_conv wr (figI ((j : Int) % 10)) _ (fig_digit j)
        rw [← hce] at hconv
        have hd1 : -((j : Int) % 10) < 0 := by omega
        clear hcd hce hd
        go_wp2_with (go_at_call 20; refine (figure_dec _ _ (by omega) (by omega)).mono ?_; rintro e w' ⟨rfl, rfl⟩)
        go_roundw
        case rel => exact ⟨j / 10, cs ++ t, by omega, HS, HT, by go_num, rfl, hbel.alloc hbel.size _⟩
        case measure => (simp [intOf]; omega)
      · have hconv := one_conv wr (figI (-((j : Int) % 10))) _ (by rw [show -((j : Int) % 10) = (j : Int) % 10 by omega]; exact fig_digit j)
        rw [← hce] at hconv
        have hd1 : 0 ≤ -((j : Int) % 10) := by omega
        clear hcd hce hd
        go_wp2_with (go_at_call 20; refine (figure_dec _ _ (by omega) (by omega)).mono ?_; rintro e w' ⟨rfl, rfl⟩)
        go_roundw
        case rel => exact ⟨j / 10, cs ++ t, by omega, HS, HT, by go_num, rfl, hbel.alloc hbel.size _⟩
        case measure => (simp [intOf]; omega)
    · obtain rfl : j = 0 := by omega
      go_wp2
      go_ret
      exact ⟨ret_str (itoa_neg hk HD.out), hbel⟩
end Go.Proofs.YtlnfbddamlhifaaDoor
