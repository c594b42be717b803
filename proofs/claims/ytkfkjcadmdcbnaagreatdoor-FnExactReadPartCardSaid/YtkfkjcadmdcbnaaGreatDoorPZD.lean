/- Merged texts: NameSpec, PgSpec, Long, ZeroSpec, NumTSpec, WordSpec, RecSpec, EntSpec, InoMath, InoSpecA, InoSpecB, InoSpecC, Grown, InoSpecD, InoSpec, NonceMath, InoWords, EntMath, InoBack, InoFore, InoSizes, NumSpec. -/
import Derived.Test.YtkfkjcadmdcbnaaGreatDoorPZC
import Derived.WalkKit
import Derived.WalkSpells
import Derived.Lib.Hide
import Derived.Deep.DeepCutAuto
import Derived.Deep.RegionHeld3
import Derived.Deep.QuietTactic
import Derived.BigQuiet
namespace Go.Proofs.YtkfkjcadmdcbnaaGreatDoor
open Go.RowKit

theorem name_all {s : ByteArray} (hl : 1 ≤ s.size ∧ s.size ≤ 7) (h : ∀ j (hj : j < s.size), NameC s[j]) : NameR s := by
  refine ⟨hl, fun b hb => ?_⟩
  obtain ⟨j, hj, rfl⟩ := List.getElem_of_mem hb
  exact h j (by simpa using hj)
theorem name_at {s : ByteArray} (h : NameR s) (j : Nat) (hj : j < s.size) : NameC s[j] := by
  refine h.2 _ ?_
  have hj' : j < s.data.toList.length := by simpa using hj
  exact List.getElem_mem hj'

set_option maxRecDepth 100000 in
set_option maxHeartbeats 1000000 in
theorem specName_any (s : ByteArray) (w : World) (hs : s.size ≤ 2000000) :
    Calls Tryz.prog 224 #[.string s] w fun e w' => e = .returned (.bool (nameB s)) ∧ w' = w := by
  go_enter Tryz.func224, Tryz.ntmps224
  go_wp2
  go_loop [3] (fun i => ∃ k : Nat, k ≤ s.size ∧ i = .int .i64 k ∧ Hid (∀ j (hj : j < s.size), j < k → NameC s[j])) (fun i => s.size - (intOf i).toNat)
  case atStart => exact ⟨0, Nat.zero_le _, rfl, Lib.hid (fun j hj h => by omega)⟩
  case round =>
    obtain ⟨k, hk, rfl, HA⟩ := hrel
    by_cases hlt : k < s.size
    · obtain ⟨b, hb⟩ : ∃ b, s[k]'hlt = b := ⟨_, rfl⟩
      have hb255 := b.toNat_lt
      have HB := Lib.hid hb
      by_cases h1 : 97 ≤ (b.toNat : Int) ∧ (b.toNat : Int) ≤ 122
      · have HR := Lib.hid h1
        have HA2 : Hid (∀ j (hj : j < s.size), j < k + 1 → NameC s[j]) := Lib.hid (fun j hj h => by
          by_cases e : j = k
          · subst e; rw [HB.out]; exact .inl (by omega)
          · exact HA.out j hj (by omega))
        clear h1
        go_wp2_with ((with_reducible refine (range_yes _ HR.out).mono ?_); rintro e w1 ⟨rfl, rfl⟩)
        go_round
        case rel => exact ⟨k + 1, by omega, by go_num, HA2⟩
        case measure => (simp [intOf]; try omega)
      · by_cases h2 : 48 ≤ (b.toNat : Int) ∧ (b.toNat : Int) ≤ 57
        · have HR := Lib.hid h1
          have HR2 := Lib.hid h2
          have HA2 : Hid (∀ j (hj : j < s.size), j < k + 1 → NameC s[j]) := Lib.hid (fun j hj h => by
            by_cases e : j = k
            · subst e; rw [HB.out]; exact .inr (by omega)
            · exact HA.out j hj (by omega))
          clear h1 h2
          go_wp2_with (first | ((with_reducible refine (range_no _ HR.out).mono ?_); rintro e w1 ⟨rfl, rfl⟩) | ((with_reducible refine (range_yes _ HR2.out).mono ?_); rintro e w1 ⟨rfl, rfl⟩))
          go_round
          case rel => exact ⟨k + 1, by omega, by go_num, HA2⟩
          case measure => (simp [intOf]; try omega)
        · have HR := Lib.hid h1
          have HR2 := Lib.hid h2
          have HN : Hid (nameB s = false) := Lib.hid (nameB_no (fun h => by
            have h3 := name_at h k hlt
            rw [hb] at h3
            rcases h3 with h4 | h4
            · exact h1 (by omega)
            · exact h2 (by omega)))
          clear h1 h2
          go_wp2_with (first | ((with_reducible refine (range_no _ HR.out).mono ?_); rintro e w1 ⟨rfl, rfl⟩) | ((with_reducible refine (range_no _ HR2.out).mono ?_); rintro e w1 ⟨rfl, rfl⟩))
          go_ret
          exact ⟨by rw [HN.out]; rfl, rfl⟩
    · obtain rfl : k = s.size := by omega
      go_wp2_with fail
      refine (range_any _ _ _ _).mono ?_
      rintro e w1 ⟨rfl, rfl⟩
      have HN : Hid (decide ((1 : Int) ≤ (s.size : Int) ∧ (s.size : Int) ≤ 7) = nameB s) := Lib.hid (by
        by_cases hl : 1 ≤ s.size ∧ s.size ≤ 7
        · rw [nameB_yes (name_all hl (fun j hj => HA.out j hj hj))]; exact decide_eq_true (by omega)
        · rw [nameB_no (fun h => hl h.1)]; exact decide_eq_false (by omega))
      rw [HN.out]
      go_wp2
      go_ret
      exact ⟨rfl, rfl⟩

end Go.Proofs.YtkfkjcadmdcbnaaGreatDoor
namespace Go.Proofs.YtkfkjcadmdcbnaaGreatDoor
open Go.RowKit

theorem specPages_any (n : Int) (w : World) (h0 : -9223372036854775808 ≤ n) (h1 : n ≤ 9223372036854775807) : Calls Tryz.prog 107 #[.int .i64 n] w fun e w' => e = .returned (.int .i64 (pagesZ n)) ∧ w' = w := by
  by_cases h : n ≤ 0
  · have HE : Hid (pagesZ n = 0) := Lib.hid (if_pos h)
    go_enter Tryz.func107, Tryz.ntmps107
    go_wp2
    go_ret
    exact ⟨by rw [HE.out]; rfl, rfl⟩
  · have HE : Hid (pagesZ n = (n - 1) / 32 + 1) := Lib.hid (if_neg h)
    have hp : 1 ≤ n := by omega
    have hd : (n - 1) / 32 ≤ 288230376151711743 := by omega
    have hd0 : 0 ≤ (n - 1) / 32 := by omega
    go_enter Tryz.func107, Tryz.ntmps107
    go_wp2
    go_ret
    exact ⟨by rw [HE.out]; rfl, rfl⟩

end Go.Proofs.YtkfkjcadmdcbnaaGreatDoor
namespace Go.Proofs.YtkfkjcadmdcbnaaGreatDoor
open Go.RowKit Go.Proofs.YtkfkjcadmdcbnaaGreatDoor.Hexa Go.Proofs.YtkfkjcadmdcbnaaGreatDoor.Byt Go.Proofs.YtkfkjcadmdcbnaaGreatDoor.BitsM

set_option maxRecDepth 100000 in
set_option maxHeartbeats 1000000 in
theorem long_any (n : Nat) (x : UInt8) (w : World) (hn : n ≤ 8000000) :
    Calls Tryz.prog 96 #[.int .i64 n, .int .u8 x.toNat] w fun e w' => e = .returned (.string (longB n x)) ∧ Below w.heap.size w w' := by
  obtain ⟨i0, hi, hz0, hz1, hz2⟩ := info_parts infoByte
  obtain ⟨xv, hxv⟩ : ∃ xv : Int, (x.toNat : Int) = xv := ⟨_, rfl⟩
  rw [hxv]
  have HXV := Lib.hid hxv
  clear hxv
  go_enter Tryz.func96, Tryz.ntmps96
  go_wp2_with (at_make; refine wpList_make_full _ rfl _ _ 22 rfl w.heap.size 5 i0 (.int .u8 0) 1 Tryz.underlying22 hi hz0 hz1 .i64 .i64 _ _ n rfl rfl rfl rfl (by rw [hz2]; omega) (by unfold maxLen; omega) (Nat.le_refl _) ?_; intro w0 hown0 hgrow0)
  have hg0 : Below w.heap.size w w0 := (Below.refl _ _).grown hgrow0 (Nat.le_refl _) (fun k h => by cases h)
  have HO0 := Lib.hid hown0
  clear hown0 hgrow0
  go_loopw [6] (fun iv wr => ∃ (k : Nat) (xs : List Value), k ≤ n ∧ iv = .int .i64 k ∧ Hid (wr.ownsRow w.heap.size 5 1 (.slice (some ⟨w.heap.size, 0, none⟩) n n) n xs) ∧ Hid (∀ j, j < k → xs[j]? = some (.int .u8 xv)) ∧ Below w.heap.size w wr)
    (fun iv _ => n - (intOf iv).toNat)
  case atStart => exact ⟨0, _, Nat.zero_le _, rfl, HO0, Lib.hid (fun j hj => by omega), hg0⟩
  case round =>
    clear HO0 hg0
    obtain ⟨k, xs, hk, rfl, HW, HX, hbel⟩ := hrel
    have hxl : Hid (xs.length = n) := Lib.hid (own_length HW.out)
    by_cases hlt : k < n
    · have c3 : ∃ v, wr.cell? ⟨w.heap.size, k, none⟩ = some v := ⟨xs[k]'(by have := hxl.out; omega), by rw [HW.out.cellAt k (by omega)]; simp [hxl.out, hlt]⟩
      obtain ⟨v3, c3⟩ := c3
      have z3 := HW.out.frozenAt k
      have O1 := Lib.hid (HW.out.stored k (.int .u8 xv)).1
      have hb1 : Below w.heap.size w (wr.setCell ⟨w.heap.size, k, none⟩ (.int .u8 xv)) := hbel.setCell (Nat.le_refl _) _
      have X1 : Hid (∀ j, j < k + 1 → (xs.set k (.int .u8 xv))[j]? = some (.int .u8 xv)) := Lib.hid (fun j hj => by
        by_cases e : j = k
        · subst e; rw [List.getElem?_set_self (by have := hxl.out; omega)]
        · rw [List.getElem?_set_ne (by omega)]; exact HX.out j (by omega))
      go_wp2
      go_roundw
      case rel => exact ⟨k + 1, _, by omega, by go_num, O1, X1, hb1⟩
      case measure => (simp [intOf]; try omega)
    · obtain rfl : k = n := by omega
      have hfin : xs = bcells (List.replicate k x) := by
        apply List.ext_getElem?
        intro j
        by_cases hj : j < k
        · rw [HX.out j hj, ← HXV.out]; simp [bcells, hj]
        · rw [List.getElem?_eq_none (by have := hxl.out; omega), List.getElem?_eq_none (by rw [bcells_length]; simp; omega)]
      have ho := HW.out
      rw [hfin] at ho
      have hconv := own_string (P := Tryz.prog) 22 9 Tryz.underlying22 Tryz.underlying5 Tryz.underlying9 ho
      clear hfin ho
      go_wp2
      go_ret
      exact ⟨rfl, hbel⟩

end Go.Proofs.YtkfkjcadmdcbnaaGreatDoor
namespace Go.Proofs.YtkfkjcadmdcbnaaGreatDoor
open Go.RowKit Go.Proofs.YtkfkjcadmdcbnaaGreatDoor.Hexa Go.Proofs.YtkfkjcadmdcbnaaGreatDoor.Byt Go.Proofs.YtkfkjcadmdcbnaaGreatDoor.BitsM Go.Proofs.YtkfkjcadmdcbnaaGreatDoor.Parts

set_option maxRecDepth 100000 in
set_option maxHeartbeats 400000 in
theorem specZero_any (n : Int) (w : World) :
    Calls Tryz.prog 124 #[.int .i64 n] w fun e w' => e = .returned (.string (zeroB n)) ∧ Below w.heap.size w w' := by
  by_cases h : 0 ≤ n ∧ n ≤ 20000
  · have HE : Hid (zeroB n = longB n.toNat 0) := Lib.hid (if_pos h)
    have HR := Lib.hid h
    obtain ⟨k, rfl⟩ : ∃ k : Nat, n = k := ⟨n.toNat, by omega⟩
    have KL := Lib.hid fun w => long_any k 0 w (by omega)
    clear h
    go_enter Tryz.func124, Tryz.ntmps124
    go_wp2_with (first
      | (go_at_call 105; refine (range_yes _ HR.out).mono ?_; rintro e w1 ⟨rfl, rfl⟩)
      | (go_at_call 96; refine (KL.out _).mono ?_; rintro e w2 ⟨rfl, hb2⟩))
    go_ret
    exact ⟨by rw [HE.out]; rfl, hb2⟩
  · have HE : Hid (zeroB n = ⟨#[]⟩) := Lib.hid (if_neg h)
    have HR := Lib.hid h
    clear h
    go_enter Tryz.func124, Tryz.ntmps124
    go_wp2_with (first
      | (go_at_call 105; refine (range_no _ HR.out).mono ?_; rintro e w1 ⟨rfl, rfl⟩))
    go_ret
    exact ⟨by rw [HE.out]; rfl, Below.refl _ _⟩

end Go.Proofs.YtkfkjcadmdcbnaaGreatDoor
namespace Go.Proofs.YtkfkjcadmdcbnaaGreatDoor
open Go.RowKit Go.Proofs.YtkfkjcadmdcbnaaGreatDoor.Hexa Go.Proofs.YtkfkjcadmdcbnaaGreatDoor.Byt Go.Proofs.YtkfkjcadmdcbnaaGreatDoor.BitsM Go.Proofs.YtkfkjcadmdcbnaaGreatDoor.Parts

set_option maxRecDepth 100000 in
set_option maxHeartbeats 1000000 in
theorem specNum_yes (m k : Nat) (w : World) (hk : 1 ≤ k) (hk' : k ≤ 7) (hm : m < 256 ^ k) :
    Calls Tryz.prog 123 #[.int .i64 m, .int .i64 k] w fun e w' => e = .returned (.string (numB m k)) ∧ Below w.heap.size w w' := by
  have hmb : m < 72057594037927936 := Nat.lt_of_lt_of_le hm (Nat.le_trans (Nat.pow_le_pow_right (by omega) hk') (by decide))
  have hq := shift_zero hm
  have h0 : ¬ ((m : Int) < 0) := by omega
  have HR : Hid ((1 : Int) ≤ (k : Int) ∧ (k : Int) ≤ 7) := Lib.hid (by omega)
  clear hm
  go_enter Tryz.func123, Tryz.ntmps123
  go_wp2_with (first
    | (go_at_call 105; refine (range_yes _ HR.out).mono ?_; rintro e w1 ⟨rfl, rfl⟩))
  try rw [hq]
  clear hq
  go_loopw [5, 6] (fun v iv wr => ∃ j : Nat, j ≤ k ∧ iv = .int .i64 ((k : Int) - 1 - j) ∧ Bytes wr w1.heap.size 5 v (numL m k j) ∧ Below w1.heap.size w1 wr)
    (fun _ iv _ => (intOf iv + 1).toNat)
  case atStart => exact ⟨0, Nat.zero_le _, by go_num, bytes_of_own (l := []) (World.ownsRow_lit w1 #[] 0 (Nat.le_refl _) (by decide) rfl), (Below.refl _ _).alloc (Nat.le_refl _) _⟩
  case round =>
    obtain ⟨j, hj, rfl, hb, hg⟩ := hrel
    obtain ⟨a, c, rfl⟩ := bytes_len hb
    have hl := numL_length m k j
    by_cases hlt : j < k
    · have hw : IntKind.u64.wrap ((k : Int) - 1 - j) = (k : Int) - 1 - j := IntWalk.u64_in _ (by omega)
      have hsh : ((k : Int) - 1 - j).toNat = k - 1 - j := by omega
      have hge : 0 ≤ (k : Int) - 1 - j := by omega
      go_wp2_with (first
        | (at_builtin; refine wpList_append_out rfl (.tmp 29) (.tmp 36) 22 22 rfl _ _ rfl rfl (outB _ hb hg.size _ (UInt8.ofNat (m / 256 ^ (k - 1 - j))) _ (num_byte m (k - 1 - j)) (by omega)) ?_; intro v1 w2 hb1 hg1))
      rw [numL_next] at hb1
      go_roundw
      case rel => exact ⟨j + 1, by omega, by go_num, hb1, (hg.alloc hg.size _).trans hg1⟩
      case measure => simp [intOf]; omega
    · obtain rfl : j = k := by omega
      have hconv := bytes_string (P := Tryz.prog) 22 9 Tryz.underlying22 Tryz.underlying5 Tryz.underlying9 hb
      rw [hl] at hconv
      go_wp2
      go_ret
      exact ⟨rfl, hg⟩

set_option maxRecDepth 100000 in
set_option maxHeartbeats 1000000 in
theorem specNum_no (n width : Int) (w : World) (h : ¬ NumFits n width) (hn : n ≤ 9223372036854775807) :
    Calls Tryz.prog 123 #[.int .i64 n, .int .i64 width] w fun e w' => e = .returned (.string ⟨#[]⟩) ∧ w' = w := by
  by_cases h0 : n < 0
  · go_enter Tryz.func123, Tryz.ntmps123
    go_wp2
    go_ret
    exact ⟨rfl, rfl⟩
  · by_cases hr : 1 ≤ width ∧ width ≤ 7
    · have hbig : ¬ n < 256 ^ width.toNat := fun hlt => h ⟨by omega, hr, hlt⟩
      obtain ⟨k, rfl⟩ : ∃ k : Nat, width = k := ⟨width.toNat, by omega⟩
      obtain ⟨m, rfl⟩ : ∃ m : Nat, n = m := ⟨n.toNat, by omega⟩
      have hm : 256 ^ k ≤ m := by
        have e : ((k : Int).toNat) = k := by omega
        rw [e] at hbig
        have e2 : (256 : Int) ^ k = ((256 ^ k : Nat) : Int) := by simp
        rw [e2] at hbig
        omega
      have hq := shift_pos hm
      have HR := Lib.hid hr
      have hk7 : k ≤ 7 := by omega
      clear h hbig hm hr
      go_enter Tryz.func123, Tryz.ntmps123
      go_wp2_with (first
        | (go_at_call 105; refine (range_yes _ HR.out).mono ?_; rintro e w1 ⟨rfl, rfl⟩))
      go_ret
      exact ⟨rfl, rfl⟩
    · have HR := Lib.hid hr
      clear h hr
      go_enter Tryz.func123, Tryz.ntmps123
      go_wp2_with (first
        | (go_at_call 105; refine (range_no _ HR.out).mono ?_; rintro e w1 ⟨rfl, rfl⟩))
      go_ret
      exact ⟨rfl, rfl⟩

theorem specNum_any (n width : Int) (w : World) (hn : n ≤ 9223372036854775807) :
    Calls Tryz.prog 123 #[.int .i64 n, .int .i64 width] w fun e w' => e = .returned (.string (numTextB n width)) ∧ Below w.heap.size w w' := by
  by_cases h : NumFits n width
  · have hE : numTextB n width = numB n.toNat width.toNat := by unfold numTextB; exact if_pos h
    obtain ⟨h0, ⟨h1, h7⟩, hf⟩ := h
    obtain ⟨m, rfl⟩ : ∃ m : Nat, n = m := ⟨n.toNat, by omega⟩
    obtain ⟨k, rfl⟩ : ∃ k : Nat, width = k := ⟨width.toNat, by omega⟩
    rw [hE]
    simp only [Int.toNat_natCast] at hf ⊢
    have e2 : (256 : Int) ^ k = ((256 ^ k : Nat) : Int) := by simp
    rw [e2] at hf
    exact specNum_yes m k w (by omega) (by omega) (by omega)
  · have hE : numTextB n width = ⟨#[]⟩ := by unfold numTextB; exact if_neg h
    rw [hE]
    exact (specNum_no n width w h hn).mono fun e w' ⟨he, hw⟩ => ⟨he, by rw [hw]; exact Below.refl _ _⟩
end Go.Proofs.YtkfkjcadmdcbnaaGreatDoor
namespace Go.Proofs.YtkfkjcadmdcbnaaGreatDoor
open Go.RowKit Go.Proofs.YtkfkjcadmdcbnaaGreatDoor.Hexa Go.Proofs.YtkfkjcadmdcbnaaGreatDoor.Byt Go.Proofs.YtkfkjcadmdcbnaaGreatDoor.BitsM Go.Proofs.YtkfkjcadmdcbnaaGreatDoor.Parts

set_option maxRecDepth 100000 in
set_option maxHeartbeats 400000 in
theorem specWord_any (s : ByteArray) (w : World) :
    Calls Tryz.prog 122 #[.string s] w fun e w' => e = .returned (.string (wordB s)) ∧ Below w.heap.size w w' := by
  by_cases h : s.size ≤ 8
  · have HE : Hid (wordB s = s ++ longB (8 - s.size) 0) := Lib.hid (if_pos h)
    have hsz : s.size + (longB (8 - s.size) 0).size ≤ 8 := by rw [longB_size]; omega
    have hz := zeroB_of s h
    go_enter Tryz.func122, Tryz.ntmps122
    go_wp2_with (first
      | (go_at_call 124; refine (specZero_any _ _).mono ?_; rintro e w2 ⟨rfl, hb2⟩; rw [hz]))
    go_ret
    exact ⟨by rw [HE.out]; rfl, hb2⟩
  · have HE : Hid (wordB s = ⟨#[]⟩) := Lib.hid (if_neg h)
    have hlt : 8 < s.size := by omega
    go_enter Tryz.func122, Tryz.ntmps122
    go_wp2
    go_ret
    exact ⟨by rw [HE.out]; rfl, Below.refl _ _⟩

end Go.Proofs.YtkfkjcadmdcbnaaGreatDoor
namespace Go.Proofs.YtkfkjcadmdcbnaaGreatDoor
open Go.RowKit Go.Proofs.YtkfkjcadmdcbnaaGreatDoor.Parts Go.Proofs.YtkfkjcadmdcbnaaGreatDoor.Hexa Go.Proofs.YtkfkjcadmdcbnaaGreatDoor.Byt

set_option maxRecDepth 100000 in
set_option maxHeartbeats 1000000 in
theorem specRecWord_no (p q : Int) (m : ByteArray) (w : World) (_hm : m.size ≤ 2000000) (h : ¬ RecOk ⟨p, q, m⟩) :
    Calls Tryz.prog 168 #[.agg #[.int .i64 p, .int .i64 q, .string m]] w (SaysT ⟨#[]⟩ w) := by
  by_cases h0 : 1 ≤ p ∧ p ≤ 12
  · have H0 := Lib.hid h0
    by_cases h1 : 1 ≤ q ∧ q ≤ 16777215
    · have H1 := Lib.hid h1
      have h2 : ¬ m.size = 4 := fun e => h ⟨h0, h1, e⟩
      have e8 : ((m.size : Int) == 4) = false := by simp; omega
      have e9 : ((m.size : Int) != 4) = true := by simp; omega
      clear h0 h1 h
      go_enter Tryz.func168, Tryz.ntmps168
      go_wp2_with (first | ((with_reducible refine (range_yes _ H0.out).mono ?_); rintro e w1 ⟨rfl, rfl⟩) | ((with_reducible refine (range_yes _ H1.out).mono ?_); rintro e w1 ⟨rfl, rfl⟩))
      go_ret
      exact ⟨rfl, below_bk w _⟩
    · have H1 := Lib.hid h1
      clear h0 h1 h
      go_enter Tryz.func168, Tryz.ntmps168
      go_wp2_with (first | ((with_reducible refine (range_yes _ H0.out).mono ?_); rintro e w1 ⟨rfl, rfl⟩) | ((with_reducible refine (range_no _ H1.out).mono ?_); rintro e w1 ⟨rfl, rfl⟩))
      go_ret
      exact ⟨rfl, below_bk w _⟩
  · have H0 := Lib.hid h0
    clear h0 h
    go_enter Tryz.func168, Tryz.ntmps168
    go_wp2_with ((with_reducible refine (range_no _ H0.out).mono ?_); rintro e w1 ⟨rfl, rfl⟩)
    go_ret
    exact ⟨rfl, below_bk w _⟩

set_option maxRecDepth 100000 in
set_option maxHeartbeats 1000000 in
theorem specRecWord_yes (p q : Int) (m : ByteArray) (w : World) (h : RecOk ⟨p, q, m⟩) :
    Calls Tryz.prog 168 #[.agg #[.int .i64 p, .int .i64 q, .string m]] w (SaysT (recWordB ⟨p, q, m⟩) w) := by
  have HE := Lib.hid (recWordB_yes h)
  obtain ⟨h0, h1, h2⟩ := h
  have H0 : Hid (1 ≤ p ∧ p ≤ 12) := Lib.hid h0
  have H1 : Hid (1 ≤ q ∧ q ≤ 16777215) := Lib.hid h1
  have hm4 : m.size = 4 := h2
  have e8 : ((m.size : Int) == 4) = true := by simp; omega
  have e9 : ((m.size : Int) != 4) = false := by simp; omega
  have T0 := Lib.hid (Bk.alloc w #[.int .i64 p, .int .i64 q, .string m] 139)
  have B0 := Lib.hid (below_bk w (.cells #[.int .i64 p, .int .i64 q, .string m] 139))
  have hA : (numTextB p 1).size = 1 := numText_size (k := 1) (by omega) (by have := H0.out.1; omega) (by have := H0.out.2; omega)
  have hB : (numTextB q 3).size = 3 := numText_size (k := 3) (by omega) (by have := H1.out.1; omega) (by have := H1.out.2; omega)
  obtain ⟨A, hAe⟩ : ∃ A, numTextB p 1 = A := ⟨_, rfl⟩
  obtain ⟨D, hDe⟩ : ∃ D, numTextB q 3 = D := ⟨_, rfl⟩
  have HA := Lib.hid hAe
  have HD := Lib.hid hDe
  rw [hAe] at hA
  rw [hDe] at hB
  have hA1 : A.size ≤ 1 := by omega
  have hB1 : D.size ≤ 3 := by omega
  have hAD : ¬ (9223372036854775807 < A.size + D.size) := by omega
  have hADm : ¬ (9223372036854775807 < A.size + D.size + 4) := by omega
  clear h0 h1 h2 hAe hDe hA hB
  go_enter Tryz.func168, Tryz.ntmps168
  go_wp2_with (first | ((with_reducible refine (range_yes _ H0.out).mono ?_); rintro e w1 ⟨rfl, rfl⟩) | ((with_reducible refine (range_yes _ H1.out).mono ?_); rintro e w1 ⟨rfl, rfl⟩))
  have T0d := Lib.hid T0.out.drew
  have B0d : Hid (Below w.heap.size w (w.alloc (.cells #[.int .i64 p, .int .i64 q, .string m] 139)).drew) := Lib.hid B0.out.drew
  go_region_held3 (fun w' => w'.cell? ⟨w.heap.size, 0, none⟩ = some (.int .i64 p) ∧ w'.cell? ⟨w.heap.size, 1, none⟩ = some (.int .i64 q) ∧ w'.cell? ⟨w.heap.size, 2, none⟩ = some (.string m))
    (first
      | exact ⟨T0d.out.cell rfl, T0d.out.cell rfl, T0d.out.cell rfl⟩
      | exact ⟨T1.out.cell rfl, T1.out.cell rfl, T1.out.cell rfl⟩
      | exact ⟨T2.out.cell rfl, T2.out.cell rfl, T2.out.cell rfl⟩
      | go_keep)
    (first
      | (go_at_call 123; (with_reducible refine (specNum_any p 1 _ (by have := H0.out.2; omega)).mono ?_); rw [HA.out]; rintro e w1 ⟨rfl, hb⟩; have T1 := Lib.hid (T0d.out.later hb); have B1 : Hid (Below w.heap.size w w1) := Lib.hid (B0d.out.trans (hb.mono B0d.out.size)); clear hb)
      | (go_at_call 123; (with_reducible refine (specNum_any q 3 _ (by have := H1.out.2; omega)).mono ?_); rw [HD.out]; rintro e w2 ⟨rfl, hb⟩; have T2 := Lib.hid (T1.out.later hb); have B2 : Hid (Below w.heap.size w w2) := Lib.hid (B1.out.trans (hb.mono B1.out.size)); clear hb))
  go_wp2
  go_ret
  exact ⟨by rw [HE.out, HA.out, HD.out]; rfl, B2.out⟩
theorem specRecWord_any (p q : Int) (m : ByteArray) (w : World) (hm : m.size ≤ 2000000) :
    Calls Tryz.prog 168 #[.agg #[.int .i64 p, .int .i64 q, .string m]] w (SaysT (recWordB ⟨p, q, m⟩) w) := by
  by_cases h : RecOk ⟨p, q, m⟩
  · exact specRecWord_yes p q m w h
  · rw [recWordB_no h]; exact specRecWord_no p q m w hm h
end Go.Proofs.YtkfkjcadmdcbnaaGreatDoor
namespace Go.Proofs.YtkfkjcadmdcbnaaGreatDoor
open Go.RowKit Go.Proofs.YtkfkjcadmdcbnaaGreatDoor.Parts Go.Proofs.YtkfkjcadmdcbnaaGreatDoor.Hexa Go.Proofs.YtkfkjcadmdcbnaaGreatDoor.Byt

set_option maxRecDepth 100000 in
set_option maxHeartbeats 1000000 in
theorem specEntryWord_no (p : Int) (m : ByteArray) (w : World) (hm : m.size ≤ 2000000) (h : ¬ EntryOk ⟨p, m⟩) :
    Calls Tryz.prog 169 #[.agg #[.int .i64 p, .string m]] w (SaysT ⟨#[]⟩ w) := by
  by_cases h0 : 1 ≤ p ∧ p ≤ 5
  · have H0 := Lib.hid h0
    have h2 : ¬ NameR m := fun e => h ⟨h0, e⟩
    have HN := Lib.hid (nameB_no h2)
    clear h0 h h2
    go_enter Tryz.func169, Tryz.ntmps169
    go_wp2_with (first | ((with_reducible refine (range_yes _ H0.out).mono ?_); rintro e w1 ⟨rfl, rfl⟩) | (go_at_call 224; refine (specName_any m _ hm).mono ?_; rw [HN.out]; rintro e w1 ⟨rfl, rfl⟩))
    go_ret
    exact ⟨rfl, below_bk w _⟩
  · have H0 := Lib.hid h0
    clear h0 h
    go_enter Tryz.func169, Tryz.ntmps169
    go_wp2_with ((with_reducible refine (range_no _ H0.out).mono ?_); rintro e w1 ⟨rfl, rfl⟩)
    go_ret
    exact ⟨rfl, below_bk w _⟩

set_option maxRecDepth 100000 in
set_option maxHeartbeats 1000000 in
theorem specEntryWord_yes (p : Int) (m : ByteArray) (w : World) (h : EntryOk ⟨p, m⟩) :
    Calls Tryz.prog 169 #[.agg #[.int .i64 p, .string m]] w (SaysT (entryWordB ⟨p, m⟩) w) := by
  have HE := Lib.hid (entryWordB_yes h)
  obtain ⟨h0, h1⟩ := h
  have H0 : Hid (1 ≤ p ∧ p ≤ 5) := Lib.hid h0
  have HN := Lib.hid (nameB_yes h1)
  have hm : m.size ≤ 7 := h1.1.2
  have T0 := Lib.hid (Bk.alloc w #[.int .i64 p, .string m] 143)
  have B0 := Lib.hid (below_bk w (.cells #[.int .i64 p, .string m] 143))
  have hA : (numTextB p 1).size = 1 := numText_size (k := 1) (by omega) (by have := H0.out.1; omega) (by have := H0.out.2; omega)
  obtain ⟨A, hAe⟩ : ∃ A, numTextB p 1 = A := ⟨_, rfl⟩
  have HA := Lib.hid hAe
  rw [hAe] at hA
  have hA1 : ¬ (9223372036854775807 < A.size + m.size) := by omega
  have T0d := Lib.hid T0.out.drew
  have B0d : Hid (Below w.heap.size w (w.alloc (.cells #[.int .i64 p, .string m] 143)).drew) := Lib.hid B0.out.drew
  clear h0 h1 hAe hA
  go_enter Tryz.func169, Tryz.ntmps169
  go_wp2_with (first | ((with_reducible refine (range_yes _ H0.out).mono ?_); rintro e w1 ⟨rfl, rfl⟩) | (go_at_call 224; refine (specName_any m _ (by omega)).mono ?_; rw [HN.out]; rintro e w1 ⟨rfl, rfl⟩))
  go_region_held3 (fun w' => w'.cell? ⟨w.heap.size, 0, none⟩ = some (.int .i64 p) ∧ w'.cell? ⟨w.heap.size, 1, none⟩ = some (.string m))
    (first
      | exact ⟨T0d.out.cell rfl, T0d.out.cell rfl⟩
      | exact ⟨T1.out.cell rfl, T1.out.cell rfl⟩
      | exact ⟨T2.out.cell rfl, T2.out.cell rfl⟩
      | go_keep)
    (first
      | (go_at_call 123; (with_reducible refine (specNum_any p 1 _ (by have := H0.out.2; omega)).mono ?_); rw [HA.out]; rintro e w1 ⟨rfl, hb⟩; have T1 := Lib.hid (T0d.out.later hb); have B1 : Hid (Below w.heap.size w w1) := Lib.hid (B0d.out.trans (hb.mono B0d.out.size)); clear hb)
      | (go_at_call 122; (with_reducible refine (specWord_any (A ++ m) _).mono ?_); rintro e w2 ⟨rfl, hb⟩; have T2 := Lib.hid (T1.out.later hb); have B2 : Hid (Below w.heap.size w w2) := Lib.hid (B1.out.trans (hb.mono B1.out.size)); clear hb))
  go_wp2
  go_ret
  exact ⟨by rw [HE.out, HA.out]; rfl, B2.out⟩
theorem specEntryWord_any (p : Int) (m : ByteArray) (w : World) (hm : m.size ≤ 2000000) :
    Calls Tryz.prog 169 #[.agg #[.int .i64 p, .string m]] w (SaysT (entryWordB ⟨p, m⟩) w) := by
  by_cases h : EntryOk ⟨p, m⟩
  · exact specEntryWord_yes p m w h
  · rw [entryWordB_no h]; exact specEntryWord_no p m w hm h
end Go.Proofs.YtkfkjcadmdcbnaaGreatDoor
namespace Go.Proofs.YtkfkjcadmdcbnaaGreatDoor
open Go.RowKit Go.Proofs.YtkfkjcadmdcbnaaGreatDoor.Parts Go.Proofs.YtkfkjcadmdcbnaaGreatDoor.Hexa Go.Proofs.YtkfkjcadmdcbnaaGreatDoor.Byt

structure InoR where
  kd : Int
  sz : Int
  gn : Int
  key : ByteArray
  R : List RecR
  E : List EntryR
def textLt (a b : ByteArray) : Bool := Op.bytesLess a.toList b.toList
def RecsOk (R : List RecR) (m : Nat) : Prop := ∀ j, j < m → RecOk (R.getD j default) ∧ ∀ k, k < j → (R.getD k default).f0 ≠ (R.getD j default).f0
def EntsOk (E : List EntryR) (m : Nat) : Prop := ∀ j, j < m → EntryOk (E.getD j default) ∧ (0 < j → textLt (E.getD (j - 1) default).f1 (E.getD j default).f1 = true)
def FreeOk (n : InoR) : Prop := n.sz = 0 ∧ n.key.size = 0 ∧ n.R.length = 0 ∧ n.E.length = 0
def FileOk (n : InoR) : Prop := (0 ≤ n.sz ∧ n.sz ≤ 128) ∧ n.key.size = 8 ∧ (n.R.length : Int) = pagesZ n.sz ∧ n.E.length = 0 ∧ RecsOk n.R n.R.length
def DirOk (n : InoR) : Prop := n.sz = 0 ∧ n.key.size = 0 ∧ n.R.length = 0 ∧ n.E.length ≤ 6 ∧ EntsOk n.E n.E.length
def InoOk (n : InoR) : Prop := (0 ≤ n.gn ∧ n.gn ≤ 65535) ∧ ((n.kd = 0 ∧ FreeOk n) ∨ (n.kd = 1 ∧ FileOk n) ∨ (n.kd = 2 ∧ DirOk n))
noncomputable def inoB (n : InoR) : Bool := @decide (InoOk n) (Classical.propDecidable _)
theorem inoB_yes {n : InoR} (h : InoOk n) : inoB n = true := by unfold inoB; exact @decide_eq_true _ (Classical.propDecidable _) h
theorem inoB_no {n : InoR} (h : ¬ InoOk n) : inoB n = false := by unfold inoB; exact @decide_eq_false _ (Classical.propDecidable _) h
theorem recsOk_step {R : List RecR} {m : Nat} (h : RecsOk R m) (h1 : RecOk (R.getD m default)) (h2 : ∀ k, k < m → (R.getD k default).f0 ≠ (R.getD m default).f0) : RecsOk R (m + 1) := fun j hj => by
  by_cases e : j = m
  · subst e; exact ⟨h1, h2⟩
  · exact h j (by omega)
theorem entsOk_step {E : List EntryR} {m : Nat} (h : EntsOk E m) (h1 : EntryOk (E.getD m default)) (h2 : 0 < m → textLt (E.getD (m - 1) default).f1 (E.getD m default).f1 = true) : EntsOk E (m + 1) := fun j hj => by
  by_cases e : j = m
  · subst e; exact ⟨h1, h2⟩
  · exact h j (by omega)

/-- The words of an inode. -/
def headB (n : InoR) : ByteArray := wordB (numTextB n.kd 1 ++ numTextB n.sz 2 ++ numTextB n.gn 2)
def zero8 : ByteArray := zeroB 8
def wordsI (n : InoR) : List ByteArray := [headB n, wordB n.key] ++ n.R.map recWordB ++ n.E.map entryWordB
noncomputable def inoWordsB (n : InoR) : List ByteArray := if inoB n = true then wordsI n ++ List.replicate (8 - (wordsI n).length) zero8 else []
theorem wordsI_le {n : InoR} (h : InoOk n) : (wordsI n).length ≤ 8 := by
  unfold wordsI
  simp only [List.length_append, List.length_map, List.length_cons, List.length_nil]
  obtain ⟨_, ⟨_, h0⟩ | ⟨_, h0⟩ | ⟨_, h0⟩⟩ := h
  · obtain ⟨_, _, h1, h2⟩ := h0; omega
  · obtain ⟨h1, _, h2, h3, _⟩ := h0
    have : pagesZ n.sz ≤ 4 := by unfold pagesZ; split <;> omega
    omega
  · obtain ⟨_, _, h1, h2, _⟩ := h0; omega
theorem entryWord_size {r : EntryR} (h : EntryOk r) : (entryWordB r).size = 8 := by
  obtain ⟨⟨h0, h1⟩, h2⟩ := h
  rw [entryWordB_yes ⟨⟨h0, h1⟩, h2⟩]
  have e1 : (numTextB r.f0 1).size = 1 := numText_size (k := 1) (by omega) (by omega) (by omega)
  have e2 : (numTextB r.f0 1 ++ r.f1).size ≤ 8 := by rw [ByteArray.size_append, e1]; have := h2.1.2; omega
  unfold wordB
  rw [if_pos e2, ByteArray.size_append, longB_size]
  omega
end Go.Proofs.YtkfkjcadmdcbnaaGreatDoor
namespace Go.Proofs.YtkfkjcadmdcbnaaGreatDoor
open Go.RowKit Go.Proofs.YtkfkjcadmdcbnaaGreatDoor.Parts Go.Proofs.YtkfkjcadmdcbnaaGreatDoor.Hexa Go.Proofs.YtkfkjcadmdcbnaaGreatDoor.Byt

abbrev inoCs (kd sz gn : Int) (key : ByteArray) (aR : Option Addr) (nR cR : Nat) (aE : Option Addr) (nE cE : Nat) : Array Value :=
  #[.int .i64 kd, .int .i64 sz, .int .i64 gn, .string key, .slice aR nR cR, .slice aE nE cE]
abbrev inoObj (kd sz gn : Int) (key : ByteArray) (aR : Option Addr) (nR cR : Nat) (aE : Option Addr) (nE cE : Nat) : Obj :=
  .cells #[.int .i64 kd, .int .i64 sz, .int .i64 gn, .string key, .slice aR nR cR, .slice aE nE cE] 102

theorem text_nothing {x : ByteArray} (h : x.size = 0) : x = ⟨#[]⟩ := by
  cases x with
  | mk d => rw [show d = #[] from Array.eq_empty_of_size_eq_zero h]
theorem bool_no {b : Bool} {p : Prop} (hb : b = true ↔ p) (h : ¬ p) : b = false := by
  cases b
  · rfl
  · exact absurd (hb.1 rfl) h

section
variable (kd sz gn : Int) (key : ByteArray) (aR : Option Addr) (nR cR : Nat) (aE : Option Addr) (nE cE : Nat) (w : World)

set_option maxRecDepth 100000 in
set_option maxHeartbeats 1000000 in
theorem specIno_gen (h : ¬ (0 ≤ gn ∧ gn ≤ 65535)) :
    Calls Tryz.prog 170 #[.agg #[.int .i64 kd, .int .i64 sz, .int .i64 gn, .string key, .slice aR nR cR, .slice aE nE cE]] w (SaysB false w) := by
  have H0 := Lib.hid h
  have B0 := Lib.hid (below_bk w (inoObj kd sz gn key aR nR cR aE nE cE))
  clear h
  go_enter Tryz.func170, Tryz.ntmps170
  go_wp2_with ((with_reducible refine (range_no _ H0.out).mono ?_); rintro e w1 ⟨rfl, rfl⟩)
  go_ret
  exact ⟨rfl, B0.out⟩

set_option maxRecDepth 100000 in
set_option maxHeartbeats 1000000 in
theorem specIno_other (h : 0 ≤ gn ∧ gn ≤ 65535) (h0 : ¬ kd = 0) (h1 : ¬ kd = 1) (h2 : ¬ kd = 2) :
    Calls Tryz.prog 170 #[.agg #[.int .i64 kd, .int .i64 sz, .int .i64 gn, .string key, .slice aR nR cR, .slice aE nE cE]] w (SaysB false w) := by
  have H0 := Lib.hid h
  have B0 := Lib.hid (below_bk w (inoObj kd sz gn key aR nR cR aE nE cE))
  clear h
  go_enter Tryz.func170, Tryz.ntmps170
  go_wp2_with ((with_reducible refine (range_yes _ H0.out).mono ?_); rintro e w1 ⟨rfl, rfl⟩)
  go_ret
  exact ⟨rfl, B0.out⟩

set_option maxRecDepth 100000 in
set_option maxHeartbeats 1000000 in
theorem specIno_free (h : 0 ≤ gn ∧ gn ≤ 65535) (b : Bool) (hb : b = true ↔ (sz = 0 ∧ key.size = 0 ∧ nR = 0 ∧ nE = 0)) :
    Calls Tryz.prog 170 #[.agg #[.int .i64 0, .int .i64 sz, .int .i64 gn, .string key, .slice aR nR cR, .slice aE nE cE]] w (SaysB b w) := by
  have H0 := Lib.hid h
  have B0 := Lib.hid (below_bk w (inoObj 0 sz gn key aR nR cR aE nE cE))
  clear h
  by_cases h1 : sz = 0
  · subst h1
    by_cases h2 : key.size = 0
    · obtain rfl : key = ⟨#[]⟩ := text_nothing h2
      by_cases h3 : nR = 0
      · subst h3
        by_cases h4 : nE = 0
        · subst h4
          obtain rfl : b = true := hb.2 ⟨rfl, rfl, rfl, rfl⟩
          clear hb
          go_enter Tryz.func170, Tryz.ntmps170
          go_wp2_with ((with_reducible refine (range_yes _ H0.out).mono ?_); rintro e w1 ⟨rfl, rfl⟩)
          go_ret
          exact ⟨rfl, B0.out⟩
        · obtain rfl : b = false := bool_no hb (fun x => h4 x.2.2.2)
          have e4 : ((nE : Int) == 0) = false := by simp; omega
          clear hb
          go_enter Tryz.func170, Tryz.ntmps170
          go_wp2_with ((with_reducible refine (range_yes _ H0.out).mono ?_); rintro e w1 ⟨rfl, rfl⟩)
          go_ret
          exact ⟨rfl, B0.out⟩
      · obtain rfl : b = false := bool_no hb (fun x => h3 x.2.2.1)
        have e4 : ((nR : Int) == 0) = false := by simp; omega
        clear hb
        go_enter Tryz.func170, Tryz.ntmps170
        go_wp2_with ((with_reducible refine (range_yes _ H0.out).mono ?_); rintro e w1 ⟨rfl, rfl⟩)
        go_ret
        exact ⟨rfl, B0.out⟩
    · obtain rfl : b = false := bool_no hb (fun x => h2 x.2.1)
      have e4 : (key.toList == []) = false := text_full key (by omega)
      clear hb
      go_enter Tryz.func170, Tryz.ntmps170
      go_wp2_with ((with_reducible refine (range_yes _ H0.out).mono ?_); rintro e w1 ⟨rfl, rfl⟩)
      go_ret
      exact ⟨rfl, B0.out⟩
  · obtain rfl : b = false := bool_no hb (fun x => h1 x.1)
    clear hb
    go_enter Tryz.func170, Tryz.ntmps170
    go_wp2_with ((with_reducible refine (range_yes _ H0.out).mono ?_); rintro e w1 ⟨rfl, rfl⟩)
    go_ret
    exact ⟨rfl, B0.out⟩
end
end Go.Proofs.YtkfkjcadmdcbnaaGreatDoor
namespace Go.Proofs.YtkfkjcadmdcbnaaGreatDoor
open Go.RowKit Go.Proofs.YtkfkjcadmdcbnaaGreatDoor.Parts Go.Proofs.YtkfkjcadmdcbnaaGreatDoor.Hexa Go.Proofs.YtkfkjcadmdcbnaaGreatDoor.Byt

section
variable (sz gn : Int) (key : ByteArray) (aR : Option Addr) (nR cR : Nat) (aE : Option Addr) (nE cE : Nat) (w : World)

set_option maxRecDepth 100000 in
set_option maxHeartbeats 1000000 in
theorem specIno_fileNo (h : 0 ≤ gn ∧ gn ≤ 65535) (hz : -9223372036854775808 ≤ sz ∧ sz ≤ 9223372036854775807) (hno : ¬ ((0 ≤ sz ∧ sz ≤ 128) ∧ key.size = 8 ∧ (nR : Int) = pagesZ sz ∧ nE = 0)) :
    Calls Tryz.prog 170 #[.agg #[.int .i64 1, .int .i64 sz, .int .i64 gn, .string key, .slice aR nR cR, .slice aE nE cE]] w (SaysB false w) := by
  have H0 := Lib.hid h
  have HZ := Lib.hid hz
  have B0 := Lib.hid (below_bk w (inoObj 1 sz gn key aR nR cR aE nE cE))
  clear h hz
  by_cases h1 : 0 ≤ sz ∧ sz ≤ 128
  · have H1 := Lib.hid h1
    by_cases h2 : key.size = 8
    · have e2 : ((key.size : Int) != 8) = false := by simp; omega
      by_cases h3 : (nR : Int) = pagesZ sz
      · have h4 : ¬ nE = 0 := fun e => hno ⟨h1, h2, h3, e⟩
        have e4 : (0 : Int) < (nE : Int) := by omega
        have HQ : Hid (∀ W : World, Calls Tryz.prog 107 #[.int .i64 sz] W fun e w' => e = .returned (.int .i64 nR) ∧ w' = W) := Lib.hid (fun W => by
          rw [h3]; exact specPages_any sz W HZ.out.1 HZ.out.2)
        clear hno h1 h3
        go_enter Tryz.func170, Tryz.ntmps170
        go_wp2_with ((with_reducible refine (range_yes _ H0.out).mono ?_); rintro e w1 ⟨rfl, rfl⟩)
        go_quiet (first
          | (go_at_call 105; exact Calls.quiet_of_same (range_yes _ H1.out))
          | (go_at_call 107; exact Calls.quiet_of_same (HQ.out _)))
        go_wp2
        go_ret
        exact ⟨rfl, below_drewsN B0.out _⟩
      · obtain ⟨p, hp⟩ : ∃ p, pagesZ sz = p := ⟨_, rfl⟩
        have HQ : Hid (∀ W : World, Calls Tryz.prog 107 #[.int .i64 sz] W fun e w' => e = .returned (.int .i64 p) ∧ w' = W) := Lib.hid (fun W => by
          rw [← hp]; exact specPages_any sz W HZ.out.1 HZ.out.2)
        rw [hp] at h3
        have e3 : ((nR : Int) != p) = true := by simpa using h3
        clear hno h1 h3 hp
        go_enter Tryz.func170, Tryz.ntmps170
        go_wp2_with ((with_reducible refine (range_yes _ H0.out).mono ?_); rintro e w1 ⟨rfl, rfl⟩)
        go_quiet (first
          | (go_at_call 105; exact Calls.quiet_of_same (range_yes _ H1.out))
          | (go_at_call 107; exact Calls.quiet_of_same (HQ.out _)))
        go_wp2
        go_ret
        exact ⟨rfl, below_drewsN B0.out _⟩
    · have e2 : ((key.size : Int) != 8) = true := by have : ¬ ((key.size : Int) = 8) := by omega
                                                     simpa using this
      clear hno h1 h2
      go_enter Tryz.func170, Tryz.ntmps170
      go_wp2_with ((with_reducible refine (range_yes _ H0.out).mono ?_); rintro e w1 ⟨rfl, rfl⟩)
      go_quiet ((go_at_call 105; exact Calls.quiet_of_same (range_yes _ H1.out)))
      go_wp2
      go_ret
      exact ⟨rfl, below_drewsN B0.out _⟩
  · have H1 := Lib.hid h1
    clear hno h1
    go_enter Tryz.func170, Tryz.ntmps170
    go_wp2_with ((with_reducible refine (range_yes _ H0.out).mono ?_); rintro e w1 ⟨rfl, rfl⟩)
    go_quiet ((go_at_call 105; exact Calls.quiet_of_same (range_no _ H1.out)))
    go_wp2
    go_ret
    exact ⟨rfl, below_drewsN B0.out _⟩
end
end Go.Proofs.YtkfkjcadmdcbnaaGreatDoor
namespace Go.Proofs.YtkfkjcadmdcbnaaGreatDoor
open Go.RowKit Go.Proofs.YtkfkjcadmdcbnaaGreatDoor.Parts Go.Proofs.YtkfkjcadmdcbnaaGreatDoor.Hexa Go.Proofs.YtkfkjcadmdcbnaaGreatDoor.Byt

theorem Bk.under {w w' : World} {b B : Nat} {cs : Array Value} {t : TypeId} (h : Bk w b cs t) (hb : Below B w w') (hB : b < B) : Bk w' b cs t := (hb.block b hB).trans h
theorem below_on {B : Nat} {w w1 w2 : World} (h : Below B w w1) (hB : B ≤ w.heap.size) (h2 : Below w1.heap.size w1 w2) : Below B w w2 := h.trans (h2.mono (Nat.le_trans hB h.size))

theorem held_under3 {w w' : World} {p q r : Addr} {x y z : Value} (h : w.cell? p = some x ∧ w.cell? q = some y ∧ w.cell? r = some z) (hb : Below w.heap.size w w') (hp : p.block < w.heap.size) (hq : q.block < w.heap.size) (hr : r.block < w.heap.size) : w'.cell? p = some x ∧ w'.cell? q = some y ∧ w'.cell? r = some z :=
  ⟨(hb.cell hp).trans h.1, (hb.cell hq).trans h.2.1, (hb.cell hr).trans h.2.2⟩

section
variable (sz gn : Int) (key : ByteArray) (aR : Option Addr) (nR cR : Nat) (aE : Option Addr) (cE : Nat) (w : World) (R : List RecR)

set_option maxRecDepth 100000 in
set_option maxHeartbeats 2000000 in
theorem specIno_file (h : 0 ≤ gn ∧ gn ≤ 65535) (h1 : 0 ≤ sz ∧ sz ≤ 128) (h2 : key.size = 8) (h3 : (nR : Int) = pagesZ sz) (hs : SrcRec w aR nR R) (hf : FitRec R nR 2000000) (b : Bool) (hb : b = true ↔ RecsOk R nR) :
    Calls Tryz.prog 170 #[.agg #[.int .i64 1, .int .i64 sz, .int .i64 gn, .string key, .slice aR nR cR, .slice aE 0 cE]] w (SaysB b w) := by
  have H0 := Lib.hid h
  have H1 := Lib.hid h1
  have HS := Lib.hid hs
  have HF := Lib.hid hf
  have HG := Lib.hid hb
  have B0 := Lib.hid (below_bk w (inoObj 1 sz gn key aR nR cR aE 0 cE))
  have K0 := Lib.hid (Bk.alloc w (inoCs 1 sz gn key aR nR cR aE 0 cE) 102)
  have N0 : Hid ((w.alloc (inoObj 1 sz gn key aR nR cR aE 0 cE)).heap.size = w.heap.size + 1) := Lib.hid (by simp)
  have e2 : ((key.size : Int) != 8) = false := by simp; omega
  have hn4 : nR ≤ 4 := by unfold pagesZ at h3; split at h3 <;> omega
  have HQ : Hid (∀ W : World, Calls Tryz.prog 107 #[.int .i64 sz] W fun e w' => e = .returned (.int .i64 nR) ∧ w' = W) := Lib.hid (fun W => by
    rw [h3]; exact specPages_any sz W (by omega) (by omega))
  clear h h1 h2 h3 hs hf hb
  go_enter Tryz.func170, Tryz.ntmps170
  go_wp2_with ((with_reducible refine (range_yes _ H0.out).mono ?_); rintro e w1 ⟨rfl, rfl⟩)
  go_quiet (first
    | (go_at_call 105; exact Calls.quiet_of_same (range_yes _ H1.out))
    | (go_at_call 107; exact Calls.quiet_of_same (HQ.out _)))
  go_wp2
  go_loopw [3] (fun iv wr => ∃ k : Nat, k ≤ nR ∧ iv = .int .i64 k ∧ Hid (RecsOk R k) ∧ Hid (Below (w.heap.size + 1) (w.alloc (inoObj 1 sz gn key aR nR cR aE 0 cE)) wr)) (fun iv _ => nR - (intOf iv).toNat)
  case atStart => exact ⟨0, Nat.zero_le _, rfl, Lib.hid (fun j hj => by omega), Lib.hid (below_drewsN (Below.refl _ _) _)⟩
  case round =>
    obtain ⟨k, hk, rfl, HA, HB⟩ := hrel
    have BW : Hid (Below w.heap.size w wr) := Lib.hid (B0.out.trans (HB.out.mono (by omega)))
    have q4 := (K0.out.under HB.out (Nat.lt_succ_self _)).cell (j := 4) rfl
    by_cases hlt : k < nR
    · obtain ⟨g, off, ha, hg, d0, d1, d2⟩ := srcRec_later HS.out BW.out (Nat.le_refl _) k hlt
      obtain ⟨⟨p, q, m⟩, hx⟩ : ∃ x, R.getD k default = x := ⟨_, rfl⟩
      have hm := HF.out k hlt
      rw [hx] at d0 d1 d2 hm
      simp only at d0 d1 d2 hm
      have HX := Lib.hid hx
      have HM := Lib.hid hm
      rw [ha] at q4
      clear hx hm ha
      by_cases i1 : RecOk ⟨p, q, m⟩
      · have hT8 := recWord_size i1
        have I1 := Lib.hid i1
        obtain ⟨T, hT⟩ : ∃ T, recWordB ⟨p, q, m⟩ = T := ⟨_, rfl⟩
        have HT := Lib.hid hT
        rw [hT] at hT8
        have e1 : (T.toList == []) = false := text_full T (by omega)
        clear i1 hT hT8
        go_wp2_with fail
        refine (specRecWord_any p q m _ HM.out).mono ?_
        rw [HT.out]
        rintro e w1 ⟨rfl, hb1⟩
        have B1 : Hid (Below (w.heap.size + 1) (w.alloc (inoObj 1 sz gn key aR nR cR aE 0 cE)) w1) := Lib.hid (below_on HB.out (by rw [N0.out]; exact Nat.le_refl _) hb1)
        clear hb1 q4 d0 d1 d2 BW HB
        go_wp2
        go_loopw [4] (fun iv wr => ∃ k2 : Nat, k2 ≤ k ∧ iv = .int .i64 k2 ∧ Hid (∀ j, j < k2 → (R.getD j default).f0 ≠ p) ∧ Hid (Below (w.heap.size + 1) (w.alloc (inoObj 1 sz gn key aR nR cR aE 0 cE)) wr)) (fun iv _ => k - (intOf iv).toNat)
        case atStart => exact ⟨0, Nat.zero_le _, rfl, Lib.hid (fun j hj => by omega), B1⟩
        case round =>
          obtain ⟨k2, hk2, rfl, HA2, HB⟩ := hrel
          have BW : Hid (Below w.heap.size w wr) := Lib.hid (B0.out.trans (HB.out.mono (by omega)))
          by_cases hlt2 : k2 < k
          · have q4 := (K0.out.under HB.out (Nat.lt_succ_self _)).cell (j := 4) rfl
            obtain ⟨g1, off1, ha1, hg1, d0, _, _⟩ := srcRec_later HS.out BW.out (Nat.le_refl _) k hlt
            obtain ⟨g2, off2, ha2, _, c0, _, _⟩ := srcRec_later HS.out BW.out (Nat.le_refl _) k2 (by omega)
            rw [ha1] at ha2 q4
            cases ha2
            clear ha1
            rw [HX.out] at d0
            obtain ⟨v, hv⟩ : ∃ v, (R.getD k2 default).f0 = v := ⟨_, rfl⟩
            have HV := Lib.hid hv
            rw [hv] at c0
            simp only at d0
            clear hv
            by_cases i2 : v = p
            · subst i2
              obtain rfl : b = false := bool_no HG.out (fun x => (x k hlt).2 k2 hlt2 (by rw [HV.out, HX.out]))
              go_wp2
              go_region
              go_wp2
              go_ret
              exact ⟨rfl, BW.out.drew⟩
            · have HA3 : Hid (∀ j, j < k2 + 1 → (R.getD j default).f0 ≠ p) := Lib.hid (fun j hj => by
                by_cases e : j = k2
                · subst e; rw [HV.out]; exact i2
                · exact HA2.out j (by omega))
              have i3 : (v == p) = false := by simpa using i2
              go_wp2
              go_region
              go_wp2
              go_roundw
              case rel => exact ⟨k2 + 1, by omega, by go_num, HA3, Lib.hid HB.out.drew⟩
              case measure => (simp [intOf]; try omega)
          · obtain rfl : k2 = k := by omega
            have HA3 : Hid (RecsOk R (k2 + 1)) := Lib.hid (recsOk_step HA.out (by rw [HX.out]; exact I1.out) (fun j hj => by rw [HX.out]; exact HA2.out j hj))
            go_wp2
            go_roundw
            case rel => exact ⟨k2 + 1, by omega, by go_num, HA3, HB⟩
            case measure => (simp [intOf]; try omega)
      · have HT := Lib.hid (recWordB_no i1)
        obtain rfl : b = false := bool_no HG.out (fun x => i1 (by have h9 := (x k hlt).1; rw [HX.out] at h9; exact h9))
        clear i1
        go_wp2_with fail
        refine (specRecWord_any p q m _ HM.out).mono ?_
        rw [HT.out]
        rintro e w1 ⟨rfl, hb1⟩
        have B1 : Hid (Below w.heap.size w w1) := Lib.hid (below_on BW.out (Nat.le_refl _) hb1)
        clear hb1
        go_wp2
        go_ret
        exact ⟨rfl, B1.out⟩
    · obtain rfl : k = nR := by omega
      obtain rfl : b = true := HG.out.2 HA.out
      go_wp2
      go_ret
      exact ⟨rfl, BW.out⟩
end
end Go.Proofs.YtkfkjcadmdcbnaaGreatDoor
namespace Go.Proofs.YtkfkjcadmdcbnaaGreatDoor
open Go.RowKit

/-- A world that has grown out of w: what lay there lies there unchanged. -/
structure GrownW (w : World) where
  wd : World
  grown : Below w.heap.size w wd
instance (w : World) : Nonempty (GrownW w) := ⟨⟨w, Below.refl _ w⟩⟩
theorem GrownW.cell {w : World} {p : Addr} {v : Value} (h : w.cell? p = some v) (hp : p.block < w.heap.size) (g : GrownW w) : g.wd.cell? p = some v := (g.grown.cell hp).trans h
theorem Calls.grown_of {P : Program} {f : FuncId} {args : Array Value} {w : World} {g : GrownW w} {v : Value}
    (h : Calls P f args g.wd fun e w' => e = .returned v ∧ Below g.wd.heap.size g.wd w') : Calls P f args g.wd fun e w'' => e = .returned v ∧ ∃ g' : GrownW w, w'' = g'.wd :=
  h.mono fun _ w' ⟨he, hb⟩ => ⟨he, ⟨w', g.grown.trans (hb.mono g.grown.size)⟩, rfl⟩
theorem Calls.grown_same {P : Program} {f : FuncId} {args : Array Value} {w : World} {g : GrownW w} {v : Value}
    (h : Calls P f args g.wd fun e w' => e = .returned v ∧ w' = g.wd) : Calls P f args g.wd fun e w'' => e = .returned v ∧ ∃ g' : GrownW w, w'' = g'.wd :=
  h.mono fun _ _ ⟨he, hw⟩ => ⟨he, g, hw⟩
theorem wp_region_grown {P : Program} {id : Nat} {Q : Exit → Act → World → Prop} {a : Act} {w : World} {l : List Oper} (hm : P.follows .mixedOrders = true) (hB : Region.lexB .any l.toArray = true)
    (h : wpQuiet P l.toArray (fun w' => ∃ g : GrownW w, w' = g.wd) (fun a' => ∀ w', (∃ g : GrownW w, w' = g.wd) → Q .normal a' w') l a) : (Code.region id l.toArray true).wp P Q a w :=
  wp_region_quiet (C := fun w' => ∃ g : GrownW w, w' = g.wd) hm hB ⟨⟨_, (Below.refl _ w).drew⟩, rfl⟩ (by simpa using h)
end Go.Proofs.YtkfkjcadmdcbnaaGreatDoor
namespace Go.Proofs.YtkfkjcadmdcbnaaGreatDoor
open Go.RowKit Go.Proofs.YtkfkjcadmdcbnaaGreatDoor.Parts Go.Proofs.YtkfkjcadmdcbnaaGreatDoor.Hexa Go.Proofs.YtkfkjcadmdcbnaaGreatDoor.Byt

section
variable (sz gn : Int) (key : ByteArray) (aR : Option Addr) (nR cR : Nat) (aE : Option Addr) (nE cE : Nat) (w : World) (E : List EntryR)

set_option maxRecDepth 100000 in
set_option maxHeartbeats 1000000 in
theorem specIno_dirNo (h : 0 ≤ gn ∧ gn ≤ 65535) (hno : ¬ (sz = 0 ∧ key.size = 0 ∧ nR = 0 ∧ nE ≤ 6)) :
    Calls Tryz.prog 170 #[.agg #[.int .i64 2, .int .i64 sz, .int .i64 gn, .string key, .slice aR nR cR, .slice aE nE cE]] w (SaysB false w) := by
  have H0 := Lib.hid h
  have B0 := Lib.hid (below_bk w (inoObj 2 sz gn key aR nR cR aE nE cE))
  clear h
  by_cases h1 : sz = 0
  · subst h1
    by_cases h2 : key.size = 0
    · obtain rfl : key = ⟨#[]⟩ := text_nothing h2
      by_cases h3 : nR = 0
      · subst h3
        have h4 : (6 : Int) < (nE : Int) := by
          by_cases h5 : nE ≤ 6
          · exact absurd ⟨rfl, rfl, rfl, h5⟩ hno
          · omega
        clear hno
        go_enter Tryz.func170, Tryz.ntmps170
        go_wp2_with ((with_reducible refine (range_yes _ H0.out).mono ?_); rintro e w1 ⟨rfl, rfl⟩)
        go_ret
        exact ⟨rfl, B0.out⟩
      · have h4 : (0 : Int) < (nR : Int) := by omega
        clear hno
        go_enter Tryz.func170, Tryz.ntmps170
        go_wp2_with ((with_reducible refine (range_yes _ H0.out).mono ?_); rintro e w1 ⟨rfl, rfl⟩)
        go_ret
        exact ⟨rfl, B0.out⟩
    · have e4 : (key.toList == []) = false := text_full key (by omega)
      have e5 : (key.toList != []) = true := by simp only [bne, e4]; rfl
      clear hno
      go_enter Tryz.func170, Tryz.ntmps170
      go_wp2_with ((with_reducible refine (range_yes _ H0.out).mono ?_); rintro e w1 ⟨rfl, rfl⟩)
      go_ret
      exact ⟨rfl, B0.out⟩
  · have e4 : (sz != 0) = true := by simpa using h1
    clear hno
    go_enter Tryz.func170, Tryz.ntmps170
    go_wp2_with ((with_reducible refine (range_yes _ H0.out).mono ?_); rintro e w1 ⟨rfl, rfl⟩)
    go_ret
    exact ⟨rfl, B0.out⟩

set_option maxRecDepth 100000 in
set_option maxHeartbeats 2000000 in
theorem specIno_dir (h : 0 ≤ gn ∧ gn ≤ 65535) (h6 : nE ≤ 6) (hs : SrcEntry w aE nE E) (hf : FitEntry E nE 2000000) (b : Bool) (hb : b = true ↔ EntsOk E nE) :
    Calls Tryz.prog 170 #[.agg #[.int .i64 2, .int .i64 0, .int .i64 gn, .string ⟨#[]⟩, .slice aR 0 cR, .slice aE nE cE]] w (SaysB b w) := by
  have H0 := Lib.hid h
  have HS := Lib.hid hs
  have HF := Lib.hid hf
  have HG := Lib.hid hb
  have B0 := Lib.hid (below_bk w (inoObj 2 0 gn ⟨#[]⟩ aR 0 cR aE nE cE))
  have K0 := Lib.hid (Bk.alloc w (inoCs 2 0 gn ⟨#[]⟩ aR 0 cR aE nE cE) 102)
  have N0 : Hid ((w.alloc (inoObj 2 0 gn ⟨#[]⟩ aR 0 cR aE nE cE)).heap.size = w.heap.size + 1) := Lib.hid (by simp)
  clear h hs hf hb
  go_enter Tryz.func170, Tryz.ntmps170
  go_wp2_with ((with_reducible refine (range_yes _ H0.out).mono ?_); rintro e w1 ⟨rfl, rfl⟩)
  go_loopw [5] (fun iv wr => ∃ k : Nat, k ≤ nE ∧ iv = .int .i64 k ∧ Hid (EntsOk E k) ∧ Hid (Below (w.heap.size + 1) (w.alloc (inoObj 2 0 gn ⟨#[]⟩ aR 0 cR aE nE cE)) wr)) (fun iv _ => nE - (intOf iv).toNat)
  case atStart => exact ⟨0, Nat.zero_le _, rfl, Lib.hid (fun j hj => by omega), Lib.hid (Below.refl _ _)⟩
  case round =>
    obtain ⟨k, hk, rfl, HA, HB⟩ := hrel
    have BW : Hid (Below w.heap.size w wr) := Lib.hid (B0.out.trans (HB.out.mono (by omega)))
    have NW : Hid (w.heap.size + 1 ≤ wr.heap.size) := Lib.hid (by have := HB.out.size; rw [N0.out] at this; exact this)
    have q5 := (K0.out.under HB.out (Nat.lt_succ_self _)).cell (j := 5) rfl
    by_cases hlt : k < nE
    · obtain ⟨g, off, ha, hg, d0, d1⟩ := srcEntry_later HS.out BW.out (Nat.le_refl _) k hlt
      obtain ⟨⟨p, m⟩, hx⟩ : ∃ x, E.getD k default = x := ⟨_, rfl⟩
      have hm := HF.out k hlt
      rw [hx] at d0 d1 hm
      simp only at d0 d1 hm
      have HX := Lib.hid hx
      have HM := Lib.hid hm
      have hpr : Hid (∀ j, j < nE → ∃ v, wr.cell? ⟨g, off + j * 2 + 1, none⟩ = some (.string v) ∧ v = (E.getD j default).f1) := Lib.hid (fun j hj => by
        obtain ⟨g', off', ha', _, _, c1⟩ := srcEntry_later HS.out BW.out (Nat.le_refl _) j hj
        rw [ha] at ha'; cases ha'
        exact ⟨_, c1, rfl⟩)
      have hgw : Hid (g < wr.heap.size) := Lib.hid (by have := NW.out; omega)
      rw [ha] at q5
      clear hx hm ha
      by_cases i1 : EntryOk ⟨p, m⟩
      · have hT8 := entryWord_size i1
        have I1 := Lib.hid i1
        obtain ⟨T, hT⟩ : ∃ T, entryWordB ⟨p, m⟩ = T := ⟨_, rfl⟩
        have HT := Lib.hid hT
        rw [hT] at hT8
        have e1 : (T.toList == []) = false := text_full T (by omega)
        have HC : Hid (∀ W : World, Calls Tryz.prog 169 #[.agg #[.int .i64 p, .string m]] W fun e w' => e = .returned (.string T) ∧ Below W.heap.size W w') := Lib.hid (fun W => by
          have h9 := specEntryWord_any p m W HM.out
          rw [HT.out] at h9
          exact h9)
        clear i1 hT hT8
        match k with
        | 0 =>
          simp only [Nat.zero_mul, Nat.add_zero] at d0 d1
          have HA1 : Hid (EntsOk E 1) := Lib.hid (entsOk_step HA.out (by rw [HX.out]; exact I1.out) (fun h0 => by omega))
          have z5 := GrownW.cell q5 (by have := NW.out; change w.heap.size < wr.heap.size; omega)
          have z0 := GrownW.cell d0 hgw.out
          have z1 := GrownW.cell d1 hgw.out
          go_wp2
          refine wp_region_grown (by kernel_rfl) (by kernel_rfl) ?_
          repeat (go_big_quiet_step ((go_at_call 169; exact Calls.grown_of (HC.out _))))
          refine wpQuiet_nil ?_
          rintro _ ⟨gq, rfl⟩
          have B1 : Hid (Below (w.heap.size + 1) (w.alloc (inoObj 2 0 gn ⟨#[]⟩ aR 0 cR aE nE cE)) gq.wd) := Lib.hid (below_on HB.out (by rw [N0.out]; exact Nat.le_refl _) gq.grown)
          go_wp2
          go_roundw
          case rel => exact ⟨1, by omega, by go_num, HA1, B1⟩
          case measure => (simp [intOf]; try omega)
        | k + 1 =>
          obtain ⟨u, c1, hu⟩ := hpr.out k (by omega)
          have HU := Lib.hid hu
          clear hu
          have z5 := GrownW.cell q5 (by have := NW.out; change w.heap.size < wr.heap.size; omega)
          have z0 := GrownW.cell d0 hgw.out
          have z1 := GrownW.cell d1 hgw.out
          have z2 := GrownW.cell c1 hgw.out
          by_cases i2 : textLt u m = true
          · have HA1 : Hid (EntsOk E (k + 2)) := Lib.hid (entsOk_step HA.out (by rw [HX.out]; exact I1.out) (fun h0 => by rw [show k + 1 - 1 = k by omega, ← HU.out, HX.out]; exact i2))
            have i3 : Op.bytesLess u.toList m.toList = true := i2
            clear i2
            go_wp2
            refine wp_region_grown (by kernel_rfl) (by kernel_rfl) ?_
            repeat (go_big_quiet_step ((go_at_call 169; exact Calls.grown_of (HC.out _))))
            refine wpQuiet_nil ?_
            rintro _ ⟨gq, rfl⟩
            have B1 : Hid (Below (w.heap.size + 1) (w.alloc (inoObj 2 0 gn ⟨#[]⟩ aR 0 cR aE nE cE)) gq.wd) := Lib.hid (below_on HB.out (by rw [N0.out]; exact Nat.le_refl _) gq.grown)
            go_wp2
            go_roundw
            case rel => exact ⟨k + 2, by omega, by go_num, HA1, B1⟩
            case measure => (simp [intOf]; try omega)
          · obtain rfl : b = false := bool_no HG.out (fun x => i2 (by have h9 := (x (k + 1) hlt).2 (by omega); rw [show k + 1 - 1 = k by omega, ← HU.out, HX.out] at h9; exact h9))
            have i3 : Op.bytesLess u.toList m.toList = false := by simpa [textLt] using i2
            clear i2
            go_wp2
            refine wp_region_grown (by kernel_rfl) (by kernel_rfl) ?_
            repeat (go_big_quiet_step ((go_at_call 169; exact Calls.grown_of (HC.out _))))
            refine wpQuiet_nil ?_
            rintro _ ⟨gq, rfl⟩
            have B1 : Hid (Below (w.heap.size + 1) (w.alloc (inoObj 2 0 gn ⟨#[]⟩ aR 0 cR aE nE cE)) gq.wd) := Lib.hid (below_on HB.out (by rw [N0.out]; exact Nat.le_refl _) gq.grown)
            go_wp2
            go_ret
            exact ⟨rfl, B0.out.trans (B1.out.mono (by omega))⟩
      · have HT := Lib.hid (entryWordB_no i1)
        have HC : Hid (∀ W : World, Calls Tryz.prog 169 #[.agg #[.int .i64 p, .string m]] W fun e w' => e = .returned (.string ⟨#[]⟩) ∧ Below W.heap.size W w') := Lib.hid (fun W => by
          have h9 := specEntryWord_any p m W HM.out
          rw [HT.out] at h9
          exact h9)
        obtain rfl : b = false := bool_no HG.out (fun x => i1 (by have h9 := (x k hlt).1; rw [HX.out] at h9; exact h9))
        clear i1
        have z5 := GrownW.cell q5 (by have := NW.out; change w.heap.size < wr.heap.size; omega)
        have z0 := GrownW.cell d0 hgw.out
        have z1 := GrownW.cell d1 hgw.out
        go_wp2
        refine wp_region_grown (by kernel_rfl) (by kernel_rfl) ?_
        repeat (go_big_quiet_step ((go_at_call 169; exact Calls.grown_of (HC.out _))))
        refine wpQuiet_nil ?_
        rintro _ ⟨gq, rfl⟩
        have B1 : Hid (Below (w.heap.size + 1) (w.alloc (inoObj 2 0 gn ⟨#[]⟩ aR 0 cR aE nE cE)) gq.wd) := Lib.hid (below_on HB.out (by rw [N0.out]; exact Nat.le_refl _) gq.grown)
        go_wp2
        go_ret
        exact ⟨rfl, B0.out.trans (B1.out.mono (by omega))⟩
    · obtain rfl : k = nE := by omega
      obtain rfl : b = true := HG.out.2 HA.out
      go_wp2
      go_ret
      exact ⟨rfl, BW.out⟩
end
end Go.Proofs.YtkfkjcadmdcbnaaGreatDoor
namespace Go.Proofs.YtkfkjcadmdcbnaaGreatDoor
open Go.RowKit Go.Proofs.YtkfkjcadmdcbnaaGreatDoor.Parts Go.Proofs.YtkfkjcadmdcbnaaGreatDoor.Hexa Go.Proofs.YtkfkjcadmdcbnaaGreatDoor.Byt

theorem inoB_iff {n : InoR} : inoB n = true ↔ InoOk n := by
  by_cases h : InoOk n
  · exact ⟨fun _ => h, fun _ => inoB_yes h⟩
  · exact ⟨fun e => by rw [inoB_no h] at e; exact absurd e (by decide), fun e => absurd e h⟩

theorem inoOk_free {sz gn : Int} {key : ByteArray} {R : List RecR} {E : List EntryR} (h : 0 ≤ gn ∧ gn ≤ 65535) : InoOk ⟨0, sz, gn, key, R, E⟩ ↔ (sz = 0 ∧ key.size = 0 ∧ R.length = 0 ∧ E.length = 0) := by
  constructor
  · rintro ⟨_, ⟨_, x⟩ | ⟨e, _⟩ | ⟨e, _⟩⟩
    · exact x
    · exact absurd (show (_ : Int) = _ from e) (by simp)
    · exact absurd (show (_ : Int) = _ from e) (by simp)
  · exact fun x => ⟨h, .inl ⟨rfl, x⟩⟩
theorem inoOk_file {sz gn : Int} {key : ByteArray} {R : List RecR} {E : List EntryR} (h : 0 ≤ gn ∧ gn ≤ 65535) :
    InoOk ⟨1, sz, gn, key, R, E⟩ ↔ ((0 ≤ sz ∧ sz ≤ 128) ∧ key.size = 8 ∧ (R.length : Int) = pagesZ sz ∧ E.length = 0 ∧ RecsOk R R.length) := by
  constructor
  · rintro ⟨_, ⟨e, _⟩ | ⟨_, x⟩ | ⟨e, _⟩⟩
    · exact absurd (show (_ : Int) = _ from e) (by simp)
    · exact x
    · exact absurd (show (_ : Int) = _ from e) (by simp)
  · exact fun x => ⟨h, .inr (.inl ⟨rfl, x⟩)⟩
theorem inoOk_dir {sz gn : Int} {key : ByteArray} {R : List RecR} {E : List EntryR} (h : 0 ≤ gn ∧ gn ≤ 65535) :
    InoOk ⟨2, sz, gn, key, R, E⟩ ↔ (sz = 0 ∧ key.size = 0 ∧ R.length = 0 ∧ E.length ≤ 6 ∧ EntsOk E E.length) := by
  constructor
  · rintro ⟨_, ⟨e, _⟩ | ⟨e, _⟩ | ⟨_, x⟩⟩
    · exact absurd (show (_ : Int) = _ from e) (by simp)
    · exact absurd (show (_ : Int) = _ from e) (by simp)
    · exact x
  · exact fun x => ⟨h, .inr (.inr ⟨rfl, x⟩)⟩

theorem specIno_any (kd sz gn : Int) (key : ByteArray) (aR : Option Addr) (nR cR : Nat) (aE : Option Addr) (nE cE : Nat) (w : World) (R : List RecR) (E : List EntryR)
    (hz : -9223372036854775808 ≤ sz ∧ sz ≤ 9223372036854775807) (hs : SrcRec w aR nR R) (hf : FitRec R nR 2000000) (hs' : SrcEntry w aE nE E) (hf' : FitEntry E nE 2000000) :
    Calls Tryz.prog 170 #[.agg #[.int .i64 kd, .int .i64 sz, .int .i64 gn, .string key, .slice aR nR cR, .slice aE nE cE]] w (SaysB (inoB ⟨kd, sz, gn, key, R, E⟩) w) := by
  have hlR : R.length = nR := hs.len
  have hlE : E.length = nE := hs'.len
  by_cases h : 0 ≤ gn ∧ gn ≤ 65535
  · by_cases h0 : kd = 0
    · subst h0
      refine specIno_free sz gn key aR nR cR aE nE cE w h _ ?_
      rw [inoB_iff, inoOk_free h, hlR, hlE]
    · by_cases h1 : kd = 1
      · subst h1
        by_cases hh : (0 ≤ sz ∧ sz ≤ 128) ∧ key.size = 8 ∧ (nR : Int) = pagesZ sz ∧ nE = 0
        · obtain ⟨g1, g2, g3, rfl⟩ := hh
          refine specIno_file sz gn key aR nR cR aE cE w R h g1 g2 g3 hs hf _ ?_
          rw [inoB_iff, inoOk_file h, hlR, hlE]
          exact ⟨fun x => x.2.2.2.2, fun x => ⟨g1, g2, g3, rfl, x⟩⟩
        · rw [inoB_no (fun x => by
            rw [inoOk_file h, hlR, hlE] at x
            exact hh ⟨x.1, x.2.1, x.2.2.1, x.2.2.2.1⟩)]
          exact specIno_fileNo sz gn key aR nR cR aE nE cE w h hz hh
      · by_cases h2 : kd = 2
        · subst h2
          by_cases hh : sz = 0 ∧ key.size = 0 ∧ nR = 0 ∧ nE ≤ 6
          · obtain ⟨rfl, g2, rfl, g4⟩ := hh
            obtain rfl : key = ⟨#[]⟩ := text_nothing g2
            refine specIno_dir gn aR cR aE nE cE w E h g4 hs' hf' _ ?_
            rw [inoB_iff, inoOk_dir h, hlR, hlE]
            exact ⟨fun x => x.2.2.2.2, fun x => ⟨rfl, rfl, rfl, g4, x⟩⟩
          · rw [inoB_no (fun x => by
              rw [inoOk_dir h, hlR, hlE] at x
              exact hh ⟨x.1, x.2.1, x.2.2.1, x.2.2.2.1⟩)]
            exact specIno_dirNo sz gn key aR nR cR aE nE cE w h hh
        · rw [inoB_no (fun x => by
            unfold InoOk at x
            rcases x with ⟨_, ⟨e, _⟩ | ⟨e, _⟩ | ⟨e, _⟩⟩
            · exact h0 e
            · exact h1 e
            · exact h2 e)]
          exact specIno_other kd sz gn key aR nR cR aE nE cE w h h0 h1 h2
  · rw [inoB_no (fun x => h x.1)]
    exact specIno_gen kd sz gn key aR nR cR aE nE cE w h
end Go.Proofs.YtkfkjcadmdcbnaaGreatDoor
namespace Go.Proofs.YtkfkjcadmdcbnaaGreatDoor
open Go.RowKit Go.Proofs.YtkfkjcadmdcbnaaGreatDoor.Hexa Go.Proofs.YtkfkjcadmdcbnaaGreatDoor.Byt

/-- What NonceOf returns. -/
def nonceT (f p s : Int) : ByteArray := if (numTextB f 4).size + (numTextB p 2).size + (numTextB s 6).size = 12 then numTextB f 4 ++ numTextB p 2 ++ numTextB s 6 else ⟨#[]⟩
theorem nonceT_eq (f p s : Int) : nonceT f p s = if (numTextB f 4).size + (numTextB p 2).size + (numTextB s 6).size = 12 then numTextB f 4 ++ numTextB p 2 ++ numTextB s 6 else ⟨#[]⟩ := rfl
theorem numTextB_yes (n width : Int) (h : NumFits n width) : (numTextB n width).size = width.toNat := by
  have e : numTextB n width = numB n.toNat width.toNat := by unfold numTextB; exact if_pos h
  rw [e]
  show (numL _ _ _).toArray.size = _
  rw [List.size_toArray, numL_length]
theorem numTextB_no (n width : Int) (h : ¬ NumFits n width) : numTextB n width = ⟨#[]⟩ := by unfold numTextB; exact if_neg h
theorem numTextB_size (n width : Int) : (numTextB n width).size = 0 ∨ (numTextB n width).size = width.toNat := by
  by_cases h : NumFits n width
  · exact .inr (numTextB_yes n width h)
  · rw [numTextB_no n width h]; exact .inl rfl
theorem nonceT_sizes (f p s : Int) : ((numTextB f 4).size = 0 ∨ (numTextB f 4).size = 4) ∧ ((numTextB p 2).size = 0 ∨ (numTextB p 2).size = 2) ∧ ((numTextB s 6).size = 0 ∨ (numTextB s 6).size = 6) ∧ (numTextB f 4).size + (numTextB p 2).size + (numTextB s 6).size ≤ 12 := by
  have h1 : (numTextB f 4).size = 0 ∨ (numTextB f 4).size = 4 := numTextB_size f 4
  have h2 : (numTextB p 2).size = 0 ∨ (numTextB p 2).size = 2 := numTextB_size p 2
  have h3 : (numTextB s 6).size = 0 ∨ (numTextB s 6).size = 6 := numTextB_size s 6
  exact ⟨h1, h2, h3, by omega⟩
end Go.Proofs.YtkfkjcadmdcbnaaGreatDoor
namespace Go.Proofs.YtkfkjcadmdcbnaaGreatDoor
open Go.RowKit Go.Proofs.YtkfkjcadmdcbnaaGreatDoor.Parts Go.Proofs.YtkfkjcadmdcbnaaGreatDoor.Hexa Go.Proofs.YtkfkjcadmdcbnaaGreatDoor.Byt

def recsTo (n : InoR) (k : Nat) : List ByteArray := [headB n, wordB n.key] ++ (n.R.take k).map recWordB
def entsTo (n : InoR) (k : Nat) : List ByteArray := [headB n, wordB n.key] ++ n.R.map recWordB ++ (n.E.take k).map entryWordB
def rowLen : Value → Nat
  | .slice _ n _ => n
  | _ => 0
def fillTo (n : InoR) (k : Nat) : List ByteArray := wordsI n ++ List.replicate k zero8
theorem take_more {α β : Type} [Inhabited α] (f : α → β) (L : List α) (k : Nat) (h : k < L.length) : (L.take (k + 1)).map f = (L.take k).map f ++ [f (L.getD k default)] := by
  have e : L.getD k default = L[k] := by simp [List.getD, h]
  rw [List.take_add_one, List.getElem?_eq_getElem h, List.map_append, e]
  rfl
theorem recsTo_next (n : InoR) (k : Nat) (h : k < n.R.length) : scells (recsTo n k) ++ [.string (recWordB (n.R.getD k default))] = scells (recsTo n (k + 1)) := by
  unfold recsTo
  rw [take_more _ _ _ h]
  simp [scells]
theorem entsTo_next (n : InoR) (k : Nat) (h : k < n.E.length) : scells (entsTo n k) ++ [.string (entryWordB (n.E.getD k default))] = scells (entsTo n (k + 1)) := by
  unfold entsTo
  rw [take_more _ _ _ h]
  simp [scells]
theorem fillTo_next (n : InoR) (k : Nat) : scells (fillTo n k) ++ [.string zero8] = scells (fillTo n (k + 1)) := by
  unfold fillTo
  rw [List.replicate_succ']
  simp [scells]
theorem recsTo_all (n : InoR) : recsTo n n.R.length = entsTo n 0 := by unfold recsTo entsTo; simp
theorem entsTo_all (n : InoR) : entsTo n n.E.length = fillTo n 0 := by unfold entsTo fillTo wordsI; simp
theorem recsTo_zero (n : InoR) : recsTo n 0 = [headB n, wordB n.key] := by unfold recsTo; simp
theorem inoWords_yes {n : InoR} (h : InoOk n) : inoWordsB n = fillTo n (8 - (wordsI n).length) := by unfold inoWordsB fillTo; rw [if_pos (inoB_yes h)]
theorem inoWords_no {n : InoR} (h : ¬ InoOk n) : inoWordsB n = [] := by unfold inoWordsB; rw [inoB_no h]; rfl
theorem inoWords_length {n : InoR} (h : InoOk n) : (inoWordsB n).length = 8 := by
  have := wordsI_le h
  rw [inoWords_yes h]
  unfold fillTo
  rw [List.length_append, List.length_replicate]
  omega

section
variable (kd sz gn : Int) (key : ByteArray) (aR : Option Addr) (nR cR : Nat) (aE : Option Addr) (nE cE : Nat) (w : World) (R : List RecR) (E : List EntryR)

set_option maxRecDepth 100000 in
set_option maxHeartbeats 1000000 in
theorem specInoWords_no (hz : -9223372036854775808 ≤ sz ∧ sz ≤ 9223372036854775807) (hs : SrcRec w aR nR R) (hf : FitRec R nR 2000000) (hs' : SrcEntry w aE nE E) (hf' : FitEntry E nE 2000000) (h : ¬ InoOk ⟨kd, sz, gn, key, R, E⟩) :
    Calls Tryz.prog 127 #[.agg #[.int .i64 kd, .int .i64 sz, .int .i64 gn, .string key, .slice aR nR cR, .slice aE nE cE]] w (GivesT [] w) := by
  have HN := Lib.hid (inoB_no h)
  have HZ := Lib.hid hz
  have HF := Lib.hid hf
  have HF' := Lib.hid hf'
  have B0 := Lib.hid (below_bk w (inoObj kd sz gn key aR nR cR aE nE cE))
  have HS := Lib.hid (hs.below B0.out (Nat.le_refl _))
  have HS' := Lib.hid (hs'.below B0.out (Nat.le_refl _))
  clear hz hs hf hs' hf' h
  go_enter Tryz.func127, Tryz.ntmps127
  go_wp2_with fail
  refine (specIno_any kd sz gn key aR nR cR aE nE cE _ R E HZ.out HS.out HF.out HS'.out HF'.out).mono ?_
  rw [HN.out]
  rintro e w1 ⟨rfl, hb1⟩
  have B1 : Hid (Below w.heap.size w w1) := Lib.hid (below_on B0.out (Nat.le_refl _) hb1)
  clear hb1
  go_wp2
  go_ret
  exact ⟨_, rfl, World.ownsRow_lit w1 #[] 0 B1.out.size (by decide) rfl, B1.out.alloc B1.out.size _⟩
set_option maxRecDepth 100000 in
set_option maxHeartbeats 4000000 in
theorem specInoWords_yes (hk : 0 ≤ kd ∧ kd ≤ 2) (hz : -9223372036854775808 ≤ sz ∧ sz ≤ 9223372036854775807) (hs : SrcRec w aR nR R) (hf : FitRec R nR 2000000) (hs' : SrcEntry w aE nE E) (hf' : FitEntry E nE 2000000) (h : InoOk ⟨kd, sz, gn, key, R, E⟩) :
    Calls Tryz.prog 127 #[.agg #[.int .i64 kd, .int .i64 sz, .int .i64 gn, .string key, .slice aR nR cR, .slice aE nE cE]] w (GivesT (inoWordsB ⟨kd, sz, gn, key, R, E⟩) w) := by
  obtain ⟨i0, hi, hz0, hz1, hz2⟩ := info_parts infoText
  obtain ⟨M, hM⟩ : ∃ M : InoR, (⟨kd, sz, gn, key, R, E⟩ : InoR) = M := ⟨_, rfl⟩
  have hlR : M.R.length = nR := by rw [← hM]; exact hs.len
  have hlE : M.E.length = nE := by rw [← hM]; exact hs'.len
  have hMR : M.R = R := by rw [← hM]
  have hME : M.E = E := by rw [← hM]
  have hl8 : (wordsI M).length ≤ 8 := wordsI_le (by rw [← hM]; exact h)
  have hlW : (wordsI M).length = 2 + nR + nE := by unfold wordsI; simp [hlR, hlE]; omega
  have HN := Lib.hid (inoB_yes h)
  have HR : Hid (inoWordsB M = fillTo M (8 - (2 + nR + nE))) := Lib.hid (by rw [← hlW]; exact inoWords_yes (by rw [← hM]; exact h))
  have HL8 : Hid ((inoWordsB M).length = 8) := Lib.hid (inoWords_length (by rw [← hM]; exact h))
  have HZ := Lib.hid hz
  have HF := Lib.hid hf
  have HF' := Lib.hid hf'
  have hgn := h.1
  have HGN : Hid (0 ≤ gn ∧ gn ≤ 65535) := Lib.hid hgn
  have hl8' : nR + nE ≤ 6 := by omega
  have B0 := Lib.hid (below_bk w (inoObj kd sz gn key aR nR cR aE nE cE))
  have K0 := Lib.hid (Bk.alloc w (inoCs kd sz gn key aR nR cR aE nE cE) 102)
  have N0 : Hid ((w.alloc (inoObj kd sz gn key aR nR cR aE nE cE)).heap.size = w.heap.size + 1) := Lib.hid (by simp)
  have HS := Lib.hid (hs.below B0.out (Nat.le_refl _))
  have HS' := Lib.hid (hs'.below B0.out (Nat.le_refl _))
  have HS0 := Lib.hid hs
  have HS0' := Lib.hid hs'
  have HE0 : Hid (headB M = wordB (numTextB kd 1 ++ numTextB sz 2 ++ numTextB gn 2)) := Lib.hid (by rw [← hM]; rfl)
  have HE1 : Hid (M.key = key) := Lib.hid (by rw [← hM])
  have HM := Lib.hid hM
  have HMR := Lib.hid hMR
  have HME := Lib.hid hME
  have HLR := Lib.hid hlR
  have HLE := Lib.hid hlE
  obtain ⟨A, hA⟩ : ∃ A, numTextB kd 1 = A := ⟨_, rfl⟩
  obtain ⟨D, hD⟩ : ∃ D, numTextB sz 2 = D := ⟨_, rfl⟩
  obtain ⟨G, hG⟩ : ∃ G, numTextB gn 2 = G := ⟨_, rfl⟩
  have hA1 : A.size ≤ 1 := by rw [← hA]; rcases numTextB_size kd 1 with e | e <;> rw [e] <;> decide
  have hD1 : D.size ≤ 2 := by rw [← hD]; rcases numTextB_size sz 2 with e | e <;> rw [e] <;> decide
  have hG1 : G.size ≤ 2 := by rw [← hG]; rcases numTextB_size gn 2 with e | e <;> rw [e] <;> decide
  have hAD : ¬ (9223372036854775807 < A.size + D.size) := by omega
  have hADG : ¬ (9223372036854775807 < A.size + D.size + G.size) := by omega
  rw [hA, hD, hG] at HE0
  have HA := Lib.hid hA
  have HD := Lib.hid hD
  have HG := Lib.hid hG
  rw [hM]
  clear hz hs hf hs' hf' h hA hD hG hM hMR hME hl8 hlW hlR hlE hgn
  go_enter Tryz.func127, Tryz.ntmps127
  go_wp2_with fail
  refine (specIno_any kd sz gn key aR nR cR aE nE cE _ R E HZ.out HS.out HF.out HS'.out HF'.out).mono ?_
  rw [HN.out]
  rintro e w1 ⟨rfl, hb1⟩
  have T0 := Lib.hid (K0.out.later hb1)
  have B1 : Hid (Below (w.heap.size + 1) (w.alloc (inoObj kd sz gn key aR nR cR aE nE cE)) w1) := Lib.hid (by rw [N0.out] at hb1; exact hb1)
  clear hb1
  go_wp2
  have T0d := Lib.hid T0.out.drew
  have B1d := Lib.hid B1.out.drew
  go_region_held3 (fun w' => w'.cell? ⟨w.heap.size, 0, none⟩ = some (.int .i64 kd) ∧ w'.cell? ⟨w.heap.size, 1, none⟩ = some (.int .i64 sz) ∧ w'.cell? ⟨w.heap.size, 2, none⟩ = some (.int .i64 gn) ∧ w'.cell? ⟨w.heap.size, 3, none⟩ = some (.string key))
    (first
      | exact ⟨T0d.out.cell rfl, T0d.out.cell rfl, T0d.out.cell rfl, T0d.out.cell rfl⟩
      | exact ⟨T2.out.cell rfl, T2.out.cell rfl, T2.out.cell rfl, T2.out.cell rfl⟩
      | exact ⟨T3.out.cell rfl, T3.out.cell rfl, T3.out.cell rfl, T3.out.cell rfl⟩
      | exact ⟨T4.out.cell rfl, T4.out.cell rfl, T4.out.cell rfl, T4.out.cell rfl⟩
      | exact ⟨T5.out.cell rfl, T5.out.cell rfl, T5.out.cell rfl, T5.out.cell rfl⟩
      | exact ⟨T6.out.cell rfl, T6.out.cell rfl, T6.out.cell rfl, T6.out.cell rfl⟩
      | go_keep)
    (first
      | (go_at_call 123; (with_reducible refine (specNum_any kd 1 _ (by omega)).mono ?_); rw [HA.out]; rintro e w2 ⟨rfl, hb⟩; have T2 := Lib.hid (T0d.out.later hb); have B2 := Lib.hid (below_on B1d.out (by rw [N0.out]; exact Nat.le_refl _) hb); clear hb)
      | (go_at_call 123; (with_reducible refine (specNum_any sz 2 _ HZ.out.2).mono ?_); rw [HD.out]; rintro e w3 ⟨rfl, hb⟩; have T3 := Lib.hid (T2.out.later hb); have B3 := Lib.hid (below_on B2.out (by rw [N0.out]; exact Nat.le_refl _) hb); clear hb)
      | (go_at_call 123; (with_reducible refine (specNum_any gn 2 _ (by have := HGN.out.2; omega)).mono ?_); rw [HG.out]; rintro e w4 ⟨rfl, hb⟩; have T4 := Lib.hid (T3.out.later hb); have B4 := Lib.hid (below_on B3.out (by rw [N0.out]; exact Nat.le_refl _) hb); clear hb)
      | (go_at_call 122; (with_reducible refine (specWord_any (A ++ D ++ G) _).mono ?_); rw [← HE0.out]; rintro e w5 ⟨rfl, hb⟩; have T5 := Lib.hid (T4.out.later hb); have B5 := Lib.hid (below_on B4.out (by rw [N0.out]; exact Nat.le_refl _) hb); clear hb)
      | (go_at_call 122; (with_reducible refine (specWord_any key _).mono ?_); rintro e w6 ⟨rfl, hb⟩; have T6 := Lib.hid (T5.out.later hb); have B6 := Lib.hid (below_on B5.out (by rw [N0.out]; exact Nat.le_refl _) hb); clear hb))
  all_goals
    have S6 : Hid (w.heap.size + 1 ≤ w6.heap.size) := Lib.hid (by have := B6.out.size; rw [N0.out] at this; exact this)
    have H01 : Hid (scells (recsTo M 0) = [.string (headB M), .string (wordB key)]) := Lib.hid (by rw [recsTo_zero, HE1.out]; rfl)
    go_wp2
    go_loopw [3, 4] (fun v iv wr => ∃ k : Nat, k ≤ nR ∧ iv = .int .i64 k ∧ Hid (wr.ownsRow (w.heap.size + 1) 9 1 v (2 + k) (scells (recsTo M k))) ∧ Hid (Below (w.heap.size + 1) (w.alloc (inoObj kd sz gn key aR nR cR aE nE cE)) wr)) (fun _ iv _ => nR - (intOf iv).toNat)
    case atStart => exact ⟨0, Nat.zero_le _, rfl, Lib.hid (by rw [H01.out]; exact World.ownsRow_lit w6 #[.string (headB M), .string (wordB key)] 2 S6.out (by decide) rfl), Lib.hid (B6.out.alloc S6.out _)⟩
    case round =>
      obtain ⟨k, hk, rfl, HW, HB⟩ := hrel
      have q4 := (K0.out.under HB.out (Nat.lt_succ_self _)).cell (j := 4) rfl
      by_cases hlt : k < nR
      · obtain ⟨g, off, ha, hg, d0, d1, d2⟩ := srcRec_later HS.out HB.out (by rw [N0.out]; exact Nat.le_refl _) k hlt
        obtain ⟨⟨p, q, m⟩, hx⟩ : ∃ x, R.getD k default = x := ⟨_, rfl⟩
        have hm := HF.out k hlt
        rw [hx] at d0 d1 d2 hm
        simp only at d0 d1 d2 hm
        rw [ha] at q4
        have HX := Lib.hid hx
        have HMm := Lib.hid hm
        obtain ⟨T, hT⟩ : ∃ T, recWordB ⟨p, q, m⟩ = T := ⟨_, rfl⟩
        have HT := Lib.hid hT
        have HWN : Hid (scells (recsTo M k) ++ [.string T] = scells (recsTo M (k + 1))) := Lib.hid (by
          rw [← recsTo_next M k (by rw [HLR.out]; exact hlt), HMR.out, HX.out, HT.out])
        clear hx hm ha hT
        go_wp2_with (first
          | (go_at_call 168; (with_reducible refine (specRecWord_any p q m _ HMm.out).mono ?_); rw [HT.out]; rintro e wa ⟨rfl, hb1⟩
             have HW1 := Lib.hid (own_below HW.out hb1)
             have BG := Lib.hid (below_on HB.out (by rw [N0.out]; exact Nat.le_refl _) hb1)
             have BS : Hid (w.heap.size + 1 ≤ wa.heap.size) := Lib.hid (by have := BG.out.size; rw [N0.out] at this; exact this))
          | (at_builtin; refine wpList_append_own _ rfl (.tmp 33) (.tmp 40) 38 rfl (w.heap.size + 1) 9 i0 (.string ⟨#[]⟩) 1 16 Tryz.underlying38 hi hz0 hz1 hz2 rfl (by decide) _ _ _ rfl (HW1.out.alloc _) ⟨wa.heap.size, 0, none⟩ 1 1 [.string T] rfl rfl (World.news_of_block (heap_alloc_new _ _)) (by simp [Value.oneCell']) (by unfold maxLen; omega) (by omega) (by have := BS.out; simp; omega) ?_; intro v2 wb hown2 hgrow2 hn2))
        have BG3 := Lib.hid ((BG.out.alloc BS.out _).grown hgrow2 (by have := BS.out; simp; omega) (own_block_ge HW1.out))
        rw [HWN.out] at hown2
        have HO2 := Lib.hid hown2
        clear hown2 hgrow2 hn2 HW1 BG BS HB HW
        go_roundw
        case rel => exact ⟨k + 1, by omega, by go_num, HO2, BG3⟩
        case measure => (simp [intOf]; try omega)
      · obtain rfl : k = nR := by omega
        have H9 : Hid (recsTo M k = entsTo M 0) := Lib.hid (by rw [← HLR.out]; exact recsTo_all M)
        have h9 := HW.out
        rw [H9.out] at h9
        have HW2 := Lib.hid h9
        clear h9
        clear HW
        go_wp2
        go_loopw [3, 5] (fun v iv wr => ∃ k2 : Nat, k2 ≤ nE ∧ iv = .int .i64 k2 ∧ Hid (wr.ownsRow (w.heap.size + 1) 9 1 v (2 + k + k2) (scells (entsTo M k2))) ∧ Hid (Below (w.heap.size + 1) (w.alloc (inoObj kd sz gn key aR k cR aE nE cE)) wr)) (fun _ iv _ => nE - (intOf iv).toNat)
        case atStart => exact ⟨0, Nat.zero_le _, rfl, HW2, HB⟩
        case round =>
          clear HW2 HB
          obtain ⟨k2, hk2, rfl, HW, HB⟩ := hrel
          have q5 := (K0.out.under HB.out (Nat.lt_succ_self _)).cell (j := 5) rfl
          by_cases hlt2 : k2 < nE
          · obtain ⟨g, off, ha, hg, d0, d1⟩ := srcEntry_later HS'.out HB.out (by rw [N0.out]; exact Nat.le_refl _) k2 hlt2
            obtain ⟨⟨p, m⟩, hx⟩ : ∃ x, E.getD k2 default = x := ⟨_, rfl⟩
            have hm := HF'.out k2 hlt2
            rw [hx] at d0 d1 hm
            simp only at d0 d1 hm
            rw [ha] at q5
            have HX := Lib.hid hx
            have HMm := Lib.hid hm
            obtain ⟨T, hT⟩ : ∃ T, entryWordB ⟨p, m⟩ = T := ⟨_, rfl⟩
            have HT := Lib.hid hT
            have HWN : Hid (scells (entsTo M k2) ++ [.string T] = scells (entsTo M (k2 + 1))) := Lib.hid (by
              rw [← entsTo_next M k2 (by rw [HLE.out]; exact hlt2), HME.out, HX.out, HT.out])
            clear hx hm ha hT
            go_wp2_with (first
              | (go_at_call 169; (with_reducible refine (specEntryWord_any p m _ HMm.out).mono ?_); rw [HT.out]; rintro e wa ⟨rfl, hb1⟩
                 have HW1 := Lib.hid (own_below HW.out hb1)
                 have BG := Lib.hid (below_on HB.out (by rw [N0.out]; exact Nat.le_refl _) hb1)
                 have BS : Hid (w.heap.size + 1 ≤ wa.heap.size) := Lib.hid (by have := BG.out.size; rw [N0.out] at this; exact this))
              | (at_builtin; refine wpList_append_own _ rfl (.tmp 49) (.tmp 56) 38 rfl (w.heap.size + 1) 9 i0 (.string ⟨#[]⟩) 1 16 Tryz.underlying38 hi hz0 hz1 hz2 rfl (by decide) _ _ _ rfl (HW1.out.alloc _) ⟨wa.heap.size, 0, none⟩ 1 1 [.string T] rfl rfl (World.news_of_block (heap_alloc_new _ _)) (by simp [Value.oneCell']) (by unfold maxLen; omega) (by omega) (by have := BS.out; simp; omega) ?_; intro v2 wb hown2 hgrow2 hn2))
            have BG3 := Lib.hid ((BG.out.alloc BS.out _).grown hgrow2 (by have := BS.out; simp; omega) (own_block_ge HW1.out))
            rw [HWN.out] at hown2
            have HO2 := Lib.hid hown2
            clear hown2 hgrow2 hn2 HW1 BG BS HB HW
            go_roundw
            case rel => exact ⟨k2 + 1, by omega, by go_num, HO2, BG3⟩
            case measure => (simp [intOf]; try omega)
          · obtain rfl : k2 = nE := by omega
            have H9 : Hid (entsTo M k2 = fillTo M 0) := Lib.hid (by rw [← HLE.out]; exact entsTo_all M)
            have h9 := HW.out
            rw [H9.out] at h9
            have HW3 := Lib.hid h9
            clear h9
            clear HW
            go_wp2
            go_loopw [3] (fun v wr => ∃ k3 : Nat, 2 + k + k2 + k3 ≤ 8 ∧ Hid (wr.ownsRow (w.heap.size + 1) 9 1 v (2 + k + k2 + k3) (scells (fillTo M k3))) ∧ Hid (Below (w.heap.size + 1) (w.alloc (inoObj kd sz gn key aR k cR aE k2 cE)) wr)) (fun v _ => 8 - rowLen v)
            case atStart => exact ⟨0, by omega, HW3, HB⟩
            case round =>
              obtain ⟨k3, hk3, HW, HB⟩ := hrel
              obtain ⟨ad, cap, rfl, hcap, hn, _⟩ := own_form HW.out
              by_cases hlt3 : 2 + k + k2 + k3 < 8
              · obtain ⟨T, hT⟩ : ∃ T, zeroB 8 = T := ⟨_, rfl⟩
                have HT := Lib.hid hT
                have HWN : Hid (scells (fillTo M k3) ++ [.string T] = scells (fillTo M (k3 + 1))) := Lib.hid (by rw [← fillTo_next, ← HT.out]; rfl)
                clear hT
                go_wp2_with (first
                  | (go_at_call 124; (with_reducible refine (specZero_any 8 _).mono ?_); rw [HT.out]; rintro e wa ⟨rfl, hb1⟩
                     have HW1 := Lib.hid (own_below HW.out hb1)
                     have BG := Lib.hid (below_on HB.out (by rw [N0.out]; exact Nat.le_refl _) hb1)
                     have BS : Hid (w.heap.size + 1 ≤ wa.heap.size) := Lib.hid (by have := BG.out.size; rw [N0.out] at this; exact this))
                  | (at_builtin; refine wpList_append_own _ rfl (.tmp 61) (.tmp 63) 38 rfl (w.heap.size + 1) 9 i0 (.string ⟨#[]⟩) 1 16 Tryz.underlying38 hi hz0 hz1 hz2 rfl (by decide) _ _ _ rfl (HW1.out.alloc _) ⟨wa.heap.size, 0, none⟩ 1 1 [.string T] rfl rfl (World.news_of_block (heap_alloc_new _ _)) (by simp [Value.oneCell']) (by unfold maxLen; omega) (by omega) (by have := BS.out; simp; omega) ?_; intro v2 wb hown2 hgrow2 hn2))
                have BG3 := Lib.hid ((BG.out.alloc BS.out _).grown hgrow2 (by have := BS.out; simp; omega) (own_block_ge HW1.out))
                rw [HWN.out] at hown2
                have HO2 := Lib.hid hown2
                clear hown2 hgrow2 hn2 HW1 BG BS HB HW
                obtain ⟨ad2, cap2, rfl, hcap2, hn9, _⟩ := own_form HO2.out
                go_roundw
                case rel => exact ⟨k3 + 1, by omega, HO2, BG3⟩
                case measure => (simp [rowLen]; try omega)
              · have HW9 : Hid (wr.ownsRow w.heap.size 9 1 (.slice ad (2 + k + k2 + k3) cap) (inoWordsB M).length (scells (inoWordsB M))) := Lib.hid (by
                  have h9 := HW.out
                  rw [HL8.out, HR.out, show 8 - (2 + k + k2) = k3 by omega, show 8 = 2 + k + k2 + k3 by omega]
                  exact ownE_mono h9 (by omega))
                clear HW
                go_wp2
                go_ret
                exact ⟨_, rfl, HW9.out, B0.out.trans (HB.out.mono (by omega))⟩

theorem specInoWords_any (hz : -9223372036854775808 ≤ sz ∧ sz ≤ 9223372036854775807) (hs : SrcRec w aR nR R) (hf : FitRec R nR 2000000) (hs' : SrcEntry w aE nE E) (hf' : FitEntry E nE 2000000) :
    Calls Tryz.prog 127 #[.agg #[.int .i64 kd, .int .i64 sz, .int .i64 gn, .string key, .slice aR nR cR, .slice aE nE cE]] w (GivesT (inoWordsB ⟨kd, sz, gn, key, R, E⟩) w) := by
  by_cases h : InoOk ⟨kd, sz, gn, key, R, E⟩
  · have hk : 0 ≤ kd ∧ kd ≤ 2 := by
      obtain ⟨_, ⟨e, _⟩ | ⟨e, _⟩ | ⟨e, _⟩⟩ := h
      · have e : kd = 0 := e
        omega
      · have e : kd = 1 := e
        omega
      · have e : kd = 2 := e
        omega
    exact specInoWords_yes kd sz gn key aR nR cR aE nE cE w R E hk hz hs hf hs' hf' h
  · rw [inoWords_no h]
    exact specInoWords_no kd sz gn key aR nR cR aE nE cE w R E hz hs hf hs' hf' h
end
end Go.Proofs.YtkfkjcadmdcbnaaGreatDoor
namespace Go.Proofs.YtkfkjcadmdcbnaaGreatDoor
open Go.RowKit Go.Proofs.YtkfkjcadmdcbnaaGreatDoor.Parts Go.Proofs.YtkfkjcadmdcbnaaGreatDoor.Hexa Go.Proofs.YtkfkjcadmdcbnaaGreatDoor.Byt

/-- The end of a word's text without its last zeros, at least 1. -/
def endTo (l : List UInt8) : Nat → Nat
  | 0 => 1
  | 1 => 1
  | k + 2 => if l.getD (k + 1) 0 = 0 then endTo l (k + 1) else k + 2
def endOf (s : ByteArray) : Nat := endTo s.data.toList 8
theorem endTo_one (l : List UInt8) : endTo l 1 = 1 := rfl
theorem endTo_step (l : List UInt8) (k : Nat) (h : l.getD (k + 1) 0 = 0) : endTo l (k + 2) = endTo l (k + 1) := if_pos h
theorem endTo_stop (l : List UInt8) (k : Nat) (h : ¬ l.getD (k + 1) 0 = 0) : endTo l (k + 2) = k + 2 := if_neg h
theorem endTo_bd (l : List UInt8) : ∀ k, 1 ≤ endTo l k ∧ (1 ≤ k → endTo l k ≤ k)
  | 0 => ⟨Nat.le_refl _, fun h => by omega⟩
  | 1 => ⟨Nat.le_refl _, fun _ => Nat.le_refl _⟩
  | k + 2 => by
    have h := endTo_bd l (k + 1)
    rw [endTo]
    split
    · exact ⟨h.1, fun _ => by have := h.2 (by omega); omega⟩
    · exact ⟨by omega, fun _ => Nat.le_refl _⟩
theorem endTo_zero (l : List UInt8) : ∀ k j, endTo l k ≤ j → j < k → 1 ≤ j → l.getD j 0 = 0
  | 0, j, _, h, _ => by omega
  | 1, j, _, h, h1 => by omega
  | k + 2, j, he, hj, h1 => by
    by_cases hz : l.getD (k + 1) 0 = 0
    · rw [endTo_step l k hz] at he
      by_cases e : j = k + 1
      · subst e; exact hz
      · exact endTo_zero l (k + 1) j he (by omega) h1
    · rw [endTo_stop l k hz] at he; omega
def entryOf (s : ByteArray) : EntryR := ⟨((s.data.toList.getD 0 0).toNat : Int), s.extract 1 (endOf s)⟩
def entryReadB (s : ByteArray) : Bool := decide (s.size = 8 ∧ EntryOk (entryOf s))
def entryReadR (s : ByteArray) : EntryR := if s.size = 8 ∧ EntryOk (entryOf s) then entryOf s else ⟨0, ⟨#[]⟩⟩
theorem one_byte (b : UInt8) (_h : 0 ≤ (b.toNat : Int)) : (numTextB (b.toNat : Int) 1).data.toList = [b] := by
  have hb := b.toNat_lt
  unfold numTextB
  rw [if_pos ⟨by omega, by omega, by simp; omega⟩]
  simp [numB, numL]
theorem longB_list (n : Nat) : (longB n 0).data.toList = List.replicate n 0 := by
  unfold longB
  simp
set_option maxRecDepth 100000 in
theorem entry_back {s : ByteArray} (h8 : s.size = 8) (h : EntryOk (entryOf s)) : entryWordB (entryOf s) = s := by
  rw [entryWordB_yes h]
  have hl : s.data.toList.length = 8 := by simpa using h8
  have hE := endTo_bd s.data.toList 8
  have hE8 := hE.2 (by omega)
  have hz := endTo_zero s.data.toList 8
  obtain ⟨E, hEe⟩ : ∃ E, endTo s.data.toList 8 = E := ⟨_, rfl⟩
  have h1 := one_byte (s.data.toList.getD 0 0) (by omega)
  have hA : (numTextB ((s.data.toList.getD 0 0).toNat : Int) 1).size = 1 := by
    have : (numTextB ((s.data.toList.getD 0 0).toNat : Int) 1).data.toList.length = 1 := by rw [h1]; rfl
    simpa using this
  have hM : (s.extract 1 E).size = E - 1 := by rw [ByteArray.size_extract]; rw [hEe] at hE8; omega
  rw [hEe] at hE hE8 hz
  have hx : (s.extract 1 E).data.toList = (s.data.toList.drop 1).take (E - 1) := by
    have h2 := cut_extract s 1 (E - 1)
    rw [show 1 + (E - 1) = E by have := hE.1; omega] at h2
    exact h2
  have hsz : (numTextB ((s.data.toList.getD 0 0).toNat : Int) 1 ++ s.extract 1 E).size = E := by rw [ByteArray.size_append, hA, hM]; omega
  unfold entryOf endOf wordB
  rw [hEe]
  simp only
  rw [if_pos (by rw [hsz]; omega), hsz]
  apply ByteArray.ext
  apply Array.toList_inj.1
  simp only [ByteArray.data_append, Array.toList_append]
  rw [h1, hx, longB_list]
  apply List.ext_getElem?
  intro j
  by_cases hj0 : j = 0
  · subst hj0
    simp [List.getD, hl]
  have hl1 : (([s.data.toList.getD 0 0] : List UInt8) ++ (s.data.toList.drop 1).take (E - 1)).length = E := by rw [List.length_append, List.length_take, List.length_drop, hl]; simp; omega
  by_cases hj1 : j < E
  · rw [List.append_assoc, List.getElem?_append_right (by simp; omega), List.getElem?_append_left (by simp [hl]; omega)]
    rw [List.getElem?_take, if_pos (by simp; omega), List.getElem?_drop]
    congr 1; simp; omega
  · by_cases hj8 : j < 8
    · rw [List.getElem?_append_right (by rw [hl1]; omega), List.getElem?_replicate, if_pos (by rw [hl1]; omega)]
      have hv := hz j (by omega) hj8 (by omega)
      have hjl : j < s.data.toList.length := by omega
      have h3 : s.data.toList.getD j 0 = s.data.toList[j] := by simp only [List.getD, List.getElem?_eq_getElem hjl, Option.getD_some]
      rw [List.getElem?_eq_getElem hjl, ← h3, hv]
    · rw [List.getElem?_eq_none (by rw [List.length_append, hl1, List.length_replicate]; omega), List.getElem?_eq_none (by omega)]
end Go.Proofs.YtkfkjcadmdcbnaaGreatDoor
namespace Go.Proofs.YtkfkjcadmdcbnaaGreatDoor
open Go.RowKit Go.Proofs.YtkfkjcadmdcbnaaGreatDoor.Parts Go.Proofs.YtkfkjcadmdcbnaaGreatDoor.Hexa Go.Proofs.YtkfkjcadmdcbnaaGreatDoor.Byt

def stopFrom (L : List ByteArray) : Nat → Nat → Nat
  | 0, i => i
  | f + 1, i => if L.getD i default = zero8 then i else stopFrom L f (i + 1)
def stopOf (L : List ByteArray) : Nat := stopFrom L 6 2
theorem stopFrom_self (L : List ByteArray) : ∀ (f i : Nat), i ≤ stopFrom L f i
  | 0, _ => Nat.le_refl _
  | f + 1, i => by
    rw [stopFrom]
    split
    · exact Nat.le_refl _
    · have := stopFrom_self L f (i + 1); omega
theorem stopFrom_ge (L : List ByteArray) : ∀ (f i d : Nat), d ≤ f → (∀ j, i ≤ j → j < i + d → L.getD j default ≠ zero8) → i + d ≤ stopFrom L f i
  | f, i, 0, _, _ => stopFrom_self L f i
  | 0, _, d + 1, h, _ => by omega
  | f + 1, i, d + 1, h, ha => by
    rw [stopFrom, if_neg (ha i (Nat.le_refl _) (by omega))]
    have := stopFrom_ge L f (i + 1) d (by omega) (fun j h1 h2 => ha j (by omega) (by omega))
    omega
theorem stopFrom_at (L : List ByteArray) : ∀ (f i d : Nat), d ≤ f → (∀ j, i ≤ j → j < i + d → L.getD j default ≠ zero8) → (d = f ∨ L.getD (i + d) default = zero8) → stopFrom L f i = i + d
  | 0, i, d, h, _, _ => by obtain rfl : d = 0 := by omega
                           rfl
  | f + 1, i, 0, _, _, he => by
    have he : L.getD i default = zero8 := he.resolve_left (by omega)
    rw [stopFrom, if_pos he]
    rfl
  | f + 1, i, d + 1, h, ha, he => by
    rw [stopFrom, if_neg (ha i (Nat.le_refl _) (by omega)), stopFrom_at L f (i + 1) d (by omega) (fun j h1 h2 => ha j (by omega) (by omega)) (by
      rcases he with e | e
      · exact .inl (by omega)
      · exact .inr (by rw [show i + 1 + d = i + (d + 1) by omega]; exact e))]
    omega
theorem stopOf_le (L : List ByteArray) : stopOf L ≤ 8 := by
  have : ∀ f i, stopFrom L f i ≤ i + f := fun f => by
    induction f with
    | zero => exact fun i => Nat.le_refl _
    | succ f ih =>
      intro i
      rw [stopFrom]
      split
      · omega
      · have := ih (i + 1); omega
  exact this 6 2
/-- No word from the third on, up to k, is all zeros. -/
def Filled (L : List ByteArray) (k : Nat) : Prop := ∀ j, 2 ≤ j → j < k → L.getD j default ≠ zero8
theorem filled_step {L : List ByteArray} {k : Nat} (h : Filled L k) (h1 : L.getD k default ≠ zero8) : Filled L (k + 1) := fun j h2 h3 => by
  by_cases e : j = k
  · subst e; exact h1
  · exact h j h2 (by omega)
theorem stop_ge {L : List ByteArray} {k : Nat} (h2 : 2 ≤ k) (h8 : k ≤ 8) (h : Filled L k) : k ≤ stopOf L := by
  have := stopFrom_ge L 6 2 (k - 2) (by omega) (fun j h3 h4 => h j h3 (by omega))
  unfold stopOf
  omega
theorem stop_at {L : List ByteArray} {k : Nat} (h2 : 2 ≤ k) (h8 : k ≤ 8) (h : Filled L k) (he : k = 8 ∨ L.getD k default = zero8) : stopOf L = k := by
  have := stopFrom_at L 6 2 (k - 2) (by omega) (fun j h3 h4 => h j h3 (by omega)) (by
    rcases he with e | e
    · exact .inl (by omega)
    · exact .inr (by rw [show 2 + (k - 2) = k by omega]; exact e))
  unfold stopOf
  omega

/-- The words from the third on, up to k. -/
def midTo (L : List ByteArray) (k : Nat) : List ByteArray := (L.take k).drop 2
theorem midTo_length {L : List ByteArray} {k : Nat} (h : k ≤ L.length) : (midTo L k).length = k - 2 := by unfold midTo; simp; omega
theorem midTo_at {L : List ByteArray} {k j : Nat} (hj : j + 2 < k) : (midTo L k).getD j default = L.getD (j + 2) default := by
  unfold midTo
  simp only [List.getD, List.getElem?_drop]
  rw [List.getElem?_take_of_lt (by omega), Nat.add_comm]
theorem midTo_next {L : List ByteArray} {k : Nat} (h2 : 2 ≤ k) (h : k < L.length) : midTo L (k + 1) = midTo L k ++ [L.getD k default] := by
  unfold midTo
  have e : L.getD k default = L[k] := by simp [List.getD, h]
  rw [List.take_add_one, List.getElem?_eq_getElem h, List.drop_append_of_le_length (by simp; omega), e]
  rfl
theorem midTo_two (L : List ByteArray) : midTo L 2 = [] := by unfold midTo; simp
def kindOf (L : List ByteArray) : Int := (((L.getD 0 default).data.toList.getD 0 0).toNat : Int)
def inoTo (L : List ByteArray) (k : Nat) : InoR :=
  ⟨kindOf L, numAtV (L.getD 0 default) 1 2, numAtV (L.getD 0 default) 3 2, if kindOf L = 1 then L.getD 1 default else ⟨#[]⟩, if kindOf L = 1 then (midTo L k).map recOf else [], if kindOf L = 2 then (midTo L k).map entryOf else []⟩
def inoOf (L : List ByteArray) : InoR := inoTo L (stopOf L)
def zeroIno : InoR := ⟨0, 0, 0, ⟨#[]⟩, [], []⟩
/-- Are these the words of a valid inode? -/
def ReadOk (L : List ByteArray) : Prop := L.length = 8 ∧ inoWordsB (inoOf L) = L
noncomputable def readInoB (L : List ByteArray) : Bool := @decide (ReadOk L) (Classical.propDecidable _)
noncomputable def readInoR (L : List ByteArray) : InoR := if readInoB L = true then inoOf L else zeroIno
theorem readInoB_yes {L : List ByteArray} (h : ReadOk L) : readInoB L = true := by unfold readInoB; exact @decide_eq_true _ (Classical.propDecidable _) h
theorem readInoB_no {L : List ByteArray} (h : ¬ ReadOk L) : readInoB L = false := by unfold readInoB; exact @decide_eq_false _ (Classical.propDecidable _) h
theorem readInoR_yes {L : List ByteArray} (h : ReadOk L) : readInoR L = inoOf L := by unfold readInoR; rw [if_pos (readInoB_yes h)]
theorem readInoR_no {L : List ByteArray} (h : ¬ ReadOk L) : readInoR L = zeroIno := by unfold readInoR; rw [readInoB_no h]; rfl
theorem readOk_ok {L : List ByteArray} (h : ReadOk L) : InoOk (inoOf L) := by
  by_cases h9 : InoOk (inoOf L)
  · exact h9
  · have h1 := h.2
    rw [inoWords_no h9] at h1
    have h2 := h.1
    rw [← h1] at h2
    exact absurd h2 (by decide)
theorem map_getD {α β : Type} [Inhabited α] [Inhabited β] (f : α → β) (L : List α) (j : Nat) (h : j < L.length) : (L.map f).getD j default = f (L.getD j default) := by
  simp [List.getD, h]
theorem read_badRec {L : List ByteArray} {k : Nat} (h2 : 2 ≤ k) (h8 : k < 8) (hl : L.length = 8) (hk : kindOf L = 1) (hf : Filled L (k + 1)) (hb : ¬ RecOk (recOf (L.getD k default))) : ¬ ReadOk L := by
  intro h
  have h1 := stop_ge (by omega) (by omega) hf
  have h9 := stopOf_le L
  obtain ⟨_, ⟨e, _⟩ | ⟨e, x⟩ | ⟨e, _⟩⟩ := readOk_ok h
  · exact absurd (show kindOf L = 0 from e) (by omega)
  · have hR : (inoOf L).R = (midTo L (stopOf L)).map recOf := by show (if kindOf L = 1 then _ else _) = _; rw [if_pos hk]
    have hlen := midTo_length (L := L) (k := stopOf L) (by omega)
    have h3 := (x.2.2.2.2 (k - 2) (by rw [hR, List.length_map, hlen]; omega)).1
    rw [hR, map_getD _ _ _ (by omega), midTo_at (by omega), show k - 2 + 2 = k by omega] at h3
    exact hb h3
  · exact absurd (show kindOf L = 2 from e) (by omega)
theorem read_badEnt {L : List ByteArray} {k : Nat} (h2 : 2 ≤ k) (h8 : k < 8) (hl : L.length = 8) (hk : kindOf L = 2) (hf : Filled L (k + 1)) (hb : ¬ EntryOk (entryOf (L.getD k default))) : ¬ ReadOk L := by
  intro h
  have h1 := stop_ge (by omega) (by omega) hf
  have h9 := stopOf_le L
  obtain ⟨_, ⟨e, _⟩ | ⟨e, _⟩ | ⟨e, x⟩⟩ := readOk_ok h
  · exact absurd (show kindOf L = 0 from e) (by omega)
  · exact absurd (show kindOf L = 1 from e) (by omega)
  · have hE : (inoOf L).E = (midTo L (stopOf L)).map entryOf := by show (if kindOf L = 2 then _ else _) = _; rw [if_pos hk]
    have hlen := midTo_length (L := L) (k := stopOf L) (by omega)
    have h3 := (x.2.2.2.2 (k - 2) (by rw [hE, List.length_map, hlen]; omega)).1
    rw [hE, map_getD _ _ _ (by omega), midTo_at (by omega), show k - 2 + 2 = k by omega] at h3
    exact hb h3
end Go.Proofs.YtkfkjcadmdcbnaaGreatDoor
namespace Go.Proofs.YtkfkjcadmdcbnaaGreatDoor
open Go.RowKit Go.Proofs.YtkfkjcadmdcbnaaGreatDoor.Parts Go.Proofs.YtkfkjcadmdcbnaaGreatDoor.Hexa Go.Proofs.YtkfkjcadmdcbnaaGreatDoor.Byt

theorem list_of_size {x : ByteArray} {k : Nat} (h : x.size = k) : x.data.toList.length = k := by simpa using h
theorem cut_first (A B : List UInt8) (k : Nat) (h : A.length = k) : ((A ++ B).drop 0).take k = A := by
  rw [List.drop_zero, ← h]; simp
theorem cut_next (A B C : List UInt8) (j k : Nat) (h : A.length = j) (h2 : B.length = k) : ((A ++ B ++ C).drop j).take k = B := by
  rw [← h, List.append_assoc, List.drop_left, ← h2, List.take_left]
theorem rec_fore {r : RecR} (h : RecOk r) : recOf (recWordB r) = r := by
  have h8 := recWord_size h
  rw [recWordB_yes h] at h8 ⊢
  obtain ⟨⟨h0, h1⟩, ⟨h2, h3⟩, h4⟩ := h
  have e1 : (numTextB r.f0 1).size = 1 := numText_size (k := 1) (by omega) (by omega) (by omega)
  have e2 : (numTextB r.f1 3).size = 3 := numText_size (k := 3) (by omega) (by omega) (by omega)
  have l1 := list_of_size e1
  have l2 := list_of_size e2
  have l3 := list_of_size h4
  have a1 : numAtV (numTextB r.f0 1 ++ numTextB r.f1 3 ++ r.f2) 0 1 = r.f0 := numAt_fore _ 0 1 r.f0 (by omega) (by omega) (by omega) (by omega) (by
    unfold cutL
    rw [ByteArray.data_append, ByteArray.data_append, Array.toList_append, Array.toList_append, List.append_assoc]
    exact cut_first _ _ 1 l1)
  have a2 : numAtV (numTextB r.f0 1 ++ numTextB r.f1 3 ++ r.f2) 1 3 = r.f1 := numAt_fore _ 1 3 r.f1 (by omega) (by omega) (by omega) (by omega) (by
    unfold cutL
    rw [ByteArray.data_append, ByteArray.data_append, Array.toList_append, Array.toList_append]
    exact cut_next _ _ _ 1 3 l1 l2)
  have a3 : (numTextB r.f0 1 ++ numTextB r.f1 3 ++ r.f2).extract 4 8 = r.f2 := by
    apply ByteArray.ext
    apply Array.toList_inj.1
    have := cut_extract (numTextB r.f0 1 ++ numTextB r.f1 3 ++ r.f2) 4 4
    rw [show 4 + 4 = 8 from rfl] at this
    rw [this]
    unfold cutL
    rw [ByteArray.data_append, ByteArray.data_append, Array.toList_append, Array.toList_append]
    rw [List.drop_append_of_le_length (by simp [l1, l2]), List.drop_of_length_le (by simp [l1, l2]), List.nil_append, ← l3, List.take_length]
  show (⟨_, _, _⟩ : RecR) = r
  rw [a1, a2, a3]
theorem endTo_at (l : List UInt8) (E : Nat) (h2 : 2 ≤ E) (hne : ¬ l.getD (E - 1) 0 = 0) : ∀ k, E ≤ k → (∀ j, E ≤ j → j < k → l.getD j 0 = 0) → endTo l k = E
  | 0, h, _ => by omega
  | 1, h, _ => by omega
  | k + 2, h, hz => by
    by_cases e : E = k + 2
    · subst e
      exact endTo_stop l k hne
    · rw [endTo_step l k (hz (k + 1) (by omega) (by omega))]
      exact endTo_at l E h2 hne (k + 1) (by omega) (fun j h3 h4 => hz j h3 (by omega))
theorem ent_fore {r : EntryR} (h : EntryOk r) : entryOf (entryWordB r) = r := by
  rw [entryWordB_yes h]
  obtain ⟨⟨h0, h1⟩, h2⟩ := h
  obtain ⟨b, hb⟩ : ∃ b : UInt8, (b.toNat : Int) = r.f0 := ⟨UInt8.ofNat r.f0.toNat, by rw [UInt8.toNat_ofNat']; omega⟩
  have e1 : (numTextB r.f0 1).data.toList = [b] := by rw [← hb]; exact one_byte b (by omega)
  have hN : r.f1.data.toList.length = r.f1.size := by simp
  obtain ⟨n, hn⟩ : ∃ n, r.f1.size = n := ⟨_, rfl⟩
  have hn7 := h2.1
  rw [hn] at hn7 hN
  have hs : (wordB (numTextB r.f0 1 ++ r.f1)).data.toList = [b] ++ r.f1.data.toList ++ List.replicate (7 - n) 0 := by
    have e2 : (numTextB r.f0 1 ++ r.f1).size = 1 + n := by
      rw [ByteArray.size_append, hn]
      have : (numTextB r.f0 1).data.toList.length = 1 := by rw [e1]; rfl
      have e3 : (numTextB r.f0 1).size = 1 := by simpa using this
      rw [e3]
    unfold wordB
    rw [if_pos (by omega), ByteArray.data_append, ByteArray.data_append, Array.toList_append, Array.toList_append, e1, e2]
    show _ ++ (List.replicate (8 - (1 + n)) 0) = _
    rw [show 8 - (1 + n) = 7 - n by omega]
  have hlast : ¬ ([b] ++ r.f1.data.toList ++ List.replicate (7 - n) 0).getD n 0 = 0 := by
    have hm : n - 1 < r.f1.data.toList.length := by omega
    have e4 : ([b] ++ r.f1.data.toList ++ List.replicate (7 - n) 0).getD n 0 = r.f1.data.toList[n - 1] := by
      simp only [List.getD]
      rw [List.getElem?_append_left (by simp; omega), List.getElem?_append_right (by simp; omega), List.getElem?_eq_getElem (by simp; omega)]
      simp
    rw [e4]
    intro e5
    have := h2.2 _ (List.getElem_mem hm)
    rw [e5] at this
    exact absurd this (by decide)
  have hend : endOf (wordB (numTextB r.f0 1 ++ r.f1)) = 1 + n := by
    unfold endOf
    rw [hs]
    refine endTo_at _ (1 + n) (by omega) (by rw [show 1 + n - 1 = n by omega]; exact hlast) 8 (by omega) (fun j h3 h4 => ?_)
    simp only [List.getD]
    rw [List.getElem?_append_right (by simp; omega)]
    rw [List.getElem?_replicate]
    split <;> rfl
  show (⟨_, _⟩ : EntryR) = r
  rw [hend]
  have a1 : (((wordB (numTextB r.f0 1 ++ r.f1)).data.toList.getD 0 0).toNat : Int) = r.f0 := by rw [hs, ← hb]; rfl
  have a2 : (wordB (numTextB r.f0 1 ++ r.f1)).extract 1 (1 + n) = r.f1 := by
    apply ByteArray.ext
    apply Array.toList_inj.1
    rw [cut_extract]
    unfold cutL
    rw [hs]
    exact cut_next _ _ _ 1 n rfl hN
  rw [a1, a2]
end Go.Proofs.YtkfkjcadmdcbnaaGreatDoor
namespace Go.Proofs.YtkfkjcadmdcbnaaGreatDoor
open Go.RowKit Go.Proofs.YtkfkjcadmdcbnaaGreatDoor.Parts Go.Proofs.YtkfkjcadmdcbnaaGreatDoor.Hexa Go.Proofs.YtkfkjcadmdcbnaaGreatDoor.Byt

theorem headB_size {n : InoR} (_h : InoOk n) : (headB n).size = 8 := by
  unfold headB wordB
  have e1 : (numTextB n.kd 1).size ≤ 1 := by rcases numTextB_size n.kd 1 with e | e <;> rw [e] <;> decide
  have e2 : (numTextB n.sz 2).size ≤ 2 := by rcases numTextB_size n.sz 2 with e | e <;> rw [e] <;> decide
  have e3 : (numTextB n.gn 2).size ≤ 2 := by rcases numTextB_size n.gn 2 with e | e <;> rw [e] <;> decide
  have e4 : (numTextB n.kd 1 ++ numTextB n.sz 2 ++ numTextB n.gn 2).size ≤ 5 := by rw [ByteArray.size_append, ByteArray.size_append]; omega
  rw [if_pos (by omega), ByteArray.size_append, longB_size]
  omega
theorem keyB_size {n : InoR} (h : InoOk n) : (wordB n.key).size = 8 := by
  have e : n.key.size ≤ 8 := by
    rcases h with ⟨_, ⟨_, h⟩ | ⟨_, h⟩ | ⟨_, h⟩⟩
    · have := h.2.1; omega
    · have := h.2.1; omega
    · have := h.2.1; omega
  unfold wordB
  rw [if_pos e, ByteArray.size_append, longB_size]
  omega
theorem getD_mem_i {α : Type} [Inhabited α] (L : List α) {x : α} (h : x ∈ L) : ∃ j, j < L.length ∧ x = L.getD j default := by
  obtain ⟨j, hj, e⟩ := List.getElem_of_mem h
  exact ⟨j, hj, by rw [← e]; simp [List.getD, hj]⟩
theorem inoWords_sizes {n : InoR} {x : ByteArray} (h : x ∈ inoWordsB n) : x.size = 8 := by
  by_cases hn : InoOk n
  · rw [inoWords_yes hn] at h
    unfold fillTo wordsI at h
    simp only [List.mem_append, List.mem_cons, List.not_mem_nil, or_false, List.mem_map, List.mem_replicate] at h
    rcases h with (((rfl | rfl) | ⟨r, hr, rfl⟩) | ⟨r, hr, rfl⟩) | ⟨_, rfl⟩
    · exact headB_size hn
    · exact keyB_size hn
    · obtain ⟨j, hj, rfl⟩ := getD_mem_i _ hr
      rcases hn with ⟨_, ⟨_, h⟩ | ⟨_, h⟩ | ⟨_, h⟩⟩
      · have := h.2.2.1; omega
      · exact recWord_size (h.2.2.2.2 j hj).1
      · have := h.2.2.1; omega
    · obtain ⟨j, hj, rfl⟩ := getD_mem_i _ hr
      rcases hn with ⟨_, ⟨_, h⟩ | ⟨_, h⟩ | ⟨_, h⟩⟩
      · have := h.2.2.2; omega
      · have := h.2.2.2.1; omega
      · exact entryWord_size (h.2.2.2.2 j hj).1
    · exact longB_size 8 0
  · rw [inoWords_no hn] at h
    cases h
end Go.Proofs.YtkfkjcadmdcbnaaGreatDoor
namespace Go.Proofs.YtkfkjcadmdcbnaaGreatDoor
open Go.RowKit Go.Proofs.YtkfkjcadmdcbnaaGreatDoor.Hexa Go.Proofs.YtkfkjcadmdcbnaaGreatDoor.Byt Go.Proofs.YtkfkjcadmdcbnaaGreatDoor.BitsM Go.Proofs.YtkfkjcadmdcbnaaGreatDoor.Parts

set_option maxRecDepth 100000 in
set_option maxHeartbeats 1000000 in
theorem specNumAt_yes (s : ByteArray) (a k : Nat) (w : World) (hs : s.size ≤ 100000000) (hk : 1 ≤ k) (hk' : k ≤ 7) (ha : a + k ≤ s.size) :
    Calls Tryz.prog 66 #[.string s, .int .i64 a, .int .i64 k] w fun e w' => e = .returned (.tuple #[.int .i64 (numV (cutL s a k)), .bool true]) ∧ w' = w := by
  have HR : Hid ((1 : Int) ≤ (k : Int) ∧ (k : Int) ≤ 7) := Lib.hid (by omega)
  have HR2 : Hid ((0 : Int) ≤ (a : Int) ∧ (a : Int) ≤ (s.size : Int) - k) := Lib.hid (by omega)
  go_enter Tryz.func66, Tryz.ntmps66
  go_wp2_with fail
  refine (range_yes _ HR.out).mono ?_
  rintro e w0 ⟨rfl, rfl⟩
  go_wp2_with fail
  refine (range_yes _ HR2.out).mono ?_
  rintro e w1 ⟨rfl, rfl⟩
  go_wp2
  go_loopw [8, 9] (fun nv iv wr => ∃ (j v : Nat), j ≤ k ∧ iv = .int .i64 ((a : Int) + j) ∧ nv = .int .i64 v ∧ v < 72057594037927936 ∧ Hid (v = numV (cutL s a j)) ∧ wr = w1) (fun _ iv _ => ((a : Int) + k - intOf iv).toNat)
  case atStart => exact ⟨0, 0, Nat.zero_le _, by go_num, rfl, by omega, Lib.hid (by simp [cutL, numV]), rfl⟩
  case round =>
    obtain ⟨j, v, hj, rfl, rfl, hv, HV, rfl⟩ := hrel
    by_cases hlt : j < k
    · have hin : a + j < s.size := by omega
      have hb := (s[a + j]'hin).toNat_lt
      have e1 : ((a : Int) + j).toNat = a + j := by omega
      have hv2 : v < 256 ^ j := by
        have := numV_lt (cutL s a j)
        rw [cutL_length s a j (by omega)] at this
        rw [HV.out]; exact this
      have hv3 : 256 * v + (s[a + j]'hin).toNat < 72057594037927936 := by
        have h7 : 256 ^ j ≤ 256 ^ 6 := Nat.pow_le_pow_right (by omega) (by omega)
        have h8 : 256 * 256 ^ 6 = 72057594037927936 := by decide
        omega
      have HN : Hid (256 * v + (s[a + j]'hin).toNat = numV (cutL s a (j + 1))) := Lib.hid (by rw [← cutL_next s a j hin, numV_snoc, HV.out])
      clear hv2
      go_wp2
      go_roundw
      case rel => exact ⟨j + 1, 256 * v + (s[a + j]'hin).toNat, by omega, by go_num, by go_num, hv3, HN, by first | rfl | trivial⟩
      case measure => simp [intOf]; omega
    · obtain rfl : j = k := by omega
      go_wp2
      go_ret2
      exact ⟨ret_pair (by rw [HV.out]), rfl⟩

set_option maxRecDepth 100000 in
set_option maxHeartbeats 1000000 in
theorem specNumAt_no (s : ByteArray) (a width : Int) (w : World) (hs : s.size ≤ 100000000) (hw0 : -9223372036854775808 ≤ width) (hw1 : width ≤ 9223372036854775807) (h : ¬ NumThere s a width) :
    Calls Tryz.prog 66 #[.string s, .int .i64 a, .int .i64 width] w fun e w' => e = .returned (.tuple #[.int .i64 0, .bool false]) ∧ w' = w := by
  by_cases hr : 1 ≤ width ∧ width ≤ 7
  · have hq : ¬ (0 ≤ a ∧ a ≤ (s.size : Int) - width) := fun hq => h ⟨hr, hq⟩
    have HR := Lib.hid hr
    have HQ := Lib.hid hq
    obtain ⟨h1, h2⟩ := hr
    clear h hq
    go_enter Tryz.func66, Tryz.ntmps66
    go_wp2_with fail
    refine (range_yes _ HR.out).mono ?_
    rintro e w0 ⟨rfl, rfl⟩
    go_wp2_with fail
    refine (range_no _ HQ.out).mono ?_
    rintro e w1 ⟨rfl, rfl⟩
    go_wp2
    go_ret2
    exact ⟨rfl, rfl⟩
  · have HR := Lib.hid hr
    clear h hr
    go_enter Tryz.func66, Tryz.ntmps66
    go_wp2_with (first
      | (go_at_call 105; refine (range_no _ HR.out).mono ?_; rintro e w1 ⟨rfl, rfl⟩))
    go_ret2
    exact ⟨rfl, rfl⟩
theorem specNumAt_any (s : ByteArray) (a width : Int) (w : World) (hs : s.size ≤ 100000000) (hw0 : -9223372036854775808 ≤ width) (hw1 : width ≤ 9223372036854775807) :
    Calls Tryz.prog 66 #[.string s, .int .i64 a, .int .i64 width] w fun e w' => e = .returned (.tuple #[.int .i64 (numAtV s a width), .bool (numAtB s a width)]) ∧ Below w.heap.size w w' := by
  by_cases h : NumThere s a width
  · have hV : numAtV s a width = numV (cutL s a.toNat width.toNat) := by unfold numAtV; exact if_pos h
    have hB : numAtB s a width = true := decide_eq_true h
    rw [hV, hB]
    obtain ⟨⟨h1, h7⟩, h0, ha⟩ := h
    obtain ⟨k, rfl⟩ : ∃ k : Nat, width = k := ⟨width.toNat, by omega⟩
    obtain ⟨j, rfl⟩ : ∃ j : Nat, a = j := ⟨a.toNat, by omega⟩
    simp only [Int.toNat_natCast]
    exact (specNumAt_yes s j k w hs (by omega) (by omega) (by omega)).mono fun e w' ⟨he, hw⟩ => ⟨he, by rw [hw]; exact Below.refl _ _⟩
  · have hV : numAtV s a width = 0 := by unfold numAtV; exact if_neg h
    have hB : numAtB s a width = false := decide_eq_false h
    rw [hV, hB]
    exact (specNumAt_no s a width w hs hw0 hw1 h).mono fun e w' ⟨he, hw⟩ => ⟨he, by rw [hw]; exact Below.refl _ _⟩
end Go.Proofs.YtkfkjcadmdcbnaaGreatDoor
