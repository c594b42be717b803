/- Merged texts: StoreW, Long, ZeroSpec, ZeroImpl, MemNew, MemFacts, Draw. -/
import Derived.Test.YtpahihcnmpeenaaP10F
import Derived.Test.YtpahihcnmpeenaaRows
import Derived.WalkKit
import Derived.WalkSpells
import Derived.WalkLawsBesides
import Derived.Lib.Hide
import Derived.Deep.QuietTactic
import Derived.BigQuiet
namespace Go.Proofs.Ytpahihcnmpeenaa
open Go.RowKit Go.Proofs.Ytpahihcnmpeenaa.Parts Go.Proofs.Ytpahihcnmpeenaa.Hexa

set_option maxRecDepth 100000 in
set_option maxHeartbeats 2000000 in
theorem specStore_any (K : ByteArray) (a : Option Addr) (n c : Nat) (L : List C3) (i : Int) (x : ByteArray) (w : World) (hs : SrcC w a n L) (hn : n ≤ 1048600) (hK : K.size ≤ 1048600) (hF : FitT L 1048600) (_hx9 : x.size ≤ 1048600) :
    Calls Try.prog 16 #[.agg #[.string K, .slice a n c], .int .i64 i, .string x] w (GivesM K (storedL K L i x) w) := by
  have HS := Lib.hid hs
  have HL := Lib.hid hs.len
  have HF := Lib.hid hF
  have hb0 : Below w.heap.size w ((w.alloc (.cells #[.string K, .slice a n c] 26)).alloc (.cells #[.string ⟨#[]⟩, .slice none 0 0] 26)) := ((Below.refl _ _).alloc (Nat.le_refl _) _).alloc (by simp) _
  have k0 : Two ((w.alloc (.cells #[.string K, .slice a n c] 26)).alloc (.cells #[.string ⟨#[]⟩, .slice none 0 0] 26)) w.heap.size (.string K) (.slice a n c) 26 := (Two.alloc w _ _ _).later (below_alloc _ _)
  have k1 : Two ((w.alloc (.cells #[.string K, .slice a n c] 26)).alloc (.cells #[.string ⟨#[]⟩, .slice none 0 0] 26)) (w.heap.size + 1) (.string ⟨#[]⟩) (.slice none 0 0) 26 := by
    have h := Two.alloc (w.alloc (.cells #[.string K, .slice a n c] 26)) (.string ⟨#[]⟩) (.slice none 0 0) 26
    simpa using h
  have k3 : ((w.alloc (.cells #[.string K, .slice a n c] 26)).alloc (.cells #[.string ⟨#[]⟩, .slice none 0 0] 26)).heap.size = w.heap.size + 2 := by simp
  have K0 := Lib.hid k0
  have K1 := Lib.hid k1
  have K3 := Lib.hid k3
  have B0 := Lib.hid hb0
  clear hs hF hb0 k0 k1 k3
  go_enter Try.func16, Try.ntmps16
  go_wp2_with fail
  obtain ⟨W2, hW⟩ : ∃ x, x = (w.alloc (.cells #[.string K, .slice a n c] 26)).alloc (.cells #[.string ⟨#[]⟩, .slice none 0 0] 26) := ⟨_, rfl⟩
  rw [← hW] at K0 K1 K3 B0 ⊢
  clear hW
  refine (specOk_any K a n c L W2 (HS.out.later B0.out) hn hK).mono ?_
  rintro e w1 ⟨rfl, hb1⟩
  have T1 := Lib.hid (K0.out.later hb1)
  have R1 := Lib.hid (K1.out.later hb1)
  have B1 : Hid (Below w.heap.size w w1) := Lib.hid (B0.out.trans (hb1.mono B0.out.size))
  have S1 : Hid (w.heap.size + 2 ≤ w1.heap.size) := Lib.hid (by have := hb1.size; rw [K3.out] at this; exact this)
  clear hb1 K0 K1
  by_cases hok : MemOk K L
  · rw [memOkB_yes hok]
    by_cases hs8 : x.size = 8
    · have hi8 : (x.size : Int) = 8 := by omega
      have z0 := T1.out.c0
      have z1 := T1.out.c1
      go_wp2_with fail
      clear z0 z1
      refine (words_any K _ _ hK).mono ?_
      rintro e w5 ⟨rfl, hbw⟩
      replace T1 := Lib.hid (T1.out.later hbw)
      replace R1 := Lib.hid (R1.out.later hbw)
      replace S1 : Hid (w.heap.size + 2 ≤ w5.heap.size) := Lib.hid (Nat.le_trans S1.out hbw.size)
      replace B1 : Hid (Below w.heap.size w w5) := Lib.hid (B1.out.trans (hbw.mono B1.out.size))
      clear hbw
      go_wp2_with fail
      by_cases hh : Has K i
      · obtain ⟨m, rfl⟩ : ∃ m : Nat, i = m := ⟨i.toNat, by have := hh.1; omega⟩
        have hm : m < K.size / 8 := by have := hh.2; omega
        refine (range_yes _ (by have := hh.2; omega)).mono ?_
        rintro e w6 ⟨rfl, rfl⟩
        have HEQ := Lib.hid (storedL_yes hok hs8 hm)
        have HOK := Lib.hid hok
        have HM := Lib.hid hm
        have HS8 := Lib.hid hs8
        clear hok hh hm hs8
        have z0 := T1.out.c0
        have z1 := T1.out.c1
        go_wp2_with fail
        clear z0 z1
        refine (l10Store_any K a n c L m x w6 (HS.out.later B1.out) hn HOK.out HM.out HS8.out).mono ?_
        rintro e w2 ⟨v, rfl, hown, hb2⟩
        obtain ⟨ad, cap, rfl, hnc, hcm, hpl⟩ := ownE_form hown
        have R2 := Lib.hid (R1.out.later hb2)
        have B2 : Hid (Below w.heap.size w w2) := Lib.hid (B1.out.trans (hb2.mono B1.out.size))
        have O2 := Lib.hid hown
        obtain ⟨LL, hLL⟩ : ∃ LL, LL = storeL K L m x := ⟨_, rfl⟩
        rw [← hLL] at O2
        have HE : Hid (storedL K L (m : Int) x = LL) := Lib.hid (by rw [hLL]; exact HEQ.out)
        have r0 := R2.out.c0
        have r1 := R2.out.c1
        have f0 := R2.out.fr (o := 0)
        have f1 := R2.out.fr (o := 1)
        rw [← hLL]
        have q := two_set1 (two_set0 R2.out (x := .string K)) (x := .slice ad LL.length cap)
        have q0 := cell0_of_two q
        have q1 := cell1_of_two q
        clear q hown hb2 hpl hcm hnc hLL
        go_wp2
        refine bodyPost_ret (v := .agg #[.string K, .slice ad LL.length cap]) ?_ rfl ⟨_, rfl, ?_, (B2.out.setCell (by simp) _).setCell (by simp) _⟩
        · simp [results, Try.results16, go_sem, q0, q1]
        · rw [HE.out]
          have hne : ∀ g, (Value.slice ad LL.length cap).ownBlock = some g → w.heap.size + 2 ≤ g := fun g hg => Nat.le_trans S1.out (O2.out.lt g hg).1
          exact ownsRow_setCell_other (ownsRow_setCell_other (ownE_mono O2.out B1.out.size) (fun h => by have := hne _ h; simp at this) _) (fun h => by have := hne _ h; simp at this) _
      · refine (range_no _ (fun h => hh ⟨h.1, by omega⟩)).mono ?_
        rintro e w6 ⟨rfl, rfl⟩
        have HEQ := Lib.hid (storedL_no (L := L) (x := x) hh)
        clear hok hh
        have z0 := T1.out.c0
        have z1 := T1.out.c1
        go_wp2_with fail
        clear z0 z1
        refine (specCopy_any K a n c L w6 (HS.out.later B1.out) hn).mono ?_
        rintro e w2 ⟨v, rfl, hown, hb2⟩
        obtain ⟨ad, cap, rfl, hnc, hcm, hpl⟩ := ownE_form hown
        have R2 := Lib.hid (R1.out.later hb2)
        have B2 : Hid (Below w.heap.size w w2) := Lib.hid (B1.out.trans (hb2.mono B1.out.size))
        have O2 := Lib.hid hown
        obtain ⟨LL, hLL⟩ : ∃ LL, LL = L := ⟨_, rfl⟩
        rw [← hLL] at O2
        have HE : Hid (storedL K L i x = LL) := Lib.hid (by rw [hLL]; exact HEQ.out)
        have r0 := R2.out.c0
        have r1 := R2.out.c1
        have f0 := R2.out.fr (o := 0)
        have f1 := R2.out.fr (o := 1)
        rw [← hLL]
        have q := two_set1 (two_set0 R2.out (x := .string K)) (x := .slice ad LL.length cap)
        have q0 := cell0_of_two q
        have q1 := cell1_of_two q
        clear q hown hb2 hpl hcm hnc hLL
        go_wp2
        refine bodyPost_ret (v := .agg #[.string K, .slice ad LL.length cap]) ?_ rfl ⟨_, rfl, ?_, (B2.out.setCell (by simp) _).setCell (by simp) _⟩
        · simp [results, Try.results16, go_sem, q0, q1]
        · rw [HE.out]
          have hne : ∀ g, (Value.slice ad LL.length cap).ownBlock = some g → w.heap.size + 2 ≤ g := fun g hg => Nat.le_trans S1.out (O2.out.lt g hg).1
          exact ownsRow_setCell_other (ownsRow_setCell_other (ownE_mono O2.out B1.out.size) (fun h => by have := hne _ h; simp at this) _) (fun h => by have := hne _ h; simp at this) _
    · have HEQ := Lib.hid (storedL_size (K := K) (L := L) (i := i) hs8)
      have hi8 : ((x.size : Int) != 8) = true := by have : ¬ ((x.size : Int) = 8) := by omega
                                                    simpa using this
      clear hok hs8
      have z0 := T1.out.c0
      have z1 := T1.out.c1
      go_wp2_with fail
      clear z0 z1
      refine (specCopy_any K a n c L w1 (HS.out.later B1.out) hn).mono ?_
      rintro e w2 ⟨v, rfl, hown, hb2⟩
      obtain ⟨ad, cap, rfl, hnc, hcm, hpl⟩ := ownE_form hown
      have R2 := Lib.hid (R1.out.later hb2)
      have B2 : Hid (Below w.heap.size w w2) := Lib.hid (B1.out.trans (hb2.mono B1.out.size))
      have O2 := Lib.hid hown
      obtain ⟨LL, hLL⟩ : ∃ LL, LL = L := ⟨_, rfl⟩
      rw [← hLL] at O2
      have HE : Hid (storedL K L i x = LL) := Lib.hid (by rw [hLL]; exact HEQ.out)
      have r0 := R2.out.c0
      have r1 := R2.out.c1
      have f0 := R2.out.fr (o := 0)
      have f1 := R2.out.fr (o := 1)
      rw [← hLL]
      have q := two_set1 (two_set0 R2.out (x := .string K)) (x := .slice ad LL.length cap)
      have q0 := cell0_of_two q
      have q1 := cell1_of_two q
      clear q hown hb2 hpl hcm hnc hLL
      go_wp2
      refine bodyPost_ret (v := .agg #[.string K, .slice ad LL.length cap]) ?_ rfl ⟨_, rfl, ?_, (B2.out.setCell (by simp) _).setCell (by simp) _⟩
      · simp [results, Try.results16, go_sem, q0, q1]
      · rw [HE.out]
        have hne : ∀ g, (Value.slice ad LL.length cap).ownBlock = some g → w.heap.size + 2 ≤ g := fun g hg => Nat.le_trans S1.out (O2.out.lt g hg).1
        exact ownsRow_setCell_other (ownsRow_setCell_other (ownE_mono O2.out B1.out.size) (fun h => by have := hne _ h; simp at this) _) (fun h => by have := hne _ h; simp at this) _
  · rw [memOkB_no hok]
    have HEQ := Lib.hid (storedL_bad (i := i) (x := x) hok)
    clear hok
    have z0 := T1.out.c0
    have z1 := T1.out.c1
    go_wp2_with fail
    clear z0 z1
    refine (specCopy_any K a n c L w1 (HS.out.later B1.out) hn).mono ?_
    rintro e w2 ⟨v, rfl, hown, hb2⟩
    obtain ⟨ad, cap, rfl, hnc, hcm, hpl⟩ := ownE_form hown
    have R2 := Lib.hid (R1.out.later hb2)
    have B2 : Hid (Below w.heap.size w w2) := Lib.hid (B1.out.trans (hb2.mono B1.out.size))
    have O2 := Lib.hid hown
    obtain ⟨LL, hLL⟩ : ∃ LL, LL = L := ⟨_, rfl⟩
    rw [← hLL] at O2
    have HE : Hid (storedL K L i x = LL) := Lib.hid (by rw [hLL]; exact HEQ.out)
    have r0 := R2.out.c0
    have r1 := R2.out.c1
    have f0 := R2.out.fr (o := 0)
    have f1 := R2.out.fr (o := 1)
    rw [← hLL]
    have q := two_set1 (two_set0 R2.out (x := .string K)) (x := .slice ad LL.length cap)
    have q0 := cell0_of_two q
    have q1 := cell1_of_two q
    clear q hown hb2 hpl hcm hnc hLL
    go_wp2
    refine bodyPost_ret (v := .agg #[.string K, .slice ad LL.length cap]) ?_ rfl ⟨_, rfl, ?_, (B2.out.setCell (by simp) _).setCell (by simp) _⟩
    · simp [results, Try.results16, go_sem, q0, q1]
    · rw [HE.out]
      have hne : ∀ g, (Value.slice ad LL.length cap).ownBlock = some g → w.heap.size + 2 ≤ g := fun g hg => Nat.le_trans S1.out (O2.out.lt g hg).1
      exact ownsRow_setCell_other (ownsRow_setCell_other (ownE_mono O2.out B1.out.size) (fun h => by have := hne _ h; simp at this) _) (fun h => by have := hne _ h; simp at this) _
end Go.Proofs.Ytpahihcnmpeenaa
namespace Go.Proofs.Ytpahihcnmpeenaa
open Go.RowKit Go.Proofs.Ytpahihcnmpeenaa.Hexa Go.Proofs.Ytpahihcnmpeenaa.Byt Go.Proofs.Ytpahihcnmpeenaa.BitsM

set_option maxRecDepth 100000 in
set_option maxHeartbeats 1000000 in
theorem long_any (n : Nat) (x : UInt8) (w : World) (hn : n ≤ 8000000) :
    Calls Try.prog 75 #[.int .i64 n, .int .u8 x.toNat] w fun e w' => e = .returned (.string (longB n x)) ∧ Below w.heap.size w w' := by
  obtain ⟨i0, hi, hz0, hz1, hz2⟩ := info_parts infoByte
  obtain ⟨xv, hxv⟩ : ∃ xv : Int, (x.toNat : Int) = xv := ⟨_, rfl⟩
  rw [hxv]
  have HXV := Lib.hid hxv
  clear hxv
  go_enter Try.func75, Try.ntmps75
  go_wp2_with (at_make; refine wpList_make_full _ rfl _ _ 22 rfl w.heap.size 5 i0 (.int .u8 0) 1 Try.underlying22 hi hz0 hz1 .i64 .i64 _ _ n rfl rfl rfl rfl (by rw [hz2]; omega) (by unfold maxLen; omega) (Nat.le_refl _) ?_; intro w0 hown0 hgrow0)
  have hg0 : Below w.heap.size w w0 := (Below.refl _ _).grown hgrow0 (Nat.le_refl _) (fun k h => by cases h)
  have HO0 := Lib.hid hown0
  clear hown0 hgrow0
  go_loopw [6] (fun iv wr => ∃ (k : Nat) (xs : List Value), k ≤ n ∧ iv = .int .i64 k ∧ Hid (wr.ownsRow w.heap.size 5 1 (.slice (some ⟨w.heap.size, 0, none⟩) n n) n xs) ∧ Hid (∀ j, j < k → xs[j]? = some (.int .u8 xv)) ∧ Below w.heap.size w wr)
    (fun iv _ => n - (intOf iv).toNat)
  case atStart => exact ⟨0, _, Nat.zero_le _, rfl, HO0, Lib.hid (fun j hj => by omega), hg0⟩
  case round =>
    clear HO0 hg0
    obtain ⟨k, xs, hk, rfl, HW, HX, hbel⟩ := hrel
    have hxl : Hid (xs.length = n) := Lib.hid (own_length HW.out)
    by_cases hlt : k < n
    · have c3 : ∃ v, wr.cell? ⟨w.heap.size, k, none⟩ = some v := ⟨xs[k]'(by have := hxl.out; omega), by rw [HW.out.cellAt k (by omega)]; simp [hxl.out, hlt]⟩
      obtain ⟨v3, c3⟩ := c3
      have z3 := HW.out.frozenAt k
      have O1 := Lib.hid (HW.out.stored k (.int .u8 xv)).1
      have hb1 : Below w.heap.size w (wr.setCell ⟨w.heap.size, k, none⟩ (.int .u8 xv)) := hbel.setCell (Nat.le_refl _) _
      have X1 : Hid (∀ j, j < k + 1 → (xs.set k (.int .u8 xv))[j]? = some (.int .u8 xv)) := Lib.hid (fun j hj => by
        by_cases e : j = k
        · subst e; rw [List.getElem?_set_self (by have := hxl.out; omega)]
        · rw [List.getElem?_set_ne (by omega)]; exact HX.out j (by omega))
      go_wp2
      go_roundw
      case rel => exact ⟨k + 1, _, by omega, by go_num, O1, X1, hb1⟩
      case measure => (simp [intOf]; try omega)
    · obtain rfl : k = n := by omega
      have hfin : xs = bcells (List.replicate k x) := by
        apply List.ext_getElem?
        intro j
        by_cases hj : j < k
        · rw [HX.out j hj, ← HXV.out]; simp [bcells, hj]
        · rw [List.getElem?_eq_none (by have := hxl.out; omega), List.getElem?_eq_none (by rw [bcells_length]; simp; omega)]
      have ho := HW.out
      rw [hfin] at ho
      have hconv := own_string (P := Try.prog) 22 9 Try.underlying22 Try.underlying5 Try.underlying9 ho
      clear hfin ho
      go_wp2
      go_ret
      exact ⟨rfl, hbel⟩

end Go.Proofs.Ytpahihcnmpeenaa
namespace Go.Proofs.Ytpahihcnmpeenaa
open Go.RowKit Go.Proofs.Ytpahihcnmpeenaa.Hexa Go.Proofs.Ytpahihcnmpeenaa.Byt Go.Proofs.Ytpahihcnmpeenaa.BitsM Go.Proofs.Ytpahihcnmpeenaa.Parts

set_option maxRecDepth 100000 in
set_option maxHeartbeats 400000 in
theorem specZero_any (n : Int) (w : World) :
    Calls Try.prog 67 #[.int .i64 n] w fun e w' => e = .returned (.string (zeroB n)) ∧ Below w.heap.size w w' := by
  by_cases h : 0 ≤ n ∧ n ≤ 20000
  · have HE : Hid (zeroB n = longB n.toNat 0) := Lib.hid (if_pos h)
    have HR := Lib.hid h
    obtain ⟨k, rfl⟩ : ∃ k : Nat, n = k := ⟨n.toNat, by omega⟩
    have KL := Lib.hid fun w => long_any k 0 w (by omega)
    clear h
    go_enter Try.func67, Try.ntmps67
    go_wp2_with (first
      | (go_at_call 51; refine (range_yes _ HR.out).mono ?_; rintro e w1 ⟨rfl, rfl⟩)
      | (go_at_call 75; refine (KL.out _).mono ?_; rintro e w2 ⟨rfl, hb2⟩))
    go_ret
    exact ⟨by rw [HE.out]; rfl, hb2⟩
  · have HE : Hid (zeroB n = ⟨#[]⟩) := Lib.hid (if_neg h)
    have HR := Lib.hid h
    clear h
    go_enter Try.func67, Try.ntmps67
    go_wp2_with (first
      | (go_at_call 51; refine (range_no _ HR.out).mono ?_; rintro e w1 ⟨rfl, rfl⟩))
    go_ret
    exact ⟨by rw [HE.out]; rfl, Below.refl _ _⟩

end Go.Proofs.Ytpahihcnmpeenaa
namespace Go.Proofs.Ytpahihcnmpeenaa
open Go.RowKit Go.Proofs.Ytpahihcnmpeenaa.Hexa Go.Proofs.Ytpahihcnmpeenaa.Byt Go.Proofs.Ytpahihcnmpeenaa.BitsM

set_option maxRecDepth 100000 in
set_option maxHeartbeats 1000000 in
theorem implZero_any (n : Int) (w : World) :
    Calls Try.prog 57 #[.int .i64 n] w fun e w' => e = .returned (.string (zeroB n)) ∧ Below w.heap.size w w' := by
  by_cases h : 0 ≤ n ∧ n ≤ 20000
  · obtain ⟨i0, hi, hz0, hz1, hz2⟩ := info_parts infoByte
    have HE : Hid (zeroB n = longB n.toNat 0) := Lib.hid (if_pos h)
    obtain ⟨k, rfl⟩ : ∃ k : Nat, n = k := ⟨n.toNat, by omega⟩
    have hk : k ≤ 20000 := by omega
    clear h
    go_enter Try.func57, Try.ntmps57
    go_wp2_with (at_make; refine wpList_make_full _ rfl _ _ 22 rfl w.heap.size 5 i0 (.int .u8 0) 1 Try.underlying22 hi hz0 hz1 .i64 .i64 _ _ k rfl rfl rfl rfl (by rw [hz2]; omega) (by unfold maxLen; omega) (Nat.le_refl _) ?_; intro w0 hown0 hgrow0; rw [made_zero] at hown0; have hconv := own_string (P := Try.prog) 22 9 Try.underlying22 Try.underlying5 Try.underlying9 hown0)
    have hg0 : Below w.heap.size w w0 := (Below.refl _ _).grown hgrow0 (Nat.le_refl _) (fun k h => by cases h)
    go_ret
    exact ⟨by rw [HE.out]; rfl, hg0⟩
  · have HE : Hid (zeroB n = ⟨#[]⟩) := Lib.hid (if_neg h)
    by_cases h0 : n < 0
    · go_enter Try.func57, Try.ntmps57
      go_wp2
      go_ret
      exact ⟨by rw [HE.out]; rfl, Below.refl _ _⟩
    · have h1 : 20000 < n := by omega
      clear h
      go_enter Try.func57, Try.ntmps57
      go_wp2
      go_ret
      exact ⟨by rw [HE.out]; rfl, Below.refl _ _⟩

end Go.Proofs.Ytpahihcnmpeenaa
namespace Go.Proofs.Ytpahihcnmpeenaa
open Go.RowKit Go.Proofs.Ytpahihcnmpeenaa.Parts Go.Proofs.Ytpahihcnmpeenaa.Hexa

def newB (i : Int) : ByteArray := if 0 ≤ i ∧ i ≤ 1000 then zeroB (i * 16) else ⟨#[]⟩
def GivesN (i : Int) (w : World) (e : Ending) (w' : World) : Prop := e = .returned (.agg #[.string (newB i), .slice none 0 0]) ∧ Below w.heap.size w w'

set_option maxRecDepth 100000 in
set_option maxHeartbeats 1000000 in
theorem specNew_any (i : Int) (w : World) : Calls Try.prog 32 #[.int .i64 i] w (GivesN i w) := by
  have T0 := Two.alloc w (.string ⟨#[]⟩) (.slice none 0 0) 26
  have B0 := Lib.hid (below_alloc w (.cells #[.string ⟨#[]⟩, .slice none 0 0] 26))
  by_cases h : 0 ≤ i ∧ i ≤ 1000
  · have HE : Hid (newB i = zeroB (i * 16)) := Lib.hid (if_pos h)
    have HR := Lib.hid h
    have h1 := h.1
    have h2 := h.2
    have HT0 := Lib.hid T0
    clear h T0
    go_enter Try.func32, Try.ntmps32
    go_wp2_with (first
      | (go_at_call 51; refine (range_yes _ HR.out).mono ?_; rintro e w1 ⟨rfl, rfl⟩)
      | (go_at_call 66; refine (size_any _).mono ?_; rintro e w1 ⟨rfl, rfl⟩)
      | (go_at_call 67; refine (specZero_any _ _).mono ?_; rintro e w2 ⟨rfl, hb2⟩; have HB2 := Lib.hid hb2; have HT2 := Lib.hid (HT0.out.later hb2); have z0 := HT2.out.c0; have z1 := HT2.out.c1; have z2 := HT2.out.fr (o := 0); have z3 := HT2.out.fr (o := 1); clear hb2))
    have y0 := HT2.out.c0
    have y1 := HT2.out.c1
    have q := two_set1 (two_set0 HT2.out (x := .string (zeroB (i * 16)))) (x := .slice none 0 0)
    have q0 := cell0_of_two q
    have q1 := cell1_of_two q
    refine bodyPost_ret (v := .agg #[.string (zeroB (i * 16)), .slice none 0 0]) ?_ rfl ⟨by rw [HE.out], ((B0.out.trans (HB2.out.mono B0.out.size)).setCell (Nat.le_refl _) _).setCell (Nat.le_refl _) _⟩
    simp [results, Try.results32, go_sem, q0, q1]
  · have HE : Hid (newB i = ⟨#[]⟩) := Lib.hid (if_neg h)
    have HR := Lib.hid h
    have z0 := T0.c0
    have z1 := T0.c1
    have y0 := T0.c0
    have y1 := T0.c1
    have q := two_set1 (two_set0 T0 (x := .string ⟨#[]⟩)) (x := .slice none 0 0)
    have q0 := cell0_of_two q
    have q1 := cell1_of_two q
    clear h T0 q
    go_enter Try.func32, Try.ntmps32
    go_wp2_with (first
      | (go_at_call 51; refine (range_no _ HR.out).mono ?_; rintro e w1 ⟨rfl, rfl⟩))
    refine bodyPost_ret (v := .agg #[.string ⟨#[]⟩, .slice none 0 0]) ?_ rfl ⟨by rw [HE.out], by first | exact B0.out | exact (B0.out.setCell (Nat.le_refl _) _).setCell (Nat.le_refl _) _⟩
    simp [results, Try.results32, go_sem, y0, y1]

set_option maxRecDepth 100000 in
set_option maxHeartbeats 1000000 in
theorem implNew_any (i : Int) (w : World) : Calls Try.prog 19 #[.int .i64 i] w (GivesN i w) := by
  have T0 := Two.alloc w (.string ⟨#[]⟩) (.slice none 0 0) 26
  have B0 := Lib.hid (below_alloc w (.cells #[.string ⟨#[]⟩, .slice none 0 0] 26))
  by_cases h : 0 ≤ i ∧ i ≤ 1000
  · have HE : Hid (newB i = zeroB (i * 16)) := Lib.hid (if_pos h)
    have h1 := h.1
    have h2 := h.2
    have HT0 := Lib.hid T0
    clear h T0
    go_enter Try.func19, Try.ntmps19
    go_wp2_with (first
      | (go_at_call 57; refine (implZero_any _ _).mono ?_; rintro e w2 ⟨rfl, hb2⟩; have HB2 := Lib.hid hb2; have HT2 := Lib.hid (HT0.out.later hb2); have z0 := HT2.out.c0; have z1 := HT2.out.c1; have z2 := HT2.out.fr (o := 0); have z3 := HT2.out.fr (o := 1); clear hb2))
    have y0 := HT2.out.c0
    have y1 := HT2.out.c1
    have q := two_set1 (two_set0 HT2.out (x := .string (zeroB (i * 16)))) (x := .slice none 0 0)
    have q0 := cell0_of_two q
    have q1 := cell1_of_two q
    refine bodyPost_ret (v := .agg #[.string (zeroB (i * 16)), .slice none 0 0]) ?_ rfl ⟨by rw [HE.out], ((B0.out.trans (HB2.out.mono B0.out.size)).setCell (Nat.le_refl _) _).setCell (Nat.le_refl _) _⟩
    simp [results, Try.results19, go_sem, q0, q1]
  · have HE : Hid (newB i = ⟨#[]⟩) := Lib.hid (if_neg h)
    have z0 := T0.c0
    have z1 := T0.c1
    have y0 := T0.c0
    have y1 := T0.c1
    have q := two_set1 (two_set0 T0 (x := .string ⟨#[]⟩)) (x := .slice none 0 0)
    have q0 := cell0_of_two q
    have q1 := cell1_of_two q
    clear T0 q
    by_cases h1 : i < 0
    · clear h
      go_enter Try.func19, Try.ntmps19
      go_wp2
      refine bodyPost_ret (v := .agg #[.string ⟨#[]⟩, .slice none 0 0]) ?_ rfl ⟨by rw [HE.out], by first | exact B0.out | exact (B0.out.setCell (Nat.le_refl _) _).setCell (Nat.le_refl _) _⟩
      simp [results, Try.results19, go_sem, y0, y1]
    · have h2 : 1000 < i := by omega
      clear h
      go_enter Try.func19, Try.ntmps19
      go_wp2
      refine bodyPost_ret (v := .agg #[.string ⟨#[]⟩, .slice none 0 0]) ?_ rfl ⟨by rw [HE.out], by first | exact B0.out | exact (B0.out.setCell (Nat.le_refl _) _).setCell (Nat.le_refl _) _⟩
      simp [results, Try.results19, go_sem, y0, y1]

theorem eqNone_any (K : ByteArray) (w : World) : Calls Try.prog 33 #[.agg #[.string K, .slice none 0 0], .agg #[.string K, .slice none 0 0]] w fun e w' => e = .returned (.bool true) ∧ Below w.heap.size w w' :=
  eqMemory_any K none none 0 0 0 [] w (by omega) (SrcE.nil _ _ _) (SrcE.nil _ _ _)
theorem markNone_any (K : ByteArray) (w : World) : Calls Try.prog 34 #[.agg #[.string K, .slice none 0 0], .int .i64 1] w fun e w' => e = .returned (.int .i64 1) ∧ Below w.heap.size w w' :=
  (markMemory_any K w.heap.size (.slice none 0 0) 0 1 [] w (Nat.le_refl _) (by omega) (by omega) (World.ownsRow_nil _ _ _ _)).mono fun e w' ⟨he, hb, _⟩ => ⟨he, hb⟩
theorem heldNone_any (K : ByteArray) (w : World) : Calls Try.prog 35 #[.agg #[.string K, .slice none 0 0], .int .i64 1] w fun e w' => e = .returned (.int .i64 1) ∧ Below w.heap.size w w' :=
  (heldMemory_any K none 0 0 1 w (by omega) (by omega) (SrcE.nil _ _ _)).mono fun e w' ⟨he, hb⟩ => ⟨he, hb⟩

set_option maxRecDepth 100000 in
set_option maxHeartbeats 2000000 in
theorem memNew_law (i : Int) (w : World) :
    Calls Try.prog 5 #[.int .i64 i] w fun e w' => e = .returned (.bool true) ∧ Below w.heap.size w w' := by
  obtain ⟨K, hK⟩ : ∃ K, newB i = K := ⟨_, rfl⟩
  have HK := Lib.hid hK
  clear hK
  go_enter Try.func5, Try.ntmps5
  go_wp2_with fail
  refine (specNew_any i w).mono ?_
  unfold GivesN
  rw [HK.out]
  rintro e w1 ⟨rfl, hb1⟩
  have S1 := Lib.hid (Two.alloc w1 (.string K) (.slice none 0 0) 26)
  have B1 := Lib.hid (hb1.trans ((below_alloc w1 (.cells #[.string K, .slice none 0 0] 26)).mono hb1.size))
  clear hb1
  go_wp2_with fail
  obtain ⟨q1, hq1⟩ : ∃ q, w1.heap.size = q := ⟨_, rfl⟩
  obtain ⟨w2, h2⟩ : ∃ x, x = w1.alloc (.cells #[.string K, .slice none 0 0] 26) := ⟨_, rfl⟩
  rw [hq1] at S1 ⊢
  rw [← h2] at S1 B1 ⊢
  clear h2 hq1
  refine (implNew_any i w2).mono ?_
  unfold GivesN
  rw [HK.out]
  rintro e w3 ⟨rfl, hb3⟩
  have S3 := Lib.hid ((S1.out.later hb3).later (below_alloc w3 (.cells #[.string K, .slice none 0 0] 26)))
  have G3 := Lib.hid (Two.alloc w3 (.string K) (.slice none 0 0) 26)
  have B3 := Lib.hid (B1.out.trans ((hb3.trans ((below_alloc w3 (.cells #[.string K, .slice none 0 0] 26)).mono hb3.size)).mono B1.out.size))
  have c0 := S3.out.c0
  have c1 := S3.out.c1
  clear hb3
  go_wp2_with fail
  obtain ⟨q3, hq3⟩ : ∃ q, w3.heap.size = q := ⟨_, rfl⟩
  obtain ⟨w4, h4⟩ : ∃ x, x = w3.alloc (.cells #[.string K, .slice none 0 0] 26) := ⟨_, rfl⟩
  rw [hq3] at G3 ⊢
  rw [← h4] at S3 G3 B3 c0 c1 ⊢
  clear h4 hq3 c0 c1
  refine (eqNone_any K w4).mono ?_
  rintro e w5 ⟨rfl, hb5⟩
  have S5 := Lib.hid (S3.out.later hb5)
  have G5 := Lib.hid (G3.out.later hb5)
  have B5 := Lib.hid (B3.out.trans (hb5.mono B3.out.size))
  have g0 := G5.out.c0
  have g1 := G5.out.c1
  clear hb5 S3 G3
  go_wp2_with fail
  clear g0 g1
  refine (markNone_any K w5).mono ?_
  rintro e w6 ⟨rfl, hb6⟩
  have S6 := Lib.hid (S5.out.later hb6)
  have G6 := Lib.hid (G5.out.later hb6)
  have B6 := Lib.hid (B5.out.trans (hb6.mono B5.out.size))
  have g0 := G6.out.c0
  have g1 := G6.out.c1
  clear hb6 S5 G5
  go_wp2_with fail
  clear g0 g1
  refine (heldNone_any K w6).mono ?_
  rintro e w7 ⟨rfl, hb7⟩
  have S7 := Lib.hid (S6.out.later hb7)
  have G7 := Lib.hid (G6.out.later hb7)
  have B7 := Lib.hid (B6.out.trans (hb7.mono B6.out.size))
  clear hb7 S6 G6
  go_wp2_with fail
  refine (implNew_any i w7).mono ?_
  unfold GivesN
  rw [HK.out]
  rintro e w8 ⟨rfl, hb8⟩
  have S8 := Lib.hid ((S7.out.later hb8).later (below_alloc w8 (.cells #[.string K, .slice none 0 0] 26)))
  have G8 := Lib.hid ((G7.out.later hb8).later (below_alloc w8 (.cells #[.string K, .slice none 0 0] 26)))
  have B8 := Lib.hid (B7.out.trans ((hb8.trans ((below_alloc w8 (.cells #[.string K, .slice none 0 0] 26)).mono hb8.size)).mono B7.out.size))
  have c0 := S8.out.c0
  have c1 := S8.out.c1
  clear hb8 S7 G7
  go_wp2_with fail
  obtain ⟨w9, h9⟩ : ∃ x, x = w8.alloc (.cells #[.string K, .slice none 0 0] 26) := ⟨_, rfl⟩
  rw [← h9] at S8 G8 B8 c0 c1 ⊢
  clear h9 c0 c1
  refine (eqNone_any K w9).mono ?_
  rintro e w10 ⟨rfl, hb10⟩
  have G10 := Lib.hid (G8.out.later hb10)
  have B10 := Lib.hid (B8.out.trans (hb10.mono B8.out.size))
  have g0 := G10.out.c0
  have g1 := G10.out.c1
  clear hb10 S8 G8
  go_wp2_with fail
  clear g0 g1
  refine (heldNone_any K w10).mono ?_
  rintro e w11 ⟨rfl, hb11⟩
  have B11 := Lib.hid (B10.out.trans (hb11.mono B10.out.size))
  clear hb11
  go_wp2
  go_ret
  exact ⟨rfl, B11.out⟩
end Go.Proofs.Ytpahihcnmpeenaa
namespace Go.Proofs.Ytpahihcnmpeenaa
open Go.RowKit Go.Proofs.Ytpahihcnmpeenaa.Parts Go.Proofs.Ytpahihcnmpeenaa.Hexa

/-- A cell that is laid right. -/
def LaidC (K : ByteArray) (c : C3) : Prop := 0 ≤ c.l ∧ c.l < (K.size / 16 : Nat) ∧ c.t.size = 16
theorem mem_getD {L : List C3} {j : Nat} (h : j < L.length) : L.getD j default ∈ L := by
  simp only [List.getD, List.getElem?_eq_getElem h, Option.getD_some]
  exact List.getElem_mem h
theorem memOk_iff {K : ByteArray} {L : List C3} : MemOk K L ↔ (K.size % 16 = 0 ∧ K.size ≤ 16000 ∧ (∀ c ∈ L, LaidC K c) ∧ L.Pairwise fun a b => a.l < b.l) := by
  constructor
  · intro h
    refine ⟨h.1, h.2.1, fun c hc => ?_, ?_⟩
    · obtain ⟨j, hj, e⟩ := getD_mem hc
      have := h.2.2 j hj
      rw [← e]; exact ⟨this.1, this.2.1, this.2.2.1⟩
    · rw [List.pairwise_iff_getElem]
      intro i j hi hj hij
      have := h.asc hij hj
      simpa [List.getD, hi, hj] using this
  · rintro ⟨h1, h2, h3, h4⟩
    refine ⟨h1, h2, fun j hj => ?_⟩
    have hc := h3 _ (mem_getD hj)
    refine ⟨hc.1, hc.2.1, hc.2.2, fun h0 => ?_⟩
    rw [List.pairwise_iff_getElem] at h4
    have := h4 (j - 1) j (by omega) hj (by omega)
    simpa [List.getD, hj, show j - 1 < L.length by omega] using this
theorem MemOk.pair {K : ByteArray} {L : List C3} (h : MemOk K L) : L.Pairwise fun a b => a.l < b.l := (memOk_iff.1 h).2.2.2
theorem MemOk.laid {K : ByteArray} {L : List C3} (h : MemOk K L) : ∀ c ∈ L, LaidC K c := (memOk_iff.1 h).2.2.1
/-- There are no more cells than lines. -/
theorem MemOk.few {K : ByteArray} {L : List C3} (h : MemOk K L) : L.length ≤ K.size / 16 := by
  have key : ∀ j, j < L.length → (j : Int) ≤ (L.getD j default).l := by
    intro j
    induction j with
    | zero => intro hj; have := (h.2.2 0 hj).1; omega
    | succ j ih =>
      intro hj
      have h1 := ih (by omega)
      have h2 := h.asc (i := j) (j := j + 1) (by omega) hj
      omega
  rcases Nat.eq_zero_or_pos L.length with h0 | h0
  · omega
  · have h1 := key (L.length - 1) (by omega)
    have h2 := (h.2.2 (L.length - 1) (by omega)).2.1
    omega

/-- The line of a cell, as it reads now. -/
theorem pair_mem_unique {L : List C3} (h : L.Pairwise fun a b => a.l < b.l) {a b : C3} (ha : a ∈ L) (hb : b ∈ L) (e : a.l = b.l) : a = b := by
  obtain ⟨i, hi, ea⟩ := List.getElem_of_mem ha
  obtain ⟨j, hj, eb⟩ := List.getElem_of_mem hb
  rw [List.pairwise_iff_getElem] at h
  rcases Nat.lt_trichotomy i j with hij | hij | hij
  · have := h i j hi hj hij
    rw [ea, eb] at this; omega
  · subst hij; rw [← ea, ← eb]
  · have := h j i hj hi hij
    rw [ea, eb] at this; omega
theorem lineT_mem {K : ByteArray} {L : List C3} (h : L.Pairwise fun a b => a.l < b.l) {c : C3} {l : Nat} (hc : c ∈ L) (hl : c.l = l) : lineT K L l = c.t := by
  unfold lineT
  cases hx : cellIdx L l with
  | none =>
    obtain ⟨j, hj, e⟩ := getD_mem hc
    exact absurd (by rw [e]; exact hl) (cellIdx_not hx j hj)
  | some k =>
    obtain ⟨hk, hkl, _⟩ := cellIdx_is hx
    have : L.getD k default = c := pair_mem_unique h (mem_getD hk) hc (by rw [hkl, hl])
    simp only [this]
theorem lineT_none {K : ByteArray} {L : List C3} {l : Nat} (h : ∀ c ∈ L, c.l ≠ l) : lineT K L l = K.extract (16 * l) (16 * l + 16) := by
  unfold lineT
  rw [cellIdx_none (fun j hj => h _ (mem_getD hj))]

/-- Sixteen bytes of what is kept. -/
def lineB (K : ByteArray) (l : Nat) : List UInt8 := (K.data.toList.take (16 * l + 16)).drop (16 * l)
theorem lineB_extract (K : ByteArray) (l : Nat) : (K.extract (16 * l) (16 * l + 16)).data.toList = lineB K l := extract_list _ _ _
theorem data_ext {a b : ByteArray} (h : a.data.toList = b.data.toList) : a = b := by cases a; cases b; simp at h; subst h; rfl
theorem seg_get (l : List UInt8) (a : Nat) (j : Nat) : ((l.take (a + 16)).drop a)[j]? = if j < 16 then l[a + j]? else none := by
  rw [List.getElem?_drop, List.getElem?_take]
  by_cases h : j < 16
  · rw [if_pos (by omega), if_pos h]
  · rw [if_neg (by omega), if_neg h]
theorem keepB_get {K : ByteArray} {c : C3} {xl : Nat} (h : c.l = xl) (hl : xl * 16 + 16 ≤ K.size) (ht : c.t.size = 16) (i : Nat) :
    (keepB K c).data.toList[i]? = if xl * 16 ≤ i ∧ i < xl * 16 + 16 then c.t.data.toList[i - xl * 16]? else K.data.toList[i]? := by
  have hK : K.data.toList.length = K.size := by simp
  have htl : c.t.data.toList.length = 16 := by rw [Array.length_toList]; exact ht
  have h1 : (K.data.toList.take (xl * 16)).length = xl * 16 := by rw [List.length_take]; omega
  rw [keepB_list K c xl h hl, List.append_assoc]
  by_cases ha : i < xl * 16
  · rw [if_neg (by omega), List.getElem?_append_left (by omega), List.getElem?_take, if_pos ha]
  · rw [List.getElem?_append_right (by omega), h1]
    by_cases hb : i < xl * 16 + 16
    · rw [if_pos (by omega), List.getElem?_append_left (by omega)]
    · rw [if_neg (by omega), List.getElem?_append_right (by omega), htl, List.getElem?_drop]
      congr 1; omega
theorem keepB_same {K : ByteArray} {c : C3} {l : Nat} (h : c.l = l) (hl : l * 16 + 16 ≤ K.size) (ht : c.t.size = 16) : lineB (keepB K c) l = c.t.data.toList := by
  have htl : c.t.data.toList.length = 16 := by rw [Array.length_toList]; exact ht
  apply List.ext_getElem?
  intro j
  unfold lineB
  rw [seg_get, keepB_get h hl ht]
  by_cases hj : j < 16
  · rw [if_pos hj, if_pos (by omega), show 16 * l + j - l * 16 = j by omega]
  · rw [if_neg hj, List.getElem?_eq_none (by omega)]
theorem keepB_other {K : ByteArray} {c : C3} {xl l : Nat} (h : c.l = xl) (hl : xl * 16 + 16 ≤ K.size) (ht : c.t.size = 16) (hne : xl ≠ l) : lineB (keepB K c) l = lineB K l := by
  apply List.ext_getElem?
  intro j
  unfold lineB
  rw [seg_get, seg_get]
  by_cases hj : j < 16
  · rw [if_pos hj, if_pos hj, keepB_get h hl ht, if_neg (by omega)]
  · rw [if_neg hj, if_neg hj]
theorem laid_nat {K : ByteArray} {c : C3} (h : LaidC K c) (h16 : K.size % 16 = 0) : ∃ xl : Nat, c.l = xl ∧ xl * 16 + 16 ≤ K.size := by
  refine ⟨c.l.toNat, by have := h.1; omega, ?_⟩
  have h1 := h.1
  have h2 := h.2.1
  omega
theorem laid_size {K K2 : ByteArray} (e : K2.size = K.size) {c : C3} (h : LaidC K c) : LaidC K2 c := by unfold LaidC at *; rw [e]; exact h
theorem keep_size {K : ByteArray} {c : C3} (h : LaidC K c) : (keepB K c).size = K.size := keepB_size h.1 h.2.1 h.2.2
theorem fence_size : ∀ (L : List C3) (K : ByteArray), (∀ c ∈ L, LaidC K c) → (fenceK K L).size = K.size
  | [], K, _ => rfl
  | c :: r, K, h => by
    have hc := h c (by simp)
    unfold fenceK
    rw [List.foldl_cons]
    by_cases hf : c.f = true
    · rw [if_pos hf]
      exact (fence_size r (keepB K c) (fun d hd => laid_size (keep_size hc) (h d (by simp [hd])))).trans (keep_size hc)
    · rw [if_neg hf]
      exact fence_size r K (fun d hd => h d (by simp [hd]))
/-- A line that no flagged cell has. -/
theorem fence_other {l : Nat} : ∀ (L : List C3) (K : ByteArray), K.size % 16 = 0 → (∀ c ∈ L, LaidC K c) → (∀ c ∈ L, c.f = true → c.l ≠ l) → lineB (fenceK K L) l = lineB K l
  | [], K, _, _, _ => rfl
  | c :: r, K, h16, h, hn => by
    have hc := h c (by simp)
    unfold fenceK
    rw [List.foldl_cons]
    by_cases hf : c.f = true
    · rw [if_pos hf]
      obtain ⟨xl, hx, hle⟩ := laid_nat hc h16
      have e := fence_other r (keepB K c) (by rw [keep_size hc]; exact h16) (fun d hd => laid_size (keep_size hc) (h d (by simp [hd]))) (fun d hd => hn d (by simp [hd]))
      have hne := hn c (by simp) hf
      exact e.trans (keepB_other hx hle hc.2.2 (by omega))
    · rw [if_neg hf]
      exact fence_other r K h16 (fun d hd => h d (by simp [hd])) (fun d hd => hn d (by simp [hd]))
/-- A line that a flagged cell has. -/
theorem fence_line {l : Nat} {c : C3} (hl : c.l = l) (hf : c.f = true) : ∀ (L : List C3) (K : ByteArray), K.size % 16 = 0 → (∀ c ∈ L, LaidC K c) → (L.Pairwise fun a b => a.l < b.l) → c ∈ L → lineB (fenceK K L) l = c.t.data.toList
  | [], K, _, _, _, hc => by cases hc
  | d :: r, K, h16, h, hp, hc => by
    have hd := h d (by simp)
    have hr := List.pairwise_cons.1 hp
    unfold fenceK
    rw [List.foldl_cons]
    rw [List.mem_cons] at hc
    rcases hc with rfl | hc
    · rw [if_pos hf]
      obtain ⟨xl, hx, hle⟩ := laid_nat hd h16
      have hxl : xl = l := by omega
      subst hxl
      have e := fence_other (l := xl) r (keepB K c) (by rw [keep_size hd]; exact h16) (fun e he => laid_size (keep_size hd) (h e (by simp [he]))) (fun e he _ => by have := hr.1 e he; omega)
      exact e.trans (keepB_same hx hle hd.2.2)
    · by_cases hfd : d.f = true
      · rw [if_pos hfd]
        exact fence_line hl hf r (keepB K d) (by rw [keep_size hd]; exact h16) (fun e he => laid_size (keep_size hd) (h e (by simp [he]))) hr.2 hc
      · rw [if_neg hfd]
        exact fence_line hl hf r K h16 (fun e he => h e (by simp [he])) hr.2 hc

/-- Behind a flush. -/
theorem flush_ok {K : ByteArray} {L : List C3} (l : Int) (h : MemOk K L) : MemOk K (flushL L l) := by
  unfold flushL
  cases hc : cellIdx L l with
  | none => exact h
  | some k =>
    have hk := (cellIdx_is hc).1
    refine ⟨h.1, h.2.1, fun j hj => ?_⟩
    rw [List.length_set] at hj
    have hj' := h.2.2 j hj
    have el : ∀ i, i < L.length → ((L.set k ⟨(L.getD k default).l, (L.getD k default).t, true⟩).getD i default).l = (L.getD i default).l ∧ ((L.set k ⟨(L.getD k default).l, (L.getD k default).t, true⟩).getD i default).t = (L.getD i default).t := fun i hi => by
      rw [getD_set _ _ _ _ hk]
      by_cases e : i = k
      · subst e; rw [if_pos rfl]; exact ⟨rfl, rfl⟩
      · rw [if_neg e]; exact ⟨rfl, rfl⟩
    unfold CellOk at hj' ⊢
    rw [(el j hj).1, (el j hj).2]
    refine ⟨hj'.1, hj'.2.1, hj'.2.2.1, fun h0 => ?_⟩
    rw [(el (j - 1) (by omega)).1]
    exact hj'.2.2.2 h0
theorem flush_mem {L : List C3} {l : Int} {c : C3} (hp : L.Pairwise fun a b => a.l < b.l) (hc : c ∈ L) (hl : c.l = l) : (⟨c.l, c.t, true⟩ : C3) ∈ flushL L l := by
  unfold flushL
  cases hx : cellIdx L l with
  | none =>
    obtain ⟨j, hj, e⟩ := getD_mem hc
    exact absurd (by rw [e]; exact hl) (cellIdx_not hx j hj)
  | some k =>
    obtain ⟨hk, hkl, _⟩ := cellIdx_is hx
    have e : L.getD k default = c := pair_mem_unique hp (mem_getD hk) hc (by rw [hkl, hl])
    simp only [e]
    exact List.mem_iff_getElem.2 ⟨k, by simpa using hk, by simp⟩
/-- Behind a fence. -/
theorem fence_ok {K : ByteArray} {L : List C3} (h : MemOk K L) : MemOk (fenceK K L) (fenceL L) := by
  obtain ⟨h1, h2, h3, h4⟩ := memOk_iff.1 h
  have hs := fence_size L K h3
  refine memOk_iff.2 ⟨by rw [hs]; exact h1, by rw [hs]; exact h2, fun c hc => laid_size hs (h3 c (List.mem_filter.1 hc).1), h4.filter _⟩
/-- Behind a store. -/
theorem insL_mem {l : Int} {X y : C3} : ∀ {L : List C3}, y ∈ insL l X L → y = X ∨ y ∈ L
  | [], h => by rw [insL] at h; simpa using h
  | c :: r, h => by
    rw [insL] at h
    split at h
    · rw [List.mem_cons] at h
      rcases h with rfl | h
      · exact .inr (by simp)
      · rcases insL_mem h with h | h
        · exact .inl h
        · exact .inr (by simp [h])
    · rw [List.mem_cons] at h
      rcases h with rfl | h
      · exact .inl rfl
      · exact .inr (List.mem_filter.1 h).1
theorem insL_self {l : Int} {X : C3} : ∀ {L : List C3}, X ∈ insL l X L
  | [] => by simp [insL]
  | c :: r => by
    rw [insL]
    split
    · exact List.mem_cons_of_mem _ insL_self
    · exact List.mem_cons_self
theorem insL_pair {l : Int} {X : C3} (hX : X.l = l) : ∀ {L : List C3}, (L.Pairwise fun a b => a.l < b.l) → (insL l X L).Pairwise fun a b => a.l < b.l
  | [], _ => by simp [insL]
  | c :: r, h => by
    have hr := List.pairwise_cons.1 h
    rw [insL]
    split
    · rename_i hlt
      refine List.pairwise_cons.2 ⟨fun y hy => ?_, insL_pair hX hr.2⟩
      rcases insL_mem hy with rfl | hy
      · omega
      · exact hr.1 y hy
    · rename_i hge
      refine List.pairwise_cons.2 ⟨fun y hy => ?_, h.filter _⟩
      have hm := List.mem_filter.1 hy
      have hne : ¬ y.l = l := by simpa using hm.2
      rcases List.mem_cons.1 hm.1 with rfl | hm1
      · omega
      · have := hr.1 y hm1; omega
theorem putT_size {T x : ByteArray} {k : Nat} (hT : T.size = 16) (hx : x.size = 8) (hk : k + 8 ≤ 16) : (putT T k x).size = 16 := by
  unfold putT
  simp only [ByteArray.size_append, ByteArray.size_extract, hT, hx]
  omega
theorem putC_laid {K : ByteArray} {L : List C3} {m : Nat} {x : ByteArray} (h : MemOk K L) (hm : m < K.size / 8) (hx : x.size = 8) : LaidC K (putC K L m x) := by
  have h1 := h.1
  refine ⟨by show (0 : Int) ≤ ((m / 2 : Nat) : Int); omega, by show ((m / 2 : Nat) : Int) < _; omega, ?_⟩
  exact putT_size (lineT_size h (by omega)) hx (by omega)
theorem store_ok {K : ByteArray} {L : List C3} {m : Nat} {x : ByteArray} (h : MemOk K L) (hm : m < K.size / 8) (hx : x.size = 8) : MemOk K (storeL K L m x) := by
  obtain ⟨h1, h2, h3, h4⟩ := memOk_iff.1 h
  refine memOk_iff.2 ⟨h1, h2, fun c hc => ?_, insL_pair (l := ((m / 2 : Nat) : Int)) (X := putC K L m x) rfl h4⟩
  rcases insL_mem hc with rfl | hc
  · exact putC_laid h hm hx
  · exact h3 c hc
/-- The word that was put. -/
theorem putT_word {T x : ByteArray} {k : Nat} (hT : T.size = 16) (hx : x.size = 8) (hk : k + 8 ≤ 16) : (putT T k x).extract k (k + 8) = x := by
  apply data_ext
  have hTl : T.data.toList.length = 16 := by rw [Array.length_toList]; exact hT
  have hxl : x.data.toList.length = 8 := by rw [Array.length_toList]; exact hx
  have e : (putT T k x).data.toList = T.data.toList.take k ++ (x.data.toList ++ (T.data.toList.take 16).drop (k + 8)) := by
    unfold putT
    simp only [ByteArray.data_append, Array.toList_append, extract_list, List.drop_zero, hT, List.append_assoc]
  have h1 : (T.data.toList.take k).length = k := by rw [List.length_take]; omega
  rw [extract_list, e]
  have h2 : (T.data.toList.take k ++ (x.data.toList ++ (T.data.toList.take 16).drop (k + 8))).take (k + 8) = T.data.toList.take k ++ x.data.toList := by
    rw [List.take_append, h1, List.take_of_length_le (by omega), show k + 8 - k = 8 by omega, List.take_append, hxl, List.take_of_length_le (l := x.data.toList) (by omega)]
    simp
  rw [h2]
  have h3 := List.drop_left (l₁ := T.data.toList.take k) (l₂ := x.data.toList)
  rwa [h1] at h3

/-- The word that was stored is read. -/
theorem store_word {K : ByteArray} {L : List C3} {m : Nat} {x : ByteArray} (h : MemOk K L) (hm : m < K.size / 8) (hx : x.size = 8) : wordT K (storeL K L m x) m = x := by
  have h1 := h.1
  unfold wordT
  rw [lineT_mem (store_ok h hm hx).pair (c := putC K L m x) insL_self rfl]
  exact putT_word (lineT_size h (by omega)) hx (by omega)
theorem lineT_nil (K : ByteArray) (l : Nat) : (lineT K [] l).data.toList = lineB K l := by
  rw [lineT_none (fun c hc => by cases hc)]; exact lineB_extract K l
/-- What falls. -/
theorem fall_mem {p : Int} {L : List C3} {y : C3} (h : y ∈ fallL p 0 L) : ∃ j, j < L.length ∧ y = ⟨(L.getD j default).l, (L.getD j default).t, pickB p j⟩ := by
  obtain ⟨j, hj, e⟩ := getD_mem h
  rw [fallL_length] at hj
  rw [fallL_at p L 0 j hj, Nat.zero_add] at e
  exact ⟨j, hj, e.symm⟩
theorem fall_laid {p : Int} {K : ByteArray} {L : List C3} (h : ∀ c ∈ L, LaidC K c) : ∀ c ∈ fallL p 0 L, LaidC K c := fun y hy => by
  obtain ⟨j, hj, rfl⟩ := fall_mem hy
  have := h _ (mem_getD hj)
  exact this
theorem fall_pair {p : Int} {L : List C3} (h : L.Pairwise fun a b => a.l < b.l) : (fallL p 0 L).Pairwise fun a b => a.l < b.l := by
  rw [List.pairwise_iff_getElem] at h ⊢
  intro i j hi hj hij
  rw [fallL_length] at hi hj
  have e : ∀ k (hk : k < (fallL p 0 L).length) (hk2 : k < L.length), ((fallL p 0 L)[k]).l = (L[k]).l := fun k hk hk2 => by
    have h1 := fallL_at p L 0 k hk2
    simp only [List.getD, List.getElem?_eq_getElem hk, List.getElem?_eq_getElem hk2, Option.getD_some] at h1
    rw [h1]
  rw [e i (by rw [fallL_length]; exact hi) hi, e j (by rw [fallL_length]; exact hj) hj]
  exact h i j hi hj hij
theorem fall_size {K : ByteArray} {L : List C3} (p : Int) (h : MemOk K L) : (fallK K L p).size = K.size := fence_size _ _ (fall_laid h.laid)
theorem fall_at {K : ByteArray} {L : List C3} {p : Int} (h : MemOk K L) {j l : Nat} (hj : j < L.length) (hl : (L.getD j default).l = l) :
    lineB (fallK K L p) l = if pickB p j = true then (L.getD j default).t.data.toList else lineB K l := by
  have hp := fall_pair (p := p) h.pair
  have hm : (⟨(L.getD j default).l, (L.getD j default).t, pickB p j⟩ : C3) ∈ fallL p 0 L := by
    have := mem_getD (L := fallL p 0 L) (j := j) (by rw [fallL_length]; exact hj)
    rwa [fallL_at p L 0 j hj, Nat.zero_add] at this
  by_cases hb : pickB p j = true
  · rw [if_pos hb]
    rw [hb] at hm
    exact fence_line (c := ⟨(L.getD j default).l, (L.getD j default).t, true⟩) hl rfl _ K h.1 (fall_laid h.laid) hp hm
  · rw [if_neg hb]
    refine fence_other _ K h.1 (fall_laid h.laid) (fun c hc hf e => ?_)
    have := pair_mem_unique hp hc hm (by rw [e]; exact hl.symm)
    rw [this] at hf
    exact hb hf
theorem fall_none {K : ByteArray} {L : List C3} {p : Int} (h : MemOk K L) {l : Nat} (hn : ∀ c ∈ L, c.l ≠ l) : lineB (fallK K L p) l = lineB K l := by
  refine fence_other _ K h.1 (fall_laid h.laid) (fun c hc _ => ?_)
  obtain ⟨j, hj, rfl⟩ := fall_mem hc
  have := hn _ (mem_getD hj)
  exact this
theorem wordT_of_line {K1 K2 : ByteArray} {L1 L2 : List C3} {m : Nat} (h : lineT K1 L1 (m / 2) = lineT K2 L2 (m / 2)) : wordT K1 L1 m = wordT K2 L2 m := by unfold wordT; rw [h]
/-- A word that was stored, flushed and fenced survives whatever falls. -/
theorem kept_word {K : ByteArray} {L : List C3} {m : Nat} {x : ByteArray} (p : Int) (h : MemOk K L) (hm : m < K.size / 8) (hx : x.size = 8) :
    wordT (fallK (fenceK K (flushL (storeL K L m x) ((m / 2 : Nat) : Int))) (fenceL (flushL (storeL K L m x) ((m / 2 : Nat) : Int))) p) [] m = x := by
  have hs := store_ok h hm hx
  have hf := flush_ok ((m / 2 : Nat) : Int) hs
  have hc := flush_mem (l := ((m / 2 : Nat) : Int)) hs.pair (insL_self (l := ((m / 2 : Nat) : Int)) (X := putC K L m x) (L := L)) rfl
  have h2 := fence_ok hf
  have h1 := h.1
  have hline : lineB (fenceK K (flushL (storeL K L m x) ((m / 2 : Nat) : Int))) (m / 2) = (putC K L m x).t.data.toList := fence_line (c := ⟨(putC K L m x).l, (putC K L m x).t, true⟩) rfl rfl _ K h.1 hf.laid hf.pair hc
  have hno : ∀ c ∈ fenceL (flushL (storeL K L m x) ((m / 2 : Nat) : Int)), c.l ≠ ((m / 2 : Nat) : Int) := fun c hcc e => by
    have hm2 := List.mem_filter.1 hcc
    have := pair_mem_unique hf.pair hm2.1 hc e
    rw [this] at hm2
    simp at hm2
  have e : lineT (fallK (fenceK K (flushL (storeL K L m x) ((m / 2 : Nat) : Int))) (fenceL (flushL (storeL K L m x) ((m / 2 : Nat) : Int))) p) [] (m / 2) = (putC K L m x).t := by
    apply data_ext
    rw [lineT_nil, fall_none h2 hno, hline]
  unfold wordT
  rw [e]
  exact putT_word (lineT_size h (by omega)) hx (by omega)
/-- A word that was stored and not fenced is there or is what was kept. -/
theorem unsure_word {K : ByteArray} {L : List C3} {m : Nat} {x : ByteArray} (p : Int) (h : MemOk K L) (hm : m < K.size / 8) (hx : x.size = 8) :
    wordT (fallK K (storeL K L m x) p) [] m = x ∨ wordT (fallK K (storeL K L m x) p) [] m = wordT K [] m := by
  have hs := store_ok h hm hx
  have h1 := h.1
  obtain ⟨j, hj, e⟩ := getD_mem (L := storeL K L m x) (c := putC K L m x) insL_self
  have hat := fall_at (p := p) (l := m / 2) hs hj (by rw [e]; rfl)
  rw [e] at hat
  by_cases hb : pickB p j = true
  · left
    rw [if_pos hb] at hat
    have e2 : lineT (fallK K (storeL K L m x) p) [] (m / 2) = (putC K L m x).t := by
      apply data_ext
      rw [lineT_nil]; exact hat
    unfold wordT
    rw [e2]
    exact putT_word (lineT_size h (by omega)) hx (by omega)
  · right
    rw [if_neg hb] at hat
    exact wordT_of_line (data_ext (by rw [lineT_nil, lineT_nil]; exact hat))
/-- With all picks it is as if all was sure. -/
theorem all_word {K : ByteArray} {L : List C3} {p : Int} (h : MemOk K L) (hp : ∀ j, j < L.length → pickB p j = true) {j m : Nat} (hj : j < L.length) (hl : (L.getD j default).l = ((m / 2 : Nat) : Int)) : wordT (fallK K L p) [] m = wordT K L m := by
  refine wordT_of_line (data_ext ?_)
  rw [lineT_nil, fall_at h hj hl, if_pos (hp j hj), lineT_mem h.pair (mem_getD hj) hl]
theorem pick_all (j : Nat) (hj : j < 63) : pickB 9223372036854775807 j = true := by
  have : ∀ j : Fin 63, pickB 9223372036854775807 j.val = true := by decide +kernel
  exact this ⟨j, hj⟩
end Go.Proofs.Ytpahihcnmpeenaa
namespace Go.Proofs.Ytpahihcnmpeenaa
open Go.RowKit
namespace Draw

theorem and255 (y : Int) : 0 ≤ bits .and .i64 y 255 ∧ bits .and .i64 y 255 ≤ 255 := by
  have h : (BitVec.ofInt 64 y &&& BitVec.ofInt 64 255).toNat ≤ 255 := by
    rw [BitVec.toNat_and]; exact Nat.le_trans Nat.and_le_right (by decide)
  have e : bits .and .i64 y 255 = IntKind.i64.wrap ((BitVec.ofInt 64 y &&& BitVec.ofInt 64 255).toNat : Int) := rfl
  rw [e, IntWalk.i64_in _ (by omega)]
  omega

/-- The text that is drawn from: bytes, in blocks below B. -/
def Src (w : World) (B : Nat) (ad : Option Addr) (len : Nat) : Prop := ∀ i, i < len → ∃ b off z, ad = some ⟨b, off, none⟩ ∧ b < B ∧ (0 : Int) ≤ z ∧ z ≤ 255 ∧ w.cell? ⟨b, off + i, none⟩ = some (.int .u8 z)

/-- The cursor in block c. -/
def Cur (w : World) (c : Nat) (ad : Option Addr) (len cap : Nat) : Prop :=
  ∃ (i : Nat) (h : Int), i ≤ len ∧ w.heap[c]? = some (.cells #[.slice ad len cap, .int .i64 i, .int .i64 h] 76 (0, 0))

def BytePost (w : World) (c : Nat) (ad : Option Addr) (len cap : Nat) (e : Ending) (w' : World) : Prop :=
  ∃ x : Int, 0 ≤ x ∧ x ≤ 255 ∧ e = .returned (.int .i64 x) ∧ Cur w' c ad len cap ∧ w.grownBy w' (some c)

theorem grownBy_refl (w : World) (r : Option Nat) : w.grownBy w r := ⟨rfl, rfl, rfl, Nat.le_refl _, fun _ _ _ => rfl⟩
theorem grownBy_trans {a b c : World} {r : Option Nat} (h : a.grownBy b r) (k : b.grownBy c r) : a.grownBy c r :=
  ⟨k.os.trans h.os, k.tape.trans h.tape, k.output.trans h.output, Nat.le_trans h.size k.size, fun i hi hr => (k.block i (Nat.lt_of_lt_of_le hi h.size) hr).trans (h.block i hi hr)⟩

theorem grownBy_set {a w : World} {c : Nat} (h : a.grownBy w (some c)) (j : Nat) (v : Value) : a.grownBy (w.setCell ⟨c, j, none⟩ v) (some c) :=
  grownBy_trans h ⟨rfl, rfl, rfl, by simp [World.setCell], fun k hk hr => Below.heap_setCell _ _ _ _ (fun e => hr (by rw [e]))⟩
theorem grownBy_draws {a w : World} {r : Option Nat} (h : a.grownBy w r) (n : Nat) : a.grownBy (w.drewN n) r := ⟨h.os, h.tape, h.output, h.size, h.block⟩
theorem block_set {w : World} {c j : Nat} {cs : Array Value} {t : TypeId} (h : w.heap[c]? = some (.cells cs t (0, 0))) (v : Value) : (w.setCell ⟨c, j, none⟩ v).heap[c]? = some (.cells (cs.setIfInBounds j v) t (0, 0)) :=
  heap_setCell_same w c j cs t v h

set_option maxRecDepth 100000 in
set_option maxHeartbeats 1000000 in
theorem byte_any (c : Nat) (ad : Option Addr) (len cap : Nat) (w : World) (hlen : len ≤ 1048576) (hc : Cur w c ad len cap) (hs : Src w c ad len) :
    Calls Try.prog 77 #[.pointer (some ⟨c, 0, none⟩)] w (BytePost w c ad len cap) := by
  obtain ⟨i, h, hi, hb⟩ := hc
  have f0 : w.cell? ⟨c, 0, none⟩ = some (.slice ad len cap) := by simp [World.cell?, hb]
  have f1 : w.cell? ⟨c, 1, none⟩ = some (.int .i64 i) := by simp [World.cell?, hb]
  have f2 : w.cell? ⟨c, 2, none⟩ = some (.int .i64 h) := by simp [World.cell?, hb]
  have z2 : w.frozen? ⟨c, 2, none⟩ = false := by simp [World.frozen?, hb]
  have z1 : w.frozen? ⟨c, 1, none⟩ = false := by simp [World.frozen?, hb]
  have HB := Lib.hid hb
  clear hb
  by_cases hlt : i < len
  · obtain ⟨b, off, z, rfl, hbc, hz0, hz1, hz⟩ := hs i hlt
    have hz' : ∀ x, (w.setCell ⟨c, 2, none⟩ x).cell? ⟨b, off + i, none⟩ = some (.int .u8 z) := fun x => by
      rw [World.cell?_of_block (w := w) (Below.heap_setCell _ _ _ _ (by show b ≠ c; omega))]; exact hz
    go_enter Try.func77, Try.ntmps77
    go_wp2
    go_quiet (fail)
    go_wp2
    go_quiet (fail)
    go_wp2
    go_quiet (fail)
    go_wp2
    go_ret
    exact ⟨_, (and255 _).1, (and255 _).2, rfl, ⟨i + 1, _, by omega, block_set (block_set HB.out _) _⟩, grownBy_set (grownBy_draws (grownBy_set (grownBy_refl w _) 2 _) _) 1 _⟩
  · go_enter Try.func77, Try.ntmps77
    go_wp2
    go_quiet (fail)
    go_wp2
    go_quiet (fail)
    go_wp2
    go_ret
    exact ⟨_, (and255 _).1, (and255 _).2, rfl, ⟨i, _, hi, block_set HB.out _⟩, grownBy_draws (grownBy_draws (grownBy_set (grownBy_refl w _) 2 _) _) _⟩

theorem cur_lt {w : World} {c : Nat} {ad : Option Addr} {len cap : Nat} (h : Cur w c ad len cap) : c < w.heap.size := by
  obtain ⟨i, h, _, hb⟩ := h
  exact (Array.getElem?_eq_some_iff.1 hb).1
theorem src_grown {w w' : World} {c : Nat} {ad : Option Addr} {len : Nat} (hs : Src w c ad len) (hg : w.grownBy w' (some c)) (hc : c < w.heap.size) : Src w' c ad len := by
  intro i hi
  obtain ⟨b, off, z, h1, h2, h3, h4, h5⟩ := hs i hi
  exact ⟨b, off, z, h1, h2, h3, h4, by rw [World.cell?_of_block (w := w) (hg.block b (by omega) (fun e => by simp at e; omega))]; exact h5⟩

def NumPost (n : Int) (w : World) (c : Nat) (ad : Option Addr) (len cap : Nat) (e : Ending) (w' : World) : Prop :=
  ∃ x : Int, 0 ≤ x ∧ x < n ∧ e = .returned (.int .i64 x) ∧ Cur w' c ad len cap ∧ w.grownBy w' (some c)

set_option maxRecDepth 100000 in
set_option maxHeartbeats 1000000 in
theorem below_small (c : Nat) (ad : Option Addr) (len cap : Nat) (n : Int) (w : World) (hlen : len ≤ 1048576) (hn : 0 < n) (hn2 : n ≤ 256) (hc : Cur w c ad len cap) (hs : Src w c ad len) :
    Calls Try.prog 60 #[.pointer (some ⟨c, 0, none⟩), .int .i64 n] w (NumPost n w c ad len cap) := by
  have hz : (n == 0) = false := by simp; omega
  have HC := Lib.hid hc
  have HS := Lib.hid hs
  clear hc hs
  go_enter Try.func60, Try.ntmps60
  go_wp2_with fail
  refine (byte_any c ad len cap w hlen HC.out HS.out).mono ?_
  rintro e w1 ⟨x, x0, x1, rfl, hc1, hg1⟩
  have C1 := Lib.hid hc1
  have G1 := Lib.hid hg1
  clear hc1 hg1
  go_wp2
  go_ret
  exact ⟨_, Int.emod_nonneg _ (by omega), Int.emod_lt_of_pos _ hn, rfl, C1.out, G1.out⟩

set_option maxRecDepth 100000 in
set_option maxHeartbeats 1000000 in
theorem below_big (c : Nat) (ad : Option Addr) (len cap : Nat) (n : Int) (w : World) (hlen : len ≤ 1048576) (hn : 256 < n) (hn2 : n ≤ 4611686018427387904) (hc : Cur w c ad len cap) (hs : Src w c ad len) :
    Calls Try.prog 60 #[.pointer (some ⟨c, 0, none⟩), .int .i64 n] w (NumPost n w c ad len cap) := by
  have hz : (n == 0) = false := by simp; omega
  have HC := Lib.hid hc
  have HS := Lib.hid hs
  clear hc hs
  go_enter Try.func60, Try.ntmps60
  go_wp2_with fail
  refine (byte_any c ad len cap w hlen HC.out HS.out).mono ?_
  rintro e w1 ⟨x, x0, x1, rfl, hc1, hg1⟩
  have S1 := Lib.hid (src_grown HS.out hg1 (cur_lt HC.out))
  have C1 := Lib.hid hc1
  have G1 := Lib.hid hg1
  clear hc1 hg1
  go_wp2_with fail
  refine (byte_any c ad len cap w1 hlen C1.out S1.out).mono ?_
  rintro e w2 ⟨y, y0, y1, rfl, hc2, hg2⟩
  have S2 := Lib.hid (src_grown S1.out hg2 (cur_lt C1.out))
  have C2 := Lib.hid hc2
  have G2 := Lib.hid (grownBy_trans G1.out hg2)
  clear hc2 hg2
  go_wp2_with fail
  refine (byte_any c ad len cap w2 hlen C2.out S2.out).mono ?_
  rintro e w3 ⟨z, z0, z1, rfl, hc3, hg3⟩
  have S3 := Lib.hid (src_grown S2.out hg3 (cur_lt C2.out))
  have C3 := Lib.hid hc3
  have G3 := Lib.hid (grownBy_trans G2.out hg3)
  clear hc3 hg3
  go_wp2_with fail
  refine (byte_any c ad len cap w3 hlen C3.out S3.out).mono ?_
  rintro e w4 ⟨v, v0, v1, rfl, hc4, hg4⟩
  have C4 := Lib.hid hc4
  have G4 := Lib.hid (grownBy_trans G3.out hg4)
  clear hc4 hg4
  go_wp2
  go_ret
  exact ⟨_, Int.emod_nonneg _ (by omega), Int.emod_lt_of_pos _ (by omega), rfl, C4.out, G4.out⟩

/-- A drawn number is at least 0 and below the bound. -/
theorem below_any (c : Nat) (ad : Option Addr) (len cap : Nat) (n : Int) (w : World) (hlen : len ≤ 1048576) (hn : 0 < n) (hn2 : n ≤ 4611686018427387904) (hc : Cur w c ad len cap) (hs : Src w c ad len) :
    Calls Try.prog 60 #[.pointer (some ⟨c, 0, none⟩), .int .i64 n] w (NumPost n w c ad len cap) := by
  by_cases h : n ≤ 256
  · exact below_small c ad len cap n w hlen hn h hc hs
  · exact below_big c ad len cap n w hlen (by omega) hn2 hc hs

set_option maxRecDepth 100000 in
set_option maxHeartbeats 1000000 in
theorem new_any (ad : Option Addr) (len cap : Nat) (w : World) (hlen : len ≤ 1048576) (hs : Src w w.heap.size ad len) :
    Calls Try.prog 43 #[.slice ad len cap] w fun e w' => e = .returned (.pointer (some ⟨w.heap.size, 0, none⟩)) ∧ ∃ h : Int, w' = w.alloc (.cells #[.slice ad len cap, .int .i64 0, .int .i64 h] 76) := by
  have HS := Lib.hid hs
  clear hs
  go_enter Try.func43, Try.ntmps43
  go_wp2
  go_loop [3, 4] (fun hv iv => ∃ (i : Nat) (h : Int), i ≤ len ∧ hv = .int .i64 h ∧ iv = .int .i64 i) (fun _ iv => len - (intOf iv).toNat)
  case atStart => exact ⟨0, _, Nat.zero_le _, rfl, rfl⟩
  case round =>
    obtain ⟨i, h, hi, rfl, rfl⟩ := hrel
    by_cases hlt : i < len
    · by_cases h4 : i < 4000
      · obtain ⟨b, off, z, rfl, hbc, hz0, hz1, hz⟩ := HS.out i hlt
        go_wp2
        go_round
        case rel => exact ⟨i + 1, _, by omega, rfl, by go_num⟩
        case measure => (simp [intOf]; try omega)
      · go_wp2
        go_ret
        exact ⟨rfl, _, rfl⟩
    · obtain rfl : i = len := by omega
      go_wp2
      go_ret
      exact ⟨rfl, _, rfl⟩
end Draw
end Go.Proofs.Ytpahihcnmpeenaa
