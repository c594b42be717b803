/- The model's StoreWord. -/
import Derived.Test.YtlemlgadjapamaaStoreS
namespace Go.Proofs.Ytlemlgadjapamaa
open Go.RowKit Go.Proofs.Ytlemlgadjapamaa.Parts Go.Proofs.Ytlemlgadjapamaa.Hexa

set_option maxRecDepth 100000 in
set_option maxHeartbeats 2000000 in
theorem specStore_any (K : ByteArray) (a : Option Addr) (n c : Nat) (L : List C3) (i : Int) (x : ByteArray) (w : World) (hs : SrcC w a n L) (hn : n ≤ 1048600) (hK : K.size ≤ 1048600) (hF : FitT L 1048600) (hx9 : x.size ≤ 1048600) :
    Calls Try.prog 16 #[.agg #[.string K, .slice a n c], .int .i64 i, .string x] w (GivesM K (storedL K L i x) w) := by
  have HS := Lib.hid hs
  have HL := Lib.hid hs.len
  have HF := Lib.hid hF
  have hb0 : Below w.heap.size w ((w.alloc (.cells #[.string K, .slice a n c] 26)).alloc (.cells #[.string ⟨#[]⟩, .slice none 0 0] 26)) := ((Below.refl _ _).alloc (Nat.le_refl _) _).alloc (by simp) _
  have k0 : Two ((w.alloc (.cells #[.string K, .slice a n c] 26)).alloc (.cells #[.string ⟨#[]⟩, .slice none 0 0] 26)) w.heap.size (.string K) (.slice a n c) 26 := (Two.alloc w _ _ _).later (below_alloc _ _)
  have k1 : Two ((w.alloc (.cells #[.string K, .slice a n c] 26)).alloc (.cells #[.string ⟨#[]⟩, .slice none 0 0] 26)) (w.heap.size + 1) (.string ⟨#[]⟩) (.slice none 0 0) 26 := by
    have h := Two.alloc (w.alloc (.cells #[.string K, .slice a n c] 26)) (.string ⟨#[]⟩) (.slice none 0 0) 26
    simpa using h
  have k3 : ((w.alloc (.cells #[.string K, .slice a n c] 26)).alloc (.cells #[.string ⟨#[]⟩, .slice none 0 0] 26)).heap.size = w.heap.size + 2 := by simp
  have K0 := Lib.hid k0
  have K1 := Lib.hid k1
  have K3 := Lib.hid k3
  have B0 := Lib.hid hb0
  clear hs hF hb0 k0 k1 k3
  go_enter Try.func16, Try.ntmps16
  go_wp2_with fail
  obtain ⟨W2, hW⟩ : ∃ x, x = (w.alloc (.cells #[.string K, .slice a n c] 26)).alloc (.cells #[.string ⟨#[]⟩, .slice none 0 0] 26) := ⟨_, rfl⟩
  rw [← hW] at K0 K1 K3 B0 ⊢
  clear hW
  refine (specOk_any K a n c L W2 (HS.out.later B0.out) hn hK).mono ?_
  rintro e w1 ⟨rfl, hb1⟩
  have T1 := Lib.hid (K0.out.later hb1)
  have R1 := Lib.hid (K1.out.later hb1)
  have B1 : Hid (Below w.heap.size w w1) := Lib.hid (B0.out.trans (hb1.mono B0.out.size))
  have S1 : Hid (w.heap.size + 2 ≤ w1.heap.size) := Lib.hid (by have := hb1.size; rw [K3.out] at this; exact this)
  clear hb1 K0 K1
  by_cases hok : MemOk K L
  · rw [memOkB_yes hok]
    by_cases hs8 : x.size = 8
    · have hi8 : (x.size : Int) = 8 := by omega
      have z0 := T1.out.c0
      have z1 := T1.out.c1
      go_wp2_with fail
      clear z0 z1
      refine (words_any K _ _ hK).mono ?_
      rintro e w5 ⟨rfl, hbw⟩
      replace T1 := Lib.hid (T1.out.later hbw)
      replace R1 := Lib.hid (R1.out.later hbw)
      replace S1 : Hid (w.heap.size + 2 ≤ w5.heap.size) := Lib.hid (Nat.le_trans S1.out hbw.size)
      replace B1 : Hid (Below w.heap.size w w5) := Lib.hid (B1.out.trans (hbw.mono B1.out.size))
      clear hbw
      go_wp2_with fail
      by_cases hh : Has K i
      · obtain ⟨m, rfl⟩ : ∃ m : Nat, i = m := ⟨i.toNat, by have := hh.1; omega⟩
        have hm : m < K.size / 8 := by have := hh.2; omega
        refine (range_yes _ (by have := hh.2; omega)).mono ?_
        rintro e w6 ⟨rfl, rfl⟩
        have HEQ := Lib.hid (storedL_yes hok hs8 hm)
        have HOK := Lib.hid hok
        have HM := Lib.hid hm
        have HS8 := Lib.hid hs8
        clear hok hh hm hs8
        have z0 := T1.out.c0
        have z1 := T1.out.c1
        go_wp2_with fail
        clear z0 z1
        refine (l10Store_any K a n c L m x w6 (HS.out.later B1.out) hn HOK.out HM.out HS8.out).mono ?_
        rintro e w2 ⟨v, rfl, hown, hb2⟩
        obtain ⟨ad, cap, rfl, hnc, hcm, hpl⟩ := ownE_form hown
        have R2 := Lib.hid (R1.out.later hb2)
        have B2 : Hid (Below w.heap.size w w2) := Lib.hid (B1.out.trans (hb2.mono B1.out.size))
        have O2 := Lib.hid hown
        obtain ⟨LL, hLL⟩ : ∃ LL, LL = storeL K L m x := ⟨_, rfl⟩
        rw [← hLL] at O2
        have HE : Hid (storedL K L (m : Int) x = LL) := Lib.hid (by rw [hLL]; exact HEQ.out)
        have r0 := R2.out.c0
        have r1 := R2.out.c1
        have f0 := R2.out.fr (o := 0)
        have f1 := R2.out.fr (o := 1)
        rw [← hLL]
        have q := two_set1 (two_set0 R2.out (x := .string K)) (x := .slice ad LL.length cap)
        have q0 := cell0_of_two q
        have q1 := cell1_of_two q
        clear q hown hb2 hpl hcm hnc hLL
        go_wp2
        refine bodyPost_ret (v := .agg #[.string K, .slice ad LL.length cap]) ?_ rfl ⟨_, rfl, ?_, (B2.out.setCell (by simp) _).setCell (by simp) _⟩
        · simp [results, Try.results16, go_sem, q0, q1]
        · rw [HE.out]
          have hne : ∀ g, (Value.slice ad LL.length cap).ownBlock = some g → w.heap.size + 2 ≤ g := fun g hg => Nat.le_trans S1.out (O2.out.lt g hg).1
          exact ownsRow_setCell_other (ownsRow_setCell_other (ownE_mono O2.out B1.out.size) (fun h => by have := hne _ h; simp at this) _) (fun h => by have := hne _ h; simp at this) _
      · refine (range_no _ (fun h => hh ⟨h.1, by omega⟩)).mono ?_
        rintro e w6 ⟨rfl, rfl⟩
        have HEQ := Lib.hid (storedL_no (L := L) (x := x) hh)
        clear hok hh
        have z0 := T1.out.c0
        have z1 := T1.out.c1
        go_wp2_with fail
        clear z0 z1
        refine (specCopy_any K a n c L w6 (HS.out.later B1.out) hn).mono ?_
        rintro e w2 ⟨v, rfl, hown, hb2⟩
        obtain ⟨ad, cap, rfl, hnc, hcm, hpl⟩ := ownE_form hown
        have R2 := Lib.hid (R1.out.later hb2)
        have B2 : Hid (Below w.heap.size w w2) := Lib.hid (B1.out.trans (hb2.mono B1.out.size))
        have O2 := Lib.hid hown
        obtain ⟨LL, hLL⟩ : ∃ LL, LL = L := ⟨_, rfl⟩
        rw [← hLL] at O2
        have HE : Hid (storedL K L i x = LL) := Lib.hid (by rw [hLL]; exact HEQ.out)
        have r0 := R2.out.c0
        have r1 := R2.out.c1
        have f0 := R2.out.fr (o := 0)
        have f1 := R2.out.fr (o := 1)
        rw [← hLL]
        have q := two_set1 (two_set0 R2.out (x := .string K)) (x := .slice ad LL.length cap)
        have q0 := cell0_of_two q
        have q1 := cell1_of_two q
        clear q hown hb2 hpl hcm hnc hLL
        go_wp2
        refine bodyPost_ret (v := .agg #[.string K, .slice ad LL.length cap]) ?_ rfl ⟨_, rfl, ?_, (B2.out.setCell (by simp) _).setCell (by simp) _⟩
        · simp [results, Try.results16, go_sem, q0, q1]
        · rw [HE.out]
          have hne : ∀ g, (Value.slice ad LL.length cap).ownBlock = some g → w.heap.size + 2 ≤ g := fun g hg => Nat.le_trans S1.out (O2.out.lt g hg).1
          exact ownsRow_setCell_other (ownsRow_setCell_other (ownE_mono O2.out B1.out.size) (fun h => by have := hne _ h; simp at this) _) (fun h => by have := hne _ h; simp at this) _
    · have HEQ := Lib.hid (storedL_size (K := K) (L := L) (i := i) hs8)
      have hi8 : ((x.size : Int) != 8) = true := by have : ¬ ((x.size : Int) = 8) := by omega
                                                    simpa using this
      clear hok hs8
      have z0 := T1.out.c0
      have z1 := T1.out.c1
      go_wp2_with fail
      clear z0 z1
      refine (specCopy_any K a n c L w1 (HS.out.later B1.out) hn).mono ?_
      rintro e w2 ⟨v, rfl, hown, hb2⟩
      obtain ⟨ad, cap, rfl, hnc, hcm, hpl⟩ := ownE_form hown
      have R2 := Lib.hid (R1.out.later hb2)
      have B2 : Hid (Below w.heap.size w w2) := Lib.hid (B1.out.trans (hb2.mono B1.out.size))
      have O2 := Lib.hid hown
      obtain ⟨LL, hLL⟩ : ∃ LL, LL = L := ⟨_, rfl⟩
      rw [← hLL] at O2
      have HE : Hid (storedL K L i x = LL) := Lib.hid (by rw [hLL]; exact HEQ.out)
      have r0 := R2.out.c0
      have r1 := R2.out.c1
      have f0 := R2.out.fr (o := 0)
      have f1 := R2.out.fr (o := 1)
      rw [← hLL]
      have q := two_set1 (two_set0 R2.out (x := .string K)) (x := .slice ad LL.length cap)
      have q0 := cell0_of_two q
      have q1 := cell1_of_two q
      clear q hown hb2 hpl hcm hnc hLL
      go_wp2
      refine bodyPost_ret (v := .agg #[.string K, .slice ad LL.length cap]) ?_ rfl ⟨_, rfl, ?_, (B2.out.setCell (by simp) _).setCell (by simp) _⟩
      · simp [results, Try.results16, go_sem, q0, q1]
      · rw [HE.out]
        have hne : ∀ g, (Value.slice ad LL.length cap).ownBlock = some g → w.heap.size + 2 ≤ g := fun g hg => Nat.le_trans S1.out (O2.out.lt g hg).1
        exact ownsRow_setCell_other (ownsRow_setCell_other (ownE_mono O2.out B1.out.size) (fun h => by have := hne _ h; simp at this) _) (fun h => by have := hne _ h; simp at this) _
  · rw [memOkB_no hok]
    have HEQ := Lib.hid (storedL_bad (i := i) (x := x) hok)
    clear hok
    have z0 := T1.out.c0
    have z1 := T1.out.c1
    go_wp2_with fail
    clear z0 z1
    refine (specCopy_any K a n c L w1 (HS.out.later B1.out) hn).mono ?_
    rintro e w2 ⟨v, rfl, hown, hb2⟩
    obtain ⟨ad, cap, rfl, hnc, hcm, hpl⟩ := ownE_form hown
    have R2 := Lib.hid (R1.out.later hb2)
    have B2 : Hid (Below w.heap.size w w2) := Lib.hid (B1.out.trans (hb2.mono B1.out.size))
    have O2 := Lib.hid hown
    obtain ⟨LL, hLL⟩ : ∃ LL, LL = L := ⟨_, rfl⟩
    rw [← hLL] at O2
    have HE : Hid (storedL K L i x = LL) := Lib.hid (by rw [hLL]; exact HEQ.out)
    have r0 := R2.out.c0
    have r1 := R2.out.c1
    have f0 := R2.out.fr (o := 0)
    have f1 := R2.out.fr (o := 1)
    rw [← hLL]
    have q := two_set1 (two_set0 R2.out (x := .string K)) (x := .slice ad LL.length cap)
    have q0 := cell0_of_two q
    have q1 := cell1_of_two q
    clear q hown hb2 hpl hcm hnc hLL
    go_wp2
    refine bodyPost_ret (v := .agg #[.string K, .slice ad LL.length cap]) ?_ rfl ⟨_, rfl, ?_, (B2.out.setCell (by simp) _).setCell (by simp) _⟩
    · simp [results, Try.results16, go_sem, q0, q1]
    · rw [HE.out]
      have hne : ∀ g, (Value.slice ad LL.length cap).ownBlock = some g → w.heap.size + 2 ≤ g := fun g hg => Nat.le_trans S1.out (O2.out.lt g hg).1
      exact ownsRow_setCell_other (ownsRow_setCell_other (ownE_mono O2.out B1.out.size) (fun h => by have := hne _ h; simp at this) _) (fun h => by have := hne _ h; simp at this) _
end Go.Proofs.Ytlemlgadjapamaa
