/- The model's WordAt. -/
import Derived.Test.YtlemlgadjapamaaMemWord
namespace Go.Proofs.Ytlemlgadjapamaa
open Go.RowKit Go.Proofs.Ytlemlgadjapamaa.Parts Go.Proofs.Ytlemlgadjapamaa.Hexa

theorem specLine_i (K : ByteArray) (a : Option Addr) (n c : Nat) (L : List C3) (i : Int) (l : Nat) (w : World) (hi : i = l) (hs : SrcC w a n L) (hn : n ≤ 1048600) (hok : MemOk K L) (hl : l < K.size / 16) :
    Calls Try.prog 81 #[.agg #[.string K, .slice a n c], .int .i64 i] w fun e w' => e = .returned (.string (lineT K L l)) ∧ Below w.heap.size w w' := by
  subst hi; exact specLine_any K a n c L l w hs hn hok hl
theorem wordT_of {K : ByteArray} {L : List C3} {m : Nat} {T : ByteArray} (hT : lineT K L (m / 2) = T) : (m % 2 = 0 → wordT K L m = T.extract 0 8) ∧ (m % 2 = 1 → wordT K L m = T.extract 8 16) := by
  unfold wordT
  rw [hT]
  exact ⟨fun h => by rw [h], fun h => by rw [h]⟩

set_option maxRecDepth 100000 in
set_option maxHeartbeats 1000000 in
theorem specL10Word_any (K : ByteArray) (a : Option Addr) (n c : Nat) (L : List C3) (m : Nat) (w : World) (hs : SrcC w a n L) (hn : n ≤ 1048600) (hok : MemOk K L) (hm : m < K.size / 8) :
    Calls Try.prog 56 #[.agg #[.string K, .slice a n c], .int .i64 m] w fun e w' => e = .returned (.string (wordT K L m)) ∧ Below w.heap.size w w' := by
  have HS := Lib.hid hs
  have HOK := Lib.hid hok
  have hk2 := hok.2.1
  have hk1 := hok.1
  have B0 := Lib.hid (below_alloc w (.cells #[.string K, .slice a n c] 26))
  have hl : m / 2 < K.size / 16 := by omega
  have hTs := lineT_size hok hl
  obtain ⟨T, hT⟩ : ∃ T, lineT K L (m / 2) = T := ⟨_, rfl⟩
  rw [hT] at hTs
  have HT := Lib.hid hT
  have HW := Lib.hid (wordT_of hT)
  have HLL := Lib.hid hl
  clear hs hok hT hl hk1
  rcases Nat.mod_two_eq_zero_or_one m with h2 | h2
  · have hi2 : (m : Int) % 2 = 0 := by omega
    have HE := Lib.hid (HW.out.1 h2)
    clear h2
    go_enter Try.func56, Try.ntmps56
    go_wp2_with fail
    refine (specLine_i K _ n c L _ (m / 2) _ (by omega) (HS.out.later B0.out) hn HOK.out HLL.out).mono ?_
    rw [HT.out]
    rintro e w1 ⟨rfl, hb1⟩
    go_wp2
    go_ret
    exact ⟨ret_strm HE.out.symm, B0.out.trans (hb1.mono B0.out.size)⟩
  · have hi2 : (m : Int) % 2 = 1 := by omega
    have HE := Lib.hid (HW.out.2 h2)
    clear h2
    go_enter Try.func56, Try.ntmps56
    go_wp2_with fail
    refine (specLine_i K _ n c L _ (m / 2) _ (by omega) (HS.out.later B0.out) hn HOK.out HLL.out).mono ?_
    rw [HT.out]
    rintro e w1 ⟨rfl, hb1⟩
    go_wp2
    go_ret
    exact ⟨ret_strm HE.out.symm, B0.out.trans (hb1.mono B0.out.size)⟩

set_option maxRecDepth 100000 in
set_option maxHeartbeats 400000 in
theorem words_any (K : ByteArray) (v : Value) (w : World) (hK : K.size ≤ 1048600) :
    Calls Try.prog 52 #[.agg #[.string K, v]] w fun e w' => e = .returned (.int .i64 ((K.size / 8 : Nat) : Int)) ∧ Below w.heap.size w w' := by
  have B0 := Lib.hid (below_alloc w (.cells #[.string K, v] 26))
  go_enter Try.func52, Try.ntmps52
  go_wp2
  go_ret
  exact ⟨ret_intm (by omega), B0.out⟩

set_option maxRecDepth 100000 in
set_option maxHeartbeats 1000000 in
theorem specWordAt_any (K : ByteArray) (a : Option Addr) (n c : Nat) (L : List C3) (i : Int) (w : World) (hs : SrcC w a n L) (hn : n ≤ 1048600) (hK : K.size ≤ 1048600) :
    Calls Try.prog 18 #[.agg #[.string K, .slice a n c], .int .i64 i] w fun e w' => e = .returned (.string (wordAtB K L i)) ∧ Below w.heap.size w w' := by
  have HS := Lib.hid hs
  have B0 := Lib.hid (below_alloc w (.cells #[.string K, .slice a n c] 26))
  have T0 := Lib.hid (Two.alloc w (.string K) (.slice a n c) 26)
  clear hs
  by_cases hok : MemOk K L
  · have HOK := Lib.hid hok
    have HBB := Lib.hid (memOkB_yes hok)
    clear hok
    by_cases hh : Has K i
    · obtain ⟨m, rfl⟩ : ∃ m : Nat, i = m := ⟨i.toNat, by have := hh.1; omega⟩
      have hm : m < K.size / 8 := by have := hh.2; omega
      have HR : Hid ((0 : Int) ≤ (m : Int) ∧ (m : Int) ≤ ((K.size / 8 : Nat) : Int) - 1) := Lib.hid (by omega)
      have HE : Hid (wordAtB K L (m : Int) = wordT K L m) := Lib.hid (wordAtB_yes HOK.out hm)
      have HMM := Lib.hid hm
      clear hh hm
      go_enter Try.func18, Try.ntmps18
      go_wp2_with fail
      refine (specOk_any K a n c L _ (HS.out.later B0.out) hn hK).mono ?_
      rw [HBB.out]
      rintro e w1 ⟨rfl, hb1⟩
      have T1 := Lib.hid (T0.out.later hb1)
      have B1 := Lib.hid (B0.out.trans (hb1.mono B0.out.size))
      have c0 := T1.out.c0
      have c1 := T1.out.c1
      clear hb1
      go_wp2_with fail
      refine (words_any K _ _ hK).mono ?_
      rintro e w2 ⟨rfl, hb2⟩
      have T2 := Lib.hid (T1.out.later hb2)
      have B2 := Lib.hid (B1.out.trans (hb2.mono B1.out.size))
      clear c0 c1 hb2
      have c0 := T2.out.c0
      have c1 := T2.out.c1
      go_wp2_with fail
      refine (range_yes _ HR.out).mono ?_
      rintro e w3 ⟨rfl, rfl⟩
      go_wp2_with fail
      refine (specL10Word_any K a n c L m _ (HS.out.later B2.out) hn HOK.out HMM.out).mono ?_
      rintro e w4 ⟨rfl, hb4⟩
      go_wp2
      go_ret
      exact ⟨ret_strm HE.out.symm, B2.out.trans (hb4.mono B2.out.size)⟩
    · have HR : Hid (¬ ((0 : Int) ≤ i ∧ i ≤ ((K.size / 8 : Nat) : Int) - 1)) := Lib.hid (fun h => hh ⟨h.1, by omega⟩)
      have HE : Hid (wordAtB K L i = ⟨#[]⟩) := Lib.hid (wordAtB_no hh)
      clear hh
      go_enter Try.func18, Try.ntmps18
      go_wp2_with fail
      refine (specOk_any K a n c L _ (HS.out.later B0.out) hn hK).mono ?_
      rw [HBB.out]
      rintro e w1 ⟨rfl, hb1⟩
      have T1 := Lib.hid (T0.out.later hb1)
      have B1 := Lib.hid (B0.out.trans (hb1.mono B0.out.size))
      have c0 := T1.out.c0
      have c1 := T1.out.c1
      clear hb1
      go_wp2_with fail
      refine (words_any K _ _ hK).mono ?_
      rintro e w2 ⟨rfl, hb2⟩
      have B2 := Lib.hid (B1.out.trans (hb2.mono B1.out.size))
      go_wp2_with fail
      refine (range_no _ HR.out).mono ?_
      rintro e w3 ⟨rfl, rfl⟩
      go_wp2
      go_ret
      exact ⟨ret_strm HE.out.symm, B2.out⟩
  · have HBB := Lib.hid (memOkB_no hok)
    have HE : Hid (wordAtB K L i = ⟨#[]⟩) := Lib.hid (wordAtB_bad hok)
    clear hok
    go_enter Try.func18, Try.ntmps18
    go_wp2_with fail
    refine (specOk_any K a n c L _ (HS.out.later B0.out) hn hK).mono ?_
    rw [HBB.out]
    rintro e w1 ⟨rfl, hb1⟩
    go_wp2
    go_ret
    exact ⟨ret_strm HE.out.symm, B0.out.trans (hb1.mono B0.out.size)⟩
end Go.Proofs.Ytlemlgadjapamaa
