/- FnExactNameOk, FnExactRecWord, FnExactReadRec, FnExactEntryWord, FnExactPagesFor: the laws' walks. -/
import Derived.Test.YtcckhkihhhchbaaRecA
import Derived.Test.YtcckhkihhhchbaaEntryA
import Derived.Test.YtcckhkihhhchbaaEntImpl
import Derived.Test.YtcckhkihhhchbaaReadRecImpl
import Derived.Test.YtcckhkihhhchbaaPagesImpl
namespace Go.Proofs.Ytcckhkihhhchbaa
open Go.RowKit Go.Proofs.Ytcckhkihhhchbaa.Parts Go.Proofs.Ytcckhkihhhchbaa.Hexa Go.Proofs.Ytcckhkihhhchbaa.Byt

set_option maxRecDepth 100000 in
set_option maxHeartbeats 400000 in
theorem nameOk_law (s : ByteArray) (w : World) :
    Calls Try.prog 3 #[.string s] w fun e w' => e = .returned (.bool true) ∧ Below w.heap.size w w' := by
  by_cases ha : s.size ≤ 1048576
  · have k1 := Lib.hid fun w => specName_any s w (by omega)
    have k2 := Lib.hid fun w => implName_any s w (by omega)
    go_enter Try.func3, Try.ntmps3
    go_wp2_with (first
      | (go_at_call 10; refine (k1.out _).mono ?_; rintro e w1 ⟨rfl, rfl⟩)
      | (go_at_call 11; refine (k2.out _).mono ?_; rintro e w2 ⟨rfl, rfl⟩))
    go_ret
    exact ⟨rfl, Below.refl _ _⟩
  · have hn : 1048576 < s.size := by omega
    go_enter Try.func3, Try.ntmps3
    go_wp2
    go_ret
    exact ⟨rfl, Below.refl _ _⟩

set_option maxRecDepth 100000 in
set_option maxHeartbeats 400000 in
theorem pagesFor_law (n : Int) (w : World) (h0 : -9223372036854775808 ≤ n) (h1 : n ≤ 9223372036854775807) :
    Calls Try.prog 7 #[.int .i64 n] w fun e w' => e = .returned (.bool true) ∧ Below w.heap.size w w' := by
  have k1 := Lib.hid fun w => specPages_any n w h0 h1
  have k2 := Lib.hid fun w => implPages_any n w h0 h1
  obtain ⟨p, hp⟩ : ∃ p, pagesZ n = p := ⟨_, rfl⟩
  rw [hp] at k1 k2
  clear hp
  go_enter Try.func7, Try.ntmps7
  go_wp2_with (first
    | (go_at_call 23; refine (k1.out _).mono ?_; rintro e w1 ⟨rfl, rfl⟩)
    | (go_at_call 24; refine (k2.out _).mono ?_; rintro e w2 ⟨rfl, rfl⟩))
  go_ret
  exact ⟨rfl, Below.refl _ _⟩

set_option maxRecDepth 100000 in
set_option maxHeartbeats 1000000 in
theorem recWord_law (p q : Int) (m : ByteArray) (w : World) (hm : m.size ≤ maxLen) :
    Calls Try.prog 4 #[.agg #[.int .i64 p, .int .i64 q, .string m]] w fun e w' => e = .returned (.bool true) ∧ Below w.heap.size w w' := by
  have HM := Lib.hid hm
  have T0 := Lib.hid (Bk.alloc w #[.int .i64 p, .int .i64 q, .string m] 24)
  have B0 := Lib.hid (below_bk w (.cells #[.int .i64 p, .int .i64 q, .string m] 24))
  clear hm
  go_enter Try.func4, Try.ntmps4
  go_wp2_with fail
  refine (szRec_any p q m _ _ (by decide) (by decide) HM.out).mono ?_
  rintro e w1 ⟨r, rfl, hr | ⟨h0, _, hm2⟩, hb1⟩
  · go_wp2
    go_ret
    exact ⟨rfl, B0.out.trans (hb1.mono B0.out.size)⟩
  have T1 := Lib.hid (T0.out.later hb1)
  have B1 : Hid (Below w.heap.size w w1) := Lib.hid (B0.out.trans (hb1.mono B0.out.size))
  have hm3 : Hid (m.size ≤ 2000000) := Lib.hid (by omega)
  have hr : ¬ (r < 0) := by omega
  have c0 := T1.out.cell (j := 0) rfl
  have c1 := T1.out.cell (j := 1) rfl
  have c2 := T1.out.cell (j := 2) rfl
  clear hb1 hm2 h0
  go_wp2_with fail
  refine (toRec_any p q m _).mono ?_
  rintro e w2 ⟨rfl, hb2⟩
  have T2 := Lib.hid (T1.out.later hb2)
  have B2 : Hid (Below w.heap.size w w2) := Lib.hid (B1.out.trans (hb2.mono B1.out.size))
  clear hb2 c0 c1 c2
  go_wp2_with fail
  refine (specRecWord_any p q m _ hm3.out).mono ?_
  rintro e w3 ⟨rfl, hb3⟩
  have T3 := Lib.hid (T2.out.later hb3)
  have B3 : Hid (Below w.heap.size w w3) := Lib.hid (B2.out.trans (hb3.mono B2.out.size))
  have c0 := T3.out.cell (j := 0) rfl
  have c1 := T3.out.cell (j := 1) rfl
  have c2 := T3.out.cell (j := 2) rfl
  clear hb3
  go_wp2_with fail
  refine (toRec_any p q m _).mono ?_
  rintro e w4 ⟨rfl, hb4⟩
  have B4 : Hid (Below w.heap.size w w4) := Lib.hid (B3.out.trans (hb4.mono B3.out.size))
  clear hb4
  go_wp2_with fail
  refine (implRecWord_any p q m _ hm3.out).mono ?_
  rintro e w5 ⟨rfl, hb5⟩
  have B5 : Hid (Below w.heap.size w w5) := Lib.hid (B4.out.trans (hb5.mono B4.out.size))
  clear hb5
  go_wp2
  go_ret
  exact ⟨rfl, B5.out⟩

set_option maxRecDepth 100000 in
set_option maxHeartbeats 1000000 in
theorem entryWord_law (p : Int) (m : ByteArray) (w : World) (hm : m.size ≤ maxLen) :
    Calls Try.prog 6 #[.agg #[.int .i64 p, .string m]] w fun e w' => e = .returned (.bool true) ∧ Below w.heap.size w w' := by
  have HM := Lib.hid hm
  have T0 := Lib.hid (Bk.alloc w #[.int .i64 p, .string m] 34)
  have B0 := Lib.hid (below_bk w (.cells #[.int .i64 p, .string m] 34))
  clear hm
  go_enter Try.func6, Try.ntmps6
  go_wp2_with fail
  refine (szEntry_any p m _ _ (by decide) (by decide) HM.out).mono ?_
  rintro e w1 ⟨r, rfl, hr | ⟨h0, _, hm2⟩, hb1⟩
  · go_wp2
    go_ret
    exact ⟨rfl, B0.out.trans (hb1.mono B0.out.size)⟩
  have T1 := Lib.hid (T0.out.later hb1)
  have B1 : Hid (Below w.heap.size w w1) := Lib.hid (B0.out.trans (hb1.mono B0.out.size))
  have hm3 : Hid (m.size ≤ 2000000) := Lib.hid (by omega)
  have hr : ¬ (r < 0) := by omega
  have c0 := T1.out.cell (j := 0) rfl
  have c1 := T1.out.cell (j := 1) rfl
  clear hb1 hm2 h0
  go_wp2_with fail
  refine (toEntry_any p m _).mono ?_
  rintro e w2 ⟨rfl, hb2⟩
  have T2 := Lib.hid (T1.out.later hb2)
  have B2 : Hid (Below w.heap.size w w2) := Lib.hid (B1.out.trans (hb2.mono B1.out.size))
  clear hb2 c0 c1
  go_wp2_with fail
  refine (specEntryWord_any p m _ hm3.out).mono ?_
  rintro e w3 ⟨rfl, hb3⟩
  have T3 := Lib.hid (T2.out.later hb3)
  have B3 : Hid (Below w.heap.size w w3) := Lib.hid (B2.out.trans (hb3.mono B2.out.size))
  have c0 := T3.out.cell (j := 0) rfl
  have c1 := T3.out.cell (j := 1) rfl
  clear hb3
  go_wp2_with fail
  refine (toEntry_any p m _).mono ?_
  rintro e w4 ⟨rfl, hb4⟩
  have B4 : Hid (Below w.heap.size w w4) := Lib.hid (B3.out.trans (hb4.mono B3.out.size))
  clear hb4
  go_wp2_with fail
  refine (implEntryWord_any p m _ hm3.out).mono ?_
  rintro e w5 ⟨rfl, hb5⟩
  have B5 : Hid (Below w.heap.size w w5) := Lib.hid (B4.out.trans (hb5.mono B4.out.size))
  clear hb5
  go_wp2
  go_ret
  exact ⟨rfl, B5.out⟩

set_option maxRecDepth 100000 in
set_option maxHeartbeats 1000000 in
theorem readRec_law (s : ByteArray) (w : World) :
    Calls Try.prog 5 #[.string s] w fun e w' => e = .returned (.bool true) ∧ Below w.heap.size w w' := by
  by_cases ha : s.size ≤ 1048576
  · have k1 := Lib.hid fun w => specReadRec_any s w (by omega)
    have k2 := Lib.hid fun w => implReadRec_any s w (by omega)
    obtain ⟨⟨p, q, m⟩, hr⟩ : ∃ r, recReadR s = r := ⟨_, rfl⟩
    obtain ⟨b, hb⟩ : ∃ b, recReadB s = b := ⟨_, rfl⟩
    rw [hr, hb] at k1 k2
    clear hr hb
    go_enter Try.func5, Try.ntmps5
    go_wp2_with fail
    refine (k1.out _).mono ?_
    rintro e w1 ⟨rfl, hb1⟩
    have T1 := Lib.hid (Bk.alloc w1 #[.int .i64 p, .int .i64 q, .string m] 27)
    have B1 : Hid (Below w.heap.size w (w1.alloc (.cells #[.int .i64 p, .int .i64 q, .string m] 27))) := Lib.hid (hb1.alloc hb1.size _)
    clear hb1
    go_wp2_with fail
    refine (k2.out _).mono ?_
    rintro e w2 ⟨rfl, hb2⟩
    have T2 := Lib.hid ((T1.out.later hb2).later (below_bk w2 (.cells #[.int .i64 p, .int .i64 q, .string m] 27)))
    have B2 : Hid (Below w.heap.size w w2) := Lib.hid (B1.out.trans (hb2.mono B1.out.size))
    have B3 : Hid (Below w.heap.size w (w2.alloc (.cells #[.int .i64 p, .int .i64 q, .string m] 27))) := Lib.hid (B2.out.alloc B2.out.size _)
    have c0 := T2.out.cell (j := 0) rfl
    have c1 := T2.out.cell (j := 1) rfl
    have c2 := T2.out.cell (j := 2) rfl
    clear hb2
    go_wp2_with fail
    refine (eqRec_any p q m _).mono ?_
    rintro e w4 ⟨rfl, hb4⟩
    have B4 : Hid (Below w.heap.size w w4) := Lib.hid (B3.out.trans (hb4.mono B3.out.size))
    clear hb4
    go_wp2
    go_ret
    exact ⟨rfl, B4.out⟩
  · have hn : 1048576 < s.size := by omega
    go_enter Try.func5, Try.ntmps5
    go_wp2
    go_ret
    exact ⟨rfl, Below.refl _ _⟩
end Go.Proofs.Ytcckhkihhhchbaa
