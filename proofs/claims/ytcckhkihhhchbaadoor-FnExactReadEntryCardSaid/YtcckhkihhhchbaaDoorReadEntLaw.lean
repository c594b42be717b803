/- FnExactReadEntry: the law's walk. -/
import Derived.Test.YtcckhkihhhchbaaDoorReadEntImpl
import Derived.Test.YtcckhkihhhchbaaDoorEntEq
namespace Go.Proofs.YtcckhkihhhchbaaDoor
open Go.RowKit Go.Proofs.YtcckhkihhhchbaaDoor.Parts Go.Proofs.YtcckhkihhhchbaaDoor.Hexa Go.Proofs.YtcckhkihhhchbaaDoor.Byt

set_option maxRecDepth 100000 in
set_option maxHeartbeats 1000000 in
theorem readEntry_law (s : ByteArray) (w : World) :
    Calls Tryd.prog 5 #[.string s] w fun e w' => e = .returned (.bool true) ∧ Below w.heap.size w w' := by
  by_cases ha : s.size ≤ 1048576
  · have k1 := Lib.hid fun w => specReadEntry_any s w (by omega)
    have k2 := Lib.hid fun w => implReadEntry_any s w (by omega)
    obtain ⟨⟨p, m⟩, hr⟩ : ∃ r, entryReadR s = r := ⟨_, rfl⟩
    obtain ⟨b, hb⟩ : ∃ b, entryReadB s = b := ⟨_, rfl⟩
    rw [hr, hb] at k1 k2
    clear hr hb
    go_enter Tryd.func5, Tryd.ntmps5
    go_wp2_with fail
    refine (k1.out _).mono ?_
    rintro e w1 ⟨rfl, hb1⟩
    have T1 := Lib.hid (Bk.alloc w1 #[.int .i64 p, .string m] 41)
    have B1 : Hid (Below w.heap.size w (w1.alloc (.cells #[.int .i64 p, .string m] 41))) := Lib.hid (hb1.alloc hb1.size _)
    clear hb1
    go_wp2_with fail
    refine (k2.out _).mono ?_
    rintro e w2 ⟨rfl, hb2⟩
    have T2 := Lib.hid ((T1.out.later hb2).later (below_bk w2 (.cells #[.int .i64 p, .string m] 41)))
    have B2 : Hid (Below w.heap.size w w2) := Lib.hid (B1.out.trans (hb2.mono B1.out.size))
    have B3 : Hid (Below w.heap.size w (w2.alloc (.cells #[.int .i64 p, .string m] 41))) := Lib.hid (B2.out.alloc B2.out.size _)
    have c0 := T2.out.cell (j := 0) rfl
    have c1 := T2.out.cell (j := 1) rfl
    clear hb2
    go_wp2_with fail
    refine (eqEntry_any p m _).mono ?_
    rintro e w4 ⟨rfl, hb4⟩
    have B4 : Hid (Below w.heap.size w w4) := Lib.hid (B3.out.trans (hb4.mono B3.out.size))
    clear hb4
    go_wp2
    go_ret
    exact ⟨rfl, B4.out⟩
  · have hn : 1048576 < s.size := by omega
    go_enter Tryd.func5, Tryd.ntmps5
    go_wp2
    go_ret
    exact ⟨rfl, Below.refl _ _⟩
end Go.Proofs.YtcckhkihhhchbaaDoor
