/- LinesIn of the program. -/
import Derived.Test.YtmcelfiljnlmoaaWordsI
import Derived.Test.YtmcelfiljnlmoaaLinV
namespace Go.Proofs.Ytmcelfiljnlmoaa
open Go.RowKit

set_option maxRecDepth 100000 in
set_option maxHeartbeats 1000000 in
theorem implLines_yes (T P I Q : Int) (h : GeoR T P I Q) (w : World) : Calls Try.prog 49 #[.agg #[.int .i64 T, .int .i64 P, .int .i64 I, .int .i64 Q]] w (SaysI (linesV T P I Q) w) := by
  have T0 := Lib.hid (Four.alloc w T P I Q 29)
  have B0 := Lib.hid (below_al w (.cells #[.int .i64 T, .int .i64 P, .int .i64 I, .int .i64 Q] 29))
  have HL : Hid (linesV T P I Q = T * wordsOf P I / 2) := Lib.hid (if_pos h)
  obtain ⟨W, hW⟩ : ∃ W, wordsOf P I = W := ⟨_, rfl⟩
  have HG := Lib.hid h
  obtain ⟨g1, g2, g3, g4, g5, g6, g7, g8⟩ := h
  have hw0 : 0 ≤ W ∧ W ≤ 134 := by unfold wordsOf at hW; omega
  have hm := Plc.mul_bd (T := T) (by omega) (by omega) hw0.1 hw0.2
  obtain ⟨m1, m2⟩ := hm
  obtain ⟨W1, W2⟩ := hw0
  rw [hW] at HL
  have HW := Lib.hid hW
  clear hW
  have e1 : IntKind.i64.wrap (T * W) = T * W := IntWalk.i64_in _ (by omega)
  have e2 : (T * W).tdiv 2 = T * W / 2 := Int.tdiv_eq_ediv_of_nonneg m1
  have e3 : IntKind.i64.wrap (T * W / 2) = T * W / 2 := IntWalk.i64_in _ (by omega)
  go_enter Try.func49, Try.ntmps49
  go_wp2_with fail
  refine (implGeo_yes T P I Q _ HG.out).mono ?_
  rintro e w1 ⟨rfl, hb⟩
  have T1 := Lib.hid (T0.out.later hb)
  have B1 : Hid (Below w.heap.size w w1) := Lib.hid (B0.out.trans (hb.mono B0.out.size))
  clear hb
  have c0 := T1.out.c0
  have c1 := T1.out.c1
  have c2 := T1.out.c2
  have c3 := T1.out.c3
  go_wp2_with fail
  go_region_with (go_at_call 47; refine (implPW_yes T P I Q HG.out _).mono ?_; rw [HW.out]; rintro e w2 ⟨rfl, hb⟩; have T2 := Lib.hid (T1.out.drew.later hb); have y0 := T2.out.c0; have y1 := T2.out.c1; have y2 := T2.out.c2; have y3 := T2.out.c3; have B2 : Hid (Below w.heap.size w w2) := Lib.hid (B1.out.drew.trans (hb.mono B1.out.size)); clear hb)
  all_goals
    go_wp2
    go_ret
    exact ⟨by rw [HL.out]; rfl, B2.out⟩
set_option maxRecDepth 100000 in
set_option maxHeartbeats 1000000 in
theorem implLines_no (T P I Q : Int) (h : ¬ GeoR T P I Q) (w : World) : Calls Try.prog 49 #[.agg #[.int .i64 T, .int .i64 P, .int .i64 I, .int .i64 Q]] w (SaysI 0 w) := by
  have T0 := Lib.hid (Four.alloc w T P I Q 29)
  have B0 := Lib.hid (below_al w (.cells #[.int .i64 T, .int .i64 P, .int .i64 I, .int .i64 Q] 29))
  have HG := Lib.hid h
  clear h
  go_enter Try.func49, Try.ntmps49
  go_wp2_with fail
  refine (implGeo_no T P I Q _ HG.out).mono ?_
  rintro e w1 ⟨rfl, hb⟩
  have T1 := Lib.hid (T0.out.later hb)
  have B1 : Hid (Below w.heap.size w w1) := Lib.hid (B0.out.trans (hb.mono B0.out.size))
  clear hb
  have c0 := T1.out.c0
  have c1 := T1.out.c1
  have c2 := T1.out.c2
  have c3 := T1.out.c3
  go_wp2
  go_ret
  exact ⟨rfl, B1.out⟩
theorem implLines_any (T P I Q : Int) (w : World) : Calls Try.prog 49 #[.agg #[.int .i64 T, .int .i64 P, .int .i64 I, .int .i64 Q]] w (SaysI (linesV T P I Q) w) := by
  by_cases hg : GeoR T P I Q
  · exact implLines_yes T P I Q hg w
  · rw [linesV_no hg]; exact implLines_no T P I Q hg w
end Go.Proofs.Ytmcelfiljnlmoaa
