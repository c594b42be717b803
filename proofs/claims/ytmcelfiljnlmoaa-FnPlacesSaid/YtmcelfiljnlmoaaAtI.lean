/- A tenant of a layout; a place in a part. -/
import Derived.Test.YtmcelfiljnlmoaaWordsI
import Derived.Test.YtmcelfiljnlmoaaIdxI
import Derived.Test.YtmcelfiljnlmoaaPlcMath
namespace Go.Proofs.Ytmcelfiljnlmoaa
open Go.RowKit

set_option maxRecDepth 100000 in
set_option maxHeartbeats 1000000 in
theorem implTen_yes (T P I Q : Int) (t : Int) (h : GeoR T P I Q) (ht : 0 ≤ t ∧ t ≤ T - 1) (w : World) : Calls Try.prog 102 #[.agg #[.int .i64 T, .int .i64 P, .int .i64 I, .int .i64 Q], .int .i64 t] w (SaysB true w) := by
  have T0 := Lib.hid (Four.alloc w T P I Q 29)
  have B0 := Lib.hid (below_al w (.cells #[.int .i64 T, .int .i64 P, .int .i64 I, .int .i64 Q] 29))
  have HG := Lib.hid h
  have HT := Lib.hid ht
  obtain ⟨g1, g2, g3, g4, g5, g6, g7, g8⟩ := h
  clear ht
  go_enter Try.func102, Try.ntmps102
  go_wp2_with fail
  refine (implGeo_yes T P I Q _ HG.out).mono ?_
  rintro e w1 ⟨rfl, hb⟩
  have T1 := Lib.hid (T0.out.later hb)
  have B1 : Hid (Below w.heap.size w w1) := Lib.hid (B0.out.trans (hb.mono B0.out.size))
  clear hb
  have c0 := T1.out.c0
  have c1 := T1.out.c1
  have c2 := T1.out.c2
  have c3 := T1.out.c3
  go_wp2_with fail
  refine (implIdx_yes _ ⟨HT.out.1, by have := HT.out.2; omega⟩).mono ?_
  rintro e w9 ⟨rfl, rfl⟩
  go_wp2
  go_ret
  exact ⟨rfl, B1.out⟩
set_option maxRecDepth 100000 in
set_option maxHeartbeats 1000000 in
theorem implTen_nogeo (T P I Q : Int) (t : Int) (h : ¬ GeoR T P I Q) (w : World) : Calls Try.prog 102 #[.agg #[.int .i64 T, .int .i64 P, .int .i64 I, .int .i64 Q], .int .i64 t] w (SaysB false w) := by
  have T0 := Lib.hid (Four.alloc w T P I Q 29)
  have B0 := Lib.hid (below_al w (.cells #[.int .i64 T, .int .i64 P, .int .i64 I, .int .i64 Q] 29))
  have HG := Lib.hid h
  clear h
  go_enter Try.func102, Try.ntmps102
  go_wp2_with fail
  refine (implGeo_no T P I Q _ HG.out).mono ?_
  rintro e w1 ⟨rfl, hb⟩
  have T1 := Lib.hid (T0.out.later hb)
  have B1 : Hid (Below w.heap.size w w1) := Lib.hid (B0.out.trans (hb.mono B0.out.size))
  clear hb
  have c0 := T1.out.c0
  have c1 := T1.out.c1
  have c2 := T1.out.c2
  have c3 := T1.out.c3
  go_wp2
  go_ret
  exact ⟨rfl, B1.out⟩
set_option maxRecDepth 100000 in
set_option maxHeartbeats 1000000 in
theorem implTen_noten (T P I Q : Int) (t : Int) (h : GeoR T P I Q) (ht : ¬ (0 ≤ t ∧ t ≤ T - 1)) (w : World) : Calls Try.prog 102 #[.agg #[.int .i64 T, .int .i64 P, .int .i64 I, .int .i64 Q], .int .i64 t] w (SaysB false w) := by
  have T0 := Lib.hid (Four.alloc w T P I Q 29)
  have B0 := Lib.hid (below_al w (.cells #[.int .i64 T, .int .i64 P, .int .i64 I, .int .i64 Q] 29))
  have HG := Lib.hid h
  obtain ⟨g1, g2, g3, g4, g5, g6, g7, g8⟩ := h
  have HT := Lib.hid ht
  clear ht
  go_enter Try.func102, Try.ntmps102
  go_wp2_with fail
  refine (implGeo_yes T P I Q _ HG.out).mono ?_
  rintro e w1 ⟨rfl, hb⟩
  have T1 := Lib.hid (T0.out.later hb)
  have B1 : Hid (Below w.heap.size w w1) := Lib.hid (B0.out.trans (hb.mono B0.out.size))
  clear hb
  have c0 := T1.out.c0
  have c1 := T1.out.c1
  have c2 := T1.out.c2
  have c3 := T1.out.c3
  go_wp2_with fail
  refine (implIdx_no _ (fun e => HT.out ⟨e.1, by omega⟩)).mono ?_
  rintro e w9 ⟨rfl, rfl⟩
  go_wp2
  go_ret
  exact ⟨rfl, B1.out⟩
theorem implTen_no (T P I Q t : Int) (h : ¬ (GeoR T P I Q ∧ 0 ≤ t ∧ t ≤ T - 1)) (w : World) : Calls Try.prog 102 #[.agg #[.int .i64 T, .int .i64 P, .int .i64 I, .int .i64 Q], .int .i64 t] w (SaysB false w) := by
  by_cases hg : GeoR T P I Q
  · exact implTen_noten T P I Q t hg (fun e => h ⟨hg, e⟩) w
  · exact implTen_nogeo T P I Q t hg w
set_option maxRecDepth 100000 in
set_option maxHeartbeats 1000000 in
theorem implAt_yes (T P I Q : Int) (t a : Int) (h : GeoR T P I Q) (ht : 0 ≤ t ∧ t ≤ T - 1) (ha : 0 ≤ a ∧ a ≤ 1000) (w : World) : Calls Try.prog 79 #[.agg #[.int .i64 T, .int .i64 P, .int .i64 I, .int .i64 Q], .int .i64 t, .int .i64 a] w (SaysI (t * wordsOf P I + a) w) := by
  have T0 := Lib.hid (Four.alloc w T P I Q 29)
  have B0 := Lib.hid (below_al w (.cells #[.int .i64 T, .int .i64 P, .int .i64 I, .int .i64 Q] 29))
  obtain ⟨W, hW⟩ : ∃ W, wordsOf P I = W := ⟨_, rfl⟩
  have HG := Lib.hid h
  obtain ⟨g1, g2, g3, g4, g5, g6, g7, g8⟩ := h
  have hw0 : 0 ≤ W ∧ W ≤ 134 := by unfold wordsOf at hW; omega
  have hm := Plc.mul_bd ht.1 (by omega) hw0.1 hw0.2
  obtain ⟨m1, m2⟩ := hm
  obtain ⟨W1, W2⟩ := hw0
  have HW := Lib.hid hW
  have HT := Lib.hid ht
  obtain ⟨t1, t2⟩ := ht
  obtain ⟨a1, a2⟩ := ha
  rw [hW]
  clear hW
  go_enter Try.func79, Try.ntmps79
  go_wp2_with fail
  refine (implTen_yes T P I Q t HG.out HT.out _).mono ?_
  rintro e w1 ⟨rfl, hb⟩
  have T1 := Lib.hid (T0.out.later hb)
  have B1 : Hid (Below w.heap.size w w1) := Lib.hid (B0.out.trans (hb.mono B0.out.size))
  clear hb
  have c0 := T1.out.c0
  have c1 := T1.out.c1
  have c2 := T1.out.c2
  have c3 := T1.out.c3
  go_wp2_with fail
  refine (implPW_yes T P I Q HG.out _).mono ?_
  rintro e w2 ⟨rfl, hb⟩
  clear c0 c1 c2 c3
  have T2 := Lib.hid (T1.out.later hb)
  have B2 : Hid (Below w.heap.size w w2) := Lib.hid (B1.out.trans (hb.mono B1.out.size))
  clear hb
  have c0 := T2.out.c0
  have c1 := T2.out.c1
  have c2 := T2.out.c2
  have c3 := T2.out.c3
  rw [HW.out]
  go_wp2
  go_ret
  exact ⟨rfl, B2.out⟩
set_option maxRecDepth 100000 in
set_option maxHeartbeats 1000000 in
theorem implAt_no (T P I Q t a : Int) (h : ¬ (GeoR T P I Q ∧ 0 ≤ t ∧ t ≤ T - 1)) (w : World) : Calls Try.prog 79 #[.agg #[.int .i64 T, .int .i64 P, .int .i64 I, .int .i64 Q], .int .i64 t, .int .i64 a] w (SaysI (-1) w) := by
  have T0 := Lib.hid (Four.alloc w T P I Q 29)
  have B0 := Lib.hid (below_al w (.cells #[.int .i64 T, .int .i64 P, .int .i64 I, .int .i64 Q] 29))
  have HG := Lib.hid h
  clear h
  go_enter Try.func79, Try.ntmps79
  go_wp2_with fail
  refine (implTen_no T P I Q t HG.out _).mono ?_
  rintro e w1 ⟨rfl, hb⟩
  have T1 := Lib.hid (T0.out.later hb)
  have B1 : Hid (Below w.heap.size w w1) := Lib.hid (B0.out.trans (hb.mono B0.out.size))
  clear hb
  have c0 := T1.out.c0
  have c1 := T1.out.c1
  have c2 := T1.out.c2
  have c3 := T1.out.c3
  go_wp2
  go_ret
  exact ⟨rfl, B1.out⟩
theorem implAt_nogeo (T P I Q : Int) (t a : Int) (h : ¬ GeoR T P I Q) (w : World) : Calls Try.prog 79 #[.agg #[.int .i64 T, .int .i64 P, .int .i64 I, .int .i64 Q], .int .i64 t, .int .i64 a] w (SaysI (-1) w) := implAt_no T P I Q t a (fun e => h e.1) w
end Go.Proofs.Ytmcelfiljnlmoaa
