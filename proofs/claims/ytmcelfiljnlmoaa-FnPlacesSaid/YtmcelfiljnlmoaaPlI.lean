/- CommitAt, SerialAt, JournalAt, InodeAt, PageAt of the program. -/
import Derived.Test.YtmcelfiljnlmoaaAtI
import Derived.Test.YtmcelfiljnlmoaaPlcV
namespace Go.Proofs.Ytmcelfiljnlmoaa
open Go.RowKit

theorem implAt_any (T P I Q t a : Int) (ha : GeoR T P I Q → 0 ≤ a ∧ a ≤ 1000) (w : World) : Calls Try.prog 79 #[.agg #[.int .i64 T, .int .i64 P, .int .i64 I, .int .i64 Q], .int .i64 t, .int .i64 a] w (SaysI (placeV T P I Q t a) w) := by
  by_cases h : GeoR T P I Q ∧ 0 ≤ t ∧ t ≤ T - 1
  · rw [placeV_yes h]; exact implAt_yes T P I Q t a h.1 h.2 (ha h.1) w
  · rw [placeV_no h]; exact implAt_no T P I Q t a h w

set_option maxRecDepth 100000 in
set_option maxHeartbeats 1000000 in
theorem implCommit_any (T P I Q : Int) (t : Int) (w : World) : Calls Try.prog 34 #[.agg #[.int .i64 T, .int .i64 P, .int .i64 I, .int .i64 Q], .int .i64 t] w (SaysI (placeV T P I Q t 0) w) := by
  have T0 := Lib.hid (Four.alloc w T P I Q 29)
  have B0 := Lib.hid (below_al w (.cells #[.int .i64 T, .int .i64 P, .int .i64 I, .int .i64 Q] 29))
  go_enter Try.func34, Try.ntmps34
  go_wp2_with fail
  refine (implAt_any T P I Q t (0) (fun _ => by omega) _).mono ?_
  rintro e w8 ⟨rfl, hb⟩
  have B8 : Hid (Below w.heap.size w w8) := Lib.hid (B0.out.trans (hb.mono B0.out.size))
  clear hb
  obtain ⟨v, hv⟩ : ∃ v, placeV T P I Q t (0) = v := ⟨_, rfl⟩
  rw [hv]
  have HV := Lib.hid hv
  clear hv
  go_wp2
  go_ret
  exact ⟨by rw [HV.out]; rfl, B8.out⟩
set_option maxRecDepth 100000 in
set_option maxHeartbeats 1000000 in
theorem implSerial_any (T P I Q : Int) (t : Int) (w : World) : Calls Try.prog 36 #[.agg #[.int .i64 T, .int .i64 P, .int .i64 I, .int .i64 Q], .int .i64 t] w (SaysI (placeV T P I Q t 2) w) := by
  have T0 := Lib.hid (Four.alloc w T P I Q 29)
  have B0 := Lib.hid (below_al w (.cells #[.int .i64 T, .int .i64 P, .int .i64 I, .int .i64 Q] 29))
  go_enter Try.func36, Try.ntmps36
  go_wp2_with fail
  refine (implAt_any T P I Q t (2) (fun _ => by omega) _).mono ?_
  rintro e w8 ⟨rfl, hb⟩
  have B8 : Hid (Below w.heap.size w w8) := Lib.hid (B0.out.trans (hb.mono B0.out.size))
  clear hb
  obtain ⟨v, hv⟩ : ∃ v, placeV T P I Q t (2) = v := ⟨_, rfl⟩
  rw [hv]
  have HV := Lib.hid hv
  clear hv
  go_wp2
  go_ret
  exact ⟨by rw [HV.out]; rfl, B8.out⟩
set_option maxRecDepth 100000 in
set_option maxHeartbeats 1000000 in
theorem implJournal_yes (T P I Q : Int) (t i : Int) (h : 0 ≤ i ∧ i ≤ 15) (w : World) : Calls Try.prog 38 #[.agg #[.int .i64 T, .int .i64 P, .int .i64 I, .int .i64 Q], .int .i64 t, .int .i64 i] w (SaysI (jourV T P I Q t i) w) := by
  have T0 := Lib.hid (Four.alloc w T P I Q 29)
  have B0 := Lib.hid (below_al w (.cells #[.int .i64 T, .int .i64 P, .int .i64 I, .int .i64 Q] 29))
  have HJ : Hid (jourV T P I Q t i = placeV T P I Q t (4 + 2 * i)) := Lib.hid (if_pos h)
  have HR := Lib.hid h
  obtain ⟨i0, i1⟩ := h
  go_enter Try.func38, Try.ntmps38
  go_wp2_with fail
  refine (implIdx_yes _ ⟨HR.out.1, by have := HR.out.2; omega⟩).mono ?_
  rintro e w9 ⟨rfl, rfl⟩
  go_wp2_with fail
  refine (implAt_any T P I Q t (4 + 2 * i) (fun _ => by omega) _).mono ?_
  rintro e w8 ⟨rfl, hb⟩
  have B8 : Hid (Below w.heap.size w w8) := Lib.hid (B0.out.trans (hb.mono B0.out.size))
  clear hb
  obtain ⟨v, hv⟩ : ∃ v, placeV T P I Q t (4 + 2 * i) = v := ⟨_, rfl⟩
  rw [hv]
  have HV := Lib.hid hv
  clear hv
  go_wp2
  go_ret
  exact ⟨by rw [HJ.out, HV.out]; rfl, B8.out⟩
set_option maxRecDepth 100000 in
set_option maxHeartbeats 1000000 in
theorem implJournal_no (T P I Q : Int) (t i : Int) (h : ¬ (0 ≤ i ∧ i ≤ 15)) (w : World) : Calls Try.prog 38 #[.agg #[.int .i64 T, .int .i64 P, .int .i64 I, .int .i64 Q], .int .i64 t, .int .i64 i] w (SaysI (jourV T P I Q t i) w) := by
  have T0 := Lib.hid (Four.alloc w T P I Q 29)
  have B0 := Lib.hid (below_al w (.cells #[.int .i64 T, .int .i64 P, .int .i64 I, .int .i64 Q] 29))
  have HJ : Hid (jourV T P I Q t i = -1) := Lib.hid (if_neg h)
  have HR := Lib.hid h
  clear h
  go_enter Try.func38, Try.ntmps38
  go_wp2_with fail
  refine (implIdx_no _ (fun e => HR.out ⟨e.1, by omega⟩)).mono ?_
  rintro e w9 ⟨rfl, rfl⟩
  go_wp2
  go_ret
  exact ⟨by rw [HJ.out]; rfl, B0.out⟩
set_option maxRecDepth 100000 in
set_option maxHeartbeats 1000000 in
theorem implInode_yes (T P I Q : Int) (t i : Int) (h : GeoR T P I Q) (hi : 0 ≤ i ∧ i ≤ I - 1) (w : World) : Calls Try.prog 40 #[.agg #[.int .i64 T, .int .i64 P, .int .i64 I, .int .i64 Q], .int .i64 t, .int .i64 i] w (SaysI (inodV T P I Q t i) w) := by
  have T0 := Lib.hid (Four.alloc w T P I Q 29)
  have B0 := Lib.hid (below_al w (.cells #[.int .i64 T, .int .i64 P, .int .i64 I, .int .i64 Q] 29))
  have HJ : Hid (inodV T P I Q t i = placeV T P I Q t (38 + 8 * i)) := Lib.hid (if_pos ⟨h, hi⟩)
  have HR := Lib.hid hi
  obtain ⟨i0, i1⟩ := hi
  have HG := Lib.hid h
  obtain ⟨g1, g2, g3, g4, g5, g6, g7, g8⟩ := h
  go_enter Try.func40, Try.ntmps40
  have c0 := T0.out.c0
  have c1 := T0.out.c1
  have c2 := T0.out.c2
  have c3 := T0.out.c3
  go_wp2_with fail
  refine (implIdx_yes _ ⟨HR.out.1, by have := HR.out.2; omega⟩).mono ?_
  rintro e w9 ⟨rfl, rfl⟩
  go_wp2_with fail
  refine (implAt_any T P I Q t (38 + 8 * i) (fun _ => by omega) _).mono ?_
  rintro e w8 ⟨rfl, hb⟩
  have B8 : Hid (Below w.heap.size w w8) := Lib.hid (B0.out.trans (hb.mono B0.out.size))
  clear hb
  obtain ⟨v, hv⟩ : ∃ v, placeV T P I Q t (38 + 8 * i) = v := ⟨_, rfl⟩
  rw [hv]
  have HV := Lib.hid hv
  clear hv
  go_wp2
  go_ret
  exact ⟨by rw [HJ.out, HV.out]; rfl, B8.out⟩
set_option maxRecDepth 100000 in
set_option maxHeartbeats 1000000 in
theorem implInode_noi (T P I Q : Int) (t i : Int) (h : GeoR T P I Q) (hi : ¬ (0 ≤ i ∧ i ≤ I - 1)) (w : World) : Calls Try.prog 40 #[.agg #[.int .i64 T, .int .i64 P, .int .i64 I, .int .i64 Q], .int .i64 t, .int .i64 i] w (SaysI (inodV T P I Q t i) w) := by
  have T0 := Lib.hid (Four.alloc w T P I Q 29)
  have B0 := Lib.hid (below_al w (.cells #[.int .i64 T, .int .i64 P, .int .i64 I, .int .i64 Q] 29))
  have HJ : Hid (inodV T P I Q t i = -1) := Lib.hid (if_neg (fun e => hi e.2))
  have HR := Lib.hid hi
  clear hi
  have HG := Lib.hid h
  obtain ⟨g1, g2, g3, g4, g5, g6, g7, g8⟩ := h
  go_enter Try.func40, Try.ntmps40
  have c0 := T0.out.c0
  have c1 := T0.out.c1
  have c2 := T0.out.c2
  have c3 := T0.out.c3
  go_wp2_with fail
  refine (implIdx_no _ (fun e => HR.out ⟨e.1, by omega⟩)).mono ?_
  rintro e w9 ⟨rfl, rfl⟩
  go_wp2
  go_ret
  exact ⟨by rw [HJ.out]; rfl, B0.out⟩
set_option maxRecDepth 100000 in
set_option maxHeartbeats 1000000 in
theorem implInode_nogy (T P I Q : Int) (t i : Int) (h : ¬ GeoR T P I Q) (hi : (0 ≤ i ∧ i < I)) (w : World) : Calls Try.prog 40 #[.agg #[.int .i64 T, .int .i64 P, .int .i64 I, .int .i64 Q], .int .i64 t, .int .i64 i] w (SaysI (inodV T P I Q t i) w) := by
  have T0 := Lib.hid (Four.alloc w T P I Q 29)
  have B0 := Lib.hid (below_al w (.cells #[.int .i64 T, .int .i64 P, .int .i64 I, .int .i64 Q] 29))
  have HJ : Hid (inodV T P I Q t i = -1) := Lib.hid (if_neg (fun e => h e.1))
  have HR := Lib.hid hi
  clear hi
  have HG := Lib.hid h
  clear h
  go_enter Try.func40, Try.ntmps40
  have c0 := T0.out.c0
  have c1 := T0.out.c1
  have c2 := T0.out.c2
  have c3 := T0.out.c3
  go_wp2_with fail
  refine (implIdx_yes _ HR.out).mono ?_
  rintro e w9 ⟨rfl, rfl⟩
  go_wp2_with fail
  refine (implAt_nogeo T P I Q t _ HG.out _).mono ?_
  rintro e w8 ⟨rfl, hb⟩
  have B8 : Hid (Below w.heap.size w w8) := Lib.hid (B0.out.trans (hb.mono B0.out.size))
  clear hb
  go_wp2
  go_ret
  exact ⟨by rw [HJ.out]; rfl, B8.out⟩
set_option maxRecDepth 100000 in
set_option maxHeartbeats 1000000 in
theorem implInode_nogn (T P I Q : Int) (t i : Int) (h : ¬ GeoR T P I Q) (hi : ¬ (0 ≤ i ∧ i < I)) (w : World) : Calls Try.prog 40 #[.agg #[.int .i64 T, .int .i64 P, .int .i64 I, .int .i64 Q], .int .i64 t, .int .i64 i] w (SaysI (inodV T P I Q t i) w) := by
  have T0 := Lib.hid (Four.alloc w T P I Q 29)
  have B0 := Lib.hid (below_al w (.cells #[.int .i64 T, .int .i64 P, .int .i64 I, .int .i64 Q] 29))
  have HJ : Hid (inodV T P I Q t i = -1) := Lib.hid (if_neg (fun e => h e.1))
  have HR := Lib.hid hi
  clear hi
  have HG := Lib.hid h
  clear h
  go_enter Try.func40, Try.ntmps40
  have c0 := T0.out.c0
  have c1 := T0.out.c1
  have c2 := T0.out.c2
  have c3 := T0.out.c3
  go_wp2_with fail
  refine (implIdx_no _ HR.out).mono ?_
  rintro e w9 ⟨rfl, rfl⟩
  go_wp2
  go_ret
  exact ⟨by rw [HJ.out]; rfl, B0.out⟩
theorem implInode_nog (T P I Q t i : Int) (h : ¬ GeoR T P I Q) (w : World) : Calls Try.prog 40 #[.agg #[.int .i64 T, .int .i64 P, .int .i64 I, .int .i64 Q], .int .i64 t, .int .i64 i] w (SaysI (inodV T P I Q t i) w) := by
  by_cases hi : 0 ≤ i ∧ i < I
  · exact implInode_nogy T P I Q t i h hi w
  · exact implInode_nogn T P I Q t i h hi w
theorem implInode_any (T P I Q t i : Int) (w : World) : Calls Try.prog 40 #[.agg #[.int .i64 T, .int .i64 P, .int .i64 I, .int .i64 Q], .int .i64 t, .int .i64 i] w (SaysI (inodV T P I Q t i) w) := by
  by_cases hg : GeoR T P I Q
  · by_cases hi : 0 ≤ i ∧ i ≤ I - 1
    · exact implInode_yes T P I Q t i hg hi w
    · exact implInode_noi T P I Q t i hg hi w
  · exact implInode_nog T P I Q t i hg w
set_option maxRecDepth 100000 in
set_option maxHeartbeats 1000000 in
theorem implPage_yes (T P I Q : Int) (t i : Int) (h : GeoR T P I Q) (hi : 0 ≤ i ∧ i ≤ P - 1) (w : World) : Calls Try.prog 42 #[.agg #[.int .i64 T, .int .i64 P, .int .i64 I, .int .i64 Q], .int .i64 t, .int .i64 i] w (SaysI (pageV T P I Q t i) w) := by
  have T0 := Lib.hid (Four.alloc w T P I Q 29)
  have B0 := Lib.hid (below_al w (.cells #[.int .i64 T, .int .i64 P, .int .i64 I, .int .i64 Q] 29))
  have HJ : Hid (pageV T P I Q t i = placeV T P I Q t (38 + 8 * I + 4 * i)) := Lib.hid (if_pos ⟨h, hi⟩)
  have HR := Lib.hid hi
  obtain ⟨i0, i1⟩ := hi
  have HG := Lib.hid h
  obtain ⟨g1, g2, g3, g4, g5, g6, g7, g8⟩ := h
  go_enter Try.func42, Try.ntmps42
  have c0 := T0.out.c0
  have c1 := T0.out.c1
  have c2 := T0.out.c2
  have c3 := T0.out.c3
  go_wp2_with fail
  refine (implIdx_yes _ ⟨HR.out.1, by have := HR.out.2; omega⟩).mono ?_
  rintro e w9 ⟨rfl, rfl⟩
  have e1 : IntKind.i64.wrap (4 * i) = 4 * i := IntWalk.i64_in _ (by omega)
  have e2 : IntKind.i64.wrap (38 + 8 * I + 4 * i) = 38 + 8 * I + 4 * i := IntWalk.i64_in _ (by omega)
  have HAT : Hid (∀ wx, Calls Try.prog 79 #[.agg #[.int .i64 T, .int .i64 P, .int .i64 I, .int .i64 Q], .int .i64 t, .int .i64 (38 + 8 * I + 4 * i)] wx (SaysI (placeV T P I Q t (38 + 8 * I + 4 * i)) wx)) := Lib.hid (fun wx => implAt_any T P I Q t (38 + 8 * I + 4 * i) (fun _ => by omega) wx)
  obtain ⟨v, hv⟩ : ∃ v, placeV T P I Q t (38 + 8 * I + 4 * i) = v := ⟨_, rfl⟩
  rw [hv] at HAT HJ
  clear hv
  have B0d : Hid (Below w.heap.size w ((w.alloc (.cells #[.int .i64 T, .int .i64 P, .int .i64 I, .int .i64 Q] 29)).drew)) := Lib.hid B0.out.drew
  have T0d := Lib.hid T0.out.drew
  go_wp2_with fail
  go_region_with (first | (go_at_call 81; refine (implPages_yes T P I Q HG.out _).mono ?_; rintro e w1 ⟨rfl, hb⟩; have T1 := Lib.hid (T0d.out.later hb); have y0 := T1.out.c0; have y1 := T1.out.c1; have y2 := T1.out.c2; have y3 := T1.out.c3; have B1 : Hid (Below w.heap.size w w1) := Lib.hid (B0d.out.trans (hb.mono B0d.out.size)); clear hb) | (go_at_call 79; refine (HAT.out _).mono ?_; rintro e w2 ⟨rfl, hb⟩; have B2 : Hid (Below w.heap.size w w2) := Lib.hid (B1.out.trans (hb.mono B1.out.size)); clear hb))
  all_goals
    go_wp2
    go_ret
    exact ⟨by rw [HJ.out]; rfl, B2.out⟩
set_option maxRecDepth 100000 in
set_option maxHeartbeats 1000000 in
theorem implPage_noi (T P I Q : Int) (t i : Int) (h : GeoR T P I Q) (hi : ¬ (0 ≤ i ∧ i ≤ P - 1)) (w : World) : Calls Try.prog 42 #[.agg #[.int .i64 T, .int .i64 P, .int .i64 I, .int .i64 Q], .int .i64 t, .int .i64 i] w (SaysI (pageV T P I Q t i) w) := by
  have T0 := Lib.hid (Four.alloc w T P I Q 29)
  have B0 := Lib.hid (below_al w (.cells #[.int .i64 T, .int .i64 P, .int .i64 I, .int .i64 Q] 29))
  have HJ : Hid (pageV T P I Q t i = -1) := Lib.hid (if_neg (fun e => hi e.2))
  have HR := Lib.hid hi
  clear hi
  have HG := Lib.hid h
  obtain ⟨g1, g2, g3, g4, g5, g6, g7, g8⟩ := h
  go_enter Try.func42, Try.ntmps42
  have c0 := T0.out.c0
  have c1 := T0.out.c1
  have c2 := T0.out.c2
  have c3 := T0.out.c3
  go_wp2_with fail
  refine (implIdx_no _ (fun e => HR.out ⟨e.1, by omega⟩)).mono ?_
  rintro e w9 ⟨rfl, rfl⟩
  go_wp2
  go_ret
  exact ⟨by rw [HJ.out]; rfl, B0.out⟩
set_option maxRecDepth 100000 in
set_option maxHeartbeats 1000000 in
theorem implPage_nogy (T P I Q : Int) (t i : Int) (h : ¬ GeoR T P I Q) (hi : (0 ≤ i ∧ i < P)) (w : World) : Calls Try.prog 42 #[.agg #[.int .i64 T, .int .i64 P, .int .i64 I, .int .i64 Q], .int .i64 t, .int .i64 i] w (SaysI (pageV T P I Q t i) w) := by
  have T0 := Lib.hid (Four.alloc w T P I Q 29)
  have B0 := Lib.hid (below_al w (.cells #[.int .i64 T, .int .i64 P, .int .i64 I, .int .i64 Q] 29))
  have HJ : Hid (pageV T P I Q t i = -1) := Lib.hid (if_neg (fun e => h e.1))
  have HR := Lib.hid hi
  clear hi
  have HG := Lib.hid h
  clear h
  go_enter Try.func42, Try.ntmps42
  have c0 := T0.out.c0
  have c1 := T0.out.c1
  have c2 := T0.out.c2
  have c3 := T0.out.c3
  go_wp2_with fail
  refine (implIdx_yes _ HR.out).mono ?_
  rintro e w9 ⟨rfl, rfl⟩
  have B0d : Hid (Below w.heap.size w ((w.alloc (.cells #[.int .i64 T, .int .i64 P, .int .i64 I, .int .i64 Q] 29)).drew)) := Lib.hid B0.out.drew
  have T0d := Lib.hid T0.out.drew
  go_wp2_with fail
  go_region_with (first | (go_at_call 81; refine (implPages_any T P I Q _).mono ?_; rintro e w1 ⟨z, rfl, hb⟩; have T1 := Lib.hid (T0d.out.later hb); have y0 := T1.out.c0; have y1 := T1.out.c1; have y2 := T1.out.c2; have y3 := T1.out.c3; have B1 : Hid (Below w.heap.size w w1) := Lib.hid (B0d.out.trans (hb.mono B0d.out.size)); clear hb) | (go_at_call 79; refine (implAt_nogeo T P I Q t _ HG.out _).mono ?_; rintro e w2 ⟨rfl, hb⟩; have B2 : Hid (Below w.heap.size w w2) := Lib.hid (B1.out.trans (hb.mono B1.out.size)); clear hb))
  all_goals
    go_wp2
    go_ret
    exact ⟨by rw [HJ.out]; rfl, B2.out⟩
set_option maxRecDepth 100000 in
set_option maxHeartbeats 1000000 in
theorem implPage_nogn (T P I Q : Int) (t i : Int) (h : ¬ GeoR T P I Q) (hi : ¬ (0 ≤ i ∧ i < P)) (w : World) : Calls Try.prog 42 #[.agg #[.int .i64 T, .int .i64 P, .int .i64 I, .int .i64 Q], .int .i64 t, .int .i64 i] w (SaysI (pageV T P I Q t i) w) := by
  have T0 := Lib.hid (Four.alloc w T P I Q 29)
  have B0 := Lib.hid (below_al w (.cells #[.int .i64 T, .int .i64 P, .int .i64 I, .int .i64 Q] 29))
  have HJ : Hid (pageV T P I Q t i = -1) := Lib.hid (if_neg (fun e => h e.1))
  have HR := Lib.hid hi
  clear hi
  have HG := Lib.hid h
  clear h
  go_enter Try.func42, Try.ntmps42
  have c0 := T0.out.c0
  have c1 := T0.out.c1
  have c2 := T0.out.c2
  have c3 := T0.out.c3
  go_wp2_with fail
  refine (implIdx_no _ HR.out).mono ?_
  rintro e w9 ⟨rfl, rfl⟩
  go_wp2
  go_ret
  exact ⟨by rw [HJ.out]; rfl, B0.out⟩
theorem implPage_nog (T P I Q t i : Int) (h : ¬ GeoR T P I Q) (w : World) : Calls Try.prog 42 #[.agg #[.int .i64 T, .int .i64 P, .int .i64 I, .int .i64 Q], .int .i64 t, .int .i64 i] w (SaysI (pageV T P I Q t i) w) := by
  by_cases hi : 0 ≤ i ∧ i < P
  · exact implPage_nogy T P I Q t i h hi w
  · exact implPage_nogn T P I Q t i h hi w
theorem implPage_any (T P I Q t i : Int) (w : World) : Calls Try.prog 42 #[.agg #[.int .i64 T, .int .i64 P, .int .i64 I, .int .i64 Q], .int .i64 t, .int .i64 i] w (SaysI (pageV T P I Q t i) w) := by
  by_cases hg : GeoR T P I Q
  · by_cases hi : 0 ≤ i ∧ i ≤ P - 1
    · exact implPage_yes T P I Q t i hg hi w
    · exact implPage_noi T P I Q t i hg hi w
  · exact implPage_nog T P I Q t i hg w
theorem implJournal_any (T P I Q t i : Int) (w : World) : Calls Try.prog 38 #[.agg #[.int .i64 T, .int .i64 P, .int .i64 I, .int .i64 Q], .int .i64 t, .int .i64 i] w (SaysI (jourV T P I Q t i) w) := by
  by_cases hi : 0 ≤ i ∧ i ≤ 15
  · exact implJournal_yes T P I Q t i hi w
  · exact implJournal_no T P I Q t i hi w
end Go.Proofs.Ytmcelfiljnlmoaa
