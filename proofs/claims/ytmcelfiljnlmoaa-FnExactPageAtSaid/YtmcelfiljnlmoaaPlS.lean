/- CommitAt, SerialAt, JournalAt, InodeAt, PageAt of the model. -/
import Derived.Test.YtmcelfiljnlmoaaAtS
import Derived.Test.YtmcelfiljnlmoaaPlcV
namespace Go.Proofs.Ytmcelfiljnlmoaa
open Go.RowKit

theorem specAt_any (T P I Q t a : Int) (ha : GeoR T P I Q → 0 ≤ a ∧ a ≤ 1000) (w : World) : Calls Try.prog 78 #[.agg #[.int .i64 T, .int .i64 P, .int .i64 I, .int .i64 Q], .int .i64 t, .int .i64 a] w (SaysI (placeV T P I Q t a) w) := by
  by_cases h : GeoR T P I Q ∧ 0 ≤ t ∧ t ≤ T - 1
  · rw [placeV_yes h]; exact specAt_yes T P I Q t a h.1 h.2 (ha h.1) w
  · rw [placeV_no h]; exact specAt_no T P I Q t a h w

set_option maxRecDepth 100000 in
set_option maxHeartbeats 1000000 in
theorem specCommit_any (T P I Q : Int) (t : Int) (w : World) : Calls Try.prog 33 #[.agg #[.int .i64 T, .int .i64 P, .int .i64 I, .int .i64 Q], .int .i64 t] w (SaysI (placeV T P I Q t 0) w) := by
  have T0 := Lib.hid (Four.alloc w T P I Q 29)
  have B0 := Lib.hid (below_al w (.cells #[.int .i64 T, .int .i64 P, .int .i64 I, .int .i64 Q] 29))
  go_enter Try.func33, Try.ntmps33
  go_wp2_with fail
  refine (specAt_any T P I Q t (0) (fun _ => by omega) _).mono ?_
  rintro e w8 ⟨rfl, hb⟩
  have B8 : Hid (Below w.heap.size w w8) := Lib.hid (B0.out.trans (hb.mono B0.out.size))
  clear hb
  obtain ⟨v, hv⟩ : ∃ v, placeV T P I Q t (0) = v := ⟨_, rfl⟩
  rw [hv]
  have HV := Lib.hid hv
  clear hv
  go_wp2
  go_ret
  exact ⟨by rw [HV.out]; rfl, B8.out⟩
set_option maxRecDepth 100000 in
set_option maxHeartbeats 1000000 in
theorem specSerial_any (T P I Q : Int) (t : Int) (w : World) : Calls Try.prog 35 #[.agg #[.int .i64 T, .int .i64 P, .int .i64 I, .int .i64 Q], .int .i64 t] w (SaysI (placeV T P I Q t 2) w) := by
  have T0 := Lib.hid (Four.alloc w T P I Q 29)
  have B0 := Lib.hid (below_al w (.cells #[.int .i64 T, .int .i64 P, .int .i64 I, .int .i64 Q] 29))
  go_enter Try.func35, Try.ntmps35
  go_wp2_with fail
  refine (specAt_any T P I Q t (2) (fun _ => by omega) _).mono ?_
  rintro e w8 ⟨rfl, hb⟩
  have B8 : Hid (Below w.heap.size w w8) := Lib.hid (B0.out.trans (hb.mono B0.out.size))
  clear hb
  obtain ⟨v, hv⟩ : ∃ v, placeV T P I Q t (2) = v := ⟨_, rfl⟩
  rw [hv]
  have HV := Lib.hid hv
  clear hv
  go_wp2
  go_ret
  exact ⟨by rw [HV.out]; rfl, B8.out⟩
set_option maxRecDepth 100000 in
set_option maxHeartbeats 1000000 in
theorem specJournal_yes (T P I Q : Int) (t i : Int) (h : 0 ≤ i ∧ i ≤ 15) (w : World) : Calls Try.prog 37 #[.agg #[.int .i64 T, .int .i64 P, .int .i64 I, .int .i64 Q], .int .i64 t, .int .i64 i] w (SaysI (jourV T P I Q t i) w) := by
  have T0 := Lib.hid (Four.alloc w T P I Q 29)
  have B0 := Lib.hid (below_al w (.cells #[.int .i64 T, .int .i64 P, .int .i64 I, .int .i64 Q] 29))
  have HJ : Hid (jourV T P I Q t i = placeV T P I Q t (4 + 2 * i)) := Lib.hid (if_pos h)
  have HR := Lib.hid h
  obtain ⟨i0, i1⟩ := h
  go_enter Try.func37, Try.ntmps37
  go_wp2_with fail
  refine (specIn_yes _ HR.out).mono ?_
  rintro e w9 ⟨rfl, rfl⟩
  go_wp2_with fail
  refine (specAt_any T P I Q t (4 + 2 * i) (fun _ => by omega) _).mono ?_
  rintro e w8 ⟨rfl, hb⟩
  have B8 : Hid (Below w.heap.size w w8) := Lib.hid (B0.out.trans (hb.mono B0.out.size))
  clear hb
  obtain ⟨v, hv⟩ : ∃ v, placeV T P I Q t (4 + 2 * i) = v := ⟨_, rfl⟩
  rw [hv]
  have HV := Lib.hid hv
  clear hv
  go_wp2
  go_ret
  exact ⟨by rw [HJ.out, HV.out]; rfl, B8.out⟩
set_option maxRecDepth 100000 in
set_option maxHeartbeats 1000000 in
theorem specJournal_no (T P I Q : Int) (t i : Int) (h : ¬ (0 ≤ i ∧ i ≤ 15)) (w : World) : Calls Try.prog 37 #[.agg #[.int .i64 T, .int .i64 P, .int .i64 I, .int .i64 Q], .int .i64 t, .int .i64 i] w (SaysI (jourV T P I Q t i) w) := by
  have T0 := Lib.hid (Four.alloc w T P I Q 29)
  have B0 := Lib.hid (below_al w (.cells #[.int .i64 T, .int .i64 P, .int .i64 I, .int .i64 Q] 29))
  have HJ : Hid (jourV T P I Q t i = -1) := Lib.hid (if_neg h)
  have HR := Lib.hid h
  clear h
  go_enter Try.func37, Try.ntmps37
  go_wp2_with fail
  refine (specIn_no _ HR.out).mono ?_
  rintro e w9 ⟨rfl, rfl⟩
  go_wp2
  go_ret
  exact ⟨by rw [HJ.out]; rfl, B0.out⟩
set_option maxRecDepth 100000 in
set_option maxHeartbeats 1000000 in
theorem specInode_yes (T P I Q : Int) (t i : Int) (h : GeoR T P I Q) (hi : 0 ≤ i ∧ i ≤ I - 1) (w : World) : Calls Try.prog 39 #[.agg #[.int .i64 T, .int .i64 P, .int .i64 I, .int .i64 Q], .int .i64 t, .int .i64 i] w (SaysI (inodV T P I Q t i) w) := by
  have T0 := Lib.hid (Four.alloc w T P I Q 29)
  have B0 := Lib.hid (below_al w (.cells #[.int .i64 T, .int .i64 P, .int .i64 I, .int .i64 Q] 29))
  have HJ : Hid (inodV T P I Q t i = placeV T P I Q t (38 + 8 * i)) := Lib.hid (if_pos ⟨h, hi⟩)
  have HR := Lib.hid hi
  obtain ⟨i0, i1⟩ := hi
  have HG := Lib.hid h
  obtain ⟨g1, g2, g3, g4, g5, g6, g7, g8⟩ := h
  go_enter Try.func39, Try.ntmps39
  go_wp2_with fail
  refine (specGeo_yes T P I Q _ HG.out).mono ?_
  rintro e w1 ⟨rfl, hb⟩
  have T1 := Lib.hid (T0.out.later hb)
  have B1 : Hid (Below w.heap.size w w1) := Lib.hid (B0.out.trans (hb.mono B0.out.size))
  clear hb
  have c0 := T1.out.c0
  have c1 := T1.out.c1
  have c2 := T1.out.c2
  have c3 := T1.out.c3
  go_wp2_with fail
  refine (specIn_yes _ HR.out).mono ?_
  rintro e w9 ⟨rfl, rfl⟩
  go_wp2_with fail
  refine (specAt_any T P I Q t (38 + 8 * i) (fun _ => by omega) _).mono ?_
  rintro e w8 ⟨rfl, hb⟩
  have B8 : Hid (Below w.heap.size w w8) := Lib.hid (B1.out.trans (hb.mono B1.out.size))
  clear hb
  obtain ⟨v, hv⟩ : ∃ v, placeV T P I Q t (38 + 8 * i) = v := ⟨_, rfl⟩
  rw [hv]
  have HV := Lib.hid hv
  clear hv
  go_wp2
  go_ret
  exact ⟨by rw [HJ.out, HV.out]; rfl, B8.out⟩
set_option maxRecDepth 100000 in
set_option maxHeartbeats 1000000 in
theorem specInode_noi (T P I Q : Int) (t i : Int) (h : GeoR T P I Q) (hi : ¬ (0 ≤ i ∧ i ≤ I - 1)) (w : World) : Calls Try.prog 39 #[.agg #[.int .i64 T, .int .i64 P, .int .i64 I, .int .i64 Q], .int .i64 t, .int .i64 i] w (SaysI (inodV T P I Q t i) w) := by
  have T0 := Lib.hid (Four.alloc w T P I Q 29)
  have B0 := Lib.hid (below_al w (.cells #[.int .i64 T, .int .i64 P, .int .i64 I, .int .i64 Q] 29))
  have HJ : Hid (inodV T P I Q t i = -1) := Lib.hid (if_neg (fun e => hi e.2))
  have HR := Lib.hid hi
  clear hi
  have HG := Lib.hid h
  obtain ⟨g1, g2, g3, g4, g5, g6, g7, g8⟩ := h
  go_enter Try.func39, Try.ntmps39
  go_wp2_with fail
  refine (specGeo_yes T P I Q _ HG.out).mono ?_
  rintro e w1 ⟨rfl, hb⟩
  have T1 := Lib.hid (T0.out.later hb)
  have B1 : Hid (Below w.heap.size w w1) := Lib.hid (B0.out.trans (hb.mono B0.out.size))
  clear hb
  have c0 := T1.out.c0
  have c1 := T1.out.c1
  have c2 := T1.out.c2
  have c3 := T1.out.c3
  go_wp2_with fail
  refine (specIn_no _ HR.out).mono ?_
  rintro e w9 ⟨rfl, rfl⟩
  go_wp2
  go_ret
  exact ⟨by rw [HJ.out]; rfl, B1.out⟩
set_option maxRecDepth 100000 in
set_option maxHeartbeats 1000000 in
theorem specInode_nog (T P I Q : Int) (t i : Int) (h : ¬ GeoR T P I Q) (w : World) : Calls Try.prog 39 #[.agg #[.int .i64 T, .int .i64 P, .int .i64 I, .int .i64 Q], .int .i64 t, .int .i64 i] w (SaysI (inodV T P I Q t i) w) := by
  have T0 := Lib.hid (Four.alloc w T P I Q 29)
  have B0 := Lib.hid (below_al w (.cells #[.int .i64 T, .int .i64 P, .int .i64 I, .int .i64 Q] 29))
  have HJ : Hid (inodV T P I Q t i = -1) := Lib.hid (if_neg (fun e => h e.1))
  have HG := Lib.hid h
  clear h
  go_enter Try.func39, Try.ntmps39
  go_wp2_with fail
  refine (specGeo_no T P I Q _ HG.out).mono ?_
  rintro e w1 ⟨rfl, hb⟩
  have T1 := Lib.hid (T0.out.later hb)
  have B1 : Hid (Below w.heap.size w w1) := Lib.hid (B0.out.trans (hb.mono B0.out.size))
  clear hb
  have c0 := T1.out.c0
  have c1 := T1.out.c1
  have c2 := T1.out.c2
  have c3 := T1.out.c3
  go_wp2
  go_ret
  exact ⟨by rw [HJ.out]; rfl, B1.out⟩
theorem specInode_any (T P I Q t i : Int) (w : World) : Calls Try.prog 39 #[.agg #[.int .i64 T, .int .i64 P, .int .i64 I, .int .i64 Q], .int .i64 t, .int .i64 i] w (SaysI (inodV T P I Q t i) w) := by
  by_cases hg : GeoR T P I Q
  · by_cases hi : 0 ≤ i ∧ i ≤ I - 1
    · exact specInode_yes T P I Q t i hg hi w
    · exact specInode_noi T P I Q t i hg hi w
  · exact specInode_nog T P I Q t i hg w
set_option maxRecDepth 100000 in
set_option maxHeartbeats 1000000 in
theorem specPage_yes (T P I Q : Int) (t i : Int) (h : GeoR T P I Q) (hi : 0 ≤ i ∧ i ≤ P - 1) (w : World) : Calls Try.prog 41 #[.agg #[.int .i64 T, .int .i64 P, .int .i64 I, .int .i64 Q], .int .i64 t, .int .i64 i] w (SaysI (pageV T P I Q t i) w) := by
  have T0 := Lib.hid (Four.alloc w T P I Q 29)
  have B0 := Lib.hid (below_al w (.cells #[.int .i64 T, .int .i64 P, .int .i64 I, .int .i64 Q] 29))
  have HJ : Hid (pageV T P I Q t i = placeV T P I Q t (38 + 8 * I + 4 * i)) := Lib.hid (if_pos ⟨h, hi⟩)
  have HR := Lib.hid hi
  obtain ⟨i0, i1⟩ := hi
  have HG := Lib.hid h
  obtain ⟨g1, g2, g3, g4, g5, g6, g7, g8⟩ := h
  go_enter Try.func41, Try.ntmps41
  go_wp2_with fail
  refine (specGeo_yes T P I Q _ HG.out).mono ?_
  rintro e w1 ⟨rfl, hb⟩
  have T1 := Lib.hid (T0.out.later hb)
  have B1 : Hid (Below w.heap.size w w1) := Lib.hid (B0.out.trans (hb.mono B0.out.size))
  clear hb
  have c0 := T1.out.c0
  have c1 := T1.out.c1
  have c2 := T1.out.c2
  have c3 := T1.out.c3
  go_wp2_with fail
  refine (specIn_yes _ HR.out).mono ?_
  rintro e w9 ⟨rfl, rfl⟩
  go_wp2_with fail
  refine (specAt_any T P I Q t (38 + 8 * I + 4 * i) (fun _ => by omega) _).mono ?_
  rintro e w8 ⟨rfl, hb⟩
  have B8 : Hid (Below w.heap.size w w8) := Lib.hid (B1.out.trans (hb.mono B1.out.size))
  clear hb
  obtain ⟨v, hv⟩ : ∃ v, placeV T P I Q t (38 + 8 * I + 4 * i) = v := ⟨_, rfl⟩
  rw [hv]
  have HV := Lib.hid hv
  clear hv
  go_wp2
  go_ret
  exact ⟨by rw [HJ.out, HV.out]; rfl, B8.out⟩
set_option maxRecDepth 100000 in
set_option maxHeartbeats 1000000 in
theorem specPage_noi (T P I Q : Int) (t i : Int) (h : GeoR T P I Q) (hi : ¬ (0 ≤ i ∧ i ≤ P - 1)) (w : World) : Calls Try.prog 41 #[.agg #[.int .i64 T, .int .i64 P, .int .i64 I, .int .i64 Q], .int .i64 t, .int .i64 i] w (SaysI (pageV T P I Q t i) w) := by
  have T0 := Lib.hid (Four.alloc w T P I Q 29)
  have B0 := Lib.hid (below_al w (.cells #[.int .i64 T, .int .i64 P, .int .i64 I, .int .i64 Q] 29))
  have HJ : Hid (pageV T P I Q t i = -1) := Lib.hid (if_neg (fun e => hi e.2))
  have HR := Lib.hid hi
  clear hi
  have HG := Lib.hid h
  obtain ⟨g1, g2, g3, g4, g5, g6, g7, g8⟩ := h
  go_enter Try.func41, Try.ntmps41
  go_wp2_with fail
  refine (specGeo_yes T P I Q _ HG.out).mono ?_
  rintro e w1 ⟨rfl, hb⟩
  have T1 := Lib.hid (T0.out.later hb)
  have B1 : Hid (Below w.heap.size w w1) := Lib.hid (B0.out.trans (hb.mono B0.out.size))
  clear hb
  have c0 := T1.out.c0
  have c1 := T1.out.c1
  have c2 := T1.out.c2
  have c3 := T1.out.c3
  go_wp2_with fail
  refine (specIn_no _ HR.out).mono ?_
  rintro e w9 ⟨rfl, rfl⟩
  go_wp2
  go_ret
  exact ⟨by rw [HJ.out]; rfl, B1.out⟩
set_option maxRecDepth 100000 in
set_option maxHeartbeats 1000000 in
theorem specPage_nog (T P I Q : Int) (t i : Int) (h : ¬ GeoR T P I Q) (w : World) : Calls Try.prog 41 #[.agg #[.int .i64 T, .int .i64 P, .int .i64 I, .int .i64 Q], .int .i64 t, .int .i64 i] w (SaysI (pageV T P I Q t i) w) := by
  have T0 := Lib.hid (Four.alloc w T P I Q 29)
  have B0 := Lib.hid (below_al w (.cells #[.int .i64 T, .int .i64 P, .int .i64 I, .int .i64 Q] 29))
  have HJ : Hid (pageV T P I Q t i = -1) := Lib.hid (if_neg (fun e => h e.1))
  have HG := Lib.hid h
  clear h
  go_enter Try.func41, Try.ntmps41
  go_wp2_with fail
  refine (specGeo_no T P I Q _ HG.out).mono ?_
  rintro e w1 ⟨rfl, hb⟩
  have T1 := Lib.hid (T0.out.later hb)
  have B1 : Hid (Below w.heap.size w w1) := Lib.hid (B0.out.trans (hb.mono B0.out.size))
  clear hb
  have c0 := T1.out.c0
  have c1 := T1.out.c1
  have c2 := T1.out.c2
  have c3 := T1.out.c3
  go_wp2
  go_ret
  exact ⟨by rw [HJ.out]; rfl, B1.out⟩
theorem specPage_any (T P I Q t i : Int) (w : World) : Calls Try.prog 41 #[.agg #[.int .i64 T, .int .i64 P, .int .i64 I, .int .i64 Q], .int .i64 t, .int .i64 i] w (SaysI (pageV T P I Q t i) w) := by
  by_cases hg : GeoR T P I Q
  · by_cases hi : 0 ≤ i ∧ i ≤ P - 1
    · exact specPage_yes T P I Q t i hg hi w
    · exact specPage_noi T P I Q t i hg hi w
  · exact specPage_nog T P I Q t i hg w
theorem specJournal_any (T P I Q t i : Int) (w : World) : Calls Try.prog 37 #[.agg #[.int .i64 T, .int .i64 P, .int .i64 I, .int .i64 Q], .int .i64 t, .int .i64 i] w (SaysI (jourV T P I Q t i) w) := by
  by_cases hi : 0 ≤ i ∧ i ≤ 15
  · exact specJournal_yes T P I Q t i hi w
  · exact specJournal_no T P I Q t i hi w
end Go.Proofs.Ytmcelfiljnlmoaa
