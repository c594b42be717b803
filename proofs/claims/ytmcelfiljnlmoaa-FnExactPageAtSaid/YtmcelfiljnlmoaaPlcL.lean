/- FnExactCommitAt to FnExactPageAt: the laws' walks. -/
import Derived.Test.YtmcelfiljnlmoaaToGeo
import Derived.Test.YtmcelfiljnlmoaaPlS
import Derived.Test.YtmcelfiljnlmoaaPlI
namespace Go.Proofs.Ytmcelfiljnlmoaa
open Go.RowKit

set_option maxRecDepth 100000 in
set_option maxHeartbeats 1000000 in
theorem exactCommitAt_law (T P I Q : Int) (t : Int) (w : World) : Calls Try.prog 9 #[.agg #[.int .i64 T, .int .i64 P, .int .i64 I, .int .i64 Q], .int .i64 t] w fun e w' => e = .returned (.bool true) ∧ Below w.heap.size w w' := by
  have T0 := Lib.hid (Four.alloc w T P I Q 23)
  have B0 := Lib.hid (below_al w (.cells #[.int .i64 T, .int .i64 P, .int .i64 I, .int .i64 Q] 23))
  obtain ⟨v, hv⟩ : ∃ v, placeV T P I Q t 0 = v := ⟨_, rfl⟩
  have HV := Lib.hid hv
  clear hv
  have hvv : (v == v) = true := by simp
  have hvn : (v != v) = false := by simp
  go_enter Try.func9, Try.ntmps9
  go_wp2_with fail
  refine (toGeo_any T P I Q _).mono ?_
  rintro e w1 ⟨rfl, hb⟩
  have T1 := Lib.hid (T0.out.later hb)
  have B1 : Hid (Below w.heap.size w w1) := Lib.hid (B0.out.trans (hb.mono B0.out.size))
  have c0 := T1.out.c0
  have c1 := T1.out.c1
  have c2 := T1.out.c2
  have c3 := T1.out.c3
  clear hb
  go_wp2_with fail
  clear c0 c1 c2 c3
  refine (specCommit_any T P I Q t _).mono ?_
  rw [HV.out]
  rintro e w2 ⟨rfl, hb⟩
  have T2 := Lib.hid (T1.out.later hb)
  have B2 : Hid (Below w.heap.size w w2) := Lib.hid (B1.out.trans (hb.mono B1.out.size))
  have c0 := T2.out.c0
  have c1 := T2.out.c1
  have c2 := T2.out.c2
  have c3 := T2.out.c3
  clear hb
  go_wp2_with fail
  clear c0 c1 c2 c3
  refine (toGeo_any T P I Q _).mono ?_
  rintro e w3 ⟨rfl, hb⟩
  have T3 := Lib.hid (T2.out.later hb)
  have B3 : Hid (Below w.heap.size w w3) := Lib.hid (B2.out.trans (hb.mono B2.out.size))
  have c0 := T3.out.c0
  have c1 := T3.out.c1
  have c2 := T3.out.c2
  have c3 := T3.out.c3
  clear hb
  go_wp2_with fail
  clear c0 c1 c2 c3
  refine (implCommit_any T P I Q t _).mono ?_
  rw [HV.out]
  rintro e w4 ⟨rfl, hb⟩
  have T4 := Lib.hid (T3.out.later hb)
  have B4 : Hid (Below w.heap.size w w4) := Lib.hid (B3.out.trans (hb.mono B3.out.size))
  have c0 := T4.out.c0
  have c1 := T4.out.c1
  have c2 := T4.out.c2
  have c3 := T4.out.c3
  clear hb
  go_wp2
  go_ret
  exact ⟨rfl, B4.out⟩
set_option maxRecDepth 100000 in
set_option maxHeartbeats 1000000 in
theorem exactSerialAt_law (T P I Q : Int) (t : Int) (w : World) : Calls Try.prog 10 #[.agg #[.int .i64 T, .int .i64 P, .int .i64 I, .int .i64 Q], .int .i64 t] w fun e w' => e = .returned (.bool true) ∧ Below w.heap.size w w' := by
  have T0 := Lib.hid (Four.alloc w T P I Q 23)
  have B0 := Lib.hid (below_al w (.cells #[.int .i64 T, .int .i64 P, .int .i64 I, .int .i64 Q] 23))
  obtain ⟨v, hv⟩ : ∃ v, placeV T P I Q t 2 = v := ⟨_, rfl⟩
  have HV := Lib.hid hv
  clear hv
  have hvv : (v == v) = true := by simp
  have hvn : (v != v) = false := by simp
  go_enter Try.func10, Try.ntmps10
  go_wp2_with fail
  refine (toGeo_any T P I Q _).mono ?_
  rintro e w1 ⟨rfl, hb⟩
  have T1 := Lib.hid (T0.out.later hb)
  have B1 : Hid (Below w.heap.size w w1) := Lib.hid (B0.out.trans (hb.mono B0.out.size))
  have c0 := T1.out.c0
  have c1 := T1.out.c1
  have c2 := T1.out.c2
  have c3 := T1.out.c3
  clear hb
  go_wp2_with fail
  clear c0 c1 c2 c3
  refine (specSerial_any T P I Q t _).mono ?_
  rw [HV.out]
  rintro e w2 ⟨rfl, hb⟩
  have T2 := Lib.hid (T1.out.later hb)
  have B2 : Hid (Below w.heap.size w w2) := Lib.hid (B1.out.trans (hb.mono B1.out.size))
  have c0 := T2.out.c0
  have c1 := T2.out.c1
  have c2 := T2.out.c2
  have c3 := T2.out.c3
  clear hb
  go_wp2_with fail
  clear c0 c1 c2 c3
  refine (toGeo_any T P I Q _).mono ?_
  rintro e w3 ⟨rfl, hb⟩
  have T3 := Lib.hid (T2.out.later hb)
  have B3 : Hid (Below w.heap.size w w3) := Lib.hid (B2.out.trans (hb.mono B2.out.size))
  have c0 := T3.out.c0
  have c1 := T3.out.c1
  have c2 := T3.out.c2
  have c3 := T3.out.c3
  clear hb
  go_wp2_with fail
  clear c0 c1 c2 c3
  refine (implSerial_any T P I Q t _).mono ?_
  rw [HV.out]
  rintro e w4 ⟨rfl, hb⟩
  have T4 := Lib.hid (T3.out.later hb)
  have B4 : Hid (Below w.heap.size w w4) := Lib.hid (B3.out.trans (hb.mono B3.out.size))
  have c0 := T4.out.c0
  have c1 := T4.out.c1
  have c2 := T4.out.c2
  have c3 := T4.out.c3
  clear hb
  go_wp2
  go_ret
  exact ⟨rfl, B4.out⟩
set_option maxRecDepth 100000 in
set_option maxHeartbeats 1000000 in
theorem exactJournalAt_law (T P I Q : Int) (t i : Int) (w : World) : Calls Try.prog 11 #[.agg #[.int .i64 T, .int .i64 P, .int .i64 I, .int .i64 Q], .int .i64 t, .int .i64 i] w fun e w' => e = .returned (.bool true) ∧ Below w.heap.size w w' := by
  have T0 := Lib.hid (Four.alloc w T P I Q 23)
  have B0 := Lib.hid (below_al w (.cells #[.int .i64 T, .int .i64 P, .int .i64 I, .int .i64 Q] 23))
  obtain ⟨v, hv⟩ : ∃ v, jourV T P I Q t i = v := ⟨_, rfl⟩
  have HV := Lib.hid hv
  clear hv
  have hvv : (v == v) = true := by simp
  have hvn : (v != v) = false := by simp
  go_enter Try.func11, Try.ntmps11
  go_wp2_with fail
  refine (toGeo_any T P I Q _).mono ?_
  rintro e w1 ⟨rfl, hb⟩
  have T1 := Lib.hid (T0.out.later hb)
  have B1 : Hid (Below w.heap.size w w1) := Lib.hid (B0.out.trans (hb.mono B0.out.size))
  have c0 := T1.out.c0
  have c1 := T1.out.c1
  have c2 := T1.out.c2
  have c3 := T1.out.c3
  clear hb
  go_wp2_with fail
  clear c0 c1 c2 c3
  refine (specJournal_any T P I Q t i _).mono ?_
  rw [HV.out]
  rintro e w2 ⟨rfl, hb⟩
  have T2 := Lib.hid (T1.out.later hb)
  have B2 : Hid (Below w.heap.size w w2) := Lib.hid (B1.out.trans (hb.mono B1.out.size))
  have c0 := T2.out.c0
  have c1 := T2.out.c1
  have c2 := T2.out.c2
  have c3 := T2.out.c3
  clear hb
  go_wp2_with fail
  clear c0 c1 c2 c3
  refine (toGeo_any T P I Q _).mono ?_
  rintro e w3 ⟨rfl, hb⟩
  have T3 := Lib.hid (T2.out.later hb)
  have B3 : Hid (Below w.heap.size w w3) := Lib.hid (B2.out.trans (hb.mono B2.out.size))
  have c0 := T3.out.c0
  have c1 := T3.out.c1
  have c2 := T3.out.c2
  have c3 := T3.out.c3
  clear hb
  go_wp2_with fail
  clear c0 c1 c2 c3
  refine (implJournal_any T P I Q t i _).mono ?_
  rw [HV.out]
  rintro e w4 ⟨rfl, hb⟩
  have T4 := Lib.hid (T3.out.later hb)
  have B4 : Hid (Below w.heap.size w w4) := Lib.hid (B3.out.trans (hb.mono B3.out.size))
  have c0 := T4.out.c0
  have c1 := T4.out.c1
  have c2 := T4.out.c2
  have c3 := T4.out.c3
  clear hb
  go_wp2
  go_ret
  exact ⟨rfl, B4.out⟩
set_option maxRecDepth 100000 in
set_option maxHeartbeats 1000000 in
theorem exactInodeAt_law (T P I Q : Int) (t i : Int) (w : World) : Calls Try.prog 12 #[.agg #[.int .i64 T, .int .i64 P, .int .i64 I, .int .i64 Q], .int .i64 t, .int .i64 i] w fun e w' => e = .returned (.bool true) ∧ Below w.heap.size w w' := by
  have T0 := Lib.hid (Four.alloc w T P I Q 23)
  have B0 := Lib.hid (below_al w (.cells #[.int .i64 T, .int .i64 P, .int .i64 I, .int .i64 Q] 23))
  obtain ⟨v, hv⟩ : ∃ v, inodV T P I Q t i = v := ⟨_, rfl⟩
  have HV := Lib.hid hv
  clear hv
  have hvv : (v == v) = true := by simp
  have hvn : (v != v) = false := by simp
  go_enter Try.func12, Try.ntmps12
  go_wp2_with fail
  refine (toGeo_any T P I Q _).mono ?_
  rintro e w1 ⟨rfl, hb⟩
  have T1 := Lib.hid (T0.out.later hb)
  have B1 : Hid (Below w.heap.size w w1) := Lib.hid (B0.out.trans (hb.mono B0.out.size))
  have c0 := T1.out.c0
  have c1 := T1.out.c1
  have c2 := T1.out.c2
  have c3 := T1.out.c3
  clear hb
  go_wp2_with fail
  clear c0 c1 c2 c3
  refine (specInode_any T P I Q t i _).mono ?_
  rw [HV.out]
  rintro e w2 ⟨rfl, hb⟩
  have T2 := Lib.hid (T1.out.later hb)
  have B2 : Hid (Below w.heap.size w w2) := Lib.hid (B1.out.trans (hb.mono B1.out.size))
  have c0 := T2.out.c0
  have c1 := T2.out.c1
  have c2 := T2.out.c2
  have c3 := T2.out.c3
  clear hb
  go_wp2_with fail
  clear c0 c1 c2 c3
  refine (toGeo_any T P I Q _).mono ?_
  rintro e w3 ⟨rfl, hb⟩
  have T3 := Lib.hid (T2.out.later hb)
  have B3 : Hid (Below w.heap.size w w3) := Lib.hid (B2.out.trans (hb.mono B2.out.size))
  have c0 := T3.out.c0
  have c1 := T3.out.c1
  have c2 := T3.out.c2
  have c3 := T3.out.c3
  clear hb
  go_wp2_with fail
  clear c0 c1 c2 c3
  refine (implInode_any T P I Q t i _).mono ?_
  rw [HV.out]
  rintro e w4 ⟨rfl, hb⟩
  have T4 := Lib.hid (T3.out.later hb)
  have B4 : Hid (Below w.heap.size w w4) := Lib.hid (B3.out.trans (hb.mono B3.out.size))
  have c0 := T4.out.c0
  have c1 := T4.out.c1
  have c2 := T4.out.c2
  have c3 := T4.out.c3
  clear hb
  go_wp2
  go_ret
  exact ⟨rfl, B4.out⟩
set_option maxRecDepth 100000 in
set_option maxHeartbeats 1000000 in
theorem exactPageAt_law (T P I Q : Int) (t i : Int) (w : World) : Calls Try.prog 13 #[.agg #[.int .i64 T, .int .i64 P, .int .i64 I, .int .i64 Q], .int .i64 t, .int .i64 i] w fun e w' => e = .returned (.bool true) ∧ Below w.heap.size w w' := by
  have T0 := Lib.hid (Four.alloc w T P I Q 23)
  have B0 := Lib.hid (below_al w (.cells #[.int .i64 T, .int .i64 P, .int .i64 I, .int .i64 Q] 23))
  obtain ⟨v, hv⟩ : ∃ v, pageV T P I Q t i = v := ⟨_, rfl⟩
  have HV := Lib.hid hv
  clear hv
  have hvv : (v == v) = true := by simp
  have hvn : (v != v) = false := by simp
  go_enter Try.func13, Try.ntmps13
  go_wp2_with fail
  refine (toGeo_any T P I Q _).mono ?_
  rintro e w1 ⟨rfl, hb⟩
  have T1 := Lib.hid (T0.out.later hb)
  have B1 : Hid (Below w.heap.size w w1) := Lib.hid (B0.out.trans (hb.mono B0.out.size))
  have c0 := T1.out.c0
  have c1 := T1.out.c1
  have c2 := T1.out.c2
  have c3 := T1.out.c3
  clear hb
  go_wp2_with fail
  clear c0 c1 c2 c3
  refine (specPage_any T P I Q t i _).mono ?_
  rw [HV.out]
  rintro e w2 ⟨rfl, hb⟩
  have T2 := Lib.hid (T1.out.later hb)
  have B2 : Hid (Below w.heap.size w w2) := Lib.hid (B1.out.trans (hb.mono B1.out.size))
  have c0 := T2.out.c0
  have c1 := T2.out.c1
  have c2 := T2.out.c2
  have c3 := T2.out.c3
  clear hb
  go_wp2_with fail
  clear c0 c1 c2 c3
  refine (toGeo_any T P I Q _).mono ?_
  rintro e w3 ⟨rfl, hb⟩
  have T3 := Lib.hid (T2.out.later hb)
  have B3 : Hid (Below w.heap.size w w3) := Lib.hid (B2.out.trans (hb.mono B2.out.size))
  have c0 := T3.out.c0
  have c1 := T3.out.c1
  have c2 := T3.out.c2
  have c3 := T3.out.c3
  clear hb
  go_wp2_with fail
  clear c0 c1 c2 c3
  refine (implPage_any T P I Q t i _).mono ?_
  rw [HV.out]
  rintro e w4 ⟨rfl, hb⟩
  have T4 := Lib.hid (T3.out.later hb)
  have B4 : Hid (Below w.heap.size w w4) := Lib.hid (B3.out.trans (hb.mono B3.out.size))
  have c0 := T4.out.c0
  have c1 := T4.out.c1
  have c2 := T4.out.c2
  have c3 := T4.out.c3
  clear hb
  go_wp2
  go_ret
  exact ⟨rfl, B4.out⟩
end Go.Proofs.Ytmcelfiljnlmoaa
