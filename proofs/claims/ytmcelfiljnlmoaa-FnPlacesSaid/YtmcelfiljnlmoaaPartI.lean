/- PartAt of the program. -/
import Derived.Test.YtmcelfiljnlmoaaLinI
import Derived.Test.YtmcelfiljnlmoaaIdxI
import Derived.Test.YtmcelfiljnlmoaaPartV
namespace Go.Proofs.Ytmcelfiljnlmoaa
open Go.RowKit

set_option maxRecDepth 100000 in
set_option maxHeartbeats 1000000 in
theorem implKind_any (T P I Q : Int) (k : Int) (h : GeoR T P I Q) (hk : 0 ≤ k ∧ k ≤ 1000) (w : World) : Calls Try.prog 84 #[.agg #[.int .i64 T, .int .i64 P, .int .i64 I, .int .i64 Q], .int .i64 k] w (SaysI (Plc.kindZ I k) w) := by
  have T0 := Lib.hid (Four.alloc w T P I Q 29)
  have B0 := Lib.hid (below_al w (.cells #[.int .i64 T, .int .i64 P, .int .i64 I, .int .i64 Q] 29))
  have HG := Lib.hid h
  obtain ⟨g1, g2, g3, g4, g5, g6, g7, g8⟩ := h
  rcases kind_cases (I := I) (by omega) hk.1 with h | h | h | h | h | h | h
  · rw [kind1 h]
    obtain ⟨k0, k1⟩ := hk
    subst h
    go_enter Try.func84, Try.ntmps84
    go_wp2
    go_ret
    exact ⟨rfl, B0.out⟩
  · rw [kind2 h]
    obtain ⟨k0, k1⟩ := hk
    subst h
    go_enter Try.func84, Try.ntmps84
    go_wp2
    go_ret
    exact ⟨rfl, B0.out⟩
  · rw [kind0 h]
    obtain ⟨k0, k1⟩ := hk
    obtain ⟨h1, h2, h3⟩ := h
    have e1 : (k == 0) = false := by simp; omega
    have e2 : (k == 2) = false := by simp; omega
    go_enter Try.func84, Try.ntmps84
    go_wp2
    go_ret
    exact ⟨rfl, B0.out⟩
  · rw [kind3 h]
    obtain ⟨k0, k1⟩ := hk
    obtain ⟨h1, h2⟩ := h
    have e1 : (k == 0) = false := by simp; omega
    have e2 : (k == 2) = false := by simp; omega
    go_enter Try.func84, Try.ntmps84
    go_wp2
    go_ret
    exact ⟨rfl, B0.out⟩
  · rw [kind4 h]
    obtain ⟨k0, k1⟩ := hk
    obtain ⟨h1, h2⟩ := h
    have e1 : (k == 0) = false := by simp; omega
    have e2 : (k == 2) = false := by simp; omega
    go_enter Try.func84, Try.ntmps84
    go_wp2
    go_ret
    exact ⟨rfl, B0.out⟩
  · rw [kind5 h]
    obtain ⟨k0, k1⟩ := hk
    obtain ⟨h1, h2⟩ := h
    have e1 : (k == 0) = false := by simp; omega
    have e2 : (k == 2) = false := by simp; omega
    go_enter Try.func84, Try.ntmps84
    go_wp2_with fail
    refine (implPages_yes T P I Q HG.out _).mono ?_
    rintro e w1 ⟨rfl, hb⟩
    have T1 := Lib.hid (T0.out.later hb)
    have B1 : Hid (Below w.heap.size w w1) := Lib.hid (B0.out.trans (hb.mono B0.out.size))
    clear hb
    have c0 := T1.out.c0
    have c1 := T1.out.c1
    have c2 := T1.out.c2
    have c3 := T1.out.c3
    go_wp2
    go_ret
    exact ⟨rfl, B1.out⟩
  · rw [kind6 h]
    obtain ⟨k0, k1⟩ := hk
    obtain ⟨h1, h2⟩ := h
    have e1 : (k == 0) = false := by simp; omega
    have e2 : (k == 2) = false := by simp; omega
    go_enter Try.func84, Try.ntmps84
    go_wp2_with fail
    refine (implPages_yes T P I Q HG.out _).mono ?_
    rintro e w1 ⟨rfl, hb⟩
    have T1 := Lib.hid (T0.out.later hb)
    have B1 : Hid (Below w.heap.size w w1) := Lib.hid (B0.out.trans (hb.mono B0.out.size))
    clear hb
    have c0 := T1.out.c0
    have c1 := T1.out.c1
    have c2 := T1.out.c2
    have c3 := T1.out.c3
    go_wp2
    go_ret
    exact ⟨rfl, B1.out⟩
set_option maxRecDepth 100000 in
set_option maxHeartbeats 1000000 in
theorem implPart_yes (T P I Q : Int) (a : Int) (h : GeoR T P I Q) (ha : 0 ≤ a ∧ a ≤ T * wordsOf P I - 1) (w : World) : Calls Try.prog 48 #[.agg #[.int .i64 T, .int .i64 P, .int .i64 I, .int .i64 Q], .int .i64 a] w (SaysII (partT T P I Q a) (partK T P I Q a) w) := by
  have T0 := Lib.hid (Four.alloc w T P I Q 29)
  have B0 := Lib.hid (below_al w (.cells #[.int .i64 T, .int .i64 P, .int .i64 I, .int .i64 Q] 29))
  have HV : Hid (partT T P I Q a = a / wordsOf P I ∧ partK T P I Q a = Plc.kindZ I (a % wordsOf P I)) := Lib.hid ⟨if_pos ⟨h, ha⟩, if_pos ⟨h, ha⟩⟩
  have hl := linesV_yes h
  obtain ⟨lv, hlv⟩ : ∃ lv, linesV T P I Q = lv := ⟨_, rfl⟩
  rw [hlv] at hl
  have HLV := Lib.hid hlv
  clear hlv
  obtain ⟨W, hW⟩ : ∃ W, wordsOf P I = W := ⟨_, rfl⟩
  have HG := Lib.hid h
  obtain ⟨g1, g2, g3, g4, g5, g6, g7, g8⟩ := h
  have hw0 : 46 ≤ W ∧ W ≤ 134 := by unfold wordsOf at hW; omega
  have hm := Plc.mul_bd (T := T) (W := W) (by omega) (by omega) (by omega) (by omega)
  obtain ⟨m1, m2⟩ := hm
  obtain ⟨W1, W2⟩ := hw0
  rw [hW] at HV ha hl
  have HW := Lib.hid hW
  clear hW
  have HR := Lib.hid ha
  obtain ⟨hl1, hl2, hl3⟩ := hl
  have HL := Lib.hid hl1
  clear hl1
  have q0 : 0 ≤ a % W := Int.emod_nonneg _ (by omega)
  have q1 : a % W < W := Int.emod_lt_of_pos _ (by omega)
  have HK : Hid (0 ≤ a % W ∧ a % W ≤ 1000) := Lib.hid ⟨q0, by omega⟩
  obtain ⟨a0, a1⟩ := ha
  have HA : Hid (a ≤ 402) := Lib.hid (by omega)
  have a2 := HA.out
  have z0 : (W == 0) = false := by simp; omega
  have d0 : 0 ≤ a / W := Int.ediv_nonneg a0 (by omega)
  have d1 : a / W ≤ 402 := Int.le_trans (Int.ediv_le_self _ a0) a2
  have t1 : a.tdiv W = a / W := Int.tdiv_eq_ediv_of_nonneg a0
  have t2 : a.tmod W = a % W := Int.tmod_eq_emod_of_nonneg a0
  have t3 : IntKind.i64.wrap (a / W) = a / W := IntWalk.i64_in _ (by omega)
  have t4 : IntKind.i64.wrap (a % W) = a % W := IntWalk.i64_in _ (by omega)
  go_enter Try.func48, Try.ntmps48
  have c0 := T0.out.c0
  have c1 := T0.out.c1
  have c2 := T0.out.c2
  have c3 := T0.out.c3
  go_wp2_with fail
  refine ((HLV.out ▸ implLines_yes T P I Q HG.out _ : Calls Try.prog 49 #[.agg #[.int .i64 T, .int .i64 P, .int .i64 I, .int .i64 Q]] _ (SaysI lv _))).mono ?_
  rintro e w1 ⟨rfl, hb⟩
  have T1 := Lib.hid (T0.out.later hb)
  have B1 : Hid (Below w.heap.size w w1) := Lib.hid (B0.out.trans (hb.mono B0.out.size))
  clear hb
  have c0 := T1.out.c0
  have c1 := T1.out.c1
  have c2 := T1.out.c2
  have c3 := T1.out.c3
  go_wp2_with fail
  refine (implIdx_yes _ ⟨HR.out.1, by have h1 := HR.out.2; have h2 := HL.out; omega⟩).mono ?_
  rintro e w9 ⟨rfl, rfl⟩
  go_wp2_with fail
  refine (implPW_yes T P I Q HG.out _).mono ?_
  rw [HW.out]
  rintro e w2 ⟨rfl, hb⟩
  clear c0 c1 c2 c3
  have T2 := Lib.hid (T1.out.later hb)
  have B2 : Hid (Below w.heap.size w w2) := Lib.hid (B1.out.trans (hb.mono B1.out.size))
  clear hb
  have c0 := T2.out.c0
  have c1 := T2.out.c1
  have c2 := T2.out.c2
  have c3 := T2.out.c3
  go_wp2_with fail
  go_region_with (go_at_call 84; refine (implKind_any T P I Q (a % W) HG.out HK.out _).mono ?_; rintro e w3 ⟨rfl, hb⟩; have B3 : Hid (Below w.heap.size w w3) := Lib.hid (B2.out.drew.trans (hb.mono B2.out.size)); clear hb)
  all_goals
    go_wp2
    go_ret2
    exact ⟨by rw [HV.out.1, HV.out.2]; rfl, B3.out⟩
set_option maxRecDepth 100000 in
set_option maxHeartbeats 1000000 in
theorem implPart_nog (T P I Q : Int) (a : Int) (h : ¬ GeoR T P I Q) (w : World) : Calls Try.prog 48 #[.agg #[.int .i64 T, .int .i64 P, .int .i64 I, .int .i64 Q], .int .i64 a] w (SaysII (partT T P I Q a) (partK T P I Q a) w) := by
  have T0 := Lib.hid (Four.alloc w T P I Q 29)
  have B0 := Lib.hid (below_al w (.cells #[.int .i64 T, .int .i64 P, .int .i64 I, .int .i64 Q] 29))
  have HV : Hid (partT T P I Q a = -1 ∧ partK T P I Q a = 0) := Lib.hid ⟨if_neg (fun e => h e.1), if_neg (fun e => h e.1)⟩
  have HG := Lib.hid h
  clear h
  have HN : Hid (¬ (0 ≤ a ∧ a < 0)) := Lib.hid (by omega)
  go_enter Try.func48, Try.ntmps48
  have c0 := T0.out.c0
  have c1 := T0.out.c1
  have c2 := T0.out.c2
  have c3 := T0.out.c3
  go_wp2_with fail
  refine (implLines_no T P I Q HG.out _).mono ?_
  rintro e w1 ⟨rfl, hb⟩
  have T1 := Lib.hid (T0.out.later hb)
  have B1 : Hid (Below w.heap.size w w1) := Lib.hid (B0.out.trans (hb.mono B0.out.size))
  clear hb
  have c0 := T1.out.c0
  have c1 := T1.out.c1
  have c2 := T1.out.c2
  have c3 := T1.out.c3
  go_wp2_with fail
  refine (implIdx_no _ HN.out).mono ?_
  rintro e w9 ⟨rfl, rfl⟩
  go_wp2
  go_ret2
  exact ⟨by rw [HV.out.1, HV.out.2]; rfl, B1.out⟩
set_option maxRecDepth 100000 in
set_option maxHeartbeats 1000000 in
theorem implPart_noa (T P I Q : Int) (a : Int) (h : GeoR T P I Q) (ha : ¬ (0 ≤ a ∧ a ≤ T * wordsOf P I - 1)) (w : World) : Calls Try.prog 48 #[.agg #[.int .i64 T, .int .i64 P, .int .i64 I, .int .i64 Q], .int .i64 a] w (SaysII (partT T P I Q a) (partK T P I Q a) w) := by
  have T0 := Lib.hid (Four.alloc w T P I Q 29)
  have B0 := Lib.hid (below_al w (.cells #[.int .i64 T, .int .i64 P, .int .i64 I, .int .i64 Q] 29))
  have HV : Hid (partT T P I Q a = -1 ∧ partK T P I Q a = 0) := Lib.hid ⟨if_neg (fun e => ha e.2), if_neg (fun e => ha e.2)⟩
  have hl := linesV_yes h
  obtain ⟨lv, hlv⟩ : ∃ lv, linesV T P I Q = lv := ⟨_, rfl⟩
  rw [hlv] at hl
  have HLV := Lib.hid hlv
  clear hlv
  obtain ⟨W, hW⟩ : ∃ W, wordsOf P I = W := ⟨_, rfl⟩
  have HG := Lib.hid h
  obtain ⟨g1, g2, g3, g4, g5, g6, g7, g8⟩ := h
  have hw0 : 46 ≤ W ∧ W ≤ 134 := by unfold wordsOf at hW; omega
  have hm := Plc.mul_bd (T := T) (W := W) (by omega) (by omega) (by omega) (by omega)
  obtain ⟨m1, m2⟩ := hm
  obtain ⟨W1, W2⟩ := hw0
  rw [hW] at ha hl
  have HW := Lib.hid hW
  clear hW
  have HR := Lib.hid ha
  clear ha
  obtain ⟨hl1, hl2, hl3⟩ := hl
  have HL := Lib.hid hl1
  clear hl1
  have z0 : (W == 0) = false := by simp; omega
  go_enter Try.func48, Try.ntmps48
  have c0 := T0.out.c0
  have c1 := T0.out.c1
  have c2 := T0.out.c2
  have c3 := T0.out.c3
  go_wp2_with fail
  refine ((HLV.out ▸ implLines_yes T P I Q HG.out _ : Calls Try.prog 49 #[.agg #[.int .i64 T, .int .i64 P, .int .i64 I, .int .i64 Q]] _ (SaysI lv _))).mono ?_
  rintro e w1 ⟨rfl, hb⟩
  have T1 := Lib.hid (T0.out.later hb)
  have B1 : Hid (Below w.heap.size w w1) := Lib.hid (B0.out.trans (hb.mono B0.out.size))
  clear hb
  have c0 := T1.out.c0
  have c1 := T1.out.c1
  have c2 := T1.out.c2
  have c3 := T1.out.c3
  go_wp2_with fail
  refine (implIdx_no _ (fun e => HR.out ⟨e.1, by have h1 := e.2; have h2 := HL.out; omega⟩)).mono ?_
  rintro e w9 ⟨rfl, rfl⟩
  go_wp2
  go_ret2
  exact ⟨by rw [HV.out.1, HV.out.2]; rfl, B1.out⟩
theorem implPart_any (T P I Q a : Int) (w : World) : Calls Try.prog 48 #[.agg #[.int .i64 T, .int .i64 P, .int .i64 I, .int .i64 Q], .int .i64 a] w (SaysII (partT T P I Q a) (partK T P I Q a) w) := by
  by_cases hg : GeoR T P I Q
  · by_cases ha : 0 ≤ a ∧ a ≤ T * wordsOf P I - 1
    · exact implPart_yes T P I Q a hg ha w
    · exact implPart_noa T P I Q a hg ha w
  · exact implPart_nog T P I Q a hg w
end Go.Proofs.Ytmcelfiljnlmoaa
