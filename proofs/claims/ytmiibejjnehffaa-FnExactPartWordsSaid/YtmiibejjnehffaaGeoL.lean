/- FnExactGeoOk, FnExactPartWords: the laws' walks. -/
import Derived.Test.YtmiibejjnehffaaToGeo
import Derived.Test.YtmiibejjnehffaaWordsS
import Derived.Test.YtmiibejjnehffaaWordsI
namespace Go.Proofs.Ytmiibejjnehffaa
open Go.RowKit

/-- Whether a layout is valid, as a bit. -/
def geoB (T P I Q : Int) : Bool := decide (GeoR T P I Q)
def wordsV (T P I Q : Int) : Int := if GeoR T P I Q then wordsOf P I else 0
theorem specGeo_any (T P I Q : Int) (w : World) : Calls Try.prog 15 #[.agg #[.int .i64 T, .int .i64 P, .int .i64 I, .int .i64 Q]] w (SaysB (geoB T P I Q) w) := by
  by_cases h : GeoR T P I Q
  · rw [show geoB T P I Q = true from decide_eq_true h]; exact specGeo_yes T P I Q w h
  · rw [show geoB T P I Q = false from decide_eq_false h]; exact specGeo_no T P I Q w h
theorem implGeo_any (T P I Q : Int) (w : World) : Calls Try.prog 16 #[.agg #[.int .i64 T, .int .i64 P, .int .i64 I, .int .i64 Q]] w (SaysB (geoB T P I Q) w) := by
  by_cases h : GeoR T P I Q
  · rw [show geoB T P I Q = true from decide_eq_true h]; exact implGeo_yes T P I Q w h
  · rw [show geoB T P I Q = false from decide_eq_false h]; exact implGeo_no T P I Q w h
theorem specWords_any (T P I Q : Int) (w : World) : Calls Try.prog 26 #[.agg #[.int .i64 T, .int .i64 P, .int .i64 I, .int .i64 Q]] w (SaysI (wordsV T P I Q) w) := by
  by_cases h : GeoR T P I Q
  · rw [show wordsV T P I Q = wordsOf P I from if_pos h]; exact specWords_yes T P I Q h w
  · rw [show wordsV T P I Q = 0 from if_neg h]; exact specWords_no T P I Q h w
theorem implWords_any (T P I Q : Int) (w : World) : Calls Try.prog 17 #[.agg #[.int .i64 T, .int .i64 P, .int .i64 I, .int .i64 Q]] w (SaysI (wordsV T P I Q) w) := by
  by_cases h : GeoR T P I Q
  · rw [show wordsV T P I Q = wordsOf P I from if_pos h]; exact implWords_yes T P I Q h w
  · rw [show wordsV T P I Q = 0 from if_neg h]; exact implWords_no T P I Q h w
set_option maxRecDepth 100000 in
set_option maxHeartbeats 1000000 in
theorem exactGeoOk_law (T P I Q : Int) (w : World) : Calls Try.prog 4 #[.agg #[.int .i64 T, .int .i64 P, .int .i64 I, .int .i64 Q]] w fun e w' => e = .returned (.bool true) ∧ Below w.heap.size w w' := by
  have T0 := Lib.hid (Four.alloc w T P I Q 35)
  have B0 := Lib.hid (below_al w (.cells #[.int .i64 T, .int .i64 P, .int .i64 I, .int .i64 Q] 35))
  obtain ⟨v, hv⟩ : ∃ v, geoB T P I Q = v := ⟨_, rfl⟩
  have HV := Lib.hid hv
  clear hv
  have hvv : (v == v) = true := by simp
  have hvn : (v != v) = false := by simp
  go_enter Try.func4, Try.ntmps4
  go_wp2_with fail
  refine (toGeo_any T P I Q _).mono ?_
  rintro e w1 ⟨rfl, hb⟩
  have T1 := Lib.hid (T0.out.later hb)
  have B1 : Hid (Below w.heap.size w w1) := Lib.hid (B0.out.trans (hb.mono B0.out.size))
  have c0 := T1.out.c0
  have c1 := T1.out.c1
  have c2 := T1.out.c2
  have c3 := T1.out.c3
  clear hb
  go_wp2_with fail
  clear c0 c1 c2 c3
  refine (specGeo_any T P I Q _).mono ?_
  rw [HV.out]
  rintro e w2 ⟨rfl, hb⟩
  have T2 := Lib.hid (T1.out.later hb)
  have B2 : Hid (Below w.heap.size w w2) := Lib.hid (B1.out.trans (hb.mono B1.out.size))
  have c0 := T2.out.c0
  have c1 := T2.out.c1
  have c2 := T2.out.c2
  have c3 := T2.out.c3
  clear hb
  go_wp2_with fail
  clear c0 c1 c2 c3
  refine (toGeo_any T P I Q _).mono ?_
  rintro e w3 ⟨rfl, hb⟩
  have T3 := Lib.hid (T2.out.later hb)
  have B3 : Hid (Below w.heap.size w w3) := Lib.hid (B2.out.trans (hb.mono B2.out.size))
  have c0 := T3.out.c0
  have c1 := T3.out.c1
  have c2 := T3.out.c2
  have c3 := T3.out.c3
  clear hb
  go_wp2_with fail
  clear c0 c1 c2 c3
  refine (implGeo_any T P I Q _).mono ?_
  rw [HV.out]
  rintro e w4 ⟨rfl, hb⟩
  have T4 := Lib.hid (T3.out.later hb)
  have B4 : Hid (Below w.heap.size w w4) := Lib.hid (B3.out.trans (hb.mono B3.out.size))
  have c0 := T4.out.c0
  have c1 := T4.out.c1
  have c2 := T4.out.c2
  have c3 := T4.out.c3
  clear hb
  go_wp2
  go_ret
  exact ⟨rfl, B4.out⟩
set_option maxRecDepth 100000 in
set_option maxHeartbeats 1000000 in
theorem exactPartWords_law (T P I Q : Int) (w : World) : Calls Try.prog 5 #[.agg #[.int .i64 T, .int .i64 P, .int .i64 I, .int .i64 Q]] w fun e w' => e = .returned (.bool true) ∧ Below w.heap.size w w' := by
  have T0 := Lib.hid (Four.alloc w T P I Q 35)
  have B0 := Lib.hid (below_al w (.cells #[.int .i64 T, .int .i64 P, .int .i64 I, .int .i64 Q] 35))
  obtain ⟨v, hv⟩ : ∃ v, wordsV T P I Q = v := ⟨_, rfl⟩
  have HV := Lib.hid hv
  clear hv
  have hvv : (v == v) = true := by simp
  have hvn : (v != v) = false := by simp
  go_enter Try.func5, Try.ntmps5
  go_wp2_with fail
  refine (toGeo_any T P I Q _).mono ?_
  rintro e w1 ⟨rfl, hb⟩
  have T1 := Lib.hid (T0.out.later hb)
  have B1 : Hid (Below w.heap.size w w1) := Lib.hid (B0.out.trans (hb.mono B0.out.size))
  have c0 := T1.out.c0
  have c1 := T1.out.c1
  have c2 := T1.out.c2
  have c3 := T1.out.c3
  clear hb
  go_wp2_with fail
  clear c0 c1 c2 c3
  refine (specWords_any T P I Q _).mono ?_
  rw [HV.out]
  rintro e w2 ⟨rfl, hb⟩
  have T2 := Lib.hid (T1.out.later hb)
  have B2 : Hid (Below w.heap.size w w2) := Lib.hid (B1.out.trans (hb.mono B1.out.size))
  have c0 := T2.out.c0
  have c1 := T2.out.c1
  have c2 := T2.out.c2
  have c3 := T2.out.c3
  clear hb
  go_wp2_with fail
  clear c0 c1 c2 c3
  refine (toGeo_any T P I Q _).mono ?_
  rintro e w3 ⟨rfl, hb⟩
  have T3 := Lib.hid (T2.out.later hb)
  have B3 : Hid (Below w.heap.size w w3) := Lib.hid (B2.out.trans (hb.mono B2.out.size))
  have c0 := T3.out.c0
  have c1 := T3.out.c1
  have c2 := T3.out.c2
  have c3 := T3.out.c3
  clear hb
  go_wp2_with fail
  clear c0 c1 c2 c3
  refine (implWords_any T P I Q _).mono ?_
  rw [HV.out]
  rintro e w4 ⟨rfl, hb⟩
  have T4 := Lib.hid (T3.out.later hb)
  have B4 : Hid (Below w.heap.size w w4) := Lib.hid (B3.out.trans (hb.mono B3.out.size))
  have c0 := T4.out.c0
  have c1 := T4.out.c1
  have c2 := T4.out.c2
  have c3 := T4.out.c3
  clear hb
  go_wp2
  go_ret
  exact ⟨rfl, B4.out⟩
end Go.Proofs.Ytmiibejjnehffaa
