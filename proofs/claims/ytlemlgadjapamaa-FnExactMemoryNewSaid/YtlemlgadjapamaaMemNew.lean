/- FnExactMemoryNew: MemoryNew, the model's and the program's, and the law's walk. -/
import Derived.Test.YtlemlgadjapamaaMemNewLaw
import Derived.Test.YtlemlgadjapamaaZeroSpec
import Derived.Test.YtlemlgadjapamaaZeroImpl
namespace Go.Proofs.Ytlemlgadjapamaa
open Go.RowKit Go.Proofs.Ytlemlgadjapamaa.Parts Go.Proofs.Ytlemlgadjapamaa.Hexa

def newB (i : Int) : ByteArray := if 0 ≤ i ∧ i ≤ 1000 then zeroB (i * 16) else ⟨#[]⟩
def GivesN (i : Int) (w : World) (e : Ending) (w' : World) : Prop := e = .returned (.agg #[.string (newB i), .slice none 0 0]) ∧ Below w.heap.size w w'

set_option maxRecDepth 100000 in
set_option maxHeartbeats 1000000 in
theorem specNew_any (i : Int) (w : World) : Calls Try.prog 32 #[.int .i64 i] w (GivesN i w) := by
  have T0 := Two.alloc w (.string ⟨#[]⟩) (.slice none 0 0) 26
  have B0 := Lib.hid (below_alloc w (.cells #[.string ⟨#[]⟩, .slice none 0 0] 26))
  by_cases h : 0 ≤ i ∧ i ≤ 1000
  · have HE : Hid (newB i = zeroB (i * 16)) := Lib.hid (if_pos h)
    have HR := Lib.hid h
    have h1 := h.1
    have h2 := h.2
    have HT0 := Lib.hid T0
    clear h T0
    go_enter Try.func32, Try.ntmps32
    go_wp2_with (first
      | (go_at_call 51; refine (range_yes _ HR.out).mono ?_; rintro e w1 ⟨rfl, rfl⟩)
      | (go_at_call 66; refine (size_any _).mono ?_; rintro e w1 ⟨rfl, rfl⟩)
      | (go_at_call 67; refine (specZero_any _ _).mono ?_; rintro e w2 ⟨rfl, hb2⟩; have HB2 := Lib.hid hb2; have HT2 := Lib.hid (HT0.out.later hb2); have z0 := HT2.out.c0; have z1 := HT2.out.c1; have z2 := HT2.out.fr (o := 0); have z3 := HT2.out.fr (o := 1); clear hb2))
    have y0 := HT2.out.c0
    have y1 := HT2.out.c1
    have q := two_set1 (two_set0 HT2.out (x := .string (zeroB (i * 16)))) (x := .slice none 0 0)
    have q0 := cell0_of_two q
    have q1 := cell1_of_two q
    refine bodyPost_ret (v := .agg #[.string (zeroB (i * 16)), .slice none 0 0]) ?_ rfl ⟨by rw [HE.out], ((B0.out.trans (HB2.out.mono B0.out.size)).setCell (Nat.le_refl _) _).setCell (Nat.le_refl _) _⟩
    simp [results, Try.results32, go_sem, q0, q1, y0, y1]
  · have HE : Hid (newB i = ⟨#[]⟩) := Lib.hid (if_neg h)
    have HR := Lib.hid h
    have z0 := T0.c0
    have z1 := T0.c1
    have y0 := T0.c0
    have y1 := T0.c1
    have q := two_set1 (two_set0 T0 (x := .string ⟨#[]⟩)) (x := .slice none 0 0)
    have q0 := cell0_of_two q
    have q1 := cell1_of_two q
    clear h T0 q
    go_enter Try.func32, Try.ntmps32
    go_wp2_with (first
      | (go_at_call 51; refine (range_no _ HR.out).mono ?_; rintro e w1 ⟨rfl, rfl⟩))
    refine bodyPost_ret (v := .agg #[.string ⟨#[]⟩, .slice none 0 0]) ?_ rfl ⟨by rw [HE.out], by first | exact B0.out | exact (B0.out.setCell (Nat.le_refl _) _).setCell (Nat.le_refl _) _⟩
    simp [results, Try.results32, go_sem, q0, q1, y0, y1]

set_option maxRecDepth 100000 in
set_option maxHeartbeats 1000000 in
theorem implNew_any (i : Int) (w : World) : Calls Try.prog 19 #[.int .i64 i] w (GivesN i w) := by
  have T0 := Two.alloc w (.string ⟨#[]⟩) (.slice none 0 0) 26
  have B0 := Lib.hid (below_alloc w (.cells #[.string ⟨#[]⟩, .slice none 0 0] 26))
  by_cases h : 0 ≤ i ∧ i ≤ 1000
  · have HE : Hid (newB i = zeroB (i * 16)) := Lib.hid (if_pos h)
    have h1 := h.1
    have h2 := h.2
    have HT0 := Lib.hid T0
    clear h T0
    go_enter Try.func19, Try.ntmps19
    go_wp2_with (first
      | (go_at_call 57; refine (implZero_any _ _).mono ?_; rintro e w2 ⟨rfl, hb2⟩; have HB2 := Lib.hid hb2; have HT2 := Lib.hid (HT0.out.later hb2); have z0 := HT2.out.c0; have z1 := HT2.out.c1; have z2 := HT2.out.fr (o := 0); have z3 := HT2.out.fr (o := 1); clear hb2))
    have y0 := HT2.out.c0
    have y1 := HT2.out.c1
    have q := two_set1 (two_set0 HT2.out (x := .string (zeroB (i * 16)))) (x := .slice none 0 0)
    have q0 := cell0_of_two q
    have q1 := cell1_of_two q
    refine bodyPost_ret (v := .agg #[.string (zeroB (i * 16)), .slice none 0 0]) ?_ rfl ⟨by rw [HE.out], ((B0.out.trans (HB2.out.mono B0.out.size)).setCell (Nat.le_refl _) _).setCell (Nat.le_refl _) _⟩
    simp [results, Try.results19, go_sem, q0, q1, y0, y1]
  · have HE : Hid (newB i = ⟨#[]⟩) := Lib.hid (if_neg h)
    have z0 := T0.c0
    have z1 := T0.c1
    have y0 := T0.c0
    have y1 := T0.c1
    have q := two_set1 (two_set0 T0 (x := .string ⟨#[]⟩)) (x := .slice none 0 0)
    have q0 := cell0_of_two q
    have q1 := cell1_of_two q
    clear T0 q
    by_cases h1 : i < 0
    · clear h
      go_enter Try.func19, Try.ntmps19
      go_wp2
      refine bodyPost_ret (v := .agg #[.string ⟨#[]⟩, .slice none 0 0]) ?_ rfl ⟨by rw [HE.out], by first | exact B0.out | exact (B0.out.setCell (Nat.le_refl _) _).setCell (Nat.le_refl _) _⟩
      simp [results, Try.results19, go_sem, q0, q1, y0, y1]
    · have h2 : 1000 < i := by omega
      clear h
      go_enter Try.func19, Try.ntmps19
      go_wp2
      refine bodyPost_ret (v := .agg #[.string ⟨#[]⟩, .slice none 0 0]) ?_ rfl ⟨by rw [HE.out], by first | exact B0.out | exact (B0.out.setCell (Nat.le_refl _) _).setCell (Nat.le_refl _) _⟩
      simp [results, Try.results19, go_sem, q0, q1, y0, y1]

theorem eqNone_any (K : ByteArray) (w : World) : Calls Try.prog 33 #[.agg #[.string K, .slice none 0 0], .agg #[.string K, .slice none 0 0]] w fun e w' => e = .returned (.bool true) ∧ Below w.heap.size w w' :=
  eqMemory_any K none none 0 0 0 [] w (by omega) (SrcE.nil _ _ _) (SrcE.nil _ _ _)
theorem markNone_any (K : ByteArray) (w : World) : Calls Try.prog 34 #[.agg #[.string K, .slice none 0 0], .int .i64 1] w fun e w' => e = .returned (.int .i64 1) ∧ Below w.heap.size w w' :=
  (markMemory_any K w.heap.size (.slice none 0 0) 0 1 [] w (Nat.le_refl _) (by omega) (by omega) (World.ownsRow_nil _ _ _ _)).mono fun e w' ⟨he, hb, _⟩ => ⟨he, hb⟩
theorem heldNone_any (K : ByteArray) (w : World) : Calls Try.prog 35 #[.agg #[.string K, .slice none 0 0], .int .i64 1] w fun e w' => e = .returned (.int .i64 1) ∧ Below w.heap.size w w' :=
  (heldMemory_any K none 0 0 1 w (by omega) (by omega) (SrcE.nil _ _ _)).mono fun e w' ⟨he, hb⟩ => ⟨he, hb⟩

set_option maxRecDepth 100000 in
set_option maxHeartbeats 2000000 in
theorem memNew_law (i : Int) (w : World) :
    Calls Try.prog 5 #[.int .i64 i] w fun e w' => e = .returned (.bool true) ∧ Below w.heap.size w w' := by
  obtain ⟨K, hK⟩ : ∃ K, newB i = K := ⟨_, rfl⟩
  have HK := Lib.hid hK
  clear hK
  go_enter Try.func5, Try.ntmps5
  go_wp2_with fail
  refine (specNew_any i w).mono ?_
  unfold GivesN
  rw [HK.out]
  rintro e w1 ⟨rfl, hb1⟩
  have S1 := Lib.hid (Two.alloc w1 (.string K) (.slice none 0 0) 26)
  have B1 := Lib.hid (hb1.trans ((below_alloc w1 (.cells #[.string K, .slice none 0 0] 26)).mono hb1.size))
  clear hb1
  go_wp2_with fail
  obtain ⟨q1, hq1⟩ : ∃ q, w1.heap.size = q := ⟨_, rfl⟩
  obtain ⟨w2, h2⟩ : ∃ x, x = w1.alloc (.cells #[.string K, .slice none 0 0] 26) := ⟨_, rfl⟩
  rw [hq1] at S1 ⊢
  rw [← h2] at S1 B1 ⊢
  clear h2 hq1
  refine (implNew_any i w2).mono ?_
  unfold GivesN
  rw [HK.out]
  rintro e w3 ⟨rfl, hb3⟩
  have S3 := Lib.hid ((S1.out.later hb3).later (below_alloc w3 (.cells #[.string K, .slice none 0 0] 26)))
  have G3 := Lib.hid (Two.alloc w3 (.string K) (.slice none 0 0) 26)
  have B3 := Lib.hid (B1.out.trans ((hb3.trans ((below_alloc w3 (.cells #[.string K, .slice none 0 0] 26)).mono hb3.size)).mono B1.out.size))
  have c0 := S3.out.c0
  have c1 := S3.out.c1
  clear hb3
  go_wp2_with fail
  obtain ⟨q3, hq3⟩ : ∃ q, w3.heap.size = q := ⟨_, rfl⟩
  obtain ⟨w4, h4⟩ : ∃ x, x = w3.alloc (.cells #[.string K, .slice none 0 0] 26) := ⟨_, rfl⟩
  rw [hq3] at G3 ⊢
  rw [← h4] at S3 G3 B3 c0 c1 ⊢
  clear h4 hq3 c0 c1
  refine (eqNone_any K w4).mono ?_
  rintro e w5 ⟨rfl, hb5⟩
  have S5 := Lib.hid (S3.out.later hb5)
  have G5 := Lib.hid (G3.out.later hb5)
  have B5 := Lib.hid (B3.out.trans (hb5.mono B3.out.size))
  have g0 := G5.out.c0
  have g1 := G5.out.c1
  clear hb5 S3 G3
  go_wp2_with fail
  clear g0 g1
  refine (markNone_any K w5).mono ?_
  rintro e w6 ⟨rfl, hb6⟩
  have S6 := Lib.hid (S5.out.later hb6)
  have G6 := Lib.hid (G5.out.later hb6)
  have B6 := Lib.hid (B5.out.trans (hb6.mono B5.out.size))
  have g0 := G6.out.c0
  have g1 := G6.out.c1
  clear hb6 S5 G5
  go_wp2_with fail
  clear g0 g1
  refine (heldNone_any K w6).mono ?_
  rintro e w7 ⟨rfl, hb7⟩
  have S7 := Lib.hid (S6.out.later hb7)
  have G7 := Lib.hid (G6.out.later hb7)
  have B7 := Lib.hid (B6.out.trans (hb7.mono B6.out.size))
  clear hb7 S6 G6
  go_wp2_with fail
  refine (implNew_any i w7).mono ?_
  unfold GivesN
  rw [HK.out]
  rintro e w8 ⟨rfl, hb8⟩
  have S8 := Lib.hid ((S7.out.later hb8).later (below_alloc w8 (.cells #[.string K, .slice none 0 0] 26)))
  have G8 := Lib.hid ((G7.out.later hb8).later (below_alloc w8 (.cells #[.string K, .slice none 0 0] 26)))
  have B8 := Lib.hid (B7.out.trans ((hb8.trans ((below_alloc w8 (.cells #[.string K, .slice none 0 0] 26)).mono hb8.size)).mono B7.out.size))
  have c0 := S8.out.c0
  have c1 := S8.out.c1
  clear hb8 S7 G7
  go_wp2_with fail
  obtain ⟨w9, h9⟩ : ∃ x, x = w8.alloc (.cells #[.string K, .slice none 0 0] 26) := ⟨_, rfl⟩
  rw [← h9] at S8 G8 B8 c0 c1 ⊢
  clear h9 c0 c1
  refine (eqNone_any K w9).mono ?_
  rintro e w10 ⟨rfl, hb10⟩
  have G10 := Lib.hid (G8.out.later hb10)
  have B10 := Lib.hid (B8.out.trans (hb10.mono B8.out.size))
  have g0 := G10.out.c0
  have g1 := G10.out.c1
  clear hb10 S8 G8
  go_wp2_with fail
  clear g0 g1
  refine (heldNone_any K w10).mono ?_
  rintro e w11 ⟨rfl, hb11⟩
  have B11 := Lib.hid (B10.out.trans (hb11.mono B10.out.size))
  clear hb11
  go_wp2
  go_ret
  exact ⟨rfl, B11.out⟩
end Go.Proofs.Ytlemlgadjapamaa
