/- FnExactMemoryOk: the law's walk. -/
import Derived.Test.YtlemlgadjapamaaMemOkImpl
import Derived.Test.YtlemlgadjapamaaCellD
namespace Go.Proofs.Ytlemlgadjapamaa
open Go.RowKit Go.Proofs.Ytlemlgadjapamaa.Parts Go.Proofs.Ytlemlgadjapamaa.Hexa

/-- A block of two cells. -/
def Two (w : World) (b : Nat) (u v : Value) (t : TypeId) : Prop := w.heap[b]? = some (.cells #[u, v] t (0, 0))
theorem Two.lt {w : World} {b : Nat} {u v : Value} {t : TypeId} (h : Two w b u v t) : b < w.heap.size := lt_of_block h
theorem Two.later {w w' : World} {b : Nat} {u v : Value} {t : TypeId} (h : Two w b u v t) (hb : Below w.heap.size w w') : Two w' b u v t := (hb.block b h.lt).trans h
theorem Two.alloc (w : World) (u v : Value) (t : TypeId) : Two (w.alloc (.cells #[u, v] t)) w.heap.size u v t := heap_alloc_new _ _
theorem Two.c0 {w : World} {b : Nat} {u v : Value} {t : TypeId} (h : Two w b u v t) : w.cell? ⟨b, 0, none⟩ = some u := cell0_of_two h
theorem Two.c1 {w : World} {b : Nat} {u v : Value} {t : TypeId} (h : Two w b u v t) : w.cell? ⟨b, 1, none⟩ = some v := cell1_of_two h
theorem Two.fr {w : World} {b o : Nat} {u v : Value} {t : TypeId} (h : Two w b u v t) : w.frozen? ⟨b, o, none⟩ = false := free_of_two h
theorem Two.drew {w : World} {b : Nat} {u v : Value} {t : TypeId} (h : Two w b u v t) : Two w.drew b u v t := h
theorem below_alloc (w : World) (o : Obj) : Below w.heap.size w (w.alloc o) := (Below.refl _ _).alloc (Nat.le_refl _) _

set_option maxRecDepth 100000 in
set_option maxHeartbeats 2000000 in
theorem memOk_law (K : ByteArray) (a : Option Addr) (n c : Nat) (L : List C3) (w : World) (hs : SrcC w a n L) (hm : FitC L n maxLen) (hn : n ≤ 9223372036854775807) (hK : K.size ≤ maxLen) :
    Calls Try.prog 6 #[.agg #[.string K, .slice a n c]] w fun e w' => e = .returned (.bool true) ∧ Below w.heap.size w w' := by
  have HS := Lib.hid hs
  have HM := Lib.hid hm
  have HK := Lib.hid hK
  have B0 := Lib.hid (below_alloc w (.cells #[.string K, .slice a n c] 46))
  have T0 := Lib.hid (Two.alloc w (.string K) (.slice a n c) 46)
  clear hs hm hK
  go_enter Try.func6, Try.ntmps6
  go_wp2_with fail
  refine (szMemory_any K a n c L _ (HS.out.later B0.out) hn HK.out HM.out).mono ?_
  rintro e w1 ⟨r, rfl, hr | ⟨h0, hK2, hn2, hF2⟩, hb1⟩
  · go_wp2
    go_ret
    exact ⟨rfl, B0.out.trans (hb1.mono B0.out.size)⟩
  have T1 := Lib.hid (T0.out.later hb1)
  have B1 := Lib.hid (B0.out.trans (hb1.mono B0.out.size))
  have hr : ¬ (r < 0) := by omega
  have c0 := T1.out.c0
  have c1 := T1.out.c1
  clear hF2 hb1 h0
  go_wp2_with fail
  clear c0 c1
  refine (toMemory_any K a n c L _ (HS.out.later B1.out) hn2).mono ?_
  rintro e w2 ⟨g2, rfl, hown2, hb2⟩
  have T2 := Lib.hid (T1.out.later hb2)
  have B2 : Hid (Below w.heap.size w w2) := Lib.hid (B1.out.trans (hb2.mono B1.out.size))
  have I2 := Lib.hid (srcC_of_own hown2)
  clear hown2 hb2
  go_wp2_with fail
  refine (specOk_any K _ n n L _ I2.out (by omega) (by omega)).mono ?_
  rintro e w3 ⟨rfl, hb3⟩
  have T3 := Lib.hid (T2.out.later hb3)
  have B3 : Hid (Below w.heap.size w w3) := Lib.hid (B2.out.trans (hb3.mono B2.out.size))
  obtain ⟨ok, hok⟩ : ∃ ok, memOkB K L = ok := ⟨_, rfl⟩
  rw [hok]
  have HOK := Lib.hid hok
  have c0 := T3.out.c0
  have c1 := T3.out.c1
  clear hb3 I2 hok
  go_wp2_with fail
  clear c0 c1
  refine (toMemory_any K a n c L _ (HS.out.later B3.out) hn2).mono ?_
  rintro e w4 ⟨g4, rfl, hown4, hb4⟩
  have X5 := Lib.hid (Two.alloc w4 (.string K) (.slice (some ⟨g4, 0, none⟩) n n) 26)
  have T5 := Lib.hid ((T3.out.later hb4).later (below_alloc w4 (.cells #[.string K, .slice (some ⟨g4, 0, none⟩) n n] 26)))
  have B4 : Hid (Below w.heap.size w w4) := Lib.hid (B3.out.trans (hb4.mono B3.out.size))
  have B5 : Hid (Below w.heap.size w (w4.alloc (.cells #[.string K, .slice (some ⟨g4, 0, none⟩) n n] 26))) := Lib.hid (B4.out.trans ((below_alloc w4 _).mono B4.out.size))
  have I5 := Lib.hid ((srcC_of_own hown4).later (below_alloc w4 (.cells #[.string K, .slice (some ⟨g4, 0, none⟩) n n] 26)))
  clear hown4 hb4 B4
  go_wp2_with fail
  obtain ⟨q, hq⟩ : ∃ q, w4.heap.size = q := ⟨_, rfl⟩
  obtain ⟨w5, h5⟩ : ∃ x, x = w4.alloc (.cells #[.string K, .slice (some ⟨g4, 0, none⟩) n n] 26) := ⟨_, rfl⟩
  rw [hq] at X5 ⊢
  rw [← h5] at X5 T5 B5 I5 ⊢
  clear h5 hq
  refine (implOk_any K _ n n L _ I5.out (by omega) (by omega)).mono ?_
  rw [HOK.out]
  rintro e w6 ⟨rfl, hb6⟩
  have X6 := Lib.hid (X5.out.later hb6)
  have T6 := Lib.hid (T5.out.later hb6)
  have B6 : Hid (Below w.heap.size w w6) := Lib.hid (B5.out.trans (hb6.mono B5.out.size))
  have I6 := Lib.hid (I5.out.later hb6)
  have hcc : (ok != ok) = false := by cases ok <;> rfl
  have c0 := T6.out.c0
  have c1 := T6.out.c1
  have x0 := X6.out.c0
  have x1 := X6.out.c1
  clear hb6 X5 T5 B5 I5
  go_wp2_with fail
  go_region_with (first
    | (go_at_call 37; refine (toMemory_any K a n c L _ (HS.out.later (B6.out.drew)) hn2).mono ?_; rintro e w7 ⟨g7, rfl, hown7, hb7⟩
       have I7 := Lib.hid (srcC_of_own hown7)
       have I67 := Lib.hid (I6.out.drew.later hb7)
       have B7 : Hid (Below w.heap.size w w7) := Lib.hid (B6.out.drew.trans (hb7.mono B6.out.size))
       have y0 := (X6.out.drew.later hb7).c0
       have y1 := (X6.out.drew.later hb7).c1
       clear hown7 hb7)
    | (go_at_call 33; refine (eqMemory_any K _ _ n n n L _ (by omega) I67.out I7.out).mono ?_; rintro e w8 ⟨rfl, hb8⟩))
  all_goals
    go_wp2
    go_ret
    exact ⟨rfl, B7.out.trans (hb8.mono B7.out.size)⟩
end Go.Proofs.Ytlemlgadjapamaa
