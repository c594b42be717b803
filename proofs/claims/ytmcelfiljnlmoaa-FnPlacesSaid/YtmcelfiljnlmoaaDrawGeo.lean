/- A layout drawn: a valid one (l11Geo), any one (l11Any). -/
import Derived.Test.YtmcelfiljnlmoaaPickNum
import Derived.Test.YtmcelfiljnlmoaaDrawSet
import Derived.Test.YtmcelfiljnlmoaaGeo
namespace Go.Proofs.Ytmcelfiljnlmoaa
open Go.RowKit Go.Proofs.Ytmcelfiljnlmoaa.Hexa Go.Proofs.Ytmcelfiljnlmoaa.Draw

theorem Four.grown {w w' : World} {b c : Nat} {T P I Q : Int} {t : TypeId} (h : Four w b T P I Q t) (hg : w.grownBy w' (some c)) (hne : b ≠ c) : Four w' b T P I Q t := (hg.block b h.lt (fun e => hne (by cases e; rfl))).trans h
theorem Four.set0 {w : World} {b : Nat} {T P I Q x : Int} {t : TypeId} (h : Four w b T P I Q t) : Four (w.setCell ⟨b, 0, none⟩ (.int .i64 x)) b x P I Q t := block_set h _
theorem Four.set1 {w : World} {b : Nat} {T P I Q x : Int} {t : TypeId} (h : Four w b T P I Q t) : Four (w.setCell ⟨b, 1, none⟩ (.int .i64 x)) b T x I Q t := block_set h _
theorem Four.set2 {w : World} {b : Nat} {T P I Q x : Int} {t : TypeId} (h : Four w b T P I Q t) : Four (w.setCell ⟨b, 2, none⟩ (.int .i64 x)) b T P x Q t := block_set h _
theorem Four.set3 {w : World} {b : Nat} {T P I Q x : Int} {t : TypeId} (h : Four w b T P I Q t) : Four (w.setCell ⟨b, 3, none⟩ (.int .i64 x)) b T P I x t := block_set h _
theorem Four.setOther {w : World} {b c o : Nat} {T P I Q : Int} {t : TypeId} (h : Four w b T P I Q t) (hne : b ≠ c) (v : Value) : Four (w.setCell ⟨c, o, none⟩ v) b T P I Q t := (Below.heap_setCell _ _ _ _ hne).trans h

/-- What is drawn: a layout. -/
def GeoDrawn (ok : Bool) (w : World) (c : Nat) (ad : Option Addr) (len cap : Nat) (e : Ending) (w' : World) : Prop :=
  ∃ T P I Q : Int, e = .returned (.agg #[.int .i64 T, .int .i64 P, .int .i64 I, .int .i64 Q]) ∧ (ok = true → GeoR T P I Q ∧ 6 ≤ P ∧ 3 ≤ I) ∧ Cur w' c ad len cap ∧ w.grownBy w' (some c)

structure GSt (w wr : World) (c : Nat) (ad : Option Addr) (len cap : Nat) : Prop where
  res : Four wr w.heap.size 0 0 0 0 29
  cur : Cur wr c ad len cap
  src : Draw.Src wr c ad len
  grown : w.grownBy wr (some c)
section
variable {w wr w' : World} {c : Nat} {ad : Option Addr} {len cap : Nat}
theorem GSt.start (hc : Cur w c ad len cap) (hs : Draw.Src w c ad len) : GSt w (w.alloc (.cells #[.int .i64 0, .int .i64 0, .int .i64 0, .int .i64 0] 29)) c ad len cap :=
  ⟨Four.alloc w 0 0 0 0 _, cur_grown hc (grown_alloc _ _ none) (by simp), src_grown' hs (grown_alloc _ _ none) (fun k e => by cases e) (Nat.le_of_lt (cur_lt hc)), grown_alloc _ _ _⟩
theorem GSt.draw (h : GSt w wr c ad len cap) (hcw : c < w.heap.size) (hc : Cur w' c ad len cap) (hg : wr.grownBy w' (some c)) : GSt w w' c ad len cap :=
  ⟨h.res.grown hg (by omega), hc, src_grown h.src hg (cur_lt h.cur), grownBy_trans h.grown hg⟩
theorem GSt.below (h : GSt w wr c ad len cap) (hb : Below wr.heap.size wr w') : GSt w w' c ad len cap :=
  ⟨h.res.later hb, cur_below h.cur hb (cur_lt h.cur), src_below h.src hb (Nat.le_of_lt (cur_lt h.cur)), grownBy_trans h.grown (grown_of_below hb)⟩
theorem GSt.low (h : GSt w wr c ad len cap) : w.heap.size + 1 ≤ wr.heap.size := h.res.lt
theorem GSt.set {b o : Nat} (h : GSt w wr c ad len cap) (hcw : c < w.heap.size) (hb : w.heap.size + 1 ≤ b) (v : Value) : GSt w (wr.setCell ⟨b, o, none⟩ v) c ad len cap :=
  ⟨h.res.setOther (by omega) v, cur_setCell h.cur (by omega) v, src_setCell h.src (by omega) v, grown_setCell h.grown (by omega) v⟩
theorem GSt.done {T P I Q : Int} {ok : Bool} (h : GSt w wr c ad len cap) (hcw : c < w.heap.size) (hok : ok = true → GeoR T P I Q ∧ 6 ≤ P ∧ 3 ≤ I) : GeoDrawn ok w c ad len cap (.returned (.agg #[.int .i64 T, .int .i64 P, .int .i64 I, .int .i64 Q])) ((((wr.setCell ⟨w.heap.size, 0, none⟩ (.int .i64 T)).setCell ⟨w.heap.size, 1, none⟩ (.int .i64 P)).setCell ⟨w.heap.size, 2, none⟩ (.int .i64 I)).setCell ⟨w.heap.size, 3, none⟩ (.int .i64 Q)) :=
  ⟨T, P, I, Q, rfl, hok, cur_setCell (cur_setCell (cur_setCell (cur_setCell h.cur (by omega) _) (by omega) _) (by omega) _) (by omega) _,
    grown_setCell (grown_setCell (grown_setCell (grown_setCell h.grown (Nat.le_refl _) _) (Nat.le_refl _) _) (Nat.le_refl _) _) (Nat.le_refl _) _⟩
theorem Four.fill {b : Nat} {T P I Q T' P' I' Q' : Int} {t : TypeId} (h : Four w b T P I Q t) : Four ((((w.setCell ⟨b, 0, none⟩ (.int .i64 T')).setCell ⟨b, 1, none⟩ (.int .i64 P')).setCell ⟨b, 2, none⟩ (.int .i64 I')).setCell ⟨b, 3, none⟩ (.int .i64 Q')) b T' P' I' Q' t :=
  h.set0.set1.set2.set3
end

set_option maxRecDepth 100000 in
set_option maxHeartbeats 1000000 in
theorem drawGeo_any (c : Nat) (ad : Option Addr) (len cap : Nat) (w : World) (hlen : len ≤ 1048576) (hc : Cur w c ad len cap) (hs : Draw.Src w c ad len) :
    Calls Try.prog 103 #[.pointer (some ⟨c, 0, none⟩)] w (GeoDrawn true w c ad len cap) := by
  have HCL := Lib.hid (cur_lt hc)
  have S0 := Lib.hid (GSt.start hc hs)
  clear hc hs
  go_enter Try.func103, Try.ntmps103
  go_wp2_with fail
  refine (below_any c ad len cap 3 _ hlen (by decide) (by decide) S0.out.cur S0.out.src).mono ?_
  rintro e w1 ⟨x, x0, x1, rfl, hc1, hg1⟩
  have S1 := Lib.hid (S0.out.draw HCL.out hc1 hg1)
  clear hc1 hg1 S0
  go_wp2_with fail
  refine (below_any c ad len cap 7 _ hlen (by decide) (by decide) S1.out.cur S1.out.src).mono ?_
  rintro e w2 ⟨y, y0, y1, rfl, hc1, hg1⟩
  have S2 := Lib.hid (S1.out.draw HCL.out hc1 hg1)
  clear hc1 hg1 S1
  go_wp2_with fail
  refine (below_any c ad len cap 4 _ hlen (by decide) (by decide) S2.out.cur S2.out.src).mono ?_
  rintro e w3 ⟨z, z0, z1, rfl, hc1, hg1⟩
  have S3 := Lib.hid (S2.out.draw HCL.out hc1 hg1)
  clear hc1 hg1 S2
  have HB := Lib.hid (below_al w3 (.cells #[.int .i64 (1 + x), .int .i64 (6 + y), .int .i64 (3 + z), .int .i64 0] 29))
  have S4 := Lib.hid (S3.out.below HB.out)
  have F4 := Lib.hid (Four.alloc w3 (1 + x) (6 + y) (3 + z) 0 29)
  have c1 := F4.out.c1
  have HB3 := Lib.hid S3.out.low
  clear S3
  go_wp2_with fail
  refine (below_any c ad len cap (6 + y - 4) _ hlen (by omega) (by omega) S4.out.cur S4.out.src).mono ?_
  rintro e w5 ⟨q, qa, qb, rfl, hc1, hg1⟩
  have S5 := Lib.hid (S4.out.draw HCL.out hc1 hg1)
  have F5 := Lib.hid (F4.out.grown hg1 (by have := HCL.out; have := HB3.out; omega))
  clear hc1 hg1 S4 F4 HB c1
  obtain ⟨b, hb⟩ : ∃ b, w3.heap.size = b := ⟨_, rfl⟩
  rw [hb] at F5 HB3 ⊢
  clear hb
  have d0 := F5.out.c0
  have d1 := F5.out.c1
  have d2 := F5.out.c2
  have d3 := F5.out.c3
  have dfr := F5.out.fr (o := 3)
  have F6 := Lib.hid (F5.out.set3 (x := 1 + q))
  have e0 := F6.out.c0
  have e1 := F6.out.c1
  have e2 := F6.out.c2
  have e3 := F6.out.c3
  have S6 := Lib.hid (S5.out.set (b := b) (o := 3) HCL.out HB3.out (.int .i64 (1 + q)))
  have HP := Lib.hid (S6.out.done (T := 1 + x) (P := 6 + y) (I := 3 + z) (Q := 1 + q) (ok := true) HCL.out (fun _ => ⟨by unfold GeoR; omega, by omega, by omega⟩))

  have r0 := S6.out.res.c0
  have r1 := S6.out.res.c1
  have r2 := S6.out.res.c2
  have r3 := S6.out.res.c3
  have g0 := S6.out.res.fr (o := 0)
  have g1 := S6.out.res.fr (o := 1)
  have g2 := S6.out.res.fr (o := 2)
  have g3 := S6.out.res.fr (o := 3)
  have qf := S6.out.res.fill (T' := 1 + x) (P' := 6 + y) (I' := 3 + z) (Q' := 1 + q)
  have q0 := qf.c0
  have q1 := qf.c1
  have q2 := qf.c2
  have q3 := qf.c3
  clear qf
  go_wp2
  refine bodyPost_ret (v := .agg #[.int .i64 (1 + x), .int .i64 (6 + y), .int .i64 (3 + z), .int .i64 (1 + q)]) ?_ rfl HP.out
  simp [results, Try.results103, go_sem, q0, q1, q2, q3]

set_option maxRecDepth 100000 in
set_option maxHeartbeats 1000000 in
theorem drawAnyGeo_any (c : Nat) (ad : Option Addr) (len cap : Nat) (w : World) (hlen : len ≤ 1048576) (hc : Cur w c ad len cap) (hs : Draw.Src w c ad len) :
    Calls Try.prog 82 #[.pointer (some ⟨c, 0, none⟩)] w (GeoDrawn false w c ad len cap) := by
  have HCL := Lib.hid (cur_lt hc)
  have S0 := Lib.hid (GSt.start hc hs)
  clear hc hs
  go_enter Try.func82, Try.ntmps82
  go_wp2_with fail
  refine (drawGeo_any c ad len cap _ hlen S0.out.cur S0.out.src).mono ?_
  rintro e w1 ⟨T, P, I, Q, rfl, hok, hc1, hg1⟩
  obtain ⟨hgeo, hp6, hi3⟩ := hok rfl
  have hP12 : P ≤ 12 := hgeo.2.2.2.1
  have HB1 := Lib.hid (S0.out.draw HCL.out hc1 hg1).low
  have S1 := Lib.hid ((S0.out.draw HCL.out hc1 hg1).below (below_al w1 (.cells #[.int .i64 T, .int .i64 P, .int .i64 I, .int .i64 Q] 29)))
  have F1 := Lib.hid (Four.alloc w1 T P I Q 29)
  clear hok hc1 hg1 S0 hgeo hi3
  go_wp2_with fail
  refine (below_any c ad len cap 12 _ hlen (by decide) (by decide) S1.out.cur S1.out.src).mono ?_
  rintro e w2 ⟨y, y0, y1, rfl, hc1, hg1⟩
  have S2 := Lib.hid (S1.out.draw HCL.out hc1 hg1)
  have F2 := Lib.hid (F1.out.grown hg1 (by have := HCL.out; have := HB1.out; omega))
  clear hc1 hg1 S1 F1
  obtain ⟨b, hb⟩ : ∃ b, w1.heap.size = b := ⟨_, rfl⟩
  rw [hb] at F2 HB1 ⊢
  clear hb
  by_cases hy0 : y = 0
  · subst hy0
    have d0 := F2.out.c0
    have d1 := F2.out.c1
    have d2 := F2.out.c2
    have d3 := F2.out.c3
    have f0 := F2.out.fr (o := 0)
    have f1 := F2.out.fr (o := 1)
    have f2 := F2.out.fr (o := 2)
    have f3 := F2.out.fr (o := 3)
    go_wp2_with fail
    refine (pickNum_new c ad len cap 4 [0, 4, -1, 9223372036854775807] _ _ w2 rfl hlen (by decide) (by decide) rfl S2.out.cur S2.out.src).mono ?_
    rintro e w3 ⟨z, _, rfl, hc1, hg1⟩
    have S3 := Lib.hid (S2.out.draw HCL.out hc1 hg1)
    have F3 := Lib.hid (F2.out.grown hg1 (by have := HCL.out; have := HB1.out; omega))
    clear hc1 hg1 S2 F2 d0 d1 d2 d3 f0 f1 f2 f3
    have d0 := F3.out.c0
    have d1 := F3.out.c1
    have d2 := F3.out.c2
    have d3 := F3.out.c3
    have dfr := F3.out.fr (o := 0)
    have F6 := Lib.hid (F3.out.set0 (x := z))
    have e0 := F6.out.c0
    have e1 := F6.out.c1
    have e2 := F6.out.c2
    have e3 := F6.out.c3
    have S6 := Lib.hid (S3.out.set (b := b) (o := 0) HCL.out HB1.out (.int .i64 z))
    have HP := Lib.hid (S6.out.done (T := z) (P := P) (I := I) (Q := Q) (ok := false) HCL.out (fun e => by cases e))
    have r0 := S6.out.res.c0
    have r1 := S6.out.res.c1
    have r2 := S6.out.res.c2
    have r3 := S6.out.res.c3
    have g0 := S6.out.res.fr (o := 0)
    have g1 := S6.out.res.fr (o := 1)
    have g2 := S6.out.res.fr (o := 2)
    have g3 := S6.out.res.fr (o := 3)
    have qf := S6.out.res.fill (T' := z) (P' := P) (I' := I) (Q' := Q)
    have q0 := qf.c0
    have q1 := qf.c1
    have q2 := qf.c2
    have q3 := qf.c3
    clear qf
    go_wp2
    refine bodyPost_ret (v := .agg #[.int .i64 (z), .int .i64 (P), .int .i64 (I), .int .i64 (Q)]) ?_ rfl HP.out
    simp [results, Try.results82, go_sem, q0, q1, q2, q3]
  by_cases hy1 : y = 1
  · subst hy1
    have d0 := F2.out.c0
    have d1 := F2.out.c1
    have d2 := F2.out.c2
    have d3 := F2.out.c3
    have f0 := F2.out.fr (o := 0)
    have f1 := F2.out.fr (o := 1)
    have f2 := F2.out.fr (o := 2)
    have f3 := F2.out.fr (o := 3)
    go_wp2_with fail
    refine (pickNum_new c ad len cap 5 [4, 5, 12, 13, -1] _ _ w2 rfl hlen (by decide) (by decide) rfl S2.out.cur S2.out.src).mono ?_
    rintro e w3 ⟨z, _, rfl, hc1, hg1⟩
    have S3 := Lib.hid (S2.out.draw HCL.out hc1 hg1)
    have F3 := Lib.hid (F2.out.grown hg1 (by have := HCL.out; have := HB1.out; omega))
    clear hc1 hg1 S2 F2 d0 d1 d2 d3 f0 f1 f2 f3
    have d0 := F3.out.c0
    have d1 := F3.out.c1
    have d2 := F3.out.c2
    have d3 := F3.out.c3
    have dfr := F3.out.fr (o := 1)
    have F6 := Lib.hid (F3.out.set1 (x := z))
    have e0 := F6.out.c0
    have e1 := F6.out.c1
    have e2 := F6.out.c2
    have e3 := F6.out.c3
    have S6 := Lib.hid (S3.out.set (b := b) (o := 1) HCL.out HB1.out (.int .i64 z))
    have HP := Lib.hid (S6.out.done (T := T) (P := z) (I := I) (Q := Q) (ok := false) HCL.out (fun e => by cases e))
    have r0 := S6.out.res.c0
    have r1 := S6.out.res.c1
    have r2 := S6.out.res.c2
    have r3 := S6.out.res.c3
    have g0 := S6.out.res.fr (o := 0)
    have g1 := S6.out.res.fr (o := 1)
    have g2 := S6.out.res.fr (o := 2)
    have g3 := S6.out.res.fr (o := 3)
    have qf := S6.out.res.fill (T' := T) (P' := z) (I' := I) (Q' := Q)
    have q0 := qf.c0
    have q1 := qf.c1
    have q2 := qf.c2
    have q3 := qf.c3
    clear qf
    go_wp2
    refine bodyPost_ret (v := .agg #[.int .i64 (T), .int .i64 (z), .int .i64 (I), .int .i64 (Q)]) ?_ rfl HP.out
    simp [results, Try.results82, go_sem, q0, q1, q2, q3]
  by_cases hy2 : y = 2
  · subst hy2
    have d0 := F2.out.c0
    have d1 := F2.out.c1
    have d2 := F2.out.c2
    have d3 := F2.out.c3
    have f0 := F2.out.fr (o := 0)
    have f1 := F2.out.fr (o := 1)
    have f2 := F2.out.fr (o := 2)
    have f3 := F2.out.fr (o := 3)
    go_wp2_with fail
    refine (pickNum_new c ad len cap 4 [1, 2, 6, 7] _ _ w2 rfl hlen (by decide) (by decide) rfl S2.out.cur S2.out.src).mono ?_
    rintro e w3 ⟨z, _, rfl, hc1, hg1⟩
    have S3 := Lib.hid (S2.out.draw HCL.out hc1 hg1)
    have F3 := Lib.hid (F2.out.grown hg1 (by have := HCL.out; have := HB1.out; omega))
    clear hc1 hg1 S2 F2 d0 d1 d2 d3 f0 f1 f2 f3
    have d0 := F3.out.c0
    have d1 := F3.out.c1
    have d2 := F3.out.c2
    have d3 := F3.out.c3
    have dfr := F3.out.fr (o := 2)
    have F6 := Lib.hid (F3.out.set2 (x := z))
    have e0 := F6.out.c0
    have e1 := F6.out.c1
    have e2 := F6.out.c2
    have e3 := F6.out.c3
    have S6 := Lib.hid (S3.out.set (b := b) (o := 2) HCL.out HB1.out (.int .i64 z))
    have HP := Lib.hid (S6.out.done (T := T) (P := P) (I := z) (Q := Q) (ok := false) HCL.out (fun e => by cases e))
    have r0 := S6.out.res.c0
    have r1 := S6.out.res.c1
    have r2 := S6.out.res.c2
    have r3 := S6.out.res.c3
    have g0 := S6.out.res.fr (o := 0)
    have g1 := S6.out.res.fr (o := 1)
    have g2 := S6.out.res.fr (o := 2)
    have g3 := S6.out.res.fr (o := 3)
    have qf := S6.out.res.fill (T' := T) (P' := P) (I' := z) (Q' := Q)
    have q0 := qf.c0
    have q1 := qf.c1
    have q2 := qf.c2
    have q3 := qf.c3
    clear qf
    go_wp2
    refine bodyPost_ret (v := .agg #[.int .i64 (T), .int .i64 (P), .int .i64 (z), .int .i64 (Q)]) ?_ rfl HP.out
    simp [results, Try.results82, go_sem, q0, q1, q2, q3]
  by_cases hy3 : y = 3
  · subst hy3
    have d0 := F2.out.c0
    have d1 := F2.out.c1
    have d2 := F2.out.c2
    have d3 := F2.out.c3
    have f0 := F2.out.fr (o := 0)
    have f1 := F2.out.fr (o := 1)
    have f2 := F2.out.fr (o := 2)
    have f3 := F2.out.fr (o := 3)
    go_wp2_with fail
    refine (pickNum_new c ad len cap 5 [0, 8, 9, P - 4, P - 3] _ _ w2 rfl hlen (by decide) (by decide) rfl S2.out.cur S2.out.src).mono ?_
    rintro e w3 ⟨z, _, rfl, hc1, hg1⟩
    have S3 := Lib.hid (S2.out.draw HCL.out hc1 hg1)
    have F3 := Lib.hid (F2.out.grown hg1 (by have := HCL.out; have := HB1.out; omega))
    clear hc1 hg1 S2 F2 d0 d1 d2 d3 f0 f1 f2 f3
    have d0 := F3.out.c0
    have d1 := F3.out.c1
    have d2 := F3.out.c2
    have d3 := F3.out.c3
    have dfr := F3.out.fr (o := 3)
    have F6 := Lib.hid (F3.out.set3 (x := z))
    have e0 := F6.out.c0
    have e1 := F6.out.c1
    have e2 := F6.out.c2
    have e3 := F6.out.c3
    have S6 := Lib.hid (S3.out.set (b := b) (o := 3) HCL.out HB1.out (.int .i64 z))
    have HP := Lib.hid (S6.out.done (T := T) (P := P) (I := I) (Q := z) (ok := false) HCL.out (fun e => by cases e))
    have r0 := S6.out.res.c0
    have r1 := S6.out.res.c1
    have r2 := S6.out.res.c2
    have r3 := S6.out.res.c3
    have g0 := S6.out.res.fr (o := 0)
    have g1 := S6.out.res.fr (o := 1)
    have g2 := S6.out.res.fr (o := 2)
    have g3 := S6.out.res.fr (o := 3)
    have qf := S6.out.res.fill (T' := T) (P' := P) (I' := I) (Q' := z)
    have q0 := qf.c0
    have q1 := qf.c1
    have q2 := qf.c2
    have q3 := qf.c3
    clear qf
    go_wp2
    refine bodyPost_ret (v := .agg #[.int .i64 (T), .int .i64 (P), .int .i64 (I), .int .i64 (z)]) ?_ rfl HP.out
    simp [results, Try.results82, go_sem, q0, q1, q2, q3]
  have h4 : 4 ≤ y := by omega
  have e0 : (y == 0) = false := by simp; omega
  have e1 : (y == 1) = false := by simp; omega
  have e2 : (y == 2) = false := by simp; omega
  have e3 : (y == 3) = false := by simp; omega
  clear hy0 hy1 hy2 hy3 y0
  have d0 := F2.out.c0
  have d1 := F2.out.c1
  have d2 := F2.out.c2
  have d3 := F2.out.c3
  have HP := Lib.hid (S2.out.done (T := T) (P := P) (I := I) (Q := Q) (ok := false) HCL.out (fun e => by cases e))
  have r0 := S2.out.res.c0
  have r1 := S2.out.res.c1
  have r2 := S2.out.res.c2
  have r3 := S2.out.res.c3
  have g0 := S2.out.res.fr (o := 0)
  have g1 := S2.out.res.fr (o := 1)
  have g2 := S2.out.res.fr (o := 2)
  have g3 := S2.out.res.fr (o := 3)
  have qf := S2.out.res.fill (T' := T) (P' := P) (I' := I) (Q' := Q)
  have q0 := qf.c0
  have q1 := qf.c1
  have q2 := qf.c2
  have q3 := qf.c3
  clear qf
  go_wp2
  refine bodyPost_ret (v := .agg #[.int .i64 (T), .int .i64 (P), .int .i64 (I), .int .i64 (Q)]) ?_ rfl HP.out
  simp [results, Try.results82, go_sem, q0, q1, q2, q3]

/-- The layout that a law draws. -/
def GeoSaid (w : World) (e : Ending) (w' : World) : Prop := ∃ T P I Q : Int, e = .returned (.agg #[.int .i64 T, .int .i64 P, .int .i64 I, .int .i64 Q]) ∧ Below w.heap.size w w'
set_option maxRecDepth 100000 in
set_option maxHeartbeats 1000000 in
theorem drawGeoOk_any (ad : Option Addr) (len cap : Nat) (w : World) (hlen : len ≤ 1048576) (hs : Draw.Src w w.heap.size ad len) :
    Calls Try.prog 44 #[.slice ad len cap] w (GeoSaid w) := by
  have HS0 : Hid (Draw.Src (w.alloc (.cells #[.int .i64 0, .int .i64 0, .int .i64 0, .int .i64 0] 29)) (w.alloc (.cells #[.int .i64 0, .int .i64 0, .int .i64 0, .int .i64 0] 29)).heap.size ad len) := Lib.hid (fun i hi => by
    obtain ⟨q, off, z, e, hq, r⟩ := src_grown' (row := none) hs (grown_alloc w (.cells #[.int .i64 0, .int .i64 0, .int .i64 0, .int .i64 0] 29) none) (fun k e => by cases e) (Nat.le_refl _) i hi
    exact ⟨q, off, z, e, by simp; omega, r⟩)
  have R0 := Lib.hid (Four.alloc w 0 0 0 0 29)
  have B0 := Lib.hid (below_al w (.cells #[.int .i64 0, .int .i64 0, .int .i64 0, .int .i64 0] 29))
  clear hs
  go_enter Try.func44, Try.ntmps44
  go_wp2_with fail
  generalize w.alloc (.cells #[.int .i64 0, .int .i64 0, .int .i64 0, .int .i64 0] 29) = W0 at HS0 R0 B0 ⊢
  refine (new_any ad len cap W0 hlen HS0.out).mono ?_
  rintro e w1 ⟨rfl, h, rfl⟩
  have C1 : Hid (Cur (W0.alloc (.cells #[.slice ad len cap, .int .i64 0, .int .i64 h] 108)) W0.heap.size ad len cap) := Lib.hid ⟨0, h, Nat.zero_le _, heap_alloc_new W0 _⟩
  have S1 : Hid (Draw.Src (W0.alloc (.cells #[.slice ad len cap, .int .i64 0, .int .i64 h] 108)) W0.heap.size ad len) := Lib.hid (src_grown' HS0.out (grown_alloc _ _ none) (fun k e => by cases e) (Nat.le_refl _))
  have hba := below_al W0 (.cells #[.slice ad len cap, .int .i64 0, .int .i64 h] 108)
  have R1 := Lib.hid (R0.out.later hba)
  have B1 := Lib.hid (B0.out.trans (hba.mono B0.out.size))
  clear hba
  go_wp2_with fail
  refine (drawAnyGeo_any W0.heap.size ad len cap _ hlen C1.out S1.out).mono ?_
  rintro e w2 ⟨T, P, I, Q, rfl, _, hc2, hg2⟩
  have R2 := Lib.hid (R1.out.grown hg2 (Nat.ne_of_lt R0.out.lt))
  have B2 : Hid (Below w.heap.size w w2) := Lib.hid (B1.out.grown hg2 B1.out.size (fun k e => by have := B0.out.size; simp at e; omega))
  clear hc2 hg2 C1 S1 R1 B1
  have HP : Hid (GeoSaid w (.returned (.agg #[.int .i64 T, .int .i64 P, .int .i64 I, .int .i64 Q])) ((((w2.setCell ⟨w.heap.size, 0, none⟩ (.int .i64 T)).setCell ⟨w.heap.size, 1, none⟩ (.int .i64 P)).setCell ⟨w.heap.size, 2, none⟩ (.int .i64 I)).setCell ⟨w.heap.size, 3, none⟩ (.int .i64 Q))) := Lib.hid ⟨T, P, I, Q, rfl, (((B2.out.setCell (Nat.le_refl _) _).setCell (Nat.le_refl _) _).setCell (Nat.le_refl _) _).setCell (Nat.le_refl _) _⟩
  have r0 := R2.out.c0
  have r1 := R2.out.c1
  have r2 := R2.out.c2
  have r3 := R2.out.c3
  have g0 := R2.out.fr (o := 0)
  have g1 := R2.out.fr (o := 1)
  have g2 := R2.out.fr (o := 2)
  have g3 := R2.out.fr (o := 3)
  have qf := R2.out.fill (T' := T) (P' := P) (I' := I) (Q' := Q)
  have q0 := qf.c0
  have q1 := qf.c1
  have q2 := qf.c2
  have q3 := qf.c3
  clear qf
  go_wp2
  refine bodyPost_ret (v := .agg #[.int .i64 (T), .int .i64 (P), .int .i64 (I), .int .i64 (Q)]) ?_ rfl HP.out
  simp [results, Try.results44, go_sem, q0, q1, q2, q3]
end Go.Proofs.Ytmcelfiljnlmoaa
