/- Merged texts: ChImpl, ChSpec, ChObj. -/
import Derived.Test.YtmkchilhnmkhkabGreatP15ZI
import Derived.Lib.SliceRun
namespace Go.Proofs.YtmkchilhnmkhkabGreat
open Go.RowKit Go.Proofs.YtmkchilhnmkhkabGreat.Parts Go.Proofs.YtmkchilhnmkhkabGreat.Hexa Go.Proofs.YtmkchilhnmkhkabGreat.Byt

set_option maxRecDepth 100000 in
set_option maxHeartbeats 8000000 in
theorem implCh_no1 (T P I Q t : Int) (p : PartR) (a1p : Option Addr) (c1p : Nat) (a2p : Option Addr) (c2p : Nat) (q : PartR) (a1q : Option Addr) (c1q : Nat) (a2q : Option Addr) (c2q : Nat) (w : World) (h1p : (celRow cInt p.st).Rd w (.slice a1p p.st.length c1p)) (h2p : (celRow cIno p.ino).Rd w (.slice a2p p.ino.length c2p)) (hzp : szL (cPart.cels p) ≤ 1048576) (htp : TyL (celsE cIno p.ino)) (h1q : (celRow cInt q.st).Rd w (.slice a1q q.st.length c1q)) (h2q : (celRow cIno q.ino).Rd w (.slice a2q q.ino.length c2q)) (hzq : szL (cPart.cels q) ≤ 1048576) (htq : TyL (celsE cIno q.ino)) (hno : ¬ (PartOkR T P I Q p ∧ TenR T t)) :
    Calls Tryz.prog 16 #[.agg #[.int .i64 T, .int .i64 P, .int .i64 I, .int .i64 Q], .int .i64 t, .agg #[.int .i64 p.ser, .slice a1p p.st.length c1p, .slice a2p p.ino.length c2p], .agg #[.int .i64 q.ser, .slice a1q q.st.length c1q, .slice a2q q.ino.length c2q]] w (fun e w' => e = .returned (.slice none 0 0) ∧ Below w.heap.size w w') := by
  have hb1 := below_bk w (.cells #[.int .i64 T, .int .i64 P, .int .i64 I, .int .i64 Q] 31)
  have hb2 := below_bk (w.alloc (.cells #[.int .i64 T, .int .i64 P, .int .i64 I, .int .i64 Q] 31)) (.cells #[.int .i64 p.ser, .slice a1p p.st.length c1p, .slice a2p p.ino.length c2p] 35)
  have hb3 := below_bk ((w.alloc (.cells #[.int .i64 T, .int .i64 P, .int .i64 I, .int .i64 Q] 31)).alloc (.cells #[.int .i64 p.ser, .slice a1p p.st.length c1p, .slice a2p p.ino.length c2p] 35)) (.cells #[.int .i64 q.ser, .slice a1q q.st.length c1q, .slice a2q q.ino.length c2q] 35)
  have C0 : Hid (ChSt w (((w.alloc (.cells #[.int .i64 T, .int .i64 P, .int .i64 I, .int .i64 Q] 31)).alloc (.cells #[.int .i64 p.ser, .slice a1p p.st.length c1p, .slice a2p p.ino.length c2p] 35)).alloc (.cells #[.int .i64 q.ser, .slice a1q q.st.length c1q, .slice a2q q.ino.length c2q] 35)) T P I Q #[.int .i64 p.ser, .slice a1p p.st.length c1p, .slice a2p p.ino.length c2p] #[.int .i64 q.ser, .slice a1q q.st.length c1q, .slice a2q q.ino.length c2q]) := Lib.hid (by
    have h1 := (Bk.alloc (w.alloc (.cells #[.int .i64 T, .int .i64 P, .int .i64 I, .int .i64 Q] 31)) #[.int .i64 p.ser, .slice a1p p.st.length c1p, .slice a2p p.ino.length c2p] 35).later hb3
    have h2 := Bk.alloc ((w.alloc (.cells #[.int .i64 T, .int .i64 P, .int .i64 I, .int .i64 Q] 31)).alloc (.cells #[.int .i64 p.ser, .slice a1p p.st.length c1p, .slice a2p p.ino.length c2p] 35)) #[.int .i64 q.ser, .slice a1q q.st.length c1q, .slice a2q q.ino.length c2q] 35
    exact ⟨((Four.alloc w T P I Q 31).later hb2).later hb3, by simpa using h1, by simpa using h2, hb1.trans ((hb2.mono hb1.size).trans (hb3.mono (by simp; omega)))⟩)
  have CD := Lib.hid (C0.out.later (Below.refl _ _).drew)
  have HS1p := Lib.hid h1p
  have HS2p := Lib.hid h2p
  have HZp := Lib.hid hzp
  have HTp := Lib.hid htp
  have HS1q := Lib.hid h1q
  have HS2q := Lib.hid h2q
  have HZq := Lib.hid hzq
  have HTq := Lib.hid htq
  clear h1p h2p hzp htp h1q h2q hzq htq hb1 hb2 hb3
  have HOKp := Lib.hid hno
  clear hno
  have k0 := CD.out.geo.c0
  have k1 := CD.out.geo.c1
  have k2 := CD.out.geo.c2
  have k3 := CD.out.geo.c3
  have y0 := CD.out.part.cell (j := 0) rfl
  have y1 := CD.out.part.cell (j := 1) rfl
  have y2 := CD.out.part.cell (j := 2) rfl
  have z0 := CD.out.qart.cell (j := 0) rfl
  have z1 := CD.out.qart.cell (j := 1) rfl
  have z2 := CD.out.qart.cell (j := 2) rfl
  go_enter Tryz.func16, Tryz.ntmps16
  go_upto_region 1 with fail
  go_cut [9, 10] (fun xv yv wx => xv = .slice none 0 0 ∧ Below w.heap.size w wx)
  case first =>
    go_region_held3 (fun w' => w'.cell? ⟨w.heap.size, 0, none⟩ = some (.int .i64 T) ∧ w'.cell? ⟨w.heap.size, 1, none⟩ = some (.int .i64 P) ∧ w'.cell? ⟨w.heap.size, 2, none⟩ = some (.int .i64 I) ∧ w'.cell? ⟨w.heap.size, 3, none⟩ = some (.int .i64 Q) ∧ w'.cell? ⟨w.heap.size + 1, 0, none⟩ = some (.int .i64 p.ser) ∧ w'.cell? ⟨w.heap.size + 1, 1, none⟩ = some (.slice a1p p.st.length c1p) ∧ w'.cell? ⟨w.heap.size + 1, 2, none⟩ = some (.slice a2p p.ino.length c2p) ∧ w'.cell? ⟨w.heap.size + 2, 0, none⟩ = some (.int .i64 q.ser) ∧ w'.cell? ⟨w.heap.size + 2, 1, none⟩ = some (.slice a1q q.st.length c1q) ∧ w'.cell? ⟨w.heap.size + 2, 2, none⟩ = some (.slice a2q q.ino.length c2q))
      (first
        | exact ⟨CD.out.geo.c0, CD.out.geo.c1, CD.out.geo.c2, CD.out.geo.c3, CD.out.part.cell rfl, CD.out.part.cell rfl, CD.out.part.cell rfl, CD.out.qart.cell rfl, CD.out.qart.cell rfl, CD.out.qart.cell rfl⟩
        | go_keep)
      (first
        | (go_at_call 9; (with_reducible refine (implPWr_no T P I Q t p a1p c1p a2p c2p _ (Cel.Rd.later CD.out.below _ _ HS1p.out) (Cel.Rd.later CD.out.below _ _ HS2p.out) HZp.out HTp.out HOKp.out).mono ?_); rintro e w1 ⟨rfl, hb⟩; have CD := Lib.hid (CD.out.later hb); try (have SY := Lib.hid (SY.out.later hb)); clear hb)
        | (go_at_call 9; (with_reducible refine (implPWr_any T P I Q t q a1q c1q a2q c2q _ (Cel.Rd.later CD.out.below _ _ HS1q.out) (Cel.Rd.later CD.out.below _ _ HS2q.out) HZq.out HTq.out).mono ?_); rintro e w2 ⟨v2, rfl, _, hb⟩; have CD := Lib.hid (CD.out.later hb); try (have SX := Lib.hid (SX.out.later hb)); clear hb))
    all_goals (go_wp2; go_meet; exact ⟨rfl, CD.out.below⟩)
  case rest =>
    obtain ⟨rfl, hb⟩ := hcut
    clear k0 k1 k2 k3 y0 y1 y2 z0 z1 z2 CD C0
    have q0 := Lib.run_eql_slice_nil (P := Tryz.prog) wc 29 62 none 0 0 0 0 Tryz.underlying29
    go_wp2
    go_ret
    exact ⟨rfl, hb⟩

set_option maxRecDepth 100000 in
set_option maxHeartbeats 8000000 in
theorem implCh_no2 (T P I Q t : Int) (p : PartR) (a1p : Option Addr) (c1p : Nat) (a2p : Option Addr) (c2p : Nat) (q : PartR) (a1q : Option Addr) (c1q : Nat) (a2q : Option Addr) (c2q : Nat) (w : World) (h1p : (celRow cInt p.st).Rd w (.slice a1p p.st.length c1p)) (h2p : (celRow cIno p.ino).Rd w (.slice a2p p.ino.length c2p)) (hzp : szL (cPart.cels p) ≤ 1048576) (htp : TyL (celsE cIno p.ino)) (h1q : (celRow cInt q.st).Rd w (.slice a1q q.st.length c1q)) (h2q : (celRow cIno q.ino).Rd w (.slice a2q q.ino.length c2q)) (hzq : szL (cPart.cels q) ≤ 1048576) (htq : TyL (celsE cIno q.ino)) (hy : PartOkR T P I Q p ∧ TenR T t) (hno : ¬ (PartOkR T P I Q q ∧ TenR T t)) :
    Calls Tryz.prog 16 #[.agg #[.int .i64 T, .int .i64 P, .int .i64 I, .int .i64 Q], .int .i64 t, .agg #[.int .i64 p.ser, .slice a1p p.st.length c1p, .slice a2p p.ino.length c2p], .agg #[.int .i64 q.ser, .slice a1q q.st.length c1q, .slice a2q q.ino.length c2q]] w (fun e w' => e = .returned (.slice none 0 0) ∧ Below w.heap.size w w') := by
  have hb1 := below_bk w (.cells #[.int .i64 T, .int .i64 P, .int .i64 I, .int .i64 Q] 31)
  have hb2 := below_bk (w.alloc (.cells #[.int .i64 T, .int .i64 P, .int .i64 I, .int .i64 Q] 31)) (.cells #[.int .i64 p.ser, .slice a1p p.st.length c1p, .slice a2p p.ino.length c2p] 35)
  have hb3 := below_bk ((w.alloc (.cells #[.int .i64 T, .int .i64 P, .int .i64 I, .int .i64 Q] 31)).alloc (.cells #[.int .i64 p.ser, .slice a1p p.st.length c1p, .slice a2p p.ino.length c2p] 35)) (.cells #[.int .i64 q.ser, .slice a1q q.st.length c1q, .slice a2q q.ino.length c2q] 35)
  have C0 : Hid (ChSt w (((w.alloc (.cells #[.int .i64 T, .int .i64 P, .int .i64 I, .int .i64 Q] 31)).alloc (.cells #[.int .i64 p.ser, .slice a1p p.st.length c1p, .slice a2p p.ino.length c2p] 35)).alloc (.cells #[.int .i64 q.ser, .slice a1q q.st.length c1q, .slice a2q q.ino.length c2q] 35)) T P I Q #[.int .i64 p.ser, .slice a1p p.st.length c1p, .slice a2p p.ino.length c2p] #[.int .i64 q.ser, .slice a1q q.st.length c1q, .slice a2q q.ino.length c2q]) := Lib.hid (by
    have h1 := (Bk.alloc (w.alloc (.cells #[.int .i64 T, .int .i64 P, .int .i64 I, .int .i64 Q] 31)) #[.int .i64 p.ser, .slice a1p p.st.length c1p, .slice a2p p.ino.length c2p] 35).later hb3
    have h2 := Bk.alloc ((w.alloc (.cells #[.int .i64 T, .int .i64 P, .int .i64 I, .int .i64 Q] 31)).alloc (.cells #[.int .i64 p.ser, .slice a1p p.st.length c1p, .slice a2p p.ino.length c2p] 35)) #[.int .i64 q.ser, .slice a1q q.st.length c1q, .slice a2q q.ino.length c2q] 35
    exact ⟨((Four.alloc w T P I Q 31).later hb2).later hb3, by simpa using h1, by simpa using h2, hb1.trans ((hb2.mono hb1.size).trans (hb3.mono (by simp; omega)))⟩)
  have CD := Lib.hid (C0.out.later (Below.refl _ _).drew)
  have HS1p := Lib.hid h1p
  have HS2p := Lib.hid h2p
  have HZp := Lib.hid hzp
  have HTp := Lib.hid htp
  have HS1q := Lib.hid h1q
  have HS2q := Lib.hid h2q
  have HZq := Lib.hid hzq
  have HTq := Lib.hid htq
  clear h1p h2p hzp htp h1q h2q hzq htq hb1 hb2 hb3
  obtain ⟨X, hX⟩ : ∃ X, pwL T P I Q t p = X := ⟨_, rfl⟩
  have HX := Lib.hid hX
  have HXP : Hid (0 < X.length) := Lib.hid (by rw [← hX, pwL_eight hy.1]; omega)
  have HOKp := Lib.hid hy
  have HOKq := Lib.hid hno
  clear hno hy hX
  have k0 := CD.out.geo.c0
  have k1 := CD.out.geo.c1
  have k2 := CD.out.geo.c2
  have k3 := CD.out.geo.c3
  have y0 := CD.out.part.cell (j := 0) rfl
  have y1 := CD.out.part.cell (j := 1) rfl
  have y2 := CD.out.part.cell (j := 2) rfl
  have z0 := CD.out.qart.cell (j := 0) rfl
  have z1 := CD.out.qart.cell (j := 1) rfl
  have z2 := CD.out.qart.cell (j := 2) rfl
  go_enter Tryz.func16, Tryz.ntmps16
  go_upto_region 1 with fail
  go_cut [9, 10] (fun xv yv wx => (∃ g c, xv = .slice (some ⟨g, 0, none⟩) X.length c) ∧ yv = .slice none 0 0 ∧ Below w.heap.size w wx)
  case first =>
    go_region_held3 (fun w' => w'.cell? ⟨w.heap.size, 0, none⟩ = some (.int .i64 T) ∧ w'.cell? ⟨w.heap.size, 1, none⟩ = some (.int .i64 P) ∧ w'.cell? ⟨w.heap.size, 2, none⟩ = some (.int .i64 I) ∧ w'.cell? ⟨w.heap.size, 3, none⟩ = some (.int .i64 Q) ∧ w'.cell? ⟨w.heap.size + 1, 0, none⟩ = some (.int .i64 p.ser) ∧ w'.cell? ⟨w.heap.size + 1, 1, none⟩ = some (.slice a1p p.st.length c1p) ∧ w'.cell? ⟨w.heap.size + 1, 2, none⟩ = some (.slice a2p p.ino.length c2p) ∧ w'.cell? ⟨w.heap.size + 2, 0, none⟩ = some (.int .i64 q.ser) ∧ w'.cell? ⟨w.heap.size + 2, 1, none⟩ = some (.slice a1q q.st.length c1q) ∧ w'.cell? ⟨w.heap.size + 2, 2, none⟩ = some (.slice a2q q.ino.length c2q))
      (first
        | exact ⟨CD.out.geo.c0, CD.out.geo.c1, CD.out.geo.c2, CD.out.geo.c3, CD.out.part.cell rfl, CD.out.part.cell rfl, CD.out.part.cell rfl, CD.out.qart.cell rfl, CD.out.qart.cell rfl, CD.out.qart.cell rfl⟩
        | go_keep)
      (first
        | (go_at_call 9; (with_reducible refine (implPWr_yes T P I Q t p a1p c1p a2p c2p _ (Cel.Rd.later CD.out.below _ _ HS1p.out) (Cel.Rd.later CD.out.below _ _ HS2p.out) HZp.out HTp.out HOKp.out).mono ?_); rw [HX.out]; rintro e w1 ⟨v1, rfl, ho, hb⟩; obtain ⟨gX, cX, rfl, _, _⟩ := ho.form HXP.out; have SX := Lib.hid (srcE_of_own ho (by decide)); clear ho; have CD := Lib.hid (CD.out.later hb); try (have SY := Lib.hid (SY.out.later hb)); clear hb)
        | (go_at_call 9; (with_reducible refine (implPWr_no T P I Q t q a1q c1q a2q c2q _ (Cel.Rd.later CD.out.below _ _ HS1q.out) (Cel.Rd.later CD.out.below _ _ HS2q.out) HZq.out HTq.out HOKq.out).mono ?_); rintro e w2 ⟨rfl, hb⟩; have CD := Lib.hid (CD.out.later hb); try (have SX := Lib.hid (SX.out.later hb)); clear hb))
    all_goals (go_wp2; go_meet; exact ⟨⟨_, _, rfl⟩, rfl, CD.out.below⟩)
  case rest =>
    obtain ⟨⟨g, c, rfl⟩, rfl, hb⟩ := hcut
    clear k0 k1 k2 k3 y0 y1 y2 z0 z1 z2 CD C0
    have q0 := Lib.run_eql_slice_nil (P := Tryz.prog) wc 29 62 none 0 0 0 0 Tryz.underlying29
    have q1 := Lib.run_eql_slice_nil (P := Tryz.prog) wc 29 62 (some ⟨g, 0, none⟩) X.length c 0 0 Tryz.underlying29
    go_wp2
    go_ret
    exact ⟨rfl, hb⟩

set_option maxRecDepth 100000 in
set_option maxHeartbeats 8000000 in
theorem implCh_yes (T P I Q t : Int) (p : PartR) (a1p : Option Addr) (c1p : Nat) (a2p : Option Addr) (c2p : Nat) (q : PartR) (a1q : Option Addr) (c1q : Nat) (a2q : Option Addr) (c2q : Nat) (w : World) (h1p : (celRow cInt p.st).Rd w (.slice a1p p.st.length c1p)) (h2p : (celRow cIno p.ino).Rd w (.slice a2p p.ino.length c2p)) (hzp : szL (cPart.cels p) ≤ 1048576) (htp : TyL (celsE cIno p.ino)) (h1q : (celRow cInt q.st).Rd w (.slice a1q q.st.length c1q)) (h2q : (celRow cIno q.ino).Rd w (.slice a2q q.ino.length c2q)) (hzq : szL (cPart.cels q) ≤ 1048576) (htq : TyL (celsE cIno q.ino)) (hyp : PartOkR T P I Q p ∧ TenR T t) (hyq : PartOkR T P I Q q ∧ TenR T t) :
    Calls Tryz.prog 16 #[.agg #[.int .i64 T, .int .i64 P, .int .i64 I, .int .i64 Q], .int .i64 t, .agg #[.int .i64 p.ser, .slice a1p p.st.length c1p, .slice a2p p.ino.length c2p], .agg #[.int .i64 q.ser, .slice a1q q.st.length c1q, .slice a2q q.ino.length c2q]] w (GivesPW (chR T P I Q t p q) w) := by
  have hb1 := below_bk w (.cells #[.int .i64 T, .int .i64 P, .int .i64 I, .int .i64 Q] 31)
  have hb2 := below_bk (w.alloc (.cells #[.int .i64 T, .int .i64 P, .int .i64 I, .int .i64 Q] 31)) (.cells #[.int .i64 p.ser, .slice a1p p.st.length c1p, .slice a2p p.ino.length c2p] 35)
  have hb3 := below_bk ((w.alloc (.cells #[.int .i64 T, .int .i64 P, .int .i64 I, .int .i64 Q] 31)).alloc (.cells #[.int .i64 p.ser, .slice a1p p.st.length c1p, .slice a2p p.ino.length c2p] 35)) (.cells #[.int .i64 q.ser, .slice a1q q.st.length c1q, .slice a2q q.ino.length c2q] 35)
  have C0 : Hid (ChSt w (((w.alloc (.cells #[.int .i64 T, .int .i64 P, .int .i64 I, .int .i64 Q] 31)).alloc (.cells #[.int .i64 p.ser, .slice a1p p.st.length c1p, .slice a2p p.ino.length c2p] 35)).alloc (.cells #[.int .i64 q.ser, .slice a1q q.st.length c1q, .slice a2q q.ino.length c2q] 35)) T P I Q #[.int .i64 p.ser, .slice a1p p.st.length c1p, .slice a2p p.ino.length c2p] #[.int .i64 q.ser, .slice a1q q.st.length c1q, .slice a2q q.ino.length c2q]) := Lib.hid (by
    have h1 := (Bk.alloc (w.alloc (.cells #[.int .i64 T, .int .i64 P, .int .i64 I, .int .i64 Q] 31)) #[.int .i64 p.ser, .slice a1p p.st.length c1p, .slice a2p p.ino.length c2p] 35).later hb3
    have h2 := Bk.alloc ((w.alloc (.cells #[.int .i64 T, .int .i64 P, .int .i64 I, .int .i64 Q] 31)).alloc (.cells #[.int .i64 p.ser, .slice a1p p.st.length c1p, .slice a2p p.ino.length c2p] 35)) #[.int .i64 q.ser, .slice a1q q.st.length c1q, .slice a2q q.ino.length c2q] 35
    exact ⟨((Four.alloc w T P I Q 31).later hb2).later hb3, by simpa using h1, by simpa using h2, hb1.trans ((hb2.mono hb1.size).trans (hb3.mono (by simp; omega)))⟩)
  have CD := Lib.hid (C0.out.later (Below.refl _ _).drew)
  have HS1p := Lib.hid h1p
  have HS2p := Lib.hid h2p
  have HZp := Lib.hid hzp
  have HTp := Lib.hid htp
  have HS1q := Lib.hid h1q
  have HS2q := Lib.hid h2q
  have HZq := Lib.hid hzq
  have HTq := Lib.hid htq
  clear h1p h2p hzp htp h1q h2q hzq htq hb1 hb2 hb3
  obtain ⟨X, hX⟩ : ∃ X, pwL T P I Q t p = X := ⟨_, rfl⟩
  obtain ⟨Y, hY⟩ : ∃ Y, pwL T P I Q t q = Y := ⟨_, rfl⟩
  have HX := Lib.hid hX
  have HY := Lib.hid hY
  have HXP : Hid (0 < X.length) := Lib.hid (by rw [← hX, pwL_eight hyp.1]; omega)
  have HYP : Hid (0 < Y.length) := Lib.hid (by rw [← hY, pwL_eight hyq.1]; omega)
  have HEQ : Hid (X.length = Y.length) := Lib.hid (by rw [← hX, ← hY, pwL_eight hyp.1, pwL_eight hyq.1])
  have HYL : Hid (Y.length ≤ 50) := Lib.hid (by rw [← hY]; exact pwL_len hyq.1)
  have HCH : Hid (chR T P I Q t p q = chN X Y Y.length) := Lib.hid (by unfold chR; rw [pwR_yes hyp, pwR_yes hyq, hX, hY, HEQ.out, Nat.min_self])
  have HOKp := Lib.hid hyp
  have HOKq := Lib.hid hyq
  clear hyp hyq hX hY
  have k0 := CD.out.geo.c0
  have k1 := CD.out.geo.c1
  have k2 := CD.out.geo.c2
  have k3 := CD.out.geo.c3
  have y0 := CD.out.part.cell (j := 0) rfl
  have y1 := CD.out.part.cell (j := 1) rfl
  have y2 := CD.out.part.cell (j := 2) rfl
  have z0 := CD.out.qart.cell (j := 0) rfl
  have z1 := CD.out.qart.cell (j := 1) rfl
  have z2 := CD.out.qart.cell (j := 2) rfl
  go_enter Tryz.func16, Tryz.ntmps16
  go_upto_region 1 with fail
  go_cut [9, 10] (fun xv yv wx => ∃ gx cx gy cy, xv = .slice (some ⟨gx, 0, none⟩) X.length cx ∧ yv = .slice (some ⟨gy, 0, none⟩) Y.length cy ∧ SrcE encW wx (some ⟨gx, 0, none⟩) X.length X ∧ SrcE encW wx (some ⟨gy, 0, none⟩) Y.length Y ∧ Below w.heap.size w wx)
  case first =>
    go_region_held3 (fun w' => w'.cell? ⟨w.heap.size, 0, none⟩ = some (.int .i64 T) ∧ w'.cell? ⟨w.heap.size, 1, none⟩ = some (.int .i64 P) ∧ w'.cell? ⟨w.heap.size, 2, none⟩ = some (.int .i64 I) ∧ w'.cell? ⟨w.heap.size, 3, none⟩ = some (.int .i64 Q) ∧ w'.cell? ⟨w.heap.size + 1, 0, none⟩ = some (.int .i64 p.ser) ∧ w'.cell? ⟨w.heap.size + 1, 1, none⟩ = some (.slice a1p p.st.length c1p) ∧ w'.cell? ⟨w.heap.size + 1, 2, none⟩ = some (.slice a2p p.ino.length c2p) ∧ w'.cell? ⟨w.heap.size + 2, 0, none⟩ = some (.int .i64 q.ser) ∧ w'.cell? ⟨w.heap.size + 2, 1, none⟩ = some (.slice a1q q.st.length c1q) ∧ w'.cell? ⟨w.heap.size + 2, 2, none⟩ = some (.slice a2q q.ino.length c2q))
      (first
        | exact ⟨CD.out.geo.c0, CD.out.geo.c1, CD.out.geo.c2, CD.out.geo.c3, CD.out.part.cell rfl, CD.out.part.cell rfl, CD.out.part.cell rfl, CD.out.qart.cell rfl, CD.out.qart.cell rfl, CD.out.qart.cell rfl⟩
        | go_keep)
      (first
        | (go_at_call 9; (with_reducible refine (implPWr_yes T P I Q t p a1p c1p a2p c2p _ (Cel.Rd.later CD.out.below _ _ HS1p.out) (Cel.Rd.later CD.out.below _ _ HS2p.out) HZp.out HTp.out HOKp.out).mono ?_); rw [HX.out]; rintro e w1 ⟨v1, rfl, ho, hb⟩; obtain ⟨gX, cX, rfl, _, _⟩ := ho.form HXP.out; have SX := Lib.hid (srcE_of_own ho (by decide)); clear ho; have CD := Lib.hid (CD.out.later hb); try (have SY := Lib.hid (SY.out.later hb)); clear hb)
        | (go_at_call 9; (with_reducible refine (implPWr_yes T P I Q t q a1q c1q a2q c2q _ (Cel.Rd.later CD.out.below _ _ HS1q.out) (Cel.Rd.later CD.out.below _ _ HS2q.out) HZq.out HTq.out HOKq.out).mono ?_); rw [HY.out]; rintro e w2 ⟨v2, rfl, ho, hb⟩; obtain ⟨gY, cY, rfl, _, _⟩ := ho.form HYP.out; have SY := Lib.hid (srcE_of_own ho (by decide)); clear ho; have CD := Lib.hid (CD.out.later hb); try (have SX := Lib.hid (SX.out.later hb)); clear hb))
    all_goals (go_wp2; go_meet; exact ⟨_, _, _, _, rfl, rfl, SX.out, SY.out, CD.out.below⟩)
  case rest =>
    obtain ⟨gx, cx, gy, cy, rfl, rfl, hsx, hsy, hb⟩ := hcut
    have SX := Lib.hid hsx
    have SY := Lib.hid hsy
    have B3 := Lib.hid hb
    have HB3 : Hid (w.heap.size ≤ wc.heap.size) := Lib.hid hb.size
    have R0 : Hid (RLoop w.heap.size (.slice none 0 0) wc wc (.slice none 0 0) []) := Lib.hid (RLoop.start (own_nilW _ _))
    clear k0 k1 k2 k3 y0 y1 y2 z0 z1 z2 CD C0 hsx hsy hb
    have hyl := HYL.out
    have q0 := Lib.run_eql_slice_nil (P := Tryz.prog) wc 29 62 (some ⟨gx, 0, none⟩) X.length cx 0 0 Tryz.underlying29
    have q1 := Lib.run_eql_slice_nil (P := Tryz.prog) wc 29 62 (some ⟨gy, 0, none⟩) Y.length cy 0 0 Tryz.underlying29
    go_wp2
    clear q0 q1
    go_loopw [30, 11] (fun kv uv wr => ∃ (k : Nat), k ≤ Y.length ∧ kv = .int .i64 k ∧ Hid (RLoop w.heap.size (.slice none 0 0) wc wr uv (chN X Y k))) (fun kv _ _ => Y.length - (intOf kv).toNat)
    case atStart => exact ⟨0, Nat.zero_le _, rfl, R0⟩
    case round =>
      clear R0
      obtain ⟨k, hk, rfl, RL⟩ := hrel
      obtain ⟨u, hu⟩ : ∃ u, u = u11 := ⟨_, rfl⟩
      rw [← hu] at RL ⊢
      clear hu
      by_cases hlt : k < Y.length
      · have hx : k < X.length := by have := HEQ.out; omega
        have SX4 := Lib.hid (SX.out.apart RL.out.apart (fun _ _ => nil_own _))
        have SY4 := Lib.hid (SY.out.apart RL.out.apart (fun _ _ => nil_own _))
        obtain ⟨gx', ox, ex, hgx, dx⟩ := SX4.out.cell k hx
        obtain ⟨rfl, rfl⟩ : gx = gx' ∧ ox = 0 := by cases ex; exact ⟨rfl, rfl⟩
        have dx0 : wr.cell? ⟨gx, 0 + k * 2, none⟩ = some (.int .i64 (X.getD k default).at_) := dx 0 _ rfl
        have dx1 : wr.cell? ⟨gx, 0 + k * 2 + 1, none⟩ = some (.string (X.getD k default).word) := dx 1 _ rfl
        obtain ⟨gy', oy, ey, hgy, dy⟩ := SY4.out.cell k hlt
        obtain ⟨rfl, rfl⟩ : gy = gy' ∧ oy = 0 := by cases ey; exact ⟨rfl, rfl⟩
        have dy0 : wr.cell? ⟨gy, 0 + k * 2, none⟩ = some (.int .i64 (Y.getD k default).at_) := dy 0 _ rfl
        have dy1 : wr.cell? ⟨gy, 0 + k * 2 + 1, none⟩ = some (.string (Y.getD k default).word) := dy 1 _ rfl
        have HSM := Lib.hid (chN_same (X := X) (Y := Y) (n := k))
        have HDF := Lib.hid (chN_diff (X := X) (Y := Y) (n := k))
        have HCL := Lib.hid (chN_len X Y k)
        obtain ⟨x, ex'⟩ : ∃ x, X.getD k default = x := ⟨_, rfl⟩
        obtain ⟨y, ey'⟩ : ∃ y, Y.getD k default = y := ⟨_, rfl⟩
        rw [ex'] at dx0 dx1 HSM HDF
        rw [ey'] at dy0 dy1 HSM HDF
        clear ex' ey' ex ey dx dy SX4 SY4
        rw [Nat.zero_add] at dx0 dx1 dy0 dy1
        obtain ⟨L, eL⟩ : ∃ L, chN X Y k = L := ⟨_, rfl⟩
        rw [eL] at RL HSM HDF HCL
        clear eL
        obtain ⟨xa, xw⟩ := x
        obtain ⟨ya, yw⟩ := y
        have dx0 : wr.cell? ⟨gx, k * 2, none⟩ = some (.int .i64 xa) := dx0
        have dx1 : wr.cell? ⟨gx, k * 2 + 1, none⟩ = some (.string xw) := dx1
        have dy0 : wr.cell? ⟨gy, k * 2, none⟩ = some (.int .i64 ya) := dy0
        have dy1 : wr.cell? ⟨gy, k * 2 + 1, none⟩ = some (.string yw) := dy1
        have hbx := below_bk wr (.cells #[.int .i64 ya, .string yw] 62)
        have TB := Lib.hid (Bk.alloc wr #[.int .i64 ya, .string yw] 62)
        have t0 := TB.out.cell (j := 0) rfl
        have t1 := TB.out.cell (j := 1) rfl
        have x0 : (wr.alloc (.cells #[.int .i64 ya, .string yw] 62)).cell? ⟨gx, k * 2, none⟩ = some (.int .i64 xa) := (hbx.cell (p := ⟨gx, k * 2, none⟩) hgx).trans dx0
        have x1 : (wr.alloc (.cells #[.int .i64 ya, .string yw] 62)).cell? ⟨gx, k * 2 + 1, none⟩ = some (.string xw) := (hbx.cell (p := ⟨gx, k * 2 + 1, none⟩) hgx).trans dx1
        have RB := Lib.hid (RL.out.later HB3.out hbx)
        clear hbx
        by_cases e1 : xa = ya
        · subst e1
          by_cases e2 : xw = yw
          · subst e2
            have HN := Lib.hid (HSM.out rfl)
            go_wp2
            go_quiet (fail)
            have RQ := Lib.hid (RB.out.later HB3.out (below_drewsN (Below.refl _ _) nq))
            have q0 : ((wr.alloc (.cells #[.int .i64 xa, .string xw] 62)).drewN nq).cell? ⟨wr.heap.size, 0, none⟩ = some (.int .i64 xa) := t0
            have q1 : ((wr.alloc (.cells #[.int .i64 xa, .string xw] 62)).drewN nq).cell? ⟨wr.heap.size, 1, none⟩ = some (.string xw) := t1
            clear dx0 dx1 dy0 dy1 x0 x1 t0 t1
            obtain ⟨W4, hW4⟩ : ∃ y, y = (wr.alloc (.cells #[.int .i64 xa, .string xw] 62)).drewN nq := ⟨_, rfl⟩
            rw [← hW4] at RQ q0 q1 ⊢
            clear hW4
            go_wp2
            go_roundw
            case rel => exact ⟨k + 1, by omega, by go_num, by rw [HN.out]; exact RQ⟩
            case measure => (simp [intOf]; try omega)
          · have HN := Lib.hid (HDF.out (fun e => e2 (WriteR.mk.inj e).2))
            have f2 := neq_wr2 xa (fun e => e2 e.symm : ¬ yw = xw)
            go_wp2
            go_quiet (fail)
            have RQ := Lib.hid (RB.out.later HB3.out (below_drewsN (Below.refl _ _) nq))
            have q0 : ((wr.alloc (.cells #[.int .i64 xa, .string yw] 62)).drewN nq).cell? ⟨wr.heap.size, 0, none⟩ = some (.int .i64 xa) := t0
            have q1 : ((wr.alloc (.cells #[.int .i64 xa, .string yw] 62)).drewN nq).cell? ⟨wr.heap.size, 1, none⟩ = some (.string yw) := t1
            clear dx0 dx1 dy0 dy1 x0 x1 t0 t1
            obtain ⟨W4, hW4⟩ : ∃ y, y = (wr.alloc (.cells #[.int .i64 xa, .string yw] 62)).drewN nq := ⟨_, rfl⟩
            rw [← hW4] at RQ q0 q1 ⊢
            clear hW4
            have hr := appW1 W4 29 w.heap.size u L.length L RQ.out.row (by have := HB3.out; have := RQ.out.apart.size; omega) ⟨xa, yw⟩ (by have := HCL.out; omega)
            go_wp2_with (at_builtin; refine wpList_appE rfl _ _ _ _ rfl _ _ rfl rfl hr ?_; clear hr; intro v' w6 h1 h2 h3)
            have HF := Lib.hid (RQ.out.step HB3.out h1 h2 h3)
            rw [← HN.out] at HF
            clear h1 h2 h3 q0 q1
            go_wp2
            go_roundw
            case rel => exact ⟨k + 1, by omega, by go_num, HF⟩
            case measure => (simp [intOf]; try omega)
        · have HN := Lib.hid (HDF.out (fun e => e1 (WriteR.mk.inj e).1))
          have f1 : (ya == xa) = false := by simpa using (fun e => e1 e.symm : ¬ ya = xa)
          have f3 : ¬ ya = xa := fun e => e1 e.symm
          go_wp2
          go_quiet (fail)
          have RQ := Lib.hid (RB.out.later HB3.out (below_drewsN (Below.refl _ _) nq))
          have q0 : ((wr.alloc (.cells #[.int .i64 ya, .string yw] 62)).drewN nq).cell? ⟨wr.heap.size, 0, none⟩ = some (.int .i64 ya) := t0
          have q1 : ((wr.alloc (.cells #[.int .i64 ya, .string yw] 62)).drewN nq).cell? ⟨wr.heap.size, 1, none⟩ = some (.string yw) := t1
          clear dx0 dx1 dy0 dy1 x0 x1 t0 t1
          obtain ⟨W4, hW4⟩ : ∃ y, y = (wr.alloc (.cells #[.int .i64 ya, .string yw] 62)).drewN nq := ⟨_, rfl⟩
          rw [← hW4] at RQ q0 q1 ⊢
          clear hW4
          have hr := appW1 W4 29 w.heap.size u L.length L RQ.out.row (by have := HB3.out; have := RQ.out.apart.size; omega) ⟨ya, yw⟩ (by have := HCL.out; omega)
          go_wp2_with (at_builtin; refine wpList_appE rfl _ _ _ _ rfl _ _ rfl rfl hr ?_; clear hr; intro v' w6 h1 h2 h3)
          have HF := Lib.hid (RQ.out.step HB3.out h1 h2 h3)
          rw [← HN.out] at HF
          clear h1 h2 h3 q0 q1
          go_wp2
          go_roundw
          case rel => exact ⟨k + 1, by omega, by go_num, HF⟩
          case measure => (simp [intOf]; try omega)
      · obtain rfl : k = Y.length := by omega
        have HB := Lib.hid (B3.out.trans RL.out.below)
        go_wp2
        go_ret
        exact ⟨_, rfl, by rw [HCH.out]; exact RL.out.row, HB.out⟩

end Go.Proofs.YtmkchilhnmkhkabGreat
namespace Go.Proofs.YtmkchilhnmkhkabGreat
open Go.RowKit Go.Proofs.YtmkchilhnmkhkabGreat.Parts Go.Proofs.YtmkchilhnmkhkabGreat.Hexa Go.Proofs.YtmkchilhnmkhkabGreat.Byt

set_option maxRecDepth 100000 in
set_option maxHeartbeats 8000000 in
theorem specCh_any (T P I Q t : Int) (p : PartR) (a1p : Option Addr) (c1p : Nat) (a2p : Option Addr) (c2p : Nat) (q : PartR) (a1q : Option Addr) (c1q : Nat) (a2q : Option Addr) (c2q : Nat) (w : World) (h1p : (celRow cInt p.st).Rd w (.slice a1p p.st.length c1p)) (h2p : (celRow cIno p.ino).Rd w (.slice a2p p.ino.length c2p)) (hzp : szL (cPart.cels p) ≤ 1048576) (htp : TyL (celsE cIno p.ino)) (h1q : (celRow cInt q.st).Rd w (.slice a1q q.st.length c1q)) (h2q : (celRow cIno q.ino).Rd w (.slice a2q q.ino.length c2q)) (hzq : szL (cPart.cels q) ≤ 1048576) (htq : TyL (celsE cIno q.ino)) :
    Calls Tryz.prog 15 #[.agg #[.int .i64 T, .int .i64 P, .int .i64 I, .int .i64 Q], .int .i64 t, .agg #[.int .i64 p.ser, .slice a1p p.st.length c1p, .slice a2p p.ino.length c2p], .agg #[.int .i64 q.ser, .slice a1q q.st.length c1q, .slice a2q q.ino.length c2q]] w (GivesPS (chR T P I Q t p q) w) := by
  have hb1 := below_bk w (.cells #[.int .i64 T, .int .i64 P, .int .i64 I, .int .i64 Q] 31)
  have hb2 := below_bk (w.alloc (.cells #[.int .i64 T, .int .i64 P, .int .i64 I, .int .i64 Q] 31)) (.cells #[.int .i64 p.ser, .slice a1p p.st.length c1p, .slice a2p p.ino.length c2p] 35)
  have hb3 := below_bk ((w.alloc (.cells #[.int .i64 T, .int .i64 P, .int .i64 I, .int .i64 Q] 31)).alloc (.cells #[.int .i64 p.ser, .slice a1p p.st.length c1p, .slice a2p p.ino.length c2p] 35)) (.cells #[.int .i64 q.ser, .slice a1q q.st.length c1q, .slice a2q q.ino.length c2q] 35)
  have C0 : Hid (ChSt w (((w.alloc (.cells #[.int .i64 T, .int .i64 P, .int .i64 I, .int .i64 Q] 31)).alloc (.cells #[.int .i64 p.ser, .slice a1p p.st.length c1p, .slice a2p p.ino.length c2p] 35)).alloc (.cells #[.int .i64 q.ser, .slice a1q q.st.length c1q, .slice a2q q.ino.length c2q] 35)) T P I Q #[.int .i64 p.ser, .slice a1p p.st.length c1p, .slice a2p p.ino.length c2p] #[.int .i64 q.ser, .slice a1q q.st.length c1q, .slice a2q q.ino.length c2q]) := Lib.hid (by
    have h1 := (Bk.alloc (w.alloc (.cells #[.int .i64 T, .int .i64 P, .int .i64 I, .int .i64 Q] 31)) #[.int .i64 p.ser, .slice a1p p.st.length c1p, .slice a2p p.ino.length c2p] 35).later hb3
    have h2 := Bk.alloc ((w.alloc (.cells #[.int .i64 T, .int .i64 P, .int .i64 I, .int .i64 Q] 31)).alloc (.cells #[.int .i64 p.ser, .slice a1p p.st.length c1p, .slice a2p p.ino.length c2p] 35)) #[.int .i64 q.ser, .slice a1q q.st.length c1q, .slice a2q q.ino.length c2q] 35
    exact ⟨((Four.alloc w T P I Q 31).later hb2).later hb3, by simpa using h1, by simpa using h2, hb1.trans ((hb2.mono hb1.size).trans (hb3.mono (by simp; omega)))⟩)
  have HS1p := Lib.hid h1p
  have HS2p := Lib.hid h2p
  have HZp := Lib.hid hzp
  have HTp := Lib.hid htp
  have HS1q := Lib.hid h1q
  have HS2q := Lib.hid h2q
  have HZq := Lib.hid hzq
  have HTq := Lib.hid htq
  clear h1p h2p hzp htp h1q h2q hzq htq hb1 hb2 hb3
  obtain ⟨X, hX⟩ : ∃ X, pwR T P I Q t p = X := ⟨_, rfl⟩
  obtain ⟨Y, hY⟩ : ∃ Y, pwR T P I Q t q = Y := ⟨_, rfl⟩
  have HX := Lib.hid hX
  have HY := Lib.hid hY
  have HXL : Hid (X.length ≤ 50) := Lib.hid (by rw [← hX]; exact pwR_len _ _ _ _ _ _)
  have HYL : Hid (Y.length ≤ 50) := Lib.hid (by rw [← hY]; exact pwR_len _ _ _ _ _ _)
  rw [show chR T P I Q t p q = chN X Y (min X.length Y.length) by unfold chR; rw [hX, hY]]
  clear hX hY
  have k0 := C0.out.geo.c0
  have k1 := C0.out.geo.c1
  have k2 := C0.out.geo.c2
  have k3 := C0.out.geo.c3
  have y0 := C0.out.part.cell (j := 0) rfl
  have y1 := C0.out.part.cell (j := 1) rfl
  have y2 := C0.out.part.cell (j := 2) rfl
  have z0 := C0.out.qart.cell (j := 0) rfl
  have z1 := C0.out.qart.cell (j := 1) rfl
  have z2 := C0.out.qart.cell (j := 2) rfl
  go_enter Tryz.func15, Tryz.ntmps15
  go_wp2_with fail
  refine (specPW_any T P I Q t p a1p c1p a2p c2p _ (Cel.Rd.later C0.out.below _ _ HS1p.out) (Cel.Rd.later C0.out.below _ _ HS2p.out) HZp.out HTp.out).mono ?_
  rw [HX.out]
  rintro e w1 ⟨v1, rfl, ho, hb⟩
  have C1 := Lib.hid (C0.out.later hb)
  obtain ⟨ax, cx, rfl, _, _, hfx⟩ := ownE_form ho
  have SX1 := Lib.hid (srcE_of_own ho (by decide))
  have LX := Lib.hid hfx
  clear ho hb hfx k0 k1 k2 k3 y0 y1 y2 z0 z1 z2 C0
  have k0 := C1.out.geo.c0
  have k1 := C1.out.geo.c1
  have k2 := C1.out.geo.c2
  have k3 := C1.out.geo.c3
  have y0 := C1.out.part.cell (j := 0) rfl
  have y1 := C1.out.part.cell (j := 1) rfl
  have y2 := C1.out.part.cell (j := 2) rfl
  have z0 := C1.out.qart.cell (j := 0) rfl
  have z1 := C1.out.qart.cell (j := 1) rfl
  have z2 := C1.out.qart.cell (j := 2) rfl
  go_wp2_with fail
  refine (specPW_any T P I Q t q a1q c1q a2q c2q _ (Cel.Rd.later C1.out.below _ _ HS1q.out) (Cel.Rd.later C1.out.below _ _ HS2q.out) HZq.out HTq.out).mono ?_
  rw [HY.out]
  rintro e w2 ⟨v2, rfl, ho, hb⟩
  have C2 := Lib.hid (C1.out.later hb)
  have SX2 := Lib.hid (SX1.out.later hb)
  have BS := Lib.hid hb.size
  obtain ⟨ay, cy, rfl, _, _, hfy⟩ := ownE_form ho
  have SY2 := Lib.hid (srcE_of_own ho (by decide))
  have LY := Lib.hid hfy
  clear ho hb hfy k0 k1 k2 k3 y0 y1 y2 z0 z1 z2 C1 SX1
  obtain ⟨v0, hv0⟩ : ∃ v0, Value.slice (some ⟨w2.heap.size, 0, none⟩) 0 0 = v0 := ⟨_, rfl⟩
  have HV0 : Hid (v0.ownBlock = some w2.heap.size) := Lib.hid (by rw [← hv0]; rfl)
  have hba := below_bk w2 (.cells #[] 62)
  have C3 := Lib.hid (C2.out.later hba)
  have SX3 := Lib.hid (SX2.out.later hba)
  have SY3 := Lib.hid (SY2.out.later hba)
  have NX : Hid (∀ a, ax = some a → v0.ownBlock ≠ some a.block) := Lib.hid (fun a ha e9 => by
    obtain ⟨g, rfl, _, h8⟩ := LX.out a ha
    rw [HV0.out] at e9
    have h7 : w2.heap.size = g := Option.some.inj e9
    have := BS.out
    omega)
  have NY : Hid (∀ a, ay = some a → v0.ownBlock ≠ some a.block) := Lib.hid (fun a ha e9 => by
    obtain ⟨g, rfl, _, h8⟩ := LY.out a ha
    rw [HV0.out] at e9
    have h7 : w2.heap.size = g := Option.some.inj e9
    omega)
  obtain ⟨W3, hW3⟩ : ∃ y, y = w2.alloc (.cells #[] 62) := ⟨_, rfl⟩
  have R0 : Hid (RLoop (w.heap.size + 3) v0 W3 W3 v0 []) := Lib.hid (by
    rw [← hv0, hW3]
    exact RLoop.start (World.ownsRow_lit (base := w.heap.size + 3) (e := 62) (size := 2) w2 #[] 0 C2.out.low (by decide) rfl))
  rw [← hW3] at C3 SX3 SY3
  have HW3 := Lib.hid hW3
  have B3 : Hid (Below w.heap.size w W3) := C3.out.below |> Lib.hid
  clear hba hW3 C2 SX2 SY2
  have hxl := HXL.out
  have hyl := HYL.out
  go_wp2
  rw [← HW3.out]
  go_loopw [11, 12] (fun uv kv wr => ∃ (k : Nat), k ≤ min X.length Y.length ∧ kv = .int .i64 k ∧ Hid (RLoop (w.heap.size + 3) v0 W3 wr uv (chN X Y k))) (fun _ kv _ => X.length - (intOf kv).toNat)
  case atStart => exact ⟨0, Nat.zero_le _, rfl, R0⟩
  case round =>
    clear R0
    obtain ⟨k, hk, rfl, RL⟩ := hrel
    obtain ⟨u, hu⟩ : ∃ u, u = u11 := ⟨_, rfl⟩
    rw [← hu] at RL ⊢
    clear hu
    by_cases hlt : k < min X.length Y.length
    · obtain ⟨hx, hy⟩ := min_lt hlt
      have SX := Lib.hid (SX3.out.apart RL.out.apart NX.out)
      have SY := Lib.hid (SY3.out.apart RL.out.apart NY.out)
      obtain ⟨gx, ox, rfl, hgx, dx⟩ := SX.out.cell k hx
      have dx0 : wr.cell? ⟨gx, ox + k * 2, none⟩ = some (.int .i64 (X.getD k default).at_) := dx 0 _ rfl
      have dx1 : wr.cell? ⟨gx, ox + k * 2 + 1, none⟩ = some (.string (X.getD k default).word) := dx 1 _ rfl
      obtain ⟨gy, oy, rfl, hgy, dy⟩ := SY.out.cell k hy
      have dy0 : wr.cell? ⟨gy, oy + k * 2, none⟩ = some (.int .i64 (Y.getD k default).at_) := dy 0 _ rfl
      have dy1 : wr.cell? ⟨gy, oy + k * 2 + 1, none⟩ = some (.string (Y.getD k default).word) := dy 1 _ rfl
      have HSM := Lib.hid (chN_same (X := X) (Y := Y) (n := k))
      have HDF := Lib.hid (chN_diff (X := X) (Y := Y) (n := k))
      have HCL := Lib.hid (chN_len X Y k)
      obtain ⟨x, ex⟩ : ∃ x, X.getD k default = x := ⟨_, rfl⟩
      obtain ⟨y, ey⟩ : ∃ y, Y.getD k default = y := ⟨_, rfl⟩
      rw [ex] at dx0 dx1 HSM HDF
      rw [ey] at dy0 dy1 HSM HDF
      clear ex ey dx dy SX SY
      obtain ⟨L, eL⟩ : ∃ L, chN X Y k = L := ⟨_, rfl⟩
      rw [eL] at RL HSM HDF HCL
      clear eL
      obtain ⟨xa, xw⟩ := x
      obtain ⟨ya, yw⟩ := y
      by_cases e1 : xa = ya
      · subst e1
        by_cases e2 : xw = yw
        · subst e2
          have HN := Lib.hid (HSM.out rfl)
          go_wp2
          go_quiet (fail)
          have RQ := Lib.hid (RL.out.later (by have := C3.out.low; omega) (below_drewsN (Below.refl _ _) nq))
          have q0 : (wr.drewN nq).cell? ⟨gy, oy + k * 2, none⟩ = some (.int .i64 xa) := dy0
          have q1 : (wr.drewN nq).cell? ⟨gy, oy + k * 2 + 1, none⟩ = some (.string xw) := dy1
          clear dx0 dx1 dy0 dy1
          obtain ⟨W4, hW4⟩ : ∃ y, y = wr.drewN nq := ⟨_, rfl⟩
          rw [← hW4] at RQ q0 q1 ⊢
          clear hW4
          go_wp2
          go_roundw
          case rel => exact ⟨k + 1, by omega, by go_num, by rw [HN.out]; exact RQ⟩
          case measure => (simp [intOf]; try omega)
        · have HN := Lib.hid (HDF.out (fun e => e2 (WriteR.mk.inj e).2))
          have f2 := neq_wr2 xa e2
          go_wp2
          go_quiet (fail)
          have RQ := Lib.hid (RL.out.later (by have := C3.out.low; omega) (below_drewsN (Below.refl _ _) nq))
          have q0 : (wr.drewN nq).cell? ⟨gy, oy + k * 2, none⟩ = some (.int .i64 xa) := dy0
          have q1 : (wr.drewN nq).cell? ⟨gy, oy + k * 2 + 1, none⟩ = some (.string yw) := dy1
          clear dx0 dx1 dy0 dy1
          obtain ⟨W4, hW4⟩ : ∃ y, y = wr.drewN nq := ⟨_, rfl⟩
          rw [← hW4] at RQ q0 q1 ⊢
          clear hW4
          have hr := appW1 W4 29 (w.heap.size + 3) u L.length L RQ.out.row (by have := C3.out.low; have := RQ.out.apart.size; omega) ⟨xa, yw⟩ (by have := HCL.out; omega)
          go_wp2_with (at_builtin; refine wpList_appE rfl _ _ _ _ rfl _ _ rfl rfl hr ?_; clear hr; intro v' w6 h1 h2 h3)
          have HF := Lib.hid (RQ.out.step C3.out.low h1 h2 h3)
          rw [← HN.out] at HF
          clear h1 h2 h3 q0 q1
          go_wp2
          go_roundw
          case rel => exact ⟨k + 1, by omega, by go_num, HF⟩
          case measure => (simp [intOf]; try omega)
      · have HN := Lib.hid (HDF.out (fun e => e1 (WriteR.mk.inj e).1))
        have f1 : (xa == ya) = false := by simpa using e1
        go_wp2
        go_quiet (fail)
        have RQ := Lib.hid (RL.out.later (by have := C3.out.low; omega) (below_drewsN (Below.refl _ _) nq))
        have q0 : (wr.drewN nq).cell? ⟨gy, oy + k * 2, none⟩ = some (.int .i64 ya) := dy0
        have q1 : (wr.drewN nq).cell? ⟨gy, oy + k * 2 + 1, none⟩ = some (.string yw) := dy1
        clear dx0 dx1 dy0 dy1
        obtain ⟨W4, hW4⟩ : ∃ y, y = wr.drewN nq := ⟨_, rfl⟩
        rw [← hW4] at RQ q0 q1 ⊢
        clear hW4
        have hr := appW1 W4 29 (w.heap.size + 3) u L.length L RQ.out.row (by have := C3.out.low; have := RQ.out.apart.size; omega) ⟨ya, yw⟩ (by have := HCL.out; omega)
        go_wp2_with (at_builtin; refine wpList_appE rfl _ _ _ _ rfl _ _ rfl rfl hr ?_; clear hr; intro v' w6 h1 h2 h3)
        have HF := Lib.hid (RQ.out.step C3.out.low h1 h2 h3)
        rw [← HN.out] at HF
        clear h1 h2 h3 q0 q1
        go_wp2
        go_roundw
        case rel => exact ⟨k + 1, by omega, by go_num, HF⟩
        case measure => (simp [intOf]; try omega)
    · obtain rfl : k = min X.length Y.length := by omega
      have HB := Lib.hid (B3.out.trans (RL.out.below.mono (by omega)))
      have HO := Lib.hid (ownE_mono RL.out.row (B' := w.heap.size) (by omega))
      by_cases hxy : Y.length ≤ X.length
      · by_cases hxx : X.length ≤ Y.length
        · go_wp2
          go_ret
          exact ⟨_, rfl, HO.out, HB.out⟩
        · go_wp2
          go_ret
          exact ⟨_, rfl, HO.out, HB.out⟩
      · go_wp2
        go_ret
        exact ⟨_, rfl, HO.out, HB.out⟩
end Go.Proofs.YtmkchilhnmkhkabGreat
namespace Go.Proofs.YtmkchilhnmkhkabGreat
open Go.RowKit Go.Proofs.YtmkchilhnmkhkabGreat.Parts Go.Proofs.YtmkchilhnmkhkabGreat.Hexa Go.Proofs.YtmkchilhnmkhkabGreat.Byt

theorem chR_no1 {T P I Q t : Int} {p q : PartR} (h : ¬ (PartOkR T P I Q p ∧ TenR T t)) : chR T P I Q t p q = [] := by unfold chR; rw [pwR_no h]; simp [chN]
theorem chR_no2 {T P I Q t : Int} {p q : PartR} (h : ¬ (PartOkR T P I Q q ∧ TenR T t)) : chR T P I Q t p q = [] := by unfold chR; rw [pwR_no h]; simp [chN]
theorem implCh_any (T P I Q t : Int) (p : PartR) (a1p : Option Addr) (c1p : Nat) (a2p : Option Addr) (c2p : Nat) (q : PartR) (a1q : Option Addr) (c1q : Nat) (a2q : Option Addr) (c2q : Nat) (w : World) (h1p : (celRow cInt p.st).Rd w (.slice a1p p.st.length c1p)) (h2p : (celRow cIno p.ino).Rd w (.slice a2p p.ino.length c2p)) (hzp : szL (cPart.cels p) ≤ 1048576) (htp : TyL (celsE cIno p.ino)) (h1q : (celRow cInt q.st).Rd w (.slice a1q q.st.length c1q)) (h2q : (celRow cIno q.ino).Rd w (.slice a2q q.ino.length c2q)) (hzq : szL (cPart.cels q) ≤ 1048576) (htq : TyL (celsE cIno q.ino)) :
    Calls Tryz.prog 16 #[.agg #[.int .i64 T, .int .i64 P, .int .i64 I, .int .i64 Q], .int .i64 t, .agg #[.int .i64 p.ser, .slice a1p p.st.length c1p, .slice a2p p.ino.length c2p], .agg #[.int .i64 q.ser, .slice a1q q.st.length c1q, .slice a2q q.ino.length c2q]] w (GivesPW (chR T P I Q t p q) w) := by
  by_cases hp : PartOkR T P I Q p ∧ TenR T t
  · by_cases hq : PartOkR T P I Q q ∧ TenR T t
    · exact implCh_yes T P I Q t p a1p c1p a2p c2p q a1q c1q a2q c2q w h1p h2p hzp htp h1q h2q hzq htq hp hq
    · rw [chR_no2 hq]
      exact (implCh_no2 T P I Q t p a1p c1p a2p c2p q a1q c1q a2q c2q w h1p h2p hzp htp h1q h2q hzq htq hp hq).mono fun e w' ⟨he, hb⟩ => ⟨_, he, World.ownsRow_nil _ _ _ _, hb⟩
  · rw [chR_no1 hp]
    exact (implCh_no1 T P I Q t p a1p c1p a2p c2p q a1q c1q a2q c2q w h1p h2p hzp htp h1q h2q hzq htq hp).mono fun e w' ⟨he, hb⟩ => ⟨_, he, World.ownsRow_nil _ _ _ _, hb⟩
theorem specCh_obj (T P I Q t : Int) (p : PartR) (a1p : Option Addr) (c1p : Nat) (a2p : Option Addr) (c2p : Nat) (q : PartR) (a1q : Option Addr) (c1q : Nat) (a2q : Option Addr) (c2q : Nat) (w : World) (h1p : (celRow cInt p.st).Rd w (.slice a1p p.st.length c1p)) (h2p : (celRow cIno p.ino).Rd w (.slice a2p p.ino.length c2p)) (hzp : szL (cPart.cels p) ≤ 1048576) (htp : TyL (celsE cIno p.ino)) (h1q : (celRow cInt q.st).Rd w (.slice a1q q.st.length c1q)) (h2q : (celRow cIno q.ino).Rd w (.slice a2q q.ino.length c2q)) (hzq : szL (cPart.cels q) ≤ 1048576) (htq : TyL (celsE cIno q.ino)) {r : List WriteR} (hr : chR T P I Q t p q = r) :
    Calls Tryz.prog 15 #[.agg #[.int .i64 T, .int .i64 P, .int .i64 I, .int .i64 Q], .int .i64 t, .agg #[.int .i64 p.ser, .slice a1p p.st.length c1p, .slice a2p p.ino.length c2p], .agg #[.int .i64 q.ser, .slice a1q q.st.length c1q, .slice a2q q.ino.length c2q]] w fun e w' => ∃ v, e = .returned v ∧ Obj1 w' w.heap.size w'.heap.size (celRow cWrite r) v ∧ Below w.heap.size w w' := by
  subst hr
  exact (specCh_any T P I Q t p a1p c1p a2p c2p q a1q c1q a2q c2q w h1p h2p hzp htp h1q h2q hzq htq).mono fun e w' h => h.obj
theorem implCh_obj (T P I Q t : Int) (p : PartR) (a1p : Option Addr) (c1p : Nat) (a2p : Option Addr) (c2p : Nat) (q : PartR) (a1q : Option Addr) (c1q : Nat) (a2q : Option Addr) (c2q : Nat) (w : World) (h1p : (celRow cInt p.st).Rd w (.slice a1p p.st.length c1p)) (h2p : (celRow cIno p.ino).Rd w (.slice a2p p.ino.length c2p)) (hzp : szL (cPart.cels p) ≤ 1048576) (htp : TyL (celsE cIno p.ino)) (h1q : (celRow cInt q.st).Rd w (.slice a1q q.st.length c1q)) (h2q : (celRow cIno q.ino).Rd w (.slice a2q q.ino.length c2q)) (hzq : szL (cPart.cels q) ≤ 1048576) (htq : TyL (celsE cIno q.ino)) {r : List WriteR} (hr : chR T P I Q t p q = r) :
    Calls Tryz.prog 16 #[.agg #[.int .i64 T, .int .i64 P, .int .i64 I, .int .i64 Q], .int .i64 t, .agg #[.int .i64 p.ser, .slice a1p p.st.length c1p, .slice a2p p.ino.length c2p], .agg #[.int .i64 q.ser, .slice a1q q.st.length c1q, .slice a2q q.ino.length c2q]] w fun e w' => ∃ v, e = .returned v ∧ Obj1 w' w.heap.size w'.heap.size (celRow cWrite r) v ∧ Below w.heap.size w w' := by
  subst hr
  exact (implCh_any T P I Q t p a1p c1p a2p c2p q a1q c1q a2q c2q w h1p h2p hzp htp h1q h2q hzq htq).mono fun e w' h => h.obj
theorem part_marks5 (p : PartR) (h : szL (cPart.cels p) ≤ 1048576) : 1 + cntTop (cPart.cels p) ≤ 5000000 := by
  rw [cPart_top]
  rw [cPart_sz] at h
  have e1 : (celRow cInt p.st).cnt = cntL (celsE cInt p.st) := rfl
  have e2 : (celRow cIno p.ino).cnt = cntL (celsE cIno p.ino) := rfl
  have e3 := sz_row' cInt p.st
  have e4 := sz_row' cIno p.ino
  have e5 := cntNums p.st
  have e6 := cntInos p.ino
  omega
end Go.Proofs.YtmkchilhnmkhkabGreat
