/- Merged texts: AppE, AppIs, OkSpec, LnkImpl, LnkImplB, UsrImpl, RangeImpl, Made, NumImpl, NumImplB, RecImpl, PagesImpl, FileImpl. -/
import Derived.Test.YtmkchilhnmkhkabP15BD
import Derived.Maps.AppendAt
import Derived.Lib.AppendZeros
import Derived.Lib.SliceRun
import Derived.Deep.AppendLies
import Derived.Deep.RegionHeld3
import Derived.Test.YtmkchilhnmkhkabRows
import Derived.WalkKit
import Derived.WalkSpells
import Derived.RowKit3
import Derived.Lib.Hide
import Derived.Laws.MakeOwn
import Derived.Lib.AppendStr
import Derived.WalkLawsBesides
import Derived.Deep.RegionLaw
namespace Go.Proofs.Ytmkchilhnmkhkab
open Go.RowKit Go.Proofs.Ytmkchilhnmkhkab.Parts Go.Proofs.Ytmkchilhnmkhkab.Hexa

theorem SrcE.news {α : Type} [Inhabited α] {E : Enc α} {w : World} {p : Addr} {n : Nat} {L : List α} (h : SrcE E w (some p) n L) (hk0 : 0 < E.k) : ∀ j u, (cellsE E L)[j]? = some u → w.cell? (p.add j) = some u := by
  intro j u hu
  have hj : j < L.length * E.k := by
    rcases Nat.lt_or_ge j (L.length * E.k) with h | h
    · exact h
    · rw [List.getElem?_eq_none (by rw [cellsE_length]; exact h)] at hu; cases hu
  have hd : j = j / E.k * E.k + j % E.k := by rw [Nat.mul_comm]; exact (Nat.div_add_mod j E.k).symm
  have hq : j / E.k < L.length := (Nat.div_lt_iff_lt_mul hk0).2 hj
  have hr := Nat.mod_lt j hk0
  rw [hd, cellsE_at E L _ _ hq hr] at hu
  obtain ⟨g, off, e, _, c⟩ := h.cell (j / E.k) (by rw [← h.len]; exact hq)
  cases e
  have := c _ _ hu
  rw [Nat.add_assoc, ← hd] at this
  rw [Addr.add_lit]; exact this

/-- What an append gives: a slice that owns the cells, in the row that it had or in a new one. -/
def AppE (P : Program) (args : Array TypeId) (ty : TypeId) (vs : Array Value) (w : World) (B e k n : Nat) (xs : List Value) (v : Value) : Prop :=
  ∃ v' w', (Builtin.append_ args ty vs).run P w = .ok v' w' ∧ w'.ownsRow B e k v' n xs ∧ w.grownBy w' v.ownBlock ∧ (v'.ownBlock = v.ownBlock ∨ v'.ownBlock = some w.heap.size)

theorem run_append_nothing {P : Program} (w : World) (base : Nat) (t ty e : TypeId) (i : TypeInfo) (size : Nat) (ht : P.underlying t = some (.slice e)) (hi : P.info? e = some i)
    (v : Value) (n c : Nat) (xs : List Value) (hown : w.ownsRow base e size v n xs) :
    (Builtin.append_ #[t, t] ty #[v, .slice none 0 c]).run P w = .ok v w := by
  rcases hown.2 with ⟨rfl, rfl⟩ | ⟨g, cap, cur, rfl, _, _, hnc, _⟩
  · simp [Builtin.append_, run_underlying ht, sizeOf, typeInfo, hi, Builtin.lenOf, Builtin.firstCells]
  · simp [Builtin.append_, run_underlying ht, sizeOf, typeInfo, hi, Builtin.lenOf, Builtin.firstCells, hnc, storeCells]

theorem wpList_appE {P : Program} {ops : Array Oper} {rest : List Oper} {o : Oper} {a : Act} {w : World} {Q : Exit → Act → World → Prop} (hgd : o.guard = none) (s x : Operand) (t tn : TypeId)
    (ho : o.op = .call { callee := .builtin .append, args := #[s, x], argTypes := #[t, tn] }) (vs vx : Value) (hs : a.eval s = vs) (hx : a.eval x = vx) {B e k n : Nat} {xs : List Value}
    (hr : AppE P #[t, tn] o.type #[vs, vx] w B e k n xs vs) (h : ∀ v' w', w'.ownsRow B e k v' n xs → w.grownBy w' vs.ownBlock → (v'.ownBlock = vs.ownBlock ∨ v'.ownBlock = some w.heap.size) → wpList P ops Q rest (a.put o.dst v') w') : wpList P ops Q (o :: rest) a w := by
  obtain ⟨v', w', r, h1, h2, h3⟩ := hr
  exact Lib.wpList_append_run w hgd s x t tn ho vs vx hs hx v' w' r (h v' w' h1 h2 h3)
/-- At a step of a region that draws its order. -/
theorem step_appE {P : Program} {ops : Array Oper} {o : Oper} {a : Act} {w : World} {K : Act → World → Prop} {Q : Exit → Act → World → Prop} {E : Prop} (hgd : o.guard = none) (s x : Operand) (t tn : TypeId)
    (ho : o.op = .call { callee := .builtin .append, args := #[s, x], argTypes := #[t, tn] }) (vs vx : Value) (hs : a.eval s = vs) (hx : a.eval x = vx) {B e k n : Nat} {xs : List Value}
    (hr : AppE P #[t, tn] o.type #[vs, vx] w B e k n xs vs) (h : ∀ v' w', w'.ownsRow B e k v' n xs → w.grownBy w' vs.ownBlock → (v'.ownBlock = vs.ownBlock ∨ v'.ownBlock = some w.heap.size) → K (a.put o.dst v') w') :
    if Region.wanted o (yielded ops a.tmps) = true then Oper.wp P o a w K Q else E := by
  obtain ⟨v', w', r, h1, h2, h3⟩ := hr
  rw [if_pos (by simp [Region.wanted, hgd])]
  exact Lib.wp_append_run w s x t tn ho vs vx hs hx v' w' r (h v' w' h1 h2 h3)

end Go.Proofs.Ytmkchilhnmkhkab
namespace Go.Proofs.Ytmkchilhnmkhkab
open Go.RowKit Go.Proofs.Ytmkchilhnmkhkab.Parts Go.Proofs.Ytmkchilhnmkhkab.Hexa

def encI : Enc Int := ⟨1, fun x => [.int .i64 x], fun _ => rfl⟩
theorem cellsI_eq : ∀ L : List Int, cellsE encI L = icells L
  | [] => rfl
  | x :: r => by rw [cellsE, cellsI_eq r]; rfl
theorem srcE_of_srcI {w : World} {a : Option Addr} {n : Nat} {zs : List Int} (h : SrcI w a n zs) : SrcE encI w a n zs := by
  refine ⟨h.len, fun j hj => ?_⟩
  obtain ⟨g, off, e, hg, hc⟩ := h.cell j hj
  refine ⟨g, off, e, hg, fun r v hr => ?_⟩
  cases r with
  | zero =>
    cases hr
    rw [show off + j * encI.k + 0 = off + j from by show off + j * 1 + 0 = off + j; omega]
    exact hc
  | succ r => cases hr
theorem srcI_of_srcE {w : World} {a : Option Addr} {n : Nat} {zs : List Int} (h : SrcE encI w a n zs) : SrcI w a n zs := by
  refine ⟨h.len, fun j hj => ?_⟩
  obtain ⟨g, off, e, hg, hc⟩ := h.cell j hj
  have h9 := hc 0 _ rfl
  rw [show off + j * encI.k + 0 = off + j from by show off + j * 1 + 0 = off + j; omega] at h9
  exact ⟨g, off, e, hg, h9⟩
theorem srcI_of_own {w : World} {B e n cap : Nat} {a : Option Addr} {zs : List Int} (h : w.ownsRow B e 1 (.slice a n cap) n (icells zs)) : SrcI w a n zs :=
  srcI_of_srcE (srcE_of_own (E := encI) (by rw [cellsI_eq]; exact h) (by decide))
theorem srcI_take {w : World} {a : Option Addr} {n q : Nat} {zs : List Int} (h : SrcI w a n zs) (hq : q ≤ n) : SrcI w a q (zs.take q) :=
  ⟨by rw [List.length_take, h.len]; omega, fun j hj => by
    obtain ⟨g, off, e, hg, hc⟩ := h.cell j (by omega)
    refine ⟨g, off, e, hg, ?_⟩
    rw [hc]
    simp only [List.getD, List.getElem?_take]
    rw [if_pos hj]⟩
theorem emptyI (w : World) (B : Nat) (hB : B ≤ w.heap.size) : (w.alloc (.cells #[] 3)).ownsRow B 3 1 (.slice (some ⟨w.heap.size, 0, none⟩) 0 0) 0 (icells []) := World.ownsRow_lit w #[] 0 hB (by decide) rfl
theorem appIs (w : World) (ty : TypeId) (B : Nat) (v : Value) (n : Nat) (L : List Int) (hown : w.ownsRow B 3 1 v n (icells L)) (hB : B ≤ w.heap.size) (a : Option Addr) (m c : Nat) (M : List Int) (hs : SrcI w a m M) (hnm : n + m ≤ 100000000) :
    AppE Try.prog #[22, 22] ty #[v, .slice a m c] w B 3 1 (n + m) (icells (L ++ M)) v := by
  obtain ⟨i0, hi, hz0, hz1, hz2⟩ := info_parts infoInt
  rw [show icells (L ++ M) = icells L ++ icells M by simp [icells]]
  cases a with
  | none =>
    have hm0 : m = 0 := by
      rcases Nat.eq_zero_or_pos m with h | h
      · exact h
      · obtain ⟨g, off, e, _⟩ := hs.cell 0 h; cases e
    subst hm0
    have hM : M = [] := List.length_eq_zero_iff.1 hs.len
    subst hM
    exact ⟨v, w, run_append_nothing w B _ ty _ i0 1 Try.underlying22 hi v n c _ hown, by simpa [icells] using hown, ⟨rfl, rfl, rfl, Nat.le_refl _, fun _ _ _ => rfl⟩, .inl rfl⟩
  | some p =>
    obtain ⟨v', w', hr, h2, h3, _, h5⟩ := run_append_own_at (P := Try.prog) w B 22 ty 3 i0 _ 1 8 Try.underlying22 hi hz0 hz1 hz2 rfl (by decide) v n _ hown p m c (icells M) (by rw [icells_length, hs.len]; omega) (by rw [← cellsI_eq]; exact (srcE_of_srcI hs).news (by decide)) (by simp [icells, Value.oneCell']) (by unfold maxLen; omega) (by omega) hB
    exact ⟨v', w', hr, h2, h3, h5⟩
end Go.Proofs.Ytmkchilhnmkhkab
namespace Go.Proofs.Ytmkchilhnmkhkab
open Go.RowKit Go.Proofs.Ytmkchilhnmkhkab.Parts Go.Proofs.Ytmkchilhnmkhkab.Hexa Go.Proofs.Ytmkchilhnmkhkab.Byt

theorem ret_boolo {a b : Bool} (h : a = b) : Ending.returned (.bool a) = .returned (.bool b) := by rw [h]
theorem dec_eqo {q : Prop} [Decidable q] : decide q = decB q := by
  by_cases h : q
  · rw [decB_yes h, decide_eq_true h]
  · rw [decB_no h, decide_eq_false h]
theorem specGeo_dec (T P I Q : Int) (w : World) : Calls Try.prog 21 #[.agg #[.int .i64 T, .int .i64 P, .int .i64 I, .int .i64 Q]] w (SaysB (decB (GeoR T P I Q)) w) := by
  by_cases h : GeoR T P I Q
  · rw [decB_yes h]; exact specGeo_yes T P I Q w h
  · rw [decB_no h]; exact specGeo_no T P I Q w h
theorem place_zero {L : List InoR} {i : Nat} {kd : Int} (h0 : i = 0 → kd = 2) (h : i = 0 ∨ kd = 0) : PlaceR L i kd ↔ cntI (entsOf L) i = 0 := by
  unfold PlaceR
  by_cases hi : i = 0
  · have := h0 hi
    constructor
    · intro h9; exact (h9.1 hi).2
    · intro h9; exact ⟨fun _ => ⟨this, h9⟩, fun h8 => absurd hi h8⟩
  · have hk : kd = 0 := h.resolve_left hi
    constructor
    · intro h9; exact (h9.2 hi).1 hk
    · intro h9; exact ⟨fun h8 => absurd h8 hi, fun _ => ⟨fun _ => h9, fun h8 => absurd hk h8⟩⟩
theorem place_one {L : List InoR} {i : Nat} {kd : Int} (hi : ¬ i = 0) (hk : ¬ kd = 0) : PlaceR L i kd ↔ cntI (entsOf L) i = 1 ∧ ¬ depthZ L i < 0 := by
  unfold PlaceR
  rw [depth_neg]
  constructor
  · intro h9; exact (h9.2 hi).2 hk
  · intro h9; exact ⟨fun h8 => absurd h8 hi, fun _ => ⟨fun h8 => absurd h8 hk, fun _ => h9⟩⟩
theorem ents_all {L : List InoR} {I : Int} (hI : (L.length : Int) = I) (hok : InosR L) : EntsR L ↔ ∀ j, j < L.length → ∀ e ∈ (L.getD j default).E, e.f0 < I := by
  constructor
  · intro h j hj e he
    have h1 := ok_ents (hok j hj)
    rw [← hI]
    refine (h e ?_).2
    unfold entsOf
    rw [List.mem_flatMap]
    exact ⟨_, getD_mem hj, by rw [← h1.1]; exact he⟩
  · intro h e he
    obtain ⟨n, hn, hk, he⟩ := mem_ents he
    obtain ⟨j, hj, rfl⟩ := mem_getD hn
    have h1 := ok_ents (hok j hj)
    have h2 := h1.2 e he
    exact ⟨by omega, by rw [hI]; exact h j hj e he⟩
theorem recs_pos {L : List InoR} (hok : InosR L) : ∀ r ∈ recsOf L, 1 ≤ r.f0 := by
  intro r hr
  obtain ⟨n, hn, _, hr⟩ := mem_recs hr
  obtain ⟨j, hj, rfl⟩ := mem_getD hn
  exact (ok_recs (hok j hj)).2 r hr
theorem inosR_all {L : List InoR} (hok : InosR L) : ∀ n ∈ L, InoOk n := by
  intro n hn
  obtain ⟨j, hj, rfl⟩ := mem_getD hn
  exact hok j hj

set_option maxRecDepth 100000 in
set_option maxHeartbeats 8000000 in
theorem specPartOk_any (T P I Q : Int) (p : PartR) (a1 : Option Addr) (c1 : Nat) (a2 : Option Addr) (c2 : Nat) (w : World) (h1 : (celRow cInt p.st).Rd w (.slice a1 p.st.length c1)) (h2 : (celRow cIno p.ino).Rd w (.slice a2 p.ino.length c2)) (hz : szL (cPart.cels p) ≤ 1048576) (ht : TyL (celsE cIno p.ino)) :
    Calls Try.prog 10 #[.agg #[.int .i64 T, .int .i64 P, .int .i64 I, .int .i64 Q], .agg #[.int .i64 p.ser, .slice a1 p.st.length c1, .slice a2 p.ino.length c2]] w (SaysB (ptB T P I Q p) w) := by
  rw [show ptB T P I Q p = decB (PartOkR T P I Q p) from rfl]
  have hb1 := below_bk w (.cells #[.int .i64 T, .int .i64 P, .int .i64 I, .int .i64 Q] 37)
  have hb2 := below_bk (w.alloc (.cells #[.int .i64 T, .int .i64 P, .int .i64 I, .int .i64 Q] 37)) (.cells #[.int .i64 p.ser, .slice a1 p.st.length c1, .slice a2 p.ino.length c2] 30)
  have B0 := Lib.hid (hb1.trans (hb2.mono hb1.size))
  have G0 := Lib.hid ((Four.alloc w T P I Q 37).later hb2)
  have X0 : Hid (Bk ((w.alloc (.cells #[.int .i64 T, .int .i64 P, .int .i64 I, .int .i64 Q] 37)).alloc (.cells #[.int .i64 p.ser, .slice a1 p.st.length c1, .slice a2 p.ino.length c2] 30)) (w.heap.size + 1) #[.int .i64 p.ser, .slice a1 p.st.length c1, .slice a2 p.ino.length c2] 30) := Lib.hid (by
    have h := (Bk.alloc (w.alloc (.cells #[.int .i64 T, .int .i64 P, .int .i64 I, .int .i64 Q] 37)) #[.int .i64 p.ser, .slice a1 p.st.length c1, .slice a2 p.ino.length c2] 30)
    simpa using h)
  have HS1 := Lib.hid h1
  have HS2 := Lib.hid h2
  have HZ := Lib.hid hz
  have HZB : Hid (szL (cPart.cels p) ≤ 100000000) := Lib.hid (by omega)
  have HT := Lib.hid ht
  have hn : p.st.length ≤ 1048576 := by have h9 := hz; rw [cPart_sz, szInts_eq] at h9; omega
  have hn2 : p.ino.length ≤ 1048576 := (part_ino hz).1
  have HIN := Lib.hid (part_ino hz).2
  have HSM : Hid (∀ k, sumR (p.ino.take k) ≤ 1048576) := Lib.hid (fun k => by have h9 := sumR_le p.ino k; have h8 := hz; rw [cPart_sz] at h8; have := sz_row' cIno p.ino; omega)
  clear h1 h2 hz ht hb1 hb2
  obtain ⟨g1, e1⟩ : ∃ b, decB (GeoR T P I Q) = b := ⟨_, rfl⟩
  obtain ⟨g2, e2⟩ : ∃ b, decB (SerR p.ser) = b := ⟨_, rfl⟩
  obtain ⟨g3, e3⟩ : ∃ b, decB (StOk p.st P) = b := ⟨_, rfl⟩
  have E1 := Lib.hid e1
  have E2 : Hid (decide (0 ≤ p.ser ∧ p.ser ≤ 16777215) = g2) := Lib.hid (by rw [dec_eqo]; exact e2)
  have E2' := Lib.hid e2
  have E3 : Hid (stB p.st P = g3) := Lib.hid e3
  clear e1 e2 e3
  have k0 := G0.out.c0
  have k1 := G0.out.c1
  have k2 := G0.out.c2
  have k3 := G0.out.c3
  have y0 := X0.out.cell (j := 0) rfl
  have y1 := X0.out.cell (j := 1) rfl
  have y2 := X0.out.cell (j := 2) rfl
  go_enter Try.func10, Try.ntmps10
  go_wp2_with fail
  refine (specGeo_dec T P I Q _).mono ?_
  rw [E1.out]
  rintro e w1 ⟨rfl, hb⟩
  have G1 := Lib.hid (G0.out.later hb)
  have X1 := Lib.hid (X0.out.later hb)
  have B1 : Hid (Below w.heap.size w w1) := Lib.hid (B0.out.trans (hb.mono B0.out.size))
  clear k0 k1 k2 k3 y0 y1 y2
  clear hb
  have k0 := G1.out.c0
  have k1 := G1.out.c1
  have k2 := G1.out.c2
  have k3 := G1.out.c3
  have y0 := X1.out.cell (j := 0) rfl
  have y1 := X1.out.cell (j := 1) rfl
  have y2 := X1.out.cell (j := 2) rfl
  cases g1 with
  | false =>
    have HC := Lib.hid (decB_no (q := PartOkR T P I Q p) (fun h => by have h9 := decB_yes h.1; rw [E1.out] at h9; cases h9))
    go_wp2
    go_ret
    exact ⟨ret_boolo HC.out.symm, B1.out⟩
  | true =>
  have P1 := Lib.hid (decB_iff.1 E1.out)
  go_wp2_with fail
  refine (range_any p.ser 0 16777215 _).mono ?_
  rw [E2.out]
  rintro e w2 ⟨rfl, rfl⟩
  cases g2 with
  | false =>
    have HC := Lib.hid (decB_no (q := PartOkR T P I Q p) (fun h => by have h9 := decB_yes h.2.1; rw [E2'.out] at h9; cases h9))
    go_wp2
    go_ret
    exact ⟨ret_boolo HC.out.symm, B1.out⟩
  | true =>
  have P2 := Lib.hid (decB_iff.1 E2'.out)
  go_wp2_with fail
  refine (specStOk_any a1 p.st.length c1 p.st P _ (srcI_of_rd (Cel.Rd.later B1.out _ _ HS1.out)) (by omega)).mono ?_
  rw [E3.out]
  rintro e w3 ⟨rfl, rfl⟩
  cases g3 with
  | false =>
    have HC := Lib.hid (decB_no (q := PartOkR T P I Q p) (fun h => by have h9 := decB_yes h.2.2.1; rw [show decB (StOk p.st P) = false from E3.out] at h9; cases h9))
    go_wp2
    go_ret
    exact ⟨ret_boolo HC.out.symm, B1.out⟩
  | true =>
  have P3 : Hid (StOk p.st P) := Lib.hid (decB_iff.1 E3.out)
  by_cases h4 : (p.ino.length : Int) = I
  case neg =>
    have e4 : ((p.ino.length : Int) != I) = true := by simpa using h4
    have HC := Lib.hid (decB_no (q := PartOkR T P I Q p) (fun h => h4 h.2.2.2.1))
    go_wp2
    go_ret
    exact ⟨ret_boolo HC.out.symm, B1.out⟩
  have P4 := Lib.hid h4
  have e4 : ((p.ino.length : Int) != I) = false := by simpa using h4
  have hpos : 0 < p.ino.length := by
    obtain ⟨_, _, _, _, h8, _, _, _⟩ := P1.out
    omega
  obtain ⟨g, off, a4, c4, a5, c5, ha, hg, d0, d1, d2, d3, d4, d5, r4, r5⟩ := cIno_at (Cel.Rd.later B1.out _ _ HS2.out) 0 hpos
  clear d1 d2 d3 d4 d5 r4 r5 h4
  subst ha
  rw [Nat.zero_mul, Nat.add_zero] at d0
  by_cases h5 : (p.ino.getD 0 default).kd = 2
  case neg =>
    obtain ⟨kd, hkd⟩ : ∃ y, (p.ino.getD 0 default).kd = y := ⟨_, rfl⟩
    rw [hkd] at d0 h5
    have HK := Lib.hid hkd
    have e5 : (kd != 2) = true := by simpa using h5
    clear hkd
    have HC := Lib.hid (decB_no (q := PartOkR T P I Q p) (fun h => h5 (by rw [← HK.out]; exact ((h.2.2.2.2.2.1.2 0 hpos).1 rfl).1)))
    go_wp2
    go_ret
    exact ⟨ret_boolo HC.out.symm, B1.out⟩
  rw [h5] at d0
  have P5 := Lib.hid h5
  clear h5
  obtain ⟨m0, hm0⟩ : ∃ m, cntI (entsOf p.ino) ((0 : Nat) : Int) = m := ⟨_, rfl⟩
  have HM0 := Lib.hid hm0
  clear hm0
  go_wp2_with fail
  refine (specLinks_any p a1 c1 _ c2 0 _ (Cel.Rd.later B1.out _ _ HS2.out) HZB.out).mono ?_
  rw [show ((cntI (entsOf p.ino) 0 : Nat) : Int) = (m0 : Int) from by rw [← HM0.out]; rfl]
  rintro e w4 ⟨rfl, hb⟩
  have G2 := Lib.hid (G1.out.later hb)
  have X2 := Lib.hid (X1.out.later hb)
  have B2 : Hid (Below w.heap.size w w4) := Lib.hid (B1.out.trans (hb.mono B1.out.size))
  clear k0 k1 k2 k3 y0 y1 y2
  clear hb d0
  by_cases h6 : 0 < m0
  · have h6' : (0 : Int) < m0 := by omega
    have HC := Lib.hid (decB_no (q := PartOkR T P I Q p) (fun h => by have h9 := ((h.2.2.2.2.2.1.2 0 hpos).1 rfl).2; rw [HM0.out] at h9; omega))
    go_wp2
    go_ret
    exact ⟨ret_boolo HC.out.symm, B2.out⟩
  have h6' : ¬ ((0 : Int) < m0) := by omega
  go_wp2
  clear h6 h6' hpos e4
  go_loopw [5, 6] (fun rv kv wr => ∃ (k rc : Nat), k ≤ p.ino.length ∧ kv = .int .i64 k ∧ rv = .int .i64 rc ∧ rc ≤ 1048576 ∧ Hid (rc = sumR (p.ino.take k)) ∧ Hid (∀ j, j < k → InoOk (p.ino.getD j default) ∧ PlaceR p.ino j (p.ino.getD j default).kd ∧ ∀ e ∈ (p.ino.getD j default).E, e.f0 < I) ∧ Below w.heap.size w wr ∧ Hid (Four wr w.heap.size T P I Q 37) ∧ Hid (Bk wr (w.heap.size + 1) #[.int .i64 p.ser, .slice a1 p.st.length c1, .slice (some ⟨g, off, none⟩) p.ino.length c2] 30)) (fun _ kv _ => p.ino.length - (intOf kv).toNat)
  case atStart => exact ⟨0, 0, Nat.zero_le _, rfl, rfl, by omega, Lib.hid rfl, Lib.hid (fun j hj => by omega), B2.out, G2, X2⟩
  case round =>
    clear B1 G1 X1 G2 X2 B2 B0 G0 X0
    obtain ⟨k, rc, hk, rfl, rfl, hrc, HRC, HM, hbel, GW, XW⟩ := hrel
    by_cases hlt : k < p.ino.length
    · have HF := Lib.hid (ino_fits (HIN.out k hlt) (TyL_at cIno p.ino k HT.out hlt))
      have HSN := Lib.hid (sumR_next hlt)
      have hsm := HSM.out (k + 1)
      have HI9 : Hid (¬ InoOk (p.ino.getD k default) → ¬ PartOkR T P I Q p) := Lib.hid (fun h h9 => h (h9.2.2.2.2.1 k hlt))
      have HP9 : Hid (¬ PlaceR p.ino k (p.ino.getD k default).kd → ¬ PartOkR T P I Q p) := Lib.hid (fun h h9 => h (h9.2.2.2.2.2.1.2 k hlt))
      have HE9 : Hid ((∃ e ∈ (p.ino.getD k default).E, ¬ e.f0 < I) → ¬ PartOkR T P I Q p) := Lib.hid (fun ⟨e, he, hn⟩ h9 => hn ((ents_all P4.out h9.2.2.2.2.1).1 h9.2.2.2.2.2.1.1 k hlt e he))
      have HG9 : Hid (InoOk (p.ino.getD k default) → PlaceR p.ino k (p.ino.getD k default).kd → (∀ e ∈ (p.ino.getD k default).E, e.f0 < I) → ∀ j, j < k + 1 → InoOk (p.ino.getD j default) ∧ PlaceR p.ino j (p.ino.getD j default).kd ∧ ∀ e ∈ (p.ino.getD j default).E, e.f0 < I) := Lib.hid (fun h1 h2 h3 j hj => by
        by_cases e : j = k
        · rw [e]; exact ⟨h1, h2, h3⟩
        · exact HM.out j (by omega))
      have HK0 : Hid (k = 0 → (p.ino.getD k default).kd = 2) := Lib.hid (fun h => by rw [h]; exact P5.out)
      obtain ⟨g', off', a4, c4, a5, c5, ha, hg', d0, d1, d2, d3, d4, d5, r4, r5⟩ := cIno_at (Cel.Rd.later hbel _ _ HS2.out) k hlt
      cases ha
      obtain ⟨x, hx⟩ : ∃ x, p.ino.getD k default = x := ⟨_, rfl⟩
      rw [hx] at d0 d1 d2 d3 d4 d5 r4 r5 HF HSN HI9 HP9 HE9 HG9 HK0
      clear hx
      obtain ⟨kd, hkd⟩ : ∃ y, x.kd = y := ⟨_, rfl⟩
      rw [hkd] at d0 HP9 HG9 HK0
      have HKD := Lib.hid hkd
      clear hkd
      have hbx := below_bk wr (.cells #[.int .i64 kd, .int .i64 x.sz, .int .i64 x.gn, .string x.key, .slice a4 x.R.length c4, .slice a5 x.E.length c5] 54)
      have N2 := Lib.hid (Bk.alloc wr #[.int .i64 kd, .int .i64 x.sz, .int .i64 x.gn, .string x.key, .slice a4 x.R.length c4, .slice a5 x.E.length c5] 54)
      have G3 := Lib.hid (GW.out.later hbx)
      have X3 := Lib.hid (XW.out.later hbx)
      have B3 : Hid (Below w.heap.size w (wr.alloc (.cells #[.int .i64 kd, .int .i64 x.sz, .int .i64 x.gn, .string x.key, .slice a4 x.R.length c4, .slice a5 x.E.length c5] 54))) := Lib.hid (hbel.trans (hbx.mono hbel.size))
      have R4 := Lib.hid (Cel.Rd.later hbx _ _ r4)
      have R5 := Lib.hid (Cel.Rd.later hbx _ _ r5)
      have y2 := XW.out.cell (j := 2) rfl
      clear hbx r4 r5
      have n0 := N2.out.cell (j := 0) rfl
      have n1 := N2.out.cell (j := 1) rfl
      have n2 := N2.out.cell (j := 2) rfl
      have n3 := N2.out.cell (j := 3) rfl
      have n4 := N2.out.cell (j := 4) rfl
      have n5 := N2.out.cell (j := 5) rfl
      go_wp2_with fail
      refine (specIno_any kd x.sz x.gn x.key a4 x.R.length c4 a5 x.E.length c5 _ x.R x.E HF.out.1 (srcRec_of_rd R4.out) HF.out.2.2.2.1 (srcEntry_of_rd R5.out) HF.out.2.2.2.2).mono ?_
      rw [show (⟨kd, x.sz, x.gn, x.key, x.R, x.E⟩ : InoR) = x from by rw [← HKD.out]]
      rintro e w5 ⟨rfl, hb⟩
      have G5 := Lib.hid (G3.out.later hb)
      have X5 := Lib.hid (X3.out.later hb)
      have B5 : Hid (Below w.heap.size w w5) := Lib.hid (B3.out.trans (hb.mono B3.out.size))
      have N5 := Lib.hid (N2.out.later hb)
      have S5 := Lib.hid (Cel.Rd.later hb _ _ R5.out)
      clear hb d0 d1 d2 d3 d4 d5 n0 n1 n2 n3 n4 n5 y2 G3 X3 B3 N2 R4 R5
      by_cases hok : InoOk x
      case neg =>
        rw [inoB_no hok]
        have HC := Lib.hid (decB_no (q := PartOkR T P I Q p) (HI9.out hok))
        go_wp2
        go_ret
        exact ⟨ret_boolo HC.out.symm, B5.out⟩
      rw [inoB_yes hok]
      have HOK := Lib.hid hok
      clear hok
      have hE9 := HF.out.2.2.1
      have hR9 := HF.out.2.1
      have n0 := N5.out.cell (j := 0) rfl
      have y0 := X5.out.cell (j := 0) rfl
      have y1 := X5.out.cell (j := 1) rfl
      have y2 := X5.out.cell (j := 2) rfl
      obtain ⟨m, hm⟩ : ∃ m, cntI (entsOf p.ino) k = m := ⟨_, rfl⟩
      have HMM := Lib.hid hm
      clear hm
      by_cases hk0 : k = 0
      · subst hk0
        go_wp2_with fail
        refine (specLinks_any p a1 c1 _ c2 0 _ (Cel.Rd.later B5.out _ _ HS2.out) HZB.out).mono ?_
        rw [show cntI (entsOf p.ino) 0 = m from HMM.out]
        rintro e w6 ⟨rfl, hb⟩
        have G6 := Lib.hid (G5.out.later hb)
        have X6 := Lib.hid (X5.out.later hb)
        have B6 : Hid (Below w.heap.size w w6) := Lib.hid (B5.out.trans (hb.mono B5.out.size))
        have N6 := Lib.hid (N5.out.later hb)
        have S6 := Lib.hid (Cel.Rd.later hb _ _ S5.out)
        clear hb n0 y0 y1 y2
        by_cases hm : m = 0
        case neg =>
          have hm' : ((m : Int) != 0) = true := by simp; omega
          have HC := Lib.hid (decB_no (q := PartOkR T P I Q p) (HP9.out (fun h => hm (by rw [← HMM.out]; exact (place_zero (fun h => HK0.out (by first | exact h | trivial)) (.inl rfl)).1 h))))
          go_wp2
          go_ret
          exact ⟨ret_boolo HC.out.symm, B6.out⟩
        have HPL : Hid (PlaceR p.ino 0 kd) := Lib.hid ((place_zero (fun h => HK0.out (by first | exact h | trivial)) (.inl rfl)).2 (HMM.out.trans hm))
        subst hm
        go_wp2
        go_loopw [9] (fun jv wq => ∃ (j : Nat), j ≤ x.E.length ∧ jv = .int .i64 j ∧ Hid (∀ t, t < j → (x.E.getD t default).f0 < I) ∧ Below w.heap.size w wq ∧ Hid (Four wq w.heap.size T P I Q 37) ∧ Hid (Bk wq (w.heap.size + 1) #[.int .i64 p.ser, .slice a1 p.st.length c1, .slice (some ⟨g, off, none⟩) p.ino.length c2] 30) ∧ Hid (Bk wq wr.heap.size #[.int .i64 kd, .int .i64 x.sz, .int .i64 x.gn, .string x.key, .slice a4 x.R.length c4, .slice a5 x.E.length c5] 54) ∧ Hid ((celRow cEntry x.E).Rd wq (.slice a5 x.E.length c5))) (fun jv _ => x.E.length - (intOf jv).toNat)
        case atStart => exact ⟨0, Nat.zero_le _, rfl, Lib.hid (fun t ht => by omega), B6.out, G6, X6, N6, S6⟩
        case round =>
          obtain ⟨j, hj, rfl, HJ, hbq, GQ, XQ, NQ, SQ⟩ := hrel
          have n5 := NQ.out.cell (j := 5) rfl
          have n4 := NQ.out.cell (j := 4) rfl
          by_cases hjt : j < x.E.length
          · obtain ⟨ge, oe, ha5, hge, q0, q1⟩ := cEntry_at SQ.out j hjt
            subst ha5
            have HY := Lib.hid (getD_mem hjt)
            have HJ2 : Hid ((x.E.getD j default).f0 < I → ∀ t, t < j + 1 → (x.E.getD t default).f0 < I) := Lib.hid (fun h t ht => by
              by_cases e : t = j
              · rw [e]; exact h
              · exact HJ.out t (by omega))
            obtain ⟨ev, hev⟩ : ∃ e, x.E.getD j default = e := ⟨_, rfl⟩
            rw [hev] at q0 HY HJ2
            clear q1 hev
            have k2 := GQ.out.c2
            by_cases hq : ev.f0 < I
            · have HC := Lib.hid (HJ2.out hq)
              have hq' : ¬ (I ≤ ev.f0) := by omega
              go_wp2
              go_quiet (fail)
              go_wp2
              go_roundw
              case rel => exact ⟨j + 1, by omega, by go_num, HC, below_drewsN hbq _, GQ, XQ, NQ, Lib.hid (Cel.Rd.later (below_drewsN (Below.refl _ _) _) _ _ SQ.out)⟩
              case measure => (simp [intOf]; try omega)
            · have HC := Lib.hid (decB_no (q := PartOkR T P I Q p) (HE9.out ⟨ev, HY.out, by omega⟩))
              have hq' : I ≤ ev.f0 := by omega
              go_wp2
              go_quiet (fail)
              go_wp2
              go_ret
              exact ⟨ret_boolo HC.out.symm, below_drewsN hbq _⟩
          · obtain rfl : j = x.E.length := by omega
            have HC := Lib.hid (HG9.out HOK.out HPL.out (fun e he => by
              obtain ⟨t, ht, rfl⟩ := mem_getD he
              exact HJ.out t ht))
            have HS9 : Hid (rc + x.R.length = sumR (p.ino.take (0 + 1))) := Lib.hid (by rw [HSN.out, ← HRC.out])
            have hs9 : rc + x.R.length ≤ 1048576 := by have := HS9.out; omega
            go_wp2
            go_roundw
            case rel => exact ⟨0 + 1, rc + x.R.length, by omega, by go_num, by go_num, hs9, HS9, HC, hbq, GQ, XQ⟩
            case measure => (simp [intOf]; try omega)
      by_cases hkd : kd = 0
      · subst hkd
        go_wp2_with fail
        refine (specLinks_any p a1 c1 _ c2 k _ (Cel.Rd.later B5.out _ _ HS2.out) HZB.out).mono ?_
        rw [show cntI (entsOf p.ino) (k : Int) = m from HMM.out]
        rintro e w6 ⟨rfl, hb⟩
        have G6 := Lib.hid (G5.out.later hb)
        have X6 := Lib.hid (X5.out.later hb)
        have B6 : Hid (Below w.heap.size w w6) := Lib.hid (B5.out.trans (hb.mono B5.out.size))
        have N6 := Lib.hid (N5.out.later hb)
        have S6 := Lib.hid (Cel.Rd.later hb _ _ S5.out)
        clear hb n0 y0 y1 y2
        by_cases hm : m = 0
        case neg =>
          have hm' : ((m : Int) != 0) = true := by simp; omega
          have HC := Lib.hid (decB_no (q := PartOkR T P I Q p) (HP9.out (fun h => hm (by rw [← HMM.out]; exact (place_zero (fun h => HK0.out (by first | exact h | trivial)) (.inr rfl)).1 h))))
          go_wp2
          go_ret
          exact ⟨ret_boolo HC.out.symm, B6.out⟩
        have HPL : Hid (PlaceR p.ino k 0) := Lib.hid ((place_zero (fun h => HK0.out (by first | exact h | trivial)) (.inr rfl)).2 (HMM.out.trans hm))
        subst hm
        go_wp2
        go_loopw [9] (fun jv wq => ∃ (j : Nat), j ≤ x.E.length ∧ jv = .int .i64 j ∧ Hid (∀ t, t < j → (x.E.getD t default).f0 < I) ∧ Below w.heap.size w wq ∧ Hid (Four wq w.heap.size T P I Q 37) ∧ Hid (Bk wq (w.heap.size + 1) #[.int .i64 p.ser, .slice a1 p.st.length c1, .slice (some ⟨g, off, none⟩) p.ino.length c2] 30) ∧ Hid (Bk wq wr.heap.size #[.int .i64 0, .int .i64 x.sz, .int .i64 x.gn, .string x.key, .slice a4 x.R.length c4, .slice a5 x.E.length c5] 54) ∧ Hid ((celRow cEntry x.E).Rd wq (.slice a5 x.E.length c5))) (fun jv _ => x.E.length - (intOf jv).toNat)
        case atStart => exact ⟨0, Nat.zero_le _, rfl, Lib.hid (fun t ht => by omega), B6.out, G6, X6, N6, S6⟩
        case round =>
          obtain ⟨j, hj, rfl, HJ, hbq, GQ, XQ, NQ, SQ⟩ := hrel
          have n5 := NQ.out.cell (j := 5) rfl
          have n4 := NQ.out.cell (j := 4) rfl
          by_cases hjt : j < x.E.length
          · obtain ⟨ge, oe, ha5, hge, q0, q1⟩ := cEntry_at SQ.out j hjt
            subst ha5
            have HY := Lib.hid (getD_mem hjt)
            have HJ2 : Hid ((x.E.getD j default).f0 < I → ∀ t, t < j + 1 → (x.E.getD t default).f0 < I) := Lib.hid (fun h t ht => by
              by_cases e : t = j
              · rw [e]; exact h
              · exact HJ.out t (by omega))
            obtain ⟨ev, hev⟩ : ∃ e, x.E.getD j default = e := ⟨_, rfl⟩
            rw [hev] at q0 HY HJ2
            clear q1 hev
            have k2 := GQ.out.c2
            by_cases hq : ev.f0 < I
            · have HC := Lib.hid (HJ2.out hq)
              have hq' : ¬ (I ≤ ev.f0) := by omega
              go_wp2
              go_quiet (fail)
              go_wp2
              go_roundw
              case rel => exact ⟨j + 1, by omega, by go_num, HC, below_drewsN hbq _, GQ, XQ, NQ, Lib.hid (Cel.Rd.later (below_drewsN (Below.refl _ _) _) _ _ SQ.out)⟩
              case measure => (simp [intOf]; try omega)
            · have HC := Lib.hid (decB_no (q := PartOkR T P I Q p) (HE9.out ⟨ev, HY.out, by omega⟩))
              have hq' : I ≤ ev.f0 := by omega
              go_wp2
              go_quiet (fail)
              go_wp2
              go_ret
              exact ⟨ret_boolo HC.out.symm, below_drewsN hbq _⟩
          · obtain rfl : j = x.E.length := by omega
            have HC := Lib.hid (HG9.out HOK.out HPL.out (fun e he => by
              obtain ⟨t, ht, rfl⟩ := mem_getD he
              exact HJ.out t ht))
            have HS9 : Hid (rc + x.R.length = sumR (p.ino.take (k + 1))) := Lib.hid (by rw [HSN.out, ← HRC.out])
            have hs9 : rc + x.R.length ≤ 1048576 := by have := HS9.out; omega
            go_wp2
            go_roundw
            case rel => exact ⟨k + 1, rc + x.R.length, by omega, by go_num, by go_num, hs9, HS9, HC, hbq, GQ, XQ⟩
            case measure => (simp [intOf]; try omega)
      have hk0' : ((k : Int) == 0) = false := by simp; omega
      have hkd' : (kd == 0) = false := by simpa using hkd
      go_wp2_with fail
      refine (specLinks_any p a1 c1 _ c2 k _ (Cel.Rd.later B5.out _ _ HS2.out) HZB.out).mono ?_
      rw [show cntI (entsOf p.ino) (k : Int) = m from HMM.out]
      rintro e w6 ⟨rfl, hb⟩
      have G6 := Lib.hid (G5.out.later hb)
      have X6 := Lib.hid (X5.out.later hb)
      have B6 : Hid (Below w.heap.size w w6) := Lib.hid (B5.out.trans (hb.mono B5.out.size))
      have N6 := Lib.hid (N5.out.later hb)
      have S6 := Lib.hid (Cel.Rd.later hb _ _ S5.out)
      clear hb n0 y0 y1 y2
      by_cases hm : m = 1
      case neg =>
        have hm' : ((m : Int) != 1) = true := by simp; omega
        have HC := Lib.hid (decB_no (q := PartOkR T P I Q p) (HP9.out (fun h => hm (by rw [← HMM.out]; exact ((place_one hk0 hkd).1 h).1))))
        go_wp2
        go_ret
        exact ⟨ret_boolo HC.out.symm, B6.out⟩
      subst hm
      obtain ⟨d, hd⟩ : ∃ d, depthZ p.ino k = d := ⟨_, rfl⟩
      have HD := Lib.hid hd
      clear hd
      have y0 := X6.out.cell (j := 0) rfl
      have y1 := X6.out.cell (j := 1) rfl
      have y2 := X6.out.cell (j := 2) rfl
      go_wp2_with fail
      refine (specDepth_any p a1 c1 _ c2 k _ (Cel.Rd.later B6.out _ _ HS2.out) HZB.out).mono ?_
      rw [HD.out]
      rintro e w7 ⟨rfl, hb⟩
      have G7 := Lib.hid (G6.out.later hb)
      have X7 := Lib.hid (X6.out.later hb)
      have B7 : Hid (Below w.heap.size w w7) := Lib.hid (B6.out.trans (hb.mono B6.out.size))
      have N7 := Lib.hid (N6.out.later hb)
      have S7 := Lib.hid (Cel.Rd.later hb _ _ S6.out)
      clear hb y0 y1 y2
      by_cases hdn : d < 0
      case pos =>
        have HC := Lib.hid (decB_no (q := PartOkR T P I Q p) (HP9.out (fun h => ((place_one hk0 hkd).1 h).2 (by rw [HD.out]; exact hdn))))
        go_wp2
        go_ret
        exact ⟨ret_boolo HC.out.symm, B7.out⟩
      have HPL : Hid (PlaceR p.ino k kd) := Lib.hid ((place_one hk0 hkd).2 ⟨HMM.out, by rw [HD.out]; exact hdn⟩)
      go_wp2
      go_loopw [9] (fun jv wq => ∃ (j : Nat), j ≤ x.E.length ∧ jv = .int .i64 j ∧ Hid (∀ t, t < j → (x.E.getD t default).f0 < I) ∧ Below w.heap.size w wq ∧ Hid (Four wq w.heap.size T P I Q 37) ∧ Hid (Bk wq (w.heap.size + 1) #[.int .i64 p.ser, .slice a1 p.st.length c1, .slice (some ⟨g, off, none⟩) p.ino.length c2] 30) ∧ Hid (Bk wq wr.heap.size #[.int .i64 kd, .int .i64 x.sz, .int .i64 x.gn, .string x.key, .slice a4 x.R.length c4, .slice a5 x.E.length c5] 54) ∧ Hid ((celRow cEntry x.E).Rd wq (.slice a5 x.E.length c5))) (fun jv _ => x.E.length - (intOf jv).toNat)
      case atStart => exact ⟨0, Nat.zero_le _, rfl, Lib.hid (fun t ht => by omega), B7.out, G7, X7, N7, S7⟩
      case round =>
        obtain ⟨j, hj, rfl, HJ, hbq, GQ, XQ, NQ, SQ⟩ := hrel
        have n5 := NQ.out.cell (j := 5) rfl
        have n4 := NQ.out.cell (j := 4) rfl
        by_cases hjt : j < x.E.length
        · obtain ⟨ge, oe, ha5, hge, q0, q1⟩ := cEntry_at SQ.out j hjt
          subst ha5
          have HY := Lib.hid (getD_mem hjt)
          have HJ2 : Hid ((x.E.getD j default).f0 < I → ∀ t, t < j + 1 → (x.E.getD t default).f0 < I) := Lib.hid (fun h t ht => by
            by_cases e : t = j
            · rw [e]; exact h
            · exact HJ.out t (by omega))
          obtain ⟨ev, hev⟩ : ∃ e, x.E.getD j default = e := ⟨_, rfl⟩
          rw [hev] at q0 HY HJ2
          clear q1 hev
          have k2 := GQ.out.c2
          by_cases hq : ev.f0 < I
          · have HC := Lib.hid (HJ2.out hq)
            have hq' : ¬ (I ≤ ev.f0) := by omega
            go_wp2
            go_quiet (fail)
            go_wp2
            go_roundw
            case rel => exact ⟨j + 1, by omega, by go_num, HC, below_drewsN hbq _, GQ, XQ, NQ, Lib.hid (Cel.Rd.later (below_drewsN (Below.refl _ _) _) _ _ SQ.out)⟩
            case measure => (simp [intOf]; try omega)
          · have HC := Lib.hid (decB_no (q := PartOkR T P I Q p) (HE9.out ⟨ev, HY.out, by omega⟩))
            have hq' : I ≤ ev.f0 := by omega
            go_wp2
            go_quiet (fail)
            go_wp2
            go_ret
            exact ⟨ret_boolo HC.out.symm, below_drewsN hbq _⟩
        · obtain rfl : j = x.E.length := by omega
          have HC := Lib.hid (HG9.out HOK.out HPL.out (fun e he => by
            obtain ⟨t, ht, rfl⟩ := mem_getD he
            exact HJ.out t ht))
          have HS9 : Hid (rc + x.R.length = sumR (p.ino.take (k + 1))) := Lib.hid (by rw [HSN.out, ← HRC.out])
          have hs9 : rc + x.R.length ≤ 1048576 := by have := HS9.out; omega
          go_wp2
          go_roundw
          case rel => exact ⟨k + 1, rc + x.R.length, by omega, by go_num, by go_num, hs9, HS9, HC, hbq, GQ, XQ⟩
          case measure => (simp [intOf]; try omega)
    · obtain rfl : k = p.ino.length := by omega
      have h9 := HM.out
      have h8 := HRC.out
      rw [List.take_length] at h8
      have HIN9 : Hid (InosR p.ino) := Lib.hid (fun j hj => (h9 j hj).1)
      have HLN9 : Hid (LinksR p.ino) := Lib.hid ⟨(ents_all P4.out HIN9.out).2 (fun j hj => (h9 j hj).2.2), fun j hj => (h9 j hj).2.1⟩
      have HRS : Hid (rc = (recsOf p.ino).length) := Lib.hid (by rw [h8]; exact sumR_eq p.ino (inosR_all HIN9.out))
      clear h9 h8 HM HRC
      have y1 := XW.out.cell (j := 1) rfl
      have y2 := XW.out.cell (j := 2) rfl
      obtain ⟨U, hU⟩ : ∃ U, withSt p.st 2 p.st.length = U := ⟨_, rfl⟩
      have HU := Lib.hid hU
      have hUl : U.length ≤ 1048576 := by rw [← hU]; have := withSt_len p.st 2 p.st.length; omega
      clear hU
      go_wp2_with fail
      refine (specPagesWith_any a1 p.st.length c1 p.st 2 _ (srcI_of_rd (Cel.Rd.later hbel _ _ HS1.out)) (by omega)).mono ?_
      rw [HU.out]
      rintro e w8 ⟨v, rfl, ho, hb⟩
      have G8 := Lib.hid (GW.out.later hb)
      have X8 := Lib.hid (XW.out.later hb)
      have B8 : Hid (Below w.heap.size w w8) := Lib.hid (hbel.trans (hb.mono hbel.size))
      obtain ⟨a, c, rfl, _⟩ := ownE_form ho
      have HR := Lib.hid (srcI_of_own ho)
      clear hb y1 y2 ho
      go_wp2
      go_loopw [11] (fun jv wq => ∃ (j : Nat), j ≤ U.length ∧ jv = .int .i64 j ∧ Hid (∀ t, t < j → cntP (recsOf p.ino) (U.getD t 0) = 1) ∧ Below w.heap.size w wq ∧ Hid (Four wq w.heap.size T P I Q 37) ∧ Hid (Bk wq (w.heap.size + 1) #[.int .i64 p.ser, .slice a1 p.st.length c1, .slice (some ⟨g, off, none⟩) p.ino.length c2] 30) ∧ Hid (SrcI wq a U.length U)) (fun jv _ => U.length - (intOf jv).toNat)
      case atStart => exact ⟨0, Nat.zero_le _, rfl, Lib.hid (fun t ht => by omega), B8.out, G8, X8, HR⟩
      case round =>
        clear G8 X8 B8 HR
        obtain ⟨j, hj, rfl, HJ, hbq, GQ, XQ, HR⟩ := hrel
        by_cases hjt : j < U.length
        · have HUM : Hid (U.getD j 0 ∈ withSt p.st 2 p.st.length) := Lib.hid (by rw [HU.out]; exact getD_mem hjt)
          have HJ2 : Hid (cntP (recsOf p.ino) (U.getD j 0) = 1 → ∀ t, t < j + 1 → cntP (recsOf p.ino) (U.getD t 0) = 1) := Lib.hid (fun h t ht => by
            by_cases e : t = j
            · rw [e]; exact h
            · exact HJ.out t (by omega))
          obtain ⟨gu, ou, ha9, hgu, q0⟩ := HR.out.cell j hjt
          subst ha9
          obtain ⟨pg, hpg⟩ : ∃ y, U.getD j 0 = y := ⟨_, rfl⟩
          rw [hpg] at q0 HUM HJ2
          clear hpg
          have HPG : Hid (0 ≤ pg ∧ pg ≤ 1000000) := Lib.hid (by
            obtain ⟨t, ht, _, e⟩ := withSt_mem.1 HUM.out
            have := P3.out
            obtain ⟨_, h1, _, h2⟩ := this
            omega)
          have HN9 : Hid (¬ cntP (recsOf p.ino) pg = 1 → ¬ PartOkR T P I Q p) := Lib.hid (fun h h9 => h (users_one h9.2.2.2.2.2.2.1 HUM.out))
          obtain ⟨m, hm⟩ : ∃ m, cntP (recsOf p.ino) pg = m := ⟨_, rfl⟩
          have HMM := Lib.hid hm
          rw [hm] at HJ2 HN9
          clear hm
          go_wp2
          have XD := Lib.hid XQ.out.drew
          have GD := Lib.hid GQ.out.drew
          have BD := Lib.hid hbq.drew
          have QD : Hid (SrcI wr.drew (some ⟨gu, ou, none⟩) U.length U) := Lib.hid (HR.out.later (Below.refl _ _).drew)
          have qd : wr.drew.cell? ⟨gu, ou + j, none⟩ = some (.int .i64 pg) := q0
          have HQE : Hid (∀ W, Below wr.drew.heap.size wr.drew W → W.cell? ⟨gu, ou + j, none⟩ = some (.int .i64 pg)) := Lib.hid (fun W hW => (hW.cell (p := ⟨gu, ou + j, none⟩) hgu).trans q0)
          go_region_held3 (fun w' => w'.cell? ⟨w.heap.size + 1, 0, none⟩ = some (.int .i64 p.ser) ∧ w'.cell? ⟨w.heap.size + 1, 1, none⟩ = some (.slice a1 p.st.length c1) ∧ w'.cell? ⟨w.heap.size + 1, 2, none⟩ = some (.slice (some ⟨g, off, none⟩) p.ino.length c2) ∧ w'.cell? ⟨gu, ou + j, none⟩ = some (.int .i64 pg))
            (first
              | exact ⟨XD.out.cell rfl, XD.out.cell rfl, XD.out.cell rfl, qd⟩
              | exact ⟨XE.out.cell rfl, XE.out.cell rfl, XE.out.cell rfl, qe2⟩
              | go_keep)
            (first | (go_at_call 27; (with_reducible refine (specUsers_any p a1 c1 _ c2 pg _ (Cel.Rd.later BD.out _ _ HS2.out) HZB.out HT.out HPG.out).mono ?_); rw [HMM.out]; rintro e w9 ⟨rfl, hb⟩; have XE := Lib.hid (XD.out.later hb); have GE := Lib.hid (GD.out.later hb); have BE : Hid (Below w.heap.size w w9) := Lib.hid (BD.out.trans (hb.mono BD.out.size)); have RE := Lib.hid (QD.out.later hb); have qe2 := HQE.out _ hb; clear hb))
          clear qd qe2 q0
          by_cases hm : m = 1
          · have HC := Lib.hid (HJ2.out hm)
            subst hm
            go_wp2
            go_roundw
            case rel => exact ⟨j + 1, by omega, by go_num, HC, BE.out, GE, XE, RE⟩
            case measure => (simp [intOf]; try omega)
          · have hm' : ((m : Int) != 1) = true := by simp; omega
            have HC := Lib.hid (decB_no (HN9.out hm))
            go_wp2
            go_ret
            exact ⟨ret_boolo HC.out.symm, BE.out⟩
        · obtain rfl : j = U.length := by omega
          have HONE : Hid (∀ x ∈ withSt p.st 2 p.st.length, cntP (recsOf p.ino) x = 1) := Lib.hid (fun x hx => by
            rw [HU.out] at hx
            obtain ⟨t, ht, rfl⟩ := mem_getD hx
            exact HJ.out t ht)
          have HIFF : Hid (PartOkR T P I Q p ↔ (U.length = rc ∧ (U.length : Int) ≤ Q)) := Lib.hid (by
            have h9 := users_iff p.ino p.st (recs_pos HIN9.out) HONE.out
            rw [HU.out, ← HRS.out] at h9
            unfold PartOkR
            rw [h9, HU.out]
            exact ⟨fun h => ⟨h.2.2.2.2.2.2.1, h.2.2.2.2.2.2.2⟩, fun h => ⟨P1.out, P2.out, P3.out, P4.out, HIN9.out, HLN9.out, h.1, h.2⟩⟩)
          have k3 := GQ.out.c3
          by_cases hq1 : U.length = rc
          · have hq1' : ((U.length : Int) == (rc : Int)) = true := by simp; omega
            by_cases hq2 : (U.length : Int) ≤ Q
            · have HC := Lib.hid (decB_yes (HIFF.out.2 ⟨hq1, hq2⟩))
              go_wp2
              go_ret
              exact ⟨ret_boolo (by rw [HC.out]; first | rfl | exact decide_eq_true (by omega)), hbq⟩
            · have HC := Lib.hid (decB_no (fun h => hq2 (HIFF.out.1 h).2))
              have hq2' : decide ((U.length : Int) ≤ Q) = false := decide_eq_false hq2
              go_wp2
              go_ret
              exact ⟨ret_boolo (by rw [HC.out]; first | rfl | exact hq2' | exact decide_eq_false (by omega)), hbq⟩
          · have hq1' : ((U.length : Int) == (rc : Int)) = false := by simp; omega
            have HC := Lib.hid (decB_no (fun h => hq1 (HIFF.out.1 h).1))
            go_wp2
            go_ret
            exact ⟨ret_boolo HC.out.symm, hbq⟩
end Go.Proofs.Ytmkchilhnmkhkab
namespace Go.Proofs.Ytmkchilhnmkhkab
open Go.RowKit Go.Proofs.Ytmkchilhnmkhkab.Parts Go.Proofs.Ytmkchilhnmkhkab.Hexa

/-- Rows of plain cells, as rows of trees. -/
theorem own_ents {w : World} : ∀ L : List EntryR, OwnL w (celsE cEntry L) [] (cellsE encEntry L)
  | [] => ⟨rfl, rfl⟩
  | _ :: r => ⟨_, _, [], [], rfl, rfl, ⟨rfl, rfl⟩, _, _, [], [], rfl, rfl, ⟨rfl, rfl⟩, own_ents r⟩
theorem own_recs {w : World} : ∀ L : List RecR, OwnL w (celsE cRec L) [] (cellsE encRec L)
  | [] => ⟨rfl, rfl⟩
  | _ :: r => ⟨_, _, [], [], rfl, rfl, ⟨rfl, rfl⟩, _, _, [], [], rfl, rfl, ⟨rfl, rfl⟩, _, _, [], [], rfl, rfl, ⟨rfl, rfl⟩, own_recs r⟩
/-- A slice of elements of several cells appended to a row of the call's own. -/
theorem appS {α : Type} [Inhabited α] (E : Enc α) (t e : TypeId) (bytes : Nat) (z : Value) (i0 : TypeInfo) (hu : Try.prog.underlying t = some (.slice e)) (hi : Try.prog.info? e = some i0) (hz0 : i0.zero = some z) (hz1 : i0.size = E.k) (hz2 : i0.bytes = bytes) (hzz : z.cells.size = E.k) (hk0 : 0 < E.k) (hb : bytes ≤ 1000)
    (h1 : ∀ L : List α, ∀ v ∈ cellsE E L, v.oneCell' = true)
    (w : World) (ty : TypeId) (B : Nat) (v : Value) (n : Nat) (L : List α) (hown : w.ownsRow B e E.k v n (cellsE E L)) (hB : B ≤ w.heap.size) (a : Option Addr) (m c : Nat) (M : List α) (hs : SrcE E w a m M) (hnm : n + m ≤ 1000000000) :
    AppE Try.prog #[t, t] ty #[v, .slice a m c] w B e E.k (n + m) (cellsE E (L ++ M)) v := by
  rw [cellsE_append]
  cases a with
  | none =>
    have hm0 : m = 0 := by
      rcases Nat.eq_zero_or_pos m with h | h
      · exact h
      · obtain ⟨g, off, e, _⟩ := hs.cell 0 h; cases e
    subst hm0
    have hM : M = [] := List.length_eq_zero_iff.1 hs.len
    subst hM
    exact ⟨v, w, run_append_nothing w B _ ty _ i0 E.k hu hi v n c _ hown, by simpa [cellsE] using hown, ⟨rfl, rfl, rfl, Nat.le_refl _, fun _ _ _ => rfl⟩, .inl rfl⟩
  | some p =>
    have hbytes : (n + m) * bytes ≤ 1000000000 * 1000 := Nat.mul_le_mul hnm hb
    obtain ⟨v', w', hr, h2, h3, _, h5⟩ := run_append_own_at (P := Try.prog) w B t ty e i0 _ E.k bytes hu hi hz0 hz1 hz2 hzz hk0 v n _ hown p m c (cellsE E M) (by rw [cellsE_length, hs.len]) (hs.news hk0) (h1 M) (by unfold maxLen; omega) (by omega) hB
    exact ⟨v', w', hr, h2, h3, h5⟩
theorem appEntS (w : World) (ty : TypeId) (B : Nat) (v : Value) (n : Nat) (L : List EntryR) (hown : w.ownsRow B 57 2 v n (cellsE encEntry L)) (hB : B ≤ w.heap.size) (a : Option Addr) (m c : Nat) (M : List EntryR) (hs : SrcEntry w a m M) (hnm : n + m ≤ 1000000000) :
    AppE Try.prog #[52, 52] ty #[v, .slice a m c] w B 57 2 (n + m) (cellsE encEntry (L ++ M)) v := by
  obtain ⟨i0, hi, hz0, hz1, hz2⟩ := info_parts infoEntryD
  exact appS encEntry _ _ 24 _ i0 Try.underlying52 hi hz0 hz1 hz2 rfl (by decide) (by decide) cellsEntry_one w ty B v n L hown hB a m c M hs hnm
theorem appRecS (w : World) (ty : TypeId) (B : Nat) (v : Value) (n : Nat) (L : List RecR) (hown : w.ownsRow B 70 3 v n (cellsE encRec L)) (hB : B ≤ w.heap.size) (a : Option Addr) (m c : Nat) (M : List RecR) (hs : SrcRec w a m M) (hnm : n + m ≤ 1000000000) :
    AppE Try.prog #[51, 51] ty #[v, .slice a m c] w B 70 3 (n + m) (cellsE encRec (L ++ M)) v := by
  obtain ⟨i0, hi, hz0, hz1, hz2⟩ := info_parts infoRecD
  exact appS encRec _ _ 32 _ i0 Try.underlying51 hi hz0 hz1 hz2 rfl (by decide) (by decide) cellsRec_one w ty B v n L hown hB a m c M hs hnm

def GivesEnts (L : List EntryR) (w : World) (e : Ending) (w' : World) : Prop :=
  ∃ v, e = .returned v ∧ w'.ownsRow w.heap.size 57 2 v L.length (cellsE encEntry L) ∧ Below w.heap.size w w'
def GivesRecs (L : List RecR) (w : World) (e : Ending) (w' : World) : Prop :=
  ∃ v, e = .returned v ∧ w'.ownsRow w.heap.size 70 3 v L.length (cellsE encRec L) ∧ Below w.heap.size w w'

set_option maxRecDepth 100000 in
set_option maxHeartbeats 2000000 in
theorem implEnts_any (p : PartR) (a1 : Option Addr) (c1 : Nat) (a2 : Option Addr) (c2 : Nat) (w : World) (h2 : (celRow cIno p.ino).Rd w (.slice a2 p.ino.length c2)) (hz : szL (cPart.cels p) ≤ 100000000) :
    Calls Try.prog 42 #[.agg #[.int .i64 p.ser, .slice a1 p.st.length c1, .slice a2 p.ino.length c2]] w (GivesEnts (entsOf p.ino) w) := by
  have B0 := Lib.hid (below_bk w (.cells #[.int .i64 p.ser, .slice a1 p.st.length c1, .slice a2 p.ino.length c2] 30))
  have HS := Lib.hid h2
  rw [cPart_sz] at hz
  have hz1 : p.ino.length + szL (celsE cIno p.ino) ≤ 100000000 := by have := sz_row cIno p.ino; omega
  have HE : Hid (∀ k, (entsOf (p.ino.take k)).length ≤ 100000000) := Lib.hid (fun k => by have := ents_take p.ino k; omega)
  have HY : Hid (∀ k, k < p.ino.length → (p.ino.getD k default).E.length ≤ 100000000) := Lib.hid (fun k hk => by
    have h3 := szL_at cIno p.ino k hk
    rw [cIno_sz] at h3
    have := len_sz cEntry (p.ino.getD k default).E
    omega)
  have hn : p.ino.length ≤ 100000000 := by omega
  clear h2 hz hz1
  have HO : Hid ((w.alloc (.cells #[.int .i64 p.ser, .slice a1 p.st.length c1, .slice a2 p.ino.length c2] 30)).ownsRow w.heap.size 57 2 (.slice none 0 0) 0 (cellsE encEntry [])) := Lib.hid (World.ownsRow_nil _ _ _ _)
  go_enter Try.func42, Try.ntmps42
  go_wp2
  go_loopw [3, 9] (fun ev kv wr => ∃ (k m : Nat), k ≤ p.ino.length ∧ kv = .int .i64 k ∧ m ≤ 100000000 ∧ Hid (m = (entsOf (p.ino.take k)).length) ∧ Hid (wr.ownsRow w.heap.size 57 2 ev m (cellsE encEntry (entsOf (p.ino.take k)))) ∧ Below w.heap.size w wr) (fun _ kv _ => p.ino.length - (intOf kv).toNat)
  case atStart => exact ⟨0, 0, Nat.zero_le _, rfl, by omega, Lib.hid rfl, HO, B0.out⟩
  case round =>
    clear HO
    obtain ⟨k, m, hk, rfl, hm, HM, HW, hbel⟩ := hrel
    obtain ⟨v, hv⟩ : ∃ v, v = u3 := ⟨_, rfl⟩
    rw [← hv] at HW ⊢
    clear hv
    by_cases hlt : k < p.ino.length
    · have HN := Lib.hid (entsOf_next hlt)
      have HE1 := Lib.hid (HE.out (k + 1))
      have hy := HY.out k hlt
      obtain ⟨g, off, a4, c4, a5, c5, rfl, hg, d0, d1, d2, d3, d4, d5, r4, r5⟩ := cIno_at (Cel.Rd.later hbel _ _ HS.out) k hlt
      obtain ⟨x, hx⟩ : ∃ x, p.ino.getD k default = x := ⟨_, rfl⟩
      rw [hx] at d0 d1 d2 d3 d4 d5 r4 r5 HN hy
      obtain ⟨kd, hkd0⟩ : ∃ y, x.kd = y := ⟨_, rfl⟩
      rw [hkd0] at d0
      have HK0 := Lib.hid hkd0
      clear hkd0 hx r4
      have hb1 := below_bk wr (.cells #[.int .i64 kd, .int .i64 x.sz, .int .i64 x.gn, .string x.key, .slice a4 x.R.length c4, .slice a5 x.E.length c5] 54)
      have T1 := Lib.hid (Bk.alloc wr #[.int .i64 kd, .int .i64 x.sz, .int .i64 x.gn, .string x.key, .slice a4 x.R.length c4, .slice a5 x.E.length c5] 54)
      have HW1 := Lib.hid (own_below HW.out hb1)
      have HR := Lib.hid (srcEntry_of_rd (Cel.Rd.later hb1 _ _ r5))
      have B1 : Hid (Below w.heap.size w (wr.alloc (.cells #[.int .i64 kd, .int .i64 x.sz, .int .i64 x.gn, .string x.key, .slice a4 x.R.length c4, .slice a5 x.E.length c5] 54))) := Lib.hid (hbel.trans (hb1.mono hbel.size))
      clear HW hb1 r5
      have t0 := T1.out.cell (j := 0) rfl
      have t5 := T1.out.cell (j := 5) rfl
      by_cases hkd : kd = 2
      · subst hkd
        have HL : Hid (m + x.E.length = (entsOf (p.ino.take (k + 1))).length) := Lib.hid (by rw [HN.out, dirE_yes HK0.out, List.length_append, ← HM.out])
        have hm2 : m + x.E.length ≤ 100000000 := by have := HL.out; have := HE1.out; omega
        have hr := appEntS _ 52 w.heap.size v m (entsOf (p.ino.take k)) HW1.out B1.out.size a5 x.E.length c5 x.E HR.out (by omega)
        go_wp2_with (at_builtin; refine wpList_appE rfl _ _ _ _ rfl _ _ rfl rfl hr ?_; clear hr; intro v' w2 h1 h2 h3)
        have HW2 : Hid (w2.ownsRow w.heap.size 57 2 v' (m + x.E.length) (cellsE encEntry (entsOf (p.ino.take (k + 1))))) := Lib.hid (by rw [HN.out, dirE_yes HK0.out]; exact h1)
        have B2 : Below w.heap.size w w2 := B1.out.grown h2 B1.out.size (fun q hq => (HW1.out.lt q hq).1)
        clear h1 h2 h3 d0 d1 d2 d3 d4 d5 t0 t5
        go_wp2
        go_roundw
        case rel => exact ⟨k + 1, m + x.E.length, by omega, by go_num, hm2, HL, HW2, B2⟩
        case measure => (simp [intOf]; try omega)
      · have HL : Hid (m = (entsOf (p.ino.take (k + 1))).length) := Lib.hid (by rw [HN.out, dirE_no (by rw [HK0.out]; exact hkd), List.append_nil, ← HM.out])
        have HW2 : Hid (Hid ((wr.alloc (.cells #[.int .i64 kd, .int .i64 x.sz, .int .i64 x.gn, .string x.key, .slice a4 x.R.length c4, .slice a5 x.E.length c5] 54)).ownsRow w.heap.size 57 2 v m (cellsE encEntry (entsOf (p.ino.take (k + 1)))))) := Lib.hid (Lib.hid (by rw [HN.out, dirE_no (by rw [HK0.out]; exact hkd), List.append_nil]; exact HW1.out))
        go_wp2
        go_roundw
        case rel => exact ⟨k + 1, m, by omega, by go_num, hm, HL, HW2.out, B1.out⟩
        case measure => (simp [intOf]; try omega)
    · obtain rfl : k = p.ino.length := by omega
      have h9 := HW.out
      have h8 := HM.out
      rw [List.take_length] at h9 h8
      have H9 := Lib.hid h9
      have H8 := Lib.hid h8
      clear h9 h8
      go_wp2
      go_ret
      exact ⟨_, rfl, by rw [← H8.out]; exact H9.out, hbel⟩
set_option maxRecDepth 100000 in
set_option maxHeartbeats 2000000 in
theorem implRecs_any (p : PartR) (a1 : Option Addr) (c1 : Nat) (a2 : Option Addr) (c2 : Nat) (w : World) (h2 : (celRow cIno p.ino).Rd w (.slice a2 p.ino.length c2)) (hz : szL (cPart.cels p) ≤ 100000000) :
    Calls Try.prog 45 #[.agg #[.int .i64 p.ser, .slice a1 p.st.length c1, .slice a2 p.ino.length c2]] w (GivesRecs (recsOf p.ino) w) := by
  have B0 := Lib.hid (below_bk w (.cells #[.int .i64 p.ser, .slice a1 p.st.length c1, .slice a2 p.ino.length c2] 30))
  have HS := Lib.hid h2
  rw [cPart_sz] at hz
  have hz1 : p.ino.length + szL (celsE cIno p.ino) ≤ 100000000 := by have := sz_row cIno p.ino; omega
  have HE : Hid (∀ k, (recsOf (p.ino.take k)).length ≤ 100000000) := Lib.hid (fun k => by have := recs_take p.ino k; omega)
  have HY : Hid (∀ k, k < p.ino.length → (p.ino.getD k default).R.length ≤ 100000000) := Lib.hid (fun k hk => by
    have h3 := szL_at cIno p.ino k hk
    rw [cIno_sz] at h3
    have := len_sz cRec (p.ino.getD k default).R
    omega)
  have hn : p.ino.length ≤ 100000000 := by omega
  clear h2 hz hz1
  have HO : Hid ((w.alloc (.cells #[.int .i64 p.ser, .slice a1 p.st.length c1, .slice a2 p.ino.length c2] 30)).ownsRow w.heap.size 70 3 (.slice none 0 0) 0 (cellsE encRec [])) := Lib.hid (World.ownsRow_nil _ _ _ _)
  go_enter Try.func45, Try.ntmps45
  go_wp2
  go_loopw [3, 9] (fun ev kv wr => ∃ (k m : Nat), k ≤ p.ino.length ∧ kv = .int .i64 k ∧ m ≤ 100000000 ∧ Hid (m = (recsOf (p.ino.take k)).length) ∧ Hid (wr.ownsRow w.heap.size 70 3 ev m (cellsE encRec (recsOf (p.ino.take k)))) ∧ Below w.heap.size w wr) (fun _ kv _ => p.ino.length - (intOf kv).toNat)
  case atStart => exact ⟨0, 0, Nat.zero_le _, rfl, by omega, Lib.hid rfl, HO, B0.out⟩
  case round =>
    clear HO
    obtain ⟨k, m, hk, rfl, hm, HM, HW, hbel⟩ := hrel
    obtain ⟨v, hv⟩ : ∃ v, v = u3 := ⟨_, rfl⟩
    rw [← hv] at HW ⊢
    clear hv
    by_cases hlt : k < p.ino.length
    · have HN := Lib.hid (recsOf_next hlt)
      have HE1 := Lib.hid (HE.out (k + 1))
      have hy := HY.out k hlt
      obtain ⟨g, off, a4, c4, a5, c5, rfl, hg, d0, d1, d2, d3, d4, d5, r4, r5⟩ := cIno_at (Cel.Rd.later hbel _ _ HS.out) k hlt
      obtain ⟨x, hx⟩ : ∃ x, p.ino.getD k default = x := ⟨_, rfl⟩
      rw [hx] at d0 d1 d2 d3 d4 d5 r4 r5 HN hy
      obtain ⟨kd, hkd0⟩ : ∃ y, x.kd = y := ⟨_, rfl⟩
      rw [hkd0] at d0
      have HK0 := Lib.hid hkd0
      clear hkd0 hx r5
      have hb1 := below_bk wr (.cells #[.int .i64 kd, .int .i64 x.sz, .int .i64 x.gn, .string x.key, .slice a4 x.R.length c4, .slice a5 x.E.length c5] 54)
      have T1 := Lib.hid (Bk.alloc wr #[.int .i64 kd, .int .i64 x.sz, .int .i64 x.gn, .string x.key, .slice a4 x.R.length c4, .slice a5 x.E.length c5] 54)
      have HW1 := Lib.hid (own_below HW.out hb1)
      have HR := Lib.hid (srcRec_of_rd (Cel.Rd.later hb1 _ _ r4))
      have B1 : Hid (Below w.heap.size w (wr.alloc (.cells #[.int .i64 kd, .int .i64 x.sz, .int .i64 x.gn, .string x.key, .slice a4 x.R.length c4, .slice a5 x.E.length c5] 54))) := Lib.hid (hbel.trans (hb1.mono hbel.size))
      clear HW hb1 r4
      have t0 := T1.out.cell (j := 0) rfl
      have t5 := T1.out.cell (j := 4) rfl
      by_cases hkd : kd = 1
      · subst hkd
        have HL : Hid (m + x.R.length = (recsOf (p.ino.take (k + 1))).length) := Lib.hid (by rw [HN.out, filR_yes HK0.out, List.length_append, ← HM.out])
        have hm2 : m + x.R.length ≤ 100000000 := by have := HL.out; have := HE1.out; omega
        have hr := appRecS _ 51 w.heap.size v m (recsOf (p.ino.take k)) HW1.out B1.out.size a4 x.R.length c4 x.R HR.out (by omega)
        go_wp2_with (at_builtin; refine wpList_appE rfl _ _ _ _ rfl _ _ rfl rfl hr ?_; clear hr; intro v' w2 h1 h2 h3)
        have HW2 : Hid (w2.ownsRow w.heap.size 70 3 v' (m + x.R.length) (cellsE encRec (recsOf (p.ino.take (k + 1))))) := Lib.hid (by rw [HN.out, filR_yes HK0.out]; exact h1)
        have B2 : Below w.heap.size w w2 := B1.out.grown h2 B1.out.size (fun q hq => (HW1.out.lt q hq).1)
        clear h1 h2 h3 d0 d1 d2 d3 d4 d5 t0 t5
        go_wp2
        go_roundw
        case rel => exact ⟨k + 1, m + x.R.length, by omega, by go_num, hm2, HL, HW2, B2⟩
        case measure => (simp [intOf]; try omega)
      · have HL : Hid (m = (recsOf (p.ino.take (k + 1))).length) := Lib.hid (by rw [HN.out, filR_no (by rw [HK0.out]; exact hkd), List.append_nil, ← HM.out])
        have HW2 : Hid (Hid ((wr.alloc (.cells #[.int .i64 kd, .int .i64 x.sz, .int .i64 x.gn, .string x.key, .slice a4 x.R.length c4, .slice a5 x.E.length c5] 54)).ownsRow w.heap.size 70 3 v m (cellsE encRec (recsOf (p.ino.take (k + 1)))))) := Lib.hid (Lib.hid (by rw [HN.out, filR_no (by rw [HK0.out]; exact hkd), List.append_nil]; exact HW1.out))
        go_wp2
        go_roundw
        case rel => exact ⟨k + 1, m, by omega, by go_num, hm, HL, HW2.out, B1.out⟩
        case measure => (simp [intOf]; try omega)
    · obtain rfl : k = p.ino.length := by omega
      have h9 := HW.out
      have h8 := HM.out
      rw [List.take_length] at h9 h8
      have H9 := Lib.hid h9
      have H8 := Lib.hid h8
      clear h9 h8
      go_wp2
      go_ret
      exact ⟨_, rfl, by rw [← H8.out]; exact H9.out, hbel⟩
end Go.Proofs.Ytmkchilhnmkhkab
namespace Go.Proofs.Ytmkchilhnmkhkab
open Go.RowKit Go.Proofs.Ytmkchilhnmkhkab.Parts Go.Proofs.Ytmkchilhnmkhkab.Hexa


set_option maxRecDepth 100000 in
set_option maxHeartbeats 2000000 in
theorem implLinks_any (p : PartR) (a1 : Option Addr) (c1 : Nat) (a2 : Option Addr) (c2 : Nat) (i : Int) (w : World) (h2 : (celRow cIno p.ino).Rd w (.slice a2 p.ino.length c2)) (hz : szL (cPart.cels p) ≤ 100000000) :
    Calls Try.prog 59 #[.agg #[.int .i64 p.ser, .slice a1 p.st.length c1, .slice a2 p.ino.length c2], .int .i64 i] w (SaysI (cntI (entsOf p.ino) i : Nat) w) := by
  have B0 := Lib.hid (below_bk w (.cells #[.int .i64 p.ser, .slice a1 p.st.length c1, .slice a2 p.ino.length c2] 30))
  have T0 := Lib.hid (Bk.alloc w #[.int .i64 p.ser, .slice a1 p.st.length c1, .slice a2 p.ino.length c2] 30)
  have HS := Lib.hid h2
  have HZ := Lib.hid hz
  rw [cPart_sz] at hz
  have hl : (entsOf p.ino).length ≤ 100000000 := by have := sz_row cIno p.ino; have := ents_len p.ino; omega
  clear h2 hz
  have t0 := T0.out.cell (j := 0) rfl
  have t1 := T0.out.cell (j := 1) rfl
  have t2 := T0.out.cell (j := 2) rfl
  go_enter Try.func59, Try.ntmps59
  go_wp2_with fail
  refine (implEnts_any p a1 c1 a2 c2 _ (Cel.Rd.later B0.out _ _ HS.out) HZ.out).mono ?_
  rintro e w1 ⟨v, rfl, ho, hb⟩
  have B1 : Hid (Below w.heap.size w w1) := Lib.hid (B0.out.trans (hb.mono B0.out.size))
  obtain ⟨a, c, rfl, _⟩ := ownE_form ho
  have HR := Lib.hid (srcEntry_of_own ho)
  obtain ⟨M, hM⟩ : ∃ M, entsOf p.ino = M := ⟨_, rfl⟩
  rw [hM] at HR hl ⊢
  have HEQ := Lib.hid hM
  clear ho hb t0 t1 t2 hM
  go_wp2
  go_loopw [5, 11] (fun nv kv wr => ∃ (k m : Nat), k ≤ M.length ∧ kv = .int .i64 k ∧ nv = .int .i64 (m : Int) ∧ Hid (m = cntI (M.take k) i) ∧ m ≤ k ∧ Below w.heap.size w wr ∧ Below w1.heap.size w1 wr) (fun _ kv _ => M.length - (intOf kv).toNat)
  case atStart => exact ⟨0, 0, Nat.zero_le _, rfl, rfl, Lib.hid rfl, Nat.le_refl _, B1.out, Below.refl _ _⟩
  case round =>
    obtain ⟨k, m, hk, rfl, rfl, HM, hmk, hbel, hbl1⟩ := hrel
    by_cases hlt : k < M.length
    · obtain ⟨g, off, rfl, hg, d0, d1⟩ := srcEntry_later HR.out hbl1 (Nat.le_refl _) k hlt
      obtain ⟨x, hx⟩ : ∃ x, M.getD k default = x := ⟨_, rfl⟩
      rw [hx] at d0 d1
      have hb2 : Below w.heap.size w (wr.alloc (.cells #[.int .i64 x.f0, .string x.f1] 57)) := hbel.alloc hbel.size _
      have hb3 : Below w1.heap.size w1 (wr.alloc (.cells #[.int .i64 x.f0, .string x.f1] 57)) := hbl1.alloc hbl1.size _
      have t0 := (Bk.alloc wr #[.int .i64 x.f0, .string x.f1] 57).cell (j := 0) rfl
      by_cases hq : x.f0 = i
      · have HC : Hid (m + 1 = cntI (M.take (k + 1)) i) := Lib.hid (by rw [cntI_yes hlt (by rw [hx]; exact hq), ← HM.out])
        rw [hq] at d0 t0 hb2 hb3
        clear hx
        go_wp2
        go_roundw
        case rel => exact ⟨k + 1, m + 1, by omega, by go_num, by go_num, HC, by omega, hb2, hb3⟩
        case measure => (simp [intOf]; try omega)
      · have HC : Hid (m = cntI (M.take (k + 1)) i) := Lib.hid (by rw [cntI_no hlt (by rw [hx]; exact hq), ← HM.out])
        clear hx
        go_wp2
        go_roundw
        case rel => exact ⟨k + 1, m, by omega, by go_num, rfl, HC, by omega, hb2, hb3⟩
        case measure => (simp [intOf]; try omega)
    · obtain rfl : k = M.length := by omega
      have HE : Hid ((m : Int) = (cntI M i : Nat)) := Lib.hid (by have h9 := HM.out; rw [List.take_length] at h9; rw [h9])
      go_wp2
      go_ret
      exact ⟨ret_i64m (by rw [HEQ.out]; exact HE.out), hbel⟩
end Go.Proofs.Ytmkchilhnmkhkab
namespace Go.Proofs.Ytmkchilhnmkhkab
open Go.RowKit Go.Proofs.Ytmkchilhnmkhkab.Parts Go.Proofs.Ytmkchilhnmkhkab.Hexa


set_option maxRecDepth 100000 in
set_option maxHeartbeats 2000000 in
theorem implUsers_any (p : PartR) (a1 : Option Addr) (c1 : Nat) (a2 : Option Addr) (c2 : Nat) (i : Int) (w : World) (h2 : (celRow cIno p.ino).Rd w (.slice a2 p.ino.length c2)) (hz : szL (cPart.cels p) ≤ 100000000) (hi : -9223372036854775808 ≤ i ∧ i ≤ 9223372036854775807) (ht : ∀ r ∈ recsOf p.ino, -9223372036854775808 ≤ r.f0 ∧ r.f0 ≤ 9223372036854775807) :
    Calls Try.prog 46 #[.agg #[.int .i64 p.ser, .slice a1 p.st.length c1, .slice a2 p.ino.length c2], .int .i64 i] w (SaysI (cntP (recsOf p.ino) i : Nat) w) := by
  have B0 := Lib.hid (below_bk w (.cells #[.int .i64 p.ser, .slice a1 p.st.length c1, .slice a2 p.ino.length c2] 30))
  have T0 := Lib.hid (Bk.alloc w #[.int .i64 p.ser, .slice a1 p.st.length c1, .slice a2 p.ino.length c2] 30)
  have HS := Lib.hid h2
  have HZ := Lib.hid hz
  rw [cPart_sz] at hz
  have hl : (recsOf p.ino).length ≤ 100000000 := by have := sz_row cIno p.ino; have := recs_len p.ino; omega
  clear h2 hz
  have t0 := T0.out.cell (j := 0) rfl
  have t1 := T0.out.cell (j := 1) rfl
  have t2 := T0.out.cell (j := 2) rfl
  go_enter Try.func46, Try.ntmps46
  go_wp2_with fail
  refine (implRecs_any p a1 c1 a2 c2 _ (Cel.Rd.later B0.out _ _ HS.out) HZ.out).mono ?_
  rintro e w1 ⟨v, rfl, ho, hb⟩
  have B1 : Hid (Below w.heap.size w w1) := Lib.hid (B0.out.trans (hb.mono B0.out.size))
  obtain ⟨a, c, rfl, _⟩ := ownE_form ho
  have HR := Lib.hid (srcRec_of_own ho)
  obtain ⟨M, hM⟩ : ∃ M, recsOf p.ino = M := ⟨_, rfl⟩
  rw [hM] at HR hl ht ⊢
  have HT := Lib.hid ht
  clear ht
  obtain ⟨i0, i1⟩ := hi
  have HEQ := Lib.hid hM
  clear ho hb t0 t1 t2 hM
  go_wp2
  go_loopw [5, 11] (fun nv kv wr => ∃ (k m : Nat), k ≤ M.length ∧ kv = .int .i64 k ∧ nv = .int .i64 (m : Int) ∧ Hid (m = cntP (M.take k) i) ∧ m ≤ k ∧ Below w.heap.size w wr ∧ Below w1.heap.size w1 wr) (fun _ kv _ => M.length - (intOf kv).toNat)
  case atStart => exact ⟨0, 0, Nat.zero_le _, rfl, rfl, Lib.hid rfl, Nat.le_refl _, B1.out, Below.refl _ _⟩
  case round =>
    obtain ⟨k, m, hk, rfl, rfl, HM, hmk, hbel, hbl1⟩ := hrel
    by_cases hlt : k < M.length
    · obtain ⟨g, off, rfl, hg, d0, d1, d2⟩ := srcRec_later HR.out hbl1 (Nat.le_refl _) k hlt
      obtain ⟨x, hx⟩ : ∃ x, M.getD k default = x := ⟨_, rfl⟩
      rw [hx] at d0 d1 d2
      have hb2 : Below w.heap.size w (wr.alloc (.cells #[.int .i64 x.f0, .int .i64 x.f1, .string x.f2] 70)) := hbel.alloc hbel.size _
      have hb3 : Below w1.heap.size w1 (wr.alloc (.cells #[.int .i64 x.f0, .int .i64 x.f1, .string x.f2] 70)) := hbl1.alloc hbl1.size _
      have t0 := (Bk.alloc wr #[.int .i64 x.f0, .int .i64 x.f1, .string x.f2] 70).cell (j := 0) rfl
      have hxb : -9223372036854775808 ≤ x.f0 ∧ x.f0 ≤ 9223372036854775807 := by rw [← hx]; exact HT.out _ (by simp only [List.getD, List.getElem?_eq_getElem hlt, Option.getD_some]; exact List.getElem_mem _)
      obtain ⟨y, hy⟩ : ∃ y, x.f0 = y := ⟨_, rfl⟩
      rw [hy] at d0 t0 hb2 hb3 hxb
      by_cases hq : y = i + 1
      · have hgt : i < y := by omega
        have hsub : y - 1 = i := by omega
        have HC : Hid (m + 1 = cntP (M.take (k + 1)) i) := Lib.hid (by rw [cntP_yes hlt (by rw [hx, hy]; exact hq), ← HM.out])
        clear hx hy hq
        go_wp2
        go_roundw
        case rel => exact ⟨k + 1, m + 1, by omega, by go_num, by go_num, HC, by omega, hb2, hb3⟩
        case measure => (simp [intOf]; try omega)
      · have HC : Hid (m = cntP (M.take (k + 1)) i) := Lib.hid (by rw [cntP_no hlt (by rw [hx, hy]; exact hq), ← HM.out])
        have hne : i < y → ¬ (y - 1 = i) := by omega
        clear hx hy
        by_cases hgt : i < y
        · have hne := hne hgt
          go_wp2
          go_roundw
          case rel => exact ⟨k + 1, m, by omega, by go_num, rfl, HC, by omega, hb2, hb3⟩
          case measure => (simp [intOf]; try omega)
        clear hne
        go_wp2
        go_roundw
        case rel => exact ⟨k + 1, m, by omega, by go_num, rfl, HC, by omega, hb2, hb3⟩
        case measure => (simp [intOf]; try omega)
    · obtain rfl : k = M.length := by omega
      have HE : Hid ((m : Int) = (cntP M i : Nat)) := Lib.hid (by have h9 := HM.out; rw [List.take_length] at h9; rw [h9])
      go_wp2
      go_ret
      exact ⟨ret_i64m (by rw [HEQ.out]; exact HE.out), hbel⟩
end Go.Proofs.Ytmkchilhnmkhkab
namespace Go.Proofs.Ytmkchilhnmkhkab
open Go.RowKit

set_option maxRecDepth 100000 in
set_option maxHeartbeats 400000 in
theorem implIn_any (n a b : Int) (w : World) : Calls Try.prog 29 #[.int .i64 n, .int .i64 a, .int .i64 b] w fun e w' => e = .returned (.bool (decide (a ≤ n ∧ n ≤ b))) ∧ w' = w := by
  by_cases h1 : a ≤ n <;> by_cases h2 : n ≤ b
  all_goals
    go_enter Try.func29, Try.ntmps29
    go_wp2
    all_goals go_ret
    all_goals exact ⟨by simp [h1, h2], rfl⟩
theorem implIn_yes {n a b : Int} (w : World) (h : a ≤ n ∧ n ≤ b) : Calls Try.prog 29 #[.int .i64 n, .int .i64 a, .int .i64 b] w fun e w' => e = .returned (.bool true) ∧ w' = w :=
  (implIn_any n a b w).mono fun _ _ ⟨he, hw⟩ => ⟨by rw [he, decide_eq_true h], hw⟩
theorem implIn_no {n a b : Int} (w : World) (h : ¬ (a ≤ n ∧ n ≤ b)) : Calls Try.prog 29 #[.int .i64 n, .int .i64 a, .int .i64 b] w fun e w' => e = .returned (.bool false) ∧ w' = w :=
  (implIn_any n a b w).mono fun _ _ ⟨he, hw⟩ => ⟨by rw [he, decide_eq_false h], hw⟩

end Go.Proofs.Ytmkchilhnmkhkab
namespace Go.Proofs.Ytmkchilhnmkhkab
open Go.RowKit Go.Lib Go.Proofs.Ytmkchilhnmkhkab.Hexa Go.Proofs.Ytmkchilhnmkhkab.Byt

theorem made_zero (n : Nat) : (madeCells (Value.int .u8 0).cells (n * 1)).toList = bcells (List.replicate n 0) := by
  apply List.ext_getElem?
  intro j
  have hcl : (Value.int .u8 0).cells = #[Value.int .u8 0] := rfl
  by_cases hj : j < n
  · simp [madeCells, hj, hcl, Nat.mod_one, bcells]
  · rw [List.getElem?_eq_none (by simp [madeCells]; omega), List.getElem?_eq_none (by simp [bcells]; omega)]

/-- The bytes A, and zeros up to n. -/
def partB (A : List UInt8) (n : Nat) : List UInt8 := A ++ List.replicate (n - A.length) 0
theorem partB_length (A : List UInt8) (n : Nat) (h : A.length ≤ n) : (partB A n).length = n := by simp [partB]; omega
theorem partB_nil (n : Nat) : partB [] n = List.replicate n 0 := by simp [partB]
theorem partB_full (A : List UInt8) (n : Nat) (h : A.length = n) : partB A n = A := by simp [partB, h]
theorem partB_set (A : List UInt8) (n : Nat) (x : UInt8) (h : A.length < n) : (partB A n).set A.length x = partB (A ++ [x]) n := by
  obtain ⟨m, hm⟩ : ∃ m, n - A.length = m + 1 := ⟨n - A.length - 1, by omega⟩
  have h2 : n - (A ++ [x]).length = m := by simp; omega
  unfold partB
  rw [h2, hm, List.replicate_succ, List.set_append_right _ _ (Nat.le_refl _), Nat.sub_self, List.set_cons_zero, List.append_assoc]
  rfl
theorem part_start {w : World} {B e g n : Nat} (h : w.ownsRow B e 1 (.slice (some ⟨g, 0, none⟩) n n) n (madeCells (Value.int .u8 0).cells (n * 1)).toList) :
    Bytes w B e (.slice (some ⟨g, 0, none⟩) n n) (partB [] n) := by
  rw [made_zero] at h
  rw [partB_nil]
  refine bytes_of_own ?_
  rw [List.length_replicate]
  exact h
/-- The next byte written. -/
theorem part_next {w : World} {B e g n : Nat} {A : List UInt8} (h : Bytes w B e (.slice (some ⟨g, 0, none⟩) n n) (partB A n)) (x : UInt8) (hl : A.length < n) :
    Bytes (w.setCell ⟨g, A.length, none⟩ (.int .u8 x.toNat)) B e (.slice (some ⟨g, 0, none⟩) n n) (partB (A ++ [x]) n) := by
  have hp := partB_length A n (by omega)
  have h' : Bytes w B e (.slice (some ⟨g, 0, none⟩) (partB A n).length n) (partB A n) := by rw [hp]; exact h
  have hs := bytes_set h' A.length x
  rw [partB_set A n x hl, hp] at hs
  exact hs
theorem part_at {w : World} {B e g n : Nat} {A : List UInt8} (h : Bytes w B e (.slice (some ⟨g, 0, none⟩) n n) (partB A n)) (hl : A.length < n) :
    (∃ v, w.cell? ⟨g, A.length, none⟩ = some v) ∧ w.frozen? ⟨g, A.length, none⟩ = false ∧ B ≤ g := by
  have hp := partB_length A n (by omega)
  have h' : Bytes w B e (.slice (some ⟨g, 0, none⟩) (partB A n).length n) (partB A n) := by rw [hp]; exact h
  obtain ⟨h1, h2, h3⟩ := bytes_at h' A.length (by omega)
  exact ⟨⟨_, h1⟩, h2, h3⟩

/-- 'copy(b, s)'. -/
theorem bytes_copy {P : Program} {t e u ty : TypeId} {i : TypeInfo} (ht : P.underlying t = some (.slice e)) (hi : P.info? e = some i) (hs1 : i.size = 1)
    {w : World} {B g c n : Nat} {l : List UInt8} (hn : l.length = n) (h : Bytes w B e (.slice (some ⟨g, 0, none⟩) n c) l) (s : ByteArray) (hs : s.size ≤ n) :
    ∃ w', (Builtin.copy_ #[t, u] ty #[.slice (some ⟨g, 0, none⟩) n c, .string s]).run P w = .ok (goInt s.size) w' ∧ Bytes w' B e (.slice (some ⟨g, 0, none⟩) n c) (s.data.toList ++ l.drop s.size) ∧ Below B w w' := by
  subst hn
  have hsl : s.data.toList.length = s.size := by simp
  rcases h with ⟨h, _⟩ | ⟨g', cap, cur, fz, hv, hb, hg, hfz, hlc, hm, hcs, htk⟩
  · cases h
  · simp at hv
    obtain ⟨rfl, rfl⟩ := hv
    have hst := Byt.run_store P g 0 e fz (strCells s) 0 cur w hg hfz (by rw [strCells_length]; omega) (strCells_oneCell s)
    have hf := run_firstCells_string (P := P) w 1 s
    have hln : (s.data.toList ++ l.drop s.size).length = l.length := by rw [List.length_append, List.length_drop, hsl]; omega
    simp only [Nat.add_zero, Nat.zero_add, strCells_length] at hst
    refine ⟨w.setRow g (List.take 0 cur.toList ++ strCells s ++ List.drop s.size cur.toList).toArray, ?_, .inr ⟨g, c, (List.take 0 cur.toList ++ strCells s ++ List.drop s.size cur.toList).toArray, fz, by rw [hln], hb, setRow_heap w g cur _ e fz hg, ?_, by rw [hln]; exact hlc, hm, ?_, ?_⟩, Byt.below_setRow w hb _⟩
    · simp [Builtin.copy_, run_underlying ht, Builtin.lenOf, sizeOf, typeInfo, hi, hs1, Nat.min_eq_left hs, hf, hst]
    · have hz : (List.take 0 cur.toList ++ strCells s ++ List.drop s.size cur.toList).toArray.size = cur.size := by simp [strCells_length]; omega
      rw [hz]; exact hfz
    · simp [strCells_length]; omega
    · rw [hln]
      have e1 : strCells s = bcells s.data.toList := rfl
      simp only [List.take_zero, List.nil_append, e1, bcells_append]
      have e2 : l.length = (bcells s.data.toList).length + (l.length - s.size) := by rw [bcells_length, hsl]; omega
      have e3 : bcells (l.drop s.size) = (bcells l).drop s.size := by simp [bcells]
      rw [e2, List.take_length_add_append, e3, ← htk, List.drop_take]

theorem wpList_copy_text {P : Program} {w : World} {ops : Array Oper} {rest : List Oper} {o : Oper} {a : Act} {Q : Exit → Act → World → Prop} (hgd : o.guard = none) (d s : Operand) (dT sT : TypeId)
    (ho : o.op = .call { callee := .builtin .copy, args := #[d, s], argTypes := #[dT, sT] }) (v0 v1 r : Value) (w' : World) (hd : a.eval d = v0) (hs : a.eval s = v1)
    (hrun : (Builtin.copy_ #[dT, sT] o.type #[v0, v1]).run P w = .ok r w') (h : wpList P ops Q rest (a.put o.dst r) w') : wpList P ops Q (o :: rest) a w := by
  refine wpList_plain hgd fun K hK => ?_
  unfold Oper.wp
  simp [execOp, ho, resolve, invoke, builtin, hd, hs, hrun, Result.andThen]
  exact hK _ _ h
end Go.Proofs.Ytmkchilhnmkhkab
namespace Go.Proofs.Ytmkchilhnmkhkab
open Go.RowKit Go.Proofs.Ytmkchilhnmkhkab.Hexa Go.Proofs.Ytmkchilhnmkhkab.Byt Go.Proofs.Ytmkchilhnmkhkab.BitsM

set_option maxRecDepth 100000 in
set_option maxHeartbeats 1000000 in
theorem implNum_yes (m k : Nat) (w : World) (hk : 1 ≤ k) (hk' : k ≤ 7) (hm : m < 256 ^ k) :
    Calls Try.prog 71 #[.int .i64 m, .int .i64 k] w fun e w' => e = .returned (.string (numB m k)) ∧ Below w.heap.size w w' := by
  obtain ⟨i0, hi, hz0, hz1, hz2⟩ := info_parts infoByte
  have hmb : m < 72057594037927936 := Nat.lt_of_lt_of_le hm (Nat.le_trans (Nat.pow_le_pow_right (by omega) hk') (by decide))
  have hq := shift_zero hm
  have h0 : ¬ ((m : Int) < 0) := by omega
  have hsh0 : (8 * (k : Int)).toNat = 8 * k := by omega
  clear hm
  go_enter Try.func71, Try.ntmps71
  go_wp2_with (at_make; refine wpList_make_full _ rfl _ _ 103 rfl w.heap.size 5 i0 (.int .u8 0) 1 Try.underlying103 hi hz0 hz1 .i64 .i64 _ _ k rfl rfl rfl rfl (by rw [hz2]; omega) (by unfold maxLen; omega) (Nat.le_refl _) ?_; intro w0 hown0 hgrow0)
  have hg0 : Below w.heap.size w w0 := (Below.refl _ _).grown hgrow0 (Nat.le_refl _) (fun k h => by cases h)
  have HO0 := Lib.hid (part_start hown0)
  clear hown0 hgrow0 hq hsh0
  go_loopw [6, 28] (fun jv iv wr => ∃ j : Nat, j ≤ k ∧ iv = .int .i64 j ∧ Hid (Bytes wr w.heap.size 5 (.slice (some ⟨w.heap.size, 0, none⟩) k k) (partB (numL m k j) k)) ∧ Below w.heap.size w wr)
    (fun _ iv _ => k - (intOf iv).toNat)
  case atStart => exact ⟨0, Nat.zero_le _, rfl, HO0, hg0⟩
  case round =>
    clear HO0 hg0
    obtain ⟨j, hj, rfl, HW, hbel⟩ := hrel
    have hl := numL_length m k j
    by_cases hlt : j < k
    · have hsh : (8 * ((k : Int) - 1 - j)).toNat = 8 * (k - 1 - j) := by omega
      have hge : 0 ≤ (k : Int) - 1 - j := by omega
      have hby := num_byte m (k - 1 - j)
      have HNX := Lib.hid (numL_next m k j)
      obtain ⟨⟨v, c3⟩, z3, hB⟩ := part_at HW.out (by omega)
      have N3 := Lib.hid (part_next HW.out (UInt8.ofNat (m / 256 ^ (k - 1 - j))) (by omega))
      rw [hl] at c3 z3 N3
      rw [HNX.out] at N3
      generalize UInt8.ofNat (m / 256 ^ (k - 1 - j)) = z at hby N3
      have hb1 : Below w.heap.size w (wr.setCell ⟨w.heap.size, j, none⟩ (.int .u8 (z.toNat : Int))) := hbel.setCell (Nat.le_refl _) _
      clear HNX
      go_wp2
      go_roundw
      case rel => exact ⟨j + 1, by omega, by go_num, N3, hb1⟩
      case measure => (simp [intOf]; try omega)
    · obtain rfl : j = k := by omega
      have h9 := HW.out
      rw [partB_full _ _ hl] at h9
      have hconv := bytes_string (P := Try.prog) 103 9 Try.underlying103 Try.underlying5 Try.underlying9 h9
      clear h9
      go_wp2
      go_ret
      exact ⟨rfl, hbel⟩
end Go.Proofs.Ytmkchilhnmkhkab
namespace Go.Proofs.Ytmkchilhnmkhkab
open Go.RowKit Go.Proofs.Ytmkchilhnmkhkab.Hexa Go.Proofs.Ytmkchilhnmkhkab.Byt Go.Proofs.Ytmkchilhnmkhkab.BitsM

set_option maxRecDepth 100000 in
set_option maxHeartbeats 1000000 in
theorem implNum_no (n width : Int) (w : World) (h : ¬ NumFits n width) (hn : n ≤ 9223372036854775807) :
    Calls Try.prog 71 #[.int .i64 n, .int .i64 width] w fun e w' => e = .returned (.string ⟨#[]⟩) ∧ w' = w := by
  by_cases h0 : n < 0
  · go_enter Try.func71, Try.ntmps71
    go_wp2
    go_ret
    exact ⟨rfl, rfl⟩
  · by_cases hr1 : width < 1
    · go_enter Try.func71, Try.ntmps71
      go_wp2
      go_ret
      exact ⟨rfl, rfl⟩
    · by_cases hr2 : 7 < width
      · go_enter Try.func71, Try.ntmps71
        go_wp2
        go_ret
        exact ⟨rfl, rfl⟩
      · have hbig : ¬ n < 256 ^ width.toNat := fun hlt => h ⟨by omega, ⟨by omega, by omega⟩, hlt⟩
        obtain ⟨k, rfl⟩ : ∃ k : Nat, width = k := ⟨width.toNat, by omega⟩
        obtain ⟨m, rfl⟩ : ∃ m : Nat, n = m := ⟨n.toNat, by omega⟩
        have hm : 256 ^ k ≤ m := by
          have e : ((k : Int).toNat) = k := by omega
          rw [e] at hbig
          have e2 : (256 : Int) ^ k = ((256 ^ k : Nat) : Int) := by simp
          rw [e2] at hbig
          omega
        have hq0 := shift_pos hm
        have hq : ¬ ((m : Int) / 2 ^ (8 * k) = 0) := by omega
        have hsh0 : (8 * (k : Int)).toNat = 8 * k := by omega
        clear h hbig hm hq0
        go_enter Try.func71, Try.ntmps71
        go_wp2
        go_ret
        exact ⟨rfl, rfl⟩

theorem implNum_any (n width : Int) (w : World) (hn : n ≤ 9223372036854775807) :
    Calls Try.prog 71 #[.int .i64 n, .int .i64 width] w fun e w' => e = .returned (.string (numTextB n width)) ∧ Below w.heap.size w w' := by
  by_cases h : NumFits n width
  · have hE : numTextB n width = numB n.toNat width.toNat := by unfold numTextB; exact if_pos h
    obtain ⟨h0, ⟨h1, h7⟩, hf⟩ := h
    obtain ⟨m, rfl⟩ : ∃ m : Nat, n = m := ⟨n.toNat, by omega⟩
    obtain ⟨k, rfl⟩ : ∃ k : Nat, width = k := ⟨width.toNat, by omega⟩
    rw [hE]
    simp only [Int.toNat_natCast] at hf ⊢
    have e2 : (256 : Int) ^ k = ((256 ^ k : Nat) : Int) := by simp
    rw [e2] at hf
    exact implNum_yes m k w (by omega) (by omega) (by omega)
  · have hE : numTextB n width = ⟨#[]⟩ := by unfold numTextB; exact if_neg h
    rw [hE]
    exact (implNum_no n width w h hn).mono fun e w' ⟨he, hw⟩ => ⟨he, by rw [hw]; exact Below.refl _ _⟩
end Go.Proofs.Ytmkchilhnmkhkab
namespace Go.Proofs.Ytmkchilhnmkhkab
open Go.RowKit Go.Proofs.Ytmkchilhnmkhkab.Parts Go.Proofs.Ytmkchilhnmkhkab.Hexa Go.Proofs.Ytmkchilhnmkhkab.Byt

set_option maxRecDepth 100000 in
set_option maxHeartbeats 1000000 in
theorem implRecWord_no (p q : Int) (m : ByteArray) (w : World) (_hm : m.size ≤ 2000000) (h : ¬ RecOk ⟨p, q, m⟩) :
    Calls Try.prog 68 #[.agg #[.int .i64 p, .int .i64 q, .string m]] w (SaysT ⟨#[]⟩ w) := by
  by_cases h0 : 1 ≤ p ∧ p ≤ 12
  · have H0 := Lib.hid h0
    by_cases h1 : 1 ≤ q ∧ q ≤ 16777215
    · have H1 := Lib.hid h1
      have h2 : ¬ m.size = 4 := fun e => h ⟨h0, h1, e⟩
      have e8 : ((m.size : Int) == 4) = false := by simp; omega
      have e9 : ((m.size : Int) != 4) = true := by simp; omega
      clear h0 h1 h
      go_enter Try.func68, Try.ntmps68
      go_wp2_with (first | ((with_reducible refine (implIn_yes _ H0.out).mono ?_); rintro e w1 ⟨rfl, rfl⟩) | ((with_reducible refine (implIn_yes _ H1.out).mono ?_); rintro e w1 ⟨rfl, rfl⟩))
      go_ret
      exact ⟨rfl, below_bk w _⟩
    · have H1 := Lib.hid h1
      clear h0 h1 h
      go_enter Try.func68, Try.ntmps68
      go_wp2_with (first | ((with_reducible refine (implIn_yes _ H0.out).mono ?_); rintro e w1 ⟨rfl, rfl⟩) | ((with_reducible refine (implIn_no _ H1.out).mono ?_); rintro e w1 ⟨rfl, rfl⟩))
      go_ret
      exact ⟨rfl, below_bk w _⟩
  · have H0 := Lib.hid h0
    clear h0 h
    go_enter Try.func68, Try.ntmps68
    go_wp2_with ((with_reducible refine (implIn_no _ H0.out).mono ?_); rintro e w1 ⟨rfl, rfl⟩)
    go_ret
    exact ⟨rfl, below_bk w _⟩

set_option maxRecDepth 100000 in
set_option maxHeartbeats 1000000 in
theorem implRecWord_yes (p q : Int) (m : ByteArray) (w : World) (h : RecOk ⟨p, q, m⟩) :
    Calls Try.prog 68 #[.agg #[.int .i64 p, .int .i64 q, .string m]] w (SaysT (recWordB ⟨p, q, m⟩) w) := by
  have HE := Lib.hid (recWordB_yes h)
  obtain ⟨h0, h1, h2⟩ := h
  have H0 : Hid (1 ≤ p ∧ p ≤ 12) := Lib.hid h0
  have H1 : Hid (1 ≤ q ∧ q ≤ 16777215) := Lib.hid h1
  have hm4 : m.size = 4 := h2
  have e8 : ((m.size : Int) == 4) = true := by simp; omega
  have e9 : ((m.size : Int) != 4) = false := by simp; omega
  have T0 := Lib.hid (Bk.alloc w #[.int .i64 p, .int .i64 q, .string m] 70)
  have B0 := Lib.hid (below_bk w (.cells #[.int .i64 p, .int .i64 q, .string m] 70))
  have hA : (numTextB p 1).size = 1 := numText_size (k := 1) (by omega) (by have := H0.out.1; omega) (by have := H0.out.2; omega)
  have hB : (numTextB q 3).size = 3 := numText_size (k := 3) (by omega) (by have := H1.out.1; omega) (by have := H1.out.2; omega)
  obtain ⟨A, hAe⟩ : ∃ A, numTextB p 1 = A := ⟨_, rfl⟩
  obtain ⟨D, hDe⟩ : ∃ D, numTextB q 3 = D := ⟨_, rfl⟩
  have HA := Lib.hid hAe
  have HD := Lib.hid hDe
  rw [hAe] at hA
  rw [hDe] at hB
  have hA1 : A.size ≤ 1 := by omega
  have hB1 : D.size ≤ 3 := by omega
  have hAD : ¬ (9223372036854775807 < A.size + D.size) := by omega
  have hADm : ¬ (9223372036854775807 < A.size + D.size + 4) := by omega
  clear h0 h1 h2 hAe hDe hA hB
  go_enter Try.func68, Try.ntmps68
  go_wp2_with (first | ((with_reducible refine (implIn_yes _ H0.out).mono ?_); rintro e w1 ⟨rfl, rfl⟩) | ((with_reducible refine (implIn_yes _ H1.out).mono ?_); rintro e w1 ⟨rfl, rfl⟩))
  have T0d := Lib.hid T0.out.drew
  have B0d : Hid (Below w.heap.size w (w.alloc (.cells #[.int .i64 p, .int .i64 q, .string m] 70)).drew) := Lib.hid B0.out.drew
  go_region_held3 (fun w' => w'.cell? ⟨w.heap.size, 0, none⟩ = some (.int .i64 p) ∧ w'.cell? ⟨w.heap.size, 1, none⟩ = some (.int .i64 q) ∧ w'.cell? ⟨w.heap.size, 2, none⟩ = some (.string m))
    (first
      | exact ⟨T0d.out.cell rfl, T0d.out.cell rfl, T0d.out.cell rfl⟩
      | exact ⟨T1.out.cell rfl, T1.out.cell rfl, T1.out.cell rfl⟩
      | exact ⟨T2.out.cell rfl, T2.out.cell rfl, T2.out.cell rfl⟩
      | go_keep)
    (first
      | (go_at_call 71; (with_reducible refine (implNum_any p 1 _ (by have := H0.out.2; omega)).mono ?_); rw [HA.out]; rintro e w1 ⟨rfl, hb⟩; have T1 := Lib.hid (T0d.out.later hb); have B1 : Hid (Below w.heap.size w w1) := Lib.hid (B0d.out.trans (hb.mono B0d.out.size)); clear hb)
      | (go_at_call 71; (with_reducible refine (implNum_any q 3 _ (by have := H1.out.2; omega)).mono ?_); rw [HD.out]; rintro e w2 ⟨rfl, hb⟩; have T2 := Lib.hid (T1.out.later hb); have B2 : Hid (Below w.heap.size w w2) := Lib.hid (B1.out.trans (hb.mono B1.out.size)); clear hb))
  go_wp2
  go_ret
  exact ⟨by rw [HE.out, HA.out, HD.out]; rfl, B2.out⟩
theorem implRecWord_any (p q : Int) (m : ByteArray) (w : World) (hm : m.size ≤ 2000000) :
    Calls Try.prog 68 #[.agg #[.int .i64 p, .int .i64 q, .string m]] w (SaysT (recWordB ⟨p, q, m⟩) w) := by
  by_cases h : RecOk ⟨p, q, m⟩
  · exact implRecWord_yes p q m w h
  · rw [recWordB_no h]; exact implRecWord_no p q m w hm h
end Go.Proofs.Ytmkchilhnmkhkab
namespace Go.Proofs.Ytmkchilhnmkhkab
open Go.RowKit Go.Proofs.Ytmkchilhnmkhkab.Parts Go.Proofs.Ytmkchilhnmkhkab.Hexa Go.Proofs.Ytmkchilhnmkhkab.Byt

theorem implPages_any (n : Int) (w : World) (h0 : -9223372036854775808 ≤ n) (h1 : n ≤ 9223372036854775807) : Calls Try.prog 67 #[.int .i64 n] w fun e w' => e = .returned (.int .i64 (pagesZ n)) ∧ w' = w := by
  by_cases h : n ≤ 0
  · have HE : Hid (pagesZ n = 0) := Lib.hid (if_pos h)
    go_enter Try.func67, Try.ntmps67
    go_wp2
    go_ret
    exact ⟨by rw [HE.out]; rfl, rfl⟩
  · have HE : Hid (pagesZ n = (n - 1) / 32 + 1) := Lib.hid (if_neg h)
    have hp : 1 ≤ n := by omega
    have hd : (n - 1) / 32 ≤ 288230376151711743 := by omega
    have hd0 : 0 ≤ (n - 1) / 32 := by omega
    go_enter Try.func67, Try.ntmps67
    go_wp2
    go_ret
    exact ⟨by rw [HE.out]; rfl, rfl⟩

end Go.Proofs.Ytmkchilhnmkhkab
namespace Go.Proofs.Ytmkchilhnmkhkab
open Go.RowKit Go.Proofs.Ytmkchilhnmkhkab.Parts Go.Proofs.Ytmkchilhnmkhkab.Hexa Go.Proofs.Ytmkchilhnmkhkab.Byt

/-- Which pages the first k records have. -/
def takenB (R : List RecR) (k q : Nat) : Bool := (List.range k).any fun i => (R.getD i default).f0 == (q : Int)
theorem takenB_iff {R : List RecR} {k q : Nat} : takenB R k q = true ↔ ∃ i, i < k ∧ (R.getD i default).f0 = (q : Int) := by simp [takenB]
structure TakenTo (R : List RecR) (k : Nat) (cs : Array Value) : Prop where
  size : cs.size = 13
  cell : ∀ q, q < 13 → cs[q]? = some (.bool (takenB R k q))
theorem TakenTo.zero (R : List RecR) : TakenTo R 0 #[.bool false, .bool false, .bool false, .bool false, .bool false, .bool false, .bool false, .bool false, .bool false, .bool false, .bool false, .bool false, .bool false] :=
  ⟨rfl, fun q hq => by
    match q, hq with
    | 0, _ => rfl
    | 1, _ => rfl
    | 2, _ => rfl
    | 3, _ => rfl
    | 4, _ => rfl
    | 5, _ => rfl
    | 6, _ => rfl
    | 7, _ => rfl
    | 8, _ => rfl
    | 9, _ => rfl
    | 10, _ => rfl
    | 11, _ => rfl
    | 12, _ => rfl
    | q + 13, h => omega⟩
theorem takenB_next (R : List RecR) (k q p : Nat) (hp : (R.getD k default).f0 = (p : Int)) : takenB R (k + 1) q = (takenB R k q || decide (q = p)) := by
  unfold takenB
  rw [List.range_succ, List.any_append]
  simp only [List.any_cons, List.any_nil, Bool.or_false, hp]
  congr 1
  by_cases h : q = p
  · subst h; simp
  · simp [h]; omega
theorem TakenTo.next {R : List RecR} {k p : Nat} {cs : Array Value} (h : TakenTo R k cs) (hp : (R.getD k default).f0 = (p : Int)) (h12 : p < 13) : TakenTo R (k + 1) (cs.setIfInBounds p (.bool true)) :=
  ⟨by simp [h.size], fun q hq => by
    rw [takenB_next R k q p hp, Array.getElem?_setIfInBounds]
    by_cases e : p = q
    · subst e; simp [h.size, h12]
    · rw [if_neg e, h.cell q hq]
      have : ¬ q = p := fun x => e x.symm
      simp [this]⟩

section
variable (sz : Int) (key : ByteArray) (aR : Option Addr) (nR cR : Nat) (w : World) (R : List RecR)

set_option maxRecDepth 100000 in
set_option maxHeartbeats 1000000 in
theorem implFile_no (hz : -9223372036854775808 ≤ sz ∧ sz ≤ 9223372036854775807) (hno : ¬ ((0 ≤ sz ∧ sz ≤ 128) ∧ key.size = 8 ∧ (nR : Int) = pagesZ sz)) :
    Calls Try.prog 57 #[.agg #[.int .i64 sz, .string key, .slice aR nR cR]] w (SaysB false w) := by
  have HZ := Lib.hid hz
  have B0 := Lib.hid (below_bk w (.cells #[.int .i64 sz, .string key, .slice aR nR cR] 88))
  clear hz
  by_cases h1 : 0 ≤ sz ∧ sz ≤ 128
  · have H1 := Lib.hid h1
    by_cases h2 : key.size = 8
    · have e2 : ((key.size : Int) != 8) = false := by simp; omega
      have h3 : ¬ (nR : Int) = pagesZ sz := fun e => hno ⟨h1, h2, e⟩
      obtain ⟨p, hp⟩ : ∃ p, pagesZ sz = p := ⟨_, rfl⟩
      have HQ : Hid (∀ W : World, Calls Try.prog 67 #[.int .i64 sz] W fun e w' => e = .returned (.int .i64 p) ∧ w' = W) := Lib.hid (fun W => by
        rw [← hp]; exact implPages_any sz W HZ.out.1 HZ.out.2)
      rw [hp] at h3
      have e3 : ((nR : Int) != p) = true := by simpa using h3
      clear hno h1 h3 hp
      go_enter Try.func57, Try.ntmps57
      go_wp2
      go_quiet (first
        | (go_at_call 29; exact Calls.quiet_of_same (implIn_yes _ H1.out))
        | (go_at_call 67; exact Calls.quiet_of_same (HQ.out _)))
      go_wp2
      go_ret
      exact ⟨rfl, below_drewsN B0.out _⟩
    · have e2 : ((key.size : Int) != 8) = true := by have : ¬ ((key.size : Int) = 8) := by omega
                                                     simpa using this
      clear hno h1 h2
      go_enter Try.func57, Try.ntmps57
      go_wp2
      go_quiet ((go_at_call 29; exact Calls.quiet_of_same (implIn_yes _ H1.out)))
      go_wp2
      go_ret
      exact ⟨rfl, below_drewsN B0.out _⟩
  · have H1 := Lib.hid h1
    clear hno h1
    go_enter Try.func57, Try.ntmps57
    go_wp2
    go_quiet ((go_at_call 29; exact Calls.quiet_of_same (implIn_no _ H1.out)))
    go_wp2
    go_ret
    exact ⟨rfl, below_drewsN B0.out _⟩

set_option maxRecDepth 100000 in
set_option maxHeartbeats 2000000 in
theorem implFile_yes (h1 : 0 ≤ sz ∧ sz ≤ 128) (h2 : key.size = 8) (h3 : (nR : Int) = pagesZ sz) (hs : SrcRec w aR nR R) (hf : FitRec R nR 2000000) (b : Bool) (hb : b = true ↔ RecsOk R nR) :
    Calls Try.prog 57 #[.agg #[.int .i64 sz, .string key, .slice aR nR cR]] w (SaysB b w) := by
  have H1 := Lib.hid h1
  have HF := Lib.hid hf
  have HG := Lib.hid hb
  have B0 := Lib.hid (below_bk w (.cells #[.int .i64 sz, .string key, .slice aR nR cR] 88))
  have HS := Lib.hid hs
  have N0 : Hid ((w.alloc (.cells #[.int .i64 sz, .string key, .slice aR nR cR] 88)).heap.size = w.heap.size + 1) := Lib.hid (by simp)
  have e2 : ((key.size : Int) != 8) = false := by simp; omega
  have hn4 : nR ≤ 4 := by unfold pagesZ at h3; split at h3 <;> omega
  have HQ : Hid (∀ W : World, Calls Try.prog 67 #[.int .i64 sz] W fun e w' => e = .returned (.int .i64 nR) ∧ w' = W) := Lib.hid (fun W => by
    rw [h3]; exact implPages_any sz W (by omega) (by omega))
  clear h1 h2 h3 hs hf hb
  go_enter Try.func57, Try.ntmps57
  go_wp2
  go_quiet (first
    | (go_at_call 29; exact Calls.quiet_of_same (implIn_yes _ H1.out))
    | (go_at_call 67; exact Calls.quiet_of_same (HQ.out _)))
  go_wp2
  go_loopw [28] (fun iv wr => ∃ (k : Nat) (cs : Array Value), k ≤ nR ∧ iv = .int .i64 k ∧ Hid (RecsOk R k) ∧ Hid (TakenTo R k cs) ∧ Hid (Bk wr (w.heap.size + 1) cs 105) ∧ Hid (Below w.heap.size w wr)) (fun iv _ => nR - (intOf iv).toNat)
  case atStart =>
    exact ⟨0, _, Nat.zero_le _, rfl, Lib.hid (fun j hj => by omega), Lib.hid (TakenTo.zero R), Lib.hid (by rw [← N0.out]; exact Bk.alloc _ _ _), Lib.hid ((below_drewsN B0.out _).alloc B0.out.size _)⟩
  case round =>
    obtain ⟨k, cs, hk, rfl, HA, HT0, HK, HB⟩ := hrel
    by_cases hlt : k < nR
    · obtain ⟨g, off, ha, hg, d0, d1, d2⟩ := srcRec_later HS.out HB.out (Nat.le_refl _) k hlt
      obtain ⟨⟨p, q, m⟩, hx⟩ : ∃ x, R.getD k default = x := ⟨_, rfl⟩
      have hm := HF.out k hlt
      rw [hx] at d0 d1 d2 hm
      simp only at d0 d1 d2 hm
      have HX := Lib.hid hx
      have HM := Lib.hid hm
      have X0 := Lib.hid (Bk.alloc wr #[.int .i64 p, .int .i64 q, .string m] 70)
      have HKa := Lib.hid (HK.out.later (below_bk wr (.cells #[.int .i64 p, .int .i64 q, .string m] 70)))
      have HBa : Hid (Below w.heap.size w (wr.alloc (.cells #[.int .i64 p, .int .i64 q, .string m] 70))) := Lib.hid (HB.out.alloc HB.out.size _)
      have HNa : Hid (w.heap.size + 1 < wr.heap.size) := Lib.hid HK.out.lt
      subst ha
      clear hx hm
      by_cases i1 : RecOk ⟨p, q, m⟩
      · have hT8 := recWord_size i1
        have I1 := Lib.hid i1
        have hp1 : 1 ≤ p ∧ p ≤ 12 := i1.1
        obtain ⟨r, rfl⟩ : ∃ r : Nat, p = (r : Int) := ⟨p.toNat, by omega⟩
        have hr0 : 0 < r := by omega
        have hr12 : r < 13 := by omega
        obtain ⟨T, hT⟩ : ∃ T, recWordB ⟨(r : Int), q, m⟩ = T := ⟨_, rfl⟩
        have HT := Lib.hid hT
        rw [hT] at hT8
        have e1 : (T.toList == []) = false := text_full T (by omega)
        clear i1 hT hT8 hp1
        go_wp2_with fail
        refine (implRecWord_any (r : Int) q m _ HM.out).mono ?_
        rw [HT.out]
        rintro e w1 ⟨rfl, hb1⟩
        have X1 := Lib.hid (X0.out.later hb1)
        have K1 := Lib.hid (HKa.out.later hb1)
        have B1 : Hid (Below w.heap.size w w1) := Lib.hid (HBa.out.trans (hb1.mono HBa.out.size))
        have x0 := X1.out.cell (j := 0) rfl
        have f1 := K1.out.fr (o := r)
        have S1 : Hid (Bk (w1.setCell ⟨w.heap.size + 1, r, none⟩ (.bool true)) (w.heap.size + 1) (cs.setIfInBounds r (.bool true)) 105) := Lib.hid (K1.out.set r (.bool true))
        have B2 : Hid (Below w.heap.size w (w1.setCell ⟨w.heap.size + 1, r, none⟩ (.bool true))) := Lib.hid (B1.out.setCell (by simp) _)
        have HT2 := Lib.hid (HT0.out.next (p := r) (by rw [HX.out]) hr12)
        clear hb1 d0 d1 d2 HB HK HKa HBa
        by_cases i2 : takenB R k r = true
        · have k1 : w1.cell? ⟨w.heap.size + 1, r, none⟩ = some (.bool true) := by
            have h9 := K1.out.cell (HT0.out.cell r hr12)
            rw [i2] at h9; exact h9
          obtain rfl : b = false := bool_no HG.out (fun x => by
            obtain ⟨i, hi, he⟩ := takenB_iff.1 i2
            exact (x k hlt).2 i hi (by rw [he, HX.out]))
          clear i2
          go_wp2
          go_ret
          exact ⟨rfl, B1.out⟩
        · have k1 : w1.cell? ⟨w.heap.size + 1, r, none⟩ = some (.bool false) := by
            have h9 := K1.out.cell (HT0.out.cell r hr12)
            rw [show takenB R k r = false by simpa using i2] at h9; exact h9
          have HA2 : Hid (RecsOk R (k + 1)) := Lib.hid (recsOk_step HA.out (by rw [HX.out]; exact I1.out) (fun j hj e => i2 (takenB_iff.2 ⟨j, hj, by rw [e, HX.out]⟩)))
          clear i2
          go_wp2
          clear x0 f1 k1
          go_roundw
          case rel => exact ⟨k + 1, _, by omega, by go_num, HA2, HT2, S1, B2⟩
          case measure => (simp [intOf]; try omega)
      · have HT := Lib.hid (recWordB_no i1)
        obtain rfl : b = false := bool_no HG.out (fun x => i1 (by have h9 := (x k hlt).1; rw [HX.out] at h9; exact h9))
        clear i1
        go_wp2_with fail
        refine (implRecWord_any p q m _ HM.out).mono ?_
        rw [HT.out]
        rintro e w1 ⟨rfl, hb1⟩
        have B1 : Hid (Below w.heap.size w w1) := Lib.hid (HBa.out.trans (hb1.mono HBa.out.size))
        clear hb1 d0 d1 d2 HB HK HKa HBa
        go_wp2
        go_ret
        exact ⟨rfl, B1.out⟩
    · obtain rfl : k = nR := by omega
      obtain rfl : b = true := HG.out.2 HA.out
      go_wp2
      go_ret
      exact ⟨rfl, HB.out⟩
theorem implFile_any (hz : -9223372036854775808 ≤ sz ∧ sz ≤ 9223372036854775807) (hs : SrcRec w aR nR R) (hf : FitRec R nR 2000000) (b : Bool) (hb : b = true ↔ ((0 ≤ sz ∧ sz ≤ 128) ∧ key.size = 8 ∧ (nR : Int) = pagesZ sz ∧ RecsOk R nR)) :
    Calls Try.prog 57 #[.agg #[.int .i64 sz, .string key, .slice aR nR cR]] w (SaysB b w) := by
  by_cases h : (0 ≤ sz ∧ sz ≤ 128) ∧ key.size = 8 ∧ (nR : Int) = pagesZ sz
  · exact implFile_yes sz key aR nR cR w R h.1 h.2.1 h.2.2 hs hf b ⟨fun e => (hb.1 e).2.2.2, fun e => hb.2 ⟨h.1, h.2.1, h.2.2, e⟩⟩
  · obtain rfl : b = false := bool_no hb (fun x => h ⟨x.1, x.2.1, x.2.2.1⟩)
    exact implFile_no sz key aR nR cR w hz h
end
end Go.Proofs.Ytmkchilhnmkhkab
