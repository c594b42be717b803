/- Merged texts: Draw12D, Draw12E, RangeImpl, Made, NumImpl, NumImplB, RecImpl. -/
import Derived.Test.YtmkchilhnmkhkaaDoorPIG
import Derived.OneCell
import Derived.Test.YtmkchilhnmkhkaaDoorRows
import Derived.WalkKit
import Derived.WalkSpells
import Derived.RowKit3
import Derived.Lib.Hide
import Derived.Laws.MakeOwn
import Derived.Lib.AppendStr
import Derived.WalkLawsBesides
import Derived.Deep.RegionLaw
namespace Go.Proofs.YtmkchilhnmkhkaaDoor
open Go.RowKit Go.Proofs.YtmkchilhnmkhkaaDoor.Hexa Go.Proofs.YtmkchilhnmkhkaaDoor.Byt
namespace Draw

/-- Small enough for every function that takes an inode. -/
def InoSmall (i : InoR) : Prop := (-9223372036854775808 ≤ i.sz ∧ i.sz ≤ 9223372036854775807) ∧ i.R.length ≤ 100 ∧ i.E.length ≤ 100 ∧ FitRec i.R i.R.length 2000000 ∧ FitEntry i.E i.E.length 2000000
theorem small_of_ok {i : InoR} (h : InoOk i) : InoSmall i := by
  rcases h.2 with ⟨_, h1, h2, h3, h4⟩ | ⟨_, h1, h2, h3, h4, h5⟩ | ⟨_, h1, h2, h3, h4, h5⟩
  · exact ⟨by omega, by omega, by omega, fun j hj => by omega, fun j hj => by omega⟩
  · refine ⟨by omega, ?_, by omega, fun j hj => ?_, fun j hj => by omega⟩
    · unfold pagesZ at h3; split at h3 <;> omega
    · have := (h5 j hj).1.2.2; omega
  · refine ⟨by omega, by omega, by omega, fun j hj => by omega, fun j hj => ?_⟩
    have := (h5 j hj).1.2.1; omega
theorem len_of_ok {i : InoR} (h : InoOk i) : i.R.length ≤ 10 ∧ i.E.length ≤ 10 := by
  rcases h.2 with ⟨_, h1, h2, h3, h4⟩ | ⟨_, h1, h2, h3, h4, h5⟩ | ⟨_, h1, h2, h3, h4, h5⟩
  · omega
  · unfold pagesZ at h3; split at h3 <;> omega
  · omega
theorem fit_snocR {R : List RecR} {x : RecR} (h : FitRec R R.length 2000000) (hx : x.f2.size ≤ 8) : FitRec (R ++ [x]) (R ++ [x]).length 2000000 := fun j hj => by
  rw [getD_last]
  by_cases e : j = R.length
  · rw [if_pos e]; omega
  · rw [if_neg e]; exact h j (by simp at hj; omega)
theorem fit_snocE {R : List EntryR} {x : EntryR} (h : FitEntry R R.length 2000000) (hx : x.f1.size ≤ 8) : FitEntry (R ++ [x]) (R ++ [x]).length 2000000 := fun j hj => by
  rw [getD_last]
  by_cases e : j = R.length
  · rw [if_pos e]; omega
  · rw [if_neg e]; exact h j (by simp at hj; omega)

/-- What any drawn inode is: the two rows are the call's own. -/
def AnyDrawn (P : InoR → Prop) (w : World) (c : Nat) (ad : Option Addr) (len cap : Nat) (e : Ending) (w' : World) : Prop :=
  ∃ kd sz gn key aR cR aE cE R E, P ⟨kd, sz, gn, key, R, E⟩ ∧ e = .returned (.agg #[.int .i64 kd, .int .i64 sz, .int .i64 gn, .string key, .slice aR R.length cR, .slice aE E.length cE])
    ∧ w'.ownsRow w.heap.size 66 3 (.slice aR R.length cR) R.length (cellsE encRec R) ∧ w'.ownsRow w.heap.size 47 2 (.slice aE E.length cE) E.length (cellsE encEntry E) ∧ Cur w' c ad len cap ∧ w.grownBy w' (some c)

structure Rows (w wr : World) (c : Nat) (ad : Option Addr) (len cap bx : Nat) (cs : Array Value) (aR : Option Addr) (nR cR : Nat) (R : List RecR) (aE : Option Addr) (nE cE : Nat) (E : List EntryR) : Prop where
  core : Core w wr c ad len cap bx cs
  rR : wr.ownsRow (w.heap.size + 1) 66 3 (.slice aR nR cR) nR (cellsE encRec R)
  rE : wr.ownsRow (w.heap.size + 1) 47 2 (.slice aE nE cE) nE (cellsE encEntry E)
  nR : (Value.slice aR nR cR).ownBlock ≠ some bx
  nE : (Value.slice aE nE cE).ownBlock ≠ some bx
section
variable {w wr w' : World} {c : Nat} {ad : Option Addr} {len cap bx : Nat} {cs : Array Value} {aR aE : Option Addr} {nR cR nE cE : Nat} {R : List RecR} {E : List EntryR}
theorem Rows.draw (h : Rows w wr c ad len cap bx cs aR nR cR R aE nE cE E) (hc : Cur w' c ad len cap) (hg : wr.grownBy w' (some c)) : Rows w w' c ad len cap bx cs aR nR cR R aE nE cE E :=
  ⟨h.core.draw hc hg, own_draw h.rR hg (by have := h.core.cl; omega), own_draw h.rE hg (by have := h.core.cl; omega), h.nR, h.nE⟩
theorem Rows.drew (h : Rows w wr c ad len cap bx cs aR nR cR R aE nE cE E) : Rows w wr.drew c ad len cap bx cs aR nR cR R aE nE cE E := ⟨h.core.drew, h.rR, h.rE, h.nR, h.nE⟩
theorem Rows.set (h : Rows w wr c ad len cap bx cs aR nR cR R aE nE cE E) (j : Nat) (v : Value) : Rows w (wr.setCell ⟨bx, j, none⟩ v) c ad len cap bx (cs.setIfInBounds j v) aR nR cR R aE nE cE E :=
  ⟨h.core.set j v, ownsRow_setCell_other h.rR h.nR v, ownsRow_setCell_other h.rE h.nE v, h.nR, h.nE⟩
theorem Core.own2 (h : Core w wr c ad len cap bx cs) {r : Option Nat} (hg : wr.grownBy w' r) (hr : ∀ k, r = some k → w.heap.size < k ∧ k ≠ bx) : Core w w' c ad len cap bx cs :=
  ⟨h.box.grown hg (fun e => by have := hr _ e; omega), h.res.grown hg (fun e => by have := hr _ e; have := h.low; omega), h.low, h.cl, cur_grown h.cur hg (fun e => by have := hr _ e.symm; have := h.low; have := h.cl; omega),
   src_grown' h.src hg (fun k e => by have := hr _ e; have := h.low; have := h.cl; omega) (Nat.le_of_lt (cur_lt h.cur)),
   ⟨hg.os.trans h.grown.os, hg.tape.trans h.grown.tape, hg.output.trans h.grown.output, Nat.le_trans h.grown.size hg.size, fun k hk hne => (hg.block k (Nat.lt_of_lt_of_le hk h.grown.size) (fun e => by have := hr k e.symm; have := h.low; omega)).trans (h.grown.block k hk hne)⟩⟩
end
theorem own_keep {w w' : World} {B e k n m cp : Nat} {a b : Option Addr} {cb : Nat} {xs : List Value} (h : w.ownsRow B e k (.slice a n cp) n xs) (hx : b = none ∨ a = none) (hg : w.grownBy w' (Value.slice b m cb).ownBlock) : w'.ownsRow B e k (.slice a n cp) n xs :=
  ⟨h.1, h.2.imp id fun ⟨g, cp', cur, hv, hb, hh, r⟩ => ⟨g, cp', cur, hv, hb, by
    rw [hg.block g (Array.getElem?_eq_some_iff.1 hh).1 (fun e => by
      rcases hx with rfl | rfl
      · simp [Value.ownBlock] at e
      · cases hv)]
    exact hh, r⟩⟩
theorem own_alloc {w : World} {B e k n : Nat} {v : Value} {xs : List Value} (h : w.ownsRow B e k v n xs) (o : Obj) : (w.alloc o).ownsRow B e k v n xs :=
  ⟨h.1, h.2.imp id fun ⟨g, cp, cur, hv, hb, hh, r⟩ => ⟨g, cp, cur, hv, hb, by rw [Below.heap_alloc _ _ _ (Array.getElem?_eq_some_iff.1 hh).1]; exact hh, r⟩⟩

theorem any_end {P : InoR → Prop} {w wr : World} {c : Nat} {ad : Option Addr} {len cap bx : Nat} {kd sz gn : Int} {key : ByteArray} {aR aE : Option Addr} {nR cR nE cE : Nat} {R : List RecR} {E : List EntryR}
    (h : Rows w wr c ad len cap bx #[.int .i64 kd, .int .i64 sz, .int .i64 gn, .string key, .slice aR nR cR, .slice aE nE cE] aR nR cR R aE nE cE E) (hP : P ⟨kd, sz, gn, key, R, E⟩) (hR : R.length = nR) (hE : E.length = nE) :
    AnyDrawn P w c ad len cap (.returned (.agg #[.int .i64 kd, .int .i64 sz, .int .i64 gn, .string key, .slice aR nR cR, .slice aE nE cE])) (wr.setCells w.heap.size 0 [.int .i64 kd, .int .i64 sz, .int .i64 gn, .string key, .slice aR nR cR, .slice aE nE cE]) := by
  subst hR hE
  have hk := sets_kept w.heap.size 0 [.int .i64 kd, .int .i64 sz, .int .i64 gn, .string key, .slice aR R.length cR, .slice aE E.length cE] h.core.cur h.core.grown (by have := h.core.cl; omega) (Nat.le_refl _)
  refine ⟨kd, sz, gn, key, aR, cR, aE, cE, R, E, hP, rfl, ownE_mono (B := w.heap.size + 1) ?_ (by omega), ownE_mono (B := w.heap.size + 1) ?_ (by omega), hk.1, hk.2⟩
  · exact own_set (own_set (own_set (own_set (own_set (own_set h.rR (by omega) _) (by omega) _) (by omega) _) (by omega) _) (by omega) _) (by omega) _
  · exact own_set (own_set (own_set (own_set (own_set (own_set h.rE (by omega) _) (by omega) _) (by omega) _) (by omega) _) (by omega) _) (by omega) _
/-- A record, an entry added: the row and its field. -/
theorem Rows.snocR {w wr w' : World} {c : Nat} {ad : Option Addr} {len cap bx : Nat} {cs : Array Value} {aR aE : Option Addr} {nR cR nE cE : Nat} {R : List RecR} {E : List EntryR} (h : Rows w wr c ad len cap bx cs aR nR cR R aE nE cE E) (hx : aR = none ∨ aE = none)
    {o : Obj} {a6 : Option Addr} {c6 m : Nat} {R6 : List RecR} (hown : w'.ownsRow (w.heap.size + 1) 66 3 (.slice a6 m c6) m (cellsE encRec R6)) (hg : (wr.alloc o).grownBy w' (Value.slice aR nR cR).ownBlock)
    (hat : (Value.slice a6 m c6).ownBlock = (Value.slice aR nR cR).ownBlock ∨ (Value.slice a6 m c6).ownBlock = some (wr.alloc o).heap.size) : Rows w w' c ad len cap bx cs a6 m c6 R6 aE nE cE E :=
  ⟨(h.core.alloc o).own2 hg (fun k e => ⟨(h.rR.lt k e).1, fun hk => h.nR (by rw [e, hk])⟩), hown, own_keep (own_alloc h.rE o) hx hg, by
    rcases hat with e | e
    · rw [e]; exact h.nR
    · rw [e]; intro hk; have h1 := Option.some.inj hk; have h2 := h.core.lt; simp at h1; omega, h.nE⟩
theorem Rows.snocE {w wr w' : World} {c : Nat} {ad : Option Addr} {len cap bx : Nat} {cs : Array Value} {aR aE : Option Addr} {nR cR nE cE : Nat} {R : List RecR} {E : List EntryR} (h : Rows w wr c ad len cap bx cs aR nR cR R aE nE cE E) (hx : aR = none ∨ aE = none)
    {o : Obj} {a6 : Option Addr} {c6 m : Nat} {E6 : List EntryR} (hown : w'.ownsRow (w.heap.size + 1) 47 2 (.slice a6 m c6) m (cellsE encEntry E6)) (hg : (wr.alloc o).grownBy w' (Value.slice aE nE cE).ownBlock)
    (hat : (Value.slice a6 m c6).ownBlock = (Value.slice aE nE cE).ownBlock ∨ (Value.slice a6 m c6).ownBlock = some (wr.alloc o).heap.size) : Rows w w' c ad len cap bx cs aR nR cR R a6 m c6 E6 :=
  ⟨(h.core.alloc o).own2 hg (fun k e => ⟨(h.rE.lt k e).1, fun hk => h.nE (by rw [e, hk])⟩), own_keep (own_alloc h.rR o) hx.symm hg, hown, h.nR, by
    rcases hat with e | e
    · rw [e]; exact h.nE
    · rw [e]; intro hk; have h1 := Option.some.inj hk; have h2 := h.core.lt; simp at h1; omega⟩

set_option maxRecDepth 100000 in
set_option maxHeartbeats 16000000 in
theorem any12_any (c : Nat) (ad : Option Addr) (len cap : Nat) (w : World) (hlen : len ≤ 1048576) (hc : Cur w c ad len cap) (hs : Src w c ad len) :
    Calls Tryd.prog 88 #[.pointer (some ⟨c, 0, none⟩)] w (AnyDrawn InoSmall w c ad len cap) := by
  have hlt := cur_lt hc
  have ga := grown_alloc w (.cells #[.int .i64 0, .int .i64 0, .int .i64 0, .string ⟨#[]⟩, .slice none 0 0, .slice none 0 0] 54) (some c)
  have C0 := Lib.hid (cur_grown hc (grown_alloc w (.cells #[.int .i64 0, .int .i64 0, .int .i64 0, .string ⟨#[]⟩, .slice none 0 0, .slice none 0 0] 54) none) (by simp))
  have S0 := Lib.hid (src_grown hs ga hlt)
  have R0 := Lib.hid (Bk.alloc w #[.int .i64 0, .int .i64 0, .int .i64 0, .string ⟨#[]⟩, .slice none 0 0, .slice none 0 0] 54)
  have G0 := Lib.hid ga
  have HCN : Hid (¬ c = w.heap.size) := Lib.hid (by omega)
  have HLT := Lib.hid hlt
  have HSZ : Hid ((w.alloc (.cells #[.int .i64 0, .int .i64 0, .int .i64 0, .string ⟨#[]⟩, .slice none 0 0, .slice none 0 0] 54)).heap.size = w.heap.size + 1) := Lib.hid (by simp)
  clear hc hs ga
  have hcw := HLT.out
  go_enter Tryd.func88, Tryd.ntmps88
  go_wp2_with fail
  refine (ino12_any c ad len cap _ hlen C0.out S0.out).mono ?_
  rintro e w1 ⟨kd, sz, gn, key, aR, cR, aE, cE, R, E, hok, rfl, oR, oE, hx, hc1, hg1⟩
  have C1 := Lib.hid hc1
  have S1 := Lib.hid (src_grown S0.out hg1 (cur_lt C0.out))
  have G1 := Lib.hid (grownBy_trans G0.out hg1)
  have R1 := Lib.hid (bk_kept R0.out hg1 HCN.out)
  have HSM := Lib.hid (small_of_ok hok)
  have HLN := Lib.hid (len_of_ok hok)
  have HX := Lib.hid hx
  rw [HSZ.out] at oR oE
  obtain ⟨bx, hbx⟩ : ∃ b, w1.heap.size = b := ⟨_, rfl⟩
  have K1 : Hid (Rows w (w1.alloc (.cells #[.int .i64 kd, .int .i64 sz, .int .i64 gn, .string key, .slice aR R.length cR, .slice aE E.length cE] 54)) c ad len cap bx #[.int .i64 kd, .int .i64 sz, .int .i64 gn, .string key, .slice aR R.length cR, .slice aE E.length cE] aR R.length cR R aE E.length cE E) := Lib.hid (by
    obtain ⟨a1, a2, a3, a4, a5, a6⟩ := box_new #[.int .i64 kd, .int .i64 sz, .int .i64 gn, .string key, .slice aR R.length cR, .slice aE E.length cE] 54 C1.out S1.out G1.out
    rw [hbx] at a4
    exact ⟨⟨a4, R1.out.later (below_bk _ _), by have := R1.out.lt; omega, HLT.out, a1, a2, a3⟩, own_alloc oR _, own_alloc oE _, fun h => by have := (oR.lt _ h).2; omega, fun h => by have := (oE.lt _ h).2; omega⟩)
  have hb1 : ¬ bx = w.heap.size := by have := K1.out.core.low; omega
  have hb2 : ¬ w.heap.size = bx := by have := K1.out.core.low; omega
  clear hc1 hg1 hok oR oE hx
  go_wp2_with fail
  obtain ⟨w2, h2⟩ : ∃ x, x = w1.alloc (.cells #[.int .i64 kd, .int .i64 sz, .int .i64 gn, .string key, .slice aR R.length cR, .slice aE E.length cE] 54) := ⟨_, rfl⟩
  rw [← h2] at K1 ⊢
  clear h2 hbx
  refine (below_small c ad len cap 12 _ hlen (by decide) (by decide) K1.out.core.cur K1.out.core.src).mono ?_
  rintro e w3 ⟨x, x0, x1, rfl, hc3, hg3⟩
  have K3 := Lib.hid (K1.out.draw hc3 hg3)
  clear hc3 hg3 x0 x1 K1
  by_cases h0 : x = 0
  · subst h0
    go_wp2_with fail
    refine (pickNum_new c ad len cap 5 [0, 1, 2, 3, -1] _ _ w3 rfl hlen (by decide) (by decide) rfl K3.out.core.cur K3.out.core.src).mono ?_
    rintro e w4 ⟨z, hz, rfl, hc4, hg4⟩
    skip
    have K4 := Lib.hid (K3.out.draw hc4 hg4)
    have y0 := K4.out.core.box.cell (j := 0) rfl
    have v0 := K4.out.core.box.fr (o := 0)
    have K5 := Lib.hid (K4.out.set 0 (.int .i64 z))
    clear hc4 hg4 hz
    have x0 := K5.out.core.box.cell (j := 0) rfl
    have r0 := K5.out.core.res.cell (j := 0) rfl
    have f0 := K5.out.core.res.fr (o := 0)
    have x1 := K5.out.core.box.cell (j := 1) rfl
    have r1 := K5.out.core.res.cell (j := 1) rfl
    have f1 := K5.out.core.res.fr (o := 1)
    have x2 := K5.out.core.box.cell (j := 2) rfl
    have r2 := K5.out.core.res.cell (j := 2) rfl
    have f2 := K5.out.core.res.fr (o := 2)
    have x3 := K5.out.core.box.cell (j := 3) rfl
    have r3 := K5.out.core.res.cell (j := 3) rfl
    have f3 := K5.out.core.res.fr (o := 3)
    have x4 := K5.out.core.box.cell (j := 4) rfl
    have r4 := K5.out.core.res.cell (j := 4) rfl
    have f4 := K5.out.core.res.fr (o := 4)
    have x5 := K5.out.core.box.cell (j := 5) rfl
    have r5 := K5.out.core.res.cell (j := 5) rfl
    have f5 := K5.out.core.res.fr (o := 5)
    have qf := ((((((K5.out.core.res.set 0 (.int .i64 z)).set 1 (.int .i64 sz)).set 2 (.int .i64 gn)).set 3 (.string key)).set 4 (.slice aR R.length cR)).set 5 (.slice aE E.length cE))
    have q0 := qf.cell (j := 0) (v := .int .i64 z) rfl
    have q1 := qf.cell (j := 1) (v := .int .i64 sz) rfl
    have q2 := qf.cell (j := 2) (v := .int .i64 gn) rfl
    have q3 := qf.cell (j := 3) (v := .string key) rfl
    have q4 := qf.cell (j := 4) (v := .slice aR R.length cR) rfl
    have q5 := qf.cell (j := 5) (v := .slice aE E.length cE) rfl
    have HE9 := Lib.hid (any_end (P := InoSmall) K5.out HSM.out rfl rfl)
    clear qf
    go_wp2
    refine bodyPost_ret (v := .agg #[.int .i64 z, .int .i64 sz, .int .i64 gn, .string key, .slice aR R.length cR, .slice aE E.length cE]) ?_ rfl HE9.out
    simp [results, Tryd.results88, go_sem, q0, q1, q2, q3, q4, q5]
  have e0 : (x == 0) = false := by simpa using h0
  by_cases h1 : x = 1
  · subst h1
    go_wp2_with fail
    refine (pickNum_new c ad len cap 4 [129, -1, 64, 1] _ _ w3 rfl hlen (by decide) (by decide) rfl K3.out.core.cur K3.out.core.src).mono ?_
    rintro e w4 ⟨z, hz, rfl, hc4, hg4⟩
    have HZ : Hid (-9223372036854775808 ≤ z ∧ z ≤ 9223372036854775807) := Lib.hid (by simp at hz; omega)
    have K4 := Lib.hid (K3.out.draw hc4 hg4)
    have y1 := K4.out.core.box.cell (j := 1) rfl
    have v1 := K4.out.core.box.fr (o := 1)
    have K5 := Lib.hid (K4.out.set 1 (.int .i64 z))
    clear hc4 hg4 hz
    have x0 := K5.out.core.box.cell (j := 0) rfl
    have r0 := K5.out.core.res.cell (j := 0) rfl
    have f0 := K5.out.core.res.fr (o := 0)
    have x1 := K5.out.core.box.cell (j := 1) rfl
    have r1 := K5.out.core.res.cell (j := 1) rfl
    have f1 := K5.out.core.res.fr (o := 1)
    have x2 := K5.out.core.box.cell (j := 2) rfl
    have r2 := K5.out.core.res.cell (j := 2) rfl
    have f2 := K5.out.core.res.fr (o := 2)
    have x3 := K5.out.core.box.cell (j := 3) rfl
    have r3 := K5.out.core.res.cell (j := 3) rfl
    have f3 := K5.out.core.res.fr (o := 3)
    have x4 := K5.out.core.box.cell (j := 4) rfl
    have r4 := K5.out.core.res.cell (j := 4) rfl
    have f4 := K5.out.core.res.fr (o := 4)
    have x5 := K5.out.core.box.cell (j := 5) rfl
    have r5 := K5.out.core.res.cell (j := 5) rfl
    have f5 := K5.out.core.res.fr (o := 5)
    have qf := ((((((K5.out.core.res.set 0 (.int .i64 kd)).set 1 (.int .i64 z)).set 2 (.int .i64 gn)).set 3 (.string key)).set 4 (.slice aR R.length cR)).set 5 (.slice aE E.length cE))
    have q0 := qf.cell (j := 0) (v := .int .i64 kd) rfl
    have q1 := qf.cell (j := 1) (v := .int .i64 z) rfl
    have q2 := qf.cell (j := 2) (v := .int .i64 gn) rfl
    have q3 := qf.cell (j := 3) (v := .string key) rfl
    have q4 := qf.cell (j := 4) (v := .slice aR R.length cR) rfl
    have q5 := qf.cell (j := 5) (v := .slice aE E.length cE) rfl
    have HE9 := Lib.hid (any_end (P := InoSmall) K5.out ⟨HZ.out, HSM.out.2⟩ rfl rfl)
    clear qf
    go_wp2
    refine bodyPost_ret (v := .agg #[.int .i64 kd, .int .i64 z, .int .i64 gn, .string key, .slice aR R.length cR, .slice aE E.length cE]) ?_ rfl HE9.out
    simp [results, Tryd.results88, go_sem, q0, q1, q2, q3, q4, q5]
  have e1 : (x == 1) = false := by simpa using h1
  by_cases h2 : x = 2
  · subst h2
    go_wp2_with fail
    refine (pickNum_new c ad len cap 3 [65535, 65536, -1] _ _ w3 rfl hlen (by decide) (by decide) rfl K3.out.core.cur K3.out.core.src).mono ?_
    rintro e w4 ⟨z, hz, rfl, hc4, hg4⟩
    skip
    have K4 := Lib.hid (K3.out.draw hc4 hg4)
    have y2 := K4.out.core.box.cell (j := 2) rfl
    have v2 := K4.out.core.box.fr (o := 2)
    have K5 := Lib.hid (K4.out.set 2 (.int .i64 z))
    clear hc4 hg4 hz
    have x0 := K5.out.core.box.cell (j := 0) rfl
    have r0 := K5.out.core.res.cell (j := 0) rfl
    have f0 := K5.out.core.res.fr (o := 0)
    have x1 := K5.out.core.box.cell (j := 1) rfl
    have r1 := K5.out.core.res.cell (j := 1) rfl
    have f1 := K5.out.core.res.fr (o := 1)
    have x2 := K5.out.core.box.cell (j := 2) rfl
    have r2 := K5.out.core.res.cell (j := 2) rfl
    have f2 := K5.out.core.res.fr (o := 2)
    have x3 := K5.out.core.box.cell (j := 3) rfl
    have r3 := K5.out.core.res.cell (j := 3) rfl
    have f3 := K5.out.core.res.fr (o := 3)
    have x4 := K5.out.core.box.cell (j := 4) rfl
    have r4 := K5.out.core.res.cell (j := 4) rfl
    have f4 := K5.out.core.res.fr (o := 4)
    have x5 := K5.out.core.box.cell (j := 5) rfl
    have r5 := K5.out.core.res.cell (j := 5) rfl
    have f5 := K5.out.core.res.fr (o := 5)
    have qf := ((((((K5.out.core.res.set 0 (.int .i64 kd)).set 1 (.int .i64 sz)).set 2 (.int .i64 z)).set 3 (.string key)).set 4 (.slice aR R.length cR)).set 5 (.slice aE E.length cE))
    have q0 := qf.cell (j := 0) (v := .int .i64 kd) rfl
    have q1 := qf.cell (j := 1) (v := .int .i64 sz) rfl
    have q2 := qf.cell (j := 2) (v := .int .i64 z) rfl
    have q3 := qf.cell (j := 3) (v := .string key) rfl
    have q4 := qf.cell (j := 4) (v := .slice aR R.length cR) rfl
    have q5 := qf.cell (j := 5) (v := .slice aE E.length cE) rfl
    have HE9 := Lib.hid (any_end (P := InoSmall) K5.out HSM.out rfl rfl)
    clear qf
    go_wp2
    refine bodyPost_ret (v := .agg #[.int .i64 kd, .int .i64 sz, .int .i64 z, .string key, .slice aR R.length cR, .slice aE E.length cE]) ?_ rfl HE9.out
    simp [results, Tryd.results88, go_sem, q0, q1, q2, q3, q4, q5]
  have e2 : (x == 2) = false := by simpa using h2
  by_cases h3 : x = 3
  · subst h3
    have HSML : Hid (R.length ≤ 99) := Lib.hid (by have := HLN.out.1; omega)
    have y4 := K3.out.core.box.cell (j := 4) rfl
    go_wp2
    go_region_law (first
      | (refine step_appE rfl (.tmp 29) (.tmp 32) 51 51 rfl (.slice aR R.length cR) (.slice (some ⟨w5.heap.size, 0, none⟩) 1 1) (by simp [Act.eval]) (by simp [Act.eval]) HAPP.out ?_
         intro v6 w6 hown6 hgrow6 hat6
         obtain ⟨a6, c6, rfl, _, _, _⟩ := ownE_form hown6
         have K6 := Lib.hid (K5.out.snocR HX.out hown6 hgrow6 hat6)
         have z4 := K6.out.core.box.cell (j := 4) rfl
         have v4 := K6.out.core.box.fr (o := 4)
         clear hown6 hgrow6 hat6)
      | (go_simp; go_at_call 136; refine (anyRec12_any c ad len cap _ hlen K3.out.drew.core.cur K3.out.drew.core.src).mono ?_; rintro e w5 ⟨p, q, m, hP, rfl, hc5, hg5⟩
         have K5 := Lib.hid (K3.out.drew.draw hc5 hg5)
         have HP := Lib.hid hP
         have d4 := K5.out.core.box.cell (j := 4) rfl
         have d4a := (K5.out.core.alloc (.cells #[.int .i64 p, .int .i64 q, .string m] 66)).box.cell (j := 4) rfl
         have HAPP := Lib.hid (appRec1 w5 51 (w.heap.size + 1) (.slice aR R.length cR) R.length R K5.out.rR (by have := K5.out.core.lt; have := K5.out.core.low; omega) ⟨p, q, m⟩ (by have := HSML.out; omega))
         clear hc5 hg5 hP))
    all_goals
      have K7 := Lib.hid (K6.out.set 4 (.slice a6 (R.length + 1) c6))
      clear HAPP y4
      have x0 := K7.out.core.box.cell (j := 0) rfl
      have r0 := K7.out.core.res.cell (j := 0) rfl
      have f0 := K7.out.core.res.fr (o := 0)
      have x1 := K7.out.core.box.cell (j := 1) rfl
      have r1 := K7.out.core.res.cell (j := 1) rfl
      have f1 := K7.out.core.res.fr (o := 1)
      have x2 := K7.out.core.box.cell (j := 2) rfl
      have r2 := K7.out.core.res.cell (j := 2) rfl
      have f2 := K7.out.core.res.fr (o := 2)
      have x3 := K7.out.core.box.cell (j := 3) rfl
      have r3 := K7.out.core.res.cell (j := 3) rfl
      have f3 := K7.out.core.res.fr (o := 3)
      have x4 := K7.out.core.box.cell (j := 4) rfl
      have r4 := K7.out.core.res.cell (j := 4) rfl
      have f4 := K7.out.core.res.fr (o := 4)
      have x5 := K7.out.core.box.cell (j := 5) rfl
      have r5 := K7.out.core.res.cell (j := 5) rfl
      have f5 := K7.out.core.res.fr (o := 5)
      have qf := ((((((K7.out.core.res.set 0 (.int .i64 kd)).set 1 (.int .i64 sz)).set 2 (.int .i64 gn)).set 3 (.string key)).set 4 (.slice a6 (R.length + 1) c6)).set 5 (.slice aE E.length cE))
      have q0 := qf.cell (j := 0) (v := .int .i64 kd) rfl
      have q1 := qf.cell (j := 1) (v := .int .i64 sz) rfl
      have q2 := qf.cell (j := 2) (v := .int .i64 gn) rfl
      have q3 := qf.cell (j := 3) (v := .string key) rfl
      have q4 := qf.cell (j := 4) (v := .slice a6 (R.length + 1) c6) rfl
      have q5 := qf.cell (j := 5) (v := .slice aE E.length cE) rfl
      have HE9 := Lib.hid (any_end (P := InoSmall) K7.out ⟨HSM.out.1, by show (R ++ [_]).length ≤ 100; have := HSML.out; simp; omega, HSM.out.2.2.1, fit_snocR HSM.out.2.2.2.1 HP.out, HSM.out.2.2.2.2⟩ (by simp) rfl)
      clear qf
      go_wp2
      refine bodyPost_ret (v := .agg #[.int .i64 kd, .int .i64 sz, .int .i64 gn, .string key, .slice a6 (R.length + 1) c6, .slice aE E.length cE]) ?_ rfl HE9.out
      simp [results, Tryd.results88, go_sem, q0, q1, q2, q3, q4, q5]
  have e3 : (x == 3) = false := by simpa using h3
  by_cases h4 : x = 4
  · subst h4
    have HSML : Hid (E.length ≤ 99) := Lib.hid (by have := HLN.out.2; omega)
    have y5 := K3.out.core.box.cell (j := 5) rfl
    go_wp2
    go_region_law (first
      | (refine step_appE rfl (.tmp 38) (.tmp 41) 52 52 rfl (.slice aE E.length cE) (.slice (some ⟨w5.heap.size, 0, none⟩) 1 1) (by simp [Act.eval]) (by simp [Act.eval]) HAPP.out ?_
         intro v6 w6 hown6 hgrow6 hat6
         obtain ⟨a6, c6, rfl, _, _, _⟩ := ownE_form hown6
         have K6 := Lib.hid (K5.out.snocE HX.out hown6 hgrow6 hat6)
         have z5 := K6.out.core.box.cell (j := 5) rfl
         have v5 := K6.out.core.box.fr (o := 5)
         clear hown6 hgrow6 hat6)
      | (go_simp; go_at_call 137; refine (anyEntry12_any c ad len cap _ hlen K3.out.drew.core.cur K3.out.drew.core.src).mono ?_; rintro e w5 ⟨p, m, hP, rfl, hc5, hg5⟩
         have K5 := Lib.hid (K3.out.drew.draw hc5 hg5)
         have HP := Lib.hid hP
         have d5 := K5.out.core.box.cell (j := 5) rfl
         have d5a := (K5.out.core.alloc (.cells #[.int .i64 p, .string m] 47)).box.cell (j := 5) rfl
         have HAPP := Lib.hid (appEntry1 w5 52 (w.heap.size + 1) (.slice aE E.length cE) E.length E K5.out.rE (by have := K5.out.core.lt; have := K5.out.core.low; omega) ⟨p, m⟩ (by have := HSML.out; omega))
         clear hc5 hg5 hP))
    all_goals
      have K7 := Lib.hid (K6.out.set 5 (.slice a6 (E.length + 1) c6))
      clear HAPP y5
      have x0 := K7.out.core.box.cell (j := 0) rfl
      have r0 := K7.out.core.res.cell (j := 0) rfl
      have f0 := K7.out.core.res.fr (o := 0)
      have x1 := K7.out.core.box.cell (j := 1) rfl
      have r1 := K7.out.core.res.cell (j := 1) rfl
      have f1 := K7.out.core.res.fr (o := 1)
      have x2 := K7.out.core.box.cell (j := 2) rfl
      have r2 := K7.out.core.res.cell (j := 2) rfl
      have f2 := K7.out.core.res.fr (o := 2)
      have x3 := K7.out.core.box.cell (j := 3) rfl
      have r3 := K7.out.core.res.cell (j := 3) rfl
      have f3 := K7.out.core.res.fr (o := 3)
      have x4 := K7.out.core.box.cell (j := 4) rfl
      have r4 := K7.out.core.res.cell (j := 4) rfl
      have f4 := K7.out.core.res.fr (o := 4)
      have x5 := K7.out.core.box.cell (j := 5) rfl
      have r5 := K7.out.core.res.cell (j := 5) rfl
      have f5 := K7.out.core.res.fr (o := 5)
      have qf := ((((((K7.out.core.res.set 0 (.int .i64 kd)).set 1 (.int .i64 sz)).set 2 (.int .i64 gn)).set 3 (.string key)).set 4 (.slice aR R.length cR)).set 5 (.slice a6 (E.length + 1) c6))
      have q0 := qf.cell (j := 0) (v := .int .i64 kd) rfl
      have q1 := qf.cell (j := 1) (v := .int .i64 sz) rfl
      have q2 := qf.cell (j := 2) (v := .int .i64 gn) rfl
      have q3 := qf.cell (j := 3) (v := .string key) rfl
      have q4 := qf.cell (j := 4) (v := .slice aR R.length cR) rfl
      have q5 := qf.cell (j := 5) (v := .slice a6 (E.length + 1) c6) rfl
      have HE9 := Lib.hid (any_end (P := InoSmall) K7.out ⟨HSM.out.1, HSM.out.2.1, by show (E ++ [_]).length ≤ 100; have := HSML.out; simp; omega, HSM.out.2.2.2.1, fit_snocE HSM.out.2.2.2.2 HP.out⟩ rfl (by simp))
      clear qf
      go_wp2
      refine bodyPost_ret (v := .agg #[.int .i64 kd, .int .i64 sz, .int .i64 gn, .string key, .slice aR R.length cR, .slice a6 (E.length + 1) c6]) ?_ rfl HE9.out
      simp [results, Tryd.results88, go_sem, q0, q1, q2, q3, q4, q5]
  have e4 : (x == 4) = false := by simpa using h4
  by_cases h5 : x = 5
  · subst h5
    go_wp2_with fail
    refine (below_small c ad len cap 10 _ hlen (by decide) (by decide) K3.out.core.cur K3.out.core.src).mono ?_
    rintro e w4 ⟨u, u0, u1, rfl, hc4, hg4⟩
    have K4 := Lib.hid (K3.out.draw hc4 hg4)
    obtain ⟨k, rfl⟩ : ∃ k : Nat, u = k := ⟨u.toNat, by omega⟩
    have hk : k < 10 := by omega
    clear hc4 hg4 u0 u1
    go_wp2_with fail
    refine (text_any c ad len cap k _ hlen (by omega) K4.out.core.cur K4.out.core.src).mono ?_
    rintro e w5 ⟨v, ⟨t, rfl, ht⟩, rfl, hc5, hg5⟩
    have K5 := Lib.hid (K4.out.draw hc5 hg5)
    have y3 := K5.out.core.box.cell (j := 3) rfl
    have v3 := K5.out.core.box.fr (o := 3)
    have K6 := Lib.hid (K5.out.set 3 (.string t))
    clear hc5 hg5 ht
    have x0 := K6.out.core.box.cell (j := 0) rfl
    have r0 := K6.out.core.res.cell (j := 0) rfl
    have f0 := K6.out.core.res.fr (o := 0)
    have x1 := K6.out.core.box.cell (j := 1) rfl
    have r1 := K6.out.core.res.cell (j := 1) rfl
    have f1 := K6.out.core.res.fr (o := 1)
    have x2 := K6.out.core.box.cell (j := 2) rfl
    have r2 := K6.out.core.res.cell (j := 2) rfl
    have f2 := K6.out.core.res.fr (o := 2)
    have x3 := K6.out.core.box.cell (j := 3) rfl
    have r3 := K6.out.core.res.cell (j := 3) rfl
    have f3 := K6.out.core.res.fr (o := 3)
    have x4 := K6.out.core.box.cell (j := 4) rfl
    have r4 := K6.out.core.res.cell (j := 4) rfl
    have f4 := K6.out.core.res.fr (o := 4)
    have x5 := K6.out.core.box.cell (j := 5) rfl
    have r5 := K6.out.core.res.cell (j := 5) rfl
    have f5 := K6.out.core.res.fr (o := 5)
    have qf := ((((((K6.out.core.res.set 0 (.int .i64 kd)).set 1 (.int .i64 sz)).set 2 (.int .i64 gn)).set 3 (.string t)).set 4 (.slice aR R.length cR)).set 5 (.slice aE E.length cE))
    have q0 := qf.cell (j := 0) (v := .int .i64 kd) rfl
    have q1 := qf.cell (j := 1) (v := .int .i64 sz) rfl
    have q2 := qf.cell (j := 2) (v := .int .i64 gn) rfl
    have q3 := qf.cell (j := 3) (v := .string t) rfl
    have q4 := qf.cell (j := 4) (v := .slice aR R.length cR) rfl
    have q5 := qf.cell (j := 5) (v := .slice aE E.length cE) rfl
    have HE9 := Lib.hid (any_end (P := InoSmall) K6.out HSM.out rfl rfl)
    clear qf
    go_wp2
    refine bodyPost_ret (v := .agg #[.int .i64 kd, .int .i64 sz, .int .i64 gn, .string t, .slice aR R.length cR, .slice aE E.length cE]) ?_ rfl HE9.out
    simp [results, Tryd.results88, go_sem, q0, q1, q2, q3, q4, q5]
  have e5 : (x == 5) = false := by simpa using h5
  clear h0 h1 h2 h3 h4 h5
  have x0 := K3.out.core.box.cell (j := 0) rfl
  have r0 := K3.out.core.res.cell (j := 0) rfl
  have f0 := K3.out.core.res.fr (o := 0)
  have x1 := K3.out.core.box.cell (j := 1) rfl
  have r1 := K3.out.core.res.cell (j := 1) rfl
  have f1 := K3.out.core.res.fr (o := 1)
  have x2 := K3.out.core.box.cell (j := 2) rfl
  have r2 := K3.out.core.res.cell (j := 2) rfl
  have f2 := K3.out.core.res.fr (o := 2)
  have x3 := K3.out.core.box.cell (j := 3) rfl
  have r3 := K3.out.core.res.cell (j := 3) rfl
  have f3 := K3.out.core.res.fr (o := 3)
  have x4 := K3.out.core.box.cell (j := 4) rfl
  have r4 := K3.out.core.res.cell (j := 4) rfl
  have f4 := K3.out.core.res.fr (o := 4)
  have x5 := K3.out.core.box.cell (j := 5) rfl
  have r5 := K3.out.core.res.cell (j := 5) rfl
  have f5 := K3.out.core.res.fr (o := 5)
  have qf := ((((((K3.out.core.res.set 0 (.int .i64 kd)).set 1 (.int .i64 sz)).set 2 (.int .i64 gn)).set 3 (.string key)).set 4 (.slice aR R.length cR)).set 5 (.slice aE E.length cE))
  have q0 := qf.cell (j := 0) (v := .int .i64 kd) rfl
  have q1 := qf.cell (j := 1) (v := .int .i64 sz) rfl
  have q2 := qf.cell (j := 2) (v := .int .i64 gn) rfl
  have q3 := qf.cell (j := 3) (v := .string key) rfl
  have q4 := qf.cell (j := 4) (v := .slice aR R.length cR) rfl
  have q5 := qf.cell (j := 5) (v := .slice aE E.length cE) rfl
  have HE9 := Lib.hid (any_end (P := InoSmall) K3.out HSM.out rfl rfl)
  clear qf
  go_wp2
  refine bodyPost_ret (v := .agg #[.int .i64 kd, .int .i64 sz, .int .i64 gn, .string key, .slice aR R.length cR, .slice aE E.length cE]) ?_ rfl HE9.out
  simp [results, Tryd.results88, go_sem, q0, q1, q2, q3, q4, q5]
end Draw
end Go.Proofs.YtmkchilhnmkhkaaDoor
namespace Go.Proofs.YtmkchilhnmkhkaaDoor
open Go.RowKit Go.Proofs.YtmkchilhnmkhkaaDoor.Hexa Go.Proofs.YtmkchilhnmkhkaaDoor.Byt
namespace Draw

/-- What the law is given. -/
def InoGiven (P : InoR → Prop) (w : World) (e : Ending) (w' : World) : Prop :=
  ∃ kd sz gn key aR cR aE cE R E, P ⟨kd, sz, gn, key, R, E⟩ ∧ e = .returned (.agg #[.int .i64 kd, .int .i64 sz, .int .i64 gn, .string key, .slice aR R.length cR, .slice aE E.length cE])
    ∧ w'.ownsRow w.heap.size 66 3 (.slice aR R.length cR) R.length (cellsE encRec R) ∧ w'.ownsRow w.heap.size 47 2 (.slice aE E.length cE) E.length (cellsE encEntry E) ∧ Below w.heap.size w w'

set_option maxRecDepth 100000 in
set_option maxHeartbeats 4000000 in
theorem drawIno_any (ad : Option Addr) (len cap : Nat) (w : World) (hlen : len ≤ 1048576) (hs : Src w w.heap.size ad len) :
    Calls Tryd.prog 42 #[.slice ad len cap] w (InoGiven InoSmall w) := by
  have HS := Lib.hid hs
  have HS1 : Hid (Src (w.alloc (.cells #[.int .i64 0, .int .i64 0, .int .i64 0, .string ⟨#[]⟩, .slice none 0 0, .slice none 0 0] 54)) (w.alloc (.cells #[.int .i64 0, .int .i64 0, .int .i64 0, .string ⟨#[]⟩, .slice none 0 0, .slice none 0 0] 54)).heap.size ad len) := Lib.hid (by
    have h := src_grown' hs (grown_alloc w (.cells #[.int .i64 0, .int .i64 0, .int .i64 0, .string ⟨#[]⟩, .slice none 0 0, .slice none 0 0] 54) none) (fun k e => by cases e) (Nat.le_refl _)
    intro i hi
    obtain ⟨b, off, z, h1, h2, h3⟩ := h i hi
    exact ⟨b, off, z, h1, by simp; omega, h3⟩)
  clear hs
  go_enter Tryd.func42, Tryd.ntmps42
  go_wp2_with fail
  refine (new_any ad len cap _ hlen HS1.out).mono ?_
  rintro e w1 ⟨rfl, h, rfl⟩
  have SZ : Hid ((w.alloc (.cells #[.int .i64 0, .int .i64 0, .int .i64 0, .string ⟨#[]⟩, .slice none 0 0, .slice none 0 0] 54)).heap.size = w.heap.size + 1) := Lib.hid (by simp)
  have C1 : Hid (Cur ((w.alloc (.cells #[.int .i64 0, .int .i64 0, .int .i64 0, .string ⟨#[]⟩, .slice none 0 0, .slice none 0 0] 54)).alloc (.cells #[.slice ad len cap, .int .i64 0, .int .i64 h] 119)) (w.heap.size + 1) ad len cap) := Lib.hid (by rw [← SZ.out]; exact ⟨0, h, Nat.zero_le _, heap_alloc_new _ _⟩)
  have S1 : Hid (Src ((w.alloc (.cells #[.int .i64 0, .int .i64 0, .int .i64 0, .string ⟨#[]⟩, .slice none 0 0, .slice none 0 0] 54)).alloc (.cells #[.slice ad len cap, .int .i64 0, .int .i64 h] 119)) (w.heap.size + 1) ad len) := Lib.hid (by rw [← SZ.out]; exact src_grown' HS1.out (grown_alloc _ _ none) (fun k e => by cases e) (Nat.le_refl _))
  have B1 : Hid (Below w.heap.size w ((w.alloc (.cells #[.int .i64 0, .int .i64 0, .int .i64 0, .string ⟨#[]⟩, .slice none 0 0, .slice none 0 0] 54)).alloc (.cells #[.slice ad len cap, .int .i64 0, .int .i64 h] 119))) := Lib.hid (((Below.refl _ _).alloc (Nat.le_refl _) _).alloc (by simp) _)
  have R1 : Hid (Bk ((w.alloc (.cells #[.int .i64 0, .int .i64 0, .int .i64 0, .string ⟨#[]⟩, .slice none 0 0, .slice none 0 0] 54)).alloc (.cells #[.slice ad len cap, .int .i64 0, .int .i64 h] 119)) w.heap.size #[.int .i64 0, .int .i64 0, .int .i64 0, .string ⟨#[]⟩, .slice none 0 0, .slice none 0 0] 54) := Lib.hid ((Bk.alloc w _ _).later (below_bk _ _))
  have Z2 : Hid (w.heap.size + 1 ≤ ((w.alloc (.cells #[.int .i64 0, .int .i64 0, .int .i64 0, .string ⟨#[]⟩, .slice none 0 0, .slice none 0 0] 54)).alloc (.cells #[.slice ad len cap, .int .i64 0, .int .i64 h] 119)).heap.size) := Lib.hid (by simp)
  go_wp2_with fail
  try rw [SZ.out]
  obtain ⟨w2, h2⟩ : ∃ x, x = ((w.alloc (.cells #[.int .i64 0, .int .i64 0, .int .i64 0, .string ⟨#[]⟩, .slice none 0 0, .slice none 0 0] 54)).alloc (.cells #[.slice ad len cap, .int .i64 0, .int .i64 h] 119)) := ⟨_, rfl⟩
  rw [← h2] at C1 S1 B1 R1 Z2 ⊢
  clear h2
  refine (any12_any (w.heap.size + 1) ad len cap _ hlen C1.out S1.out).mono ?_
  rintro e w3 ⟨kd, sz, gn, key, aR, cR, aE, cE, R, E, hok, rfl, oR, oE, hc3, hg3⟩
  have HOK := Lib.hid hok
  have R3 := Lib.hid (bk_kept R1.out hg3 (by omega))
  have B3 : Hid (Below w.heap.size w w3) := Lib.hid (B1.out.grown hg3 B1.out.size (fun k e => by simp at e; omega))
  have OR := Lib.hid oR
  have OE := Lib.hid oE
  clear hok hc3 hg3 oR oE
  have r0 := R3.out.cell (j := 0) rfl
  have f0 := R3.out.fr (o := 0)
  have r1 := R3.out.cell (j := 1) rfl
  have f1 := R3.out.fr (o := 1)
  have r2 := R3.out.cell (j := 2) rfl
  have f2 := R3.out.fr (o := 2)
  have r3 := R3.out.cell (j := 3) rfl
  have f3 := R3.out.fr (o := 3)
  have r4 := R3.out.cell (j := 4) rfl
  have f4 := R3.out.fr (o := 4)
  have r5 := R3.out.cell (j := 5) rfl
  have f5 := R3.out.fr (o := 5)
  have qf := ((((((R3.out.set 0 (.int .i64 kd)).set 1 (.int .i64 sz)).set 2 (.int .i64 gn)).set 3 (.string key)).set 4 (.slice aR R.length cR)).set 5 (.slice aE E.length cE))
  have q0 := qf.cell (j := 0) (v := .int .i64 kd) rfl
  have q1 := qf.cell (j := 1) (v := .int .i64 sz) rfl
  have q2 := qf.cell (j := 2) (v := .int .i64 gn) rfl
  have q3 := qf.cell (j := 3) (v := .string key) rfl
  have q4 := qf.cell (j := 4) (v := .slice aR R.length cR) rfl
  have q5 := qf.cell (j := 5) (v := .slice aE E.length cE) rfl
  have HE9 : Hid (InoGiven InoSmall w (.returned (.agg #[.int .i64 kd, .int .i64 sz, .int .i64 gn, .string key, .slice aR R.length cR, .slice aE E.length cE])) (w3.setCells w.heap.size 0 [.int .i64 kd, .int .i64 sz, .int .i64 gn, .string key, .slice aR R.length cR, .slice aE E.length cE])) := Lib.hid (by
    refine ⟨kd, sz, gn, key, aR, cR, aE, cE, R, E, HOK.out, rfl, ownE_mono (B := w2.heap.size) ?_ (by have := Z2.out; omega), ownE_mono (B := w2.heap.size) ?_ (by have := Z2.out; omega), ?_⟩
    · exact own_set (own_set (own_set (own_set (own_set (own_set (OR.out) (by have := Z2.out; omega) _) (by have := Z2.out; omega) _) (by have := Z2.out; omega) _) (by have := Z2.out; omega) _) (by have := Z2.out; omega) _) (by have := Z2.out; omega) _
    · exact own_set (own_set (own_set (own_set (own_set (own_set (OE.out) (by have := Z2.out; omega) _) (by have := Z2.out; omega) _) (by have := Z2.out; omega) _) (by have := Z2.out; omega) _) (by have := Z2.out; omega) _) (by have := Z2.out; omega) _
    · exact ((((((B3.out.setCell (Nat.le_refl _) _).setCell (Nat.le_refl _) _).setCell (Nat.le_refl _) _).setCell (Nat.le_refl _) _).setCell (Nat.le_refl _) _).setCell (Nat.le_refl _) _))
  clear qf
  go_wp2
  refine bodyPost_ret (v := .agg #[.int .i64 kd, .int .i64 sz, .int .i64 gn, .string key, .slice aR R.length cR, .slice aE E.length cE]) ?_ rfl HE9.out
  simp [results, Tryd.results42, go_sem, q0, q1, q2, q3, q4, q5]
end Draw
end Go.Proofs.YtmkchilhnmkhkaaDoor
namespace Go.Proofs.YtmkchilhnmkhkaaDoor
open Go.RowKit

set_option maxRecDepth 100000 in
set_option maxHeartbeats 400000 in
theorem implIn_any (n a b : Int) (w : World) : Calls Tryd.prog 96 #[.int .i64 n, .int .i64 a, .int .i64 b] w fun e w' => e = .returned (.bool (decide (a ≤ n ∧ n ≤ b))) ∧ w' = w := by
  by_cases h1 : a ≤ n <;> by_cases h2 : n ≤ b
  all_goals
    go_enter Tryd.func96, Tryd.ntmps96
    go_wp2
    all_goals go_ret
    all_goals exact ⟨by simp [h1, h2], rfl⟩
theorem implIn_yes {n a b : Int} (w : World) (h : a ≤ n ∧ n ≤ b) : Calls Tryd.prog 96 #[.int .i64 n, .int .i64 a, .int .i64 b] w fun e w' => e = .returned (.bool true) ∧ w' = w :=
  (implIn_any n a b w).mono fun _ _ ⟨he, hw⟩ => ⟨by rw [he, decide_eq_true h], hw⟩
theorem implIn_no {n a b : Int} (w : World) (h : ¬ (a ≤ n ∧ n ≤ b)) : Calls Tryd.prog 96 #[.int .i64 n, .int .i64 a, .int .i64 b] w fun e w' => e = .returned (.bool false) ∧ w' = w :=
  (implIn_any n a b w).mono fun _ _ ⟨he, hw⟩ => ⟨by rw [he, decide_eq_false h], hw⟩

end Go.Proofs.YtmkchilhnmkhkaaDoor
namespace Go.Proofs.YtmkchilhnmkhkaaDoor
open Go.RowKit Go.Lib Go.Proofs.YtmkchilhnmkhkaaDoor.Hexa Go.Proofs.YtmkchilhnmkhkaaDoor.Byt

theorem made_zero (n : Nat) : (madeCells (Value.int .u8 0).cells (n * 1)).toList = bcells (List.replicate n 0) := by
  apply List.ext_getElem?
  intro j
  have hcl : (Value.int .u8 0).cells = #[Value.int .u8 0] := rfl
  by_cases hj : j < n
  · simp [madeCells, hj, hcl, Nat.mod_one, bcells]
  · rw [List.getElem?_eq_none (by simp [madeCells]; omega), List.getElem?_eq_none (by simp [bcells]; omega)]

/-- The bytes A, and zeros up to n. -/
def partB (A : List UInt8) (n : Nat) : List UInt8 := A ++ List.replicate (n - A.length) 0
theorem partB_length (A : List UInt8) (n : Nat) (h : A.length ≤ n) : (partB A n).length = n := by simp [partB]; omega
theorem partB_nil (n : Nat) : partB [] n = List.replicate n 0 := by simp [partB]
theorem partB_full (A : List UInt8) (n : Nat) (h : A.length = n) : partB A n = A := by simp [partB, h]
theorem partB_set (A : List UInt8) (n : Nat) (x : UInt8) (h : A.length < n) : (partB A n).set A.length x = partB (A ++ [x]) n := by
  obtain ⟨m, hm⟩ : ∃ m, n - A.length = m + 1 := ⟨n - A.length - 1, by omega⟩
  have h2 : n - (A ++ [x]).length = m := by simp; omega
  unfold partB
  rw [h2, hm, List.replicate_succ, List.set_append_right _ _ (Nat.le_refl _), Nat.sub_self, List.set_cons_zero, List.append_assoc]
  rfl
theorem part_start {w : World} {B e g n : Nat} (h : w.ownsRow B e 1 (.slice (some ⟨g, 0, none⟩) n n) n (madeCells (Value.int .u8 0).cells (n * 1)).toList) :
    Bytes w B e (.slice (some ⟨g, 0, none⟩) n n) (partB [] n) := by
  rw [made_zero] at h
  rw [partB_nil]
  refine bytes_of_own ?_
  rw [List.length_replicate]
  exact h
/-- The next byte written. -/
theorem part_next {w : World} {B e g n : Nat} {A : List UInt8} (h : Bytes w B e (.slice (some ⟨g, 0, none⟩) n n) (partB A n)) (x : UInt8) (hl : A.length < n) :
    Bytes (w.setCell ⟨g, A.length, none⟩ (.int .u8 x.toNat)) B e (.slice (some ⟨g, 0, none⟩) n n) (partB (A ++ [x]) n) := by
  have hp := partB_length A n (by omega)
  have h' : Bytes w B e (.slice (some ⟨g, 0, none⟩) (partB A n).length n) (partB A n) := by rw [hp]; exact h
  have hs := bytes_set h' A.length x
  rw [partB_set A n x hl, hp] at hs
  exact hs
theorem part_at {w : World} {B e g n : Nat} {A : List UInt8} (h : Bytes w B e (.slice (some ⟨g, 0, none⟩) n n) (partB A n)) (hl : A.length < n) :
    (∃ v, w.cell? ⟨g, A.length, none⟩ = some v) ∧ w.frozen? ⟨g, A.length, none⟩ = false ∧ B ≤ g := by
  have hp := partB_length A n (by omega)
  have h' : Bytes w B e (.slice (some ⟨g, 0, none⟩) (partB A n).length n) (partB A n) := by rw [hp]; exact h
  obtain ⟨h1, h2, h3⟩ := bytes_at h' A.length (by omega)
  exact ⟨⟨_, h1⟩, h2, h3⟩

/-- 'copy(b, s)'. -/
theorem bytes_copy {P : Program} {t e u ty : TypeId} {i : TypeInfo} (ht : P.underlying t = some (.slice e)) (hi : P.info? e = some i) (hs1 : i.size = 1)
    {w : World} {B g c n : Nat} {l : List UInt8} (hn : l.length = n) (h : Bytes w B e (.slice (some ⟨g, 0, none⟩) n c) l) (s : ByteArray) (hs : s.size ≤ n) :
    ∃ w', (Builtin.copy_ #[t, u] ty #[.slice (some ⟨g, 0, none⟩) n c, .string s]).run P w = .ok (goInt s.size) w' ∧ Bytes w' B e (.slice (some ⟨g, 0, none⟩) n c) (s.data.toList ++ l.drop s.size) ∧ Below B w w' := by
  subst hn
  have hsl : s.data.toList.length = s.size := by simp
  rcases h with ⟨h, _⟩ | ⟨g', cap, cur, fz, hv, hb, hg, hfz, hlc, hm, hcs, htk⟩
  · cases h
  · simp at hv
    obtain ⟨rfl, rfl⟩ := hv
    have hst := Byt.run_store P g 0 e fz (strCells s) 0 cur w hg hfz (by rw [strCells_length]; omega) (strCells_oneCell s)
    have hf := run_firstCells_string (P := P) w 1 s
    have hln : (s.data.toList ++ l.drop s.size).length = l.length := by rw [List.length_append, List.length_drop, hsl]; omega
    simp only [Nat.add_zero, Nat.zero_add, strCells_length] at hst
    refine ⟨w.setRow g (List.take 0 cur.toList ++ strCells s ++ List.drop s.size cur.toList).toArray, ?_, .inr ⟨g, c, (List.take 0 cur.toList ++ strCells s ++ List.drop s.size cur.toList).toArray, fz, by rw [hln], hb, setRow_heap w g cur _ e fz hg, ?_, by rw [hln]; exact hlc, hm, ?_, ?_⟩, Byt.below_setRow w hb _⟩
    · simp [Builtin.copy_, run_underlying ht, Builtin.lenOf, sizeOf, typeInfo, hi, hs1, Nat.min_eq_left hs, hf, hst]
    · have hz : (List.take 0 cur.toList ++ strCells s ++ List.drop s.size cur.toList).toArray.size = cur.size := by simp [strCells_length]; omega
      rw [hz]; exact hfz
    · simp [strCells_length]; omega
    · rw [hln]
      have e1 : strCells s = bcells s.data.toList := rfl
      simp only [List.take_zero, List.nil_append, e1, bcells_append]
      have e2 : l.length = (bcells s.data.toList).length + (l.length - s.size) := by rw [bcells_length, hsl]; omega
      have e3 : bcells (l.drop s.size) = (bcells l).drop s.size := by simp [bcells]
      rw [e2, List.take_length_add_append, e3, ← htk, List.drop_take]

theorem wpList_copy_text {P : Program} {w : World} {ops : Array Oper} {rest : List Oper} {o : Oper} {a : Act} {Q : Exit → Act → World → Prop} (hgd : o.guard = none) (d s : Operand) (dT sT : TypeId)
    (ho : o.op = .call { callee := .builtin .copy, args := #[d, s], argTypes := #[dT, sT] }) (v0 v1 r : Value) (w' : World) (hd : a.eval d = v0) (hs : a.eval s = v1)
    (hrun : (Builtin.copy_ #[dT, sT] o.type #[v0, v1]).run P w = .ok r w') (h : wpList P ops Q rest (a.put o.dst r) w') : wpList P ops Q (o :: rest) a w := by
  refine wpList_plain hgd fun K hK => ?_
  unfold Oper.wp
  simp [execOp, ho, resolve, invoke, builtin, hd, hs, hrun, Result.andThen]
  exact hK _ _ h
end Go.Proofs.YtmkchilhnmkhkaaDoor
namespace Go.Proofs.YtmkchilhnmkhkaaDoor
open Go.RowKit Go.Proofs.YtmkchilhnmkhkaaDoor.Hexa Go.Proofs.YtmkchilhnmkhkaaDoor.Byt Go.Proofs.YtmkchilhnmkhkaaDoor.BitsM

set_option maxRecDepth 100000 in
set_option maxHeartbeats 1000000 in
theorem implNum_yes (m k : Nat) (w : World) (hk : 1 ≤ k) (hk' : k ≤ 7) (hm : m < 256 ^ k) :
    Calls Tryd.prog 89 #[.int .i64 m, .int .i64 k] w fun e w' => e = .returned (.string (numB m k)) ∧ Below w.heap.size w w' := by
  obtain ⟨i0, hi, hz0, hz1, hz2⟩ := info_parts infoByte
  have hmb : m < 72057594037927936 := Nat.lt_of_lt_of_le hm (Nat.le_trans (Nat.pow_le_pow_right (by omega) hk') (by decide))
  have hq := shift_zero hm
  have h0 : ¬ ((m : Int) < 0) := by omega
  have hsh0 : (8 * (k : Int)).toNat = 8 * k := by omega
  clear hm
  go_enter Tryd.func89, Tryd.ntmps89
  go_wp2_with (at_make; refine wpList_make_full _ rfl _ _ 22 rfl w.heap.size 5 i0 (.int .u8 0) 1 Tryd.underlying22 hi hz0 hz1 .i64 .i64 _ _ k rfl rfl rfl rfl (by rw [hz2]; omega) (by unfold maxLen; omega) (Nat.le_refl _) ?_; intro w0 hown0 hgrow0)
  have hg0 : Below w.heap.size w w0 := (Below.refl _ _).grown hgrow0 (Nat.le_refl _) (fun k h => by cases h)
  have HO0 := Lib.hid (part_start hown0)
  clear hown0 hgrow0 hq hsh0
  go_loopw [6, 28] (fun jv iv wr => ∃ j : Nat, j ≤ k ∧ iv = .int .i64 j ∧ Hid (Bytes wr w.heap.size 5 (.slice (some ⟨w.heap.size, 0, none⟩) k k) (partB (numL m k j) k)) ∧ Below w.heap.size w wr)
    (fun _ iv _ => k - (intOf iv).toNat)
  case atStart => exact ⟨0, Nat.zero_le _, rfl, HO0, hg0⟩
  case round =>
    clear HO0 hg0
    obtain ⟨j, hj, rfl, HW, hbel⟩ := hrel
    have hl := numL_length m k j
    by_cases hlt : j < k
    · have hsh : (8 * ((k : Int) - 1 - j)).toNat = 8 * (k - 1 - j) := by omega
      have hge : 0 ≤ (k : Int) - 1 - j := by omega
      have hby := num_byte m (k - 1 - j)
      have HNX := Lib.hid (numL_next m k j)
      obtain ⟨⟨v, c3⟩, z3, hB⟩ := part_at HW.out (by omega)
      have N3 := Lib.hid (part_next HW.out (UInt8.ofNat (m / 256 ^ (k - 1 - j))) (by omega))
      rw [hl] at c3 z3 N3
      rw [HNX.out] at N3
      generalize UInt8.ofNat (m / 256 ^ (k - 1 - j)) = z at hby N3
      have hb1 : Below w.heap.size w (wr.setCell ⟨w.heap.size, j, none⟩ (.int .u8 (z.toNat : Int))) := hbel.setCell (Nat.le_refl _) _
      clear HNX
      go_wp2
      go_roundw
      case rel => exact ⟨j + 1, by omega, by go_num, N3, hb1⟩
      case measure => (simp [intOf]; try omega)
    · obtain rfl : j = k := by omega
      have h9 := HW.out
      rw [partB_full _ _ hl] at h9
      have hconv := bytes_string (P := Tryd.prog) 22 9 Tryd.underlying22 Tryd.underlying5 Tryd.underlying9 h9
      clear h9
      go_wp2
      go_ret
      exact ⟨rfl, hbel⟩
end Go.Proofs.YtmkchilhnmkhkaaDoor
namespace Go.Proofs.YtmkchilhnmkhkaaDoor
open Go.RowKit Go.Proofs.YtmkchilhnmkhkaaDoor.Hexa Go.Proofs.YtmkchilhnmkhkaaDoor.Byt Go.Proofs.YtmkchilhnmkhkaaDoor.BitsM

set_option maxRecDepth 100000 in
set_option maxHeartbeats 1000000 in
theorem implNum_no (n width : Int) (w : World) (h : ¬ NumFits n width) (hn : n ≤ 9223372036854775807) :
    Calls Tryd.prog 89 #[.int .i64 n, .int .i64 width] w fun e w' => e = .returned (.string ⟨#[]⟩) ∧ w' = w := by
  by_cases h0 : n < 0
  · go_enter Tryd.func89, Tryd.ntmps89
    go_wp2
    go_ret
    exact ⟨rfl, rfl⟩
  · by_cases hr1 : width < 1
    · go_enter Tryd.func89, Tryd.ntmps89
      go_wp2
      go_ret
      exact ⟨rfl, rfl⟩
    · by_cases hr2 : 7 < width
      · go_enter Tryd.func89, Tryd.ntmps89
        go_wp2
        go_ret
        exact ⟨rfl, rfl⟩
      · have hbig : ¬ n < 256 ^ width.toNat := fun hlt => h ⟨by omega, ⟨by omega, by omega⟩, hlt⟩
        obtain ⟨k, rfl⟩ : ∃ k : Nat, width = k := ⟨width.toNat, by omega⟩
        obtain ⟨m, rfl⟩ : ∃ m : Nat, n = m := ⟨n.toNat, by omega⟩
        have hm : 256 ^ k ≤ m := by
          have e : ((k : Int).toNat) = k := by omega
          rw [e] at hbig
          have e2 : (256 : Int) ^ k = ((256 ^ k : Nat) : Int) := by simp
          rw [e2] at hbig
          omega
        have hq0 := shift_pos hm
        have hq : ¬ ((m : Int) / 2 ^ (8 * k) = 0) := by omega
        have hsh0 : (8 * (k : Int)).toNat = 8 * k := by omega
        clear h hbig hm hq0
        go_enter Tryd.func89, Tryd.ntmps89
        go_wp2
        go_ret
        exact ⟨rfl, rfl⟩

theorem implNum_any (n width : Int) (w : World) (hn : n ≤ 9223372036854775807) :
    Calls Tryd.prog 89 #[.int .i64 n, .int .i64 width] w fun e w' => e = .returned (.string (numTextB n width)) ∧ Below w.heap.size w w' := by
  by_cases h : NumFits n width
  · have hE : numTextB n width = numB n.toNat width.toNat := by unfold numTextB; exact if_pos h
    obtain ⟨h0, ⟨h1, h7⟩, hf⟩ := h
    obtain ⟨m, rfl⟩ : ∃ m : Nat, n = m := ⟨n.toNat, by omega⟩
    obtain ⟨k, rfl⟩ : ∃ k : Nat, width = k := ⟨width.toNat, by omega⟩
    rw [hE]
    simp only [Int.toNat_natCast] at hf ⊢
    have e2 : (256 : Int) ^ k = ((256 ^ k : Nat) : Int) := by simp
    rw [e2] at hf
    exact implNum_yes m k w (by omega) (by omega) (by omega)
  · have hE : numTextB n width = ⟨#[]⟩ := by unfold numTextB; exact if_neg h
    rw [hE]
    exact (implNum_no n width w h hn).mono fun e w' ⟨he, hw⟩ => ⟨he, by rw [hw]; exact Below.refl _ _⟩
end Go.Proofs.YtmkchilhnmkhkaaDoor
namespace Go.Proofs.YtmkchilhnmkhkaaDoor
open Go.RowKit Go.Proofs.YtmkchilhnmkhkaaDoor.Parts Go.Proofs.YtmkchilhnmkhkaaDoor.Hexa Go.Proofs.YtmkchilhnmkhkaaDoor.Byt

set_option maxRecDepth 100000 in
set_option maxHeartbeats 1000000 in
theorem implRecWord_no (p q : Int) (m : ByteArray) (w : World) (_hm : m.size ≤ 2000000) (h : ¬ RecOk ⟨p, q, m⟩) :
    Calls Tryd.prog 48 #[.agg #[.int .i64 p, .int .i64 q, .string m]] w (SaysT ⟨#[]⟩ w) := by
  by_cases h0 : 1 ≤ p ∧ p ≤ 12
  · have H0 := Lib.hid h0
    by_cases h1 : 1 ≤ q ∧ q ≤ 16777215
    · have H1 := Lib.hid h1
      have h2 : ¬ m.size = 4 := fun e => h ⟨h0, h1, e⟩
      have e8 : ((m.size : Int) == 4) = false := by simp; omega
      have e9 : ((m.size : Int) != 4) = true := by simp; omega
      clear h0 h1 h
      go_enter Tryd.func48, Tryd.ntmps48
      go_wp2_with (first | ((with_reducible refine (implIn_yes _ H0.out).mono ?_); rintro e w1 ⟨rfl, rfl⟩) | ((with_reducible refine (implIn_yes _ H1.out).mono ?_); rintro e w1 ⟨rfl, rfl⟩))
      go_ret
      exact ⟨rfl, below_bk w _⟩
    · have H1 := Lib.hid h1
      clear h0 h1 h
      go_enter Tryd.func48, Tryd.ntmps48
      go_wp2_with (first | ((with_reducible refine (implIn_yes _ H0.out).mono ?_); rintro e w1 ⟨rfl, rfl⟩) | ((with_reducible refine (implIn_no _ H1.out).mono ?_); rintro e w1 ⟨rfl, rfl⟩))
      go_ret
      exact ⟨rfl, below_bk w _⟩
  · have H0 := Lib.hid h0
    clear h0 h
    go_enter Tryd.func48, Tryd.ntmps48
    go_wp2_with ((with_reducible refine (implIn_no _ H0.out).mono ?_); rintro e w1 ⟨rfl, rfl⟩)
    go_ret
    exact ⟨rfl, below_bk w _⟩

set_option maxRecDepth 100000 in
set_option maxHeartbeats 1000000 in
theorem implRecWord_yes (p q : Int) (m : ByteArray) (w : World) (h : RecOk ⟨p, q, m⟩) :
    Calls Tryd.prog 48 #[.agg #[.int .i64 p, .int .i64 q, .string m]] w (SaysT (recWordB ⟨p, q, m⟩) w) := by
  have HE := Lib.hid (recWordB_yes h)
  obtain ⟨h0, h1, h2⟩ := h
  have H0 : Hid (1 ≤ p ∧ p ≤ 12) := Lib.hid h0
  have H1 : Hid (1 ≤ q ∧ q ≤ 16777215) := Lib.hid h1
  have hm4 : m.size = 4 := h2
  have e8 : ((m.size : Int) == 4) = true := by simp; omega
  have e9 : ((m.size : Int) != 4) = false := by simp; omega
  have T0 := Lib.hid (Bk.alloc w #[.int .i64 p, .int .i64 q, .string m] 66)
  have B0 := Lib.hid (below_bk w (.cells #[.int .i64 p, .int .i64 q, .string m] 66))
  have hA : (numTextB p 1).size = 1 := numText_size (k := 1) (by omega) (by have := H0.out.1; omega) (by have := H0.out.2; omega)
  have hB : (numTextB q 3).size = 3 := numText_size (k := 3) (by omega) (by have := H1.out.1; omega) (by have := H1.out.2; omega)
  obtain ⟨A, hAe⟩ : ∃ A, numTextB p 1 = A := ⟨_, rfl⟩
  obtain ⟨D, hDe⟩ : ∃ D, numTextB q 3 = D := ⟨_, rfl⟩
  have HA := Lib.hid hAe
  have HD := Lib.hid hDe
  rw [hAe] at hA
  rw [hDe] at hB
  have hA1 : A.size ≤ 1 := by omega
  have hB1 : D.size ≤ 3 := by omega
  have hAD : ¬ (9223372036854775807 < A.size + D.size) := by omega
  have hADm : ¬ (9223372036854775807 < A.size + D.size + 4) := by omega
  clear h0 h1 h2 hAe hDe hA hB
  go_enter Tryd.func48, Tryd.ntmps48
  go_wp2_with (first | ((with_reducible refine (implIn_yes _ H0.out).mono ?_); rintro e w1 ⟨rfl, rfl⟩) | ((with_reducible refine (implIn_yes _ H1.out).mono ?_); rintro e w1 ⟨rfl, rfl⟩))
  have T0d := Lib.hid T0.out.drew
  have B0d : Hid (Below w.heap.size w (w.alloc (.cells #[.int .i64 p, .int .i64 q, .string m] 66)).drew) := Lib.hid B0.out.drew
  go_region_held3 (fun w' => w'.cell? ⟨w.heap.size, 0, none⟩ = some (.int .i64 p) ∧ w'.cell? ⟨w.heap.size, 1, none⟩ = some (.int .i64 q) ∧ w'.cell? ⟨w.heap.size, 2, none⟩ = some (.string m))
    (first
      | exact ⟨T0d.out.cell rfl, T0d.out.cell rfl, T0d.out.cell rfl⟩
      | exact ⟨T1.out.cell rfl, T1.out.cell rfl, T1.out.cell rfl⟩
      | exact ⟨T2.out.cell rfl, T2.out.cell rfl, T2.out.cell rfl⟩
      | go_keep)
    (first
      | (go_at_call 89; (with_reducible refine (implNum_any p 1 _ (by have := H0.out.2; omega)).mono ?_); rw [HA.out]; rintro e w1 ⟨rfl, hb⟩; have T1 := Lib.hid (T0d.out.later hb); have B1 : Hid (Below w.heap.size w w1) := Lib.hid (B0d.out.trans (hb.mono B0d.out.size)); clear hb)
      | (go_at_call 89; (with_reducible refine (implNum_any q 3 _ (by have := H1.out.2; omega)).mono ?_); rw [HD.out]; rintro e w2 ⟨rfl, hb⟩; have T2 := Lib.hid (T1.out.later hb); have B2 : Hid (Below w.heap.size w w2) := Lib.hid (B1.out.trans (hb.mono B1.out.size)); clear hb))
  go_wp2
  go_ret
  exact ⟨by rw [HE.out, HA.out, HD.out]; rfl, B2.out⟩
theorem implRecWord_any (p q : Int) (m : ByteArray) (w : World) (hm : m.size ≤ 2000000) :
    Calls Tryd.prog 48 #[.agg #[.int .i64 p, .int .i64 q, .string m]] w (SaysT (recWordB ⟨p, q, m⟩) w) := by
  by_cases h : RecOk ⟨p, q, m⟩
  · exact implRecWord_yes p q m w h
  · rw [recWordB_no h]; exact implRecWord_no p q m w hm h
end Go.Proofs.YtmkchilhnmkhkaaDoor
