/- Merged texts: Draw12D, Draw12E, Drews, Same12, NumFore, InoSpecB, InoSpecC. -/
import Derived.Test.YtcckhkihhhchbaaDoorPID
import Derived.OneCell
import Derived.BigQuiet
import Derived.Deep.QuietTactic
namespace Go.Proofs.YtcckhkihhhchbaaDoor
open Go.RowKit Go.Proofs.YtcckhkihhhchbaaDoor.Hexa Go.Proofs.YtcckhkihhhchbaaDoor.Byt
namespace Draw

/-- Small enough for every function that takes an inode. -/
def InoSmall (i : InoR) : Prop := (-9223372036854775808 ≤ i.sz ∧ i.sz ≤ 9223372036854775807) ∧ i.R.length ≤ 100 ∧ i.E.length ≤ 100 ∧ FitRec i.R i.R.length 2000000 ∧ FitEntry i.E i.E.length 2000000
theorem small_of_ok {i : InoR} (h : InoOk i) : InoSmall i := by
  rcases h.2 with ⟨_, h1, h2, h3, h4⟩ | ⟨_, h1, h2, h3, h4, h5⟩ | ⟨_, h1, h2, h3, h4, h5⟩
  · exact ⟨by omega, by omega, by omega, fun j hj => by omega, fun j hj => by omega⟩
  · refine ⟨by omega, ?_, by omega, fun j hj => ?_, fun j hj => by omega⟩
    · unfold pagesZ at h3; split at h3 <;> omega
    · have := (h5 j hj).1.2.2; omega
  · refine ⟨by omega, by omega, by omega, fun j hj => by omega, fun j hj => ?_⟩
    have := (h5 j hj).1.2.1; omega
theorem len_of_ok {i : InoR} (h : InoOk i) : i.R.length ≤ 10 ∧ i.E.length ≤ 10 := by
  rcases h.2 with ⟨_, h1, h2, h3, h4⟩ | ⟨_, h1, h2, h3, h4, h5⟩ | ⟨_, h1, h2, h3, h4, h5⟩
  · omega
  · unfold pagesZ at h3; split at h3 <;> omega
  · omega
theorem fit_snocR {R : List RecR} {x : RecR} (h : FitRec R R.length 2000000) (hx : x.f2.size ≤ 8) : FitRec (R ++ [x]) (R ++ [x]).length 2000000 := fun j hj => by
  rw [getD_last]
  by_cases e : j = R.length
  · rw [if_pos e]; omega
  · rw [if_neg e]; exact h j (by simp at hj; omega)
theorem fit_snocE {R : List EntryR} {x : EntryR} (h : FitEntry R R.length 2000000) (hx : x.f1.size ≤ 8) : FitEntry (R ++ [x]) (R ++ [x]).length 2000000 := fun j hj => by
  rw [getD_last]
  by_cases e : j = R.length
  · rw [if_pos e]; omega
  · rw [if_neg e]; exact h j (by simp at hj; omega)

/-- What any drawn inode is: the two rows are the call's own. -/
def AnyDrawn (P : InoR → Prop) (w : World) (c : Nat) (ad : Option Addr) (len cap : Nat) (e : Ending) (w' : World) : Prop :=
  ∃ kd sz gn key aR cR aE cE R E, P ⟨kd, sz, gn, key, R, E⟩ ∧ e = .returned (.agg #[.int .i64 kd, .int .i64 sz, .int .i64 gn, .string key, .slice aR R.length cR, .slice aE E.length cE])
    ∧ w'.ownsRow w.heap.size 36 3 (.slice aR R.length cR) R.length (cellsE encRec R) ∧ w'.ownsRow w.heap.size 41 2 (.slice aE E.length cE) E.length (cellsE encEntry E) ∧ Cur w' c ad len cap ∧ w.grownBy w' (some c)

structure Rows (w wr : World) (c : Nat) (ad : Option Addr) (len cap bx : Nat) (cs : Array Value) (aR : Option Addr) (nR cR : Nat) (R : List RecR) (aE : Option Addr) (nE cE : Nat) (E : List EntryR) : Prop where
  core : Core w wr c ad len cap bx cs
  rR : wr.ownsRow (w.heap.size + 1) 36 3 (.slice aR nR cR) nR (cellsE encRec R)
  rE : wr.ownsRow (w.heap.size + 1) 41 2 (.slice aE nE cE) nE (cellsE encEntry E)
  nR : (Value.slice aR nR cR).ownBlock ≠ some bx
  nE : (Value.slice aE nE cE).ownBlock ≠ some bx
section
variable {w wr w' : World} {c : Nat} {ad : Option Addr} {len cap bx : Nat} {cs : Array Value} {aR aE : Option Addr} {nR cR nE cE : Nat} {R : List RecR} {E : List EntryR}
theorem Rows.draw (h : Rows w wr c ad len cap bx cs aR nR cR R aE nE cE E) (hc : Cur w' c ad len cap) (hg : wr.grownBy w' (some c)) : Rows w w' c ad len cap bx cs aR nR cR R aE nE cE E :=
  ⟨h.core.draw hc hg, own_draw h.rR hg (by have := h.core.cl; omega), own_draw h.rE hg (by have := h.core.cl; omega), h.nR, h.nE⟩
theorem Rows.drew (h : Rows w wr c ad len cap bx cs aR nR cR R aE nE cE E) : Rows w wr.drew c ad len cap bx cs aR nR cR R aE nE cE E := ⟨h.core.drew, h.rR, h.rE, h.nR, h.nE⟩
theorem Rows.set (h : Rows w wr c ad len cap bx cs aR nR cR R aE nE cE E) (j : Nat) (v : Value) : Rows w (wr.setCell ⟨bx, j, none⟩ v) c ad len cap bx (cs.setIfInBounds j v) aR nR cR R aE nE cE E :=
  ⟨h.core.set j v, ownsRow_setCell_other h.rR h.nR v, ownsRow_setCell_other h.rE h.nE v, h.nR, h.nE⟩
theorem Core.own2 (h : Core w wr c ad len cap bx cs) {r : Option Nat} (hg : wr.grownBy w' r) (hr : ∀ k, r = some k → w.heap.size < k ∧ k ≠ bx) : Core w w' c ad len cap bx cs :=
  ⟨h.box.grown hg (fun e => by have := hr _ e; omega), h.res.grown hg (fun e => by have := hr _ e; have := h.low; omega), h.low, h.cl, cur_grown h.cur hg (fun e => by have := hr _ e.symm; have := h.low; have := h.cl; omega),
   src_grown' h.src hg (fun k e => by have := hr _ e; have := h.low; have := h.cl; omega) (Nat.le_of_lt (cur_lt h.cur)),
   ⟨hg.os.trans h.grown.os, hg.tape.trans h.grown.tape, hg.output.trans h.grown.output, Nat.le_trans h.grown.size hg.size, fun k hk hne => (hg.block k (Nat.lt_of_lt_of_le hk h.grown.size) (fun e => by have := hr k e.symm; have := h.low; omega)).trans (h.grown.block k hk hne)⟩⟩
end
theorem own_keep {w w' : World} {B e k n m cp : Nat} {a b : Option Addr} {cb : Nat} {xs : List Value} (h : w.ownsRow B e k (.slice a n cp) n xs) (hx : b = none ∨ a = none) (hg : w.grownBy w' (Value.slice b m cb).ownBlock) : w'.ownsRow B e k (.slice a n cp) n xs :=
  ⟨h.1, h.2.imp id fun ⟨g, cp', cur, hv, hb, hh, r⟩ => ⟨g, cp', cur, hv, hb, by
    rw [hg.block g (Array.getElem?_eq_some_iff.1 hh).1 (fun e => by
      rcases hx with rfl | rfl
      · simp [Value.ownBlock] at e
      · cases hv)]
    exact hh, r⟩⟩
theorem own_alloc {w : World} {B e k n : Nat} {v : Value} {xs : List Value} (h : w.ownsRow B e k v n xs) (o : Obj) : (w.alloc o).ownsRow B e k v n xs :=
  ⟨h.1, h.2.imp id fun ⟨g, cp, cur, hv, hb, hh, r⟩ => ⟨g, cp, cur, hv, hb, by rw [Below.heap_alloc _ _ _ (Array.getElem?_eq_some_iff.1 hh).1]; exact hh, r⟩⟩

theorem any_end {P : InoR → Prop} {w wr : World} {c : Nat} {ad : Option Addr} {len cap bx : Nat} {kd sz gn : Int} {key : ByteArray} {aR aE : Option Addr} {nR cR nE cE : Nat} {R : List RecR} {E : List EntryR}
    (h : Rows w wr c ad len cap bx #[.int .i64 kd, .int .i64 sz, .int .i64 gn, .string key, .slice aR nR cR, .slice aE nE cE] aR nR cR R aE nE cE E) (hP : P ⟨kd, sz, gn, key, R, E⟩) (hR : R.length = nR) (hE : E.length = nE) :
    AnyDrawn P w c ad len cap (.returned (.agg #[.int .i64 kd, .int .i64 sz, .int .i64 gn, .string key, .slice aR nR cR, .slice aE nE cE])) (wr.setCells w.heap.size 0 [.int .i64 kd, .int .i64 sz, .int .i64 gn, .string key, .slice aR nR cR, .slice aE nE cE]) := by
  subst hR hE
  have hk := sets_kept w.heap.size 0 [.int .i64 kd, .int .i64 sz, .int .i64 gn, .string key, .slice aR R.length cR, .slice aE E.length cE] h.core.cur h.core.grown (by have := h.core.cl; omega) (Nat.le_refl _)
  refine ⟨kd, sz, gn, key, aR, cR, aE, cE, R, E, hP, rfl, ownE_mono (B := w.heap.size + 1) ?_ (by omega), ownE_mono (B := w.heap.size + 1) ?_ (by omega), hk.1, hk.2⟩
  · exact own_set (own_set (own_set (own_set (own_set (own_set h.rR (by omega) _) (by omega) _) (by omega) _) (by omega) _) (by omega) _) (by omega) _
  · exact own_set (own_set (own_set (own_set (own_set (own_set h.rE (by omega) _) (by omega) _) (by omega) _) (by omega) _) (by omega) _) (by omega) _
/-- A record, an entry added: the row and its field. -/
theorem Rows.snocR {w wr w' : World} {c : Nat} {ad : Option Addr} {len cap bx : Nat} {cs : Array Value} {aR aE : Option Addr} {nR cR nE cE : Nat} {R : List RecR} {E : List EntryR} (h : Rows w wr c ad len cap bx cs aR nR cR R aE nE cE E) (hx : aR = none ∨ aE = none)
    {o : Obj} {a6 : Option Addr} {c6 m : Nat} {R6 : List RecR} (hown : w'.ownsRow (w.heap.size + 1) 36 3 (.slice a6 m c6) m (cellsE encRec R6)) (hg : (wr.alloc o).grownBy w' (Value.slice aR nR cR).ownBlock)
    (hat : (Value.slice a6 m c6).ownBlock = (Value.slice aR nR cR).ownBlock ∨ (Value.slice a6 m c6).ownBlock = some (wr.alloc o).heap.size) : Rows w w' c ad len cap bx cs a6 m c6 R6 aE nE cE E :=
  ⟨(h.core.alloc o).own2 hg (fun k e => ⟨(h.rR.lt k e).1, fun hk => h.nR (by rw [e, hk])⟩), hown, own_keep (own_alloc h.rE o) hx hg, by
    rcases hat with e | e
    · rw [e]; exact h.nR
    · rw [e]; intro hk; have h1 := Option.some.inj hk; have h2 := h.core.lt; simp at h1; omega, h.nE⟩
theorem Rows.snocE {w wr w' : World} {c : Nat} {ad : Option Addr} {len cap bx : Nat} {cs : Array Value} {aR aE : Option Addr} {nR cR nE cE : Nat} {R : List RecR} {E : List EntryR} (h : Rows w wr c ad len cap bx cs aR nR cR R aE nE cE E) (hx : aR = none ∨ aE = none)
    {o : Obj} {a6 : Option Addr} {c6 m : Nat} {E6 : List EntryR} (hown : w'.ownsRow (w.heap.size + 1) 41 2 (.slice a6 m c6) m (cellsE encEntry E6)) (hg : (wr.alloc o).grownBy w' (Value.slice aE nE cE).ownBlock)
    (hat : (Value.slice a6 m c6).ownBlock = (Value.slice aE nE cE).ownBlock ∨ (Value.slice a6 m c6).ownBlock = some (wr.alloc o).heap.size) : Rows w w' c ad len cap bx cs aR nR cR R a6 m c6 E6 :=
  ⟨(h.core.alloc o).own2 hg (fun k e => ⟨(h.rE.lt k e).1, fun hk => h.nE (by rw [e, hk])⟩), own_keep (own_alloc h.rR o) hx.symm hg, hown, h.nR, by
    rcases hat with e | e
    · rw [e]; exact h.nE
    · rw [e]; intro hk; have h1 := Option.some.inj hk; have h2 := h.core.lt; simp at h1; omega⟩

set_option maxRecDepth 100000 in
set_option maxHeartbeats 16000000 in
theorem any12_any (c : Nat) (ad : Option Addr) (len cap : Nat) (w : World) (hlen : len ≤ 1048576) (hc : Cur w c ad len cap) (hs : Src w c ad len) :
    Calls Tryd.prog 32 #[.pointer (some ⟨c, 0, none⟩)] w (AnyDrawn InoSmall w c ad len cap) := by
  have hlt := cur_lt hc
  have ga := grown_alloc w (.cells #[.int .i64 0, .int .i64 0, .int .i64 0, .string ⟨#[]⟩, .slice none 0 0, .slice none 0 0] 27) (some c)
  have C0 := Lib.hid (cur_grown hc (grown_alloc w (.cells #[.int .i64 0, .int .i64 0, .int .i64 0, .string ⟨#[]⟩, .slice none 0 0, .slice none 0 0] 27) none) (by simp))
  have S0 := Lib.hid (src_grown hs ga hlt)
  have R0 := Lib.hid (Bk.alloc w #[.int .i64 0, .int .i64 0, .int .i64 0, .string ⟨#[]⟩, .slice none 0 0, .slice none 0 0] 27)
  have G0 := Lib.hid ga
  have HCN : Hid (¬ c = w.heap.size) := Lib.hid (by omega)
  have HLT := Lib.hid hlt
  have HSZ : Hid ((w.alloc (.cells #[.int .i64 0, .int .i64 0, .int .i64 0, .string ⟨#[]⟩, .slice none 0 0, .slice none 0 0] 27)).heap.size = w.heap.size + 1) := Lib.hid (by simp)
  clear hc hs ga
  have hcw := HLT.out
  go_enter Tryd.func32, Tryd.ntmps32
  go_wp2_with fail
  refine (ino12_any c ad len cap _ hlen C0.out S0.out).mono ?_
  rintro e w1 ⟨kd, sz, gn, key, aR, cR, aE, cE, R, E, hok, rfl, oR, oE, hx, hc1, hg1⟩
  have C1 := Lib.hid hc1
  have S1 := Lib.hid (src_grown S0.out hg1 (cur_lt C0.out))
  have G1 := Lib.hid (grownBy_trans G0.out hg1)
  have R1 := Lib.hid (bk_kept R0.out hg1 HCN.out)
  have HSM := Lib.hid (small_of_ok hok)
  have HLN := Lib.hid (len_of_ok hok)
  have HX := Lib.hid hx
  rw [HSZ.out] at oR oE
  obtain ⟨bx, hbx⟩ : ∃ b, w1.heap.size = b := ⟨_, rfl⟩
  have K1 : Hid (Rows w (w1.alloc (.cells #[.int .i64 kd, .int .i64 sz, .int .i64 gn, .string key, .slice aR R.length cR, .slice aE E.length cE] 27)) c ad len cap bx #[.int .i64 kd, .int .i64 sz, .int .i64 gn, .string key, .slice aR R.length cR, .slice aE E.length cE] aR R.length cR R aE E.length cE E) := Lib.hid (by
    obtain ⟨a1, a2, a3, a4, a5, a6⟩ := box_new #[.int .i64 kd, .int .i64 sz, .int .i64 gn, .string key, .slice aR R.length cR, .slice aE E.length cE] 27 C1.out S1.out G1.out
    rw [hbx] at a4
    exact ⟨⟨a4, R1.out.later (below_bk _ _), by have := R1.out.lt; omega, HLT.out, a1, a2, a3⟩, own_alloc oR _, own_alloc oE _, fun h => by have := (oR.lt _ h).2; omega, fun h => by have := (oE.lt _ h).2; omega⟩)
  have hb1 : ¬ bx = w.heap.size := by have := K1.out.core.low; omega
  have hb2 : ¬ w.heap.size = bx := by have := K1.out.core.low; omega
  clear hc1 hg1 hok oR oE hx
  go_wp2_with fail
  obtain ⟨w2, h2⟩ : ∃ x, x = w1.alloc (.cells #[.int .i64 kd, .int .i64 sz, .int .i64 gn, .string key, .slice aR R.length cR, .slice aE E.length cE] 27) := ⟨_, rfl⟩
  rw [← h2] at K1 ⊢
  clear h2 hbx
  refine (below_small c ad len cap 12 _ hlen (by decide) (by decide) K1.out.core.cur K1.out.core.src).mono ?_
  rintro e w3 ⟨x, x0, x1, rfl, hc3, hg3⟩
  have K3 := Lib.hid (K1.out.draw hc3 hg3)
  clear hc3 hg3 x0 x1 K1
  by_cases h0 : x = 0
  · subst h0
    go_wp2_with fail
    refine (pickNum_new c ad len cap 5 [0, 1, 2, 3, -1] _ _ w3 rfl hlen (by decide) (by decide) rfl K3.out.core.cur K3.out.core.src).mono ?_
    rintro e w4 ⟨z, hz, rfl, hc4, hg4⟩
    skip
    have K4 := Lib.hid (K3.out.draw hc4 hg4)
    have y0 := K4.out.core.box.cell (j := 0) rfl
    have v0 := K4.out.core.box.fr (o := 0)
    have K5 := Lib.hid (K4.out.set 0 (.int .i64 z))
    clear hc4 hg4 hz
    have x0 := K5.out.core.box.cell (j := 0) rfl
    have r0 := K5.out.core.res.cell (j := 0) rfl
    have f0 := K5.out.core.res.fr (o := 0)
    have x1 := K5.out.core.box.cell (j := 1) rfl
    have r1 := K5.out.core.res.cell (j := 1) rfl
    have f1 := K5.out.core.res.fr (o := 1)
    have x2 := K5.out.core.box.cell (j := 2) rfl
    have r2 := K5.out.core.res.cell (j := 2) rfl
    have f2 := K5.out.core.res.fr (o := 2)
    have x3 := K5.out.core.box.cell (j := 3) rfl
    have r3 := K5.out.core.res.cell (j := 3) rfl
    have f3 := K5.out.core.res.fr (o := 3)
    have x4 := K5.out.core.box.cell (j := 4) rfl
    have r4 := K5.out.core.res.cell (j := 4) rfl
    have f4 := K5.out.core.res.fr (o := 4)
    have x5 := K5.out.core.box.cell (j := 5) rfl
    have r5 := K5.out.core.res.cell (j := 5) rfl
    have f5 := K5.out.core.res.fr (o := 5)
    have qf := ((((((K5.out.core.res.set 0 (.int .i64 z)).set 1 (.int .i64 sz)).set 2 (.int .i64 gn)).set 3 (.string key)).set 4 (.slice aR R.length cR)).set 5 (.slice aE E.length cE))
    have q0 := qf.cell (j := 0) (v := .int .i64 z) rfl
    have q1 := qf.cell (j := 1) (v := .int .i64 sz) rfl
    have q2 := qf.cell (j := 2) (v := .int .i64 gn) rfl
    have q3 := qf.cell (j := 3) (v := .string key) rfl
    have q4 := qf.cell (j := 4) (v := .slice aR R.length cR) rfl
    have q5 := qf.cell (j := 5) (v := .slice aE E.length cE) rfl
    have HE9 := Lib.hid (any_end (P := InoSmall) K5.out HSM.out rfl rfl)
    clear qf
    go_wp2
    refine bodyPost_ret (v := .agg #[.int .i64 z, .int .i64 sz, .int .i64 gn, .string key, .slice aR R.length cR, .slice aE E.length cE]) ?_ rfl HE9.out
    simp [results, Tryd.results32, go_sem, q0, q1, q2, q3, q4, q5]
  have e0 : (x == 0) = false := by simpa using h0
  by_cases h1 : x = 1
  · subst h1
    go_wp2_with fail
    refine (pickNum_new c ad len cap 4 [129, -1, 64, 1] _ _ w3 rfl hlen (by decide) (by decide) rfl K3.out.core.cur K3.out.core.src).mono ?_
    rintro e w4 ⟨z, hz, rfl, hc4, hg4⟩
    have HZ : Hid (-9223372036854775808 ≤ z ∧ z ≤ 9223372036854775807) := Lib.hid (by simp at hz; omega)
    have K4 := Lib.hid (K3.out.draw hc4 hg4)
    have y1 := K4.out.core.box.cell (j := 1) rfl
    have v1 := K4.out.core.box.fr (o := 1)
    have K5 := Lib.hid (K4.out.set 1 (.int .i64 z))
    clear hc4 hg4 hz
    have x0 := K5.out.core.box.cell (j := 0) rfl
    have r0 := K5.out.core.res.cell (j := 0) rfl
    have f0 := K5.out.core.res.fr (o := 0)
    have x1 := K5.out.core.box.cell (j := 1) rfl
    have r1 := K5.out.core.res.cell (j := 1) rfl
    have f1 := K5.out.core.res.fr (o := 1)
    have x2 := K5.out.core.box.cell (j := 2) rfl
    have r2 := K5.out.core.res.cell (j := 2) rfl
    have f2 := K5.out.core.res.fr (o := 2)
    have x3 := K5.out.core.box.cell (j := 3) rfl
    have r3 := K5.out.core.res.cell (j := 3) rfl
    have f3 := K5.out.core.res.fr (o := 3)
    have x4 := K5.out.core.box.cell (j := 4) rfl
    have r4 := K5.out.core.res.cell (j := 4) rfl
    have f4 := K5.out.core.res.fr (o := 4)
    have x5 := K5.out.core.box.cell (j := 5) rfl
    have r5 := K5.out.core.res.cell (j := 5) rfl
    have f5 := K5.out.core.res.fr (o := 5)
    have qf := ((((((K5.out.core.res.set 0 (.int .i64 kd)).set 1 (.int .i64 z)).set 2 (.int .i64 gn)).set 3 (.string key)).set 4 (.slice aR R.length cR)).set 5 (.slice aE E.length cE))
    have q0 := qf.cell (j := 0) (v := .int .i64 kd) rfl
    have q1 := qf.cell (j := 1) (v := .int .i64 z) rfl
    have q2 := qf.cell (j := 2) (v := .int .i64 gn) rfl
    have q3 := qf.cell (j := 3) (v := .string key) rfl
    have q4 := qf.cell (j := 4) (v := .slice aR R.length cR) rfl
    have q5 := qf.cell (j := 5) (v := .slice aE E.length cE) rfl
    have HE9 := Lib.hid (any_end (P := InoSmall) K5.out ⟨HZ.out, HSM.out.2⟩ rfl rfl)
    clear qf
    go_wp2
    refine bodyPost_ret (v := .agg #[.int .i64 kd, .int .i64 z, .int .i64 gn, .string key, .slice aR R.length cR, .slice aE E.length cE]) ?_ rfl HE9.out
    simp [results, Tryd.results32, go_sem, q0, q1, q2, q3, q4, q5]
  have e1 : (x == 1) = false := by simpa using h1
  by_cases h2 : x = 2
  · subst h2
    go_wp2_with fail
    refine (pickNum_new c ad len cap 3 [65535, 65536, -1] _ _ w3 rfl hlen (by decide) (by decide) rfl K3.out.core.cur K3.out.core.src).mono ?_
    rintro e w4 ⟨z, hz, rfl, hc4, hg4⟩
    skip
    have K4 := Lib.hid (K3.out.draw hc4 hg4)
    have y2 := K4.out.core.box.cell (j := 2) rfl
    have v2 := K4.out.core.box.fr (o := 2)
    have K5 := Lib.hid (K4.out.set 2 (.int .i64 z))
    clear hc4 hg4 hz
    have x0 := K5.out.core.box.cell (j := 0) rfl
    have r0 := K5.out.core.res.cell (j := 0) rfl
    have f0 := K5.out.core.res.fr (o := 0)
    have x1 := K5.out.core.box.cell (j := 1) rfl
    have r1 := K5.out.core.res.cell (j := 1) rfl
    have f1 := K5.out.core.res.fr (o := 1)
    have x2 := K5.out.core.box.cell (j := 2) rfl
    have r2 := K5.out.core.res.cell (j := 2) rfl
    have f2 := K5.out.core.res.fr (o := 2)
    have x3 := K5.out.core.box.cell (j := 3) rfl
    have r3 := K5.out.core.res.cell (j := 3) rfl
    have f3 := K5.out.core.res.fr (o := 3)
    have x4 := K5.out.core.box.cell (j := 4) rfl
    have r4 := K5.out.core.res.cell (j := 4) rfl
    have f4 := K5.out.core.res.fr (o := 4)
    have x5 := K5.out.core.box.cell (j := 5) rfl
    have r5 := K5.out.core.res.cell (j := 5) rfl
    have f5 := K5.out.core.res.fr (o := 5)
    have qf := ((((((K5.out.core.res.set 0 (.int .i64 kd)).set 1 (.int .i64 sz)).set 2 (.int .i64 z)).set 3 (.string key)).set 4 (.slice aR R.length cR)).set 5 (.slice aE E.length cE))
    have q0 := qf.cell (j := 0) (v := .int .i64 kd) rfl
    have q1 := qf.cell (j := 1) (v := .int .i64 sz) rfl
    have q2 := qf.cell (j := 2) (v := .int .i64 z) rfl
    have q3 := qf.cell (j := 3) (v := .string key) rfl
    have q4 := qf.cell (j := 4) (v := .slice aR R.length cR) rfl
    have q5 := qf.cell (j := 5) (v := .slice aE E.length cE) rfl
    have HE9 := Lib.hid (any_end (P := InoSmall) K5.out HSM.out rfl rfl)
    clear qf
    go_wp2
    refine bodyPost_ret (v := .agg #[.int .i64 kd, .int .i64 sz, .int .i64 z, .string key, .slice aR R.length cR, .slice aE E.length cE]) ?_ rfl HE9.out
    simp [results, Tryd.results32, go_sem, q0, q1, q2, q3, q4, q5]
  have e2 : (x == 2) = false := by simpa using h2
  by_cases h3 : x = 3
  · subst h3
    have HSML : Hid (R.length ≤ 99) := Lib.hid (by have := HLN.out.1; omega)
    have y4 := K3.out.core.box.cell (j := 4) rfl
    go_wp2
    go_region_law (first
      | (refine step_appE rfl (.tmp 29) (.tmp 32) 24 24 rfl (.slice aR R.length cR) (.slice (some ⟨w5.heap.size, 0, none⟩) 1 1) (by simp [Act.eval]) (by simp [Act.eval]) HAPP.out ?_
         intro v6 w6 hown6 hgrow6 hat6
         obtain ⟨a6, c6, rfl, _, _, _⟩ := ownE_form hown6
         have K6 := Lib.hid (K5.out.snocR HX.out hown6 hgrow6 hat6)
         have z4 := K6.out.core.box.cell (j := 4) rfl
         have v4 := K6.out.core.box.fr (o := 4)
         clear hown6 hgrow6 hat6)
      | (go_simp; go_at_call 73; refine (anyRec12_any c ad len cap _ hlen K3.out.drew.core.cur K3.out.drew.core.src).mono ?_; rintro e w5 ⟨p, q, m, hP, rfl, hc5, hg5⟩
         have K5 := Lib.hid (K3.out.drew.draw hc5 hg5)
         have HP := Lib.hid hP
         have d4 := K5.out.core.box.cell (j := 4) rfl
         have d4a := (K5.out.core.alloc (.cells #[.int .i64 p, .int .i64 q, .string m] 36)).box.cell (j := 4) rfl
         have HAPP := Lib.hid (appRec1 w5 24 (w.heap.size + 1) (.slice aR R.length cR) R.length R K5.out.rR (by have := K5.out.core.lt; have := K5.out.core.low; omega) ⟨p, q, m⟩ (by have := HSML.out; omega))
         clear hc5 hg5 hP))
    all_goals
      have K7 := Lib.hid (K6.out.set 4 (.slice a6 (R.length + 1) c6))
      clear HAPP y4
      have x0 := K7.out.core.box.cell (j := 0) rfl
      have r0 := K7.out.core.res.cell (j := 0) rfl
      have f0 := K7.out.core.res.fr (o := 0)
      have x1 := K7.out.core.box.cell (j := 1) rfl
      have r1 := K7.out.core.res.cell (j := 1) rfl
      have f1 := K7.out.core.res.fr (o := 1)
      have x2 := K7.out.core.box.cell (j := 2) rfl
      have r2 := K7.out.core.res.cell (j := 2) rfl
      have f2 := K7.out.core.res.fr (o := 2)
      have x3 := K7.out.core.box.cell (j := 3) rfl
      have r3 := K7.out.core.res.cell (j := 3) rfl
      have f3 := K7.out.core.res.fr (o := 3)
      have x4 := K7.out.core.box.cell (j := 4) rfl
      have r4 := K7.out.core.res.cell (j := 4) rfl
      have f4 := K7.out.core.res.fr (o := 4)
      have x5 := K7.out.core.box.cell (j := 5) rfl
      have r5 := K7.out.core.res.cell (j := 5) rfl
      have f5 := K7.out.core.res.fr (o := 5)
      have qf := ((((((K7.out.core.res.set 0 (.int .i64 kd)).set 1 (.int .i64 sz)).set 2 (.int .i64 gn)).set 3 (.string key)).set 4 (.slice a6 (R.length + 1) c6)).set 5 (.slice aE E.length cE))
      have q0 := qf.cell (j := 0) (v := .int .i64 kd) rfl
      have q1 := qf.cell (j := 1) (v := .int .i64 sz) rfl
      have q2 := qf.cell (j := 2) (v := .int .i64 gn) rfl
      have q3 := qf.cell (j := 3) (v := .string key) rfl
      have q4 := qf.cell (j := 4) (v := .slice a6 (R.length + 1) c6) rfl
      have q5 := qf.cell (j := 5) (v := .slice aE E.length cE) rfl
      have HE9 := Lib.hid (any_end (P := InoSmall) K7.out ⟨HSM.out.1, by show (R ++ [_]).length ≤ 100; have := HSML.out; simp; omega, HSM.out.2.2.1, fit_snocR HSM.out.2.2.2.1 HP.out, HSM.out.2.2.2.2⟩ (by simp) rfl)
      clear qf
      go_wp2
      refine bodyPost_ret (v := .agg #[.int .i64 kd, .int .i64 sz, .int .i64 gn, .string key, .slice a6 (R.length + 1) c6, .slice aE E.length cE]) ?_ rfl HE9.out
      simp [results, Tryd.results32, go_sem, q0, q1, q2, q3, q4, q5]
  have e3 : (x == 3) = false := by simpa using h3
  by_cases h4 : x = 4
  · subst h4
    have HSML : Hid (E.length ≤ 99) := Lib.hid (by have := HLN.out.2; omega)
    have y5 := K3.out.core.box.cell (j := 5) rfl
    go_wp2
    go_region_law (first
      | (refine step_appE rfl (.tmp 38) (.tmp 41) 25 25 rfl (.slice aE E.length cE) (.slice (some ⟨w5.heap.size, 0, none⟩) 1 1) (by simp [Act.eval]) (by simp [Act.eval]) HAPP.out ?_
         intro v6 w6 hown6 hgrow6 hat6
         obtain ⟨a6, c6, rfl, _, _, _⟩ := ownE_form hown6
         have K6 := Lib.hid (K5.out.snocE HX.out hown6 hgrow6 hat6)
         have z5 := K6.out.core.box.cell (j := 5) rfl
         have v5 := K6.out.core.box.fr (o := 5)
         clear hown6 hgrow6 hat6)
      | (go_simp; go_at_call 74; refine (anyEntry12_any c ad len cap _ hlen K3.out.drew.core.cur K3.out.drew.core.src).mono ?_; rintro e w5 ⟨p, m, hP, rfl, hc5, hg5⟩
         have K5 := Lib.hid (K3.out.drew.draw hc5 hg5)
         have HP := Lib.hid hP
         have d5 := K5.out.core.box.cell (j := 5) rfl
         have d5a := (K5.out.core.alloc (.cells #[.int .i64 p, .string m] 41)).box.cell (j := 5) rfl
         have HAPP := Lib.hid (appEntry1 w5 25 (w.heap.size + 1) (.slice aE E.length cE) E.length E K5.out.rE (by have := K5.out.core.lt; have := K5.out.core.low; omega) ⟨p, m⟩ (by have := HSML.out; omega))
         clear hc5 hg5 hP))
    all_goals
      have K7 := Lib.hid (K6.out.set 5 (.slice a6 (E.length + 1) c6))
      clear HAPP y5
      have x0 := K7.out.core.box.cell (j := 0) rfl
      have r0 := K7.out.core.res.cell (j := 0) rfl
      have f0 := K7.out.core.res.fr (o := 0)
      have x1 := K7.out.core.box.cell (j := 1) rfl
      have r1 := K7.out.core.res.cell (j := 1) rfl
      have f1 := K7.out.core.res.fr (o := 1)
      have x2 := K7.out.core.box.cell (j := 2) rfl
      have r2 := K7.out.core.res.cell (j := 2) rfl
      have f2 := K7.out.core.res.fr (o := 2)
      have x3 := K7.out.core.box.cell (j := 3) rfl
      have r3 := K7.out.core.res.cell (j := 3) rfl
      have f3 := K7.out.core.res.fr (o := 3)
      have x4 := K7.out.core.box.cell (j := 4) rfl
      have r4 := K7.out.core.res.cell (j := 4) rfl
      have f4 := K7.out.core.res.fr (o := 4)
      have x5 := K7.out.core.box.cell (j := 5) rfl
      have r5 := K7.out.core.res.cell (j := 5) rfl
      have f5 := K7.out.core.res.fr (o := 5)
      have qf := ((((((K7.out.core.res.set 0 (.int .i64 kd)).set 1 (.int .i64 sz)).set 2 (.int .i64 gn)).set 3 (.string key)).set 4 (.slice aR R.length cR)).set 5 (.slice a6 (E.length + 1) c6))
      have q0 := qf.cell (j := 0) (v := .int .i64 kd) rfl
      have q1 := qf.cell (j := 1) (v := .int .i64 sz) rfl
      have q2 := qf.cell (j := 2) (v := .int .i64 gn) rfl
      have q3 := qf.cell (j := 3) (v := .string key) rfl
      have q4 := qf.cell (j := 4) (v := .slice aR R.length cR) rfl
      have q5 := qf.cell (j := 5) (v := .slice a6 (E.length + 1) c6) rfl
      have HE9 := Lib.hid (any_end (P := InoSmall) K7.out ⟨HSM.out.1, HSM.out.2.1, by show (E ++ [_]).length ≤ 100; have := HSML.out; simp; omega, HSM.out.2.2.2.1, fit_snocE HSM.out.2.2.2.2 HP.out⟩ rfl (by simp))
      clear qf
      go_wp2
      refine bodyPost_ret (v := .agg #[.int .i64 kd, .int .i64 sz, .int .i64 gn, .string key, .slice aR R.length cR, .slice a6 (E.length + 1) c6]) ?_ rfl HE9.out
      simp [results, Tryd.results32, go_sem, q0, q1, q2, q3, q4, q5]
  have e4 : (x == 4) = false := by simpa using h4
  by_cases h5 : x = 5
  · subst h5
    go_wp2_with fail
    refine (below_small c ad len cap 10 _ hlen (by decide) (by decide) K3.out.core.cur K3.out.core.src).mono ?_
    rintro e w4 ⟨u, u0, u1, rfl, hc4, hg4⟩
    have K4 := Lib.hid (K3.out.draw hc4 hg4)
    obtain ⟨k, rfl⟩ : ∃ k : Nat, u = k := ⟨u.toNat, by omega⟩
    have hk : k < 10 := by omega
    clear hc4 hg4 u0 u1
    go_wp2_with fail
    refine (text_any c ad len cap k _ hlen (by omega) K4.out.core.cur K4.out.core.src).mono ?_
    rintro e w5 ⟨v, ⟨t, rfl, ht⟩, rfl, hc5, hg5⟩
    have K5 := Lib.hid (K4.out.draw hc5 hg5)
    have y3 := K5.out.core.box.cell (j := 3) rfl
    have v3 := K5.out.core.box.fr (o := 3)
    have K6 := Lib.hid (K5.out.set 3 (.string t))
    clear hc5 hg5 ht
    have x0 := K6.out.core.box.cell (j := 0) rfl
    have r0 := K6.out.core.res.cell (j := 0) rfl
    have f0 := K6.out.core.res.fr (o := 0)
    have x1 := K6.out.core.box.cell (j := 1) rfl
    have r1 := K6.out.core.res.cell (j := 1) rfl
    have f1 := K6.out.core.res.fr (o := 1)
    have x2 := K6.out.core.box.cell (j := 2) rfl
    have r2 := K6.out.core.res.cell (j := 2) rfl
    have f2 := K6.out.core.res.fr (o := 2)
    have x3 := K6.out.core.box.cell (j := 3) rfl
    have r3 := K6.out.core.res.cell (j := 3) rfl
    have f3 := K6.out.core.res.fr (o := 3)
    have x4 := K6.out.core.box.cell (j := 4) rfl
    have r4 := K6.out.core.res.cell (j := 4) rfl
    have f4 := K6.out.core.res.fr (o := 4)
    have x5 := K6.out.core.box.cell (j := 5) rfl
    have r5 := K6.out.core.res.cell (j := 5) rfl
    have f5 := K6.out.core.res.fr (o := 5)
    have qf := ((((((K6.out.core.res.set 0 (.int .i64 kd)).set 1 (.int .i64 sz)).set 2 (.int .i64 gn)).set 3 (.string t)).set 4 (.slice aR R.length cR)).set 5 (.slice aE E.length cE))
    have q0 := qf.cell (j := 0) (v := .int .i64 kd) rfl
    have q1 := qf.cell (j := 1) (v := .int .i64 sz) rfl
    have q2 := qf.cell (j := 2) (v := .int .i64 gn) rfl
    have q3 := qf.cell (j := 3) (v := .string t) rfl
    have q4 := qf.cell (j := 4) (v := .slice aR R.length cR) rfl
    have q5 := qf.cell (j := 5) (v := .slice aE E.length cE) rfl
    have HE9 := Lib.hid (any_end (P := InoSmall) K6.out HSM.out rfl rfl)
    clear qf
    go_wp2
    refine bodyPost_ret (v := .agg #[.int .i64 kd, .int .i64 sz, .int .i64 gn, .string t, .slice aR R.length cR, .slice aE E.length cE]) ?_ rfl HE9.out
    simp [results, Tryd.results32, go_sem, q0, q1, q2, q3, q4, q5]
  have e5 : (x == 5) = false := by simpa using h5
  clear h0 h1 h2 h3 h4 h5
  have x0 := K3.out.core.box.cell (j := 0) rfl
  have r0 := K3.out.core.res.cell (j := 0) rfl
  have f0 := K3.out.core.res.fr (o := 0)
  have x1 := K3.out.core.box.cell (j := 1) rfl
  have r1 := K3.out.core.res.cell (j := 1) rfl
  have f1 := K3.out.core.res.fr (o := 1)
  have x2 := K3.out.core.box.cell (j := 2) rfl
  have r2 := K3.out.core.res.cell (j := 2) rfl
  have f2 := K3.out.core.res.fr (o := 2)
  have x3 := K3.out.core.box.cell (j := 3) rfl
  have r3 := K3.out.core.res.cell (j := 3) rfl
  have f3 := K3.out.core.res.fr (o := 3)
  have x4 := K3.out.core.box.cell (j := 4) rfl
  have r4 := K3.out.core.res.cell (j := 4) rfl
  have f4 := K3.out.core.res.fr (o := 4)
  have x5 := K3.out.core.box.cell (j := 5) rfl
  have r5 := K3.out.core.res.cell (j := 5) rfl
  have f5 := K3.out.core.res.fr (o := 5)
  have qf := ((((((K3.out.core.res.set 0 (.int .i64 kd)).set 1 (.int .i64 sz)).set 2 (.int .i64 gn)).set 3 (.string key)).set 4 (.slice aR R.length cR)).set 5 (.slice aE E.length cE))
  have q0 := qf.cell (j := 0) (v := .int .i64 kd) rfl
  have q1 := qf.cell (j := 1) (v := .int .i64 sz) rfl
  have q2 := qf.cell (j := 2) (v := .int .i64 gn) rfl
  have q3 := qf.cell (j := 3) (v := .string key) rfl
  have q4 := qf.cell (j := 4) (v := .slice aR R.length cR) rfl
  have q5 := qf.cell (j := 5) (v := .slice aE E.length cE) rfl
  have HE9 := Lib.hid (any_end (P := InoSmall) K3.out HSM.out rfl rfl)
  clear qf
  go_wp2
  refine bodyPost_ret (v := .agg #[.int .i64 kd, .int .i64 sz, .int .i64 gn, .string key, .slice aR R.length cR, .slice aE E.length cE]) ?_ rfl HE9.out
  simp [results, Tryd.results32, go_sem, q0, q1, q2, q3, q4, q5]
end Draw
end Go.Proofs.YtcckhkihhhchbaaDoor
namespace Go.Proofs.YtcckhkihhhchbaaDoor
open Go.RowKit Go.Proofs.YtcckhkihhhchbaaDoor.Hexa Go.Proofs.YtcckhkihhhchbaaDoor.Byt
namespace Draw

/-- What the law is given. -/
def InoGiven (P : InoR → Prop) (w : World) (e : Ending) (w' : World) : Prop :=
  ∃ kd sz gn key aR cR aE cE R E, P ⟨kd, sz, gn, key, R, E⟩ ∧ e = .returned (.agg #[.int .i64 kd, .int .i64 sz, .int .i64 gn, .string key, .slice aR R.length cR, .slice aE E.length cE])
    ∧ w'.ownsRow w.heap.size 36 3 (.slice aR R.length cR) R.length (cellsE encRec R) ∧ w'.ownsRow w.heap.size 41 2 (.slice aE E.length cE) E.length (cellsE encEntry E) ∧ Below w.heap.size w w'

set_option maxRecDepth 100000 in
set_option maxHeartbeats 4000000 in
theorem drawIno_any (ad : Option Addr) (len cap : Nat) (w : World) (hlen : len ≤ 1048576) (hs : Src w w.heap.size ad len) :
    Calls Tryd.prog 8 #[.slice ad len cap] w (InoGiven InoSmall w) := by
  have HS := Lib.hid hs
  have HS1 : Hid (Src (w.alloc (.cells #[.int .i64 0, .int .i64 0, .int .i64 0, .string ⟨#[]⟩, .slice none 0 0, .slice none 0 0] 27)) (w.alloc (.cells #[.int .i64 0, .int .i64 0, .int .i64 0, .string ⟨#[]⟩, .slice none 0 0, .slice none 0 0] 27)).heap.size ad len) := Lib.hid (by
    have h := src_grown' hs (grown_alloc w (.cells #[.int .i64 0, .int .i64 0, .int .i64 0, .string ⟨#[]⟩, .slice none 0 0, .slice none 0 0] 27) none) (fun k e => by cases e) (Nat.le_refl _)
    intro i hi
    obtain ⟨b, off, z, h1, h2, h3⟩ := h i hi
    exact ⟨b, off, z, h1, by simp; omega, h3⟩)
  clear hs
  go_enter Tryd.func8, Tryd.ntmps8
  go_wp2_with fail
  refine (new_any ad len cap _ hlen HS1.out).mono ?_
  rintro e w1 ⟨rfl, h, rfl⟩
  have SZ : Hid ((w.alloc (.cells #[.int .i64 0, .int .i64 0, .int .i64 0, .string ⟨#[]⟩, .slice none 0 0, .slice none 0 0] 27)).heap.size = w.heap.size + 1) := Lib.hid (by simp)
  have C1 : Hid (Cur ((w.alloc (.cells #[.int .i64 0, .int .i64 0, .int .i64 0, .string ⟨#[]⟩, .slice none 0 0, .slice none 0 0] 27)).alloc (.cells #[.slice ad len cap, .int .i64 0, .int .i64 h] 91)) (w.heap.size + 1) ad len cap) := Lib.hid (by rw [← SZ.out]; exact ⟨0, h, Nat.zero_le _, heap_alloc_new _ _⟩)
  have S1 : Hid (Src ((w.alloc (.cells #[.int .i64 0, .int .i64 0, .int .i64 0, .string ⟨#[]⟩, .slice none 0 0, .slice none 0 0] 27)).alloc (.cells #[.slice ad len cap, .int .i64 0, .int .i64 h] 91)) (w.heap.size + 1) ad len) := Lib.hid (by rw [← SZ.out]; exact src_grown' HS1.out (grown_alloc _ _ none) (fun k e => by cases e) (Nat.le_refl _))
  have B1 : Hid (Below w.heap.size w ((w.alloc (.cells #[.int .i64 0, .int .i64 0, .int .i64 0, .string ⟨#[]⟩, .slice none 0 0, .slice none 0 0] 27)).alloc (.cells #[.slice ad len cap, .int .i64 0, .int .i64 h] 91))) := Lib.hid (((Below.refl _ _).alloc (Nat.le_refl _) _).alloc (by simp) _)
  have R1 : Hid (Bk ((w.alloc (.cells #[.int .i64 0, .int .i64 0, .int .i64 0, .string ⟨#[]⟩, .slice none 0 0, .slice none 0 0] 27)).alloc (.cells #[.slice ad len cap, .int .i64 0, .int .i64 h] 91)) w.heap.size #[.int .i64 0, .int .i64 0, .int .i64 0, .string ⟨#[]⟩, .slice none 0 0, .slice none 0 0] 27) := Lib.hid ((Bk.alloc w _ _).later (below_bk _ _))
  have Z2 : Hid (w.heap.size + 1 ≤ ((w.alloc (.cells #[.int .i64 0, .int .i64 0, .int .i64 0, .string ⟨#[]⟩, .slice none 0 0, .slice none 0 0] 27)).alloc (.cells #[.slice ad len cap, .int .i64 0, .int .i64 h] 91)).heap.size) := Lib.hid (by simp)
  go_wp2_with fail
  try rw [SZ.out]
  obtain ⟨w2, h2⟩ : ∃ x, x = ((w.alloc (.cells #[.int .i64 0, .int .i64 0, .int .i64 0, .string ⟨#[]⟩, .slice none 0 0, .slice none 0 0] 27)).alloc (.cells #[.slice ad len cap, .int .i64 0, .int .i64 h] 91)) := ⟨_, rfl⟩
  rw [← h2] at C1 S1 B1 R1 Z2 ⊢
  clear h2
  refine (any12_any (w.heap.size + 1) ad len cap _ hlen C1.out S1.out).mono ?_
  rintro e w3 ⟨kd, sz, gn, key, aR, cR, aE, cE, R, E, hok, rfl, oR, oE, hc3, hg3⟩
  have HOK := Lib.hid hok
  have R3 := Lib.hid (bk_kept R1.out hg3 (by omega))
  have B3 : Hid (Below w.heap.size w w3) := Lib.hid (B1.out.grown hg3 B1.out.size (fun k e => by simp at e; omega))
  have OR := Lib.hid oR
  have OE := Lib.hid oE
  clear hok hc3 hg3 oR oE
  have r0 := R3.out.cell (j := 0) rfl
  have f0 := R3.out.fr (o := 0)
  have r1 := R3.out.cell (j := 1) rfl
  have f1 := R3.out.fr (o := 1)
  have r2 := R3.out.cell (j := 2) rfl
  have f2 := R3.out.fr (o := 2)
  have r3 := R3.out.cell (j := 3) rfl
  have f3 := R3.out.fr (o := 3)
  have r4 := R3.out.cell (j := 4) rfl
  have f4 := R3.out.fr (o := 4)
  have r5 := R3.out.cell (j := 5) rfl
  have f5 := R3.out.fr (o := 5)
  have qf := ((((((R3.out.set 0 (.int .i64 kd)).set 1 (.int .i64 sz)).set 2 (.int .i64 gn)).set 3 (.string key)).set 4 (.slice aR R.length cR)).set 5 (.slice aE E.length cE))
  have q0 := qf.cell (j := 0) (v := .int .i64 kd) rfl
  have q1 := qf.cell (j := 1) (v := .int .i64 sz) rfl
  have q2 := qf.cell (j := 2) (v := .int .i64 gn) rfl
  have q3 := qf.cell (j := 3) (v := .string key) rfl
  have q4 := qf.cell (j := 4) (v := .slice aR R.length cR) rfl
  have q5 := qf.cell (j := 5) (v := .slice aE E.length cE) rfl
  have HE9 : Hid (InoGiven InoSmall w (.returned (.agg #[.int .i64 kd, .int .i64 sz, .int .i64 gn, .string key, .slice aR R.length cR, .slice aE E.length cE])) (w3.setCells w.heap.size 0 [.int .i64 kd, .int .i64 sz, .int .i64 gn, .string key, .slice aR R.length cR, .slice aE E.length cE])) := Lib.hid (by
    refine ⟨kd, sz, gn, key, aR, cR, aE, cE, R, E, HOK.out, rfl, ownE_mono (B := w2.heap.size) ?_ (by have := Z2.out; omega), ownE_mono (B := w2.heap.size) ?_ (by have := Z2.out; omega), ?_⟩
    · exact own_set (own_set (own_set (own_set (own_set (own_set (OR.out) (by have := Z2.out; omega) _) (by have := Z2.out; omega) _) (by have := Z2.out; omega) _) (by have := Z2.out; omega) _) (by have := Z2.out; omega) _) (by have := Z2.out; omega) _
    · exact own_set (own_set (own_set (own_set (own_set (own_set (OE.out) (by have := Z2.out; omega) _) (by have := Z2.out; omega) _) (by have := Z2.out; omega) _) (by have := Z2.out; omega) _) (by have := Z2.out; omega) _) (by have := Z2.out; omega) _
    · exact ((((((B3.out.setCell (Nat.le_refl _) _).setCell (Nat.le_refl _) _).setCell (Nat.le_refl _) _).setCell (Nat.le_refl _) _).setCell (Nat.le_refl _) _).setCell (Nat.le_refl _) _))
  clear qf
  go_wp2
  refine bodyPost_ret (v := .agg #[.int .i64 kd, .int .i64 sz, .int .i64 gn, .string key, .slice aR R.length cR, .slice aE E.length cE]) ?_ rfl HE9.out
  simp [results, Tryd.results8, go_sem, q0, q1, q2, q3, q4, q5]
end Draw
end Go.Proofs.YtcckhkihhhchbaaDoor
namespace Go.Proofs.YtcckhkihhhchbaaDoor
open Go.RowKit

theorem below_drewsN {B : Nat} {a w : World} (h : Below B a w) (m : Nat) : Below B a (w.drewN m) := ⟨h.os, h.tape, h.output, h.size, h.block⟩
end Go.Proofs.YtcckhkihhhchbaaDoor
namespace Go.Proofs.YtcckhkihhhchbaaDoor
open Go.RowKit Go.Proofs.YtcckhkihhhchbaaDoor.Parts Go.Proofs.YtcckhkihhhchbaaDoor.Hexa

set_option maxRecDepth 100000 in
set_option maxHeartbeats 1000000 in
theorem sameRecs_any (a1 a2 : Option Addr) (n c1 c2 : Nat) (L : List RecR) (w : World) (hn : n ≤ 100000000) (s1 : SrcRec w a1 n L) (s2 : SrcRec w a2 n L) :
    Calls Tryd.prog 55 #[.slice a1 n c1, .slice a2 n c2] w fun e w' => e = .returned (.bool true) ∧ ∃ m, w' = w.drewN m := by
  have R1 := Lib.hid s1
  have R2 := Lib.hid s2
  clear s1 s2
  go_enter Tryd.func55, Tryd.ntmps55
  go_wp2
  go_loopw [5] (fun iv wr => ∃ k m : Nat, k ≤ n ∧ iv = .int .i64 k ∧ wr = w.drewN m) (fun iv _ => n - (intOf iv).toNat)
  case atStart => exact ⟨0, 0, Nat.zero_le _, rfl, rfl⟩
  case round =>
    obtain ⟨k, m, hk, rfl, rfl⟩ := hrel
    by_cases hlt : k < n
    · have hbel : Below w.heap.size w w := Below.refl _ _
      obtain ⟨g1, o1, rfl, _, d0, d1, d2⟩ := srcRec_later R1.out hbel (Nat.le_refl _) k hlt
      obtain ⟨g2, o2, rfl, _, e0, e1, e2⟩ := srcRec_later R2.out hbel (Nat.le_refl _) k hlt
      obtain ⟨x, hx⟩ : ∃ x, L.getD k default = x := ⟨_, rfl⟩
      rw [hx] at d0 d1 d2 e0 e1 e2
      clear hx hbel
      go_wp2
      go_quiet (fail)
      go_wp2
      go_roundw
      case rel => exact ⟨k + 1, _, by omega, by go_num, rfl⟩
      case measure => (simp [intOf]; try omega)
    · obtain rfl : k = n := by omega
      go_wp2
      go_ret
      exact ⟨rfl, _, rfl⟩

set_option maxRecDepth 100000 in
set_option maxHeartbeats 1000000 in
theorem sameEntrys_any (a1 a2 : Option Addr) (n c1 c2 : Nat) (L : List EntryR) (w : World) (hn : n ≤ 100000000) (s1 : SrcEntry w a1 n L) (s2 : SrcEntry w a2 n L) :
    Calls Tryd.prog 56 #[.slice a1 n c1, .slice a2 n c2] w fun e w' => e = .returned (.bool true) ∧ ∃ m, w' = w.drewN m := by
  have R1 := Lib.hid s1
  have R2 := Lib.hid s2
  clear s1 s2
  go_enter Tryd.func56, Tryd.ntmps56
  go_wp2
  go_loopw [5] (fun iv wr => ∃ k m : Nat, k ≤ n ∧ iv = .int .i64 k ∧ wr = w.drewN m) (fun iv _ => n - (intOf iv).toNat)
  case atStart => exact ⟨0, 0, Nat.zero_le _, rfl, rfl⟩
  case round =>
    obtain ⟨k, m, hk, rfl, rfl⟩ := hrel
    by_cases hlt : k < n
    · have hbel : Below w.heap.size w w := Below.refl _ _
      obtain ⟨g1, o1, rfl, _, d0, d1⟩ := srcEntry_later R1.out hbel (Nat.le_refl _) k hlt
      obtain ⟨g2, o2, rfl, _, e0, e1⟩ := srcEntry_later R2.out hbel (Nat.le_refl _) k hlt
      obtain ⟨x, hx⟩ : ∃ x, L.getD k default = x := ⟨_, rfl⟩
      rw [hx] at d0 d1 e0 e1
      clear hx hbel
      go_wp2
      go_quiet (fail)
      go_wp2
      go_roundw
      case rel => exact ⟨k + 1, _, by omega, by go_num, rfl⟩
      case measure => (simp [intOf]; try omega)
    · obtain rfl : k = n := by omega
      go_wp2
      go_ret
      exact ⟨rfl, _, rfl⟩

set_option maxRecDepth 100000 in
set_option maxHeartbeats 4000000 in
theorem sameInode_any (kd sz gn : Int) (key : ByteArray) (aR aR2 : Option Addr) (nR cR cR2 : Nat) (aE aE2 : Option Addr) (nE cE cE2 : Nat) (R : List RecR) (E : List EntryR) (w : World) (hR : nR ≤ 100000000) (hE : nE ≤ 100000000) (s1 : SrcRec w aR nR R) (s2 : SrcRec w aR2 nR R) (s3 : SrcEntry w aE nE E) (s4 : SrcEntry w aE2 nE E) :
    Calls Tryd.prog 19 #[.agg #[.int .i64 kd, .int .i64 sz, .int .i64 gn, .string key, .slice aR nR cR, .slice aE nE cE], .agg #[.int .i64 kd, .int .i64 sz, .int .i64 gn, .string key, .slice aR2 nR cR2, .slice aE2 nE cE2]] w fun e w' => e = .returned (.bool true) ∧ Below w.heap.size w w' := by
  have HB0 : Hid (Below w.heap.size w ((w.alloc (.cells #[.int .i64 kd, .int .i64 sz, .int .i64 gn, .string key, .slice aR nR cR, .slice aE nE cE] 27)).alloc (.cells #[.int .i64 kd, .int .i64 sz, .int .i64 gn, .string key, .slice aR2 nR cR2, .slice aE2 nE cE2] 27))) := Lib.hid (((Below.refl _ _).alloc (Nat.le_refl _) _).alloc (by simp) _)
  have X1 : Hid (Bk ((w.alloc (.cells #[.int .i64 kd, .int .i64 sz, .int .i64 gn, .string key, .slice aR nR cR, .slice aE nE cE] 27)).alloc (.cells #[.int .i64 kd, .int .i64 sz, .int .i64 gn, .string key, .slice aR2 nR cR2, .slice aE2 nE cE2] 27)) w.heap.size #[.int .i64 kd, .int .i64 sz, .int .i64 gn, .string key, .slice aR nR cR, .slice aE nE cE] 27) := Lib.hid ((Bk.alloc w _ _).later (below_bk _ _))
  have X2 : Hid (Bk ((w.alloc (.cells #[.int .i64 kd, .int .i64 sz, .int .i64 gn, .string key, .slice aR nR cR, .slice aE nE cE] 27)).alloc (.cells #[.int .i64 kd, .int .i64 sz, .int .i64 gn, .string key, .slice aR2 nR cR2, .slice aE2 nE cE2] 27)) (w.heap.size + 1) #[.int .i64 kd, .int .i64 sz, .int .i64 gn, .string key, .slice aR2 nR cR2, .slice aE2 nE cE2] 27) := Lib.hid (by have h := Bk.alloc (w.alloc (.cells #[.int .i64 kd, .int .i64 sz, .int .i64 gn, .string key, .slice aR nR cR, .slice aE nE cE] 27)) #[.int .i64 kd, .int .i64 sz, .int .i64 gn, .string key, .slice aR2 nR cR2, .slice aE2 nE cE2] 27; simpa using h)
  have R1 := Lib.hid s1
  have R2 := Lib.hid s2
  have R3 := Lib.hid s3
  have R4 := Lib.hid s4
  clear s1 s2 s3 s4
  go_enter Tryd.func19, Tryd.ntmps19
  go_wp2_with fail
  obtain ⟨w1, h1⟩ : ∃ x, x = (w.alloc (.cells #[.int .i64 kd, .int .i64 sz, .int .i64 gn, .string key, .slice aR nR cR, .slice aE nE cE] 27)).alloc (.cells #[.int .i64 kd, .int .i64 sz, .int .i64 gn, .string key, .slice aR2 nR cR2, .slice aE2 nE cE2] 27) := ⟨_, rfl⟩
  rw [← h1] at HB0 X1 X2 ⊢
  clear h1
  have p0 := X1.out.cell (j := 0) rfl
  have q0 := X2.out.cell (j := 0) rfl
  have p1 := X1.out.cell (j := 1) rfl
  have q1 := X2.out.cell (j := 1) rfl
  have p2 := X1.out.cell (j := 2) rfl
  have q2 := X2.out.cell (j := 2) rfl
  have p3 := X1.out.cell (j := 3) rfl
  have q3 := X2.out.cell (j := 3) rfl
  have p4 := X1.out.cell (j := 4) rfl
  have q4 := X2.out.cell (j := 4) rfl
  have p5 := X1.out.cell (j := 5) rfl
  have q5 := X2.out.cell (j := 5) rfl
  refine (sameRecs_any aR aR2 nR cR cR2 R _ hR (SrcE.later R1.out HB0.out) (SrcE.later R2.out HB0.out)).mono ?_
  rintro e w2 ⟨rfl, m, rfl⟩
  go_wp2_with fail
  refine (sameEntrys_any aE aE2 nE cE cE2 E _ hE (SrcE.later R3.out (below_drewsN HB0.out _)) (SrcE.later R4.out (below_drewsN HB0.out _))).mono ?_
  rintro e w3 ⟨rfl, m2, rfl⟩
  go_wp2
  go_ret
  exact ⟨rfl, below_drewsN HB0.out _⟩
end Go.Proofs.YtcckhkihhhchbaaDoor
namespace Go.Proofs.YtcckhkihhhchbaaDoor
open Go.RowKit Go.Proofs.YtcckhkihhhchbaaDoor.Hexa Go.Proofs.YtcckhkihhhchbaaDoor.Byt

/-- A number's bytes say it. -/
theorem numV_num (m k : Nat) (h : m < 256 ^ k) : numV (numL m k k) = m := by
  have H : ∀ j, j ≤ k → numV (numL m k j) = m / 256 ^ (k - j) := by
    intro j
    induction j with
    | zero => intro _; rw [Nat.sub_zero, Nat.div_eq_of_lt h]; rfl
    | succ j ih =>
      intro hj
      rw [← numL_next, numV_snoc, ih (by omega), UInt8.toNat_ofNat']
      have e : k - j = (k - 1 - j) + 1 := by omega
      rw [e, Nat.pow_succ, ← Nat.div_div_eq_div_mul, show k - (j + 1) = k - 1 - j by omega]
      have := Nat.div_add_mod (m / 256 ^ (k - 1 - j)) 256
      omega
  have := H k (Nat.le_refl _)
  simpa using this
theorem numAt_fore (s : ByteArray) (a k : Nat) (n : Int) (hk : 1 ≤ k ∧ k ≤ 7) (h : a + k ≤ s.size) (h0 : 0 ≤ n) (h1 : n < 256 ^ k) (hc : cutL s a k = (numTextB n k).data.toList) : numAtV s a k = n := by
  have e : numTextB n k = numB n.toNat k := by
    unfold numTextB
    rw [if_pos ⟨h0, by omega, by simpa using h1⟩]
    simp
  have e2 : (numTextB n k).data.toList = numL n.toNat k k := by rw [e]; rfl
  have e3 : numAtV s a k = (numV (cutL s a k) : Int) := by
    unfold numAtV
    rw [if_pos ⟨by omega, by omega⟩]
    simp
  have h2 : n.toNat < 256 ^ k := by
    have h3 : ((n.toNat : Nat) : Int) < ((256 ^ k : Nat) : Int) := by rw [Int.toNat_of_nonneg h0]; simpa using h1
    exact Int.ofNat_lt.1 h3
  rw [e3, hc, e2, numV_num _ _ h2, Int.toNat_of_nonneg h0]
end Go.Proofs.YtcckhkihhhchbaaDoor
namespace Go.Proofs.YtcckhkihhhchbaaDoor
open Go.RowKit Go.Proofs.YtcckhkihhhchbaaDoor.Parts Go.Proofs.YtcckhkihhhchbaaDoor.Hexa Go.Proofs.YtcckhkihhhchbaaDoor.Byt

section
variable (sz gn : Int) (key : ByteArray) (aR : Option Addr) (nR cR : Nat) (aE : Option Addr) (nE cE : Nat) (w : World)

set_option maxRecDepth 100000 in
set_option maxHeartbeats 1000000 in
theorem specIno_fileNo (h : 0 ≤ gn ∧ gn ≤ 65535) (hz : -9223372036854775808 ≤ sz ∧ sz ≤ 9223372036854775807) (hno : ¬ ((0 ≤ sz ∧ sz ≤ 128) ∧ key.size = 8 ∧ (nR : Int) = pagesZ sz ∧ nE = 0)) :
    Calls Tryd.prog 10 #[.agg #[.int .i64 1, .int .i64 sz, .int .i64 gn, .string key, .slice aR nR cR, .slice aE nE cE]] w (SaysB false w) := by
  have H0 := Lib.hid h
  have HZ := Lib.hid hz
  have B0 := Lib.hid (below_bk w (inoObj 1 sz gn key aR nR cR aE nE cE))
  clear h hz
  by_cases h1 : 0 ≤ sz ∧ sz ≤ 128
  · have H1 := Lib.hid h1
    by_cases h2 : key.size = 8
    · have e2 : ((key.size : Int) != 8) = false := by simp; omega
      by_cases h3 : (nR : Int) = pagesZ sz
      · have h4 : ¬ nE = 0 := fun e => hno ⟨h1, h2, h3, e⟩
        have e4 : (0 : Int) < (nE : Int) := by omega
        have HQ : Hid (∀ W : World, Calls Tryd.prog 41 #[.int .i64 sz] W fun e w' => e = .returned (.int .i64 nR) ∧ w' = W) := Lib.hid (fun W => by
          rw [h3]; exact specPages_any sz W HZ.out.1 HZ.out.2)
        clear hno h1 h3
        go_enter Tryd.func10, Tryd.ntmps10
        go_wp2_with ((with_reducible refine (range_yes _ H0.out).mono ?_); rintro e w1 ⟨rfl, rfl⟩)
        go_quiet (first
          | (go_at_call 40; exact Calls.quiet_of_same (range_yes _ H1.out))
          | (go_at_call 41; exact Calls.quiet_of_same (HQ.out _)))
        go_wp2
        go_ret
        exact ⟨rfl, below_drewsN B0.out _⟩
      · obtain ⟨p, hp⟩ : ∃ p, pagesZ sz = p := ⟨_, rfl⟩
        have HQ : Hid (∀ W : World, Calls Tryd.prog 41 #[.int .i64 sz] W fun e w' => e = .returned (.int .i64 p) ∧ w' = W) := Lib.hid (fun W => by
          rw [← hp]; exact specPages_any sz W HZ.out.1 HZ.out.2)
        rw [hp] at h3
        have e3 : ((nR : Int) != p) = true := by simpa using h3
        clear hno h1 h3 hp
        go_enter Tryd.func10, Tryd.ntmps10
        go_wp2_with ((with_reducible refine (range_yes _ H0.out).mono ?_); rintro e w1 ⟨rfl, rfl⟩)
        go_quiet (first
          | (go_at_call 40; exact Calls.quiet_of_same (range_yes _ H1.out))
          | (go_at_call 41; exact Calls.quiet_of_same (HQ.out _)))
        go_wp2
        go_ret
        exact ⟨rfl, below_drewsN B0.out _⟩
    · have e2 : ((key.size : Int) != 8) = true := by have : ¬ ((key.size : Int) = 8) := by omega
                                                     simpa using this
      clear hno h1 h2
      go_enter Tryd.func10, Tryd.ntmps10
      go_wp2_with ((with_reducible refine (range_yes _ H0.out).mono ?_); rintro e w1 ⟨rfl, rfl⟩)
      go_quiet ((go_at_call 40; exact Calls.quiet_of_same (range_yes _ H1.out)))
      go_wp2
      go_ret
      exact ⟨rfl, below_drewsN B0.out _⟩
  · have H1 := Lib.hid h1
    clear hno h1
    go_enter Tryd.func10, Tryd.ntmps10
    go_wp2_with ((with_reducible refine (range_yes _ H0.out).mono ?_); rintro e w1 ⟨rfl, rfl⟩)
    go_quiet ((go_at_call 40; exact Calls.quiet_of_same (range_no _ H1.out)))
    go_wp2
    go_ret
    exact ⟨rfl, below_drewsN B0.out _⟩
end
end Go.Proofs.YtcckhkihhhchbaaDoor
namespace Go.Proofs.YtcckhkihhhchbaaDoor
open Go.RowKit Go.Proofs.YtcckhkihhhchbaaDoor.Parts Go.Proofs.YtcckhkihhhchbaaDoor.Hexa Go.Proofs.YtcckhkihhhchbaaDoor.Byt

theorem Bk.under {w w' : World} {b B : Nat} {cs : Array Value} {t : TypeId} (h : Bk w b cs t) (hb : Below B w w') (hB : b < B) : Bk w' b cs t := (hb.block b hB).trans h
theorem below_on {B : Nat} {w w1 w2 : World} (h : Below B w w1) (hB : B ≤ w.heap.size) (h2 : Below w1.heap.size w1 w2) : Below B w w2 := h.trans (h2.mono (Nat.le_trans hB h.size))

theorem held_under3 {w w' : World} {p q r : Addr} {x y z : Value} (h : w.cell? p = some x ∧ w.cell? q = some y ∧ w.cell? r = some z) (hb : Below w.heap.size w w') (hp : p.block < w.heap.size) (hq : q.block < w.heap.size) (hr : r.block < w.heap.size) : w'.cell? p = some x ∧ w'.cell? q = some y ∧ w'.cell? r = some z :=
  ⟨(hb.cell hp).trans h.1, (hb.cell hq).trans h.2.1, (hb.cell hr).trans h.2.2⟩

section
variable (sz gn : Int) (key : ByteArray) (aR : Option Addr) (nR cR : Nat) (aE : Option Addr) (cE : Nat) (w : World) (R : List RecR)

set_option maxRecDepth 100000 in
set_option maxHeartbeats 2000000 in
theorem specIno_file (h : 0 ≤ gn ∧ gn ≤ 65535) (h1 : 0 ≤ sz ∧ sz ≤ 128) (h2 : key.size = 8) (h3 : (nR : Int) = pagesZ sz) (hs : SrcRec w aR nR R) (hf : FitRec R nR 2000000) (b : Bool) (hb : b = true ↔ RecsOk R nR) :
    Calls Tryd.prog 10 #[.agg #[.int .i64 1, .int .i64 sz, .int .i64 gn, .string key, .slice aR nR cR, .slice aE 0 cE]] w (SaysB b w) := by
  have H0 := Lib.hid h
  have H1 := Lib.hid h1
  have HS := Lib.hid hs
  have HF := Lib.hid hf
  have HG := Lib.hid hb
  have B0 := Lib.hid (below_bk w (inoObj 1 sz gn key aR nR cR aE 0 cE))
  have K0 := Lib.hid (Bk.alloc w (inoCs 1 sz gn key aR nR cR aE 0 cE) 27)
  have N0 : Hid ((w.alloc (inoObj 1 sz gn key aR nR cR aE 0 cE)).heap.size = w.heap.size + 1) := Lib.hid (by simp)
  have e2 : ((key.size : Int) != 8) = false := by simp; omega
  have hn4 : nR ≤ 4 := by unfold pagesZ at h3; split at h3 <;> omega
  have HQ : Hid (∀ W : World, Calls Tryd.prog 41 #[.int .i64 sz] W fun e w' => e = .returned (.int .i64 nR) ∧ w' = W) := Lib.hid (fun W => by
    rw [h3]; exact specPages_any sz W (by omega) (by omega))
  clear h h1 h2 h3 hs hf hb
  go_enter Tryd.func10, Tryd.ntmps10
  go_wp2_with ((with_reducible refine (range_yes _ H0.out).mono ?_); rintro e w1 ⟨rfl, rfl⟩)
  go_quiet (first
    | (go_at_call 40; exact Calls.quiet_of_same (range_yes _ H1.out))
    | (go_at_call 41; exact Calls.quiet_of_same (HQ.out _)))
  go_wp2
  go_loopw [3] (fun iv wr => ∃ k : Nat, k ≤ nR ∧ iv = .int .i64 k ∧ Hid (RecsOk R k) ∧ Hid (Below (w.heap.size + 1) (w.alloc (inoObj 1 sz gn key aR nR cR aE 0 cE)) wr)) (fun iv _ => nR - (intOf iv).toNat)
  case atStart => exact ⟨0, Nat.zero_le _, rfl, Lib.hid (fun j hj => by omega), Lib.hid (below_drewsN (Below.refl _ _) _)⟩
  case round =>
    obtain ⟨k, hk, rfl, HA, HB⟩ := hrel
    have BW : Hid (Below w.heap.size w wr) := Lib.hid (B0.out.trans (HB.out.mono (by omega)))
    have q4 := (K0.out.under HB.out (Nat.lt_succ_self _)).cell (j := 4) rfl
    by_cases hlt : k < nR
    · obtain ⟨g, off, ha, hg, d0, d1, d2⟩ := srcRec_later HS.out BW.out (Nat.le_refl _) k hlt
      obtain ⟨⟨p, q, m⟩, hx⟩ : ∃ x, R.getD k default = x := ⟨_, rfl⟩
      have hm := HF.out k hlt
      rw [hx] at d0 d1 d2 hm
      simp only at d0 d1 d2 hm
      have HX := Lib.hid hx
      have HM := Lib.hid hm
      rw [ha] at q4
      clear hx hm ha
      by_cases i1 : RecOk ⟨p, q, m⟩
      · have hT8 := recWord_size i1
        have I1 := Lib.hid i1
        obtain ⟨T, hT⟩ : ∃ T, recWordB ⟨p, q, m⟩ = T := ⟨_, rfl⟩
        have HT := Lib.hid hT
        rw [hT] at hT8
        have e1 : (T.toList == []) = false := text_full T (by omega)
        clear i1 hT hT8
        go_wp2_with fail
        refine (specRecWord_any p q m _ HM.out).mono ?_
        rw [HT.out]
        rintro e w1 ⟨rfl, hb1⟩
        have B1 : Hid (Below (w.heap.size + 1) (w.alloc (inoObj 1 sz gn key aR nR cR aE 0 cE)) w1) := Lib.hid (below_on HB.out (by rw [N0.out]; exact Nat.le_refl _) hb1)
        clear hb1 q4 d0 d1 d2 BW HB
        go_wp2
        go_loopw [4] (fun iv wr => ∃ k2 : Nat, k2 ≤ k ∧ iv = .int .i64 k2 ∧ Hid (∀ j, j < k2 → (R.getD j default).f0 ≠ p) ∧ Hid (Below (w.heap.size + 1) (w.alloc (inoObj 1 sz gn key aR nR cR aE 0 cE)) wr)) (fun iv _ => k - (intOf iv).toNat)
        case atStart => exact ⟨0, Nat.zero_le _, rfl, Lib.hid (fun j hj => by omega), B1⟩
        case round =>
          obtain ⟨k2, hk2, rfl, HA2, HB⟩ := hrel
          have BW : Hid (Below w.heap.size w wr) := Lib.hid (B0.out.trans (HB.out.mono (by omega)))
          by_cases hlt2 : k2 < k
          · have q4 := (K0.out.under HB.out (Nat.lt_succ_self _)).cell (j := 4) rfl
            obtain ⟨g1, off1, ha1, hg1, d0, _, _⟩ := srcRec_later HS.out BW.out (Nat.le_refl _) k hlt
            obtain ⟨g2, off2, ha2, _, c0, _, _⟩ := srcRec_later HS.out BW.out (Nat.le_refl _) k2 (by omega)
            rw [ha1] at ha2 q4
            cases ha2
            clear ha1
            rw [HX.out] at d0
            obtain ⟨v, hv⟩ : ∃ v, (R.getD k2 default).f0 = v := ⟨_, rfl⟩
            have HV := Lib.hid hv
            rw [hv] at c0
            simp only at d0
            clear hv
            by_cases i2 : v = p
            · subst i2
              obtain rfl : b = false := bool_no HG.out (fun x => (x k hlt).2 k2 hlt2 (by rw [HV.out, HX.out]))
              go_wp2
              go_region
              go_wp2
              go_ret
              exact ⟨rfl, BW.out.drew⟩
            · have HA3 : Hid (∀ j, j < k2 + 1 → (R.getD j default).f0 ≠ p) := Lib.hid (fun j hj => by
                by_cases e : j = k2
                · subst e; rw [HV.out]; exact i2
                · exact HA2.out j (by omega))
              have i3 : (v == p) = false := by simpa using i2
              go_wp2
              go_region
              go_wp2
              go_roundw
              case rel => exact ⟨k2 + 1, by omega, by go_num, HA3, Lib.hid HB.out.drew⟩
              case measure => (simp [intOf]; try omega)
          · obtain rfl : k2 = k := by omega
            have HA3 : Hid (RecsOk R (k2 + 1)) := Lib.hid (recsOk_step HA.out (by rw [HX.out]; exact I1.out) (fun j hj => by rw [HX.out]; exact HA2.out j hj))
            go_wp2
            go_roundw
            case rel => exact ⟨k2 + 1, by omega, by go_num, HA3, HB⟩
            case measure => (simp [intOf]; try omega)
      · have HT := Lib.hid (recWordB_no i1)
        obtain rfl : b = false := bool_no HG.out (fun x => i1 (by have h9 := (x k hlt).1; rw [HX.out] at h9; exact h9))
        clear i1
        go_wp2_with fail
        refine (specRecWord_any p q m _ HM.out).mono ?_
        rw [HT.out]
        rintro e w1 ⟨rfl, hb1⟩
        have B1 : Hid (Below w.heap.size w w1) := Lib.hid (below_on BW.out (Nat.le_refl _) hb1)
        clear hb1
        go_wp2
        go_ret
        exact ⟨rfl, B1.out⟩
    · obtain rfl : k = nR := by omega
      obtain rfl : b = true := HG.out.2 HA.out
      go_wp2
      go_ret
      exact ⟨rfl, BW.out⟩
end
end Go.Proofs.YtcckhkihhhchbaaDoor
