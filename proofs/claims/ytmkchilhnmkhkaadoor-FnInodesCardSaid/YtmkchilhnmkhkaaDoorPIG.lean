/- Merged texts: Draw12C. -/
import Derived.Test.YtmkchilhnmkhkaaDoorPIF
namespace Go.Proofs.YtmkchilhnmkhkaaDoor
open Go.RowKit Go.Proofs.YtmkchilhnmkhkaaDoor.Hexa Go.Proofs.YtmkchilhnmkhkaaDoor.Byt
namespace Draw

abbrev zIno : Array Value := #[.int .i64 0, .int .i64 0, .int .i64 0, .string ⟨#[]⟩, .slice none 0 0, .slice none 0 0]
/-- The result's box, the inode's box, the cursor; nothing else of the old world is written. -/
structure Core (w wr : World) (c : Nat) (ad : Option Addr) (len cap bx : Nat) (cs : Array Value) : Prop where
  box : Bk wr bx cs 54
  res : Bk wr w.heap.size zIno 54
  low : w.heap.size < bx
  cl : c < w.heap.size
  cur : Cur wr c ad len cap
  src : Src wr c ad len
  grown : w.grownBy wr (some c)
section
variable {w wr w' : World} {c : Nat} {ad : Option Addr} {len cap bx : Nat} {cs : Array Value}
theorem Core.draw (h : Core w wr c ad len cap bx cs) (hc : Cur w' c ad len cap) (hg : wr.grownBy w' (some c)) : Core w w' c ad len cap bx cs :=
  ⟨bk_kept h.box hg (by have := h.low; have := h.cl; omega), bk_kept h.res hg (by have := h.cl; omega), h.low, h.cl, hc, src_grown h.src hg (cur_lt h.cur), grownBy_trans h.grown hg⟩
theorem Core.own (h : Core w wr c ad len cap bx cs) {r : Option Nat} (hg : wr.grownBy w' r) (hr : ∀ k, r = some k → bx + 1 ≤ k) : Core w w' c ad len cap bx cs :=
  ⟨h.box.grown hg (fun e => by have := hr _ e; omega), h.res.grown hg (fun e => by have := hr _ e; have := h.low; omega), h.low, h.cl, cur_grown h.cur hg (fun e => by have := hr _ e.symm; have := h.low; have := h.cl; omega),
   src_grown' h.src hg (fun k e => by have := hr _ e; have := h.low; have := h.cl; omega) (Nat.le_of_lt (cur_lt h.cur)),
   ⟨hg.os.trans h.grown.os, hg.tape.trans h.grown.tape, hg.output.trans h.grown.output, Nat.le_trans h.grown.size hg.size, fun k hk hne => (hg.block k (Nat.lt_of_lt_of_le hk h.grown.size) (fun e => by have := hr k e.symm; have := h.low; omega)).trans (h.grown.block k hk hne)⟩⟩
theorem Core.alloc (h : Core w wr c ad len cap bx cs) (o : Obj) : Core w (wr.alloc o) c ad len cap bx cs := h.own (r := none) (grown_alloc wr o none) (fun k e => by cases e)
theorem Core.drew (h : Core w wr c ad len cap bx cs) : Core w wr.drew c ad len cap bx cs := ⟨h.box, h.res, h.low, h.cl, h.cur, h.src, ⟨h.grown.os, h.grown.tape, h.grown.output, h.grown.size, h.grown.block⟩⟩
theorem Core.set (h : Core w wr c ad len cap bx cs) (j : Nat) (v : Value) : Core w (wr.setCell ⟨bx, j, none⟩ v) c ad len cap bx (cs.setIfInBounds j v) := by
  have hk := set_kept bx j v h.cur h.grown (by have := h.low; have := h.cl; omega) (Nat.le_of_lt h.low)
  refine ⟨h.box.set j v, h.res.other (by have := h.low; omega) v, h.low, h.cl, hk.1, ?_, hk.2⟩
  intro i hi
  obtain ⟨b, off, z, h1, h2, h3, h4, h5⟩ := h.src i hi
  exact ⟨b, off, z, h1, h2, h3, h4, by rw [World.cell?_of_block (w := wr) (Below.heap_setCell _ _ _ _ (by show b ≠ bx; have := h.low; have := h.cl; omega))]; exact h5⟩
theorem Core.lt (h : Core w wr c ad len cap bx cs) : bx + 1 ≤ wr.heap.size := h.box.lt
end
theorem own_draw {w w' : World} {c B e k n : Nat} {v : Value} {xs : List Value} (h : w.ownsRow B e k v n xs) (hg : w.grownBy w' (some c)) (hc : c < B) : w'.ownsRow B e k v n xs :=
  ⟨h.1, h.2.imp id fun ⟨g, cp, cur, hv, hb, hh, r⟩ => ⟨g, cp, cur, hv, hb, by rw [hg.block g (Array.getElem?_eq_some_iff.1 hh).1 (fun e => by have := Option.some.inj e; omega)]; exact hh, r⟩⟩
theorem own_set {w : World} {b B e k n j : Nat} {v : Value} {xs : List Value} (h : w.ownsRow B e k v n xs) (hb : b < B) (u : Value) : (w.setCell ⟨b, j, none⟩ u).ownsRow B e k v n xs :=
  ⟨h.1, h.2.imp id fun ⟨g, cp, cur, hv, hB, hh, r⟩ => ⟨g, cp, cur, hv, hB, by rw [Below.heap_setCell _ _ _ _ (by show g ≠ b; omega)]; exact hh, r⟩⟩

/-- What a drawn inode is. -/
def InoDrawn (P : InoR → Prop) (w : World) (c : Nat) (ad : Option Addr) (len cap : Nat) (e : Ending) (w' : World) : Prop :=
  ∃ kd sz gn key aR cR aE cE R E, P ⟨kd, sz, gn, key, R, E⟩ ∧ e = .returned (.agg #[.int .i64 kd, .int .i64 sz, .int .i64 gn, .string key, .slice aR R.length cR, .slice aE E.length cE])
    ∧ w'.ownsRow w.heap.size 66 3 (.slice aR R.length cR) R.length (cellsE encRec R) ∧ w'.ownsRow w.heap.size 47 2 (.slice aE E.length cE) E.length (cellsE encEntry E) ∧ (aR = none ∨ aE = none) ∧ Cur w' c ad len cap ∧ w.grownBy w' (some c)
theorem drawn_end {P : InoR → Prop} {w wr : World} {c : Nat} {ad : Option Addr} {len cap bx : Nat} {kd sz gn : Int} {key : ByteArray} {aR aE : Option Addr} {nR cR nE cE : Nat} {R : List RecR} {E : List EntryR}
    (h : Core w wr c ad len cap bx #[.int .i64 kd, .int .i64 sz, .int .i64 gn, .string key, .slice aR nR cR, .slice aE nE cE]) (hP : P ⟨kd, sz, gn, key, R, E⟩) (hR : R.length = nR) (hE : E.length = nE)
    (oR : wr.ownsRow (bx + 1) 66 3 (.slice aR nR cR) nR (cellsE encRec R)) (oE : wr.ownsRow (bx + 1) 47 2 (.slice aE nE cE) nE (cellsE encEntry E)) (hx : aR = none ∨ aE = none) :
    InoDrawn P w c ad len cap (.returned (.agg #[.int .i64 kd, .int .i64 sz, .int .i64 gn, .string key, .slice aR nR cR, .slice aE nE cE])) (wr.setCells w.heap.size 0 [.int .i64 kd, .int .i64 sz, .int .i64 gn, .string key, .slice aR nR cR, .slice aE nE cE]) := by
  subst hR hE
  have hk := sets_kept w.heap.size 0 [.int .i64 kd, .int .i64 sz, .int .i64 gn, .string key, .slice aR R.length cR, .slice aE E.length cE] h.cur h.grown (by have := h.cl; omega) (Nat.le_refl _)
  have hl := h.low
  refine ⟨kd, sz, gn, key, aR, cR, aE, cE, R, E, hP, rfl, ownE_mono (B := bx + 1) ?_ (by omega), ownE_mono (B := bx + 1) ?_ (by omega), hx, hk.1, hk.2⟩
  · exact own_set (own_set (own_set (own_set (own_set (own_set oR (by omega) _) (by omega) _) (by omega) _) (by omega) _) (by omega) _) (by omega) _
  · exact own_set (own_set (own_set (own_set (own_set (own_set oE (by omega) _) (by omega) _) (by omega) _) (by omega) _) (by omega) _) (by omega) _

def nm12 : List ByteArray := [⟨#[97]⟩, ⟨#[97, 98]⟩, ⟨#[98]⟩, ⟨#[99]⟩, ⟨#[100]⟩, ⟨#[120, 49]⟩]
theorem nm12_ok : ∀ k, k < 6 → NameR (nm12.getD k default) := by decide +kernel
theorem nm12_up : ∀ k, k < 6 → ∀ j, j < 6 → k < j → textLt (nm12.getD k default) (nm12.getD j default) = true := by decide +kernel
theorem nm12_first : ∀ j, j < 6 → textLt ⟨#[]⟩ (nm12.getD j default) = true := by decide +kernel
theorem ent_ok12 {p : Int} {k : Nat} (h0 : 0 ≤ p) (h1 : p < 5) (hk : k < 6) : EntryOk ⟨1 + p, nm12.getD k default⟩ := by
  refine ⟨?_, nm12_ok k hk⟩
  show 1 ≤ 1 + p ∧ 1 + p ≤ 5
  omega
theorem recs_ok12 {R : List RecR} {bs : Int} {n : Nat} (hn : n ≤ 4) (h : ∀ j, j < n → RecOk (R.getD j default) ∧ (R.getD j default).f0 = 1 + (3 * (j : Int) + bs) % 12) : RecsOk R n := fun j hj =>
  ⟨(h j hj).1, fun k hk => by rw [(h j hj).2, (h k (by omega)).2]; omega⟩
theorem rec_ok12 {p bs : Int} {k : Nat} {q : Int} {m : ByteArray} (h : RecOk ⟨p, q, m⟩) : RecOk ⟨1 + (3 * (k : Int) + bs) % 12, q, m⟩ := by
  refine ⟨?_, h.2⟩
  show 1 ≤ 1 + (3 * (k : Int) + bs) % 12 ∧ 1 + (3 * (k : Int) + bs) % 12 ≤ 12
  omega
theorem nm12_cell : ∀ j, j < 6 → (#[.string ⟨#[97]⟩, .string ⟨#[97, 98]⟩, .string ⟨#[98]⟩, .string ⟨#[99]⟩, .string ⟨#[100]⟩, .string ⟨#[120, 49]⟩] : Array Value)[j]? = some (.string (nm12.getD j default))
  | 0, _ => rfl
  | 1, _ => rfl
  | 2, _ => rfl
  | 3, _ => rfl
  | 4, _ => rfl
  | 5, _ => rfl
  | j + 6, h => by omega
theorem getD_last {α : Type} [Inhabited α] (L : List α) (x : α) (j : Nat) : (L ++ [x]).getD j default = if j = L.length then x else L.getD j default := by
  by_cases h : j < L.length
  · rw [if_neg (by omega)]; simp [List.getD, List.getElem?_append_left h]
  · by_cases e : j = L.length
    · subst e; simp [List.getD]
    · rw [if_neg e]; simp only [List.getD]; rw [List.getElem?_eq_none (by simp; omega), List.getElem?_eq_none (by omega)]

theorem ents_snoc {E : List EntryR} {m : Nat} {x : EntryR} (hl : E.length = m) (h : EntsOk E m) (hx : EntryOk x) (hu : textLt (prevT E m) x.f1 = true) : EntsOk (E ++ [x]) (m + 1) := fun j hj => by
  rw [getD_last, hl]
  by_cases e : j = m
  · subst e
    rw [if_pos rfl]
    refine ⟨hx, fun h0 => ?_⟩
    rw [getD_last, hl, if_neg (by omega)]
    unfold prevT at hu
    rw [if_neg (by omega)] at hu
    exact hu
  · rw [if_neg e]
    refine ⟨(h j (by omega)).1, fun h0 => ?_⟩
    rw [getD_last, hl, if_neg (by omega)]
    exact (h j (by omega)).2 h0
theorem prevT_snoc {E : List EntryR} {m : Nat} {x : EntryR} (hl : E.length = m) : prevT (E ++ [x]) (m + 1) = x.f1 := by rw [prevT_next, getD_last, hl, if_pos rfl]

set_option maxRecDepth 100000 in
set_option maxHeartbeats 4000000 in
theorem ino12_any (c : Nat) (ad : Option Addr) (len cap : Nat) (w : World) (hlen : len ≤ 1048576) (hc : Cur w c ad len cap) (hs : Src w c ad len) :
    Calls Tryd.prog 133 #[.pointer (some ⟨c, 0, none⟩)] w (InoDrawn InoOk w c ad len cap) := by
  obtain ⟨i0, hi, hz0, hz1, hz2⟩ := info_parts infoRec
  have hlt := cur_lt hc
  have ga := grown_alloc w (.cells #[.int .i64 0, .int .i64 0, .int .i64 0, .string ⟨#[]⟩, .slice none 0 0, .slice none 0 0] 54) (some c)
  have C0 := Lib.hid (cur_grown hc (grown_alloc w (.cells #[.int .i64 0, .int .i64 0, .int .i64 0, .string ⟨#[]⟩, .slice none 0 0, .slice none 0 0] 54) none) (by simp))
  have S0 := Lib.hid (src_grown hs ga hlt)
  have R0 := Lib.hid (Bk.alloc w #[.int .i64 0, .int .i64 0, .int .i64 0, .string ⟨#[]⟩, .slice none 0 0, .slice none 0 0] 54)
  have G0 := Lib.hid ga
  have HCN : Hid (¬ c = w.heap.size) := Lib.hid (by omega)
  have HLT := Lib.hid hlt
  clear hc hs ga
  have hcw := HLT.out
  go_enter Tryd.func133, Tryd.ntmps133
  go_wp2_with fail
  refine (below_small c ad len cap 3 _ hlen (by decide) (by decide) C0.out S0.out).mono ?_
  rintro e w1 ⟨kd, k0, k1, rfl, hc1, hg1⟩
  have S1 := Lib.hid (src_grown S0.out hg1 (cur_lt C0.out))
  have C1 := Lib.hid hc1
  have G1 := Lib.hid (grownBy_trans G0.out hg1)
  have R1 := Lib.hid (bk_kept R0.out hg1 HCN.out)
  clear hc1 hg1
  go_wp2_with fail
  refine (below_small c ad len cap 9 _ hlen (by decide) (by decide) C1.out S1.out).mono ?_
  rintro e w2 ⟨gn, g0, g1, rfl, hc2, hg2⟩
  have S2 := Lib.hid (src_grown S1.out hg2 (cur_lt C1.out))
  have C2 := Lib.hid hc2
  have G2 := Lib.hid (grownBy_trans G1.out hg2)
  have R2 := Lib.hid (bk_kept R1.out hg2 HCN.out)
  have HGN : Hid (0 ≤ gn ∧ gn ≤ 65535) := Lib.hid (by omega)
  obtain ⟨bx, hbx⟩ : ∃ b, w2.heap.size = b := ⟨_, rfl⟩
  have K3 : Hid (Core w (w2.alloc (.cells #[.int .i64 kd, .int .i64 0, .int .i64 gn, .string ⟨#[]⟩, .slice none 0 0, .slice none 0 0] 54)) c ad len cap bx #[.int .i64 kd, .int .i64 0, .int .i64 gn, .string ⟨#[]⟩, .slice none 0 0, .slice none 0 0]) := Lib.hid (by
    obtain ⟨a1, a2, a3, a4, a5, a6⟩ := box_new #[.int .i64 kd, .int .i64 0, .int .i64 gn, .string ⟨#[]⟩, .slice none 0 0, .slice none 0 0] 54 C2.out S2.out G2.out
    rw [hbx] at a4
    exact ⟨a4, R2.out.later (below_bk _ _), by have := R2.out.lt; omega, HLT.out, a1, a2, a3⟩)
  have hb1 : ¬ bx = w.heap.size := by have := K3.out.low; omega
  have hb2 : ¬ w.heap.size = bx := by have := K3.out.low; omega
  have hbs1 : bx + 1 = (w2.alloc (.cells #[.int .i64 kd, .int .i64 0, .int .i64 gn, .string ⟨#[]⟩, .slice none 0 0, .slice none 0 0] 54)).heap.size := by rw [← hbx]; simp
  have HBS := Lib.hid hbs1
  have N3R : Hid ((w2.alloc (.cells #[.int .i64 kd, .int .i64 0, .int .i64 gn, .string ⟨#[]⟩, .slice none 0 0, .slice none 0 0] 54)).ownsRow (bx + 1) 66 3 (.slice none 0 0) 0 (cellsE encRec [])) := Lib.hid (World.ownsRow_nil _ _ _ _)
  have N3E : Hid ((w2.alloc (.cells #[.int .i64 kd, .int .i64 0, .int .i64 gn, .string ⟨#[]⟩, .slice none 0 0, .slice none 0 0] 54)).ownsRow (bx + 1) 47 2 (.slice none 0 0) 0 (cellsE encEntry [])) := Lib.hid (World.ownsRow_nil _ _ _ _)
  clear hc2 hg2 hbs1
  rcases (by omega : kd = 0 ∨ kd = 1 ∨ kd = 2) with rfl | rfl | rfl
  · have HOK : Hid (InoOk ⟨0, 0, gn, ⟨#[]⟩, [], []⟩) := Lib.hid ⟨HGN.out, .inl ⟨rfl, rfl, rfl, rfl, rfl⟩⟩
    have x0 := K3.out.box.cell (j := 0) rfl
    have r0 := K3.out.res.cell (j := 0) rfl
    have f0 := K3.out.res.fr (o := 0)
    have x1 := K3.out.box.cell (j := 1) rfl
    have r1 := K3.out.res.cell (j := 1) rfl
    have f1 := K3.out.res.fr (o := 1)
    have x2 := K3.out.box.cell (j := 2) rfl
    have r2 := K3.out.res.cell (j := 2) rfl
    have f2 := K3.out.res.fr (o := 2)
    have x3 := K3.out.box.cell (j := 3) rfl
    have r3 := K3.out.res.cell (j := 3) rfl
    have f3 := K3.out.res.fr (o := 3)
    have x4 := K3.out.box.cell (j := 4) rfl
    have r4 := K3.out.res.cell (j := 4) rfl
    have f4 := K3.out.res.fr (o := 4)
    have x5 := K3.out.box.cell (j := 5) rfl
    have r5 := K3.out.res.cell (j := 5) rfl
    have f5 := K3.out.res.fr (o := 5)
    have qf := ((((((K3.out.res.set 0 (.int .i64 0)).set 1 (.int .i64 0)).set 2 (.int .i64 gn)).set 3 (.string ⟨#[]⟩)).set 4 (.slice none 0 0)).set 5 (.slice none 0 0))
    have q0 := qf.cell (j := 0) (v := .int .i64 0) rfl
    have q1 := qf.cell (j := 1) (v := .int .i64 0) rfl
    have q2 := qf.cell (j := 2) (v := .int .i64 gn) rfl
    have q3 := qf.cell (j := 3) (v := .string ⟨#[]⟩) rfl
    have q4 := qf.cell (j := 4) (v := .slice none 0 0) rfl
    have q5 := qf.cell (j := 5) (v := .slice none 0 0) rfl
    have HE9 := Lib.hid (drawn_end (P := InoOk) K3.out HOK.out rfl rfl N3R.out N3E.out (.inl rfl))
    clear qf
    go_wp2
    refine bodyPost_ret (v := .agg #[.int .i64 0, .int .i64 0, .int .i64 gn, .string ⟨#[]⟩, .slice none 0 0, .slice none 0 0]) ?_ rfl HE9.out
    simp [results, Tryd.results133, go_sem, q0, q1, q2, q3, q4, q5]
  · -- a file
    go_wp2_with fail
    try rw [HBS.out]
    obtain ⟨w3, h3⟩ : ∃ x, x = (w2.alloc (.cells #[.int .i64 1, .int .i64 0, .int .i64 gn, .string ⟨#[]⟩, .slice none 0 0, .slice none 0 0] 54)) := ⟨_, rfl⟩
    rw [← h3] at K3 HBS N3R N3E ⊢
    clear h3 hbx
    refine (pickNum_new c ad len cap 8 [0, 1, 31, 32, 33, 64, 100, 128] _ _ w3 rfl hlen (by decide) (by decide) rfl K3.out.cur K3.out.src).mono ?_
    rintro e w4 ⟨z, hz, rfl, hc4, hg4⟩
    have hz0' : 0 ≤ z ∧ z ≤ 128 := by simp at hz; omega
    have HZ := Lib.hid hz0'
    have K4 := Lib.hid (K3.out.draw hc4 hg4)
    have y1 := K4.out.box.cell (j := 1) rfl
    have v1 := K4.out.box.fr (o := 1)
    have K5 := Lib.hid (K4.out.set 1 (.int .i64 z))
    clear hc4 hg4 hz hz0'
    go_wp2_with fail
    refine (text_any c ad len cap 8 _ hlen (by decide) K5.out.cur K5.out.src).mono ?_
    rintro e w6 ⟨v, ⟨key, rfl, hkey⟩, rfl, hc6, hg6⟩
    have HKEY := Lib.hid hkey
    have K6 := Lib.hid (K5.out.draw hc6 hg6)
    have y3 := K6.out.box.cell (j := 3) rfl
    have v3 := K6.out.box.fr (o := 3)
    have K7 := Lib.hid (K6.out.set 3 (.string key))
    obtain ⟨np, hnp⟩ : ∃ n : Nat, pagesZ z = n := ⟨(pagesZ z).toNat, by have := HZ.out; unfold pagesZ; split <;> omega⟩
    have hnp4 : np ≤ 4 := by have := HZ.out; unfold pagesZ at hnp; split at hnp <;> omega
    have HNP := Lib.hid hnp
    clear hc6 hg6 hkey y1 v1 hnp
    go_wp2
    go_loopw [4, 5] (fun bv iv wr => ∃ (k : Nat) (bs : Int) (aR : Option Addr) (cR : Nat) (R : List RecR), k ≤ np ∧ bv = .int .i64 bs ∧ iv = .int .i64 k ∧ 0 ≤ bs ∧ bs ≤ 12 ∧ Hid (R.length = k) ∧ Hid (∀ j, j < k → RecOk (R.getD j default) ∧ (R.getD j default).f0 = 1 + (3 * (j : Int) + bs) % 12)
      ∧ Hid (Core w wr c ad len cap bx #[.int .i64 1, .int .i64 z, .int .i64 gn, .string key, .slice aR k cR, .slice none 0 0]) ∧ Hid (wr.ownsRow (bx + 1) 66 3 (.slice aR k cR) k (cellsE encRec R))) (fun _ iv _ => np - (intOf iv).toNat)
    case atStart => exact ⟨0, 0, none, 0, [], Nat.zero_le _, rfl, rfl, by omega, by omega, Lib.hid rfl, Lib.hid (fun j hj => by omega), Lib.hid K7.out, Lib.hid (World.ownsRow_nil _ _ _ _)⟩
    case round =>
      clear y3 v3 K3 K4 K5 K6 K7 N3R
      obtain ⟨k, bs, aR, cR, R, hk, rfl, rfl, b0, b1, HLR, HA, KC, HW⟩ := hrel
      have y1 := KC.out.box.cell (j := 1) rfl
      go_wp2_with fail
      refine (specPages_any z _ (by have := HZ.out; omega) (by have := HZ.out; omega)).mono ?_
      rw [HNP.out]
      rintro e w7 ⟨rfl, rfl⟩
      by_cases hlt : k < np
      · go_wp2_with fail
        refine (rec12_any c ad len cap _ hlen KC.out.cur KC.out.src).mono ?_
        rintro e w8 ⟨p, q, m, hok, rfl, hc8, hg8⟩
        have HOK := Lib.hid hok
        have K8 := Lib.hid (KC.out.draw hc8 hg8)
        have W8 := Lib.hid (own_draw HW.out hg8 (by have := KC.out.low; omega))
        have Z8 : Hid (bx + 1 ≤ w8.heap.size) := Lib.hid K8.out.lt
        have y4 : ∀ ob, (w8.alloc ob).cell? ⟨bx, 4, none⟩ = some (.slice aR k cR) := fun ob => (K8.out.alloc ob).box.cell (j := 4) rfl
        obtain ⟨nb, hnb⟩ : ∃ nb : Int, (if k = 0 then p else bs) = nb := ⟨_, rfl⟩
        have HNB : Hid (∀ j, j < k → (R.getD j default).f0 = 1 + (3 * (j : Int) + nb) % 12) := Lib.hid (fun j hj => by rw [← hnb, if_neg (by omega)]; exact (HA.out j hj).2)
        have n0 : 0 ≤ nb := by have := hok.1; simp only at this; rw [← hnb]; split <;> omega
        have n1 : nb ≤ 12 := by have := hok.1; simp only at this; rw [← hnb]; split <;> omega
        have n2 : 0 ≤ 3 * (k : Int) + nb := by omega
        have n3 : 3 * (k : Int) + nb ≤ 100 := by omega
        have n4 : 0 ≤ (3 * (k : Int) + nb) % 12 := by omega
        have n5 : (3 * (k : Int) + nb) % 12 ≤ 11 := by omega
        obtain ⟨P, hP⟩ : ∃ P : Int, 1 + (3 * (k : Int) + nb) % 12 = P := ⟨_, rfl⟩
        have HOK2 : Hid (RecOk ⟨P, q, m⟩) := Lib.hid (by rw [← hP]; exact rec_ok12 HOK.out)
        have HPP := Lib.hid hP
        have happ := appRec1 (w8.alloc (.cells #[.int .i64 P, .int .i64 q, .string m] 66)) 51 (bx + 1) (.slice aR k cR) k R (W8.out.alloc _) (by have := Z8.out; simp; omega) ⟨P, q, m⟩ (by omega)
        rw [show (w8.alloc (.cells #[.int .i64 P, .int .i64 q, .string m] 66)).heap.size = w8.heap.size + 1 by simp] at happ
        have HAPP := Lib.hid happ
        clear happ
        have HA2 : Hid (∀ j, j < k + 1 → RecOk ((R ++ [(⟨P, q, m⟩ : RecR)]).getD j default) ∧ ((R ++ [(⟨P, q, m⟩ : RecR)]).getD j default).f0 = 1 + (3 * (j : Int) + nb) % 12) := Lib.hid (fun j hj => by
          rw [getD_last, HLR.out]
          by_cases e : j = k
          · subst e; rw [if_pos rfl]; exact ⟨HOK2.out, HPP.out.symm⟩
          · rw [if_neg e]; exact ⟨(HA.out j (by omega)).1, HNB.out j (by omega)⟩)
        have HLR2 : Hid ((R ++ [(⟨P, q, m⟩ : RecR)]).length = k + 1) := Lib.hid (by rw [List.length_append, HLR.out]; rfl)
        clear hc8 hg8 hok y1
        have hcase : (((k : Int) == 0) = true ∧ nb = p) ∨ (((k : Int) == 0) = false ∧ nb = bs) := by
          by_cases e : k = 0
          · left; exact ⟨by simp; omega, by rw [← hnb, if_pos e]⟩
          · right; exact ⟨by simp; omega, by rw [← hnb, if_neg e]⟩
        clear hnb
        rcases hcase with ⟨hke, rfl⟩ | ⟨hke, rfl⟩
        all_goals
          go_wp2_with (at_builtin; refine wpList_appE rfl (.tmp 46) (.tmp 48) 51 51 rfl (.slice aR k cR) (.slice (some ⟨w8.heap.size + 1, 0, none⟩) 1 1) rfl rfl HAPP.out ?_; intro v9 w9 hown9 hgrow9 hat9; obtain ⟨a9, c9, rfl, _, _, _⟩ := ownE_form hown9; have K9 := Lib.hid (((K8.out.alloc (.cells #[.int .i64 P, .int .i64 q, .string m] 66)).alloc (.cells #[.int .i64 P, .int .i64 q, .string m] 66)).own hgrow9 (fun g e => (W8.out.lt g e).1)); have y9 := K9.out.box.cell (j := 4) rfl; have v9 := K9.out.box.fr (o := 4))
          have K10 := Lib.hid (K9.out.set 4 (.slice a9 (k + 1) c9))
          have O10 := Lib.hid (own_set hown9 (Nat.lt_succ_self bx) (.slice a9 (k + 1) c9) (j := 4))
          clear hown9 hgrow9 hat9 HAPP y4 y9 v9
          go_roundw
          case rel => exact ⟨k + 1, _, a9, c9, _, by omega, rfl, by go_num, by omega, by omega, HLR2, HA2, K10, O10⟩
          case measure => (simp [intOf]; try omega)
      · obtain rfl : k = np := by omega
        have HOKF : Hid (InoOk ⟨1, z, gn, key, R, []⟩) := Lib.hid ⟨HGN.out, .inr (.inl ⟨rfl, HZ.out, HKEY.out, by rw [HNP.out]; show ((R.length : Nat) : Int) = _; rw [HLR.out], rfl, by show RecsOk R R.length; rw [HLR.out]; exact recs_ok12 hnp4 HA.out⟩)⟩
        have N3E9 : Hid (w7.ownsRow (bx + 1) 47 2 (.slice none 0 0) 0 (cellsE encEntry [])) := Lib.hid (World.ownsRow_nil _ _ _ _)
        clear y1
        have x0 := KC.out.box.cell (j := 0) rfl
        have r0 := KC.out.res.cell (j := 0) rfl
        have f0 := KC.out.res.fr (o := 0)
        have x1 := KC.out.box.cell (j := 1) rfl
        have r1 := KC.out.res.cell (j := 1) rfl
        have f1 := KC.out.res.fr (o := 1)
        have x2 := KC.out.box.cell (j := 2) rfl
        have r2 := KC.out.res.cell (j := 2) rfl
        have f2 := KC.out.res.fr (o := 2)
        have x3 := KC.out.box.cell (j := 3) rfl
        have r3 := KC.out.res.cell (j := 3) rfl
        have f3 := KC.out.res.fr (o := 3)
        have x4 := KC.out.box.cell (j := 4) rfl
        have r4 := KC.out.res.cell (j := 4) rfl
        have f4 := KC.out.res.fr (o := 4)
        have x5 := KC.out.box.cell (j := 5) rfl
        have r5 := KC.out.res.cell (j := 5) rfl
        have f5 := KC.out.res.fr (o := 5)
        have qf := ((((((KC.out.res.set 0 (.int .i64 1)).set 1 (.int .i64 z)).set 2 (.int .i64 gn)).set 3 (.string key)).set 4 (.slice aR k cR)).set 5 (.slice none 0 0))
        have q0 := qf.cell (j := 0) (v := .int .i64 1) rfl
        have q1 := qf.cell (j := 1) (v := .int .i64 z) rfl
        have q2 := qf.cell (j := 2) (v := .int .i64 gn) rfl
        have q3 := qf.cell (j := 3) (v := .string key) rfl
        have q4 := qf.cell (j := 4) (v := .slice aR k cR) rfl
        have q5 := qf.cell (j := 5) (v := .slice none 0 0) rfl
        have HE9 := Lib.hid (drawn_end (P := InoOk) KC.out HOKF.out HLR.out rfl HW.out N3E9.out (.inr rfl))
        clear qf
        go_wp2
        refine bodyPost_ret (v := .agg #[.int .i64 1, .int .i64 z, .int .i64 gn, .string key, .slice aR k cR, .slice none 0 0]) ?_ rfl HE9.out
        simp [results, Tryd.results133, go_sem, q0, q1, q2, q3, q4, q5]
  · -- a directory
    have HNA := Lib.hid (Bk.alloc (w2.alloc (.cells #[.int .i64 2, .int .i64 0, .int .i64 gn, .string ⟨#[]⟩, .slice none 0 0, .slice none 0 0] 54)) #[.string ⟨#[97]⟩, .string ⟨#[97, 98]⟩, .string ⟨#[98]⟩, .string ⟨#[99]⟩, .string ⟨#[100]⟩, .string ⟨#[120, 49]⟩] 9)
    have K4 := Lib.hid (K3.out.alloc (.cells #[.string ⟨#[97]⟩, .string ⟨#[97, 98]⟩, .string ⟨#[98]⟩, .string ⟨#[99]⟩, .string ⟨#[100]⟩, .string ⟨#[120, 49]⟩] 9))
    have NB : Hid (Bk ((w2.alloc (.cells #[.int .i64 2, .int .i64 0, .int .i64 gn, .string ⟨#[]⟩, .slice none 0 0, .slice none 0 0] 54)).alloc (.cells #[.string ⟨#[97]⟩, .string ⟨#[97, 98]⟩, .string ⟨#[98]⟩, .string ⟨#[99]⟩, .string ⟨#[100]⟩, .string ⟨#[120, 49]⟩] 9)) (bx + 1) #[.string ⟨#[97]⟩, .string ⟨#[97, 98]⟩, .string ⟨#[98]⟩, .string ⟨#[99]⟩, .string ⟨#[100]⟩, .string ⟨#[120, 49]⟩] 9) := Lib.hid (by rw [HBS.out]; exact HNA.out)
    go_wp2
    go_loopw [8] (fun iv wr => ∃ (k m : Nat) (aE : Option Addr) (cE : Nat) (E : List EntryR), k ≤ 6 ∧ m ≤ k ∧ iv = .int .i64 k ∧ Hid (E.length = m) ∧ Hid (EntsOk E m) ∧ Hid (∀ j, k ≤ j → j < 6 → textLt (prevT E m) (nm12.getD j default) = true)
      ∧ Hid (Core w wr c ad len cap bx #[.int .i64 2, .int .i64 0, .int .i64 gn, .string ⟨#[]⟩, .slice none 0 0, .slice aE m cE]) ∧ Hid (wr.ownsRow (bx + 2) 47 2 (.slice aE m cE) m (cellsE encEntry E)) ∧ Hid (Bk wr (bx + 1) #[.string ⟨#[97]⟩, .string ⟨#[97, 98]⟩, .string ⟨#[98]⟩, .string ⟨#[99]⟩, .string ⟨#[100]⟩, .string ⟨#[120, 49]⟩] 9)) (fun iv _ => 6 - (intOf iv).toNat)
    case atStart => exact ⟨0, 0, none, 0, [], by omega, by omega, rfl, Lib.hid rfl, Lib.hid (fun j hj => by omega), Lib.hid (fun j _ h => nm12_first j h), Lib.hid K4.out, Lib.hid (World.ownsRow_nil _ _ _ _), NB⟩
    case round =>
      clear K3 K4 NB HNA N3R N3E hbx HBS
      obtain ⟨k, m, aE, cE, E, hk, hmk, rfl, HLE, HEO, HU, KC, HW, NB⟩ := hrel
      by_cases hlt : k < 6
      · go_wp2_with fail
        refine (once12_any c ad len cap 3 _ hlen (by decide) (by decide) KC.out.cur KC.out.src).mono ?_
        rintro e w8 ⟨v, ⟨b, rfl⟩, rfl, hc8, hg8⟩
        have hcl := KC.out.cl
        have hlo := KC.out.low
        have K8 := Lib.hid (KC.out.draw hc8 hg8)
        have W8 := Lib.hid (own_draw HW.out hg8 (by omega))
        have NB8 := Lib.hid (bk_kept NB.out hg8 (by omega))
        clear hc8 hg8
        cases b
        · go_wp2
          go_roundw
          case rel => exact ⟨k + 1, m, aE, cE, E, by omega, by omega, by go_num, HLE, HEO, Lib.hid (fun j h1 h2 => HU.out j (by omega) h2), K8, W8, NB8⟩
          case measure => (simp [intOf]; try omega)
        · obtain ⟨nm, hnm⟩ : ∃ x, nm12.getD k default = x := ⟨_, rfl⟩
          have HNM := Lib.hid hnm
          have y5 := K8.out.box.cell (j := 5) rfl
          have n8 := NB8.out.cell (nm12_cell k hlt)
          rw [hnm] at n8
          clear hnm
          go_wp2
          go_region_law (first
            | (refine step_appE rfl (.tmp 63) (.tmp 72) 52 52 rfl (.slice aE m cE) (.slice (some ⟨w9.heap.size, 0, none⟩) 1 1) (by simp [Act.eval]) (by simp [Act.eval]) HAPP.out ?_
               intro v10 w10 hown10 hgrow10 hat10
               obtain ⟨a10, c10, rfl, _, _, _⟩ := ownE_form hown10
               have K10 := Lib.hid ((K9.out.alloc (.cells #[.int .i64 (1 + p), .string nm] 47)).own hgrow10 (fun g e => by have := (W9.out.lt g e).1; omega))
               have z5 := K10.out.box.cell (j := 5) rfl
               have v5 := K10.out.box.fr (o := 5)
               have W10 := Lib.hid hown10
               have NB10 := Lib.hid ((NB9.out.later (below_bk w9 (.cells #[.int .i64 (1 + p), .string nm] 47))).grown hgrow10 (fun e => by have := (W9.out.lt _ e).1; omega))
               clear hown10 hgrow10 hat10)
            | (go_simp; go_at_call 134; refine (below_small c ad len cap 5 _ hlen (by decide) (by decide) K8.out.drew.cur K8.out.drew.src).mono ?_; rintro e w9 ⟨p, p0, p1, rfl, hc9, hg9⟩
               have hwp : IntKind.i64.wrap (1 + p) = 1 + p := IntWalk.i64_in _ (by omega)
               have K9 := Lib.hid (K8.out.drew.draw hc9 hg9)
               have W9 := Lib.hid (own_draw (w := w8.drew) W8.out hg9 (by omega))
               have NB9 := Lib.hid (bk_kept (w := w8.drew) NB8.out hg9 (by omega))
               have d5 := K9.out.box.cell (j := 5) rfl
               have n9 := NB9.out.cell (nm12_cell k hlt)
               rw [HNM.out] at n9
               have d5a := (K9.out.alloc (.cells #[.int .i64 (1 + p), .string nm] 47)).box.cell (j := 5) rfl
               have HAPP := Lib.hid (appEntry1 w9 52 (bx + 2) (.slice aE m cE) m E W9.out (by have := NB9.out.lt; omega) ⟨1 + p, nm⟩ (by omega))
               clear hc9 hg9))
          all_goals
            have HEOK : Hid (EntryOk ⟨1 + p, nm⟩) := Lib.hid (by rw [← HNM.out]; exact ent_ok12 p0 p1 hlt)
            have HLE2 : Hid ((E ++ [(⟨1 + p, nm⟩ : EntryR)]).length = m + 1) := Lib.hid (by rw [List.length_append, HLE.out]; rfl)
            have HEO2 : Hid (EntsOk (E ++ [(⟨1 + p, nm⟩ : EntryR)]) (m + 1)) := Lib.hid (ents_snoc HLE.out HEO.out HEOK.out (by show textLt (prevT E m) nm = true; rw [← HNM.out]; exact HU.out k (Nat.le_refl _) hlt))
            have HU2 : Hid (∀ j, k + 1 ≤ j → j < 6 → textLt (prevT (E ++ [(⟨1 + p, nm⟩ : EntryR)]) (m + 1)) (nm12.getD j default) = true) := Lib.hid (fun j h1 h2 => by
              rw [prevT_snoc HLE.out]
              show textLt nm _ = true
              rw [← HNM.out]
              exact nm12_up k hlt j h2 (by omega))
            have K11 := Lib.hid (K10.out.set 5 (.slice a10 (m + 1) c10))
            have W11 := Lib.hid (own_set W10.out (by omega) (.slice a10 (m + 1) c10) (b := bx) (j := 5))
            have NB11 := Lib.hid (NB10.out.other (c := bx) (o := 5) (by omega) (.slice a10 (m + 1) c10))
            clear y5 n8 HAPP hwp
            go_wp2
            go_roundw
            case rel => exact ⟨k + 1, m + 1, a10, c10, _, by omega, by omega, by go_num, HLE2, HEO2, HU2, K11, W11, NB11⟩
            case measure => (simp [intOf]; try omega)
      · obtain rfl : k = 6 := by omega
        have HOKD : Hid (InoOk ⟨2, 0, gn, ⟨#[]⟩, [], E⟩) := Lib.hid ⟨HGN.out, .inr (.inr ⟨rfl, rfl, rfl, rfl, by show E.length ≤ 6; rw [HLE.out]; exact hmk, by show EntsOk E E.length; rw [HLE.out]; exact HEO.out⟩)⟩
        have N3R9 : Hid (wr.ownsRow (bx + 1) 66 3 (.slice none 0 0) 0 (cellsE encRec [])) := Lib.hid (World.ownsRow_nil _ _ _ _)
        have HW9 : Hid (wr.ownsRow (bx + 1) 47 2 (.slice aE m cE) m (cellsE encEntry E)) := Lib.hid (ownE_mono HW.out (Nat.le_succ _))
        have x0 := KC.out.box.cell (j := 0) rfl
        have r0 := KC.out.res.cell (j := 0) rfl
        have f0 := KC.out.res.fr (o := 0)
        have x1 := KC.out.box.cell (j := 1) rfl
        have r1 := KC.out.res.cell (j := 1) rfl
        have f1 := KC.out.res.fr (o := 1)
        have x2 := KC.out.box.cell (j := 2) rfl
        have r2 := KC.out.res.cell (j := 2) rfl
        have f2 := KC.out.res.fr (o := 2)
        have x3 := KC.out.box.cell (j := 3) rfl
        have r3 := KC.out.res.cell (j := 3) rfl
        have f3 := KC.out.res.fr (o := 3)
        have x4 := KC.out.box.cell (j := 4) rfl
        have r4 := KC.out.res.cell (j := 4) rfl
        have f4 := KC.out.res.fr (o := 4)
        have x5 := KC.out.box.cell (j := 5) rfl
        have r5 := KC.out.res.cell (j := 5) rfl
        have f5 := KC.out.res.fr (o := 5)
        have qf := ((((((KC.out.res.set 0 (.int .i64 2)).set 1 (.int .i64 0)).set 2 (.int .i64 gn)).set 3 (.string ⟨#[]⟩)).set 4 (.slice none 0 0)).set 5 (.slice aE m cE))
        have q0 := qf.cell (j := 0) (v := .int .i64 2) rfl
        have q1 := qf.cell (j := 1) (v := .int .i64 0) rfl
        have q2 := qf.cell (j := 2) (v := .int .i64 gn) rfl
        have q3 := qf.cell (j := 3) (v := .string ⟨#[]⟩) rfl
        have q4 := qf.cell (j := 4) (v := .slice none 0 0) rfl
        have q5 := qf.cell (j := 5) (v := .slice aE m cE) rfl
        have HE9 := Lib.hid (drawn_end (P := InoOk) KC.out HOKD.out rfl HLE.out N3R9.out HW9.out (.inl rfl))
        clear qf
        go_wp2
        refine bodyPost_ret (v := .agg #[.int .i64 2, .int .i64 0, .int .i64 gn, .string ⟨#[]⟩, .slice none 0 0, .slice aE m cE]) ?_ rfl HE9.out
        simp [results, Tryd.results133, go_sem, q0, q1, q2, q3, q4, q5]
end Draw
end Go.Proofs.YtmkchilhnmkhkaaDoor
