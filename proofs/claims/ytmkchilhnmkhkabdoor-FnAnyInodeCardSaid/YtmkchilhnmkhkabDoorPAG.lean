/- Merged texts: Draw12C, Turned12, Draw12F, SameTexts12. -/
import Derived.Test.YtmkchilhnmkhkabDoorPAF
import Derived.RangeFuncBox
import Derived.BigQuiet
import Derived.Deep.QuietTactic
namespace Go.Proofs.YtmkchilhnmkhkabDoor
open Go.RowKit Go.Proofs.YtmkchilhnmkhkabDoor.Hexa Go.Proofs.YtmkchilhnmkhkabDoor.Byt
namespace Draw

abbrev zIno : Array Value := #[.int .i64 0, .int .i64 0, .int .i64 0, .string ⟨#[]⟩, .slice none 0 0, .slice none 0 0]
/-- The result's box, the inode's box, the cursor; nothing else of the old world is written. -/
structure Core (w wr : World) (c : Nat) (ad : Option Addr) (len cap bx : Nat) (cs : Array Value) : Prop where
  box : Bk wr bx cs 29
  res : Bk wr w.heap.size zIno 29
  low : w.heap.size < bx
  cl : c < w.heap.size
  cur : Cur wr c ad len cap
  src : Src wr c ad len
  grown : w.grownBy wr (some c)
section
variable {w wr w' : World} {c : Nat} {ad : Option Addr} {len cap bx : Nat} {cs : Array Value}
theorem Core.draw (h : Core w wr c ad len cap bx cs) (hc : Cur w' c ad len cap) (hg : wr.grownBy w' (some c)) : Core w w' c ad len cap bx cs :=
  ⟨bk_kept h.box hg (by have := h.low; have := h.cl; omega), bk_kept h.res hg (by have := h.cl; omega), h.low, h.cl, hc, src_grown h.src hg (cur_lt h.cur), grownBy_trans h.grown hg⟩
theorem Core.own (h : Core w wr c ad len cap bx cs) {r : Option Nat} (hg : wr.grownBy w' r) (hr : ∀ k, r = some k → bx + 1 ≤ k) : Core w w' c ad len cap bx cs :=
  ⟨h.box.grown hg (fun e => by have := hr _ e; omega), h.res.grown hg (fun e => by have := hr _ e; have := h.low; omega), h.low, h.cl, cur_grown h.cur hg (fun e => by have := hr _ e.symm; have := h.low; have := h.cl; omega),
   src_grown' h.src hg (fun k e => by have := hr _ e; have := h.low; have := h.cl; omega) (Nat.le_of_lt (cur_lt h.cur)),
   ⟨hg.os.trans h.grown.os, hg.tape.trans h.grown.tape, hg.output.trans h.grown.output, Nat.le_trans h.grown.size hg.size, fun k hk hne => (hg.block k (Nat.lt_of_lt_of_le hk h.grown.size) (fun e => by have := hr k e.symm; have := h.low; omega)).trans (h.grown.block k hk hne)⟩⟩
theorem Core.alloc (h : Core w wr c ad len cap bx cs) (o : Obj) : Core w (wr.alloc o) c ad len cap bx cs := h.own (r := none) (grown_alloc wr o none) (fun k e => by cases e)
theorem Core.drew (h : Core w wr c ad len cap bx cs) : Core w wr.drew c ad len cap bx cs := ⟨h.box, h.res, h.low, h.cl, h.cur, h.src, ⟨h.grown.os, h.grown.tape, h.grown.output, h.grown.size, h.grown.block⟩⟩
theorem Core.set (h : Core w wr c ad len cap bx cs) (j : Nat) (v : Value) : Core w (wr.setCell ⟨bx, j, none⟩ v) c ad len cap bx (cs.setIfInBounds j v) := by
  have hk := set_kept bx j v h.cur h.grown (by have := h.low; have := h.cl; omega) (Nat.le_of_lt h.low)
  refine ⟨h.box.set j v, h.res.other (by have := h.low; omega) v, h.low, h.cl, hk.1, ?_, hk.2⟩
  intro i hi
  obtain ⟨b, off, z, h1, h2, h3, h4, h5⟩ := h.src i hi
  exact ⟨b, off, z, h1, h2, h3, h4, by rw [World.cell?_of_block (w := wr) (Below.heap_setCell _ _ _ _ (by show b ≠ bx; have := h.low; have := h.cl; omega))]; exact h5⟩
theorem Core.lt (h : Core w wr c ad len cap bx cs) : bx + 1 ≤ wr.heap.size := h.box.lt
end
theorem own_draw {w w' : World} {c B e k n : Nat} {v : Value} {xs : List Value} (h : w.ownsRow B e k v n xs) (hg : w.grownBy w' (some c)) (hc : c < B) : w'.ownsRow B e k v n xs :=
  ⟨h.1, h.2.imp id fun ⟨g, cp, cur, hv, hb, hh, r⟩ => ⟨g, cp, cur, hv, hb, by rw [hg.block g (Array.getElem?_eq_some_iff.1 hh).1 (fun e => by have := Option.some.inj e; omega)]; exact hh, r⟩⟩
theorem own_set {w : World} {b B e k n j : Nat} {v : Value} {xs : List Value} (h : w.ownsRow B e k v n xs) (hb : b < B) (u : Value) : (w.setCell ⟨b, j, none⟩ u).ownsRow B e k v n xs :=
  ⟨h.1, h.2.imp id fun ⟨g, cp, cur, hv, hB, hh, r⟩ => ⟨g, cp, cur, hv, hB, by rw [Below.heap_setCell _ _ _ _ (by show g ≠ b; omega)]; exact hh, r⟩⟩

/-- What a drawn inode is. -/
def InoDrawn (P : InoR → Prop) (w : World) (c : Nat) (ad : Option Addr) (len cap : Nat) (e : Ending) (w' : World) : Prop :=
  ∃ kd sz gn key aR cR aE cE R E, P ⟨kd, sz, gn, key, R, E⟩ ∧ e = .returned (.agg #[.int .i64 kd, .int .i64 sz, .int .i64 gn, .string key, .slice aR R.length cR, .slice aE E.length cE])
    ∧ w'.ownsRow w.heap.size 49 3 (.slice aR R.length cR) R.length (cellsE encRec R) ∧ w'.ownsRow w.heap.size 55 2 (.slice aE E.length cE) E.length (cellsE encEntry E) ∧ (aR = none ∨ aE = none) ∧ Cur w' c ad len cap ∧ w.grownBy w' (some c)
theorem drawn_end {P : InoR → Prop} {w wr : World} {c : Nat} {ad : Option Addr} {len cap bx : Nat} {kd sz gn : Int} {key : ByteArray} {aR aE : Option Addr} {nR cR nE cE : Nat} {R : List RecR} {E : List EntryR}
    (h : Core w wr c ad len cap bx #[.int .i64 kd, .int .i64 sz, .int .i64 gn, .string key, .slice aR nR cR, .slice aE nE cE]) (hP : P ⟨kd, sz, gn, key, R, E⟩) (hR : R.length = nR) (hE : E.length = nE)
    (oR : wr.ownsRow (bx + 1) 49 3 (.slice aR nR cR) nR (cellsE encRec R)) (oE : wr.ownsRow (bx + 1) 55 2 (.slice aE nE cE) nE (cellsE encEntry E)) (hx : aR = none ∨ aE = none) :
    InoDrawn P w c ad len cap (.returned (.agg #[.int .i64 kd, .int .i64 sz, .int .i64 gn, .string key, .slice aR nR cR, .slice aE nE cE])) (wr.setCells w.heap.size 0 [.int .i64 kd, .int .i64 sz, .int .i64 gn, .string key, .slice aR nR cR, .slice aE nE cE]) := by
  subst hR hE
  have hk := sets_kept w.heap.size 0 [.int .i64 kd, .int .i64 sz, .int .i64 gn, .string key, .slice aR R.length cR, .slice aE E.length cE] h.cur h.grown (by have := h.cl; omega) (Nat.le_refl _)
  have hl := h.low
  refine ⟨kd, sz, gn, key, aR, cR, aE, cE, R, E, hP, rfl, ownE_mono (B := bx + 1) ?_ (by omega), ownE_mono (B := bx + 1) ?_ (by omega), hx, hk.1, hk.2⟩
  · exact own_set (own_set (own_set (own_set (own_set (own_set oR (by omega) _) (by omega) _) (by omega) _) (by omega) _) (by omega) _) (by omega) _
  · exact own_set (own_set (own_set (own_set (own_set (own_set oE (by omega) _) (by omega) _) (by omega) _) (by omega) _) (by omega) _) (by omega) _

def nm12 : List ByteArray := [⟨#[97]⟩, ⟨#[97, 98]⟩, ⟨#[98]⟩, ⟨#[99]⟩, ⟨#[100]⟩, ⟨#[120, 49]⟩]
theorem nm12_ok : ∀ k, k < 6 → NameR (nm12.getD k default) := by decide +kernel
theorem nm12_up : ∀ k, k < 6 → ∀ j, j < 6 → k < j → textLt (nm12.getD k default) (nm12.getD j default) = true := by decide +kernel
theorem nm12_first : ∀ j, j < 6 → textLt ⟨#[]⟩ (nm12.getD j default) = true := by decide +kernel
theorem ent_ok12 {p : Int} {k : Nat} (h0 : 0 ≤ p) (h1 : p < 5) (hk : k < 6) : EntryOk ⟨1 + p, nm12.getD k default⟩ := by
  refine ⟨?_, nm12_ok k hk⟩
  show 1 ≤ 1 + p ∧ 1 + p ≤ 5
  omega
theorem recs_ok12 {R : List RecR} {bs : Int} {n : Nat} (hn : n ≤ 4) (h : ∀ j, j < n → RecOk (R.getD j default) ∧ (R.getD j default).f0 = 1 + (3 * (j : Int) + bs) % 12) : RecsOk R n := fun j hj =>
  ⟨(h j hj).1, fun k hk => by rw [(h j hj).2, (h k (by omega)).2]; omega⟩
theorem rec_ok12 {p bs : Int} {k : Nat} {q : Int} {m : ByteArray} (h : RecOk ⟨p, q, m⟩) : RecOk ⟨1 + (3 * (k : Int) + bs) % 12, q, m⟩ := by
  refine ⟨?_, h.2⟩
  show 1 ≤ 1 + (3 * (k : Int) + bs) % 12 ∧ 1 + (3 * (k : Int) + bs) % 12 ≤ 12
  omega
theorem nm12_cell : ∀ j, j < 6 → (#[.string ⟨#[97]⟩, .string ⟨#[97, 98]⟩, .string ⟨#[98]⟩, .string ⟨#[99]⟩, .string ⟨#[100]⟩, .string ⟨#[120, 49]⟩] : Array Value)[j]? = some (.string (nm12.getD j default))
  | 0, _ => rfl
  | 1, _ => rfl
  | 2, _ => rfl
  | 3, _ => rfl
  | 4, _ => rfl
  | 5, _ => rfl
  | j + 6, h => by omega
theorem getD_last {α : Type} [Inhabited α] (L : List α) (x : α) (j : Nat) : (L ++ [x]).getD j default = if j = L.length then x else L.getD j default := by
  by_cases h : j < L.length
  · rw [if_neg (by omega)]; simp [List.getD, List.getElem?_append_left h]
  · by_cases e : j = L.length
    · subst e; simp [List.getD]
    · rw [if_neg e]; simp only [List.getD]; rw [List.getElem?_eq_none (by simp; omega), List.getElem?_eq_none (by omega)]

theorem ents_snoc {E : List EntryR} {m : Nat} {x : EntryR} (hl : E.length = m) (h : EntsOk E m) (hx : EntryOk x) (hu : textLt (prevT E m) x.f1 = true) : EntsOk (E ++ [x]) (m + 1) := fun j hj => by
  rw [getD_last, hl]
  by_cases e : j = m
  · subst e
    rw [if_pos rfl]
    refine ⟨hx, fun h0 => ?_⟩
    rw [getD_last, hl, if_neg (by omega)]
    unfold prevT at hu
    rw [if_neg (by omega)] at hu
    exact hu
  · rw [if_neg e]
    refine ⟨(h j (by omega)).1, fun h0 => ?_⟩
    rw [getD_last, hl, if_neg (by omega)]
    exact (h j (by omega)).2 h0
theorem prevT_snoc {E : List EntryR} {m : Nat} {x : EntryR} (hl : E.length = m) : prevT (E ++ [x]) (m + 1) = x.f1 := by rw [prevT_next, getD_last, hl, if_pos rfl]

set_option maxRecDepth 100000 in
set_option maxHeartbeats 4000000 in
theorem ino12_any (c : Nat) (ad : Option Addr) (len cap : Nat) (w : World) (hlen : len ≤ 1048576) (hc : Cur w c ad len cap) (hs : Src w c ad len) :
    Calls Tryd.prog 14 #[.pointer (some ⟨c, 0, none⟩)] w (InoDrawn InoOk w c ad len cap) := by
  obtain ⟨i0, hi, hz0, hz1, hz2⟩ := info_parts infoRec
  have hlt := cur_lt hc
  have ga := grown_alloc w (.cells #[.int .i64 0, .int .i64 0, .int .i64 0, .string ⟨#[]⟩, .slice none 0 0, .slice none 0 0] 29) (some c)
  have C0 := Lib.hid (cur_grown hc (grown_alloc w (.cells #[.int .i64 0, .int .i64 0, .int .i64 0, .string ⟨#[]⟩, .slice none 0 0, .slice none 0 0] 29) none) (by simp))
  have S0 := Lib.hid (src_grown hs ga hlt)
  have R0 := Lib.hid (Bk.alloc w #[.int .i64 0, .int .i64 0, .int .i64 0, .string ⟨#[]⟩, .slice none 0 0, .slice none 0 0] 29)
  have G0 := Lib.hid ga
  have HCN : Hid (¬ c = w.heap.size) := Lib.hid (by omega)
  have HLT := Lib.hid hlt
  clear hc hs ga
  have hcw := HLT.out
  go_enter Tryd.func14, Tryd.ntmps14
  go_wp2_with fail
  refine (below_small c ad len cap 3 _ hlen (by decide) (by decide) C0.out S0.out).mono ?_
  rintro e w1 ⟨kd, k0, k1, rfl, hc1, hg1⟩
  have S1 := Lib.hid (src_grown S0.out hg1 (cur_lt C0.out))
  have C1 := Lib.hid hc1
  have G1 := Lib.hid (grownBy_trans G0.out hg1)
  have R1 := Lib.hid (bk_kept R0.out hg1 HCN.out)
  clear hc1 hg1
  go_wp2_with fail
  refine (below_small c ad len cap 9 _ hlen (by decide) (by decide) C1.out S1.out).mono ?_
  rintro e w2 ⟨gn, g0, g1, rfl, hc2, hg2⟩
  have S2 := Lib.hid (src_grown S1.out hg2 (cur_lt C1.out))
  have C2 := Lib.hid hc2
  have G2 := Lib.hid (grownBy_trans G1.out hg2)
  have R2 := Lib.hid (bk_kept R1.out hg2 HCN.out)
  have HGN : Hid (0 ≤ gn ∧ gn ≤ 65535) := Lib.hid (by omega)
  obtain ⟨bx, hbx⟩ : ∃ b, w2.heap.size = b := ⟨_, rfl⟩
  have K3 : Hid (Core w (w2.alloc (.cells #[.int .i64 kd, .int .i64 0, .int .i64 gn, .string ⟨#[]⟩, .slice none 0 0, .slice none 0 0] 29)) c ad len cap bx #[.int .i64 kd, .int .i64 0, .int .i64 gn, .string ⟨#[]⟩, .slice none 0 0, .slice none 0 0]) := Lib.hid (by
    obtain ⟨a1, a2, a3, a4, a5, a6⟩ := box_new #[.int .i64 kd, .int .i64 0, .int .i64 gn, .string ⟨#[]⟩, .slice none 0 0, .slice none 0 0] 29 C2.out S2.out G2.out
    rw [hbx] at a4
    exact ⟨a4, R2.out.later (below_bk _ _), by have := R2.out.lt; omega, HLT.out, a1, a2, a3⟩)
  have hb1 : ¬ bx = w.heap.size := by have := K3.out.low; omega
  have hb2 : ¬ w.heap.size = bx := by have := K3.out.low; omega
  have hbs1 : bx + 1 = (w2.alloc (.cells #[.int .i64 kd, .int .i64 0, .int .i64 gn, .string ⟨#[]⟩, .slice none 0 0, .slice none 0 0] 29)).heap.size := by rw [← hbx]; simp
  have HBS := Lib.hid hbs1
  have N3R : Hid ((w2.alloc (.cells #[.int .i64 kd, .int .i64 0, .int .i64 gn, .string ⟨#[]⟩, .slice none 0 0, .slice none 0 0] 29)).ownsRow (bx + 1) 49 3 (.slice none 0 0) 0 (cellsE encRec [])) := Lib.hid (World.ownsRow_nil _ _ _ _)
  have N3E : Hid ((w2.alloc (.cells #[.int .i64 kd, .int .i64 0, .int .i64 gn, .string ⟨#[]⟩, .slice none 0 0, .slice none 0 0] 29)).ownsRow (bx + 1) 55 2 (.slice none 0 0) 0 (cellsE encEntry [])) := Lib.hid (World.ownsRow_nil _ _ _ _)
  clear hc2 hg2 hbs1
  rcases (by omega : kd = 0 ∨ kd = 1 ∨ kd = 2) with rfl | rfl | rfl
  · have HOK : Hid (InoOk ⟨0, 0, gn, ⟨#[]⟩, [], []⟩) := Lib.hid ⟨HGN.out, .inl ⟨rfl, rfl, rfl, rfl, rfl⟩⟩
    have x0 := K3.out.box.cell (j := 0) rfl
    have r0 := K3.out.res.cell (j := 0) rfl
    have f0 := K3.out.res.fr (o := 0)
    have x1 := K3.out.box.cell (j := 1) rfl
    have r1 := K3.out.res.cell (j := 1) rfl
    have f1 := K3.out.res.fr (o := 1)
    have x2 := K3.out.box.cell (j := 2) rfl
    have r2 := K3.out.res.cell (j := 2) rfl
    have f2 := K3.out.res.fr (o := 2)
    have x3 := K3.out.box.cell (j := 3) rfl
    have r3 := K3.out.res.cell (j := 3) rfl
    have f3 := K3.out.res.fr (o := 3)
    have x4 := K3.out.box.cell (j := 4) rfl
    have r4 := K3.out.res.cell (j := 4) rfl
    have f4 := K3.out.res.fr (o := 4)
    have x5 := K3.out.box.cell (j := 5) rfl
    have r5 := K3.out.res.cell (j := 5) rfl
    have f5 := K3.out.res.fr (o := 5)
    have qf := ((((((K3.out.res.set 0 (.int .i64 0)).set 1 (.int .i64 0)).set 2 (.int .i64 gn)).set 3 (.string ⟨#[]⟩)).set 4 (.slice none 0 0)).set 5 (.slice none 0 0))
    have q0 := qf.cell (j := 0) (v := .int .i64 0) rfl
    have q1 := qf.cell (j := 1) (v := .int .i64 0) rfl
    have q2 := qf.cell (j := 2) (v := .int .i64 gn) rfl
    have q3 := qf.cell (j := 3) (v := .string ⟨#[]⟩) rfl
    have q4 := qf.cell (j := 4) (v := .slice none 0 0) rfl
    have q5 := qf.cell (j := 5) (v := .slice none 0 0) rfl
    have HE9 := Lib.hid (drawn_end (P := InoOk) K3.out HOK.out rfl rfl N3R.out N3E.out (.inl rfl))
    clear qf
    go_wp2
    refine bodyPost_ret (v := .agg #[.int .i64 0, .int .i64 0, .int .i64 gn, .string ⟨#[]⟩, .slice none 0 0, .slice none 0 0]) ?_ rfl HE9.out
    simp [results, Tryd.results14, go_sem, q0, q1, q2, q3, q4, q5]
  · -- a file
    go_wp2_with fail
    try rw [HBS.out]
    obtain ⟨w3, h3⟩ : ∃ x, x = (w2.alloc (.cells #[.int .i64 1, .int .i64 0, .int .i64 gn, .string ⟨#[]⟩, .slice none 0 0, .slice none 0 0] 29)) := ⟨_, rfl⟩
    rw [← h3] at K3 HBS N3R N3E ⊢
    clear h3 hbx
    refine (pickNum_new c ad len cap 8 [0, 1, 31, 32, 33, 64, 100, 128] _ _ w3 rfl hlen (by decide) (by decide) rfl K3.out.cur K3.out.src).mono ?_
    rintro e w4 ⟨z, hz, rfl, hc4, hg4⟩
    have hz0' : 0 ≤ z ∧ z ≤ 128 := by simp at hz; omega
    have HZ := Lib.hid hz0'
    have K4 := Lib.hid (K3.out.draw hc4 hg4)
    have y1 := K4.out.box.cell (j := 1) rfl
    have v1 := K4.out.box.fr (o := 1)
    have K5 := Lib.hid (K4.out.set 1 (.int .i64 z))
    clear hc4 hg4 hz hz0'
    go_wp2_with fail
    refine (text_any c ad len cap 8 _ hlen (by decide) K5.out.cur K5.out.src).mono ?_
    rintro e w6 ⟨v, ⟨key, rfl, hkey⟩, rfl, hc6, hg6⟩
    have HKEY := Lib.hid hkey
    have K6 := Lib.hid (K5.out.draw hc6 hg6)
    have y3 := K6.out.box.cell (j := 3) rfl
    have v3 := K6.out.box.fr (o := 3)
    have K7 := Lib.hid (K6.out.set 3 (.string key))
    obtain ⟨np, hnp⟩ : ∃ n : Nat, pagesZ z = n := ⟨(pagesZ z).toNat, by have := HZ.out; unfold pagesZ; split <;> omega⟩
    have hnp4 : np ≤ 4 := by have := HZ.out; unfold pagesZ at hnp; split at hnp <;> omega
    have HNP := Lib.hid hnp
    clear hc6 hg6 hkey y1 v1 hnp
    go_wp2
    go_loopw [4, 5] (fun bv iv wr => ∃ (k : Nat) (bs : Int) (aR : Option Addr) (cR : Nat) (R : List RecR), k ≤ np ∧ bv = .int .i64 bs ∧ iv = .int .i64 k ∧ 0 ≤ bs ∧ bs ≤ 12 ∧ Hid (R.length = k) ∧ Hid (∀ j, j < k → RecOk (R.getD j default) ∧ (R.getD j default).f0 = 1 + (3 * (j : Int) + bs) % 12)
      ∧ Hid (Core w wr c ad len cap bx #[.int .i64 1, .int .i64 z, .int .i64 gn, .string key, .slice aR k cR, .slice none 0 0]) ∧ Hid (wr.ownsRow (bx + 1) 49 3 (.slice aR k cR) k (cellsE encRec R))) (fun _ iv _ => np - (intOf iv).toNat)
    case atStart => exact ⟨0, 0, none, 0, [], Nat.zero_le _, rfl, rfl, by omega, by omega, Lib.hid rfl, Lib.hid (fun j hj => by omega), Lib.hid K7.out, Lib.hid (World.ownsRow_nil _ _ _ _)⟩
    case round =>
      clear y3 v3 K3 K4 K5 K6 K7 N3R
      obtain ⟨k, bs, aR, cR, R, hk, rfl, rfl, b0, b1, HLR, HA, KC, HW⟩ := hrel
      have y1 := KC.out.box.cell (j := 1) rfl
      go_wp2_with fail
      refine (specPages_any z _ (by have := HZ.out; omega) (by have := HZ.out; omega)).mono ?_
      rw [HNP.out]
      rintro e w7 ⟨rfl, rfl⟩
      by_cases hlt : k < np
      · go_wp2_with fail
        refine (rec12_any c ad len cap _ hlen KC.out.cur KC.out.src).mono ?_
        rintro e w8 ⟨p, q, m, hok, rfl, hc8, hg8⟩
        have HOK := Lib.hid hok
        have K8 := Lib.hid (KC.out.draw hc8 hg8)
        have W8 := Lib.hid (own_draw HW.out hg8 (by have := KC.out.low; omega))
        have Z8 : Hid (bx + 1 ≤ w8.heap.size) := Lib.hid K8.out.lt
        have y4 : ∀ ob, (w8.alloc ob).cell? ⟨bx, 4, none⟩ = some (.slice aR k cR) := fun ob => (K8.out.alloc ob).box.cell (j := 4) rfl
        obtain ⟨nb, hnb⟩ : ∃ nb : Int, (if k = 0 then p else bs) = nb := ⟨_, rfl⟩
        have HNB : Hid (∀ j, j < k → (R.getD j default).f0 = 1 + (3 * (j : Int) + nb) % 12) := Lib.hid (fun j hj => by rw [← hnb, if_neg (by omega)]; exact (HA.out j hj).2)
        have n0 : 0 ≤ nb := by have := hok.1; simp only at this; rw [← hnb]; split <;> omega
        have n1 : nb ≤ 12 := by have := hok.1; simp only at this; rw [← hnb]; split <;> omega
        have n2 : 0 ≤ 3 * (k : Int) + nb := by omega
        have n3 : 3 * (k : Int) + nb ≤ 100 := by omega
        have n4 : 0 ≤ (3 * (k : Int) + nb) % 12 := by omega
        have n5 : (3 * (k : Int) + nb) % 12 ≤ 11 := by omega
        obtain ⟨P, hP⟩ : ∃ P : Int, 1 + (3 * (k : Int) + nb) % 12 = P := ⟨_, rfl⟩
        have HOK2 : Hid (RecOk ⟨P, q, m⟩) := Lib.hid (by rw [← hP]; exact rec_ok12 HOK.out)
        have HPP := Lib.hid hP
        have happ := appRec1 (w8.alloc (.cells #[.int .i64 P, .int .i64 q, .string m] 49)) 26 (bx + 1) (.slice aR k cR) k R (W8.out.alloc _) (by have := Z8.out; simp; omega) ⟨P, q, m⟩ (by omega)
        rw [show (w8.alloc (.cells #[.int .i64 P, .int .i64 q, .string m] 49)).heap.size = w8.heap.size + 1 by simp] at happ
        have HAPP := Lib.hid happ
        clear happ
        have HA2 : Hid (∀ j, j < k + 1 → RecOk ((R ++ [(⟨P, q, m⟩ : RecR)]).getD j default) ∧ ((R ++ [(⟨P, q, m⟩ : RecR)]).getD j default).f0 = 1 + (3 * (j : Int) + nb) % 12) := Lib.hid (fun j hj => by
          rw [getD_last, HLR.out]
          by_cases e : j = k
          · subst e; rw [if_pos rfl]; exact ⟨HOK2.out, HPP.out.symm⟩
          · rw [if_neg e]; exact ⟨(HA.out j (by omega)).1, HNB.out j (by omega)⟩)
        have HLR2 : Hid ((R ++ [(⟨P, q, m⟩ : RecR)]).length = k + 1) := Lib.hid (by rw [List.length_append, HLR.out]; rfl)
        clear hc8 hg8 hok y1
        have hcase : (((k : Int) == 0) = true ∧ nb = p) ∨ (((k : Int) == 0) = false ∧ nb = bs) := by
          by_cases e : k = 0
          · left; exact ⟨by simp; omega, by rw [← hnb, if_pos e]⟩
          · right; exact ⟨by simp; omega, by rw [← hnb, if_neg e]⟩
        clear hnb
        rcases hcase with ⟨hke, rfl⟩ | ⟨hke, rfl⟩
        all_goals
          go_wp2_with (at_builtin; refine wpList_appE rfl (.tmp 46) (.tmp 48) 26 26 rfl (.slice aR k cR) (.slice (some ⟨w8.heap.size + 1, 0, none⟩) 1 1) rfl rfl HAPP.out ?_; intro v9 w9 hown9 hgrow9 hat9; obtain ⟨a9, c9, rfl, _, _, _⟩ := ownE_form hown9; have K9 := Lib.hid (((K8.out.alloc (.cells #[.int .i64 P, .int .i64 q, .string m] 49)).alloc (.cells #[.int .i64 P, .int .i64 q, .string m] 49)).own hgrow9 (fun g e => (W8.out.lt g e).1)); have y9 := K9.out.box.cell (j := 4) rfl; have v9 := K9.out.box.fr (o := 4))
          have K10 := Lib.hid (K9.out.set 4 (.slice a9 (k + 1) c9))
          have O10 := Lib.hid (own_set hown9 (Nat.lt_succ_self bx) (.slice a9 (k + 1) c9) (j := 4))
          clear hown9 hgrow9 hat9 HAPP y4 y9 v9
          go_roundw
          case rel => exact ⟨k + 1, _, a9, c9, _, by omega, rfl, by go_num, by omega, by omega, HLR2, HA2, K10, O10⟩
          case measure => (simp [intOf]; try omega)
      · obtain rfl : k = np := by omega
        have HOKF : Hid (InoOk ⟨1, z, gn, key, R, []⟩) := Lib.hid ⟨HGN.out, .inr (.inl ⟨rfl, HZ.out, HKEY.out, by rw [HNP.out]; show ((R.length : Nat) : Int) = _; rw [HLR.out], rfl, by show RecsOk R R.length; rw [HLR.out]; exact recs_ok12 hnp4 HA.out⟩)⟩
        have N3E9 : Hid (w7.ownsRow (bx + 1) 55 2 (.slice none 0 0) 0 (cellsE encEntry [])) := Lib.hid (World.ownsRow_nil _ _ _ _)
        clear y1
        have x0 := KC.out.box.cell (j := 0) rfl
        have r0 := KC.out.res.cell (j := 0) rfl
        have f0 := KC.out.res.fr (o := 0)
        have x1 := KC.out.box.cell (j := 1) rfl
        have r1 := KC.out.res.cell (j := 1) rfl
        have f1 := KC.out.res.fr (o := 1)
        have x2 := KC.out.box.cell (j := 2) rfl
        have r2 := KC.out.res.cell (j := 2) rfl
        have f2 := KC.out.res.fr (o := 2)
        have x3 := KC.out.box.cell (j := 3) rfl
        have r3 := KC.out.res.cell (j := 3) rfl
        have f3 := KC.out.res.fr (o := 3)
        have x4 := KC.out.box.cell (j := 4) rfl
        have r4 := KC.out.res.cell (j := 4) rfl
        have f4 := KC.out.res.fr (o := 4)
        have x5 := KC.out.box.cell (j := 5) rfl
        have r5 := KC.out.res.cell (j := 5) rfl
        have f5 := KC.out.res.fr (o := 5)
        have qf := ((((((KC.out.res.set 0 (.int .i64 1)).set 1 (.int .i64 z)).set 2 (.int .i64 gn)).set 3 (.string key)).set 4 (.slice aR k cR)).set 5 (.slice none 0 0))
        have q0 := qf.cell (j := 0) (v := .int .i64 1) rfl
        have q1 := qf.cell (j := 1) (v := .int .i64 z) rfl
        have q2 := qf.cell (j := 2) (v := .int .i64 gn) rfl
        have q3 := qf.cell (j := 3) (v := .string key) rfl
        have q4 := qf.cell (j := 4) (v := .slice aR k cR) rfl
        have q5 := qf.cell (j := 5) (v := .slice none 0 0) rfl
        have HE9 := Lib.hid (drawn_end (P := InoOk) KC.out HOKF.out HLR.out rfl HW.out N3E9.out (.inr rfl))
        clear qf
        go_wp2
        refine bodyPost_ret (v := .agg #[.int .i64 1, .int .i64 z, .int .i64 gn, .string key, .slice aR k cR, .slice none 0 0]) ?_ rfl HE9.out
        simp [results, Tryd.results14, go_sem, q0, q1, q2, q3, q4, q5]
  · -- a directory
    have HNA := Lib.hid (Bk.alloc (w2.alloc (.cells #[.int .i64 2, .int .i64 0, .int .i64 gn, .string ⟨#[]⟩, .slice none 0 0, .slice none 0 0] 29)) #[.string ⟨#[97]⟩, .string ⟨#[97, 98]⟩, .string ⟨#[98]⟩, .string ⟨#[99]⟩, .string ⟨#[100]⟩, .string ⟨#[120, 49]⟩] 9)
    have K4 := Lib.hid (K3.out.alloc (.cells #[.string ⟨#[97]⟩, .string ⟨#[97, 98]⟩, .string ⟨#[98]⟩, .string ⟨#[99]⟩, .string ⟨#[100]⟩, .string ⟨#[120, 49]⟩] 9))
    have NB : Hid (Bk ((w2.alloc (.cells #[.int .i64 2, .int .i64 0, .int .i64 gn, .string ⟨#[]⟩, .slice none 0 0, .slice none 0 0] 29)).alloc (.cells #[.string ⟨#[97]⟩, .string ⟨#[97, 98]⟩, .string ⟨#[98]⟩, .string ⟨#[99]⟩, .string ⟨#[100]⟩, .string ⟨#[120, 49]⟩] 9)) (bx + 1) #[.string ⟨#[97]⟩, .string ⟨#[97, 98]⟩, .string ⟨#[98]⟩, .string ⟨#[99]⟩, .string ⟨#[100]⟩, .string ⟨#[120, 49]⟩] 9) := Lib.hid (by rw [HBS.out]; exact HNA.out)
    go_wp2
    go_loopw [8] (fun iv wr => ∃ (k m : Nat) (aE : Option Addr) (cE : Nat) (E : List EntryR), k ≤ 6 ∧ m ≤ k ∧ iv = .int .i64 k ∧ Hid (E.length = m) ∧ Hid (EntsOk E m) ∧ Hid (∀ j, k ≤ j → j < 6 → textLt (prevT E m) (nm12.getD j default) = true)
      ∧ Hid (Core w wr c ad len cap bx #[.int .i64 2, .int .i64 0, .int .i64 gn, .string ⟨#[]⟩, .slice none 0 0, .slice aE m cE]) ∧ Hid (wr.ownsRow (bx + 2) 55 2 (.slice aE m cE) m (cellsE encEntry E)) ∧ Hid (Bk wr (bx + 1) #[.string ⟨#[97]⟩, .string ⟨#[97, 98]⟩, .string ⟨#[98]⟩, .string ⟨#[99]⟩, .string ⟨#[100]⟩, .string ⟨#[120, 49]⟩] 9)) (fun iv _ => 6 - (intOf iv).toNat)
    case atStart => exact ⟨0, 0, none, 0, [], by omega, by omega, rfl, Lib.hid rfl, Lib.hid (fun j hj => by omega), Lib.hid (fun j _ h => nm12_first j h), Lib.hid K4.out, Lib.hid (World.ownsRow_nil _ _ _ _), NB⟩
    case round =>
      clear K3 K4 NB HNA N3R N3E hbx HBS
      obtain ⟨k, m, aE, cE, E, hk, hmk, rfl, HLE, HEO, HU, KC, HW, NB⟩ := hrel
      by_cases hlt : k < 6
      · go_wp2_with fail
        refine (once12_any c ad len cap 3 _ hlen (by decide) (by decide) KC.out.cur KC.out.src).mono ?_
        rintro e w8 ⟨v, ⟨b, rfl⟩, rfl, hc8, hg8⟩
        have hcl := KC.out.cl
        have hlo := KC.out.low
        have K8 := Lib.hid (KC.out.draw hc8 hg8)
        have W8 := Lib.hid (own_draw HW.out hg8 (by omega))
        have NB8 := Lib.hid (bk_kept NB.out hg8 (by omega))
        clear hc8 hg8
        cases b
        · go_wp2
          go_roundw
          case rel => exact ⟨k + 1, m, aE, cE, E, by omega, by omega, by go_num, HLE, HEO, Lib.hid (fun j h1 h2 => HU.out j (by omega) h2), K8, W8, NB8⟩
          case measure => (simp [intOf]; try omega)
        · obtain ⟨nm, hnm⟩ : ∃ x, nm12.getD k default = x := ⟨_, rfl⟩
          have HNM := Lib.hid hnm
          have y5 := K8.out.box.cell (j := 5) rfl
          have n8 := NB8.out.cell (nm12_cell k hlt)
          rw [hnm] at n8
          clear hnm
          go_wp2
          go_region_law (first
            | (refine step_appE rfl (.tmp 63) (.tmp 72) 27 27 rfl (.slice aE m cE) (.slice (some ⟨w9.heap.size, 0, none⟩) 1 1) (by simp [Act.eval]) (by simp [Act.eval]) HAPP.out ?_
               intro v10 w10 hown10 hgrow10 hat10
               obtain ⟨a10, c10, rfl, _, _, _⟩ := ownE_form hown10
               have K10 := Lib.hid ((K9.out.alloc (.cells #[.int .i64 (1 + p), .string nm] 55)).own hgrow10 (fun g e => by have := (W9.out.lt g e).1; omega))
               have z5 := K10.out.box.cell (j := 5) rfl
               have v5 := K10.out.box.fr (o := 5)
               have W10 := Lib.hid hown10
               have NB10 := Lib.hid ((NB9.out.later (below_bk w9 (.cells #[.int .i64 (1 + p), .string nm] 55))).grown hgrow10 (fun e => by have := (W9.out.lt _ e).1; omega))
               clear hown10 hgrow10 hat10)
            | (go_simp; go_at_call 15; refine (below_small c ad len cap 5 _ hlen (by decide) (by decide) K8.out.drew.cur K8.out.drew.src).mono ?_; rintro e w9 ⟨p, p0, p1, rfl, hc9, hg9⟩
               have hwp : IntKind.i64.wrap (1 + p) = 1 + p := IntWalk.i64_in _ (by omega)
               have K9 := Lib.hid (K8.out.drew.draw hc9 hg9)
               have W9 := Lib.hid (own_draw (w := w8.drew) W8.out hg9 (by omega))
               have NB9 := Lib.hid (bk_kept (w := w8.drew) NB8.out hg9 (by omega))
               have d5 := K9.out.box.cell (j := 5) rfl
               have n9 := NB9.out.cell (nm12_cell k hlt)
               rw [HNM.out] at n9
               have d5a := (K9.out.alloc (.cells #[.int .i64 (1 + p), .string nm] 55)).box.cell (j := 5) rfl
               have HAPP := Lib.hid (appEntry1 w9 27 (bx + 2) (.slice aE m cE) m E W9.out (by have := NB9.out.lt; omega) ⟨1 + p, nm⟩ (by omega))
               clear hc9 hg9))
          all_goals
            have HEOK : Hid (EntryOk ⟨1 + p, nm⟩) := Lib.hid (by rw [← HNM.out]; exact ent_ok12 p0 p1 hlt)
            have HLE2 : Hid ((E ++ [(⟨1 + p, nm⟩ : EntryR)]).length = m + 1) := Lib.hid (by rw [List.length_append, HLE.out]; rfl)
            have HEO2 : Hid (EntsOk (E ++ [(⟨1 + p, nm⟩ : EntryR)]) (m + 1)) := Lib.hid (ents_snoc HLE.out HEO.out HEOK.out (by show textLt (prevT E m) nm = true; rw [← HNM.out]; exact HU.out k (Nat.le_refl _) hlt))
            have HU2 : Hid (∀ j, k + 1 ≤ j → j < 6 → textLt (prevT (E ++ [(⟨1 + p, nm⟩ : EntryR)]) (m + 1)) (nm12.getD j default) = true) := Lib.hid (fun j h1 h2 => by
              rw [prevT_snoc HLE.out]
              show textLt nm _ = true
              rw [← HNM.out]
              exact nm12_up k hlt j h2 (by omega))
            have K11 := Lib.hid (K10.out.set 5 (.slice a10 (m + 1) c10))
            have W11 := Lib.hid (own_set W10.out (by omega) (.slice a10 (m + 1) c10) (b := bx) (j := 5))
            have NB11 := Lib.hid (NB10.out.other (c := bx) (o := 5) (by omega) (.slice a10 (m + 1) c10))
            clear y5 n8 HAPP hwp
            go_wp2
            go_roundw
            case rel => exact ⟨k + 1, m + 1, a10, c10, _, by omega, by omega, by go_num, HLE2, HEO2, HU2, K11, W11, NB11⟩
            case measure => (simp [intOf]; try omega)
      · obtain rfl : k = 6 := by omega
        have HOKD : Hid (InoOk ⟨2, 0, gn, ⟨#[]⟩, [], E⟩) := Lib.hid ⟨HGN.out, .inr (.inr ⟨rfl, rfl, rfl, rfl, by show E.length ≤ 6; rw [HLE.out]; exact hmk, by show EntsOk E E.length; rw [HLE.out]; exact HEO.out⟩)⟩
        have N3R9 : Hid (wr.ownsRow (bx + 1) 49 3 (.slice none 0 0) 0 (cellsE encRec [])) := Lib.hid (World.ownsRow_nil _ _ _ _)
        have HW9 : Hid (wr.ownsRow (bx + 1) 55 2 (.slice aE m cE) m (cellsE encEntry E)) := Lib.hid (ownE_mono HW.out (Nat.le_succ _))
        have x0 := KC.out.box.cell (j := 0) rfl
        have r0 := KC.out.res.cell (j := 0) rfl
        have f0 := KC.out.res.fr (o := 0)
        have x1 := KC.out.box.cell (j := 1) rfl
        have r1 := KC.out.res.cell (j := 1) rfl
        have f1 := KC.out.res.fr (o := 1)
        have x2 := KC.out.box.cell (j := 2) rfl
        have r2 := KC.out.res.cell (j := 2) rfl
        have f2 := KC.out.res.fr (o := 2)
        have x3 := KC.out.box.cell (j := 3) rfl
        have r3 := KC.out.res.cell (j := 3) rfl
        have f3 := KC.out.res.fr (o := 3)
        have x4 := KC.out.box.cell (j := 4) rfl
        have r4 := KC.out.res.cell (j := 4) rfl
        have f4 := KC.out.res.fr (o := 4)
        have x5 := KC.out.box.cell (j := 5) rfl
        have r5 := KC.out.res.cell (j := 5) rfl
        have f5 := KC.out.res.fr (o := 5)
        have qf := ((((((KC.out.res.set 0 (.int .i64 2)).set 1 (.int .i64 0)).set 2 (.int .i64 gn)).set 3 (.string ⟨#[]⟩)).set 4 (.slice none 0 0)).set 5 (.slice aE m cE))
        have q0 := qf.cell (j := 0) (v := .int .i64 2) rfl
        have q1 := qf.cell (j := 1) (v := .int .i64 0) rfl
        have q2 := qf.cell (j := 2) (v := .int .i64 gn) rfl
        have q3 := qf.cell (j := 3) (v := .string ⟨#[]⟩) rfl
        have q4 := qf.cell (j := 4) (v := .slice none 0 0) rfl
        have q5 := qf.cell (j := 5) (v := .slice aE m cE) rfl
        have HE9 := Lib.hid (drawn_end (P := InoOk) KC.out HOKD.out rfl HLE.out N3R9.out HW9.out (.inl rfl))
        clear qf
        go_wp2
        refine bodyPost_ret (v := .agg #[.int .i64 2, .int .i64 0, .int .i64 gn, .string ⟨#[]⟩, .slice none 0 0, .slice aE m cE]) ?_ rfl HE9.out
        simp [results, Tryd.results14, go_sem, q0, q1, q2, q3, q4, q5]
end Draw
end Go.Proofs.YtmkchilhnmkhkabDoor
namespace Go.Proofs.YtmkchilhnmkhkabDoor
open Go.RowKit Go.Proofs.YtmkchilhnmkhkabDoor.Hexa Go.Proofs.YtmkchilhnmkhkabDoor.Byt
namespace Draw
theorem grown_set_at (w : World) (g k : Nat) (v : Value) : w.grownBy (w.setCell ⟨g, k, none⟩ v) (some g) :=
  ⟨rfl, rfl, rfl, by simp [World.setCell], fun i _ hne => Below.heap_setCell _ _ _ _ (by intro e; exact hne (by rw [e]))⟩
theorem grownBy_at {a b c : World} {r : Option Nat} {g : Nat} (h : a.grownBy b r) (k : b.grownBy c (some g)) (hg : a.heap.size ≤ g) : a.grownBy c r :=
  ⟨k.os.trans h.os, k.tape.trans h.tape, k.output.trans h.output, Nat.le_trans h.size k.size, fun i hi hne => (k.block i (Nat.lt_of_lt_of_le hi h.size) (by intro e; have := Option.some.inj e; omega)).trans (h.block i hi hne)⟩

set_option maxRecDepth 100000 in
set_option maxHeartbeats 4000000 in
theorem turned_any (c : Nat) (ad : Option Addr) (len cap : Nat) (s : ByteArray) (w : World) (hlen : len ≤ 1048576) (h1 : s.size ≤ 200) (hc : Cur w c ad len cap) (hs : Src w c ad len) :
    Calls Tryd.prog 16 #[.pointer (some ⟨c, 0, none⟩), .string s] w (DrawPost (fun v => ∃ t : ByteArray, v = .string t ∧ t.size ≤ 200) w c ad len cap) := by
  by_cases h0 : s.size = 0
  · have e0 : ((s.size : Int) == 0) = true := by simp [h0]
    have HC := Lib.hid hc
    clear hc hs
    go_enter Tryd.func16, Tryd.ntmps16
    go_wp2
    go_ret
    exact ⟨_, ⟨⟨#[120]⟩, rfl, by decide⟩, rfl, HC.out, grownBy_refl _ _⟩
  have e0 : ((s.size : Int) == 0) = false := by rw [beq_eq_false_iff_ne]; omega
  have hn0 : (0 : Int) < (s.size : Int) := by omega
  have hn1 : (s.size : Int) ≤ 256 := by omega
  have hlt2 := cur_lt hc
  have kc0 := run_bytes_of_string (P := Tryd.prog) w 9 22 5 s Tryd.underlying9 Tryd.underlying22 Tryd.underlying5
  have b0 := bytes_conv w 5 s w.heap.size (Nat.le_refl _) (by omega)
  have gn : w.grownBy (w.drew.alloc (.cells (bytesRow s (grownCap w s.size 0 5)) 5 ((bytesRow s (grownCap w s.size 0 5)).size, (bytesRow s (grownCap w s.size 0 5)).size + 1))) none := grownBy_trans (grownBy_draws (grownBy_refl w _) 1) (grown_alloc _ _ _)
  generalize w.drew.alloc (.cells (bytesRow s (grownCap w s.size 0 5)) 5 ((bytesRow s (grownCap w s.size 0 5)).size, (bytesRow s (grownCap w s.size 0 5)).size + 1)) = W0 at b0 gn kc0
  generalize grownCap w s.size 0 5 = c0 at b0 kc0
  have g0 : w.grownBy W0 (some c) := ⟨gn.os, gn.tape, gn.output, gn.size, fun i hi _ => gn.block i hi (by simp)⟩
  have hls : s.data.toList.length = s.size := by simp
  have B4 : Hid (Bytes W0.drew w.heap.size 5 (.slice (some ⟨w.heap.size, 0, none⟩) s.data.toList.length c0) s.data.toList) := Lib.hid (by rw [hls]; exact b0)
  have C4 : Hid (Cur W0.drew c ad len cap) := Lib.hid (cur_grown hc (grownBy_trans gn (grownBy_draws (grownBy_refl W0 _) 1)) (by simp))
  have S4 : Hid (Src W0.drew c ad len) := Lib.hid (src_grown hs (grownBy_trans g0 (grownBy_draws (grownBy_refl W0 _) 1)) hlt2)
  have G4 : Hid (w.grownBy W0.drew (some c)) := Lib.hid (grownBy_trans g0 (grownBy_draws (grownBy_refl W0 _) 1))
  have HLS := Lib.hid hls
  obtain ⟨bx, hbx⟩ : ∃ b, w.heap.size = b := ⟨_, rfl⟩
  rw [hbx] at B4 hlt2 kc0
  have HBX := Lib.hid hbx
  have HSZ : Hid (s.size ≤ 200) := Lib.hid h1
  clear hbx hc hs b0 gn g0 hls h0
  go_enter Tryd.func16, Tryd.ntmps16
  go_wp2
  go_region_law (go_simp; go_at_call 15; first
    | ((with_reducible refine (below_small c ad len cap (s.size : Int) _ hlen hn0 hn1 C5.out S5.out).mono ?_); rintro e w6 ⟨x, x0, x1, rfl, hc6, hg6⟩
       obtain ⟨k, rfl⟩ : ∃ k : Nat, x = k := ⟨x.toNat, by omega⟩
       have hkl : k < s.data.toList.length := by rw [HLS.out]; omega
       have hb6 := bytes_kept B5.out hg6 hlt2
       have C6 := Lib.hid hc6
       have G6 := Lib.hid (grownBy_trans G5.out hg6)
       obtain ⟨Y, hY⟩ : ∃ Y : UInt8, IntKind.u8.wrap (1 + y) = (Y.toNat : Int) := ⟨UInt8.ofNat (1 + y).toNat, by rw [← byte_of (1 + y) (by omega) (by omega), IntKind.wrap_u8]; omega⟩
       obtain ⟨X, hX⟩ : ∃ X, s.data.toList[k] = X := ⟨_, rfl⟩
       have hXY := BitsM.xor8 X Y
       obtain ⟨Z, hZ⟩ : ∃ Z, X ^^^ Y = Z := ⟨_, rfl⟩
       rw [hZ] at hXY
       obtain ⟨q6, z6, u6⟩ := bytes_at hb6 k hkl
       rw [hX] at q6
       have N7 := bytes_set hb6 k Z
       have C7 := Lib.hid (cur_grown C6.out (grown_set_at w6 bx k (.int .u8 (Z.toNat : Int))) (by simp; omega))
       have G7 := Lib.hid (grownBy_at G6.out (grown_set_at w6 bx k (.int .u8 (Z.toNat : Int))) (by have := HBX.out; omega))
       have hconv := bytes_string (P := Tryd.prog) 22 9 Tryd.underlying22 Tryd.underlying5 Tryd.underlying9 N7
       rw [HLS.out] at hconv
       clear N7 hb6 hc6 hg6 hX hZ)
    | ((with_reducible refine (below_small c ad len cap 255 _ hlen (by decide) (by decide) C5.out S5.out).mono ?_); rintro e w6 ⟨y, y0, y1, rfl, hc6, hg6⟩
       have hwp : IntKind.i64.wrap (1 + y) = 1 + y := IntWalk.i64_in _ (by omega)
       have hb6 := bytes_kept B5.out hg6 hlt2
       have C6 := Lib.hid hc6
       have G6 := Lib.hid (grownBy_trans G5.out hg6)
       obtain ⟨Y, hY⟩ : ∃ Y : UInt8, IntKind.u8.wrap (1 + y) = (Y.toNat : Int) := ⟨UInt8.ofNat (1 + y).toNat, by rw [← byte_of (1 + y) (by omega) (by omega), IntKind.wrap_u8]; omega⟩
       have hXY := BitsM.xor8 X Y
       obtain ⟨Z, hZ⟩ : ∃ Z, X ^^^ Y = Z := ⟨_, rfl⟩
       rw [hZ] at hXY
       obtain ⟨q6, z6, u6⟩ := bytes_at hb6 k hkl
       rw [HX.out] at q6
       have N7 := bytes_set hb6 k Z
       have C7 := Lib.hid (cur_grown C6.out (grown_set_at w6 bx k (.int .u8 (Z.toNat : Int))) (by simp; omega))
       have G7 := Lib.hid (grownBy_at G6.out (grown_set_at w6 bx k (.int .u8 (Z.toNat : Int))) (by have := HBX.out; omega))
       have hconv := bytes_string (P := Tryd.prog) 22 9 Tryd.underlying22 Tryd.underlying5 Tryd.underlying9 N7
       rw [HLS.out] at hconv
       clear N7 hb6 hc6 hg6 hZ)
    | ((with_reducible refine (below_small c ad len cap (s.size : Int) _ hlen hn0 hn1 C4.out S4.out).mono ?_); rintro e w5 ⟨x, x0, x1, rfl, hc5, hg5⟩
       obtain ⟨k, rfl⟩ : ∃ k : Nat, x = k := ⟨x.toNat, by omega⟩
       have hkl : k < s.data.toList.length := by rw [HLS.out]; omega
       have B5 := Lib.hid (bytes_kept B4.out hg5 hlt2)
       have C5 := Lib.hid hc5
       have S5 := Lib.hid (src_grown S4.out hg5 (cur_lt C4.out))
       have G5 := Lib.hid (grownBy_trans G4.out hg5)
       obtain ⟨q5, z5, u5⟩ := bytes_at B5.out k hkl
       obtain ⟨X, hX⟩ : ∃ X, s.data.toList[k] = X := ⟨_, rfl⟩
       rw [hX] at q5
       have HX := Lib.hid hX
       clear hX
       clear hc5 hg5)
    | ((with_reducible refine (below_small c ad len cap 255 _ hlen (by decide) (by decide) C4.out S4.out).mono ?_); rintro e w5 ⟨y, y0, y1, rfl, hc5, hg5⟩
       have hwp : IntKind.i64.wrap (1 + y) = 1 + y := IntWalk.i64_in _ (by omega)
       have B5 := Lib.hid (bytes_kept B4.out hg5 hlt2)
       have C5 := Lib.hid hc5
       have S5 := Lib.hid (src_grown S4.out hg5 (cur_lt C4.out))
       have G5 := Lib.hid (grownBy_trans G4.out hg5)
       clear hc5 hg5))
  all_goals
    have HT : (⟨(s.data.toList.set k Z).toArray⟩ : ByteArray).size ≤ 200 := by
      show ((s.data.toList.set k Z).toArray).size ≤ 200
      rw [List.size_toArray, List.length_set, HLS.out]
      exact HSZ.out
    go_wp2
    go_ret
    exact ⟨_, ⟨_, rfl, HT⟩, rfl, C7.out, G7.out⟩
end Draw
end Go.Proofs.YtmkchilhnmkhkabDoor
namespace Go.Proofs.YtmkchilhnmkhkabDoor
open Go.RowKit Go.Proofs.YtmkchilhnmkhkabDoor.Hexa Go.Proofs.YtmkchilhnmkhkabDoor.Byt Go.Proofs.YtmkchilhnmkhkabDoor.Parts
namespace Draw

/-- The texts that the law is given. -/
def WordsGiven (w : World) (e : Ending) (w' : World) : Prop :=
  ∃ (a : Option Addr) (n cap : Nat) (L : List ByteArray), L.length = n ∧ (∀ t ∈ L, t.size ≤ 200) ∧ n ≤ 9 ∧ n ≤ cap ∧ cap ≤ 9223372036854775807 ∧ e = .returned (.slice a n cap) ∧ w'.ownsRow (w.heap.size + 1) 9 1 (.slice a n cap) n (scells L) ∧ Below w.heap.size w w'
theorem words_given {w w' : World} {v : Value} {n : Nat} {L : List ByteArray} (h : w'.ownsRow (w.heap.size + 1) 9 1 v n (scells L)) (hL : L.length = n) (hs : ∀ t ∈ L, t.size ≤ 200) (hn : n ≤ 9) (hb : Below w.heap.size w w') : WordsGiven w (.returned v) w' := by
  obtain ⟨a, cap, rfl, h1, h2, _⟩ := ownE_form h
  exact ⟨a, n, cap, L, hL, hs, hn, h1, Nat.le_trans h2 (by decide), rfl, h, hb⟩
theorem grown_of_below {w w' : World} (h : Below w.heap.size w w') (r : Option Nat) : w.grownBy w' r := ⟨h.os, h.tape, h.output, h.size, fun k hk _ => h.block k hk⟩
theorem own_kept1 {w w' : World} {B c e n : Nat} {v : Value} {xs : List Value} (h : w.ownsRow B e 1 v n xs) (hg : w.grownBy w' (some c)) (hc : c < B) : w'.ownsRow B e 1 v n xs := own_draw h hg hc

set_option maxRecDepth 100000 in
set_option maxHeartbeats 4000000 in
theorem drawWords_any (ad : Option Addr) (len cap : Nat) (w : World) (hlen : len ≤ 1048576) (hs : Src w w.heap.size ad len) :
    Calls Tryd.prog 5 #[.slice ad len cap] w (WordsGiven w) := by
  obtain ⟨i0, hi, hz0, hz1, hz2⟩ := info_parts infoText
  have HS := Lib.hid hs
  clear hs
  go_enter Tryd.func5, Tryd.ntmps5
  go_wp2_with fail
  refine (new_any ad len cap w hlen HS.out).mono ?_
  rintro e w1 ⟨rfl, h, rfl⟩
  have C1 : Hid (Cur (w.alloc (.cells #[.slice ad len cap, .int .i64 0, .int .i64 h] 72)) w.heap.size ad len cap) := Lib.hid ⟨0, h, Nat.zero_le _, heap_alloc_new w _⟩
  have S1 : Hid (Src (w.alloc (.cells #[.slice ad len cap, .int .i64 0, .int .i64 h] 72)) w.heap.size ad len) := Lib.hid (src_grown' HS.out (grown_alloc _ _ none) (fun k e => by cases e) (Nat.le_refl _))
  have B1 : Hid (Below w.heap.size w (w.alloc (.cells #[.slice ad len cap, .int .i64 0, .int .i64 h] 72))) := Lib.hid ((Below.refl _ _).alloc (Nat.le_refl _) _)
  have Z1 : Hid ((w.alloc (.cells #[.slice ad len cap, .int .i64 0, .int .i64 h] 72)).heap.size = w.heap.size + 1) := Lib.hid (by simp)
  obtain ⟨w1, h1⟩ : ∃ x, x = w.alloc (.cells #[.slice ad len cap, .int .i64 0, .int .i64 h] 72) := ⟨_, rfl⟩
  rw [← h1] at C1 S1 B1 Z1 ⊢
  clear h1
  go_wp2_with fail
  refine (ino12_any w.heap.size ad len cap w1 hlen C1.out S1.out).mono ?_
  rintro e w2 ⟨kd, sz, gn, key, aR, cR, aE, cE, R, E, hok, rfl, oR, oE, _, hc2, hg2⟩
  have S2 := Lib.hid (src_grown S1.out hg2 (cur_lt C1.out))
  have C2 := Lib.hid hc2
  have B2 : Hid (Below w.heap.size w w2) := Lib.hid (B1.out.grown hg2 B1.out.size (fun k e => by simp at e; omega))
  have Z2 : Hid (w.heap.size + 1 ≤ w2.heap.size) := Lib.hid (by have := hg2.size; have := Z1.out; omega)
  have HSZ : Hid (-9223372036854775808 ≤ sz ∧ sz ≤ 9223372036854775807) := Lib.hid (by
    rcases hok.2 with ⟨_, h1, _⟩ | ⟨_, h1, _⟩ | ⟨_, h1, _⟩ <;> (simp only at h1; omega))
  have HFR : Hid (FitRec R R.length 2000000) := Lib.hid (fun j hj => by
    rcases hok.2 with ⟨_, _, _, h3, _⟩ | ⟨_, _, _, _, _, h5⟩ | ⟨_, _, _, h3, _⟩
    · simp only at h3; omega
    · have := (h5 j hj).1.2.2; simp only at this ⊢; omega
    · simp only at h3; omega)
  have HFE : Hid (FitEntry E E.length 2000000) := Lib.hid (fun j hj => by
    rcases hok.2 with ⟨_, _, _, _, h4⟩ | ⟨_, _, _, _, h4, _⟩ | ⟨_, _, _, _, _, h5⟩
    · simp only at h4; omega
    · simp only at h4; omega
    · have := (h5 j hj).1.2.1; simp only at this ⊢; omega)
  have HR := Lib.hid (srcRec_of_own oR)
  have HE := Lib.hid (srcEntry_of_own oE)
  have HLEN := Lib.hid (inoWords_length hok)
  have HW8 : Hid (∀ t ∈ inoWordsB ⟨kd, sz, gn, key, R, E⟩, t.size ≤ 200) := Lib.hid (fun t ht => by
    obtain ⟨j, hj, e⟩ := List.getElem_of_mem ht
    have h9 : t.size = 8 := inoWords_sizes ht
    omega)
  clear hok oR oE hc2 hg2
  go_wp2_with fail
  refine (specInoWords_any kd sz gn key aR R.length cR aE E.length cE _ R E HSZ.out HR.out HFR.out HE.out HFE.out).mono ?_
  obtain ⟨L, hL⟩ : ∃ L, inoWordsB ⟨kd, sz, gn, key, R, E⟩ = L := ⟨_, rfl⟩
  rw [hL] at HLEN HW8 ⊢
  clear hL
  rintro e w3 ⟨v, rfl, ho3, hb3⟩
  rw [HLEN.out] at ho3
  have C3 := Lib.hid (cur_grown C2.out (grown_of_below hb3 none) (by simp))
  have S3 := Lib.hid (src_grown S2.out (grown_of_below hb3 (some w.heap.size)) (cur_lt C2.out))
  have B3 : Hid (Below w.heap.size w w3) := Lib.hid (B2.out.trans (hb3.mono B2.out.size))
  have O3 := Lib.hid (ownE_mono ho3 Z2.out)
  clear ho3 hb3 HR HE HFR HFE HSZ
  go_wp2_with fail
  refine (below_small w.heap.size ad len cap 4 _ hlen (by decide) (by decide) C3.out S3.out).mono ?_
  rintro e w4 ⟨x, x0, x1, rfl, hc4, hg4⟩
  have S4 := Lib.hid (src_grown S3.out hg4 (cur_lt C3.out))
  have C4 := Lib.hid hc4
  have B4 : Hid (Below w.heap.size w w4) := Lib.hid (B3.out.grown hg4 B3.out.size (fun k e => by simp at e; omega))
  have O4 := Lib.hid (own_kept1 O3.out hg4 (Nat.lt_succ_self _))
  clear hc4 hg4
  by_cases h0 : x = 0
  · subst h0
    go_wp2_with fail
    refine (below_small w.heap.size ad len cap 8 _ hlen (by decide) (by decide) C4.out S4.out).mono ?_
    rintro e w5 ⟨y, y0, y1, rfl, hc5, hg5⟩
    obtain ⟨k, rfl⟩ : ∃ k : Nat, y = k := ⟨y.toNat, by omega⟩
    have hk : k < 8 := by omega
    have S5 := Lib.hid (src_grown S4.out hg5 (cur_lt C4.out))
    have C5 := Lib.hid hc5
    have B5 : Hid (Below w.heap.size w w5) := Lib.hid (B4.out.grown hg5 B4.out.size (fun k e => by simp at e; omega))
    have ho5 := own_kept1 O4.out hg5 (Nat.lt_succ_self _)
    obtain ⟨g, c5, rfl⟩ := ownsRow_succ ho5
    have O5 := Lib.hid ho5
    obtain ⟨T, hT⟩ : ∃ T, L.getD k default = T := ⟨_, rfl⟩
    have hT2 : T.size ≤ 200 := by rw [← hT]; exact HW8.out _ (by have := HLEN.out; simp [List.getD, show k < L.length by omega])
    obtain ⟨g', off', ha', _, d⟩ := srcT_at (srcT_of_own ho5) k hk
    cases ha'
    rw [hT, Nat.zero_add] at d
    clear hc5 hg5 ho5 hT
    go_wp2_with fail
    refine (turned_any w.heap.size ad len cap T _ hlen hT2 C5.out S5.out).mono ?_
    rintro e w6 ⟨v, ⟨t, rfl, ht⟩, rfl, hc6, hg6⟩
    have B6 : Hid (Below w.heap.size w w6) := Lib.hid (B5.out.grown hg6 B5.out.size (fun k e => by simp at e; omega))
    have ho6 := own_kept1 O5.out hg6 (Nat.lt_succ_self _)
    have HT := Lib.hid ht
    have hg9 : w.heap.size + 1 ≤ g := (ho6.lt g rfl).1
    obtain ⟨u, hu⟩ := ownE_cell ho6 (j := k) (by omega)
    have hfr := ho6.frozenAt k
    have HST : Hid ((w6.setCell ⟨g, k, none⟩ (.string t)).ownsRow (w.heap.size + 1) 9 1 (.slice (some ⟨g, 0, none⟩) 8 c5) 8 (scells (L.set k t))) := Lib.hid (by
      have h9 := (ho6.stored k (.string t)).1
      rw [show (scells L).set k (.string t) = scells (L.set k t) by simp [scells]] at h9
      exact h9)
    have B7 : Hid (Below w.heap.size w (w6.setCell ⟨g, k, none⟩ (.string t))) := Lib.hid (B6.out.setCell (by show w.heap.size ≤ g; omega) _)
    have HIN : Hid (∀ s ∈ L.set k t, s.size ≤ 200) := Lib.hid (fun s hs9 => by
      rcases List.mem_or_eq_of_mem_set hs9 with h | rfl
      · exact HW8.out _ h
      · exact HT.out)
    clear ho6 hc6 hg6 ht
    go_wp2
    go_ret
    exact words_given HST.out (by rw [List.length_set]; exact HLEN.out) HIN.out (by decide) B7.out
  have e0 : (x == 0) = false := by simpa using h0
  by_cases h1 : x = 1
  · subst h1
    obtain ⟨g, c5, rfl⟩ := ownsRow_succ O4.out
    obtain ⟨T, hT⟩ : ∃ T, L.getD 0 default = T := ⟨_, rfl⟩
    have HT : Hid (T.size ≤ 200) := Lib.hid (by rw [← hT]; exact HW8.out _ (by have := HLEN.out; simp [List.getD, show 0 < L.length by omega]))
    obtain ⟨g', off', ha', _, d⟩ := srcT_at (srcT_of_own O4.out) 0 (by omega)
    cases ha'
    rw [hT] at d
    have hz4 : w.heap.size + 1 ≤ w4.heap.size := by have := cur_lt C4.out; omega
    clear hT
    go_wp2_with (at_builtin; refine wpList_append_own _ rfl (.tmp 28) (.tmp 32) 24 rfl (w.heap.size + 1) 9 i0 (.string ⟨#[]⟩) 1 16 Tryd.underlying24 hi hz0 hz1 hz2 rfl (by decide) _ _ _ rfl (O4.out.alloc _) ⟨w4.heap.size, 0, none⟩ 1 1 [.string T] rfl rfl (World.news_of_block (heap_alloc_new _ _)) (by simp [Value.oneCell']) (by unfold maxLen; omega) (by omega) (by simp; omega) ?_; intro v2 w5 hown2 hgrow2 hn2)
    have B5 : Hid (Below w.heap.size w w5) := Lib.hid ((B4.out.alloc (Nat.le_trans (Nat.le_succ _) hz4) _).grown hgrow2 (by simp; omega) (fun k e => by have := (O4.out.lt k e).1; omega))
    have HO : Hid (w5.ownsRow (w.heap.size + 1) 9 1 v2 9 (scells (L ++ [T]))) := Lib.hid (by
      rw [show scells (L ++ [T]) = scells L ++ [.string T] by simp [scells]]; exact hown2)
    have HIN : Hid (∀ s ∈ L ++ [T], s.size ≤ 200) := Lib.hid (fun s hs9 => by
      rcases List.mem_append.1 hs9 with h | h
      · exact HW8.out _ h
      · simp at h; subst h; exact HT.out)
    clear hown2 hgrow2 hn2
    go_wp2
    go_ret
    exact words_given HO.out (by simp [HLEN.out]) HIN.out (by decide) B5.out
  have e1 : (x == 1) = false := by simpa using h1
  clear h0 h1
  go_wp2
  go_ret
  exact words_given O4.out HLEN.out HW8.out (by decide) B4.out
end Draw
end Go.Proofs.YtmkchilhnmkhkabDoor
namespace Go.Proofs.YtmkchilhnmkhkabDoor
open Go.RowKit Go.Proofs.YtmkchilhnmkhkabDoor.Parts Go.Proofs.YtmkchilhnmkhkabDoor.Hexa

set_option maxRecDepth 100000 in
set_option maxHeartbeats 1000000 in
theorem sameTexts12_any (a1 a2 : Option Addr) (n c1 c2 : Nat) (L : List ByteArray) (w : World) (hn : n ≤ 100000000) (s1 : SrcT w a1 n L) (s2 : SrcT w a2 n L) :
    Calls Tryd.prog 10 #[.slice a1 n c1, .slice a2 n c2] w fun e w' => e = .returned (.bool true) ∧ ∃ m, w' = w.drewN m := by
  have R1 := Lib.hid s1
  have R2 := Lib.hid s2
  clear s1 s2
  go_enter Tryd.func10, Tryd.ntmps10
  go_wp2
  go_loopw [5] (fun iv wr => ∃ k m : Nat, k ≤ n ∧ iv = .int .i64 k ∧ wr = w.drewN m) (fun iv _ => n - (intOf iv).toNat)
  case atStart => exact ⟨0, 0, Nat.zero_le _, rfl, rfl⟩
  case round =>
    obtain ⟨k, m, hk, rfl, rfl⟩ := hrel
    by_cases hlt : k < n
    · have hbel : Below w.heap.size w w := Below.refl _ _
      obtain ⟨g1, o1, rfl, _, d0⟩ := srcT_later R1.out hbel (Nat.le_refl _) k hlt
      obtain ⟨g2, o2, rfl, _, e0⟩ := srcT_later R2.out hbel (Nat.le_refl _) k hlt
      obtain ⟨x, hx⟩ : ∃ x, L.getD k default = x := ⟨_, rfl⟩
      rw [hx] at d0 e0
      clear hx hbel
      go_wp2
      go_quiet (fail)
      go_wp2
      go_roundw
      case rel => exact ⟨k + 1, _, by omega, by go_num, rfl⟩
      case measure => (simp [intOf]; try omega)
    · obtain rfl : k = n := by omega
      go_wp2
      go_ret
      exact ⟨rfl, _, rfl⟩

end Go.Proofs.YtmkchilhnmkhkabDoor
