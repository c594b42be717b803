/- Merged texts: EntryC, InoEq, RecD, EntryD, InoHeld, MarkTexts, Texts, EqTexts, ReadInoLaw, RowCells. -/
import Derived.Test.YtmkchilhnmkhkaaDoorPQJ
import Derived.Test.YtmkchilhnmkhkaaDoorRows
import Derived.WalkKit
import Derived.WalkSpells
import Derived.WalkLawsBesides
import Derived.Lib.Hide
import Derived.Deep.QuietTactic
import Derived.BigQuiet
import Derived.Deep.Strs
import Derived.ProofKit
namespace Go.Proofs.YtmkchilhnmkhkaaDoor
open Go.RowKit Go.Proofs.YtmkchilhnmkhkaaDoor.Parts Go.Proofs.YtmkchilhnmkhkaaDoor.Hexa

/-- The marks from k on. -/
def markEntry (k : Nat) : EntryR := ⟨(k : Int), markT (k + 1)⟩
def marksEntry (k n : Nat) : List EntryR := (List.range n).map fun i => markEntry (k + 2 * i)
theorem marksEntry_length (k n : Nat) : (marksEntry k n).length = n := by simp [marksEntry]
theorem marksEntry_at (k n j : Nat) (hj : j < n) : (marksEntry k n).getD j default = markEntry (k + 2 * j) := by simp [marksEntry, List.getD, hj]

def MarkPostEntry (B n cap k : Nat) (w : World) (e : Ending) (w' : World) : Prop :=
  e = .returned (.int .i64 (k + 2 * n)) ∧ Below B w w' ∧ ButE B w w' ∧ w'.ownsRow B 47 2 (.slice (some ⟨B, 0, none⟩) n cap) n (cellsE encEntry (marksEntry k n))

set_option maxRecDepth 100000 in
set_option maxHeartbeats 1000000 in
theorem markEntrys_some (B n cap k : Nat) (xs : List Value) (w : World) (h0 : 0 < k) (hk : k + 2 * n ≤ 100000000) (hown : w.ownsRow B 47 2 (.slice (some ⟨B, 0, none⟩) n cap) n xs) :
    Calls Tryd.prog 85 #[.slice (some ⟨B, 0, none⟩) n cap, .int .i64 k] w (MarkPostEntry B n cap k w) := by
  have HO := Lib.hid hown
  have hB := Lib.hid (ownE_lt hown)
  clear hown
  go_enter Tryd.func85, Tryd.ntmps85
  go_wp2
  go_loopw [1, 5] (fun kv iv wr => ∃ (j q : Nat) (ys : List Value), j ≤ n ∧ q ≤ k + 2 * n ∧ 0 < q ∧ Hid (q = k + 2 * j) ∧ iv = .int .i64 j ∧ kv = .int .i64 q ∧ Hid (∀ t, t < j * 2 → ys[t]? = (cellsE encEntry (marksEntry k n))[t]?) ∧ Hid (wr.ownsRow B 47 2 (.slice (some ⟨B, 0, none⟩) n cap) n ys) ∧ Below B w wr ∧ Hid (ButE B w wr)) (fun _ iv _ => n - (intOf iv).toNat)
  case atStart => exact ⟨0, k, xs, Nat.zero_le _, by omega, h0, Lib.hid rfl, rfl, rfl, Lib.hid (fun t ht => by omega), HO, Below.refl _ _, Lib.hid (ButE.refl _ _)⟩
  case round =>
    clear HO
    obtain ⟨j, q, ys, hj, hq, hq0, HQ, rfl, rfl, HX, HW, hbel, HK⟩ := hrel
    by_cases hlt : j < n
    · have hl : Hid (ys.length = n * 2) := Lib.hid HW.out.1
      have hq3 : q + 2 ≤ k + 2 * n := by have := HQ.out; omega
      have X1 := Lib.hid (cellsE_step encEntry (L := marksEntry k n) (by rw [marksEntry_length]; exact hlt) (by rw [marksEntry_length]; exact hl.out) HX.out)
      rw [marksEntry_at k n j hlt, ← HQ.out] at X1
      obtain ⟨v0, e0⟩ := ownE_cell HW.out (j := j * 2) (by omega)
      have z0 := HW.out.frozenAt (j * 2)
      have O0 := Lib.hid (HW.out.stored (j * 2) (.int .i64 ((q : Int)))).1
      have K0 := Lib.hid (HK.out.then_set (j * 2) (.int .i64 ((q : Int))))
      have b0 : Below B w (wr.setCell ⟨B, j * 2, none⟩ (.int .i64 ((q : Int)))) := hbel.setCell (Nat.le_refl _) _
      go_wp2_with fail
      clear e0 z0
      obtain ⟨wa1, hwa1⟩ : ∃ x, x = (wr.setCell ⟨B, j * 2, none⟩ (.int .i64 ((q : Int)))) := ⟨_, rfl⟩
      rw [← hwa1] at O0 K0 b0 ⊢
      clear hwa1
      refine (markText_n _ (q + 1) _ (by omega) (by omega) (by omega)).mono ?_
      rintro e w1x ⟨rfl, hb1⟩
      have W1 := Lib.hid (own_below O0.out hb1)
      have KW1 := Lib.hid (K0.out.then_below hb1)
      have bw1 : Below B w w1x := b0.trans (hb1.mono (by have := hB.out; have := b0.size; omega))
      clear hb1
      obtain ⟨v1, e1⟩ := ownE_cell W1.out (j := j * 2 + 1) (by omega)
      have z1 := W1.out.frozenAt (j * 2 + 1)
      have O1 := Lib.hid (W1.out.stored (j * 2 + 1) (.string (markT (q + 1)))).1
      have K1 := Lib.hid (KW1.out.then_set (j * 2 + 1) (.string (markT (q + 1))))
      have b1 : Below B w (w1x.setCell ⟨B, j * 2 + 1, none⟩ (.string (markT (q + 1)))) := bw1.setCell (Nat.le_refl _) _
      go_wp2
      clear e1 z1
      go_roundw
      case rel => exact ⟨j + 1, q + 2, _, by omega, hq3, by omega, Lib.hid (by have := HQ.out; omega), by go_num, by go_num, X1, O1, b1, K1⟩
      case measure => (simp [intOf]; try omega)
    · obtain rfl : j = n := by omega
      have hfin : ys = cellsE encEntry (marksEntry k j) := cellsE_all encEntry (by rw [marksEntry_length]; exact HW.out.1) (by rw [marksEntry_length]; exact HX.out)
      have ho := HW.out
      rw [hfin] at ho
      have HO := Lib.hid ho
      clear ho hfin HW
      go_wp2
      go_ret
      exact ⟨ret_i64m (by have := HQ.out; omega), hbel, HK.out, HO.out⟩

def MarksEntryA (M : Nat) (v : Value) (n k : Nat) (w : World) (e : Ending) (w' : World) : Prop :=
  e = .returned (.int .i64 (k + 2 * n)) ∧ Below M w w' ∧ Apart v w w' ∧ w'.ownsRow M 47 2 v n (cellsE encEntry (marksEntry k n))

set_option maxRecDepth 100000 in
set_option maxHeartbeats 1000000 in
theorem markEntrys_any (M : Nat) (v : Value) (n k : Nat) (xs : List Value) (w : World) (h0 : 0 < k) (hk : k + 2 * n ≤ 100000000) (hown : w.ownsRow M 47 2 v n xs) :
    Calls Tryd.prog 85 #[v, .int .i64 k] w (MarksEntryA M v n k w) := by
  rcases hown.2 with ⟨rfl, rfl⟩ | ⟨g, cap, cur, rfl, hB, hg, hnc, hcm, hcs, htk⟩
  · clear hown
    go_enter Tryd.func85, Tryd.ntmps85
    go_wp2
    go_loopw [1, 5] (fun kv iv wr => kv = .int .i64 k ∧ iv = .int .i64 0 ∧ wr = w) (fun _ _ _ => 0)
    case atStart => exact ⟨rfl, rfl, rfl⟩
    case round =>
      obtain ⟨rfl, rfl, rfl⟩ := hrel
      go_wp2
      go_ret
      exact ⟨ret_i64m (by omega), Below.refl _ _, Apart.of_below (Below.refl _ _), World.ownsRow_nil _ _ _ _⟩
  · have ho : w.ownsRow g 47 2 (.slice (some ⟨g, 0, none⟩) n cap) n xs := ⟨hown.1, .inr ⟨g, cap, cur, rfl, Nat.le_refl _, hg, hnc, hcm, hcs, htk⟩⟩
    refine (markEntrys_some g n cap k xs w h0 hk ho).mono ?_
    rintro e w' ⟨rfl, hb, hbut, hown'⟩
    exact ⟨rfl, hb.mono hB, ⟨hbut.size, fun g2 hg2 hn => hbut.block g2 (fun e => hn (by rw [e]; rfl)) hg2⟩, ownE_mono hown' hB⟩

end Go.Proofs.YtmkchilhnmkhkaaDoor
namespace Go.Proofs.YtmkchilhnmkhkaaDoor
open Go.RowKit Go.Proofs.YtmkchilhnmkhkaaDoor.Parts Go.Proofs.YtmkchilhnmkhkaaDoor.Hexa

set_option maxRecDepth 100000 in
set_option maxHeartbeats 1000000 in
theorem eqIno_any (kd sz gn : Int) (key : ByteArray) (a1 : Option Addr) (nR c1 : Nat) (b1 : Option Addr) (nE d1 : Nat) (a2 : Option Addr) (c2 : Nat) (b2 : Option Addr) (d2 : Nat) (R : List RecR) (E : List EntryR) (w : World)
    (hn : nR ≤ 100000000) (hn' : nE ≤ 100000000) (s1 : SrcRec w a1 nR R) (s2 : SrcRec w a2 nR R) (t1 : SrcEntry w b1 nE E) (t2 : SrcEntry w b2 nE E) :
    Calls Tryd.prog 39 #[.agg #[.int .i64 kd, .int .i64 sz, .int .i64 gn, .string key, .slice a1 nR c1, .slice b1 nE d1], .agg #[.int .i64 kd, .int .i64 sz, .int .i64 gn, .string key, .slice a2 nR c2, .slice b2 nE d2]] w fun e w' => e = .returned (.bool true) ∧ Below w.heap.size w w' := by
  have hb1 := below_bk w (inoObj kd sz gn key a1 nR c1 b1 nE d1)
  have hb2 := below_bk (w.alloc (inoObj kd sz gn key a1 nR c1 b1 nE d1)) (inoObj kd sz gn key a2 nR c2 b2 nE d2)
  have T0 := Lib.hid ((Bk.alloc w (inoCs kd sz gn key a1 nR c1 b1 nE d1) 54).later hb2)
  have U0 : Hid (Bk ((w.alloc (inoObj kd sz gn key a1 nR c1 b1 nE d1)).alloc (inoObj kd sz gn key a2 nR c2 b2 nE d2)) (w.heap.size + 1) (inoCs kd sz gn key a2 nR c2 b2 nE d2) 54) := Lib.hid (by
    have h := Bk.alloc (w.alloc (inoObj kd sz gn key a1 nR c1 b1 nE d1)) (inoCs kd sz gn key a2 nR c2 b2 nE d2) 54
    simpa using h)
  have B0 : Hid (Below w.heap.size w ((w.alloc (inoObj kd sz gn key a1 nR c1 b1 nE d1)).alloc (inoObj kd sz gn key a2 nR c2 b2 nE d2))) := Lib.hid (hb1.trans (hb2.mono hb1.size))
  have S1 := Lib.hid s1
  have S2 := Lib.hid s2
  have V1 := Lib.hid t1
  have V2 := Lib.hid t2
  clear s1 s2 t1 t2 hb1 hb2
  go_enter Tryd.func39, Tryd.ntmps39
  go_wp2_with fail
  refine (eqRecs_any a1 a2 nR c1 c2 R _ hn (S1.out.later B0.out) (S2.out.later B0.out)).mono ?_
  rintro e w1 ⟨rfl, hb1⟩
  have T1 := Lib.hid (T0.out.later hb1)
  have U1 := Lib.hid (U0.out.later hb1)
  have B1 : Hid (Below w.heap.size w w1) := Lib.hid (B0.out.trans (hb1.mono B0.out.size))
  have x5 := T1.out.cell (j := 5) rfl
  have y5 := U1.out.cell (j := 5) rfl
  clear hb1
  go_wp2_with fail
  refine (eqEntrys_any b1 b2 nE d1 d2 E _ hn' (V1.out.later B1.out) (V2.out.later B1.out)).mono ?_
  rintro e w2 ⟨rfl, hb2⟩
  have B2 : Hid (Below w.heap.size w w2) := Lib.hid (B1.out.trans (hb2.mono B1.out.size))
  clear hb2
  go_wp2
  go_ret
  exact ⟨rfl, B2.out⟩

/-- No block is written but v's and u's. -/
structure Apart2 (v u : Value) (w w' : World) : Prop where
  size : w.heap.size ≤ w'.heap.size
  block : ∀ g, g < w.heap.size → v.ownBlock ≠ some g → u.ownBlock ≠ some g → w'.heap[g]? = w.heap[g]?
theorem Apart2.own {v u : Value} {w w' : World} (h : Apart2 v u w w') {v2 : Value} {M e k n : Nat} {xs : List Value} (ho : w.ownsRow M e k v2 n xs) (hv : ∀ g, v2.ownBlock = some g → v.ownBlock ≠ some g) (hu : ∀ g, v2.ownBlock = some g → u.ownBlock ≠ some g) : w'.ownsRow M e k v2 n xs := by
  refine ⟨ho.1, ho.2.imp id fun ⟨g, cap, cur, he, hg, hh, r⟩ => ⟨g, cap, cur, he, hg, ?_, r⟩⟩
  rw [h.block g (Array.getElem?_eq_some_iff.1 hh).1 (hv g (by rw [he]; rfl)) (hu g (by rw [he]; rfl))]; exact hh
theorem Apart2.bk {v u : Value} {w w' : World} (h : Apart2 v u w w') {b : Nat} {cs : Array Value} {t : TypeId} (hk : Bk w b cs t) (hv : v.ownBlock ≠ some b) (hu : u.ownBlock ≠ some b) : Bk w' b cs t := (h.block b hk.lt hv hu).trans hk

/-- The marks written. -/
def MarksIno (M : Nat) (vR vE : Value) (nR nE k : Nat) (w : World) (e : Ending) (w' : World) : Prop :=
  e = .returned (.int .i64 ((k + 3 * nR + 2 * nE : Nat) : Int)) ∧ Below M w w' ∧ Apart2 vR vE w w' ∧ w'.ownsRow M 66 3 vR nR (cellsE encRec (marksRec k nR)) ∧ w'.ownsRow M 47 2 vE nE (cellsE encEntry (marksEntry (k + 3 * nR) nE))

set_option maxRecDepth 100000 in
set_option maxHeartbeats 1000000 in
theorem markIno_any (kd sz gn : Int) (key : ByteArray) (M : Nat) (vR vE : Value) (nR nE k : Nat) (xs ys : List Value) (w : World) (hM : M ≤ w.heap.size) (h0 : 0 < k) (hk : k + 3 * nR + 2 * nE ≤ 100000000)
    (hR : w.ownsRow M 66 3 vR nR xs) (hE : w.ownsRow M 47 2 vE nE ys) (hne : ∀ g, vR.ownBlock = some g → vE.ownBlock ≠ some g) :
    Calls Tryd.prog 40 #[.agg #[.int .i64 kd, .int .i64 sz, .int .i64 gn, .string key, vR, vE], .int .i64 k] w (MarksIno M vR vE nR nE k w) := by
  have HR := Lib.hid hR
  have HE := Lib.hid hE
  have HNE := Lib.hid hne
  have HM := Lib.hid hM
  have B0 := Lib.hid (below_bk w (.cells #[.int .i64 kd, .int .i64 sz, .int .i64 gn, .string key, vR, vE] 54))
  have T0 := Lib.hid (Bk.alloc w #[.int .i64 kd, .int .i64 sz, .int .i64 gn, .string key, vR, vE] 54)
  clear hR hE hne hM
  go_enter Tryd.func40, Tryd.ntmps40
  go_wp2_with fail
  refine (markRecs_any M vR nR k xs _ h0 (by omega) (own_below HR.out B0.out)).mono ?_
  obtain ⟨q, hq⟩ : ∃ q, k + 3 * nR = q := ⟨_, rfl⟩
  rintro e w1 ⟨he, hb1, ha1, ho1⟩
  obtain rfl : e = .returned (.int .i64 (q : Int)) := by rw [he]; congr 2; omega
  have HQ := Lib.hid hq
  have T1 : Hid (Bk w1 w.heap.size #[.int .i64 kd, .int .i64 sz, .int .i64 gn, .string key, vR, vE] 54) := Lib.hid ((ha1.block w.heap.size (by simp) (fun e => by have := (HR.out.lt _ e).2; omega)).trans T0.out)
  have HE1 := Lib.hid (ha1.own (own_below HE.out B0.out) (fun g hg e => HNE.out g e hg))
  have A1 := Lib.hid ha1
  have O1 := Lib.hid ho1
  have B1 : Hid (Below M w w1) := Lib.hid ((B0.out.mono HM.out).trans hb1)
  have x5 := T1.out.cell (j := 5) rfl
  have hq0 : 0 < q := by omega
  clear he hb1 ha1 ho1 hq
  go_wp2_with fail
  refine (markEntrys_any M vE nE q ys _ hq0 (by have := HQ.out; omega) HE1.out).mono ?_
  rintro e w2 ⟨he, hb2, ha2, ho2⟩
  obtain rfl : e = .returned (.int .i64 ((k + 3 * nR + 2 * nE : Nat) : Int)) := by rw [he]; congr 2; have := HQ.out; omega
  have O2 : Hid (w2.ownsRow M 47 2 vE nE (cellsE encEntry (marksEntry (k + 3 * nR) nE))) := Lib.hid (by rw [HQ.out]; exact ho2)
  have O12 := Lib.hid (ha2.own O1.out (fun g hg e => HNE.out g hg e))
  have A2 : Hid (Apart2 vR vE w w2) := Lib.hid ⟨Nat.le_trans (Nat.le_trans B0.out.size A1.out.size) ha2.size, fun g hg h1 h2 =>
    (ha2.block g (Nat.lt_of_lt_of_le hg (Nat.le_trans B0.out.size A1.out.size)) h2).trans ((A1.out.block g (Nat.lt_of_lt_of_le hg B0.out.size) h1).trans (B0.out.block g hg))⟩
  have B2 : Hid (Below M w w2) := Lib.hid (B1.out.trans hb2)
  clear he hb2 ha2 ho2
  go_wp2
  go_ret
  exact ⟨rfl, B2.out, A2.out, O12.out, O2.out⟩
end Go.Proofs.YtmkchilhnmkhkaaDoor
namespace Go.Proofs.YtmkchilhnmkhkaaDoor
open Go.RowKit Go.Proofs.YtmkchilhnmkhkaaDoor.Parts Go.Proofs.YtmkchilhnmkhkaaDoor.Hexa

set_option maxRecDepth 100000 in
set_option maxHeartbeats 1000000 in
/-- Marks that are read again. -/
theorem heldRecs_any (a : Option Addr) (n cap k : Nat) (w : World) (h0 : 0 < k) (hk : k + 3 * n ≤ 100000000) (hs : SrcRec w a n (marksRec k n)) :
    Calls Tryd.prog 86 #[.slice a n cap, .int .i64 k] w fun e w' => e = .returned (.int .i64 (k + 3 * n)) ∧ Below w.heap.size w w' := by
  have HS := Lib.hid hs
  clear hs
  go_enter Tryd.func86, Tryd.ntmps86
  go_wp2
  go_loopw [1, 5] (fun kv iv wr => ∃ (j q : Nat), j ≤ n ∧ q ≤ k + 3 * n ∧ 0 < q ∧ Hid (q = k + 3 * j) ∧ iv = .int .i64 j ∧ kv = .int .i64 q ∧ Below w.heap.size w wr) (fun _ iv _ => n - (intOf iv).toNat)
  case atStart => exact ⟨0, k, Nat.zero_le _, by omega, h0, Lib.hid rfl, rfl, rfl, Below.refl _ _⟩
  case round =>
    obtain ⟨j, q, hj, hq, hq0, HQ, rfl, rfl, hbel⟩ := hrel
    by_cases hlt : j < n
    · have hq3 : q + 3 ≤ k + 3 * n := by have := HQ.out; omega
      obtain ⟨g, off, rfl, hg, d0, d1, d2⟩ := srcRec_later HS.out hbel (Nat.le_refl _) j hlt
      rw [marksRec_at k n j hlt, ← HQ.out] at d0 d1 d2
      simp only [markRec] at d0 d1 d2
      go_wp2
      have hc1 : Hid (((q : Int) + 1 + 1) = ((q + 2 : Nat) : Int)) := Lib.hid (by omega)
      go_region_with (go_at_call 59; refine (markText_n ((q : Int) + 1 + 1) (q + 2) _ hc1.out (by omega) (by omega)).mono ?_; rintro e w1x ⟨rfl, hb1⟩; have n12 := (hb1.cell (p := ⟨g, off + j * 3 + 2, none⟩) (Nat.lt_of_lt_of_le hg hbel.size)).trans d2)
      all_goals
        have B1 : Below w.heap.size w w1x := hbel.drew.trans (hb1.mono hbel.size)
        clear d0 d1 d2 hb1
        go_wp2
        go_roundw
        case rel => exact ⟨j + 1, q + 3, by omega, by have := HQ.out; omega, by omega, Lib.hid (by have := HQ.out; omega), by go_num, by go_num, B1⟩
        case measure => (simp [intOf]; try omega)
    · obtain rfl : j = n := by omega
      go_wp2
      go_ret
      exact ⟨ret_i64m (by have := HQ.out; omega), hbel⟩
end Go.Proofs.YtmkchilhnmkhkaaDoor
namespace Go.Proofs.YtmkchilhnmkhkaaDoor
open Go.RowKit Go.Proofs.YtmkchilhnmkhkaaDoor.Parts Go.Proofs.YtmkchilhnmkhkaaDoor.Hexa

set_option maxRecDepth 100000 in
set_option maxHeartbeats 1000000 in
/-- Marks that are read again. -/
theorem heldEntrys_any (a : Option Addr) (n cap k : Nat) (w : World) (h0 : 0 < k) (hk : k + 2 * n ≤ 100000000) (hs : SrcEntry w a n (marksEntry k n)) :
    Calls Tryd.prog 87 #[.slice a n cap, .int .i64 k] w fun e w' => e = .returned (.int .i64 (k + 2 * n)) ∧ Below w.heap.size w w' := by
  have HS := Lib.hid hs
  clear hs
  go_enter Tryd.func87, Tryd.ntmps87
  go_wp2
  go_loopw [1, 5] (fun kv iv wr => ∃ (j q : Nat), j ≤ n ∧ q ≤ k + 2 * n ∧ 0 < q ∧ Hid (q = k + 2 * j) ∧ iv = .int .i64 j ∧ kv = .int .i64 q ∧ Below w.heap.size w wr) (fun _ iv _ => n - (intOf iv).toNat)
  case atStart => exact ⟨0, k, Nat.zero_le _, by omega, h0, Lib.hid rfl, rfl, rfl, Below.refl _ _⟩
  case round =>
    obtain ⟨j, q, hj, hq, hq0, HQ, rfl, rfl, hbel⟩ := hrel
    by_cases hlt : j < n
    · have hq3 : q + 2 ≤ k + 2 * n := by have := HQ.out; omega
      obtain ⟨g, off, rfl, hg, d0, d1⟩ := srcEntry_later HS.out hbel (Nat.le_refl _) j hlt
      rw [marksEntry_at k n j hlt, ← HQ.out] at d0 d1
      simp only [markEntry] at d0 d1
      go_wp2
      have hc1 : Hid (((q : Int) + 1) = ((q + 1 : Nat) : Int)) := Lib.hid (by omega)
      go_region_with (go_at_call 59; refine (markText_n ((q : Int) + 1) (q + 1) _ hc1.out (by omega) (by omega)).mono ?_; rintro e w1x ⟨rfl, hb1⟩; have n11 := (hb1.cell (p := ⟨g, off + j * 2 + 1, none⟩) (Nat.lt_of_lt_of_le hg hbel.size)).trans d1)
      all_goals
        have B1 : Below w.heap.size w w1x := hbel.drew.trans (hb1.mono hbel.size)
        clear d0 d1 hb1
        go_wp2
        go_roundw
        case rel => exact ⟨j + 1, q + 2, by omega, by have := HQ.out; omega, by omega, Lib.hid (by have := HQ.out; omega), by go_num, by go_num, B1⟩
        case measure => (simp [intOf]; try omega)
    · obtain rfl : j = n := by omega
      go_wp2
      go_ret
      exact ⟨ret_i64m (by have := HQ.out; omega), hbel⟩
end Go.Proofs.YtmkchilhnmkhkaaDoor
namespace Go.Proofs.YtmkchilhnmkhkaaDoor
open Go.RowKit Go.Proofs.YtmkchilhnmkhkaaDoor.Parts Go.Proofs.YtmkchilhnmkhkaaDoor.Hexa

set_option maxRecDepth 100000 in
set_option maxHeartbeats 1000000 in
theorem heldIno_any (kd sz gn : Int) (key : ByteArray) (aR : Option Addr) (nR cR : Nat) (aE : Option Addr) (nE cE k : Nat) (w : World) (h0 : 0 < k) (hk : k + 3 * nR + 2 * nE ≤ 100000000)
    (hs : SrcRec w aR nR (marksRec k nR)) (hs' : SrcEntry w aE nE (marksEntry (k + 3 * nR) nE)) :
    Calls Tryd.prog 41 #[.agg #[.int .i64 kd, .int .i64 sz, .int .i64 gn, .string key, .slice aR nR cR, .slice aE nE cE], .int .i64 k] w fun e w' => e = .returned (.int .i64 ((k + 3 * nR + 2 * nE : Nat) : Int)) ∧ Below w.heap.size w w' := by
  have HS := Lib.hid hs
  have HS' := Lib.hid hs'
  have B0 := Lib.hid (below_bk w (inoObj kd sz gn key aR nR cR aE nE cE))
  have T0 := Lib.hid (Bk.alloc w (inoCs kd sz gn key aR nR cR aE nE cE) 54)
  clear hs hs'
  go_enter Tryd.func41, Tryd.ntmps41
  go_wp2_with fail
  refine (heldRecs_any aR nR cR k _ h0 (by omega) (HS.out.later B0.out)).mono ?_
  obtain ⟨q, hq⟩ : ∃ q, k + 3 * nR = q := ⟨_, rfl⟩
  rintro e w1 ⟨he, hb1⟩
  obtain rfl : e = .returned (.int .i64 (q : Int)) := by rw [he]; congr 2; omega
  have HQ := Lib.hid hq
  have T1 := Lib.hid (T0.out.later hb1)
  have B1 : Hid (Below w.heap.size w w1) := Lib.hid (B0.out.trans (hb1.mono B0.out.size))
  have x5 := T1.out.cell (j := 5) rfl
  have hq0 : 0 < q := by omega
  have hqn : ¬ ((q : Int) < 0) := by omega
  clear he hb1 hq
  go_wp2_with fail
  refine (heldEntrys_any aE nE cE q _ hq0 (by have := HQ.out; omega) (by rw [← HQ.out]; exact HS'.out.later B1.out)).mono ?_
  obtain ⟨p, hp⟩ : ∃ p, k + 3 * nR + 2 * nE = p := ⟨_, rfl⟩
  rintro e w2 ⟨he, hb2⟩
  obtain rfl : e = .returned (.int .i64 (p : Int)) := by rw [he]; congr 2; have := HQ.out; omega
  have B2 : Hid (Below w.heap.size w w2) := Lib.hid (B1.out.trans (hb2.mono B1.out.size))
  have hpn : ¬ ((p : Int) < 0) := by omega
  have HP := Lib.hid hp
  clear he hb2 hp
  go_wp2
  go_ret
  exact ⟨by rw [HP.out]; rfl, B2.out⟩
end Go.Proofs.YtmkchilhnmkhkaaDoor
namespace Go.Proofs.YtmkchilhnmkhkaaDoor
open Go.RowKit Go.Proofs.YtmkchilhnmkhkaaDoor.Parts Go.Proofs.YtmkchilhnmkhkaaDoor.Hexa

def MarkTextsPost (B n k : Nat) (w : World) (e : Ending) (w' : World) : Prop := e = .returned (.int .i64 ((k + n : Nat) : Int)) ∧ Below B w w' ∧ ButE B w w'
set_option maxRecDepth 100000 in
set_option maxHeartbeats 1000000 in
theorem markTexts_some (B n cap k : Nat) (xs : List Value) (w : World) (h0 : 0 < k) (hk : k + n ≤ 100000000) (hown : w.ownsRow B 9 1 (.slice (some ⟨B, 0, none⟩) n cap) n xs) :
    Calls Tryd.prog 22 #[.slice (some ⟨B, 0, none⟩) n cap, .int .i64 k] w (MarkTextsPost B n k w) := by
  have HO := Lib.hid hown
  have hB := Lib.hid (ownE_lt hown)
  clear hown
  go_enter Tryd.func22, Tryd.ntmps22
  go_wp2
  go_loopw [1, 5] (fun kv iv wr => ∃ (j q : Nat) (ys : List Value), j ≤ n ∧ q ≤ k + n ∧ 0 < q ∧ Hid (q = k + j) ∧ iv = .int .i64 j ∧ kv = .int .i64 q ∧ Hid (wr.ownsRow B 9 1 (.slice (some ⟨B, 0, none⟩) n cap) n ys) ∧ Below B w wr ∧ Hid (ButE B w wr)) (fun _ iv _ => n - (intOf iv).toNat)
  case atStart => exact ⟨0, k, xs, Nat.zero_le _, by omega, h0, Lib.hid rfl, rfl, rfl, HO, Below.refl _ _, Lib.hid (ButE.refl _ _)⟩
  case round =>
    clear HO
    obtain ⟨j, q, ys, hj, hq, hq0, HQ, rfl, rfl, HW, hbel, HK⟩ := hrel
    by_cases hlt : j < n
    · have hq3 : q + 1 ≤ k + n := by have := HQ.out; omega
      go_wp2_with fail
      refine (markText_n _ q _ (by omega) (by omega) (by omega)).mono ?_
      rintro e w1x ⟨rfl, hb1⟩
      have W1 := Lib.hid (own_below HW.out hb1)
      have KW1 := Lib.hid (HK.out.then_below hb1)
      have bw1 : Below B w w1x := hbel.trans (hb1.mono (by have := hB.out; have := hbel.size; omega))
      clear hb1
      obtain ⟨v2, e2⟩ := ownE_cell W1.out (j := j) (by omega)
      have z2 := W1.out.frozenAt j
      have O2 := Lib.hid (W1.out.stored j (.string (markT q))).1
      have K2 := Lib.hid (KW1.out.then_set j (.string (markT q)))
      have b2 : Below B w (w1x.setCell ⟨B, j, none⟩ (.string (markT q))) := bw1.setCell (Nat.le_refl _) _
      go_wp2
      clear e2 z2
      go_roundw
      case rel => exact ⟨j + 1, q + 1, _, by omega, hq3, by omega, Lib.hid (by have := HQ.out; omega), by go_num, by go_num, O2, b2, K2⟩
      case measure => (simp [intOf]; try omega)
    · obtain rfl : j = n := by omega
      go_wp2
      go_ret
      exact ⟨ret_i64m (by have := HQ.out; omega), hbel, HK.out⟩
end Go.Proofs.YtmkchilhnmkhkaaDoor
namespace Go.Proofs.YtmkchilhnmkhkaaDoor
open Go.RowKit Go.Proofs.YtmkchilhnmkhkaaDoor.Parts Go.Proofs.YtmkchilhnmkhkaaDoor.Hexa

/-- No text longer than b. -/
def FitT2 (L : List ByteArray) (n b : Nat) : Prop := ∀ j, j < n → (L.getD j default).size ≤ b
theorem infoT : (Tryd.prog.info? 9).map (fun i => (i.zero, i.size, i.bytes)) = some (some (.string ByteArray.empty), 1, 16) := by kernel_rfl

set_option maxRecDepth 100000 in
set_option maxHeartbeats 1000000 in
theorem szTexts_any (a : Option Addr) (n c : Nat) (L : List ByteArray) (l0 : Int) (w : World) (hl0 : 0 ≤ l0) (hl1 : l0 ≤ 1048576) (hs : SrcT w a n L) (hn : n ≤ 9223372036854775807) (hm : FitT2 L n maxLen) :
    Calls Tryd.prog 35 #[.slice a n c, .int .i64 l0] w fun e w' => ∃ r, e = .returned (.int .i64 r) ∧ (r < 0 ∨ (0 ≤ r ∧ r ≤ l0 ∧ n ≤ 1048576 ∧ FitT2 L n 1048576)) ∧ w' = w := by
  have HS := Lib.hid hs
  have HM := Lib.hid hm
  clear hs hm
  by_cases hlt0 : l0 - (n : Int) < 0
  · go_enter Tryd.func35, Tryd.ntmps35
    go_wp2
    go_ret
    exact ⟨-1, rfl, .inl (by omega), rfl⟩
  · go_enter Tryd.func35, Tryd.ntmps35
    go_wp2
    go_loopw [1, 5] (fun lv iv wr => ∃ (k : Nat) (l : Int), k ≤ n ∧ iv = .int .i64 k ∧ lv = .int .i64 l ∧ 0 ≤ l ∧ l ≤ l0 ∧ Hid (∀ j, j < k → (L.getD j default).size ≤ 1048576) ∧ wr = w) (fun _ iv _ => n - (intOf iv).toNat)
    case atStart => exact ⟨0, _, Nat.zero_le _, rfl, rfl, by omega, by omega, Lib.hid (fun j hj => by omega), rfl⟩
    case round =>
      obtain ⟨k, l, hk, rfl, rfl, h0, hl, HA, rfl⟩ := hrel
      by_cases hlt : k < n
      · obtain ⟨g, off, rfl, hg, d0⟩ := srcT_at HS.out k hlt
        obtain ⟨x, hx⟩ : ∃ x, L.getD k default = x := ⟨_, rfl⟩
        rw [hx] at d0
        have hm0 := HM.out k hlt
        rw [hx] at hm0
        unfold maxLen at hm0
        have HX := Lib.hid hx
        clear hx
        by_cases hlt2 : l - (x.size : Int) < 0
        · go_wp2
          go_ret
          exact ⟨-1, rfl, .inl (by omega), rfl⟩
        · have HA2 : Hid (∀ j, j < k + 1 → (L.getD j default).size ≤ 1048576) := Lib.hid (fun j hj => by
            by_cases e : j = k
            · subst e; rw [HX.out]; omega
            · exact HA.out j (by omega))
          go_wp2
          go_roundw
          case rel => exact ⟨k + 1, l - (x.size : Int), by omega, by go_num, rfl, by omega, by omega, HA2, by first | rfl | trivial⟩
          case measure => (simp [intOf]; try omega)
      · obtain rfl : k = n := by omega
        go_wp2
        go_ret
        refine ⟨l, rfl, .inr ⟨h0, hl, by omega, fun j hj => HA.out j hj⟩, rfl⟩

/-- What the copy returns. -/
def CopyT (n : Nat) (L : List ByteArray) (w : World) (e : Ending) (w' : World) : Prop :=
  e = .returned (.slice (some ⟨w.heap.size, 0, none⟩) n n) ∧ w'.ownsRow w.heap.size 9 1 (.slice (some ⟨w.heap.size, 0, none⟩) n n) n (scells L) ∧ Below w.heap.size w w'

set_option maxRecDepth 100000 in
set_option maxHeartbeats 1000000 in
theorem toTexts_any (a : Option Addr) (n c : Nat) (L : List ByteArray) (w : World) (hs : SrcT w a n L) (hn : n ≤ 1048576) :
    Calls Tryd.prog 37 #[.slice a n c] w (CopyT n L w) := by
  obtain ⟨i0, hi, hz0, hz1, hz2⟩ := info_parts infoT
  have HS := Lib.hid hs
  have hL := hs.len
  clear hs
  go_enter Tryd.func37, Tryd.ntmps37
  go_wp2_with (at_make; refine wpList_make_full _ rfl _ _ 25 rfl w.heap.size 9 i0 _ 1 Tryd.underlying25 hi hz0 hz1 .i64 .i64 _ _ n rfl rfl rfl rfl (by rw [hz2]; omega) (by unfold maxLen; omega) (Nat.le_refl _) ?_; intro w0 hown0 hgrow0)
  have hg0 : Below w.heap.size w w0 := (Below.refl _ _).grown hgrow0 (Nat.le_refl _) (fun k h => by cases h)
  have HO0 := Lib.hid hown0
  clear hown0 hgrow0
  go_loopw [4] (fun iv wr => ∃ (k : Nat) (xs : List Value), k ≤ n ∧ iv = .int .i64 k ∧ Hid (wr.ownsRow w.heap.size 9 1 (.slice (some ⟨w.heap.size, 0, none⟩) n n) n xs) ∧ Hid (∀ j, j < k * 1 → xs[j]? = (cellsE encT L)[j]?) ∧ Below w.heap.size w wr)
    (fun iv _ => n - (intOf iv).toNat)
  case atStart => exact ⟨0, _, Nat.zero_le _, rfl, HO0, Lib.hid (fun j hj => by omega), hg0⟩
  case round =>
    clear HO0 hg0
    obtain ⟨k, xs, hk, rfl, HW, HX, hbel⟩ := hrel
    have hxl : Hid (xs.length = n * 1) := Lib.hid HW.out.1
    by_cases hlt : k < n
    · obtain ⟨g, off, rfl, hg, d0⟩ := srcT_later HS.out hbel (Nat.le_refl _) k hlt
      have X1 := Lib.hid (cellsE_step encT (by omega) (by rw [hL]; exact hxl.out) HX.out)
      obtain ⟨x, hx⟩ : ∃ x, L.getD k default = x := ⟨_, rfl⟩
      rw [hx] at d0 X1
      clear hx
      obtain ⟨v0, e0⟩ := ownE_cell HW.out (j := k) (by omega)
      have z0 := HW.out.frozenAt k
      have O1 := Lib.hid (own_sets (encT.cells x) (k * 1) HW.out)
      have hb2 : Hid (Below w.heap.size w (wr.setCells w.heap.size (k * 1) (encT.cells x))) := Lib.hid (below_sets (Nat.le_refl _) _ _ hbel)
      have E9 : Hid (wr.setCells w.heap.size (k * 1) (encT.cells x) = wr.setCell ⟨w.heap.size, k, none⟩ (.string x)) := Lib.hid (by rw [Nat.mul_one]; rfl)
      rw [E9.out] at O1 hb2
      go_wp2
      clear d0 e0 z0
      go_roundw
      case rel => exact ⟨k + 1, _, by omega, by go_num, O1, X1, hb2.out⟩
      case measure => (simp [intOf]; try omega)
    · obtain rfl : k = n := by omega
      have hfin : xs = cellsE encT L := cellsE_all encT (by rw [hL]; exact hxl.out) (by rw [hL]; exact HX.out)
      have ho := HW.out
      rw [hfin, cellsT_eq] at ho
      have HO := Lib.hid ho
      clear ho hfin
      go_wp2
      go_ret
      exact ⟨rfl, HO.out, hbel⟩
end Go.Proofs.YtmkchilhnmkhkaaDoor
namespace Go.Proofs.YtmkchilhnmkhkaaDoor
open Go.RowKit Go.Proofs.YtmkchilhnmkhkaaDoor.Parts Go.Proofs.YtmkchilhnmkhkaaDoor.Hexa

theorem cell_text {w : World} {a : Addr} {P : List ByteArray} {k : Nat} (hk : k < P.length) (h : w.cell? a = (scells P)[k]?) : w.cell? a = some (.string P[k]) := by
  rw [h]; simp [scells, hk]

set_option maxRecDepth 100000 in
set_option maxHeartbeats 1000000 in
theorem eqStrings_any (a1 a2 : Option Addr) (n c1 c2 : Nat) (P : List ByteArray) (w : World) (hP : P.length = n) (hn : n ≤ 100000000) (r1 : Reads w a1 (scells P)) (r2 : Reads w a2 (scells P)) :
    Calls Tryd.prog 21 #[.slice a1 n c1, .slice a2 n c2] w fun e w' => e = .returned (.bool true) ∧ ∃ m, w' = w.drewN m := by
  have HP := Lib.hid hP
  clear hP
  have R1 := Lib.hid r1
  have R2 := Lib.hid r2
  clear r1 r2
  go_enter Tryd.func21, Tryd.ntmps21
  go_wp2
  go_loopw [5] (fun iv wr => ∃ k m : Nat, k ≤ n ∧ iv = .int .i64 k ∧ wr = w.drewN m) (fun iv _ => n - (intOf iv).toNat)
  case atStart => exact ⟨0, 0, Nat.zero_le _, rfl, rfl⟩
  case round =>
    obtain ⟨k, m, hk, rfl, rfl⟩ := hrel
    by_cases hlt : k < n
    · obtain ⟨g1, rfl, e1⟩ := R1.out k (by have := HP.out; simp [scells]; omega)
      obtain ⟨g2, rfl, e2⟩ := R2.out k (by have := HP.out; simp [scells]; omega)
      have d1 := cell_text (by have := HP.out; omega) e1
      have d2 := cell_text (by have := HP.out; omega) e2
      obtain ⟨x, hx⟩ : ∃ x, P[k]'(by have := HP.out; omega) = x := ⟨_, rfl⟩
      rw [hx] at d1 d2
      clear e1 e2 hx
      go_wp2
      go_quiet (fail)
      go_wp2
      go_roundw
      case rel => exact ⟨k + 1, _, by omega, by go_num, rfl⟩
      case measure => (simp [intOf]; try omega)
    · obtain rfl : k = n := by omega
      go_wp2
      go_ret
      exact ⟨rfl, _, rfl⟩

end Go.Proofs.YtmkchilhnmkhkaaDoor
namespace Go.Proofs.YtmkchilhnmkhkaaDoor
open Go.RowKit Go.Proofs.YtmkchilhnmkhkaaDoor.Parts Go.Proofs.YtmkchilhnmkhkaaDoor.Hexa Go.Proofs.YtmkchilhnmkhkaaDoor.Byt

theorem ino_small {n : InoR} (h : InoOk n) : n.R.length ≤ 6 ∧ n.E.length ≤ 6 := by
  have h1 := wordsI_le h
  unfold wordsI at h1
  simp only [List.length_append, List.length_cons, List.length_nil, List.length_map] at h1
  omega
theorem readIno_small (L : List ByteArray) : (readInoR L).R.length ≤ 6 ∧ (readInoR L).E.length ≤ 6 := by
  by_cases h : ReadOk L
  · rw [readInoR_yes h]; exact ino_small (readOk_ok h)
  · rw [readInoR_no h]; exact ⟨Nat.zero_le _, Nat.zero_le _⟩

set_option maxRecDepth 100000 in
set_option maxHeartbeats 4000000 in
theorem readInode_law (a : Option Addr) (n c : Nat) (L : List ByteArray) (w : World) (hs : SrcT w a n L) (hm : FitT2 L n maxLen) (hn : n ≤ 9223372036854775807) :
    Calls Tryd.prog 10 #[.slice a n c] w fun e w' => e = .returned (.bool true) ∧ Below w.heap.size w w' := by
  have HS := Lib.hid hs
  have HL := Lib.hid hs.len
  have HM := Lib.hid hm
  have hsm := readIno_small L
  obtain ⟨⟨kd, sz, gn, key, R, E⟩, hr⟩ : ∃ r, readInoR L = r := ⟨_, rfl⟩
  obtain ⟨b, hb⟩ : ∃ b, readInoB L = b := ⟨_, rfl⟩
  rw [hr] at hsm
  obtain ⟨nR, hnR⟩ : ∃ k, R.length = k := ⟨_, rfl⟩
  obtain ⟨nE, hnE⟩ : ∃ k, E.length = k := ⟨_, rfl⟩
  have hR6 : nR ≤ 6 := by rw [← hnR]; exact hsm.1
  have hE6 : nE ≤ 6 := by rw [← hnE]; exact hsm.2
  have HRD : Hid (∀ (w0 : World) (e : Ending) (w1 : World), GivesIno (readInoR L) (readInoB L) w0 e w1 → ∃ aR cR aE cE, e = .returned (.tuple #[.agg #[.int .i64 kd, .int .i64 sz, .int .i64 gn, .string key, .slice aR nR cR, .slice aE nE cE], .bool b])
      ∧ w1.ownsRow w0.heap.size 66 3 (.slice aR nR cR) nR (cellsE encRec R) ∧ w1.ownsRow w0.heap.size 47 2 (.slice aE nE cE) nE (cellsE encEntry E) ∧ (aR = none ∨ aE = none) ∧ Below w0.heap.size w0 w1) := Lib.hid (fun w0 e w1 h => by
    rw [hr, hb] at h
    subst hnR hnE
    exact h)
  clear hs hm hsm hr hb hnR hnE
  go_enter Tryd.func10, Tryd.ntmps10
  go_wp2_with fail
  refine (szTexts_any a n c L _ _ (by decide) (by decide) HS.out hn HM.out).mono ?_
  rintro e w1x ⟨r, rfl, hr | ⟨h0, _, hn2, hf2⟩, rfl⟩
  · go_wp2
    go_ret
    exact ⟨rfl, Below.refl _ _⟩
  have HF : Hid (∀ j, j < n → (L.getD j default).size ≤ 1048576) := Lib.hid hf2
  have hr : ¬ (r < 0) := by omega
  clear h0 hf2 hn
  have BW : Hid (Below w1x.heap.size w1x w1x) := Lib.hid (Below.refl _ _)
  obtain ⟨w, hww⟩ : ∃ x, x = w1x := ⟨_, rfl⟩
  rw [← hww] at HS BW ⊢
  have HWW := Lib.hid hww
  clear hww
  go_wp2_with fail
  refine (toTexts_any a n c L _ HS.out hn2).mono ?_
  rintro e w1 ⟨rfl, ho1, hb1⟩
  have B1 : Hid (Below w.heap.size w w1) := Lib.hid hb1
  have X1 := Lib.hid ho1
  clear ho1 hb1
  go_wp2_with fail
  refine (specReadIno_any _ n n L _ (srcT_of_own X1.out) (fun j hj => Nat.le_trans (HF.out j hj) (by decide))).mono ?_
  intro e w2 hg
  obtain ⟨aR0, cR0, aE0, cE0, rfl, hoR, hoE, _, hb2⟩ := HRD.out _ _ _ hg
  clear hg
  have hba := below_bk w2 (.cells #[.int .i64 kd, .int .i64 sz, .int .i64 gn, .string key, .slice aR0 nR cR0, .slice aE0 nE cE0] 54)
  have Z3 := Lib.hid (Bk.alloc w2 #[.int .i64 kd, .int .i64 sz, .int .i64 gn, .string key, .slice aR0 nR cR0, .slice aE0 nE cE0] 54)
  have RA3 := Lib.hid (own_below hoR hba)
  have EA3 := Lib.hid (own_below hoE hba)
  have B3 : Hid (Below w.heap.size w (w2.alloc (.cells #[.int .i64 kd, .int .i64 sz, .int .i64 gn, .string key, .slice aR0 nR cR0, .slice aE0 nE cE0] 54))) := Lib.hid (B1.out.trans ((hb2.trans (hba.mono hb2.size)).mono B1.out.size))
  obtain ⟨zb, hzb⟩ : ∃ x, w2.heap.size = x := ⟨_, rfl⟩
  obtain ⟨w3, h3⟩ : ∃ x, x = w2.alloc (.cells #[.int .i64 kd, .int .i64 sz, .int .i64 gn, .string key, .slice aR0 nR cR0, .slice aE0 nE cE0] 54) := ⟨_, rfl⟩
  have LA : Hid (∀ g, ((Value.slice aR0 nR cR0).ownBlock = some g ∨ (Value.slice aE0 nE cE0).ownBlock = some g) → g < w3.heap.size) := Lib.hid (fun g hg => by
    rw [h3]
    have : g < w2.heap.size := by rcases hg with hg | hg; exact (hoR.lt g hg).2; exact (hoE.lt g hg).2
    simp; omega)
  have LZ : Hid (zb < w3.heap.size) := Lib.hid (by rw [h3, ← hzb]; simp)
  rw [← h3] at Z3 RA3 EA3 B3
  rw [hzb] at Z3
  clear hoR hoE hb2 hba X1
  go_wp2_with fail
  rw [← h3]
  clear h3 hzb
  refine (toTexts_any a n c L _ (HS.out.later B3.out) hn2).mono ?_
  rintro e w4 ⟨rfl, ho4, hb4⟩
  have LX : Hid (w3.heap.size < w4.heap.size) := Lib.hid (ownE_lt ho4)
  have X4 := Lib.hid ho4
  have B4 : Hid (Below w.heap.size w w4) := Lib.hid (B3.out.trans (hb4.mono B3.out.size))
  have Z4 := Lib.hid (Z3.out.later hb4)
  have RA4 := Lib.hid (own_below RA3.out hb4)
  have EA4 := Lib.hid (own_below EA3.out hb4)
  clear ho4 hb4 Z3 RA3 EA3
  go_wp2_with fail
  refine (implReadIno_any _ n n L _ (Nat.le_refl _) (by omega) (srcT_of_own X4.out) HF.out).mono ?_
  intro e w5 hg
  obtain ⟨aR1, cR1, aE1, cE1, rfl, hoR, hoE, hxx, hb5⟩ := HRD.out _ _ _ hg
  clear hg
  have hba := below_bk w5 (.cells #[.int .i64 kd, .int .i64 sz, .int .i64 gn, .string key, .slice aR1 nR cR1, .slice aE1 nE cE1] 54)
  have hb6 := hb5.trans (hba.mono hb5.size)
  have G6 := Lib.hid (Bk.alloc w5 #[.int .i64 kd, .int .i64 sz, .int .i64 gn, .string key, .slice aR1 nR cR1, .slice aE1 nE cE1] 54)
  have RB6 := Lib.hid (own_below hoR hba)
  have EB6 := Lib.hid (own_below hoE hba)
  have Z6 := Lib.hid ((Z4.out.later hb5).later hba)
  have X6 := Lib.hid (own_below (own_below X4.out hb5) hba)
  have RA6 := Lib.hid (own_below (own_below RA4.out hb5) hba)
  have EA6 := Lib.hid (own_below (own_below EA4.out hb5) hba)
  have B6 : Hid (Below w.heap.size w (w5.alloc (.cells #[.int .i64 kd, .int .i64 sz, .int .i64 gn, .string key, .slice aR1 nR cR1, .slice aE1 nE cE1] 54))) := Lib.hid (B4.out.trans (hb6.mono B4.out.size))
  obtain ⟨gb, hgb⟩ : ∃ x, w5.heap.size = x := ⟨_, rfl⟩
  obtain ⟨w6, h6⟩ : ∃ x, x = w5.alloc (.cells #[.int .i64 kd, .int .i64 sz, .int .i64 gn, .string key, .slice aR1 nR cR1, .slice aE1 nE cE1] 54) := ⟨_, rfl⟩
  have LB : Hid (∀ g, ((Value.slice aR1 nR cR1).ownBlock = some g ∨ (Value.slice aE1 nE cE1).ownBlock = some g) → w4.heap.size ≤ g ∧ g < gb) := Lib.hid (fun g hg => by
    rw [← hgb]
    rcases hg with hg | hg
    · exact hoR.lt g hg
    · exact hoE.lt g hg)
  have LG : Hid (w4.heap.size ≤ gb ∧ gb < w6.heap.size) := Lib.hid ⟨by rw [← hgb]; exact hb5.size, by rw [h6, ← hgb]; simp⟩
  have HXX := Lib.hid hxx
  rw [← h6] at G6 RB6 EB6 Z6 X6 RA6 EA6 B6
  rw [hgb] at G6
  clear hoR hoE hxx hb5 hb6 hba Z4 X4 RA4 EA4
  have z0 : (w5.alloc (.cells #[.int .i64 kd, .int .i64 sz, .int .i64 gn, .string key, .slice aR1 nR cR1, .slice aE1 nE cE1] 54)).cell? ⟨zb, 0, none⟩ = some (.int .i64 kd) := by rw [← h6]; exact Z6.out.cell rfl
  have z1 : (w5.alloc (.cells #[.int .i64 kd, .int .i64 sz, .int .i64 gn, .string key, .slice aR1 nR cR1, .slice aE1 nE cE1] 54)).cell? ⟨zb, 1, none⟩ = some (.int .i64 sz) := by rw [← h6]; exact Z6.out.cell rfl
  have z2 : (w5.alloc (.cells #[.int .i64 kd, .int .i64 sz, .int .i64 gn, .string key, .slice aR1 nR cR1, .slice aE1 nE cE1] 54)).cell? ⟨zb, 2, none⟩ = some (.int .i64 gn) := by rw [← h6]; exact Z6.out.cell rfl
  have z3 : (w5.alloc (.cells #[.int .i64 kd, .int .i64 sz, .int .i64 gn, .string key, .slice aR1 nR cR1, .slice aE1 nE cE1] 54)).cell? ⟨zb, 3, none⟩ = some (.string key) := by rw [← h6]; exact Z6.out.cell rfl
  have z4 : (w5.alloc (.cells #[.int .i64 kd, .int .i64 sz, .int .i64 gn, .string key, .slice aR1 nR cR1, .slice aE1 nE cE1] 54)).cell? ⟨zb, 4, none⟩ = some (.slice aR0 nR cR0) := by rw [← h6]; exact Z6.out.cell rfl
  have z5 : (w5.alloc (.cells #[.int .i64 kd, .int .i64 sz, .int .i64 gn, .string key, .slice aR1 nR cR1, .slice aE1 nE cE1] 54)).cell? ⟨zb, 5, none⟩ = some (.slice aE0 nE cE0) := by rw [← h6]; exact Z6.out.cell rfl
  go_wp2_with fail
  rw [← h6]
  clear h6 hgb z0 z1 z2 z3 z4 z5
  refine (eqIno_any kd sz gn key _ nR _ _ nE _ _ _ _ _ R E _ (by omega) (by omega) (srcRec_of_own RB6.out) (srcRec_of_own RA6.out) (srcEntry_of_own EB6.out) (srcEntry_of_own EA6.out)).mono ?_
  rintro e w7 ⟨rfl, hb7⟩
  have B7 : Hid (Below w.heap.size w w7) := Lib.hid (B6.out.trans (hb7.mono B6.out.size))
  have Z7 := Lib.hid (Z6.out.later hb7)
  have G7 := Lib.hid (G6.out.later hb7)
  have RA7 := Lib.hid (own_below RA6.out hb7)
  have EA7 := Lib.hid (own_below EA6.out hb7)
  have RB7 := Lib.hid (own_below RB6.out hb7)
  have EB7 := Lib.hid (own_below EB6.out hb7)
  have X7 := Lib.hid (own_below X6.out hb7)
  have L7 : Hid (w6.heap.size ≤ w7.heap.size) := Lib.hid hb7.size
  clear hb7 Z6 G6 RA6 EA6 RB6 EB6 X6
  go_wp2_with fail
  refine (toTexts_any a n c L _ (HS.out.later B7.out) hn2).mono ?_
  rintro e w8 ⟨rfl, ho8, hb8⟩
  have B8 : Hid (Below w.heap.size w w8) := Lib.hid (B7.out.trans (hb8.mono B7.out.size))
  have Z8 := Lib.hid (Z7.out.later hb8)
  have G8 := Lib.hid (G7.out.later hb8)
  have RA8 := Lib.hid (own_below RA7.out hb8)
  have EA8 := Lib.hid (own_below EA7.out hb8)
  have RB8 := Lib.hid (own_below RB7.out hb8)
  have EB8 := Lib.hid (own_below EB7.out hb8)
  have X8 := Lib.hid (own_below X7.out hb8)
  have Y8 := Lib.hid ho8
  have L8 : Hid (w6.heap.size ≤ w8.heap.size) := Lib.hid (Nat.le_trans L7.out hb8.size)
  clear hb8 ho8 Z7 G7 RA7 EA7 RB7 EB7 X7
  go_wp2_with fail
  refine (eqStrings_any _ _ n n n L _ HL.out (by omega) (own_reads X8.out) (own_reads Y8.out)).mono ?_
  rintro e w9 ⟨rfl, m9, hm9⟩
  have Z9 : Hid (Bk w9 zb #[.int .i64 kd, .int .i64 sz, .int .i64 gn, .string key, .slice aR0 nR cR0, .slice aE0 nE cE0] 54) := Lib.hid (by rw [hm9]; exact Z8.out)
  have G9 : Hid (Bk w9 gb #[.int .i64 kd, .int .i64 sz, .int .i64 gn, .string key, .slice aR1 nR cR1, .slice aE1 nE cE1] 54) := Lib.hid (by rw [hm9]; exact G8.out)
  have RA9 : Hid (w9.ownsRow w1.heap.size 66 3 (.slice aR0 nR cR0) nR (cellsE encRec R)) := Lib.hid (by rw [hm9]; exact RA8.out)
  have EA9 : Hid (w9.ownsRow w1.heap.size 47 2 (.slice aE0 nE cE0) nE (cellsE encEntry E)) := Lib.hid (by rw [hm9]; exact EA8.out)
  have RB9 : Hid (w9.ownsRow w4.heap.size 66 3 (.slice aR1 nR cR1) nR (cellsE encRec R)) := Lib.hid (by rw [hm9]; exact RB8.out)
  have EB9 : Hid (w9.ownsRow w4.heap.size 47 2 (.slice aE1 nE cE1) nE (cellsE encEntry E)) := Lib.hid (by rw [hm9]; exact EB8.out)
  have X9 : Hid (w9.ownsRow w3.heap.size 9 1 (.slice (some ⟨w3.heap.size, 0, none⟩) n n) n (scells L)) := Lib.hid (by rw [hm9]; exact X8.out)
  have B9 : Hid (Below w.heap.size w w9) := Lib.hid (by rw [hm9]; exact below_drewsN B8.out m9)
  have L9 : Hid (w6.heap.size ≤ w9.heap.size) := Lib.hid (by rw [hm9]; exact L8.out)
  clear hm9 Z8 G8 RA8 EA8 RB8 EB8 X8 Y8
  go_wp2_with fail
  refine (markTexts_some w3.heap.size n n 1 (scells L) w9 (by decide) (by omega) X9.out).mono ?_
  obtain ⟨k1, hk1⟩ : ∃ k, 1 + n = k := ⟨_, rfl⟩
  unfold MarkTextsPost
  rw [hk1]
  rintro e w10 ⟨rfl, hb10, hu10⟩
  have Z10 : Hid (Bk w10 zb #[.int .i64 kd, .int .i64 sz, .int .i64 gn, .string key, .slice aR0 nR cR0, .slice aE0 nE cE0] 54) := Lib.hid ((hu10.block zb (by have := LZ.out; omega) Z9.out.lt).trans Z9.out)
  have G10 : Hid (Bk w10 gb #[.int .i64 kd, .int .i64 sz, .int .i64 gn, .string key, .slice aR1 nR cR1, .slice aE1 nE cE1] 54) := Lib.hid ((hu10.block gb (by have := LX.out; have := LG.out.1; omega) G9.out.lt).trans G9.out)
  have RA10 := Lib.hid (ownE_but RA9.out hu10 (fun g hg => by have := LA.out g (.inl hg); omega))
  have EA10 := Lib.hid (ownE_but EA9.out hu10 (fun g hg => by have := LA.out g (.inr hg); omega))
  have RB10 := Lib.hid (ownE_but RB9.out hu10 (fun g hg => by have := (LB.out g (.inl hg)).1; have := LX.out; omega))
  have EB10 := Lib.hid (ownE_but EB9.out hu10 (fun g hg => by have := (LB.out g (.inr hg)).1; have := LX.out; omega))
  have B10 : Hid (Below w.heap.size w w10) := Lib.hid (B9.out.trans (hb10.mono B3.out.size))
  have L10 : Hid (w6.heap.size ≤ w10.heap.size) := Lib.hid (Nat.le_trans L9.out hu10.size)
  have hk1p : ¬ ((k1 : Int) < 0) := by omega
  clear hk1 hb10 hu10 Z9 G9 RA9 EA9 RB9 EB9 X9
  have g0 := G10.out.cell (j := 0) rfl
  have g1 := G10.out.cell (j := 1) rfl
  have g2 := G10.out.cell (j := 2) rfl
  have g3 := G10.out.cell (j := 3) rfl
  have g4 := G10.out.cell (j := 4) rfl
  have g5 := G10.out.cell (j := 5) rfl
  have z0 := Z10.out.cell (j := 0) rfl
  have z1 := Z10.out.cell (j := 1) rfl
  have z2 := Z10.out.cell (j := 2) rfl
  have z3 := Z10.out.cell (j := 3) rfl
  have z4 := Z10.out.cell (j := 4) rfl
  have z5 := Z10.out.cell (j := 5) rfl
  go_wp2_with fail
  clear g0 g1 g2 g3 g4 g5 z0 z1 z2 z3 z4 z5
  refine (eqIno_any kd sz gn key _ nR _ _ nE _ _ _ _ _ R E _ (by omega) (by omega) (srcRec_of_own RB10.out) (srcRec_of_own RA10.out) (srcEntry_of_own EB10.out) (srcEntry_of_own EA10.out)).mono ?_
  rintro e w11 ⟨rfl, hb11⟩
  have B11 : Hid (Below w.heap.size w w11) := Lib.hid (B10.out.trans (hb11.mono B10.out.size))
  have Z11 := Lib.hid (Z10.out.later hb11)
  have G11 := Lib.hid (G10.out.later hb11)
  have RA11 := Lib.hid (own_below RA10.out hb11)
  have EA11 := Lib.hid (own_below EA10.out hb11)
  have RB11 := Lib.hid (own_below RB10.out hb11)
  have EB11 := Lib.hid (own_below EB10.out hb11)
  have L11 : Hid (w6.heap.size ≤ w11.heap.size) := Lib.hid (Nat.le_trans L10.out hb11.size)
  clear hb11 Z10 G10 RA10 EA10 RB10 EB10
  have g0 := G11.out.cell (j := 0) rfl
  have g1 := G11.out.cell (j := 1) rfl
  have g2 := G11.out.cell (j := 2) rfl
  have g3 := G11.out.cell (j := 3) rfl
  have g4 := G11.out.cell (j := 4) rfl
  have g5 := G11.out.cell (j := 5) rfl
  have HNE : Hid (∀ g, (Value.slice aR1 nR cR1).ownBlock = some g → (Value.slice aE1 nE cE1).ownBlock ≠ some g) := Lib.hid (fun g h1 h2 => by
    rcases HXX.out with e | e
    · rw [e] at h1; cases h1
    · rw [e] at h2; cases h2)
  have M11 : Hid (w4.heap.size ≤ w11.heap.size) := Lib.hid (by have := L11.out; have := LG.out; omega)
  go_wp2_with fail
  clear g0 g1 g2 g3 g4 g5
  refine (markIno_any kd sz gn key w4.heap.size (.slice aR1 nR cR1) (.slice aE1 nE cE1) nR nE 1 _ _ w11 M11.out (by decide) (by omega) RB11.out EB11.out HNE.out).mono ?_
  obtain ⟨k2, hk2⟩ : ∃ k, 1 + 3 * nR + 2 * nE = k := ⟨_, rfl⟩
  unfold MarksIno
  rw [hk2]
  rintro e w12 ⟨rfl, hb12, ha12, hr12, he12⟩
  have Z12 := Lib.hid (ha12.bk Z11.out (fun e => by have := (LB.out zb (.inl e)).1; have := LZ.out; have := LX.out; omega) (fun e => by have := (LB.out zb (.inr e)).1; have := LZ.out; have := LX.out; omega))
  have G12 := Lib.hid (ha12.bk G11.out (fun e => by have := (LB.out gb (.inl e)).2; omega) (fun e => by have := (LB.out gb (.inr e)).2; omega))
  have RA12 := Lib.hid (ha12.own RA11.out (fun g hg e => by have := LA.out g (.inl hg); have := (LB.out g (.inl e)).1; have := LX.out; omega) (fun g hg e => by have := LA.out g (.inl hg); have := (LB.out g (.inr e)).1; have := LX.out; omega))
  have EA12 := Lib.hid (ha12.own EA11.out (fun g hg e => by have := LA.out g (.inr hg); have := (LB.out g (.inl e)).1; have := LX.out; omega) (fun g hg e => by have := LA.out g (.inr hg); have := (LB.out g (.inr e)).1; have := LX.out; omega))
  have RM12 := Lib.hid hr12
  have EM12 := Lib.hid he12
  have HK2 := Lib.hid hk2
  have B12 : Hid (Below w.heap.size w w12) := Lib.hid (B11.out.trans (hb12.mono (by have := B3.out.size; have := LX.out; omega)))
  clear hk2 hb12 ha12 hr12 he12 Z11 G11 RA11 EA11 RB11 EB11
  have g0 := G12.out.cell (j := 0) rfl
  have g1 := G12.out.cell (j := 1) rfl
  have g2 := G12.out.cell (j := 2) rfl
  have g3 := G12.out.cell (j := 3) rfl
  have g4 := G12.out.cell (j := 4) rfl
  have g5 := G12.out.cell (j := 5) rfl
  have HQ : Hid (∀ W, W.ownsRow w4.heap.size 66 3 (.slice aR1 nR cR1) nR (cellsE encRec (marksRec 1 nR)) → W.ownsRow w4.heap.size 47 2 (.slice aE1 nE cE1) nE (cellsE encEntry (marksEntry (1 + 3 * nR) nE)) →
      Calls Tryd.prog 41 #[.agg #[.int .i64 kd, .int .i64 sz, .int .i64 gn, .string key, .slice aR1 nR cR1, .slice aE1 nE cE1], .int .i64 1] W fun e w' => e = .returned (.int .i64 (k2 : Int)) ∧ Below W.heap.size W w') := Lib.hid (fun W h1 h2 => by
    rw [← HK2.out]
    exact heldIno_any kd sz gn key aR1 nR cR1 aE1 nE cE1 1 W (by decide) (by omega) (srcRec_of_own h1) (srcEntry_of_own h2))
  have hk2p : ¬ ((k2 : Int) < 0) := by omega
  go_wp2_with fail
  clear g0 g1 g2 g3 g4 g5
  refine (HQ.out _ RM12.out EM12.out).mono ?_
  rintro e w13 ⟨rfl, hb13⟩
  have B13 : Hid (Below w.heap.size w w13) := Lib.hid (B12.out.trans (hb13.mono B12.out.size))
  have Z13 := Lib.hid (Z12.out.later hb13)
  have G13 := Lib.hid (G12.out.later hb13)
  have RA13 := Lib.hid (own_below RA12.out hb13)
  have EA13 := Lib.hid (own_below EA12.out hb13)
  have RM13 := Lib.hid (own_below RM12.out hb13)
  have EM13 := Lib.hid (own_below EM12.out hb13)
  clear hb13 Z12 G12 RA12 EA12 RM12 EM12
  go_wp2_with fail
  refine (toTexts_any a n c L _ (HS.out.later B13.out) hn2).mono ?_
  rintro e w14 ⟨rfl, ho14, hb14⟩
  have B14 : Hid (Below w.heap.size w w14) := Lib.hid (B13.out.trans (hb14.mono B13.out.size))
  have Z14 := Lib.hid (Z13.out.later hb14)
  have G14 := Lib.hid (G13.out.later hb14)
  have RA14 := Lib.hid (own_below RA13.out hb14)
  have EA14 := Lib.hid (own_below EA13.out hb14)
  have RM14 := Lib.hid (own_below RM13.out hb14)
  have EM14 := Lib.hid (own_below EM13.out hb14)
  have Y14 := Lib.hid ho14
  clear hb14 ho14 Z13 G13 RA13 EA13 RM13 EM13
  go_wp2_with fail
  refine (implReadIno_any _ n n L _ (Nat.le_refl _) (by omega) (srcT_of_own Y14.out) HF.out).mono ?_
  intro e w15 hg
  obtain ⟨aR2, cR2, aE2, cE2, rfl, hoR, hoE, _, hb15⟩ := HRD.out _ _ _ hg
  clear hg
  have hba := below_bk w15 (.cells #[.int .i64 kd, .int .i64 sz, .int .i64 gn, .string key, .slice aR2 nR cR2, .slice aE2 nE cE2] 54)
  have H16 := Lib.hid (Bk.alloc w15 #[.int .i64 kd, .int .i64 sz, .int .i64 gn, .string key, .slice aR2 nR cR2, .slice aE2 nE cE2] 54)
  have RC16 := Lib.hid (own_below hoR hba)
  have EC16 := Lib.hid (own_below hoE hba)
  have Z16 := Lib.hid ((Z14.out.later hb15).later hba)
  have G16 := Lib.hid ((G14.out.later hb15).later hba)
  have RA16 := Lib.hid (own_below (own_below RA14.out hb15) hba)
  have EA16 := Lib.hid (own_below (own_below EA14.out hb15) hba)
  have RM16 := Lib.hid (own_below (own_below RM14.out hb15) hba)
  have EM16 := Lib.hid (own_below (own_below EM14.out hb15) hba)
  have B16 : Hid (Below w.heap.size w (w15.alloc (.cells #[.int .i64 kd, .int .i64 sz, .int .i64 gn, .string key, .slice aR2 nR cR2, .slice aE2 nE cE2] 54))) := Lib.hid (B14.out.trans ((hb15.trans (hba.mono hb15.size)).mono B14.out.size))
  obtain ⟨hbk, hhb⟩ : ∃ x, w15.heap.size = x := ⟨_, rfl⟩
  obtain ⟨w16, h16⟩ : ∃ x, x = w15.alloc (.cells #[.int .i64 kd, .int .i64 sz, .int .i64 gn, .string key, .slice aR2 nR cR2, .slice aE2 nE cE2] 54) := ⟨_, rfl⟩
  rw [← h16] at H16 RC16 EC16 Z16 G16 RA16 EA16 RM16 EM16 B16
  rw [hhb] at H16
  have z0 : (w15.alloc (.cells #[.int .i64 kd, .int .i64 sz, .int .i64 gn, .string key, .slice aR2 nR cR2, .slice aE2 nE cE2] 54)).cell? ⟨zb, 0, none⟩ = some (.int .i64 kd) := by rw [← h16]; exact Z16.out.cell rfl
  have z1 : (w15.alloc (.cells #[.int .i64 kd, .int .i64 sz, .int .i64 gn, .string key, .slice aR2 nR cR2, .slice aE2 nE cE2] 54)).cell? ⟨zb, 1, none⟩ = some (.int .i64 sz) := by rw [← h16]; exact Z16.out.cell rfl
  have z2 : (w15.alloc (.cells #[.int .i64 kd, .int .i64 sz, .int .i64 gn, .string key, .slice aR2 nR cR2, .slice aE2 nE cE2] 54)).cell? ⟨zb, 2, none⟩ = some (.int .i64 gn) := by rw [← h16]; exact Z16.out.cell rfl
  have z3 : (w15.alloc (.cells #[.int .i64 kd, .int .i64 sz, .int .i64 gn, .string key, .slice aR2 nR cR2, .slice aE2 nE cE2] 54)).cell? ⟨zb, 3, none⟩ = some (.string key) := by rw [← h16]; exact Z16.out.cell rfl
  have z4 : (w15.alloc (.cells #[.int .i64 kd, .int .i64 sz, .int .i64 gn, .string key, .slice aR2 nR cR2, .slice aE2 nE cE2] 54)).cell? ⟨zb, 4, none⟩ = some (.slice aR0 nR cR0) := by rw [← h16]; exact Z16.out.cell rfl
  have z5 : (w15.alloc (.cells #[.int .i64 kd, .int .i64 sz, .int .i64 gn, .string key, .slice aR2 nR cR2, .slice aE2 nE cE2] 54)).cell? ⟨zb, 5, none⟩ = some (.slice aE0 nE cE0) := by rw [← h16]; exact Z16.out.cell rfl
  clear hoR hoE hb15 hba Z14 G14 RA14 EA14 RM14 EM14 Y14
  go_wp2_with fail
  rw [← h16]
  clear h16 hhb z0 z1 z2 z3 z4 z5
  refine (eqIno_any kd sz gn key _ nR _ _ nE _ _ _ _ _ R E _ (by omega) (by omega) (srcRec_of_own RC16.out) (srcRec_of_own RA16.out) (srcEntry_of_own EC16.out) (srcEntry_of_own EA16.out)).mono ?_
  rintro e w17 ⟨rfl, hb17⟩
  have B17 : Hid (Below w.heap.size w w17) := Lib.hid (B16.out.trans (hb17.mono B16.out.size))
  have G17 := Lib.hid (G16.out.later hb17)
  have RM17 := Lib.hid (own_below RM16.out hb17)
  have EM17 := Lib.hid (own_below EM16.out hb17)
  clear hb17 Z16 G16 RA16 EA16 RM16 EM16 RC16 EC16
  have g0 := G17.out.cell (j := 0) rfl
  have g1 := G17.out.cell (j := 1) rfl
  have g2 := G17.out.cell (j := 2) rfl
  have g3 := G17.out.cell (j := 3) rfl
  have g4 := G17.out.cell (j := 4) rfl
  have g5 := G17.out.cell (j := 5) rfl
  go_wp2_with fail
  clear g0 g1 g2 g3 g4 g5
  refine (HQ.out _ RM17.out EM17.out).mono ?_
  rintro e w18 ⟨rfl, hb18⟩
  have B18 : Hid (Below w.heap.size w w18) := Lib.hid (B17.out.trans (hb18.mono B17.out.size))
  clear hb18
  go_wp2
  go_ret
  refine ⟨rfl, ?_⟩
  rw [← HWW.out]
  exact B18.out
end Go.Proofs.YtmkchilhnmkhkaaDoor
namespace Go.Proofs.YtmkchilhnmkhkaaDoor
open Go.Deep Go.ChangeShapes Go.WideShapes Go.RowKit

theorem add_at1 (a : Addr) (k : Nat) (h : a.spot = none) : a.add k = ⟨a.block, a.off + k, none⟩ := by
  obtain ⟨b, o, s⟩ := a
  simp only at h
  subst h
  unfold Addr.add
  split <;> simp_all
/-- A row of elements that came in, for whatever element. -/
theorem row_of_cells {α : Type} [Inhabited α] (E : Enc α) {W : World} {ad : Addr} {len : Nat} (h0 : 0 < E.k) (each : ∀ i, i < len → ∃ s : α, W.cells? 0 (ad.add (i * E.k)) E.k = some (E.cells s)) :
    ∃ L : List α, SrcE E W (some ad) len L ∧ (∀ i, i < len → W.cells? 0 (ad.add (i * E.k)) E.k = some (E.cells (L.getD i default))) := by
  obtain ⟨S, hS⟩ := choose_lt each
  have hget : ∀ i, i < len → ((List.range len).map S).getD i default = S i := fun i hi => by simp [List.getD, hi]
  refine ⟨(List.range len).map S, ⟨by simp, fun j hj => ?_⟩, fun i hi => by rw [hget i hi]; exact hS i hi⟩
  rw [hget j hj]
  have hj3 := (World.cells?_some (hS j hj)).2.2
  have e0 := hj3 0 h0
  have hlen := E.len (S j)
  rw [show (E.cells (S j))[0]? = some ((E.cells (S j))[0]'(by omega)) from List.getElem?_eq_getElem _] at e0
  have h00 := (World.cells?_some (hS 0 (by omega))).2.2 0 h0
  have hlen0 := E.len (S 0)
  rw [show (E.cells (S 0))[0]? = some ((E.cells (S 0))[0]'(by omega)) from List.getElem?_eq_getElem _] at h00
  have hspot : ad.spot = none := by
    have := World.cell?_spot h00
    simpa [Addr.add] using this
  simp only [add_add] at e0 hj3
  rw [add_at1 ad _ hspot] at e0
  have hb : ad.block < W.heap.size := by
    rcases Nat.lt_or_ge ad.block W.heap.size with hlt | hge
    · exact hlt
    · simp [World.cell?, Array.getElem?_eq_none hge] at e0
  refine ⟨ad.block, ad.off, by obtain ⟨b, o, s⟩ := ad; simp only at hspot; rw [hspot], hb, fun o v hv => ?_⟩
  have ho : o < E.k := by
    rcases Nat.lt_or_ge o E.k with h | h
    · exact h
    · rw [List.getElem?_eq_none (by omega)] at hv; cases hv
  have e1 := hj3 o ho
  rw [add_at1 ad _ hspot, hv] at e1
  rw [Nat.add_assoc]
  exact e1
end Go.Proofs.YtmkchilhnmkhkaaDoor
