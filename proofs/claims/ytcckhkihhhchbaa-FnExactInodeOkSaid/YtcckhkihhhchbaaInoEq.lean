/- Inodes compared; marks written over them. -/
import Derived.Test.YtcckhkihhhchbaaInoSpecA
import Derived.Test.YtcckhkihhhchbaaRecC
import Derived.Test.YtcckhkihhhchbaaEntryC
namespace Go.Proofs.Ytcckhkihhhchbaa
open Go.RowKit Go.Proofs.Ytcckhkihhhchbaa.Parts Go.Proofs.Ytcckhkihhhchbaa.Hexa

set_option maxRecDepth 100000 in
set_option maxHeartbeats 1000000 in
theorem eqIno_any (kd sz gn : Int) (key : ByteArray) (a1 : Option Addr) (nR c1 : Nat) (b1 : Option Addr) (nE d1 : Nat) (a2 : Option Addr) (c2 : Nat) (b2 : Option Addr) (d2 : Nat) (R : List RecR) (E : List EntryR) (w : World)
    (hn : nR ≤ 100000000) (hn' : nE ≤ 100000000) (s1 : SrcRec w a1 nR R) (s2 : SrcRec w a2 nR R) (t1 : SrcEntry w b1 nE E) (t2 : SrcEntry w b2 nE E) :
    Calls Try.prog 29 #[.agg #[.int .i64 kd, .int .i64 sz, .int .i64 gn, .string key, .slice a1 nR c1, .slice b1 nE d1], .agg #[.int .i64 kd, .int .i64 sz, .int .i64 gn, .string key, .slice a2 nR c2, .slice b2 nE d2]] w fun e w' => e = .returned (.bool true) ∧ Below w.heap.size w w' := by
  have hb1 := below_bk w (inoObj kd sz gn key a1 nR c1 b1 nE d1)
  have hb2 := below_bk (w.alloc (inoObj kd sz gn key a1 nR c1 b1 nE d1)) (inoObj kd sz gn key a2 nR c2 b2 nE d2)
  have T0 := Lib.hid ((Bk.alloc w (inoCs kd sz gn key a1 nR c1 b1 nE d1) 51).later hb2)
  have U0 : Hid (Bk ((w.alloc (inoObj kd sz gn key a1 nR c1 b1 nE d1)).alloc (inoObj kd sz gn key a2 nR c2 b2 nE d2)) (w.heap.size + 1) (inoCs kd sz gn key a2 nR c2 b2 nE d2) 51) := Lib.hid (by
    have h := Bk.alloc (w.alloc (inoObj kd sz gn key a1 nR c1 b1 nE d1)) (inoCs kd sz gn key a2 nR c2 b2 nE d2) 51
    simpa using h)
  have B0 : Hid (Below w.heap.size w ((w.alloc (inoObj kd sz gn key a1 nR c1 b1 nE d1)).alloc (inoObj kd sz gn key a2 nR c2 b2 nE d2))) := Lib.hid (hb1.trans (hb2.mono hb1.size))
  have S1 := Lib.hid s1
  have S2 := Lib.hid s2
  have V1 := Lib.hid t1
  have V2 := Lib.hid t2
  clear s1 s2 t1 t2 hb1 hb2
  go_enter Try.func29, Try.ntmps29
  go_wp2_with fail
  refine (eqRecs_any a1 a2 nR c1 c2 R _ hn (S1.out.later B0.out) (S2.out.later B0.out)).mono ?_
  rintro e w1 ⟨rfl, hb1⟩
  have T1 := Lib.hid (T0.out.later hb1)
  have U1 := Lib.hid (U0.out.later hb1)
  have B1 : Hid (Below w.heap.size w w1) := Lib.hid (B0.out.trans (hb1.mono B0.out.size))
  have x5 := T1.out.cell (j := 5) rfl
  have y5 := U1.out.cell (j := 5) rfl
  clear hb1
  go_wp2_with fail
  refine (eqEntrys_any b1 b2 nE d1 d2 E _ hn' (V1.out.later B1.out) (V2.out.later B1.out)).mono ?_
  rintro e w2 ⟨rfl, hb2⟩
  have B2 : Hid (Below w.heap.size w w2) := Lib.hid (B1.out.trans (hb2.mono B1.out.size))
  clear hb2
  go_wp2
  go_ret
  exact ⟨rfl, B2.out⟩

/-- No block is written but v's and u's. -/
structure Apart2 (v u : Value) (w w' : World) : Prop where
  size : w.heap.size ≤ w'.heap.size
  block : ∀ g, g < w.heap.size → v.ownBlock ≠ some g → u.ownBlock ≠ some g → w'.heap[g]? = w.heap[g]?
theorem Apart2.own {v u : Value} {w w' : World} (h : Apart2 v u w w') {v2 : Value} {M e k n : Nat} {xs : List Value} (ho : w.ownsRow M e k v2 n xs) (hv : ∀ g, v2.ownBlock = some g → v.ownBlock ≠ some g) (hu : ∀ g, v2.ownBlock = some g → u.ownBlock ≠ some g) : w'.ownsRow M e k v2 n xs := by
  refine ⟨ho.1, ho.2.imp id fun ⟨g, cap, cur, he, hg, hh, r⟩ => ⟨g, cap, cur, he, hg, ?_, r⟩⟩
  rw [h.block g (Array.getElem?_eq_some_iff.1 hh).1 (hv g (by rw [he]; rfl)) (hu g (by rw [he]; rfl))]; exact hh
theorem Apart2.bk {v u : Value} {w w' : World} (h : Apart2 v u w w') {b : Nat} {cs : Array Value} {t : TypeId} (hk : Bk w b cs t) (hv : v.ownBlock ≠ some b) (hu : u.ownBlock ≠ some b) : Bk w' b cs t := (h.block b hk.lt hv hu).trans hk

/-- The marks written. -/
def MarksIno (M : Nat) (vR vE : Value) (nR nE k : Nat) (w : World) (e : Ending) (w' : World) : Prop :=
  e = .returned (.int .i64 ((k + 3 * nR + 2 * nE : Nat) : Int)) ∧ Below M w w' ∧ Apart2 vR vE w w' ∧ w'.ownsRow M 27 3 vR nR (cellsE encRec (marksRec k nR)) ∧ w'.ownsRow M 37 2 vE nE (cellsE encEntry (marksEntry (k + 3 * nR) nE))

set_option maxRecDepth 100000 in
set_option maxHeartbeats 1000000 in
theorem markIno_any (kd sz gn : Int) (key : ByteArray) (M : Nat) (vR vE : Value) (nR nE k : Nat) (xs ys : List Value) (w : World) (hM : M ≤ w.heap.size) (h0 : 0 < k) (hk : k + 3 * nR + 2 * nE ≤ 100000000)
    (hR : w.ownsRow M 27 3 vR nR xs) (hE : w.ownsRow M 37 2 vE nE ys) (hne : ∀ g, vR.ownBlock = some g → vE.ownBlock ≠ some g) :
    Calls Try.prog 33 #[.agg #[.int .i64 kd, .int .i64 sz, .int .i64 gn, .string key, vR, vE], .int .i64 k] w (MarksIno M vR vE nR nE k w) := by
  have HR := Lib.hid hR
  have HE := Lib.hid hE
  have HNE := Lib.hid hne
  have HM := Lib.hid hM
  have B0 := Lib.hid (below_bk w (.cells #[.int .i64 kd, .int .i64 sz, .int .i64 gn, .string key, vR, vE] 51))
  have T0 := Lib.hid (Bk.alloc w #[.int .i64 kd, .int .i64 sz, .int .i64 gn, .string key, vR, vE] 51)
  clear hR hE hne hM
  go_enter Try.func33, Try.ntmps33
  go_wp2_with fail
  refine (markRecs_any M vR nR k xs _ h0 (by omega) (own_below HR.out B0.out)).mono ?_
  obtain ⟨q, hq⟩ : ∃ q, k + 3 * nR = q := ⟨_, rfl⟩
  rintro e w1 ⟨he, hb1, ha1, ho1⟩
  obtain rfl : e = .returned (.int .i64 (q : Int)) := by rw [he]; congr 2; omega
  have HQ := Lib.hid hq
  have T1 : Hid (Bk w1 w.heap.size #[.int .i64 kd, .int .i64 sz, .int .i64 gn, .string key, vR, vE] 51) := Lib.hid ((ha1.block w.heap.size (by simp) (fun e => by have := (HR.out.lt _ e).2; omega)).trans T0.out)
  have HE1 := Lib.hid (ha1.own (own_below HE.out B0.out) (fun g hg e => HNE.out g e hg))
  have A1 := Lib.hid ha1
  have O1 := Lib.hid ho1
  have B1 : Hid (Below M w w1) := Lib.hid ((B0.out.mono HM.out).trans hb1)
  have x5 := T1.out.cell (j := 5) rfl
  have hq0 : 0 < q := by omega
  clear he hb1 ha1 ho1 hq
  go_wp2_with fail
  refine (markEntrys_any M vE nE q ys _ hq0 (by have := HQ.out; omega) HE1.out).mono ?_
  rintro e w2 ⟨he, hb2, ha2, ho2⟩
  obtain rfl : e = .returned (.int .i64 ((k + 3 * nR + 2 * nE : Nat) : Int)) := by rw [he]; congr 2; have := HQ.out; omega
  have O2 : Hid (w2.ownsRow M 37 2 vE nE (cellsE encEntry (marksEntry (k + 3 * nR) nE))) := Lib.hid (by rw [HQ.out]; exact ho2)
  have O12 := Lib.hid (ha2.own O1.out (fun g hg e => HNE.out g hg e))
  have A2 : Hid (Apart2 vR vE w w2) := Lib.hid ⟨Nat.le_trans (Nat.le_trans B0.out.size A1.out.size) ha2.size, fun g hg h1 h2 =>
    (ha2.block g (Nat.lt_of_lt_of_le hg (Nat.le_trans B0.out.size A1.out.size)) h2).trans ((A1.out.block g (Nat.lt_of_lt_of_le hg B0.out.size) h1).trans (B0.out.block g hg))⟩
  have B2 : Hid (Below M w w2) := Lib.hid (B1.out.trans hb2)
  clear he hb2 ha2 ho2
  go_wp2
  go_ret
  exact ⟨rfl, B2.out, A2.out, O12.out, O2.out⟩
end Go.Proofs.Ytcckhkihhhchbaa
