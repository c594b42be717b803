/- The program's flush, behind a pointer. -/
import Derived.Test.YtlemlgadjapamaaMemCopy
namespace Go.Proofs.Ytlemlgadjapamaa
open Go.RowKit Go.Proofs.Ytlemlgadjapamaa.Parts Go.Proofs.Ytlemlgadjapamaa.Hexa

/-- A memory behind a pointer, that the call owns. -/
structure BoxM (w : World) (M b : Nat) (K : ByteArray) (a : Option Addr) (n c : Nat) (L : List C3) : Prop where
  two : Two w b (.string K) (.slice a n c) 26
  own : w.ownsRow M 68 3 (.slice a n c) n (cellsE encC L)
  low : M ≤ b
  ne : ∀ p, a = some p → p.block ≠ b
theorem BoxM.later {w w' : World} {M b : Nat} {K : ByteArray} {a : Option Addr} {n c : Nat} {L : List C3} (h : BoxM w M b K a n c L) (hb : Below w.heap.size w w') : BoxM w' M b K a n c L :=
  ⟨h.two.later hb, own_below h.own hb, h.low, h.ne⟩
theorem BoxM.src {w : World} {M b : Nat} {K : ByteArray} {a : Option Addr} {n c : Nat} {L : List C3} (h : BoxM w M b K a n c L) : SrcC w a n L := srcC_of_own h.own
theorem BoxM.len {w : World} {M b : Nat} {K : ByteArray} {a : Option Addr} {n c : Nat} {L : List C3} (h : BoxM w M b K a n c L) : L.length = n := h.src.len
theorem BoxM.lowM {w : World} {M b : Nat} {K : ByteArray} {a : Option Addr} {n c : Nat} {L : List C3} (h : BoxM w M b K a n c L) : M ≤ w.heap.size := Nat.le_of_lt (Nat.lt_of_le_of_lt h.low h.two.lt)
/-- A cell of the row is written. -/
theorem BoxM.stored {w : World} {M b : Nat} {K : ByteArray} {g n c : Nat} {L L' : List C3} (h : BoxM w M b K (some ⟨g, 0, none⟩) n c L) (j : Nat) (v : Value) (hL : (cellsE encC L).set j v = cellsE encC L') : BoxM (w.setCell ⟨g, j, none⟩ v) M b K (some ⟨g, 0, none⟩) n c L' :=
  ⟨(Below.heap_setCell w ⟨g, j, none⟩ v b (fun e => h.ne _ rfl e.symm)).trans h.two, by rw [← hL]; exact (h.own.stored j v).1, h.low, h.ne⟩
theorem BoxM.base {w : World} {M b : Nat} {K : ByteArray} {g n c : Nat} {L : List C3} (h : BoxM w M b K (some ⟨g, 0, none⟩) n c L) : M ≤ g := (h.own.lt g rfl).1

theorem end_void {P : Program} {fn : Func} {R : Ending → World → Prop} {a : Act} {w : World} (hr : fn.results = #[]) (hd : a.defers = []) (hR : R (.returned (.tuple #[])) w) : bodyPost P fn R .normal a w :=
  ⟨hd, .tuple #[], by simp [results, hr], hR⟩
theorem set_flag {L : List C3} {k : Nat} (f : Bool) (hk : k < L.length) : (cellsE encC L).set (k * 3 + 2) (.bool f) = cellsE encC (L.set k ⟨(L.getD k default).l, (L.getD k default).t, f⟩) := by
  rw [← cellsE_set encC L k _ hk]
  have h0 : (cellsE encC L)[k * 3]? = some (.int .i64 (L.getD k default).l) := cellsE_at encC L k 0 hk (by decide)
  have h1 := cellsC_text hk
  show _ = ((((cellsE encC L).set (k * 3) (.int .i64 (L.getD k default).l)).set (k * 3 + 1) (.string (L.getD k default).t)).set (k * 3 + 2) (.bool f))
  rw [set_same h0, set_same h1]

set_option maxRecDepth 100000 in
set_option maxHeartbeats 1000000 in
theorem flush_any (M b : Nat) (K : ByteArray) (a : Option Addr) (n c : Nat) (L : List C3) (l : Int) (w : World) (hB : BoxM w M b K a n c L) (hn : n ≤ 1048600) (hok : MemOk K L) :
    Calls Try.prog 59 #[.pointer (some ⟨b, 0, none⟩), .int .i64 l] w fun e w' => e = .returned (.tuple #[]) ∧ BoxM w' M b K a n c (flushL L l) ∧ Below M w w' := by
  have HB := Lib.hid hB
  have HOK := Lib.hid hok
  have HL := Lib.hid hB.len
  clear hB hok
  go_enter Try.func59, Try.ntmps59
  go_wp2_with fail
  refine (cellOf_any b K a n c L l w HB.out.two HB.out.src hn HOK.out).mono ?_
  rintro e w1 ⟨p, hp, rfl, hb1⟩
  have HP := Lib.hid hp
  have B1 := Lib.hid (HB.out.later hb1)
  have q1 := B1.out.two.c1
  have BB := Lib.hid (hb1.mono HB.out.lowM)
  clear hp hb1
  cases hfb : foundB L l p with
  | true =>
    have hf := hfb
    unfold foundB at hf
    have hf := of_decide_eq_true hf
    have HE : Hid (flushL L l = L.set p ⟨(L.getD p default).l, (L.getD p default).t, true⟩) := Lib.hid (by unfold flushL; rw [HP.out.found hf.1 hf.2])
    have hpn : p < n := by have := HL.out; omega
    have HPL := Lib.hid hf.1
    clear hfb hf
    obtain ⟨g, off, rfl, hg, d1, d2, d3⟩ := B1.out.src.cells3 p hpn
    obtain ⟨ad, cap, hv, _, _, hpl⟩ := ownE_form B1.out.own
    cases hv
    obtain ⟨g0, e0, hg0, hg1⟩ := hpl _ rfl
    cases e0
    have f3 := B1.out.own.frozenAt (p * 3 + 2)
    have B2 := Lib.hid (B1.out.stored (p * 3 + 2) (.bool true) (set_flag true HPL.out))
    rw [← HE.out] at B2
    have BB2 := Lib.hid (BB.out.setCell (p := ⟨g, p * 3 + 2, none⟩) B1.out.base (.bool true))
    simp only [Nat.zero_add] at d1 d2 d3
    clear hpl
    go_wp2
    exact end_void rfl rfl ⟨rfl, B2.out, BB2.out⟩
  | false =>
    have hf := hfb
    unfold foundB at hf
    have hf := of_decide_eq_false hf
    have HE : Hid (flushL L l = L) := Lib.hid (by unfold flushL; rw [cellIdx_none (HP.out.lost HOK.out hf)])
    clear hfb hf
    go_wp2
    exact end_void rfl rfl ⟨rfl, by rw [HE.out]; exact B1.out, BB.out⟩
end Go.Proofs.Ytlemlgadjapamaa
