/- The model's reading of a word. -/
import Derived.Test.YtlemlgadjapamaaMemNewLaw
namespace Go.Proofs.Ytlemlgadjapamaa
open Go.RowKit Go.Proofs.Ytlemlgadjapamaa.Parts Go.Proofs.Ytlemlgadjapamaa.Hexa

def idxI (L : List C3) (l : Int) : Int := match cellIdx L l with | some k => (k : Int) | none => -1
theorem ret_strm {a b : ByteArray} (h : a = b) : Ending.returned (.string a) = .returned (.string b) := by rw [h]
theorem ret_intm {a b : Int} (h : a = b) : Ending.returned (.int .i64 a) = .returned (.int .i64 b) := by rw [h]

set_option maxRecDepth 100000 in
set_option maxHeartbeats 1000000 in
theorem specCell_any (K : ByteArray) (a : Option Addr) (n c : Nat) (L : List C3) (l : Int) (w : World) (hs : SrcC w a n L) (hn : n ≤ 1048600) :
    Calls Try.prog 73 #[.agg #[.string K, .slice a n c], .int .i64 l] w fun e w' => e = .returned (.int .i64 (idxI L l)) ∧ Below w.heap.size w w' := by
  have HS := Lib.hid hs
  have HL := Lib.hid hs.len
  have B0 := Lib.hid (below_alloc w (.cells #[.string K, .slice a n c] 26))
  clear hs
  go_enter Try.func73, Try.ntmps73
  go_wp2
  go_loopw [5] (fun iv wr => ∃ (k : Nat), k ≤ n ∧ iv = .int .i64 k ∧ Hid (∀ j, j < k → (L.getD j default).l ≠ l) ∧ Below (w.heap.size + 1) (w.alloc (.cells #[.string K, .slice a n c] 26)) wr)
    (fun iv _ => n - (intOf iv).toNat)
  case atStart => exact ⟨0, Nat.zero_le _, rfl, Lib.hid (fun j hj => by omega), Below.refl _ _⟩
  case round =>
    obtain ⟨k, hk, rfl, HA, hbel⟩ := hrel
    have BW : Hid (Below w.heap.size w wr) := Lib.hid (B0.out.trans (hbel.mono (by omega)))
    have q1 := cell1_of_two (below_two hbel)
    have HB := Lib.hid hbel
    clear hbel
    by_cases hlt : k < n
    · obtain ⟨g, off, rfl, hg, d1, d2, d3⟩ := HS.out.cells3_at BW.out (Nat.le_refl _) k hlt
      obtain ⟨x, hx⟩ : ∃ x, (L.getD k default).l = x := ⟨_, rfl⟩
      rw [hx] at d1
      have HX := Lib.hid hx
      clear hx d2 d3
      by_cases e : x = l
      · have HR : Hid (idxI L l = (k : Int)) := Lib.hid (by unfold idxI; rw [cellIdx_some (k := k) (by have := HL.out; omega) (by rw [HX.out, e]) HA.out])
        subst e
        go_wp2
        go_ret
        exact ⟨ret_intm HR.out.symm, BW.out⟩
      · have he : (x == l) = false := by simpa using e
        have HA2 : Hid (∀ j, j < k + 1 → (L.getD j default).l ≠ l) := Lib.hid (fun j hj => by
          by_cases ej : j = k
          · subst ej; rw [HX.out]; exact e
          · exact HA.out j (by omega))
        go_wp2
        go_roundw
        case rel => exact ⟨k + 1, by omega, by go_num, HA2, HB.out⟩
        case measure => (simp [intOf]; try omega)
    · obtain rfl : k = n := by omega
      have HR : Hid (idxI L l = -1) := Lib.hid (by unfold idxI; rw [cellIdx_none (by rw [HL.out]; exact HA.out)])
      go_wp2
      go_ret
      exact ⟨ret_intm HR.out.symm, BW.out⟩

set_option maxRecDepth 100000 in
set_option maxHeartbeats 1000000 in
theorem specLine_any (K : ByteArray) (a : Option Addr) (n c : Nat) (L : List C3) (l : Nat) (w : World) (hs : SrcC w a n L) (hn : n ≤ 1048600) (hok : MemOk K L) (hl : l < K.size / 16) :
    Calls Try.prog 81 #[.agg #[.string K, .slice a n c], .int .i64 l] w fun e w' => e = .returned (.string (lineT K L l)) ∧ Below w.heap.size w w' := by
  have HS := Lib.hid hs
  have HL := Lib.hid hs.len
  have B0 := Lib.hid (below_alloc w (.cells #[.string K, .slice a n c] 26))
  have T0 := Lib.hid (Two.alloc w (.string K) (.slice a n c) 26)
  have hk2 := hok.2.1
  clear hs hok
  cases hc : cellIdx L l with
  | some k =>
    have HE : Hid (lineT K L l = (L.getD k default).t) := Lib.hid (by unfold lineT; rw [hc])
    have HI : Hid (idxI L l = (k : Int)) := Lib.hid (by unfold idxI; rw [hc])
    have hkn : k < n := by have := (cellIdx_is hc).1; have := HL.out; omega
    clear hc
    obtain ⟨g, off, rfl, hg, _, _, _⟩ := HS.out.cells3 k hkn
    go_enter Try.func81, Try.ntmps81
    go_wp2_with fail
    refine (specCell_any K _ n c L l _ (HS.out.later B0.out) hn).mono ?_
    rw [HI.out]
    rintro e w1 ⟨rfl, hb1⟩
    have T1 := Lib.hid (T0.out.later hb1)
    have B1 := Lib.hid (B0.out.trans (hb1.mono B0.out.size))
    have q1 := T1.out.c1
    obtain ⟨g', off', hg', _, _, d2, _⟩ := HS.out.cells3_at B1.out (Nat.le_refl _) k hkn
    cases hg'
    clear hb1
    go_wp2
    go_ret
    exact ⟨ret_strm HE.out.symm, B1.out⟩
  | none =>
    have HE : Hid (lineT K L l = K.extract (l * 16) ((l + 1) * 16)) := Lib.hid (by unfold lineT; rw [hc, show 16 * l = l * 16 by omega, show (l + 1) * 16 = l * 16 + 16 by omega])
    have HI : Hid (idxI L l = -1) := Lib.hid (by unfold idxI; rw [hc])
    clear hc
    go_enter Try.func81, Try.ntmps81
    go_wp2_with fail
    refine (specCell_any K _ n c L l _ (HS.out.later B0.out) hn).mono ?_
    rw [HI.out]
    rintro e w1 ⟨rfl, hb1⟩
    have T1 := Lib.hid (T0.out.later hb1)
    have B1 := Lib.hid (B0.out.trans (hb1.mono B0.out.size))
    have q0 := T1.out.c0
    clear hb1
    go_wp2
    go_quiet ((go_at_call 66; first | exact Calls.quiet_of_same (size_any _) | exact quiet_anew size_any))
    go_wp2
    go_ret
    exact ⟨ret_strm HE.out.symm, below_drewsN B1.out _⟩
end Go.Proofs.Ytlemlgadjapamaa
