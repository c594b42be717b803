/- The model's MemoryOk. -/
import Derived.Test.YtlemlgadjapamaaMemMath
import Derived.Test.YtlemlgadjapamaaCellB
import Derived.Test.YtlemlgadjapamaaRangeSpec
namespace Go.Proofs.Ytlemlgadjapamaa
open Go.RowKit Go.Proofs.Ytlemlgadjapamaa.Parts Go.Proofs.Ytlemlgadjapamaa.Hexa

theorem ret_boolm {a b : Bool} (h : a = b) : Ending.returned (.bool a) = .returned (.bool b) := by rw [h]

set_option maxRecDepth 100000 in
set_option maxHeartbeats 400000 in
theorem size_any (w : World) : Calls Try.prog 66 #[] w fun e w' => e = .returned (.int .i64 16) ∧ w' = w := by
  go_enter Try.func66, Try.ntmps66
  go_wp2
  go_ret
  exact ⟨rfl, rfl⟩

theorem below_drewsN {B : Nat} {a w : World} (h : Below B a w) (m : Nat) : Below B a (w.drewN m) := ⟨h.os, h.tape, h.output, h.size, h.block⟩
/-- A call that leaves the world alone, in a region behind another one that drew. -/
theorem quiet_anew {P : Program} {f : FuncId} {args : Array Value} {w : World} {a n : Nat} {v : Value} (c : ∀ W : World, Calls P f args W fun e w' => e = .returned v ∧ w' = W) :
    Calls P f args (w.drewN (a + n)) fun e w'' => e = .returned v ∧ ∃ m, w'' = w.drewN (a + m) :=
  (c _).mono fun _ _ ⟨he, hw⟩ => ⟨he, n, hw⟩
theorem ok_bad {K : ByteArray} {L : List C3} {k : Nat} (hk : k < L.length) (h : ¬ CellOk K L k) : ¬ MemOk K L := fun x => h (x.2.2 k hk)
theorem below_two {w w' : World} {u v : Value} {t : TypeId} (h : Below (w.heap.size + 1) (w.alloc (.cells #[u, v] t)) w') : w'.heap[w.heap.size]? = some (.cells #[u, v] t (0, 0)) :=
  (h.block _ (by omega)).trans (heap_alloc_new _ _)

set_option maxRecDepth 100000 in
set_option maxHeartbeats 2000000 in
theorem specOk_any (K : ByteArray) (a : Option Addr) (n c : Nat) (L : List C3) (w : World) (hs : SrcC w a n L) (hn : n ≤ 1048600) (hK : K.size ≤ 1048600) :
    Calls Try.prog 28 #[.agg #[.string K, .slice a n c]] w fun e w' => e = .returned (.bool (memOkB K L)) ∧ Below w.heap.size w w' := by
  have HS := Lib.hid hs
  have HL := Lib.hid hs.len
  have hw16 : IntKind.i64.wrap 16000 = 16000 := by decide
  clear hs
  have hb0 : Below w.heap.size w (w.alloc (.cells #[.string K, .slice a n c] 26)) := (Below.refl _ _).alloc (Nat.le_refl _) _
  have B0 := Lib.hid hb0
  clear hb0
  by_cases h1 : K.size % 16 = 0
  · have hm3 : (K.size : Int) % 16 = 0 := by omega
    by_cases h2 : K.size ≤ 16000
    · have hd3 : ((K.size / 16 : Nat) : Int) = (K.size : Int) / 16 := by omega
      have hd4 : (0 : Int) ≤ (K.size : Int) / 16 ∧ (K.size : Int) / 16 ≤ 1000 := by omega
      go_enter Try.func28, Try.ntmps28
      go_wp2
      go_quiet ((go_at_call 66; exact Calls.quiet_of_same (size_any _)))
      go_wp2
      go_loopw [3] (fun iv wr => ∃ k : Nat, k ≤ n ∧ iv = .int .i64 k ∧ Hid (∀ j, j < k → CellOk K L j) ∧ Hid (Below (w.heap.size + 1) (w.alloc (.cells #[.string K, .slice a n c] 26)) wr)) (fun iv _ => n - (intOf iv).toNat)
      case atStart => exact ⟨0, Nat.zero_le _, rfl, Lib.hid (fun j hj => by omega), Lib.hid (below_drewsN (Below.refl _ _) _)⟩
      case round =>
        obtain ⟨k, hk, rfl, HA, HB⟩ := hrel
        have BW : Hid (Below w.heap.size w wr) := Lib.hid (B0.out.trans (HB.out.mono (by omega)))
        have k0 := below_two HB.out
        have q0 := cell0_of_two k0
        have q1 := cell1_of_two k0
        have hsz : Hid (w.heap.size + 1 ≤ wr.heap.size) := Lib.hid (by have := HB.out.size; simp at this; omega)
        clear k0
        by_cases hlt : k < n
        · obtain ⟨g, off, ha, hg, d1, d2, d3⟩ := HS.out.cells3_at BW.out (Nat.le_refl _) k hlt
          obtain ⟨x, hx⟩ : ∃ x, L.getD k default = x := ⟨_, rfl⟩
          rw [hx] at d1 d2 d3
          have B1 : Hid (Below (w.heap.size + 1) (w.alloc (.cells #[.string K, .slice a n c] 26)) (wr.alloc (.cells #[.int .i64 x.l, .string x.t, .bool x.f] 68))) := Lib.hid (HB.out.alloc hsz.out _)
          have hpr : Hid (∀ j, j < n → ∃ v, w.cell? ⟨g, off + j * 3, none⟩ = some (.int .i64 v) ∧ v = (L.getD j default).l) := Lib.hid (fun j hj => by
            obtain ⟨g', off', ha', _, c1, _, _⟩ := HS.out.cells3 j hj
            rw [ha] at ha'; cases ha'
            exact ⟨_, c1, rfl⟩)
          have z0 := cell0_of_two (below_two B1.out)
          have z1 := cell1_of_two (below_two B1.out)
          subst ha
          by_cases i1 : 0 ≤ x.l ∧ x.l ≤ (K.size : Int) / 16 - 1
          · have I1 := Lib.hid i1
            clear i1
            by_cases i2 : x.t.size = 16
            · have hi2 : (x.t.size : Int) = 16 := by omega
              match k with
              | 0 =>
                have HX := Lib.hid hx
                clear hx
                simp only [Nat.zero_mul, Nat.add_zero] at d1 d2 d3
                go_wp2
                go_quiet (first
                  | (go_at_call 66; exact Calls.quiet_of_same (size_any _))
                  | (go_at_call 51; exact Calls.quiet_of_same (range_yes _ I1.out)))
                go_wp2
                go_roundw
                case rel => exact ⟨1, by omega, rfl, Lib.hid (fun j hj => by
                  obtain rfl : j = 0 := by omega
                  unfold CellOk
                  rw [HX.out]
                  have := I1.out
                  exact ⟨by omega, by omega, i2, fun h => by omega⟩), Lib.hid (below_drewsN B1.out _)⟩
                case measure => (simp [intOf]; try omega)
              | k + 1 =>
                obtain ⟨yv, hy1, hy2⟩ := hpr.out k (by omega)
                have p1 := ((BW.out.alloc (by have := hsz.out; omega) (.cells #[.int .i64 x.l, .string x.t, .bool x.f] 68)).cell (p := ⟨g, off + k * 3, none⟩) hg).trans hy1
                have HX := Lib.hid hx
                have HY := Lib.hid hy2
                clear hx hy1 hy2
                by_cases i3 : yv < x.l
                · go_wp2
                  go_quiet (first
                    | (go_at_call 66; exact Calls.quiet_of_same (size_any _))
                    | (go_at_call 51; exact Calls.quiet_of_same (range_yes _ I1.out)))
                  go_wp2
                  go_roundw
                  case rel => exact ⟨k + 2, by omega, by go_num, Lib.hid (fun j hj => by
                    by_cases e : j = k + 1
                    · subst e
                      unfold CellOk
                      rw [HX.out]
                      have := I1.out
                      have hyy := HY.out
                      exact ⟨by omega, by omega, i2, fun _ => by rw [show k + 1 - 1 = k by omega, ← hyy]; exact i3⟩
                    · exact HA.out j (by omega)), Lib.hid (below_drewsN B1.out _)⟩
                  case measure => (simp [intOf]; try omega)
                · have HT : Hid (¬ MemOk K L) := Lib.hid (ok_bad (k := k + 1) (by have := HL.out; omega) (fun h => by
                    have h4 := h.2.2.2 (by omega)
                    rw [HX.out, show k + 1 - 1 = k by omega, ← HY.out] at h4
                    exact i3 h4))
                  have i4 : x.l ≤ yv := by omega
                  go_wp2
                  go_quiet (first
                    | (go_at_call 66; exact Calls.quiet_of_same (size_any _))
                    | (go_at_call 51; exact Calls.quiet_of_same (range_yes _ I1.out)))
                  go_wp2
                  go_ret
                  exact ⟨ret_boolm (memOkB_no HT.out).symm, below_drewsN (B0.out.trans (B1.out.mono (by omega))) _⟩
            · have hi2 : ((x.t.size : Int) != 16) = true := by have : ¬ ((x.t.size : Int) = 16) := by omega
                                                               simpa using this
              have HT : Hid (¬ MemOk K L) := Lib.hid (ok_bad (k := k) (by have := HL.out; omega) (fun h => i2 (by rw [← hx]; exact h.2.2.1)))
              go_wp2
              go_quiet (first
                | (go_at_call 66; exact Calls.quiet_of_same (size_any _))
                | (go_at_call 51; exact Calls.quiet_of_same (range_yes _ I1.out)))
              go_wp2
              go_ret
              exact ⟨ret_boolm (memOkB_no HT.out).symm, below_drewsN (B0.out.trans (B1.out.mono (by omega))) _⟩
          · have I1 := Lib.hid i1
            have HT : Hid (¬ MemOk K L) := Lib.hid (ok_bad (k := k) (by have := HL.out; omega) (fun h => i1 (by rw [← hx]; exact ⟨h.1, by have := h.2.1; omega⟩)))
            clear i1
            go_wp2
            go_quiet (first
              | (go_at_call 66; exact Calls.quiet_of_same (size_any _))
              | (go_at_call 51; exact Calls.quiet_of_same (range_no _ I1.out)))
            go_wp2
            go_ret
            exact ⟨ret_boolm (memOkB_no HT.out).symm, below_drewsN (B0.out.trans (B1.out.mono (by omega))) _⟩
        · obtain rfl : k = n := by omega
          have HT : Hid (MemOk K L) := Lib.hid ⟨h1, h2, fun j hj => HA.out j (by rw [HL.out] at hj; exact hj)⟩
          go_wp2
          go_ret
          exact ⟨ret_boolm (memOkB_yes HT.out).symm, BW.out⟩
    · have h2' : ¬ ((K.size : Int) ≤ 16000) := by omega
      have HT : Hid (¬ MemOk K L) := Lib.hid (fun h => h2 h.2.1)
      go_enter Try.func28, Try.ntmps28
      go_wp2
      go_quiet ((go_at_call 66; exact Calls.quiet_of_same (size_any _)))
      go_wp2
      go_ret
      exact ⟨ret_boolm (memOkB_no HT.out).symm, below_drewsN B0.out _⟩
  · have ht3 : (K.size : Int).tmod 16 = (K.size : Int) % 16 := Int.tmod_eq_emod_of_nonneg (by omega)
    have hm3 : ((K.size : Int) % 16 != 0) = true := by have : ¬ ((K.size : Int) % 16 = 0) := by omega
                                                       simpa using this
    have HT : Hid (¬ MemOk K L) := Lib.hid (fun h => h1 h.1)
    go_enter Try.func28, Try.ntmps28
    go_wp2
    go_quiet ((go_at_call 66; exact Calls.quiet_of_same (size_any _)))
    go_wp2
    go_ret
    exact ⟨ret_boolm (memOkB_no HT.out).symm, below_drewsN B0.out _⟩
end Go.Proofs.Ytlemlgadjapamaa
