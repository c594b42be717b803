/- The program's MemoryOk. -/
import Derived.Test.YtlemlgadjapamaaMemOkSpec
namespace Go.Proofs.Ytlemlgadjapamaa
open Go.RowKit Go.Proofs.Ytlemlgadjapamaa.Parts Go.Proofs.Ytlemlgadjapamaa.Hexa

set_option maxRecDepth 100000 in
set_option maxHeartbeats 2000000 in
theorem implOk_any (K : ByteArray) (a : Option Addr) (n c : Nat) (L : List C3) (w : World) (hs : SrcC w a n L) (hn : n ≤ 1048600) (hK : K.size ≤ 1048600) :
    Calls Try.prog 25 #[.agg #[.string K, .slice a n c]] w fun e w' => e = .returned (.bool (memOkB K L)) ∧ Below w.heap.size w w' := by
  have HS := Lib.hid hs
  have HL := Lib.hid hs.len
  clear hs
  have hb0 : Below w.heap.size w (w.alloc (.cells #[.string K, .slice a n c] 26)) := (Below.refl _ _).alloc (Nat.le_refl _) _
  have B0 := Lib.hid hb0
  clear hb0
  have ht3 : (K.size : Int).tmod 16 = (K.size : Int) % 16 := Int.tmod_eq_emod_of_nonneg (by omega)
  have ht4 : (K.size : Int).tdiv 16 = (K.size : Int) / 16 := Int.tdiv_eq_ediv_of_nonneg (by omega)
  by_cases h1 : K.size % 16 = 0
  · have hm3 : (K.size : Int) % 16 = 0 := by omega
    by_cases h2 : K.size ≤ 16000
    · have hd4 : (0 : Int) ≤ (K.size : Int) / 16 ∧ (K.size : Int) / 16 ≤ 1000 := by omega
      go_enter Try.func25, Try.ntmps25
      go_wp2
      go_loopw [4, 23] (fun lv iv wr => ∃ (k : Nat) (le : Int), k ≤ n ∧ iv = .int .i64 k ∧ lv = .int .i64 le ∧ 0 ≤ le ∧ le ≤ 1000 ∧ Hid ((k = 0 ∧ le = 0) ∨ (0 < k ∧ le = (L.getD (k - 1) default).l + 1)) ∧ Hid (∀ j, j < k → CellOk K L j) ∧ Hid (Below (w.heap.size + 1) (w.alloc (.cells #[.string K, .slice a n c] 26)) wr)) (fun _ iv _ => n - (intOf iv).toNat)
      case atStart => exact ⟨0, 0, Nat.zero_le _, rfl, rfl, by omega, by omega, Lib.hid (.inl ⟨rfl, rfl⟩), Lib.hid (fun j hj => by omega), Lib.hid (Below.refl _ _)⟩
      case round =>
        obtain ⟨k, le, hk, rfl, rfl, hl0, hl1, HP, HA, HB⟩ := hrel
        have BW : Hid (Below w.heap.size w wr) := Lib.hid (B0.out.trans (HB.out.mono (by omega)))
        have hsz : Hid (w.heap.size + 1 ≤ wr.heap.size) := Lib.hid (by have := HB.out.size; simp at this; omega)
        by_cases hlt : k < n
        · obtain ⟨g, off, rfl, hg, d1, d2, d3⟩ := HS.out.cells3_at BW.out (Nat.le_refl _) k hlt
          obtain ⟨x, hx⟩ : ∃ x, L.getD k default = x := ⟨_, rfl⟩
          rw [hx] at d1 d2 d3
          have B1 : Hid (Below (w.heap.size + 1) (w.alloc (.cells #[.string K, .slice (some ⟨g, off, none⟩) n c] 26)) (wr.alloc (.cells #[.int .i64 x.l, .string x.t, .bool x.f] 68))) := Lib.hid (HB.out.alloc hsz.out _)
          have HX := Lib.hid hx
          clear hx
          by_cases i1 : x.l < le
          · have HT : Hid (¬ MemOk K L) := Lib.hid (ok_bad (k := k) (by have := HL.out; omega) (fun h => by
              rcases HP.out with ⟨_, h4⟩ | ⟨h3, h4⟩
              · have := h.1; rw [HX.out] at this; omega
              · have := h.2.2.2 h3; rw [HX.out] at this; omega))
            go_wp2
            go_ret
            exact ⟨ret_boolm (memOkB_no HT.out).symm, B0.out.trans (B1.out.mono (by omega))⟩
          · by_cases i2 : (K.size : Int) / 16 ≤ x.l
            · have HT : Hid (¬ MemOk K L) := Lib.hid (ok_bad (k := k) (by have := HL.out; omega) (fun h => by have := h.2.1; rw [HX.out] at this; omega))
              go_wp2
              go_ret
              exact ⟨ret_boolm (memOkB_no HT.out).symm, B0.out.trans (B1.out.mono (by omega))⟩
            · by_cases i3 : x.t.size = 16
              · have hi3 : (x.t.size : Int) = 16 := by omega
                go_wp2
                go_roundw
                case rel => exact ⟨k + 1, x.l + 1, by omega, by go_num, rfl, by omega, by omega, Lib.hid (.inr ⟨by omega, by rw [show k + 1 - 1 = k by omega, HX.out]⟩), Lib.hid (fun j hj => by
                  by_cases e : j = k
                  · subst e
                    unfold CellOk
                    rw [HX.out]
                    refine ⟨by omega, by omega, i3, fun h => ?_⟩
                    rcases HP.out with ⟨h3, _⟩ | ⟨_, h4⟩
                    · omega
                    · omega
                  · exact HA.out j (by omega)), B1⟩
                case measure => (simp [intOf]; try omega)
              · have hi3 : ((x.t.size : Int) != 16) = true := by have : ¬ ((x.t.size : Int) = 16) := by omega
                                                                 simpa using this
                have HT : Hid (¬ MemOk K L) := Lib.hid (ok_bad (k := k) (by have := HL.out; omega) (fun h => i3 (by rw [← HX.out]; exact h.2.2.1)))
                go_wp2
                go_ret
                exact ⟨ret_boolm (memOkB_no HT.out).symm, B0.out.trans (B1.out.mono (by omega))⟩
        · obtain rfl : k = n := by omega
          have HT : Hid (MemOk K L) := Lib.hid ⟨h1, h2, fun j hj => HA.out j (by rw [HL.out] at hj; exact hj)⟩
          go_wp2
          go_ret
          exact ⟨ret_boolm (memOkB_yes HT.out).symm, BW.out⟩
    · have h2' : ¬ ((K.size : Int) / 16 ≤ 1000) := by omega
      have HT : Hid (¬ MemOk K L) := Lib.hid (fun h => h2 h.2.1)
      go_enter Try.func25, Try.ntmps25
      go_wp2
      go_ret
      exact ⟨ret_boolm (memOkB_no HT.out).symm, B0.out⟩
  · have hm3 : ((K.size : Int) % 16 != 0) = true := by have : ¬ ((K.size : Int) % 16 = 0) := by omega
                                                       simpa using this
    have HT : Hid (¬ MemOk K L) := Lib.hid (fun h => h1 h.1)
    go_enter Try.func25, Try.ntmps25
    go_wp2
    go_ret
    exact ⟨ret_boolm (memOkB_no HT.out).symm, B0.out⟩
end Go.Proofs.Ytlemlgadjapamaa
