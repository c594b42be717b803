/- The model's text turned by the box. -/
import Derived.Test.YtepnnmckbcomjaaDoorAesMem
namespace Go.Proofs.YtepnnmckbcomjaaDoor
open Go.RowKit Go.Proofs.YtepnnmckbcomjaaDoor.Hexa Go.Proofs.YtepnnmckbcomjaaDoor.Byt Go.Proofs.YtepnnmckbcomjaaDoor.Aes

set_option maxHeartbeats 1000000 in
theorem specBoxed_any (s : ByteArray) (w : World) (hs : s.size ≤ 8000000) :
    Calls Tryd.prog 36 #[.string s, .agg boxCells] w fun e w' => e = .returned (.string ⟨(boxL s.data.toList).toArray⟩) ∧ Below w.heap.size w w' := by
  have kc0 := run_bytes_of_string (P := Tryd.prog) (w.alloc (.cells boxCells 43)) 9 22 5 s Tryd.underlying9 Tryd.underlying22 Tryd.underlying5
  have b0 := bytes_conv (w.alloc (.cells boxCells 43)) 5 s (w.heap.size + 1) (by simp) (by omega)
  have g0 : Below (w.heap.size + 1) (w.alloc (.cells boxCells 43)) ((w.alloc (.cells boxCells 43)).drew.alloc (.cells (bytesRow s (grownCap (w.alloc (.cells boxCells 43)) s.size 0 5)) 5 ((bytesRow s (grownCap (w.alloc (.cells boxCells 43)) s.size 0 5)).size, (bytesRow s (grownCap (w.alloc (.cells boxCells 43)) s.size 0 5)).size + 1))) := below_grown _ (by simp) _
  generalize (w.alloc (.cells boxCells 43)).drew.alloc (.cells (bytesRow s (grownCap (w.alloc (.cells boxCells 43)) s.size 0 5)) 5 ((bytesRow s (grownCap (w.alloc (.cells boxCells 43)) s.size 0 5)).size, (bytesRow s (grownCap (w.alloc (.cells boxCells 43)) s.size 0 5)).size + 1)) = W0 at b0 g0 kc0
  generalize grownCap (w.alloc (.cells boxCells 43)) s.size 0 5 = c0 at b0 kc0
  simp only [World.size_alloc] at b0 kc0
  have hsl : s.data.toList.length = s.size := by simp
  have HB := Lib.hid b0
  have HG := Lib.hid g0
  have HX : Hid ((w.alloc (.cells boxCells 43)).heap[w.heap.size]? = some (.cells boxCells 43 (0, 0))) := Lib.hid (heap_alloc_new w _)
  obtain ⟨n, hn⟩ : ∃ n, s.size = n := ⟨_, rfl⟩
  rw [hn] at hsl kc0 HB hs
  clear b0 g0
  go_enter Tryd.func36, Tryd.ntmps36
  go_wp2
  clear kc0
  go_loopw [6] (fun iv wr => ∃ k : Nat, k ≤ n ∧ iv = .int .i64 k ∧ Hid (Bytes wr (w.heap.size + 1) 5 (.slice (some ⟨w.heap.size + 1, 0, none⟩) n c0) (turnT boxU s.data.toList k)) ∧ Hid (Below (w.heap.size + 1) (w.alloc (.cells boxCells 43)) wr))
    (fun iv _ => n - (intOf iv).toNat)
  case atStart => exact ⟨0, Nat.zero_le _, rfl, Lib.hid (by rw [turnT_zero]; exact HB.out), HG⟩
  case round =>
    clear HB HG
    obtain ⟨k, hk, rfl, HW, HL⟩ := hrel
    have htl := turnT_length boxU s.data.toList k
    by_cases hlt : k < n
    · have hkl : k < s.data.toList.length := by omega
      have h9 := HW.out
      have hln : n = (turnT boxU s.data.toList k).length := by omega
      have h10 : Bytes wr (w.heap.size + 1) 5 (.slice (some ⟨w.heap.size + 1, 0, none⟩) (turnT boxU s.data.toList k).length c0) (turnT boxU s.data.toList k) := by rw [← hln]; exact h9
      obtain ⟨hc, hz, hB⟩ := bytes_at h10 k (by omega)
      have hlk : (turnT boxU s.data.toList k)[k]'(by omega) = s.data.toList[k]'hkl := by
        have h1 := turnT_at boxU s.data.toList k hkl
        rw [List.getElem?_eq_getElem (by omega)] at h1
        exact Option.some.inj h1
      have N1 := bytes_set h10 k (boxU (s.data.toList[k]'hkl))
      rw [turnT_set boxU s.data.toList k hkl, ← hln] at N1
      rw [hlk] at hc
      generalize s.data.toList[k]'hkl = x at hc N1
      have hcb := cell_box (HL.out.block w.heap.size (by omega) ▸ HX.out) x
      have W1 := Lib.hid N1
      have B1 := Lib.hid (HL.out.setCell (p := ⟨w.heap.size + 1, k, none⟩) (Nat.le_refl _) (.int .u8 ((boxU x).toNat : Int)))
      have hbd := x.toNat_lt
      clear N1 h9 h10 hlk hln hkl htl
      go_wp2
      go_roundw
      case rel => exact ⟨k + 1, by omega, by go_num, W1, B1⟩
      case measure => (simp [intOf]; try omega)
    · obtain rfl : k = n := by omega
      have h9 := HW.out
      have hconv := bytes_string (P := Tryd.prog) 22 9 Tryd.underlying22 Tryd.underlying5 Tryd.underlying9 h9
      rw [show turnT boxU s.data.toList k = boxL s.data.toList by rw [← hsl]; exact turnT_all _ _] at hconv
      clear h9
      go_wp2
      go_ret
      exact ⟨rfl, ((Below.refl _ _).alloc (Nat.le_refl _) _).trans (HL.out.mono (by omega))⟩
end Go.Proofs.YtepnnmckbcomjaaDoor
