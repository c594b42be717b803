/- The laws' other text: every byte turned by 85. -/
import Derived.Test.YtepnnmckbcomjaaDoorAesMem
import Derived.Test.YtepnnmckbcomjaaDoorAesText
namespace Go.Proofs.YtepnnmckbcomjaaDoor
open Go.RowKit Go.Proofs.YtepnnmckbcomjaaDoor.Hexa Go.Proofs.YtepnnmckbcomjaaDoor.Byt Go.Proofs.YtepnnmckbcomjaaDoor.Aes Go.Proofs.YtepnnmckbcomjaaDoor.BitsM

def otherU (b : UInt8) : UInt8 := b ^^^ 85
def otherT (s : ByteArray) : ByteArray := txt (s.data.toList.map otherU)
theorem otherT_size (s : ByteArray) : (otherT s).size = s.size := by unfold otherT; rw [txt_size, List.length_map]; simp
theorem otherU_ne (b : UInt8) : otherU b ≠ b := by
  intro h
  have h2 : b ^^^ (b ^^^ 85) = b ^^^ b := by rw [show b ^^^ 85 = b from h]
  rw [← UInt8.xor_assoc, UInt8.xor_self, UInt8.zero_xor] at h2
  exact absurd h2 (by decide)
theorem otherT_ne (s : ByteArray) (h : 0 < s.size) : otherT s ≠ s := by
  intro e
  have e1 : s.data.toList.map otherU = s.data.toList := by
    have := congrArg (fun t => t.data.toList) e
    unfold otherT at this
    rw [txt_list] at this
    exact this
  have hl : 0 < s.data.toList.length := by simpa using h
  match hs : s.data.toList, hl with
  | b :: l, _ =>
    rw [hs] at e1
    simp only [List.map_cons, List.cons.injEq] at e1
    exact otherU_ne b e1.1
theorem other_val (x : UInt8) : bits .xor .u8 (x.toNat : Int) 85 = ((otherU x).toNat : Int) := by
  have := xor8 x 85
  exact this

set_option maxHeartbeats 1000000 in
theorem others_any (s : ByteArray) (w : World) (hs : s.size ≤ 8000000) :
    Calls Tryd.prog 13 #[.string s] w fun e w' => e = .returned (.string (otherT s)) ∧ Below w.heap.size w w' := by
  have kc0 := run_bytes_of_string (P := Tryd.prog) w 9 22 5 s Tryd.underlying9 Tryd.underlying22 Tryd.underlying5
  have b0 := bytes_conv w 5 s w.heap.size (Nat.le_refl _) (by omega)
  have g0 : Below w.heap.size w (w.drew.alloc (.cells (bytesRow s (grownCap w s.size 0 5)) 5 ((bytesRow s (grownCap w s.size 0 5)).size, (bytesRow s (grownCap w s.size 0 5)).size + 1))) := below_grown _ (Nat.le_refl _) _
  generalize w.drew.alloc (.cells (bytesRow s (grownCap w s.size 0 5)) 5 ((bytesRow s (grownCap w s.size 0 5)).size, (bytesRow s (grownCap w s.size 0 5)).size + 1)) = W0 at b0 g0 kc0
  generalize grownCap w s.size 0 5 = c0 at b0 kc0
  have hsl : s.data.toList.length = s.size := by simp
  have HB := Lib.hid b0
  have HG := Lib.hid g0
  obtain ⟨n, hn⟩ : ∃ n, s.size = n := ⟨_, rfl⟩
  rw [hn] at hsl kc0 HB hs
  clear b0 g0
  go_enter Tryd.func13, Tryd.ntmps13
  go_wp2
  clear kc0
  go_loopw [4] (fun iv wr => ∃ k : Nat, k ≤ n ∧ iv = .int .i64 k ∧ Hid (Bytes wr w.heap.size 5 (.slice (some ⟨w.heap.size, 0, none⟩) n c0) (turnT otherU s.data.toList k)) ∧ Hid (Below w.heap.size w wr))
    (fun iv _ => n - (intOf iv).toNat)
  case atStart => exact ⟨0, Nat.zero_le _, rfl, Lib.hid (by rw [turnT_zero]; exact HB.out), HG⟩
  case round =>
    clear HB HG
    obtain ⟨k, hk, rfl, HW, HL⟩ := hrel
    have htl := turnT_length otherU s.data.toList k
    by_cases hlt : k < n
    · have hkl : k < s.data.toList.length := by omega
      have h9 := HW.out
      have hln : n = (turnT otherU s.data.toList k).length := by omega
      have h10 : Bytes wr w.heap.size 5 (.slice (some ⟨w.heap.size, 0, none⟩) (turnT otherU s.data.toList k).length c0) (turnT otherU s.data.toList k) := by rw [← hln]; exact h9
      obtain ⟨hc, hz, hB⟩ := bytes_at h10 k (by omega)
      have hlk : (turnT otherU s.data.toList k)[k]'(by omega) = s.data.toList[k]'hkl := by
        have h1 := turnT_at otherU s.data.toList k hkl
        rw [List.getElem?_eq_getElem (by omega)] at h1
        exact Option.some.inj h1
      have N1 := bytes_set h10 k (otherU (s.data.toList[k]'hkl))
      rw [turnT_set otherU s.data.toList k hkl, ← hln] at N1
      rw [hlk] at hc
      generalize s.data.toList[k]'hkl = x at hc N1
      have hov := other_val x
      have W1 := Lib.hid N1
      have B1 := Lib.hid (HL.out.setCell (p := ⟨w.heap.size, k, none⟩) (Nat.le_refl _) (.int .u8 ((otherU x).toNat : Int)))
      clear N1 h9 h10 hlk hln hkl htl
      go_wp2
      go_roundw
      case rel => exact ⟨k + 1, by omega, by go_num, W1, B1⟩
      case measure => (simp [intOf]; try omega)
    · obtain rfl : k = n := by omega
      have h9 := HW.out
      have hconv := bytes_string (P := Tryd.prog) 22 9 Tryd.underlying22 Tryd.underlying5 Tryd.underlying9 h9
      rw [show turnT otherU s.data.toList k = s.data.toList.map otherU by rw [← hsl]; exact turnT_all _ _] at hconv
      clear h9
      go_wp2
      go_ret
      exact ⟨rfl, HL.out⟩
end Go.Proofs.YtepnnmckbcomjaaDoor
