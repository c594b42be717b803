/- The program's WordsOf. -/
import Derived.Test.YtppdjhchangikaaWordImpl
import Derived.Test.YtppdjhchangikaaWordsMath
namespace Go.Proofs.Ytppdjhchangikaa
open Go.RowKit Go.Proofs.Ytppdjhchangikaa.Hexa Go.Proofs.Ytppdjhchangikaa.Byt Go.Proofs.Ytppdjhchangikaa.BitsM Go.Proofs.Ytppdjhchangikaa.Parts

set_option maxRecDepth 100000 in
set_option maxHeartbeats 1000000 in
theorem implWords_any (s : ByteArray) (w : World) (hs : s.size ≤ 20000) :
    Calls Try.prog 40 #[.string s] w (GivesT (wordsL s) w) := by
  obtain ⟨i0, hi, hz0, hz1, hz2⟩ := info_parts infoText
  unfold GivesT
  rw [wordsL_length]
  have hN : wordsN s = (s.size + 7) / 8 := rfl
  generalize hNN : wordsN s = N at hN
  have HNN := Lib.hid hNN
  have hN2 : 8 * N ≤ s.size + 7 := by omega
  have hN3 : s.size ≤ 8 * N := by omega
  have hC : ((s.size : Int) + 8 - 1) / 8 = (N : Int) := by omega
  clear hNN hN
  go_enter Try.func40, Try.ntmps40
  go_wp2_with (at_make; refine wpList_make_own _ rfl _ _ 30 rfl w.heap.size 9 i0 (.string ⟨#[]⟩) 1 Try.underlying30 hi hz0 hz1 .i64 .i64 _ N rfl rfl (by omega) (by rw [hz2]; omega) (by unfold maxLen; omega) (Nat.le_refl _) ?_; intro w0 hown0 hgrow0)
  have hg0 : Below w.heap.size w w0 := (Below.refl _ _).grown hgrow0 (Nat.le_refl _) (fun k h => by cases h)
  have HO0 := Lib.hid hown0
  clear hown0 hgrow0 hC
  go_loopw [3, 4] (fun v iv wr => ∃ k : Nat, k ≤ N ∧ iv = .int .i64 (8 * (k : Int)) ∧ Hid (wr.ownsRow w.heap.size 9 1 v k (scells (wordsTo s k))) ∧ Below w.heap.size w wr)
    (fun _ iv _ => (8 * (N : Int) - intOf iv).toNat)
  case atStart => exact ⟨0, Nat.zero_le _, by go_num, HO0, hg0⟩
  case round =>
    clear HO0 hg0
    obtain ⟨k, hk, rfl, HW, hbel⟩ := hrel
    by_cases hlt : 8 * k < s.size
    · have hN1 : k < N := by omega
      have HWN := Lib.hid (wordsTo_next s k)
      by_cases hend : 8 * k + 8 ≤ s.size
      · have HE : Hid (wordAt s k = wordB (s.extract (8 * k) (8 * k + 8))) := Lib.hid (by unfold wordAt; rw [Nat.min_eq_left hend])
        have n1 : (8 * (k : Int)).toNat = 8 * k := by omega
        have n2 : (8 * (k : Int) + 8).toNat = 8 * k + 8 := by omega
        have n3 : min (8 * (k : Int) + 8) (s.size : Int) = 8 * (k : Int) + 8 := by omega
        go_wp2_with (first
          | (go_at_call 49; refine (implWord_any _ _).mono ?_; rintro e w1 ⟨rfl, hb1⟩; rw [← HE.out]; have hb2 : Below w.heap.size w w1 := hbel.trans (hb1.mono hbel.size); have HW1 := Lib.hid (own_below HW.out hb1))
          | (at_builtin; refine wpList_append_own _ rfl (.tmp 20) (.tmp 30) 30 rfl w.heap.size 9 i0 (.string ⟨#[]⟩) 1 16 Try.underlying30 hi hz0 hz1 hz2 rfl (by decide) _ _ _ rfl (HW1.out.alloc _) ⟨w1.heap.size, 0, none⟩ 1 1 [.string (wordAt s k)] rfl rfl (World.news_of_block (heap_alloc_new _ _)) (by simp [Value.oneCell']) (by unfold maxLen; omega) (by omega) (by have := hb2.size; simp; omega) ?_; intro v2 w2 hown2 hgrow2 hn2))
        have hb3 : Below w.heap.size w w2 := (hb2.alloc hb2.size _).grown hgrow2 (by have := hb2.size; simp; omega) (own_block_ge HW1.out)
        rw [HWN.out] at hown2
        have HO2 := Lib.hid hown2
        clear hown2 hgrow2 hn2
        go_roundw
        case rel => exact ⟨k + 1, by omega, by go_num, HO2, hb3⟩
        case measure => (simp [intOf]; try omega)
      · have HE : Hid (wordAt s k = wordB (s.extract (8 * k) s.size)) := Lib.hid (by unfold wordAt; rw [Nat.min_eq_right (by omega)])
        have n1 : (8 * (k : Int)).toNat = 8 * k := by omega
        have n3 : min (8 * (k : Int) + 8) (s.size : Int) = (s.size : Int) := by omega
        go_wp2_with (first
          | (go_at_call 49; refine (implWord_any _ _).mono ?_; rintro e w1 ⟨rfl, hb1⟩; rw [← HE.out]; have hb2 : Below w.heap.size w w1 := hbel.trans (hb1.mono hbel.size); have HW1 := Lib.hid (own_below HW.out hb1))
          | (at_builtin; refine wpList_append_own _ rfl (.tmp 20) (.tmp 30) 30 rfl w.heap.size 9 i0 (.string ⟨#[]⟩) 1 16 Try.underlying30 hi hz0 hz1 hz2 rfl (by decide) _ _ _ rfl (HW1.out.alloc _) ⟨w1.heap.size, 0, none⟩ 1 1 [.string (wordAt s k)] rfl rfl (World.news_of_block (heap_alloc_new _ _)) (by simp [Value.oneCell']) (by unfold maxLen; omega) (by omega) (by have := hb2.size; simp; omega) ?_; intro v2 w2 hown2 hgrow2 hn2))
        have hb3 : Below w.heap.size w w2 := (hb2.alloc hb2.size _).grown hgrow2 (by have := hb2.size; simp; omega) (own_block_ge HW1.out)
        rw [HWN.out] at hown2
        have HO2 := Lib.hid hown2
        clear hown2 hgrow2 hn2
        go_roundw
        case rel => exact ⟨k + 1, by omega, by go_num, HO2, hb3⟩
        case measure => (simp [intOf]; try omega)
    · obtain rfl : k = N := by omega
      go_wp2
      go_ret
      have ho := HW.out
      rw [← HNN.out] at ho
      exact ⟨_, rfl, by rw [← HNN.out]; exact ho, hbel⟩

set_option maxRecDepth 100000 in
set_option maxHeartbeats 400000 in
theorem implWords_long (s : ByteArray) (w : World) (hs : 20000 < s.size) :
    Calls Try.prog 40 #[.string s] w (GivesT [] w) := by
  go_enter Try.func40, Try.ntmps40
  go_wp2
  go_ret
  exact ⟨_, rfl, World.ownsRow_nil _ _ _ 1, Below.refl _ _⟩
end Go.Proofs.Ytppdjhchangikaa
