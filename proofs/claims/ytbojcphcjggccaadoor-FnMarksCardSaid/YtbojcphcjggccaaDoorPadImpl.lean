/- The program's PadText, at a text of at most 8000000 bytes. -/
import Derived.Test.YtbojcphcjggccaaDoorPadSpec
namespace Go.Proofs.YtbojcphcjggccaaDoor.Pad
open Go.RowKit Go.Proofs.YtbojcphcjggccaaDoor.Hexa Go.Proofs.YtbojcphcjggccaaDoor.Byt

theorem out_text (w : World) {B : Nat} {v : Value} {l : List UInt8} (h : Bytes w B 5 v l) (hB : B ≤ w.heap.size) (ty : TypeId) (s : ByteArray) (hl : l.length + s.size ≤ 100000000) :
    Out Tryd.prog #[22, 9] ty #[v, .string s] w B 5 (l ++ s.data.toList) := by
  obtain ⟨i0, hi, hz0, hz1, hz2⟩ := info_parts infoU8
  exact append_text Tryd.underlying22 hi hz0 hz1 hz2 Tryd.underlying9 w h hB ty s (by omega)
theorem out_zeros (w : World) {B : Nat} {v : Value} {l : List UInt8} (h : Bytes w B 5 v l) (hB : B ≤ w.heap.size) (hv : l ≠ []) (ty : TypeId) (k : Nat) (hl : l.length + k ≤ 100000000) :
    Out Tryd.prog #[22, 3] ty #[v, .int .i64 k] w B 5 (l ++ List.replicate k 0) := by
  obtain ⟨i0, hi, hz0, hz1, hz2⟩ := info_parts infoU8
  refine append_zeros Tryd.underlying22 hi hz0 hz1 hz2 Tryd.underlying3 w h hB ?_ ty k (by omega)
  rintro rfl
  rcases h with ⟨_, h⟩ | ⟨g, cap, cur, fz, h, _⟩
  · exact hv h
  · cases h

theorem shift_u (n k : Nat) : 8 * (n : Int) / 2 ^ (56 - 8 * k) % 256 = ((UInt8.ofNat (8 * n / 256 ^ (7 - k))).toNat : Int) := by
  rw [show 56 - 8 * k = 8 * (7 - k) by omega]; exact byte_shift n k

set_option maxRecDepth 100000 in
set_option maxHeartbeats 1000000 in
theorem impl_any (s : ByteArray) (w : World) (hs : s.size ≤ 8000000) :
    Calls Tryd.prog 7 #[.string s] w fun e w' => e = .returned (.string ⟨(padL s).toArray⟩) ∧ Below w.heap.size w w' := by
  obtain ⟨i0, hi, hz0, hz1, hz2⟩ := info_parts infoU8
  have hz := zer_lt s.size
  have d1 : (64 - ((s.size : Int) + 1 + 8) % 64) % 64 = (zer s.size : Int) := by unfold zer; omega
  have d2 : -(((s.size : Int) + 1 + 8) % 64) % 64 = (zer s.size : Int) := by unfold zer; omega
  go_enter Tryd.func7, Tryd.ntmps7
  go_wp2_with (first
    | (at_make; refine wpList_make_own _ rfl _ _ 22 rfl w.heap.size 5 i0 (.int .u8 0) 1 Tryd.underlying22 hi hz0 hz1 .i64 .i64 _ (s.size + 1 + zer s.size + 8) rfl rfl (by omega) (by rw [hz2]; omega) (by unfold maxLen; omega) (Nat.le_refl _) ?_; intro w0 hown0 hgrow0)
    | (at_builtin; refine wpList_append_out rfl (.tmp 23) (.tmp 24) 22 9 rfl _ _ rfl rfl (out_text w0 (bytes_of_own (l := []) hown0) hgrow0.size _ s (by simp; omega)) ?_; intro v1 w1 hb1 hg1)
    | (at_builtin; refine wpList_append_out rfl (.tmp 26) (.tmp 27) 22 22 rfl _ _ rfl rfl (out_byte w1 hb1 (Nat.le_trans hgrow0.size hg1.size) _ 128 128 rfl (by simp; omega)) ?_; intro v2 w2 hb2 hg2)
    | (at_builtin; refine wpList_append_out rfl (.tmp 29) (.tmp 30) 22 3 rfl _ _ rfl rfl (out_zeros w2 hb2 (Nat.le_trans hgrow0.size (Nat.le_trans hg1.size (Nat.le_trans (by simp) hg2.size))) (by simp) _ (zer s.size) (by simp; omega)) ?_; intro v3 w3 hb3 hg3))
  have hB1 := (Below.refl w.heap.size w).grown hgrow0 (Nat.le_refl _) (fun k h => by cases h)
  have hB2 := hB1.trans hg1
  have hB3 := ((hB2.alloc hB2.size _).trans hg2).trans hg3
  have HB := Lib.hid hb3
  clear hb1 hg1 hb2 hg2 hb3 hg3 hown0 hgrow0 hB1 hB2 d1 d2
  go_loopw [5, 7] (fun v i wr => ∃ k : Nat, k ≤ 8 ∧ i = .int .i64 (56 - 8 * (k : Int)) ∧ Bytes wr w.heap.size 5 v (padK s k) ∧ Below w.heap.size w wr)
    (fun _ i _ => (intOf i + 8).toNat)
  case atStart => exact ⟨0, Nat.zero_le _, rfl, by simpa [padK, lenB, head] using HB.out, hB3⟩
  case round =>
    clear HB hB3
    obtain ⟨k, hk, rfl, hb, hg⟩ := hrel
    obtain ⟨a, c, rfl⟩ := bytes_len hb
    have hl := padK_length s k
    by_cases hlt : k < 8
    · have hsh : ((56 - 8 * (k : Int))).toNat = 56 - 8 * k := by omega
      go_wp2_with (first
        | (at_builtin; refine wpList_append_out rfl (.tmp 40) (.tmp 45) 22 22 rfl _ _ rfl rfl (out_byte _ hb hg.size _ (UInt8.ofNat (8 * s.size / 256 ^ (7 - k))) _ (shift_u s.size k) (by omega)) ?_; intro v1 w1 hb1 hg1))
      rw [padK_next] at hb1
      go_roundw
      case rel => exact ⟨k + 1, by omega, by go_num, hb1, (hg.alloc hg.size _).trans hg1⟩
      case measure => simp [intOf]; omega
    · obtain rfl : k = 8 := by omega
      have hconv := bytes_string (P := Tryd.prog) 22 9 Tryd.underlying22 Tryd.underlying5 Tryd.underlying9 hb
      rw [hl] at hconv
      go_wp2
      go_ret
      exact ⟨rfl, hg⟩
end Go.Proofs.YtbojcphcjggccaaDoor.Pad
