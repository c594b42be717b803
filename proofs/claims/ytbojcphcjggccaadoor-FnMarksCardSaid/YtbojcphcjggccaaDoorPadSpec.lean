/- The model's PadText, at a text of at most 8000000 bytes. -/
import Derived.Test.YtbojcphcjggccaaDoorPadMath
import Derived.WalkKit
import Derived.WalkSpells
import Derived.WalkLawsBesides
import Derived.Deep.RegionLaw
import Derived.Deep.AppendLies
import Derived.Lib.Hide
namespace Go.Proofs.YtbojcphcjggccaaDoor.Pad
open Go.RowKit Go.Proofs.YtbojcphcjggccaaDoor.Hexa Go.Proofs.YtbojcphcjggccaaDoor.Byt

theorem infoU8 : (Tryd.prog.info? 5).map (fun i => (i.zero, i.size, i.bytes)) = some (some (.int .u8 0), 1, 1) := by kernel_rfl

/-- One byte appended, in the block of the walk's own one-cell slice. -/
theorem out_byte (w : World) {B : Nat} {v : Value} {l : List UInt8} (h : Bytes w B 5 v l) (hB : B ≤ w.heap.size) (ty : TypeId) (c : UInt8) (x : Int) (hx : x = c.toNat) (hl : l.length ≤ 100000000) :
    Out Tryd.prog #[22, 22] ty #[v, .slice (some ⟨w.heap.size, 0, none⟩) 1 1] (w.alloc (.cells #[.int .u8 x] 5)) B 5 (l ++ [c]) := by
  obtain ⟨i0, hi, hz0, hz1, hz2⟩ := info_parts infoU8
  subst hx
  refine append_cells Tryd.underlying22 hi hz0 hz1 hz2 _ (bytes_alloc h _) (by simp; omega) ty ⟨w.heap.size, 0, none⟩ 1 [c] ?_ (by simp; omega)
  exact World.news_of_block (heap_alloc_new _ _)

def lenV : Value → Nat
  | .slice _ n _ => n
  | _ => 0

set_option maxRecDepth 100000 in
set_option maxHeartbeats 1000000 in
theorem spec_any (s : ByteArray) (w : World) (hs : s.size ≤ 8000000) :
    Calls Tryd.prog 52 #[.string s] w fun e w' => e = .returned (.string ⟨(padL s).toArray⟩) ∧ Below w.heap.size w w' := by
  have kc := fun (W : World) => run_bytes_of_string (P := Tryd.prog) W 9 22 5 s Tryd.underlying9 Tryd.underlying22 Tryd.underlying5
  have b0 := bytes_conv w 5 s w.heap.size (Nat.le_refl _) (by omega)
  have g0 : Below w.heap.size w (w.drew.alloc (.cells (bytesRow s (grownCap w s.size 0 5)) 5 ((bytesRow s (grownCap w s.size 0 5)).size, (bytesRow s (grownCap w s.size 0 5)).size + 1))) := below_grown w (Nat.le_refl _) _
  generalize hW0 : w.drew.alloc (.cells (bytesRow s (grownCap w s.size 0 5)) 5 ((bytesRow s (grownCap w s.size 0 5)).size, (bytesRow s (grownCap w s.size 0 5)).size + 1)) = W0 at b0 g0
  have kc0 := kc w
  rw [hW0] at kc0
  clear kc hW0
  have HB := Lib.hid b0
  have HG := Lib.hid g0
  clear b0 g0
  go_enter Tryd.func52, Tryd.ntmps52
  go_wp2_with (first
    | (at_builtin; refine wpList_append_out rfl (.tmp 8) (.tmp 9) 22 22 rfl _ _ rfl rfl (out_byte _ HB.out HG.out.size _ 128 128 rfl (by simp; omega)) ?_; intro v1 w1 hb1 hg1))
  have hB1 : Below w.heap.size w w1 := (HG.out.alloc HG.out.size _).trans hg1
  have HB1 := Lib.hid hb1
  clear HB HG hb1 hg1 kc0
  go_loopw [3] (fun v wr => ∃ j : Nat, j ≤ zer s.size ∧ Bytes wr w.heap.size 5 v (head s j) ∧ Below w.heap.size w wr)
    (fun v _ => s.size + 1 + zer s.size - lenV v)
  case atStart => exact ⟨0, Nat.zero_le _, by simpa [head] using HB1.out, hB1⟩
  case round =>
    obtain ⟨j, hj, hb, hg⟩ := hrel
    clear HB1 hB1
    obtain ⟨a, c, rfl⟩ := bytes_len hb
    have hl := head_length s j
    by_cases hlt : j < zer s.size
    · have hne := zer_not s.size j hlt
      go_wp2_with (first
        | (at_builtin; refine wpList_append_out rfl (.tmp 15) (.tmp 16) 22 22 rfl _ _ rfl rfl (out_byte _ hb hg.size _ 0 0 rfl (by have := zer_lt s.size; omega)) ?_; intro v1 w1 hb1 hg1))
      rw [head_next] at hb1
      go_roundw
      case rel => exact ⟨j + 1, by omega, hb1, (hg.alloc hg.size _).trans hg1⟩
      case measure =>
        obtain ⟨a', c', rfl⟩ := bytes_len hb1
        simp only [lenV, head_length]; omega
    · obtain rfl : j = zer s.size := by omega
      have he := zer_end s.size
      have hf : (((s.size : Int) + 1 + (zer s.size : Int)) % 64 != 56) = false := by simp; omega
      go_wp2
      try rw [hf]
      go_loopw [3, 5] (fun v i wr => ∃ k : Nat, k ≤ 8 ∧ i = .int .i64 (7 - (k : Int)) ∧ Bytes wr w.heap.size 5 v (padK s k) ∧ Below w.heap.size w wr)
        (fun _ i _ => (intOf i + 1).toNat)
      case atStart => exact ⟨0, Nat.zero_le _, rfl, by simpa [padK, lenB] using hb, hg⟩
      case round =>
        clear hb hg hl
        obtain ⟨k, hk, rfl, hb, hg⟩ := hrel
        obtain ⟨a, c, rfl⟩ := bytes_len hb
        have hl := padK_length s k
        have hz := zer_lt s.size
        by_cases hlt : k < 8
        · go_wp2_with (first
            | (at_builtin; refine wpList_append_out rfl (.tmp 25) (.tmp 32) 22 22 rfl _ _ rfl rfl (out_byte _ hb hg.size _ (UInt8.ofNat (8 * s.size / 256 ^ (7 - k))) _ (byte_shift s.size k) (by omega)) ?_; intro v1 w1 hb1 hg1))
          rw [padK_next] at hb1
          go_roundw
          case rel => exact ⟨k + 1, by omega, by go_num, hb1, (hg.alloc hg.size _).trans hg1⟩
          case measure => simp [intOf]; omega
        · obtain rfl : k = 8 := by omega
          have hconv := bytes_string (P := Tryd.prog) 22 9 Tryd.underlying22 Tryd.underlying5 Tryd.underlying9 hb
          rw [hl] at hconv
          go_wp2
          go_ret
          exact ⟨rfl, hg⟩
end Go.Proofs.YtbojcphcjggccaaDoor.Pad
