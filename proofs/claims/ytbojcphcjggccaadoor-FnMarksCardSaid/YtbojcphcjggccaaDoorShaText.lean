/- The digest's bytes; the program's text of a state. -/
import Derived.Test.YtbojcphcjggccaaDoorShaFirst
import Derived.Test.YtbojcphcjggccaaDoorPadSpec
namespace Go.Proofs.YtbojcphcjggccaaDoor
open Go.RowKit Go.Proofs.YtbojcphcjggccaaDoor.Sha Go.Proofs.YtbojcphcjggccaaDoor.Hexa Go.Proofs.YtbojcphcjggccaaDoor.Parts Go.Proofs.YtbojcphcjggccaaDoor.Byt

/-- The four bytes of a word, the greatest first. -/
def be4 (x : UInt32) : List UInt8 := [UInt8.ofNat (x.toNat / 16777216), UInt8.ofNat (x.toNat / 65536), UInt8.ofNat (x.toNat / 256), UInt8.ofNat x.toNat]
/-- The digest's bytes. -/
def textL (S : St8) : List UInt8 := S.list.flatMap be4
theorem textL_length (S : St8) : (textL S).length = 32 := rfl
theorem ofNat_u (n : Nat) : ((UInt8.ofNat n).toNat : Int) = (n : Int) % 256 := by rw [UInt8.toNat_ofNat']; simp
theorem be4_cells (x : UInt32) : bcells (be4 x) = [.int .u8 (u x / 16777216), .int .u8 (u x / 65536 % 256), .int .u8 (u x / 256 % 256), .int .u8 (u x % 256)] := by
  have e1 : ((x.toNat / 16777216 : Nat) : Int) = u x / 16777216 := by unfold u; omega
  have e2 : ((x.toNat / 65536 : Nat) : Int) = u x / 65536 := by unfold u; omega
  have e3 : ((x.toNat / 256 : Nat) : Int) = u x / 256 := by unfold u; omega
  have e4 : (x.toNat : Int) = u x := rfl
  have e5 : u x / 16777216 % 256 = u x / 16777216 := by have := u_bd x; omega
  simp only [bcells, be4, List.map_cons, List.map_nil, ofNat_u, e1, e2, e3, e4, e5]
theorem text_snoc (l : List UInt32) (k : Nat) (hk : k < l.length) : (l.take k).flatMap be4 ++ be4 (l.getD k 0) = (l.take (k + 1)).flatMap be4 := by
  have e : l.getD k 0 = l[k] := by simp [List.getD, hk]
  rw [List.take_succ_eq_append_getElem hk, e, List.flatMap_append]; simp
theorem flat_length : ∀ (l : List UInt32), (l.flatMap be4).length = 4 * l.length
  | [] => rfl
  | x :: l => by rw [List.flatMap_cons, List.length_append, flat_length l]; simp [be4]; omega

/-- Four bytes appended, in the block of the walk's own slice of four. -/
theorem out_four (w : World) {B : Nat} {v : Value} {l : List UInt8} (h : Bytes w B 5 v l) (hB : B ≤ w.heap.size) (ty : TypeId) (x : UInt32) (hl : l.length ≤ 100000000) :
    Out Tryd.prog #[22, 22] ty #[v, .slice (some ⟨w.heap.size, 0, none⟩) 4 4] (w.alloc (.cells #[.int .u8 (u x / 16777216), .int .u8 (u x / 65536 % 256), .int .u8 (u x / 256 % 256), .int .u8 (u x % 256)] 5)) B 5 (l ++ be4 x) := by
  obtain ⟨i0, hi, hz0, hz1, hz2⟩ := info_parts Pad.infoU8
  refine append_cells Tryd.underlying22 hi hz0 hz1 hz2 _ (bytes_alloc h _) (by simp; omega) ty ⟨w.heap.size, 0, none⟩ 4 (be4 x) ?_ (by simp [be4]; omega)
  rw [be4_cells]
  exact World.news_of_block (heap_alloc_new _ _)

theorem cells_getU (S : St8) (k : Nat) (hk : k < 8) : S.cells[k]? = some (.int .u32 (u (S.list.getD k 0))) := by rw [cells_get S k hk, ints_get S k hk]

set_option maxRecDepth 100000 in
set_option maxHeartbeats 1000000 in
theorem text_any (S : St8) (w : World) : Calls Tryd.prog 29 #[.agg S.cells] w fun e w' => e = .returned (.string ⟨(textL S).toArray⟩) ∧ Below w.heap.size w w' := by
  obtain ⟨i0, hi, hz0, hz1, hz2⟩ := info_parts Pad.infoU8
  obtain ⟨j0, gi, gz0, gz1, gz2⟩ := info_parts infoU32
  have HX := Lib.hid (cells_getU S)
  obtain ⟨I, hI⟩ : ∃ I, S.list = I := ⟨_, rfl⟩
  have HIL : Hid (I.length = 8) := Lib.hid (by rw [← hI]; rfl)
  obtain ⟨st, hst⟩ : ∃ st, S.cells = st := ⟨_, rfl⟩
  have hss : Hid (st.size = 8) := Lib.hid (by rw [← hst]; rfl)
  unfold textL
  rw [hst] at HX ⊢
  rw [hI] at HX ⊢
  clear hI hst
  have HB0 : Hid (Below w.heap.size w (w.alloc (.cells st 45))) := Lib.hid ((Below.refl _ _).alloc (Nat.le_refl _) _)
  have HN0 := Lib.hid (heap_alloc_new w (.cells st 45))
  go_enter Tryd.func29, Tryd.ntmps29
  go_wp2_with (first
    | (at_make; refine wpList_make_own _ rfl _ _ 22 rfl w.heap.size 5 i0 (.int .u8 0) 1 Tryd.underlying22 hi hz0 hz1 .i64 .i64 _ 32 rfl rfl (by omega) (by rw [hz2]; omega) (by unfold maxLen; omega) (by simp) ?_; intro w0 hown0 hgrow0
       have hg0 : Below (w.alloc (.cells st 45)).heap.size (w.alloc (.cells st 45)) w0 := (Below.refl _ _).grown hgrow0 (Nat.le_refl _) (fun k h => by cases h)
       have m0 : w0.heap[w.heap.size]? = some (.cells st 45 (0, 0)) := by rw [hg0.block _ (by simp)]; exact HN0.out
       have hb1 : Hid (Below w.heap.size w w0) := Lib.hid (HB0.out.trans (hg0.mono (by simp)))
       have HO := Lib.hid (bytes_of_own (l := []) hown0)
       clear hgrow0 hg0 hown0)
    | (refine wpList_load_row rfl 45 (.tmp 1) rfl w.heap.size rfl 45 st (0, 0) _ m0 Tryd.underlying45 rfl (by rw [hss.out]; kernel_rfl) ?_))
  clear m0
  go_loopw [3, 5, 8] (fun v _ iv wr => ∃ k : Nat, k ≤ 8 ∧ iv = .int .i64 k ∧ Hid (Bytes wr w.heap.size 5 v ((I.take k).flatMap be4)) ∧ Below w.heap.size w wr)
    (fun _ _ iv _ => 8 - (intOf iv).toNat)
  case atStart => exact ⟨0, Nat.zero_le _, rfl, Lib.hid (by have := HO.out; simpa using this), hb1.out⟩
  case round =>
    obtain ⟨k, hk, rfl, HW, hbel⟩ := hrel
    clear HO hb1
    by_cases hlt : k < 8
    · have hIl := HIL.out
      have hix := run_index_cells (P := Tryd.prog) wr 45 43 8 st k _ j0 Tryd.underlying45 Tryd.underlying43 gi gz1 hlt (HX.out k hlt)
      have hsn := text_snoc I k (by omega)
      obtain ⟨x, hx⟩ : ∃ x, I.getD k 0 = x := ⟨_, rfl⟩
      rw [hx] at hix hsn
      have hb := u_bd x
      have HSN := Lib.hid hsn
      have hfl : ((I.take k).flatMap be4).length ≤ 32 := by rw [flat_length, List.length_take]; omega
      clear hsn hx hIl
      go_wp2_with (at_builtin; (refine wpList_append_out rfl (.tmp 11) (.tmp 23) 22 22 rfl _ _ rfl rfl (out_four _ HW.out hbel.size _ x (by omega)) ?_; intro v2 w2 hown2 hg2))
      have hb2 : Below w.heap.size w w2 := (hbel.alloc hbel.size _).trans hg2
      rw [HSN.out] at hown2
      have HO2 := Lib.hid hown2
      clear hown2 hg2 hix
      go_roundw
      case rel => exact ⟨k + 1, by omega, by go_num, HO2, hb2⟩
      case measure => (simp [intOf]; try omega)
    · obtain rfl : k = 8 := by omega
      have h8 := HW.out
      rw [List.take_of_length_le (by have := HIL.out; omega)] at h8
      have hconv := bytes_string (P := Tryd.prog) 22 9 Tryd.underlying22 Tryd.underlying5 Tryd.underlying9 h8
      go_wp2
      go_ret
      exact ⟨rfl, hbel⟩
end Go.Proofs.YtbojcphcjggccaaDoor
