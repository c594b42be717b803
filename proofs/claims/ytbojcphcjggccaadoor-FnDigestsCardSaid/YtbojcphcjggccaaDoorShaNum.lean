/- The words of a state as ints: the program's numbers, both sides' ShaStart. -/
import Derived.Test.YtbojcphcjggccaaDoorShaFirst
import Derived.Test.YtbojcphcjggccaaDoorIntsBase
namespace Go.Proofs.YtbojcphcjggccaaDoor
open Go.RowKit Go.Proofs.YtbojcphcjggccaaDoor.Sha Go.Proofs.YtbojcphcjggccaaDoor.Hexa Go.Proofs.YtbojcphcjggccaaDoor.Parts

theorem infoI64 : (Tryd.prog.info? 3).map (fun i => (i.zero, i.size, i.bytes)) = some (some (.int .i64 0), 1, 8) := by kernel_rfl
theorem icells_snoc (l : List Int) (k : Nat) (hk : k < l.length) : icells (l.take k) ++ [.int .i64 (l.getD k 0)] = icells (l.take (k + 1)) := by
  have e : l.getD k 0 = l[k] := by simp [List.getD, hk]
  rw [List.take_succ_eq_append_getElem hk, e]; simp only [icells, List.map_append, List.map_cons, List.map_nil]

theorem own_lower {w : World} {B B' e : Nat} {v : Value} {n : Nat} {xs : List Value} (h : w.ownsRow B e 1 v n xs) (hB : B' ≤ B) : w.ownsRow B' e 1 v n xs := by
  refine ⟨h.1, h.2.imp id fun ⟨g, cap, cur, hv, hg, r⟩ => ⟨g, cap, cur, hv, by omega, r⟩⟩

/-- A slice of the call's own that holds the words of S. -/
def Gives8 (S : St8) (w : World) (e : Ending) (w' : World) : Prop :=
  ∃ v, e = .returned v ∧ w'.ownsRow w.heap.size 3 1 v 8 (icells (ints S)) ∧ Below w.heap.size w w'

set_option maxRecDepth 100000 in
set_option maxHeartbeats 1000000 in
theorem numbers_any (S : St8) (w : World) : Calls Tryd.prog 24 #[.agg S.cells] w (Gives8 S w) := by
  obtain ⟨i0, hi, hz0, hz1, hz2⟩ := info_parts infoI64
  obtain ⟨j0, gi, gz0, gz1, gz2⟩ := info_parts infoU32
  have hx := cells_get S
  have hbd : ∀ k, k < 8 → 0 ≤ (ints S).getD k 0 ∧ (ints S).getD k 0 < 4294967296 := fun k hk => by rw [ints_get S k hk]; exact u_bd _
  obtain ⟨I, hI⟩ : ∃ I, ints S = I := ⟨_, rfl⟩
  have hIl : I.length = 8 := by rw [← hI]; rfl
  obtain ⟨st, hst⟩ : ∃ st, S.cells = st := ⟨_, rfl⟩
  have hss : Hid (st.size = 8) := Lib.hid (by rw [← hst]; rfl)
  unfold Gives8
  rw [hst] at hx ⊢
  simp only [hI] at hx hbd ⊢
  have HX := Lib.hid hx
  have HBD := Lib.hid hbd
  have HIL := Lib.hid hIl
  clear hx hbd hI hst hIl
  have hb0 : Below w.heap.size w (w.alloc (.cells st 45)) := (Below.refl _ _).alloc (Nat.le_refl _) _
  have hn0 := heap_alloc_new w (.cells st 45)
  have HB0 := Lib.hid hb0
  have HN0 := Lib.hid hn0
  clear hb0 hn0
  go_enter Tryd.func24, Tryd.ntmps24
  go_wp2_with (first
    | (at_make; refine wpList_make_own _ rfl _ _ 26 rfl w.heap.size 3 i0 (.int .i64 0) 1 Tryd.underlying26 hi hz0 hz1 .i64 .i64 _ 8 rfl rfl (by omega) (by rw [hz2]; omega) (by unfold maxLen; omega) (by simp) ?_; intro w0 hown0 hgrow0
       have hg0 : Below (w.alloc (.cells st 45)).heap.size (w.alloc (.cells st 45)) w0 := (Below.refl _ _).grown hgrow0 (Nat.le_refl _) (fun k h => by cases h)
       have m0 : w0.heap[w.heap.size]? = some (.cells st 45 (0, 0)) := by rw [hg0.block _ (by simp)]; exact HN0.out
       have hb1 : Hid (Below w.heap.size w w0) := Lib.hid (HB0.out.trans (hg0.mono (by simp)))
       have HO := Lib.hid hown0
       clear hgrow0 hg0 hown0)
    | (refine wpList_load_row rfl 45 (.tmp 1) rfl w.heap.size rfl 45 st (0, 0) _ m0 Tryd.underlying45 rfl (by rw [hss.out]; kernel_rfl) ?_))
  clear m0
  go_loopw [3, 5, 8] (fun v _ iv wr => ∃ k : Nat, k ≤ 8 ∧ iv = .int .i64 k ∧ Hid (wr.ownsRow w.heap.size 3 1 v k (icells (I.take k))) ∧ Below w.heap.size w wr)
    (fun _ _ iv _ => 8 - (intOf iv).toNat)
  case atStart => exact ⟨0, Nat.zero_le _, rfl, Lib.hid (by have := HO.out; simpa [icells] using this), hb1.out⟩
  case round =>
    obtain ⟨k, hk, rfl, HW, hbel⟩ := hrel
    clear HO hb1
    by_cases hlt : k < 8
    · have hIl := HIL.out
      have hb := HBD.out k hlt
      have hsn := icells_snoc I k (by omega)
      have hix := run_index_cells (P := Tryd.prog) wr 45 43 8 st k _ j0 Tryd.underlying45 Tryd.underlying43 gi gz1 hlt (HX.out k hlt)
      obtain ⟨x, hx⟩ : ∃ x, I.getD k 0 = x := ⟨_, rfl⟩
      rw [hx] at hix hsn hb
      have HSN := Lib.hid hsn
      clear hsn hx hIl
      go_wp2_with (at_builtin; refine wpList_append_own _ rfl (.tmp 11) (.tmp 14) 26 rfl w.heap.size 3 i0 (.int .i64 0) 1 8 Tryd.underlying26 hi hz0 hz1 hz2 rfl (by decide) _ _ _ rfl (HW.out.alloc _) ⟨wr.heap.size, 0, none⟩ 1 1 [.int .i64 x] rfl rfl (World.news_of_block (heap_alloc_new _ _)) (by simp [Value.oneCell']) (by unfold maxLen; omega) (by omega) (by have := hbel.size; simp; omega) ?_; intro v2 w2 hown2 hgrow2 hn2)
      have hb2 : Below w.heap.size w w2 := (hbel.alloc hbel.size _).grown hgrow2 (by have := hbel.size; simp; omega) (own_block_ge HW.out)
      rw [HSN.out] at hown2
      have HO2 := Lib.hid hown2
      clear hown2 hgrow2 hn2 hix
      go_roundw
      case rel => exact ⟨k + 1, by omega, by go_num, HO2, hb2⟩
      case measure => (simp [intOf]; try omega)
    · obtain rfl : k = 8 := by omega
      go_wp2
      go_ret
      have h8 := HW.out
      rw [List.take_of_length_le (by have := HIL.out; omega)] at h8
      exact ⟨_, rfl, h8, hbel⟩

set_option maxRecDepth 100000 in
set_option maxHeartbeats 1000000 in
theorem implStart_any (w : World) (hk : IsTab w 0 firstS.list) : Calls Tryd.prog 8 #[] w (Gives8 firstS w) := by
  obtain ⟨t, fr, hk⟩ := hk
  have HK := Lib.hid hk
  clear hk
  go_enter Tryd.func8, Tryd.ntmps8
  go_wp2_with (first
    | (refine wpList_load_row rfl 45 (.global 0) rfl 0 rfl t firstS.cells fr _ HK.out Tryd.underlying45 rfl (by kernel_rfl) ?_)
    | (go_at_call 24; refine (numbers_any firstS _).mono ?_; rintro e w1 ⟨v, rfl, hown, hb⟩))
  go_ret
  exact ⟨v, rfl, hown, hb⟩
end Go.Proofs.YtbojcphcjggccaaDoor
