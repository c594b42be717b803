/- The words of a state as ints: the program's numbers, both sides' ShaStart. -/
import Derived.Test.YteohmifmfgbmaaaDoorShaAfter
import Derived.Test.YteohmifmfgbmaaaDoorInts
import Derived.Test.YteohmifmfgbmaaaDoorHexMath
import Derived.Deep.RegionLaw
import Derived.Deep.AppendLies
namespace Go.Proofs.YteohmifmfgbmaaaDoor
open Go.RowKit Go.Proofs.YteohmifmfgbmaaaDoor.Sha Go.Proofs.YteohmifmfgbmaaaDoor.Hexa Go.Proofs.YteohmifmfgbmaaaDoor.Parts

theorem infoI64 : (Tryd.prog.info? 3).map (fun i => (i.zero, i.size, i.bytes)) = some (some (.int .i64 0), 1, 8) := by kernel_rfl
/-- The words as ints. -/
def ints (S : St8) : List Int := S.list.map u
theorem ints_length (S : St8) : (ints S).length = 8 := rfl
theorem ints_get (S : St8) (k : Nat) (hk : k < 8) : (ints S).getD k 0 = u (S.list.getD k 0) := by
  rcases k with _ | _ | _ | _ | _ | _ | _ | _ | k
  all_goals first | rfl | omega
theorem cells_get (S : St8) (k : Nat) (hk : k < 8) : S.cells[k]? = some (.int .u32 ((ints S).getD k 0)) := by
  rcases k with _ | _ | _ | _ | _ | _ | _ | _ | k
  all_goals first | rfl | omega
theorem icells_snoc (l : List Int) (k : Nat) (hk : k < l.length) : icells (l.take k) ++ [.int .i64 (l.getD k 0)] = icells (l.take (k + 1)) := by
  have e : l.getD k 0 = l[k] := by simp [List.getD, hk]
  rw [List.take_succ_eq_append_getElem hk, e]; simp only [icells, List.map_append, List.map_cons, List.map_nil]

theorem own_lower {w : World} {B B' e : Nat} {v : Value} {n : Nat} {xs : List Value} (h : w.ownsRow B e 1 v n xs) (hB : B' ≤ B) : w.ownsRow B' e 1 v n xs := by
  refine ⟨h.1, h.2.imp id fun ⟨g, cap, cur, hv, hg, r⟩ => ⟨g, cap, cur, hv, by omega, r⟩⟩

/-- A slice of the call's own that holds the words of S. -/
def Gives8 (S : St8) (w : World) (e : Ending) (w' : World) : Prop :=
  ∃ v, e = .returned v ∧ w'.ownsRow w.heap.size 3 1 v 8 (icells (ints S)) ∧ Below w.heap.size w w'

set_option maxRecDepth 100000 in
set_option maxHeartbeats 1000000 in
theorem numbers_any (S : St8) (w : World) : Calls Tryd.prog 28 #[.agg S.cells] w (Gives8 S w) := by
  obtain ⟨i0, hi, hz0, hz1, hz2⟩ := info_parts infoI64
  obtain ⟨j0, gi, gz0, gz1, gz2⟩ := info_parts infoU32
  have hx := cells_get S
  have hbd : ∀ k, k < 8 → 0 ≤ (ints S).getD k 0 ∧ (ints S).getD k 0 < 4294967296 := fun k hk => by rw [ints_get S k hk]; exact u_bd _
  obtain ⟨I, hI⟩ : ∃ I, ints S = I := ⟨_, rfl⟩
  have hIl : I.length = 8 := by rw [← hI]; rfl
  obtain ⟨st, hst⟩ : ∃ st, S.cells = st := ⟨_, rfl⟩
  have hss : Hid (st.size = 8) := Lib.hid (by rw [← hst]; rfl)
  unfold Gives8
  rw [hst] at hx ⊢
  simp only [hI] at hx hbd ⊢
  have HX := Lib.hid hx
  have HBD := Lib.hid hbd
  have HIL := Lib.hid hIl
  clear hx hbd hI hst hIl
  have hb0 : Below w.heap.size w (w.alloc (.cells st 40)) := (Below.refl _ _).alloc (Nat.le_refl _) _
  have hn0 := heap_alloc_new w (.cells st 40)
  have HB0 := Lib.hid hb0
  have HN0 := Lib.hid hn0
  clear hb0 hn0
  go_enter Tryd.func28, Tryd.ntmps28
  go_wp2_with (first
    | (at_make; refine wpList_make_own _ rfl _ _ 22 rfl w.heap.size 3 i0 (.int .i64 0) 1 Tryd.underlying22 hi hz0 hz1 .i64 .i64 _ 8 rfl rfl (by omega) (by rw [hz2]; omega) (by unfold maxLen; omega) (by simp) ?_; intro w0 hown0 hgrow0
       have hg0 : Below (w.alloc (.cells st 40)).heap.size (w.alloc (.cells st 40)) w0 := (Below.refl _ _).grown hgrow0 (Nat.le_refl _) (fun k h => by cases h)
       have m0 : w0.heap[w.heap.size]? = some (.cells st 40 (0, 0)) := by rw [hg0.block _ (by simp)]; exact HN0.out
       have hb1 : Hid (Below w.heap.size w w0) := Lib.hid (HB0.out.trans (hg0.mono (by simp)))
       have HO := Lib.hid hown0
       clear hgrow0 hg0 hown0)
    | (refine wpList_load_row rfl 40 (.tmp 1) rfl w.heap.size rfl 40 st (0, 0) _ m0 Tryd.underlying40 rfl (by rw [hss.out]; kernel_rfl) ?_))
  clear m0
  go_loopw [3, 5, 8] (fun v _ iv wr => ∃ k : Nat, k ≤ 8 ∧ iv = .int .i64 k ∧ Hid (wr.ownsRow w.heap.size 3 1 v k (icells (I.take k))) ∧ Below w.heap.size w wr)
    (fun _ _ iv _ => 8 - (intOf iv).toNat)
  case atStart => exact ⟨0, Nat.zero_le _, rfl, Lib.hid (by have := HO.out; simpa [icells] using this), hb1.out⟩
  case round =>
    obtain ⟨k, hk, rfl, HW, hbel⟩ := hrel
    clear HO hb1
    by_cases hlt : k < 8
    · have hIl := HIL.out
      have hb := HBD.out k hlt
      have hsn := icells_snoc I k (by omega)
      have hix := run_index_cells (P := Tryd.prog) wr 40 34 8 st k _ j0 Tryd.underlying40 Tryd.underlying34 gi gz1 hlt (HX.out k hlt)
      obtain ⟨x, hx⟩ : ∃ x, I.getD k 0 = x := ⟨_, rfl⟩
      rw [hx] at hix hsn hb
      have HSN := Lib.hid hsn
      clear hsn hx hIl
      go_wp2_with (at_builtin; refine wpList_append_own _ rfl (.tmp 11) (.tmp 14) 22 rfl w.heap.size 3 i0 (.int .i64 0) 1 8 Tryd.underlying22 hi hz0 hz1 hz2 rfl (by decide) _ _ _ rfl (HW.out.alloc _) ⟨wr.heap.size, 0, none⟩ 1 1 [.int .i64 x] rfl rfl (World.news_of_block (heap_alloc_new _ _)) (by simp [Value.oneCell']) (by unfold maxLen; omega) (by omega) (by have := hbel.size; simp; omega) ?_; intro v2 w2 hown2 hgrow2 hn2)
      have hb2 : Below w.heap.size w w2 := (hbel.alloc hbel.size _).grown hgrow2 (by have := hbel.size; simp; omega) (own_block_ge HW.out)
      rw [HSN.out] at hown2
      have HO2 := Lib.hid hown2
      clear hown2 hgrow2 hn2 hix
      go_roundw
      case rel => exact ⟨k + 1, by omega, by go_num, HO2, hb2⟩
      case measure => (simp [intOf]; try omega)
    · obtain rfl : k = 8 := by omega
      go_wp2
      go_ret
      have h8 := HW.out
      rw [List.take_of_length_le (by have := HIL.out; omega)] at h8
      exact ⟨_, rfl, h8, hbel⟩


set_option maxRecDepth 100000 in
set_option maxHeartbeats 1000000 in
theorem first_any (w : World) : Calls Tryd.prog 29 #[] w fun e w' => e = .returned (.agg firstS.cells) ∧ Below w.heap.size w w' := by
  have H2 := Lib.hid (heap_alloc_new w (.cells (zeros 8) 35))
  have H3 : Hid (Below w.heap.size w (w.alloc (.cells (zeros 8) 35))) := Lib.hid ((Below.refl _ _).alloc (Nat.le_refl _) _)
  go_enter Tryd.func29, Tryd.ntmps29
  go_wp2_with (first
    | (refine wpList_allocRow rfl 35 rfl (zeros 8) run_alloc8 ?_)
    | (refine wpList_build rfl 35 _ rfl (by kernel_rfl) ?_
       refine wpList_store_row rfl 35 (.tmp 0) (.tmp 1) rfl w.heap.size firstS.cells rfl (by kernel_rfl) 35 (zeros 8) H2.out (by kernel_rfl) (by kernel_rfl) (by kernel_rfl) ?_))
  (try simp only [Exit.inBlock, Exit.then])
  refine bodyPost_ret (results_cell_row rfl _ _ w.heap.size 35 firstS.cells (0, 0) _ rfl (setRow_heap _ _ _ _ _ _ H2.out) Tryd.underlying35 rfl (by kernel_rfl)) rfl ?_
  exact ⟨rfl, H3.out.trans ⟨rfl, rfl, rfl, by simp, fun k hk => setRow_other _ _ _ _ (by omega)⟩⟩

set_option maxRecDepth 100000 in
set_option maxHeartbeats 1000000 in
theorem keys_any (w : World) : Calls Tryd.prog 24 #[] w fun e w' => e = .returned (.agg (wcells keyL)) ∧ Below w.heap.size w w' := by
  have H2 := Lib.hid (heap_alloc_new w (.cells (zeros 64) 38))
  have H3 : Hid (Below w.heap.size w (w.alloc (.cells (zeros 64) 38))) := Lib.hid ((Below.refl _ _).alloc (Nat.le_refl _) _)
  go_enter Tryd.func24, Tryd.ntmps24
  go_wp2_with (first
    | (refine wpList_allocRow rfl 38 rfl (zeros 64) run_alloc64 ?_)
    | (refine wpList_build rfl 38 _ rfl (by kernel_rfl) ?_
       refine wpList_store_row rfl 38 (.tmp 0) (.tmp 1) rfl w.heap.size (wcells keyL) rfl (by kernel_rfl) 38 (zeros 64) H2.out (by kernel_rfl) (by kernel_rfl) (by kernel_rfl) ?_))
  (try simp only [Exit.inBlock, Exit.then])
  refine bodyPost_ret (results_cell_row rfl _ _ w.heap.size 38 (wcells keyL) (0, 0) _ rfl (setRow_heap _ _ _ _ _ _ H2.out) Tryd.underlying38 rfl (by kernel_rfl)) rfl ?_
  exact ⟨rfl, H3.out.trans ⟨rfl, rfl, rfl, by simp, fun k hk => setRow_other _ _ _ _ (by omega)⟩⟩

set_option maxHeartbeats 1000000 in
theorem implStart_any (w : World) (hk : IsTab w 0 firstS.list) : Calls Tryd.prog 15 #[] w (Gives8 firstS w) := by
  obtain ⟨t, fr, hk⟩ := hk
  have HK := Lib.hid hk
  clear hk
  go_enter Tryd.func15, Tryd.ntmps15
  go_wp2_with (first
    | (refine wpList_load_row rfl 40 (.global 0) rfl 0 rfl t firstS.cells fr _ HK.out Tryd.underlying40 rfl (by kernel_rfl) ?_)
    | (go_at_call 28; refine (numbers_any firstS _).mono ?_; rintro e w1 ⟨v, rfl, hown, hb⟩))
  go_ret
  exact ⟨v, rfl, hown, hb⟩

/-- A state stored into a variable of its own. -/
theorem laid_row (w1 : World) {st : Array Value} (hss : st.size = 8) (hso : ∀ v ∈ st.toList, v.oneCell' = true) :
    ∃ W2 : World, (storeCells ⟨w1.heap.size, 0, none⟩ st.toList 0).run Tryd.prog (w1.alloc (.cells (zeros 8) 35)) = .ok () W2 ∧ W2.heap[w1.heap.size]? = some (.cells st 35 (0, 0)) ∧ W2.heap.size = w1.heap.size + 1 ∧ Below w1.heap.size w1 W2 := by
  have r1 := run_storeCells_from (P := Tryd.prog) w1.heap.size 35 st.toList 0 (zeros 8) _ (heap_alloc_new w1 (.cells (zeros 8) 35)) (by simp [zeros, wcells, hss]) hso
  simp at r1
  exact ⟨_, r1, setRow_heap _ _ _ _ _ _ (heap_alloc_new w1 _), by simp, ((Below.refl _ _).alloc (Nat.le_refl _) _).trans ⟨rfl, rfl, rfl, by simp, fun k hk => setRow_other _ _ _ _ (by omega)⟩⟩

set_option maxRecDepth 100000 in
set_option maxHeartbeats 1000000 in
theorem specStart_any (w : World) : Calls Tryd.prog 14 #[] w (Gives8 firstS w) := by
  obtain ⟨i0, hi, hz0, hz1, hz2⟩ := info_parts infoI64
  have hbd : ∀ k, k < 8 → 0 ≤ (ints firstS).getD k 0 ∧ (ints firstS).getD k 0 < 4294967296 := fun k hk => by rw [ints_get firstS k hk]; exact u_bd _
  have hx := cells_get firstS
  unfold Gives8
  obtain ⟨I, hI⟩ : ∃ I, ints firstS = I := ⟨_, rfl⟩
  have hIl : I.length = 8 := by rw [← hI]; rfl
  obtain ⟨st, hst⟩ : ∃ st, firstS.cells = st := ⟨_, rfl⟩
  have hss : Hid (st.size = 8) := Lib.hid (by rw [← hst]; rfl)
  have hso : Hid (∀ v ∈ st.toList, v.oneCell' = true) := Lib.hid (by rw [← hst]; exact wcells_one firstS.list)
  have HST := Lib.hid hst
  rw [hst] at hx
  simp only [hI] at hx hbd ⊢
  have HX := Lib.hid hx
  have HBD := Lib.hid hbd
  have HIL := Lib.hid hIl
  clear hx hbd hI hst hIl
  go_enter Tryd.func14, Tryd.ntmps14
  go_wp2_with (first
    | (refine wpList_allocRow rfl 35 rfl (zeros 8) run_alloc8 ?_)
    | (go_at_call 29; refine (first_any _).mono ?_; rintro e w1 ⟨rfl, hb1⟩; rw [HST.out]
       obtain ⟨W2, r1, m2, z2, b2⟩ := laid_row w1 hss.out hso.out
       have M2 := Lib.hid m2
       have Z2 := Lib.hid z2
       have B2 : Hid (Below w.heap.size w W2) := Lib.hid (hb1.trans (b2.mono hb1.size))
       have S1 := Lib.hid hb1.size
       clear m2 z2 b2 hb1))
  clear r1
  obtain ⟨g, hg⟩ : ∃ g, w1.heap.size = g := ⟨_, rfl⟩
  have HG : Hid (w.heap.size ≤ g) := Lib.hid (by rw [← hg]; exact S1.out)
  rw [hg] at M2 Z2 ⊢
  clear hg
  go_loopw [2, 3] (fun v iv wr => ∃ k : Nat, k ≤ 8 ∧ iv = .int .i64 k ∧ Hid (wr.ownsRow (g + 1) 3 1 v k (icells (I.take k))) ∧ Hid (Below (g + 1) W2 wr))
    (fun _ iv _ => 8 - (intOf iv).toNat)
  case atStart => exact ⟨0, Nat.zero_le _, rfl, Lib.hid (World.ownsRow_lit W2 #[] 0 (by rw [Z2.out]; omega) (by decide) rfl), Lib.hid ((Below.refl _ _).alloc (by rw [Z2.out]; omega) _)⟩
  case round =>
    obtain ⟨k, hk, rfl, HW, HB⟩ := hrel
    by_cases hlt : k < 8
    · have hIl := HIL.out
      have hb := HBD.out k hlt
      have hsn := icells_snoc I k (by omega)
      have hm : wr.heap[g]? = some (.cells st 35 (0, 0)) := by rw [HB.out.block g (by omega)]; exact M2.out
      have hc : wr.cell? ⟨g, k, none⟩ = some (.int .u32 (I.getD k 0)) := by
        have := HX.out k hlt
        simp only [World.cell?, hm]
        simpa using this
      obtain ⟨x, hx⟩ : ∃ x, I.getD k 0 = x := ⟨_, rfl⟩
      rw [hx] at hc hsn hb
      have HSN := Lib.hid hsn
      have hsz : g + 1 ≤ wr.heap.size := by have := HB.out.size; have := Z2.out; omega
      clear hsn hx hIl hm
      go_wp2_with (at_builtin; refine wpList_append_own _ rfl (.tmp 10) (.tmp 15) 22 rfl (g + 1) 3 i0 (.int .i64 0) 1 8 Tryd.underlying22 hi hz0 hz1 hz2 rfl (by decide) _ _ _ rfl (HW.out.alloc _) ⟨wr.heap.size, 0, none⟩ 1 1 [.int .i64 x] rfl rfl (World.news_of_block (heap_alloc_new _ _)) (by simp [Value.oneCell']) (by unfold maxLen; omega) (by omega) (by simp; omega) ?_; intro v2 w2 hown2 hgrow2 hn2)
      have hb2 : Below (g + 1) W2 w2 := (HB.out.alloc hsz _).grown hgrow2 (by simp; omega) (own_block_ge HW.out)
      rw [HSN.out] at hown2
      have HO2 := Lib.hid hown2
      clear hown2 hgrow2 hn2 hc
      go_roundw
      case rel => exact ⟨k + 1, by omega, by go_num, HO2, Lib.hid hb2⟩
      case measure => (simp [intOf]; try omega)
    · obtain rfl : k = 8 := by omega
      go_wp2
      go_ret
      have h8 := HW.out
      rw [List.take_of_length_le (by have := HIL.out; omega)] at h8
      have hg' : w.heap.size ≤ g + 1 := Nat.le_trans HG.out (Nat.le_succ g)
      exact ⟨_, rfl, own_lower h8 hg', B2.out.trans (HB.out.mono hg')⟩
end Go.Proofs.YteohmifmfgbmaaaDoor
