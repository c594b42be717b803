/- FnExactMixColumns, FnExactBlockText: the laws' walks. -/
import Derived.Test.YtepnnmckbcomjaaDoorMixSpec
import Derived.Test.YtepnnmckbcomjaaDoorBlockSpec
import Derived.Test.YtepnnmckbcomjaaDoorBoxesSpec
import Derived.Test.YtepnnmckbcomjaaDoorKeysSpec
import Derived.Test.YtepnnmckbcomjaaDoorBlockImpl
import Derived.Test.YtepnnmckbcomjaaDoorStepRow
namespace Go.Proofs.YtepnnmckbcomjaaDoor
open Go.RowKit Go.Proofs.YtepnnmckbcomjaaDoor.Hexa Go.Proofs.YtepnnmckbcomjaaDoor.Byt Go.Proofs.YtepnnmckbcomjaaDoor.Aes Go.Proofs.YtepnnmckbcomjaaDoor.Parts

set_option maxHeartbeats 400000 in
theorem mixColumns_law (s : ByteArray) (w : World) (hT : MixTab w) :
    Calls Tryd.prog 5 #[.string s] w fun e w' => e = .returned (.bool true) ∧ Below w.heap.size w w' := by
  by_cases ha : s.size ≤ 1048576
  · have hk : ∃ t, (∀ w, Calls Tryd.prog 19 #[.string s] w fun e w' => e = .returned (.string t) ∧ Below w.heap.size w w') ∧
        ∀ w, MixTab w → Calls Tryd.prog 16 #[.string s] w fun e w' => e = .returned (.string t) ∧ Below w.heap.size w w' := by
      by_cases h : s.size = 16
      · exact ⟨_, fun w => specMix_yes s w h, fun w hT => implMix_yes s w h hT⟩
      · exact ⟨_, fun w => specMix_no s w h, fun w _ => implMix_no s w h⟩
    obtain ⟨t, h1, h2⟩ := hk
    have k1 := Lib.hid h1
    have k2 := Lib.hid h2
    have HT := Lib.hid hT
    clear h1 h2 hT
    go_enter Tryd.func5, Tryd.ntmps5
    go_wp2_with (first
      | (go_at_call 19; refine (k1.out _).mono ?_; rintro e w1 ⟨rfl, hb1⟩)
      | (go_at_call 16; refine (k2.out _ (HT.out.below hb1)).mono ?_; rintro e w2 ⟨rfl, hb2⟩))
    go_ret
    exact ⟨rfl, hb1.trans (hb2.mono hb1.size)⟩
  · have hn : 1048576 < s.size := by omega
    go_enter Tryd.func5, Tryd.ntmps5
    go_wp2
    go_ret
    exact ⟨rfl, Below.refl _ _⟩

theorem z256_size : z256.size = 256 := by unfold z256; rw [List.size_toArray, bcells_length, List.length_replicate]
set_option maxRecDepth 100000 in
set_option maxHeartbeats 2000000 in
theorem specBlockText_yes (key s : ByteArray) (w : World) (hk : key.size = 16) (hs : s.size = 16) :
    Calls Tryd.prog 12 #[.string key, .string s] w fun e w' => e = .returned (.string (blockT key s)) ∧ Below w.heap.size w w' := by
  have h1 := fun w => specBoxes_any w
  have h2 := fun w => specKeys_any key w hk
  have h3 := fun ad cap w hr => specBlocks_any key s ad cap w hk hs hr
  have hs8 : boxCells.size = 256 := by show (bcells boxTab).toArray.size = 256; rw [List.size_toArray, bcells_length, boxTab_length]
  have hone : ∀ v ∈ boxCells.toList, v.oneCell' = true := bcells_one boxTab
  have hal := run_alloc256
  have hzz := z256_size
  generalize boxCells = bc at h1 h2 h3 hs8 hone
  generalize z256 = zz at hal hzz
  have HAL := Lib.hid hal
  have HZZ := Lib.hid hzz
  have k1 := Lib.hid h1
  have k2 := Lib.hid h2
  have k3 := Lib.hid h3
  have s8 := Lib.hid hs8
  have ho := Lib.hid hone
  clear h1 h2 h3 hs8 hone hal hzz
  go_enter Tryd.func12, Tryd.ntmps12
  go_wp2_with fail
  refine (k1.out _).mono ?_
  rintro e w1 ⟨rfl, hb1⟩
  have hn0 := heap_alloc_new w1 (.cells zz 43)
  have hsr := run_storeCells_from (P := Tryd.prog) w1.heap.size 43 bc.toList 0 zz _ hn0 (by simp [HZZ.out, s8.out]) ho.out
  simp at hsr
  have HW : Hid (((w1.alloc (.cells zz 43)).setRow w1.heap.size bc).heap[w1.heap.size]? = some (.cells bc 43 (0, 0))) := Lib.hid (setRow_heap _ _ _ _ _ _ hn0)
  have HBW : Hid (Below w.heap.size w ((w1.alloc (.cells zz 43)).setRow w1.heap.size bc)) := Lib.hid ((hb1.alloc hb1.size _).trans ⟨rfl, rfl, rfl, by simp, fun k hk => setRow_other _ _ _ _ (by have := hb1.size; omega)⟩)
  generalize hW2 : (w1.alloc (.cells zz 43)).setRow w1.heap.size bc = W2 at hsr HW HBW
  clear hb1 hn0 hW2
  have hloadD : W2.drew.heap[w1.heap.size]? = some (.cells bc 43 (0, 0)) := HW.out
  go_wp2_with (first
    | (refine wpList_allocCells rfl 43 rfl zz HAL.out ?_))
  clear hsr
  refine wp_region_any (by kernel_rfl) ?_
  change wpAny _ _ _ _ _ _ _ (World.drew W2)
  refine wpAny_take (i := 0) (v := ?_) rfl (by kernel_rfl) (by kernel_rfl) (by kernel_rfl) (fun _ _ _ h => h) (Or.inl ⟨by rfl, ?_⟩) ?_
  rotate_left
  · (intro w; go_simp; try with_reducible rfl)
  refine wpAny_take (i := 3) (v := ?_) rfl (by kernel_rfl) (by kernel_rfl) (by kernel_rfl) (fun _ _ _ h => h) (Or.inl ⟨by rfl, ?_⟩) ?_
  rotate_left
  · (intro w; go_simp; try with_reducible rfl)
  refine wpAny_ready (rs := [1, 4]) (by kernel_rfl) (by simp) ?_
  refine AllReady.cons rfl (fun K hK => ?_) (AllReady.cons rfl (fun K hK => ?_) AllReady.nil)
  · refine step_load_row rfl 43 (.tmp 5) rfl w1.heap.size rfl 43 bc (0, 0) _ hloadD Tryd.underlying43 rfl (by rw [s8.out]; kernel_rfl) ?_
    refine hK _ _ ?_
    clear hK K
    refine wpAny_ready (rs := [2, 4]) (by kernel_rfl) (by simp) ?_
    refine AllReady.cons rfl (fun K hK => ?_) (AllReady.cons rfl (fun K hK => ?_) AllReady.nil)
    · go_simp
      refine (k2.out _).mono ?_
      rintro e w2 ⟨v2, rfl, hown2, hb2⟩
      rw [keysTo_length] at hown2
      obtain ⟨ad, cap, rfl, hc2, hn2, hr2⟩ := own_form hown2
      have HR := Lib.hid hr2
      have hload2 : w2.heap[w1.heap.size]? = some (.cells bc 43 (0, 0)) := (hb2.block _ (Array.getElem?_eq_some_iff.1 HW.out).1).trans HW.out
      have HB2 := Lib.hid hb2
      clear hown2 hr2 hb2
      refine hK _ _ ?_
      clear hK K
      refine wpAny_ready (rs := [4]) (by kernel_rfl) (by simp) ?_
      refine AllReady.cons rfl (fun K hK => ?_) AllReady.nil
      refine step_load_row rfl 43 (.tmp 5) rfl w1.heap.size rfl 43 bc (0, 0) _ hload2 Tryd.underlying43 rfl (by rw [s8.out]; kernel_rfl) ?_
      refine hK _ _ ?_
      clear hK K
      refine wpAny_ready (rs := [5]) (by kernel_rfl) (by simp) ?_
      refine AllReady.cons rfl (fun K hK => ?_) AllReady.nil
      go_simp
      refine (k3.out _ _ _ HR.out).mono ?_
      rintro e w3 ⟨rfl, hb3⟩
      refine hK _ _ ?_
      clear hK K
      refine wpAny_take (i := 6) (v := ?_) rfl (by kernel_rfl) (by kernel_rfl) (by kernel_rfl) (fun _ _ _ h => h) (Or.inl ⟨by rfl, ?_⟩) ?_
      rotate_left
      · (intro w; go_simp; try with_reducible rfl)
      refine wpAny_done (by kernel_rfl) ?_ _
      go_simp
      go_wp2
      go_ret
      exact ⟨rfl, HBW.out.drew.trans ((HB2.out.trans (hb3.mono HB2.out.size)).mono HBW.out.size)⟩
    · refine step_load_row rfl 43 (.tmp 5) rfl w1.heap.size rfl 43 bc (0, 0) _ hloadD Tryd.underlying43 rfl (by rw [s8.out]; kernel_rfl) ?_
      refine hK _ _ ?_
      clear hK K
      refine wpAny_ready (rs := [2]) (by kernel_rfl) (by simp) ?_
      refine AllReady.cons rfl (fun K hK => ?_) AllReady.nil
      go_simp
      refine (k2.out _).mono ?_
      rintro e w2 ⟨v2, rfl, hown2, hb2⟩
      rw [keysTo_length] at hown2
      obtain ⟨ad, cap, rfl, hc2, hn2, hr2⟩ := own_form hown2
      have HR := Lib.hid hr2
      have hload2 : w2.heap[w1.heap.size]? = some (.cells bc 43 (0, 0)) := (hb2.block _ (Array.getElem?_eq_some_iff.1 HW.out).1).trans HW.out
      have HB2 := Lib.hid hb2
      clear hown2 hr2 hb2
      refine hK _ _ ?_
      clear hK K
      refine wpAny_ready (rs := [5]) (by kernel_rfl) (by simp) ?_
      refine AllReady.cons rfl (fun K hK => ?_) AllReady.nil
      go_simp
      refine (k3.out _ _ _ HR.out).mono ?_
      rintro e w3 ⟨rfl, hb3⟩
      refine hK _ _ ?_
      clear hK K
      refine wpAny_take (i := 6) (v := ?_) rfl (by kernel_rfl) (by kernel_rfl) (by kernel_rfl) (fun _ _ _ h => h) (Or.inl ⟨by rfl, ?_⟩) ?_
      rotate_left
      · (intro w; go_simp; try with_reducible rfl)
      refine wpAny_done (by kernel_rfl) ?_ _
      go_simp
      go_wp2
      go_ret
      exact ⟨rfl, HBW.out.drew.trans ((HB2.out.trans (hb3.mono HB2.out.size)).mono HBW.out.size)⟩
  · refine step_load_row rfl 43 (.tmp 5) rfl w1.heap.size rfl 43 bc (0, 0) _ hloadD Tryd.underlying43 rfl (by rw [s8.out]; kernel_rfl) ?_
    refine hK _ _ ?_
    clear hK K
    refine wpAny_ready (rs := [1]) (by kernel_rfl) (by simp) ?_
    refine AllReady.cons rfl (fun K hK => ?_) AllReady.nil
    refine step_load_row rfl 43 (.tmp 5) rfl w1.heap.size rfl 43 bc (0, 0) _ hloadD Tryd.underlying43 rfl (by rw [s8.out]; kernel_rfl) ?_
    refine hK _ _ ?_
    clear hK K
    refine wpAny_ready (rs := [2]) (by kernel_rfl) (by simp) ?_
    refine AllReady.cons rfl (fun K hK => ?_) AllReady.nil
    go_simp
    refine (k2.out _).mono ?_
    rintro e w2 ⟨v2, rfl, hown2, hb2⟩
    rw [keysTo_length] at hown2
    obtain ⟨ad, cap, rfl, hc2, hn2, hr2⟩ := own_form hown2
    have HR := Lib.hid hr2
    have hload2 : w2.heap[w1.heap.size]? = some (.cells bc 43 (0, 0)) := (hb2.block _ (Array.getElem?_eq_some_iff.1 HW.out).1).trans HW.out
    have HB2 := Lib.hid hb2
    clear hown2 hr2 hb2
    refine hK _ _ ?_
    clear hK K
    refine wpAny_ready (rs := [5]) (by kernel_rfl) (by simp) ?_
    refine AllReady.cons rfl (fun K hK => ?_) AllReady.nil
    go_simp
    refine (k3.out _ _ _ HR.out).mono ?_
    rintro e w3 ⟨rfl, hb3⟩
    refine hK _ _ ?_
    clear hK K
    refine wpAny_take (i := 6) (v := ?_) rfl (by kernel_rfl) (by kernel_rfl) (by kernel_rfl) (fun _ _ _ h => h) (Or.inl ⟨by rfl, ?_⟩) ?_
    rotate_left
    · (intro w; go_simp; try with_reducible rfl)
    refine wpAny_done (by kernel_rfl) ?_ _
    go_simp
    go_wp2
    go_ret
    exact ⟨rfl, HBW.out.drew.trans ((HB2.out.trans (hb3.mono HB2.out.size)).mono HBW.out.size)⟩
theorem specBlockText_no (key s : ByteArray) (w : World) (h : ¬ (key.size = 16 ∧ s.size = 16)) :
    Calls Tryd.prog 12 #[.string key, .string s] w fun e w' => e = .returned (.string ⟨#[]⟩) ∧ Below w.heap.size w w' := by
  by_cases hk : key.size = 16
  · have hs : ¬ s.size = 16 := fun e => h ⟨hk, e⟩
    go_enter Tryd.func12, Tryd.ntmps12
    go_wp2
    go_ret
    exact ⟨rfl, Below.refl _ _⟩
  · go_enter Tryd.func12, Tryd.ntmps12
    go_wp2
    go_ret
    exact ⟨rfl, Below.refl _ _⟩

set_option maxHeartbeats 400000 in
theorem blockText_law (key s : ByteArray) (w : World) (hT : MixTab w) :
    Calls Tryd.prog 6 #[.string key, .string s] w fun e w' => e = .returned (.bool true) ∧ Below w.heap.size w w' := by
  by_cases ha : key.size ≤ 1048576
  · by_cases hb : s.size ≤ 1048576
    · have hk : ∃ t, (∀ w, Calls Tryd.prog 12 #[.string key, .string s] w fun e w' => e = .returned (.string t) ∧ Below w.heap.size w w') ∧
          ∀ w, MixTab w → Calls Tryd.prog 9 #[.string key, .string s] w fun e w' => e = .returned (.string t) ∧ Below w.heap.size w w' := by
        by_cases h : key.size = 16 ∧ s.size = 16
        · exact ⟨_, fun w => specBlockText_yes key s w h.1 h.2, fun w hT => implBlock_yes key s w h.1 h.2 hT⟩
        · exact ⟨_, fun w => specBlockText_no key s w h, fun w _ => implBlock_no key s w h⟩
      obtain ⟨t, h1, h2⟩ := hk
      have k1 := Lib.hid h1
      have k2 := Lib.hid h2
      have HT := Lib.hid hT
      clear h1 h2 hT
      go_enter Tryd.func6, Tryd.ntmps6
      go_wp2_with (first
        | (go_at_call 12; refine (k1.out _).mono ?_; rintro e w1 ⟨rfl, hb1⟩)
        | (go_at_call 9; refine (k2.out _ (HT.out.below hb1)).mono ?_; rintro e w2 ⟨rfl, hb2⟩))
      go_ret
      exact ⟨rfl, hb1.trans (hb2.mono hb1.size)⟩
    · have hn : 1048576 < s.size := by omega
      go_enter Tryd.func6, Tryd.ntmps6
      go_wp2
      go_ret
      exact ⟨rfl, Below.refl _ _⟩
  · have hn : 1048576 < key.size := by omega
    go_enter Tryd.func6, Tryd.ntmps6
    go_wp2
    go_ret
    exact ⟨rfl, Below.refl _ _⟩
end Go.Proofs.YtepnnmckbcomjaaDoor
