/- The model's box. -/
import Derived.Test.YtepnnmckbcomjaaDoorBoxesMath
import Derived.Test.YtepnnmckbcomjaaDoorFieldSpec
import Derived.Test.YtepnnmckbcomjaaDoorTurnedSpec
import Derived.Laws.Rows
import Derived.BigRegion
import Derived.Deep.QuietTactic
import Derived.BigQuiet
import Derived.StillTailTactics
namespace Go.Proofs.YtepnnmckbcomjaaDoor
open Go.RowKit Go.Proofs.YtepnnmckbcomjaaDoor.Hexa Go.Proofs.YtepnnmckbcomjaaDoor.Byt Go.Proofs.YtepnnmckbcomjaaDoor.Aes Go.Proofs.YtepnnmckbcomjaaDoor.Fld Go.Proofs.YtepnnmckbcomjaaDoor.BitsM

def z255 : Array Value := ncells (List.replicate 255 0)
def z256 : Array Value := (bcells (List.replicate 256 0)).toArray
theorem run_alloc256 (W : World) : (Instr.alloc 43 true (.tuple #[])).run Tryd.prog W = .ok (.pointer (some ⟨W.heap.size, 0, none⟩)) (W.alloc (.cells z256 43)) := by kernel_rfl
theorem run_alloc255 (W : World) : (Instr.alloc 55 true (.tuple #[])).run Tryd.prog W = .ok (.pointer (some ⟨W.heap.size, 0, none⟩)) (W.alloc (.cells z255 55)) := by kernel_rfl
theorem built256 : (Tryd.prog.built 43 []).isSome = true ∧ (Tryd.prog.built 43 []).getD #[] = z256 := ⟨by kernel_rfl, by kernel_rfl⟩
theorem built255 : (Tryd.prog.built 55 []).isSome = true ∧ (Tryd.prog.built 55 []).getD #[] = z255 := ⟨by kernel_rfl, by kernel_rfl⟩
theorem wpList_allocCells {ops : Array Oper} {rest : List Oper} {o : Oper} {a : Act} {w : World} {Q : Exit → Act → World → Prop} (hg : o.guard = none) (t : TypeId) (ho : o.op = .alloc t) (cs : Array Value)
    (hr : ∀ W : World, (Instr.alloc t true (.tuple #[])).run Tryd.prog W = .ok (.pointer (some ⟨W.heap.size, 0, none⟩)) (W.alloc (.cells cs t)))
    (h : wpList Tryd.prog ops Q rest (a.put o.dst (.pointer (some ⟨w.heap.size, 0, none⟩))) (w.alloc (.cells cs t))) : wpList Tryd.prog ops Q (o :: rest) a w := by
  refine wpList_plain hg fun K hK => ?_
  unfold Oper.wp execOp
  simp only [ho, Sem.run_bind, Sem.run_pure, hr, Result.andThen_ok]
  exact hK _ _ h
theorem wpList_buildCells {ops : Array Oper} {rest : List Oper} {o : Oper} {a : Act} {w : World} {Q : Exit → Act → World → Prop} (hg : o.guard = none) (t : TypeId) (cs : Array Value) (ho : o.op = .build t #[])
    (hb : (Tryd.prog.built t []).isSome = true ∧ (Tryd.prog.built t []).getD #[] = cs)
    (h : wpList Tryd.prog ops Q rest (a.put o.dst (.agg cs)) w) : wpList Tryd.prog ops Q (o :: rest) a w := by
  refine wpList_build hg t #[] ho (by simpa using hb.1) ?_
  have e := hb.2
  simp only [List.map_toArray, List.map_nil]
  rw [e]
  exact h

/-- The blocks of a call: the result, the powers. -/
def BMem (w wr : World) (ps : List Nat) : Prop :=
  wr.heap[w.heap.size]? = some (.cells z256 43 (0, 0)) ∧ wr.heap[w.heap.size + 1]? = some (.cells (ncells ps) 55 (0, 0)) ∧ Below w.heap.size w wr ∧ wr.heap.size = w.heap.size + 1 + 1
theorem bmem_set {w wr : World} {ps : List Nat} (h : BMem w wr ps) (k x : Nat) : BMem w (wr.setCell ⟨w.heap.size + 1, k, none⟩ (.int .i64 x)) (ps.set k x) := by
  obtain ⟨h1, h2, h3, h4⟩ := h
  refine ⟨?_, set_num h2 x, h3.setCell (by show _ ≤ w.heap.size + 1; omega) _, by simpa using h4⟩
  rw [Below.heap_setCell _ _ _ _ (by simp)]; exact h1
theorem bmem_start (w : World) : BMem w (((w.alloc (.cells z256 43)).alloc (.cells z255 55)).setRow (w.heap.size + 1) z255) (padP 0) := by
  have n1 := heap_alloc_new w (.cells z256 43)
  have n2 := heap_alloc_new (w.alloc (.cells z256 43)) (.cells z255 55)
  simp only [World.size_alloc] at n2
  refine ⟨?_, setRow_heap _ _ _ _ _ _ n2, (((Below.refl _ _).alloc (Nat.le_refl _) _).alloc (by simp) _).trans ⟨rfl, rfl, rfl, by simp, fun k hk => setRow_other _ _ _ _ (by omega)⟩, by simp⟩
  rw [setRow_other _ _ _ _ (by omega), Below.heap_alloc _ _ _ (by simp)]; exact n1
theorem bmem_draws {w wr : World} {ps : List Nat} (h : BMem w wr ps) (n : Nat) : BMem w (wr.drewN n) ps := ⟨h.1, h.2.1, ⟨h.2.2.1.os, h.2.2.1.tape, h.2.2.1.output, h.2.2.1.size, h.2.2.1.block⟩, h.2.2.2⟩

/-- The blocks of the second half: the result, the powers, the box so far. -/
def OMem (w wr : World) (l : List UInt8) : Prop :=
  wr.heap[w.heap.size]? = some (.cells z256 43 (0, 0)) ∧ wr.heap[w.heap.size + 1]? = some (.cells (ncells (padP 255)) 55 (0, 0)) ∧ wr.heap[w.heap.size + 1 + 1]? = some (.cells (bcells l).toArray 43 (0, 0)) ∧ Below w.heap.size w wr
theorem omem_start {w wr : World} (h : BMem w wr (padP 255)) : OMem w ((wr.alloc (.cells z256 43)).setRow (w.heap.size + 1 + 1) z256) (List.replicate 256 0) := by
  obtain ⟨h1, h2, h3, h4⟩ := h
  have n := heap_alloc_new wr (.cells z256 43)
  rw [h4] at n
  refine ⟨?_, ?_, setRow_heap _ _ _ _ _ _ n, (h3.alloc (by omega) _).trans ⟨rfl, rfl, rfl, by simp, fun k hk => setRow_other _ _ _ _ (by omega)⟩⟩
  · rw [setRow_other _ _ _ _ (by omega), Below.heap_alloc _ _ _ (by omega)]; exact h1
  · rw [setRow_other _ _ _ _ (by omega), Below.heap_alloc _ _ _ (by omega)]; exact h2
theorem omem_set {w wr : World} {l : List UInt8} (h : OMem w wr l) (k : Nat) (x : UInt8) : OMem w (wr.setCell ⟨w.heap.size + 1 + 1, k, none⟩ (.int .u8 x.toNat)) (l.set k x) := by
  obtain ⟨h1, h2, h3, h4⟩ := h
  refine ⟨?_, ?_, set_byte h3 x, h4.setCell (by show _ ≤ w.heap.size + 1 + 1; omega) _⟩
  · rw [Below.heap_setCell _ _ _ _ (by simp; try omega)]; exact h1
  · rw [Below.heap_setCell _ _ _ _ (by simp)]; exact h2
theorem omem_draws {w wr : World} {l : List UInt8} (h : OMem w wr l) (n : Nat) : OMem w (wr.drewN n) l := ⟨h.1, h.2.1, h.2.2.1, ⟨h.2.2.2.os, h.2.2.2.tape, h.2.2.2.output, h.2.2.2.size, h.2.2.2.block⟩⟩

set_option maxRecDepth 100000 in
set_option maxHeartbeats 4000000 in
theorem specBoxes_any (w : World) :
    Calls Tryd.prog 25 #[] w fun e w' => e = .returned (.agg boxCells) ∧ Below w.heap.size w w' := by
  have h7 : ((w.alloc (.cells z256 43)).alloc (.cells z255 55)).heap[w.heap.size + 1]? = some (.cells z255 55 (0, 0)) := by
    have := heap_alloc_new (w.alloc (.cells z256 43)) (.cells z255 55)
    simpa using this
  have hsr := run_storeCells_from (P := Tryd.prog) (w.heap.size + 1) 55 z255.toList 0 z255 _ h7 (by simp [z255, ncells]) (fun v hv => by simp [z255, ncells] at hv; rw [hv]; rfl)
  simp at hsr
  have BM0 := Lib.hid (bmem_start w)
  clear h7
  go_enter Tryd.func25, Tryd.ntmps25
  go_wp2_with (first
    | (refine wpList_allocCells rfl 43 rfl z256 run_alloc256 ?_)
    | (refine wpList_allocCells rfl 55 rfl z255 run_alloc255 ?_)
    | (refine wpList_buildCells rfl 55 z255 rfl built255 ?_)
    | (refine wpList_buildCells rfl 43 z256 rfl built256 ?_))
  clear hsr
  go_loopw [2, 3] (fun xv iv wr => ∃ i : Nat, i ≤ 255 ∧ iv = .int .i64 i ∧ xv = .int .i64 (p3 i) ∧ Hid (BMem w wr (padP i)))
    (fun _ iv _ => 255 - (intOf iv).toNat)
  case atStart => exact ⟨0, Nat.zero_le _, rfl, rfl, BM0⟩
  case round =>
    clear BM0
    obtain ⟨i, hi, rfl, rfl, HM⟩ := hrel
    by_cases hlt : i < 255
    · have hl := p3_lt i
      have HE : Hid (p3 (i + 1) = p3 i ^^^ dbl (p3 i)) := Lib.hid rfl
      have M1 := bmem_set HM.out i (p3 i)
      rw [padP_set i hlt] at M1
      have HM1 := Lib.hid M1
      have c1 : ∃ v, wr.cell? ⟨w.heap.size + 1, i, none⟩ = some v := ⟨_, cell_num HM.out.2.1 i ((padP i)[i]'(by rw [padP_length i (by omega)]; exact hlt)) (List.getElem?_eq_getElem _)⟩
      obtain ⟨v1, c1⟩ := c1
      have f1 := free_cell HM.out.2.1 i
      clear M1 HM
      have hd := dbl_lt _ hl
      have hx := xor64 (p3 i) (dbl (p3 i)) (by omega) (by omega)
      rw [← HE.out] at hx
      go_wp2_with (go_at_call 30; refine (specDouble_yes _ _ hl).mono ?_; rintro e w3 ⟨rfl, rfl⟩)
      go_roundw
      case rel => exact ⟨i + 1, by omega, by go_num, rfl, HM1⟩
      case measure => (simp [intOf]; try omega)
    · obtain rfl : i = 255 := by omega
      have n8 : wr.heap.size = w.heap.size + 1 + 1 := HM.out.2.2.2
      have h8 := heap_alloc_new wr (.cells z256 43)
      have hsr := run_storeCells_from (P := Tryd.prog) wr.heap.size 43 z256.toList 0 z256 _ h8 (by simp [z256, bcells]) (fun v hv => by simp [z256, bcells] at hv; rw [hv]; rfl)
      simp [n8] at hsr
      have O0 := omem_start HM.out
      generalize hW2 : (wr.alloc (.cells z256 43)).setRow (w.heap.size + 1 + 1) z256 = W2 at hsr O0
      clear HM h8 hW2
      have c0 := cell_byte O0.2.2.1 0 0 rfl
      have f0 := free_cell O0.2.2.1 0
      have O1 := Lib.hid (omem_set O0 0 99)
      clear O0
      go_wp2_with (first
        | (refine wpList_allocCells rfl 43 rfl z256 run_alloc256 ?_)
        | (refine wpList_buildCells rfl 43 z256 rfl built256 ?_))
      clear hsr c0 f0 n8
      go_loopw [5] (fun iv wr => ∃ i : Nat, i ≤ 255 ∧ iv = .int .i64 i ∧ Hid (OMem w wr (outs i)))
        (fun iv _ => 255 - (intOf iv).toNat)
      case atStart => exact ⟨0, Nat.zero_le _, rfl, O1⟩
      case round =>
        clear O1
        obtain ⟨i, hi, rfl, HM⟩ := hrel
        by_cases hlt : i < 255
        · obtain ⟨j, hj1, hj2, hj3⟩ : ∃ j : Nat, (255 - (i : Int)) % 255 = j ∧ j < 255 ∧ (255 - i) % 255 = j := ⟨(255 - i) % 255, by omega, by omega, rfl⟩
          have c1 := cell_num HM.out.2.1 i (p3 i) (padP_all i hlt)
          have c2 := cell_num HM.out.2.1 j (p3 j) (padP_all j hj2)
          have l1 := p3_lt i
          have l2 := p3_lt j
          have l3 := turnF_lt (p3 j) 5
          have c3 := cell_byte HM.out.2.2.1 (p3 i) ((outs i)[p3 i]'(by rw [outs_length]; exact l1)) (List.getElem?_eq_getElem _)
          have f3 := free_cell HM.out.2.2.1 (p3 i)
          have HE : Hid (outs (i + 1) = (outs i).set (p3 i) (UInt8.ofNat (turnF (p3 j) 5))) := Lib.hid (by rw [← hj3]; rfl)
          have O1 := omem_set HM.out (p3 i) (UInt8.ofNat (turnF (p3 j) 5))
          rw [← HE.out] at O1
          have HO := Lib.hid O1
          clear O1 HE HM
          have w1 : IntKind.i64.wrap (255 - (i : Int)) = 255 - (i : Int) := IntWalk.i64_in _ (by omega)
          have t1 : (255 - (i : Int)).tmod 255 = (j : Int) := by rw [Int.tmod_eq_emod_of_nonneg (by omega)]; exact hj1
          have j4 : (0 : Int) ≤ (j : Int) ∧ (j : Int) < 255 := by omega
          have p4 : (0 : Int) ≤ (p3 i : Int) ∧ (p3 i : Int) < 256 := by omega
          have W8 : Hid ((turnF (p3 j) 5 : Int) = ((UInt8.ofNat (turnF (p3 j) 5)).toNat : Int)) := Lib.hid (by rw [UInt8.toNat_ofNat']; omega)
          go_wp2
          refine wp_region_still_tail 11 (by kernel_rfl) (by kernel_rfl) ?_
          simp only [List.take_succ_cons, List.take_zero, List.drop_succ_cons, List.drop_zero]
          still_step
          still_step
          still_step
          still_step
          still_step
          still_step
          still_step
          still_step
          still_call (specTurned_any (p3 j) _ l2)
          still_step
          still_step
          refine wpStill_nil ?_
          change wpList _ _ _ _ _ wr.drew
          go_wp2
          rw [W8.out]
          go_roundw
          case rel => exact ⟨i + 1, by omega, by go_num, Lib.hid (omem_draws HO.out 1)⟩
          case measure => (simp [intOf]; try omega)
        · obtain rfl : i = 255 := by omega
          have m2 := HM.out.2.2.1
          rw [outs_all] at m2
          have e0 : (bcells boxTab).toArray = boxCells := rfl
          rw [e0] at m2
          have s8 : boxCells.size = 256 := by show (bcells boxTab).toArray.size = 256; rw [List.size_toArray, bcells_length, boxTab_length]
          have hone : ∀ v ∈ boxCells.toList, v.oneCell' = true := bcells_one boxTab
          have hsr3 := run_storeCells_from (P := Tryd.prog) w.heap.size 43 boxCells.toList 0 z256 _ HM.out.1 (by simp [z256, bcells, s8]) hone
          simp at hsr3
          clear hone e0
          go_wp2_with (first
            | (refine wpList_load_row rfl 43 (.tmp 4) rfl (w.heap.size + 1 + 1) rfl 43 boxCells (0, 0) _ m2 Tryd.underlying43 rfl (by rw [s8]; kernel_rfl) ?_))
          (try simp only [Exit.inBlock, Exit.then])
          refine bodyPost_ret (results_cell_row rfl _ _ w.heap.size 43 boxCells (0, 0) _ rfl (setRow_heap _ _ _ _ _ _ HM.out.1) Tryd.underlying43 rfl (by rw [s8]; kernel_rfl)) rfl ?_
          exact ⟨rfl, HM.out.2.2.2.trans ⟨rfl, rfl, rfl, by simp, fun k hk => setRow_other _ _ _ _ (by omega)⟩⟩
end Go.Proofs.YtepnnmckbcomjaaDoor
