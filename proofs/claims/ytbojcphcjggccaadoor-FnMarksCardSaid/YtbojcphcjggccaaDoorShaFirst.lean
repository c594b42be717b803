/- The first state and the numbers of the rounds, as the model makes them; the words of a state one by one. -/
import Derived.Test.YtbojcphcjggccaaDoorShaAfter
import Derived.Test.YtbojcphcjggccaaDoorHexMath
import Derived.Test.YtbojcphcjggccaaDoorPartsMath
import Derived.Deep.RegionLaw
import Derived.Deep.AppendLies
namespace Go.Proofs.YtbojcphcjggccaaDoor
open Go.RowKit Go.Proofs.YtbojcphcjggccaaDoor.Sha Go.Proofs.YtbojcphcjggccaaDoor.Hexa Go.Proofs.YtbojcphcjggccaaDoor.Parts

/-- The words as ints. -/
def ints (S : St8) : List Int := S.list.map u
theorem ints_length (S : St8) : (ints S).length = 8 := rfl
theorem ints_get (S : St8) (k : Nat) (hk : k < 8) : (ints S).getD k 0 = u (S.list.getD k 0) := by
  rcases k with _ | _ | _ | _ | _ | _ | _ | _ | k
  all_goals first | rfl | omega
theorem cells_get (S : St8) (k : Nat) (hk : k < 8) : S.cells[k]? = some (.int .u32 ((ints S).getD k 0)) := by
  rcases k with _ | _ | _ | _ | _ | _ | _ | _ | k
  all_goals first | rfl | omega
set_option maxRecDepth 100000 in
set_option maxHeartbeats 1000000 in
theorem first_any (w : World) : Calls Tryd.prog 50 #[] w fun e w' => e = .returned (.agg firstS.cells) ∧ Below w.heap.size w w' := by
  have H2 := Lib.hid (heap_alloc_new w (.cells (zeros 8) 44))
  have H3 : Hid (Below w.heap.size w (w.alloc (.cells (zeros 8) 44))) := Lib.hid ((Below.refl _ _).alloc (Nat.le_refl _) _)
  go_enter Tryd.func50, Tryd.ntmps50
  go_wp2_with (first
    | (refine wpList_allocRow rfl 44 rfl (zeros 8) run_alloc8 ?_)
    | (refine wpList_build rfl 44 _ rfl (by kernel_rfl) ?_
       refine wpList_store_row rfl 44 (.tmp 0) (.tmp 1) rfl w.heap.size firstS.cells rfl (by kernel_rfl) 44 (zeros 8) H2.out (by kernel_rfl) (by kernel_rfl) (by kernel_rfl) ?_))
  (try simp only [Exit.inBlock, Exit.then])
  refine bodyPost_ret (results_cell_row rfl _ _ w.heap.size 44 firstS.cells (0, 0) _ rfl (setRow_heap _ _ _ _ _ _ H2.out) Tryd.underlying44 rfl (by kernel_rfl)) rfl ?_
  exact ⟨rfl, H3.out.trans ⟨rfl, rfl, rfl, by simp, fun k hk => setRow_other _ _ _ _ (by omega)⟩⟩

set_option maxRecDepth 100000 in
set_option maxHeartbeats 1000000 in
theorem keys_any (w : World) : Calls Tryd.prog 51 #[] w fun e w' => e = .returned (.agg (wcells keyL)) ∧ Below w.heap.size w w' := by
  have H2 := Lib.hid (heap_alloc_new w (.cells (zeros 64) 67))
  have H3 : Hid (Below w.heap.size w (w.alloc (.cells (zeros 64) 67))) := Lib.hid ((Below.refl _ _).alloc (Nat.le_refl _) _)
  go_enter Tryd.func51, Tryd.ntmps51
  go_wp2_with (first
    | (refine wpList_allocRow rfl 67 rfl (zeros 64) run_alloc64 ?_)
    | (refine wpList_build rfl 67 _ rfl (by kernel_rfl) ?_
       refine wpList_store_row rfl 67 (.tmp 0) (.tmp 1) rfl w.heap.size (wcells keyL) rfl (by kernel_rfl) 67 (zeros 64) H2.out (by kernel_rfl) (by kernel_rfl) (by kernel_rfl) ?_))
  (try simp only [Exit.inBlock, Exit.then])
  refine bodyPost_ret (results_cell_row rfl _ _ w.heap.size 67 (wcells keyL) (0, 0) _ rfl (setRow_heap _ _ _ _ _ _ H2.out) Tryd.underlying67 rfl (by kernel_rfl)) rfl ?_
  exact ⟨rfl, H3.out.trans ⟨rfl, rfl, rfl, by simp, fun k hk => setRow_other _ _ _ _ (by omega)⟩⟩

/-- A state stored into a variable of its own. -/
theorem laid_row (w1 : World) {st : Array Value} (hss : st.size = 8) (hso : ∀ v ∈ st.toList, v.oneCell' = true) :
    ∃ W2 : World, (storeCells ⟨w1.heap.size, 0, none⟩ st.toList 0).run Tryd.prog (w1.alloc (.cells (zeros 8) 44)) = .ok () W2 ∧ W2.heap[w1.heap.size]? = some (.cells st 44 (0, 0)) ∧ W2.heap.size = w1.heap.size + 1 ∧ Below w1.heap.size w1 W2 := by
  have r1 := run_storeCells_from (P := Tryd.prog) w1.heap.size 44 st.toList 0 (zeros 8) _ (heap_alloc_new w1 (.cells (zeros 8) 44)) (by simp [zeros, wcells, hss]) hso
  simp at r1
  exact ⟨_, r1, setRow_heap _ _ _ _ _ _ (heap_alloc_new w1 _), by simp, ((Below.refl _ _).alloc (Nat.le_refl _) _).trans ⟨rfl, rfl, rfl, by simp, fun k hk => setRow_other _ _ _ _ (by omega)⟩⟩

end Go.Proofs.YtbojcphcjggccaaDoor
