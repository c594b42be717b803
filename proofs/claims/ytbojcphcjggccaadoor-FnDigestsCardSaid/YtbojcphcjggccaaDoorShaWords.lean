/- The words of a state out of ints, and a slice of ints copied. -/
import Derived.Test.YtbojcphcjggccaaDoorShaNum
import Derived.Laws.ResultCell
import Derived.Laws.AppendOwnNone
namespace Go.Proofs.YtbojcphcjggccaaDoor
open Go.RowKit Go.Proofs.YtbojcphcjggccaaDoor.Sha Go.Proofs.YtbojcphcjggccaaDoor.Hexa Go.Proofs.YtbojcphcjggccaaDoor.Parts

/-- A 32-bit word's int. -/
def InWord (z : Int) : Prop := 0 ≤ z ∧ z ≤ 4294967295
/-- Eight 32-bit words. -/
def Good (zs : List Int) : Prop := zs.length = 8 ∧ ∀ j, j < 8 → InWord (zs.getD j 0)
def wordOf (z : Int) : UInt32 := UInt32.ofNat z.toNat
theorem wordOf_u {z : Int} (h : InWord z) : u (wordOf z) = z := by
  obtain ⟨h0, h1⟩ := h
  unfold wordOf
  rw [u_of]
  omega
/-- The state that eight ints say. -/
def stOf (zs : List Int) : St8 := ⟨wordOf (zs.getD 0 0), wordOf (zs.getD 1 0), wordOf (zs.getD 2 0), wordOf (zs.getD 3 0), wordOf (zs.getD 4 0), wordOf (zs.getD 5 0), wordOf (zs.getD 6 0), wordOf (zs.getD 7 0)⟩
theorem stOf_get (zs : List Int) (k : Nat) (hk : k < 8) : (stOf zs).list.getD k 0 = wordOf (zs.getD k 0) := by
  rcases k with _ | _ | _ | _ | _ | _ | _ | _ | k
  all_goals first | rfl | omega

theorem cell_getD {w : World} {a : Addr} {zs : List Int} {k : Nat} (hk : k < zs.length) (h : w.cell? a = (icells zs)[k]?) : w.cell? a = some (.int .i64 (zs.getD k 0)) := by
  rw [cell_int hk h]; simp [List.getD, hk]

/-- The blocks of the call: the result, the words. -/
structure MemW (w wr : World) (ws : Array Value) : Prop where
  res : wr.heap[w.heap.size]? = some (.cells (zeros 8) 45 (0, 0))
  words : wr.heap[w.heap.size + 1]? = some (.cells ws 45 (0, 0))
  below : Below w.heap.size w wr
theorem memW_start (w : World) : MemW w ((w.alloc (.cells (zeros 8) 45)).alloc (.cells (zeros 8) 45)) (zeros 8) := by
  have n1 := heap_alloc_new w (.cells (zeros 8) 45)
  have n2 := heap_alloc_new (w.alloc (.cells (zeros 8) 45)) (.cells (zeros 8) 45)
  simp only [World.size_alloc] at n2
  refine ⟨?_, n2, ((Below.refl _ _).alloc (Nat.le_refl _) _).alloc (by simp) _⟩
  rw [Below.heap_alloc _ _ _ (by simp)]; exact n1
theorem memW_set {w wr : World} {xs : List UInt32} (h : MemW w wr (wcells xs)) (k : Nat) (x : UInt32) :
    MemW w (wr.setCell ⟨w.heap.size + 1, k, none⟩ (.int .u32 (u x))) (wcells (xs.set k x)) := by
  refine ⟨?_, set_words h.words x, h.below.setCell (by show _ ≤ w.heap.size + 1; omega) _⟩
  rw [Below.heap_setCell _ _ _ _ (by simp)]; exact h.res

/-- What the call returns. -/
def WordsPost (zs : List Int) (w : World) (e : Ending) (w' : World) : Prop :=
  (Good zs ∧ e = .returned (.tuple #[.agg (stOf zs).cells, .bool true]) ∨ ¬ Good zs ∧ e = .returned (.tuple #[.agg (zeros 8), .bool false])) ∧ Below w.heap.size w w'

theorem built8 : (Tryd.prog.built 45 []).isSome = true ∧ (Tryd.prog.built 45 []).getD #[] = zeros 8 := ⟨by kernel_rfl, by kernel_rfl⟩
theorem wpList_buildZero8 {ops : Array Oper} {rest : List Oper} {o : Oper} {a : Act} {w : World} {Q : Exit → Act → World → Prop} (hg : o.guard = none) (ho : o.op = .build 45 #[])
    (h : wpList Tryd.prog ops Q rest (a.put o.dst (.agg (zeros 8))) w) : wpList Tryd.prog ops Q (o :: rest) a w := by
  refine wpList_build hg 45 #[] ho (by simpa using built8.1) ?_
  have e := built8.2
  simp only [List.map_toArray, List.map_nil]
  rw [e]
  exact h

theorem results_pair {fn : Func} {p t : Tmp} {ty : TypeId} (h : fn.results = #[.cell p ty, .tmp t]) (tmps : Array Value) (w : World) (g : Nat) (cs : Array Value)
    (hp : tmps.getD p undef = .pointer (some ⟨g, 0, none⟩)) (hl : (loadVar ty ⟨g, 0, none⟩).run Tryd.prog w = .ok (.agg cs) w) :
    (results fn tmps).run Tryd.prog w = .ok (.tuple #[.agg cs, tmps.getD t undef]) w := by
  rw [results_cell_tmp h, hp]
  simp only [asAddr, Sem.run_pure, Result.andThen_ok, hl]
theorem load_words {w : World} {g : Nat} {cs : Array Value} (hg : w.heap[g]? = some (.cells cs 45 (0, 0))) (hs : cs.size = 8) : (loadVar 45 ⟨g, 0, none⟩).run Tryd.prog w = .ok (.agg cs) w :=
  run_loadVar_row w g 45 45 cs (0, 0) _ hg Tryd.underlying45 rfl (by rw [hs]; kernel_rfl)

set_option maxRecDepth 100000 in
set_option maxHeartbeats 1000000 in
theorem wordsOf_any (ad : Option Addr) (n cap : Nat) (zs : List Int) (w : World) (hl : zs.length = n) (hr : Reads w ad (icells zs)) (hn : n ≤ 100000000) (hlt : ∀ g, ad = some ⟨g, 0, none⟩ → 0 < n → g < w.heap.size) :
    Calls Tryd.prog 25 #[.slice ad n cap] w (WordsPost zs w) := by
  have HL := Lib.hid hl
  have HR := Lib.hid hr
  have HLT := Lib.hid hlt
  clear hl hr hlt
  have M0 := Lib.hid (memW_start w)
  by_cases h8 : n = 8
  · subst h8
    go_enter Tryd.func25, Tryd.ntmps25
    go_wp2_with (first
      | (refine wpList_allocRow rfl 45 rfl (zeros 8) run_allocW ?_))
    generalize (w.alloc (.cells (zeros 8) 45)).alloc (.cells (zeros 8) 45) = W at M0 ⊢
    go_loopw [5, 6, 13] (fun _ _ iv wr => ∃ (k : Nat) (xs : List UInt32), k ≤ 8 ∧ iv = .int .i64 k ∧ Hid (xs.length = 8) ∧ Hid (∀ j, j < k → xs[j]? = some ((stOf zs).list.getD j 0)) ∧ Hid (∀ j, j < k → InWord (zs.getD j 0)) ∧ Hid (MemW w wr (wcells xs)))
      (fun _ _ iv _ => 8 - (intOf iv).toNat)
    case atStart => exact ⟨0, List.replicate 8 0, Nat.zero_le _, rfl, Lib.hid (by simp), Lib.hid (fun j hj => by omega), Lib.hid (fun j hj => by omega), M0⟩
    case round =>
      clear M0
      obtain ⟨k, xs, hk, rfl, HX, HA, HB, HM⟩ := hrel
      by_cases hlt : k < 8
      · obtain ⟨g, rfl, hc⟩ := HR.out k (by have := HL.out; simp [icells]; omega)
        have hgl := HLT.out g rfl (by omega)
        have hc0 : wr.cell? ⟨g, k, none⟩ = some (.int .i64 (zs.getD k 0)) := by
          rw [HM.out.below.cell hgl]; exact cell_getD (by have := HL.out; omega) hc
        clear hc
        by_cases hin : InWord (zs.getD k 0)
        · have hset := stOf_get zs k hlt
          have hu := wordOf_u hin
          obtain ⟨x, hx⟩ : ∃ x, wordOf (zs.getD k 0) = x := ⟨_, rfl⟩
          rw [hx] at hu hset
          rw [← hu] at hc0
          have hb := u_bd x
          have hw : IntKind.u32.wrap (u x) = u x := wrap_u x
          have ck := cell_words HM.out.words k (by have := HX.out; omega)
          have zk := free_words HM.out.words k
          obtain ⟨vk, hvk⟩ : ∃ v, u (xs[k]'(by have := HX.out; omega)) = v := ⟨_, rfl⟩
          rw [hvk] at ck
          have HSET := Lib.hid hset
          have HIN := Lib.hid hin
          have HUX := Lib.hid hu
          clear hvk hset hin hu hx
          go_wp2
          go_roundw
          case rel => exact ⟨k + 1, xs.set k x, by omega, by go_num, Lib.hid (by have := HX.out; simpa using this), Lib.hid (row_next HA.out (by have := HX.out; omega) HSET.out.symm), Lib.hid (fun j hj => by
            by_cases e : j = k
            · rw [e]; exact HIN.out
            · exact HB.out j (by omega)), Lib.hid (memW_set HM.out k x)⟩
          case measure => (simp [intOf]; try omega)
        · have HNG : Hid (¬ Good zs) := Lib.hid (fun h => hin (h.2 k hlt))
          obtain ⟨z, hz⟩ : ∃ z, zs.getD k 0 = z := ⟨_, rfl⟩
          rw [hz] at hc0 hin
          unfold InWord at hin
          have hres := HM.out.res
          have hsz := run_storeCells_from (P := Tryd.prog) w.heap.size 45 (zeros 8).toList 0 (zeros 8) _ hres (by simp) (by intro v hv; simp [zeros, wcells] at hv; rw [hv]; rfl)
          simp at hsz
          by_cases hneg : z < 0
          · go_wp2_with (first | (refine wpList_buildZero8 rfl rfl ?_))
            (try simp only [Exit.inBlock, Exit.then])
            refine bodyPost_ret (results_pair rfl _ _ w.heap.size (zeros 8) rfl (load_words (setRow_heap _ _ _ _ _ _ HM.out.res) rfl)) rfl ?_
            exact ⟨.inr ⟨HNG.out, rfl⟩, HM.out.below.trans ⟨rfl, rfl, rfl, by simp, fun k hk => setRow_other _ _ _ _ (by omega)⟩⟩
          · have hbig : 4294967295 < z := by omega
            go_wp2_with (first | (refine wpList_buildZero8 rfl rfl ?_))
            (try simp only [Exit.inBlock, Exit.then])
            refine bodyPost_ret (results_pair rfl _ _ w.heap.size (zeros 8) rfl (load_words (setRow_heap _ _ _ _ _ _ HM.out.res) rfl)) rfl ?_
            exact ⟨.inr ⟨HNG.out, rfl⟩, HM.out.below.trans ⟨rfl, rfl, rfl, by simp, fun k hk => setRow_other _ _ _ _ (by omega)⟩⟩
      · obtain rfl : k = 8 := by omega
        have hfin := list_eq_of HX.out HA.out
        have HG : Hid (Good zs) := Lib.hid ⟨HL.out, HB.out⟩
        have hcs : xs.length = 8 := HX.out
        have m0 := HM.out.words
        have hsr := run_storeCells_from (P := Tryd.prog) w.heap.size 45 (wcells xs).toList 0 (zeros 8) _ HM.out.res (by simp [zeros, wcells, hcs]) (wcells_one xs)
        have hc8 : (wcells xs).size = 8 := by rw [wcells_size]; exact hcs
        have HCE : Hid (wcells xs = (stOf zs).cells) := Lib.hid (by rw [hfin, cells_list])
        obtain ⟨cs, hcse⟩ : ∃ cs, wcells xs = cs := ⟨_, rfl⟩
        rw [hcse] at m0 hsr hc8 HCE
        simp at hsr
        clear hcse hfin hcs
        go_wp2_with (first
          | (refine wpList_load_row rfl 45 (.tmp 4) rfl (w.heap.size + 1) rfl 45 cs (0, 0) _ m0 Tryd.underlying45 rfl (by rw [hc8]; kernel_rfl) ?_))
        (try simp only [Exit.inBlock, Exit.then])
        refine bodyPost_ret (results_pair rfl _ _ w.heap.size cs rfl (load_words (setRow_heap _ _ _ _ _ _ HM.out.res) hc8)) rfl ?_
        exact ⟨.inl ⟨HG.out, by rw [HCE.out]; rfl⟩, HM.out.below.trans ⟨rfl, rfl, rfl, by simp, fun k hk => setRow_other _ _ _ _ (by omega)⟩⟩
  · have HNG : Hid (¬ Good zs) := Lib.hid (fun h => h8 (by have := h.1; have := HL.out; omega))
    have hres := M0.out.res
    have hsz := run_storeCells_from (P := Tryd.prog) w.heap.size 45 (zeros 8).toList 0 (zeros 8) _ hres (by simp) (by intro v hv; simp [zeros, wcells] at hv; rw [hv]; rfl)
    simp at hsz
    go_enter Tryd.func25, Tryd.ntmps25
    go_wp2_with (first
      | (refine wpList_allocRow rfl 45 rfl (zeros 8) run_allocW ?_)
      | (refine wpList_buildZero8 rfl rfl ?_))
    (try simp only [Exit.inBlock, Exit.then])
    refine bodyPost_ret (results_pair rfl _ _ w.heap.size (zeros 8) rfl (load_words (setRow_heap _ _ _ _ _ _ M0.out.res) rfl)) rfl ?_
    exact ⟨.inr ⟨HNG.out, rfl⟩, M0.out.below.trans ⟨rfl, rfl, rfl, by simp, fun k hk => setRow_other _ _ _ _ (by omega)⟩⟩
end Go.Proofs.YtbojcphcjggccaaDoor
