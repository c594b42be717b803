/- The model's rotation of a word. -/
import Derived.Test.YtbojcphcjggccaaDoorShaMath
import Derived.WalkKit
import Derived.WalkSpells
import Derived.WalkLawsBesides
import Derived.Lib.Hide
import Derived.Laws.Rows
import Derived.BigRegion
import Derived.Deep.QuietTactic
import Derived.BigQuiet
namespace Go.Proofs.YtbojcphcjggccaaDoor
open Go.RowKit Go.Proofs.YtbojcphcjggccaaDoor.Sha

set_option maxRecDepth 100000 in
set_option maxHeartbeats 400000 in
theorem turn_any (x : UInt32) (n : Nat) (w : World) (h : 1 ≤ n) (h' : n ≤ 31) :
    Calls Tryd.prog 63 #[.int .u32 (u x), .int .u64 n] w fun e w' => e = .returned (.int .u32 (u (turn x n))) ∧ w' = w := by
  have hb := u_bd x
  go_enter Tryd.func63, Tryd.ntmps63
  go_wp2
  go_ret
  exact ⟨congrArg (fun z => Ending.returned (Value.int .u32 z)) (turn_u x n), rfl⟩


/-- 'var w [64]uint32' and '[64]uint32{}': sixty-four zero words, folded. -/
def zeros (n : Nat) : Array Value := wcells (List.replicate n 0)
theorem run_alloc64 (W : World) : (Instr.alloc 67 true (.tuple #[])).run Tryd.prog W = .ok (.pointer (some ⟨W.heap.size, 0, none⟩)) (W.alloc (.cells (zeros 64) 67)) := by kernel_rfl
theorem run_alloc8 (W : World) : (Instr.alloc 44 true (.tuple #[])).run Tryd.prog W = .ok (.pointer (some ⟨W.heap.size, 0, none⟩)) (W.alloc (.cells (zeros 8) 44)) := by kernel_rfl
theorem built64 : (Tryd.prog.built 67 []).isSome = true ∧ (Tryd.prog.built 67 []).getD #[] = zeros 64 := ⟨by kernel_rfl, by kernel_rfl⟩

theorem wpList_allocRow {ops : Array Oper} {rest : List Oper} {o : Oper} {a : Act} {w : World} {Q : Exit → Act → World → Prop} (hg : o.guard = none) (t : TypeId) (ho : o.op = .alloc t) (cs : Array Value)
    (hr : ∀ W : World, (Instr.alloc t true (.tuple #[])).run Tryd.prog W = .ok (.pointer (some ⟨W.heap.size, 0, none⟩)) (W.alloc (.cells cs t)))
    (h : wpList Tryd.prog ops Q rest (a.put o.dst (.pointer (some ⟨w.heap.size, 0, none⟩))) (w.alloc (.cells cs t))) : wpList Tryd.prog ops Q (o :: rest) a w := by
  refine wpList_plain hg fun K hK => ?_
  unfold Oper.wp execOp
  simp only [ho, Sem.run_bind, Sem.run_pure, hr, Result.andThen_ok]
  exact hK _ _ h
theorem wpList_buildZero {ops : Array Oper} {rest : List Oper} {o : Oper} {a : Act} {w : World} {Q : Exit → Act → World → Prop} (hg : o.guard = none) (ho : o.op = .build 67 #[])
    (h : wpList Tryd.prog ops Q rest (a.put o.dst (.agg (zeros 64))) w) : wpList Tryd.prog ops Q (o :: rest) a w := by
  refine wpList_build hg 67 #[] ho (by simpa using built64.1) ?_
  have e := built64.2
  simp only [List.map_toArray, List.map_nil]
  rw [e]
  exact h

theorem turn_int (x : UInt32) (n : Int) (w : World) (h : 1 ≤ n) (h' : n ≤ 31) :
    Calls Tryd.prog 63 #[.int .u32 (u x), .int .u64 n] w fun e w' => e = .returned (.int .u32 (u (turn x n.toNat))) ∧ w' = w := by
  obtain ⟨k, rfl⟩ : ∃ k : Nat, n = k := ⟨n.toNat, by omega⟩
  exact turn_any x k w (by omega) (by omega)
/-- A call that leaves the world alone, in a region behind another one that drew. -/
theorem quiet_again {P : Program} {f : FuncId} {args : Array Value} {w : World} {a n : Nat} {v : Value} (c : ∀ W : World, Calls P f args W fun e w' => e = .returned v ∧ w' = W) :
    Calls P f args (w.drewN (a + n)) fun e w'' => e = .returned v ∧ ∃ m, w'' = w.drewN (a + m) :=
  (c _).mono fun _ _ ⟨he, hw⟩ => ⟨he, n, hw⟩

/-- The four blocks of a call: the state, the keys, the result, the schedule. -/
def Mem (w wr : World) (st ks rs ws : Array Value) : Prop :=
  wr.heap[w.heap.size]? = some (.cells st 44 (0, 0)) ∧ wr.heap[w.heap.size + 1]? = some (.cells ks 67 (0, 0)) ∧ wr.heap[w.heap.size + 1 + 1]? = some (.cells rs 44 (0, 0)) ∧
    wr.heap[w.heap.size + 1 + 1 + 1]? = some (.cells ws 67 (0, 0)) ∧ Below w.heap.size w wr
theorem mem_start (w : World) (st ks rs ws : Array Value) :
    Mem w ((((w.alloc (.cells st 44)).alloc (.cells ks 67)).alloc (.cells rs 44)).alloc (.cells ws 67)) st ks rs ws := by
  have n1 := heap_alloc_new w (.cells st 44)
  have n2 := heap_alloc_new (w.alloc (.cells st 44)) (.cells ks 67)
  have n3 := heap_alloc_new ((w.alloc (.cells st 44)).alloc (.cells ks 67)) (.cells rs 44)
  have n4 := heap_alloc_new (((w.alloc (.cells st 44)).alloc (.cells ks 67)).alloc (.cells rs 44)) (.cells ws 67)
  simp only [World.size_alloc] at n2 n3 n4
  refine ⟨?_, ?_, ?_, n4, ((((Below.refl _ _).alloc (Nat.le_refl _) _).alloc (by simp) _).alloc (by simp; try omega) _).alloc (by simp; try omega) _⟩
  · rw [Below.heap_alloc _ _ _ (by simp; try omega), Below.heap_alloc _ _ _ (by simp; try omega), Below.heap_alloc _ _ _ (by simp)]; exact n1
  · rw [Below.heap_alloc _ _ _ (by simp; try omega), Below.heap_alloc _ _ _ (by simp)]; exact n2
  · rw [Below.heap_alloc _ _ _ (by simp)]; exact n3

theorem mem_set {w wr : World} {st ks rs ws : Array Value} (h : Mem w wr st ks rs ws) {xs : List UInt32} (e : ws = wcells xs) (k : Nat) (x : UInt32) :
    Mem w (wr.setCell ⟨w.heap.size + 1 + 1 + 1, k, none⟩ (.int .u32 (u x))) st ks rs (wcells (xs.set k x)) := by
  subst e
  obtain ⟨h1, h2, h3, h4, h5⟩ := h
  refine ⟨?_, ?_, ?_, set_words h4 x, h5.setCell (by show _ ≤ w.heap.size + 1 + 1 + 1; omega) _⟩
  all_goals rw [Below.heap_setCell _ _ _ _ (by simp; try omega)]; assumption
theorem mem_draws {w wr : World} {st ks rs ws : Array Value} (h : Mem w wr st ks rs ws) (n : Nat) : Mem w (wr.drewN n) st ks rs ws := ⟨h.1, h.2.1, h.2.2.1, h.2.2.2.1, ⟨h.2.2.2.2.os, h.2.2.2.2.tape, h.2.2.2.2.output, h.2.2.2.2.size, h.2.2.2.2.block⟩⟩
theorem mem_drew {w wr : World} {st ks rs ws : Array Value} (h : Mem w wr st ks rs ws) : Mem w wr.drew st ks rs ws := mem_draws h 1
theorem mem_row {w wr : World} {st ks rs ws : Array Value} (h : Mem w wr st ks rs ws) : Mem w (wr.setRow (w.heap.size + 1 + 1 + 1) ws) st ks rs ws := by
  obtain ⟨h1, h2, h3, h4, h5⟩ := h
  refine ⟨?_, ?_, ?_, setRow_heap _ _ _ _ _ _ h4, h5.trans ⟨rfl, rfl, rfl, by simp, fun k hk => setRow_other _ _ _ _ (by omega)⟩⟩
  all_goals rw [setRow_other _ _ _ _ (by omega)]; assumption

theorem mem_far {w wr : World} {st ks rs ws : Array Value} (h : Mem w wr st ks rs ws) {q : Nat} (hq : w.heap.size + 1 + 1 + 1 < q) (j : Nat) (v : Value) : Mem w (wr.setCell ⟨q, j, none⟩ v) st ks rs ws := by
  obtain ⟨h1, h2, h3, h4, h5⟩ := h
  refine ⟨?_, ?_, ?_, ?_, h5.setCell (by show _ ≤ q; omega) _⟩
  all_goals rw [Below.heap_setCell _ _ _ _ (by simp; omega)]; assumption
theorem mem_set0 {w wr : World} {st ks rs ws : Array Value} (h : Mem w wr st ks rs ws) {xs : List UInt32} (e : st = wcells xs) (k : Nat) (x : UInt32) :
    Mem w (wr.setCell ⟨w.heap.size, k, none⟩ (.int .u32 (u x))) (wcells (xs.set k x)) ks rs ws := by
  subst e
  obtain ⟨h1, h2, h3, h4, h5⟩ := h
  refine ⟨set_words h1 x, ?_, ?_, ?_, h5.setCell (Nat.le_refl _) _⟩
  all_goals rw [Below.heap_setCell _ _ _ _ (by simp; try omega)]; assumption
theorem mem_eight {w wr : World} {st ks rs ws : Array Value} (h : Mem w wr st ks rs ws) {q : Nat} (hq : w.heap.size + 1 + 1 + 1 < q) (v0 v1 v2 v3 v4 v5 v6 v7 : Value) :
    Mem w ((((((((wr.setCell ⟨q, 7, none⟩ v7).setCell ⟨q, 6, none⟩ v6).setCell ⟨q, 5, none⟩ v5).setCell ⟨q, 4, none⟩ v4).setCell ⟨q, 3, none⟩ v3).setCell ⟨q, 2, none⟩ v2).setCell ⟨q, 1, none⟩ v1).setCell ⟨q, 0, none⟩ v0) st ks rs ws :=
  mem_far (mem_far (mem_far (mem_far (mem_far (mem_far (mem_far (mem_far h hq 7 v7) hq 6 v6) hq 5 v5) hq 4 v4) hq 3 v3) hq 2 v2) hq 1 v1) hq 0 v0
theorem mem_new {w wr : World} {st ks rs ws : Array Value} (h : Mem w wr st ks rs ws) (hq : w.heap.size + 1 + 1 + 1 < wr.heap.size) (o : Obj) (cs : Array Value) : Mem w ((wr.alloc o).setRow wr.heap.size cs) st ks rs ws := by
  obtain ⟨h1, h2, h3, h4, h5⟩ := h
  refine ⟨?_, ?_, ?_, ?_, (h5.alloc (by omega) o).trans ⟨rfl, rfl, rfl, by simp, fun k hk => setRow_other _ _ _ _ (by omega)⟩⟩
  all_goals rw [setRow_other _ _ _ _ (by omega), Below.heap_alloc _ _ _ (by omega)]; assumption

set_option maxRecDepth 100000 in
set_option maxHeartbeats 4000000 in
theorem block_any (S0 : St8) (s : ByteArray) (K : List UInt32) (w : World) (hs : s.size = 64) (hK : K.length = 64) :
    Calls Tryd.prog 53 #[.agg S0.cells, .string s, .agg (wcells K)] w fun e w' => e = .returned (.agg (blockS S0 K s).cells) ∧ Below w.heap.size w w' := by
  have HS := Lib.hid hs
  have HK := Lib.hid hK
  clear hs hK
  obtain ⟨st0, hst0⟩ : ∃ st0, st0 = S0.cells := ⟨_, rfl⟩
  rw [← hst0]
  have HST := Lib.hid hst0
  clear hst0
  have h7 : ((((w.alloc (.cells st0 44)).alloc (.cells (wcells K) 67)).alloc (.cells (zeros 8) 44)).alloc (.cells (zeros 64) 67)).heap[w.heap.size + 1 + 1 + 1]? = some (.cells (zeros 64) 67 (0, 0)) := by
    have := heap_alloc_new (((w.alloc (.cells st0 44)).alloc (.cells (wcells K) 67)).alloc (.cells (zeros 8) 44)) (.cells (zeros 64) 67)
    simpa using this
  have hsr := run_storeCells_from (P := Tryd.prog) (w.heap.size + 1 + 1 + 1) 67 (zeros 64).toList 0 (zeros 64) _ h7 (by simp [zeros, wcells]) (fun v hv => by simp [zeros, wcells] at hv; rw [hv]; rfl)
  simp at hsr
  have H7 := Lib.hid h7
  clear h7
  go_enter Tryd.func53, Tryd.ntmps53
  go_wp2_with (first
    | (refine wpList_allocRow rfl 67 rfl (zeros 64) run_alloc64 ?_)
    | (refine wpList_allocRow rfl 44 rfl (zeros 8) run_alloc8 ?_)
    | (refine wpList_buildZero rfl rfl ?_))
  go_loopw [8] (fun iv wr => ∃ (k : Nat) (xs : List UInt32), k ≤ 16 ∧ iv = .int .i64 k ∧ Hid (xs.length = 64) ∧ Hid (∀ j, j < k → xs[j]? = some (word s j)) ∧ Hid (Mem w wr st0 (wcells K) (zeros 8) (wcells xs)))
    (fun iv _ => 16 - (intOf iv).toNat)
  case atStart => exact ⟨0, List.replicate 64 0, Nat.zero_le _, rfl, Lib.hid (by simp), Lib.hid (fun j hj => by omega), Lib.hid (mem_row (mem_start w _ _ _ _))⟩
  case round =>
    obtain ⟨k, xs, hk, rfl, HL, HX, HM⟩ := hrel
    by_cases hlt : k < 16
    · have hs0 : 4 * k + 3 < s.size := by have := HS.out; omega
      have c7 := cell_words HM.out.2.2.2.1 k (by have := HL.out; omega)
      have z7 := free_words HM.out.2.2.2.1 k
      obtain ⟨v7, hv7⟩ : ∃ v, u (xs[k]'(by have := HL.out; omega)) = v := ⟨_, rfl⟩
      rw [hv7] at c7
      clear hv7
      have i0 : 0 ≤ 4 * (k : Int) ∧ 4 * (k : Int) < s.size := by omega
      have i1 : 0 ≤ 4 * (k : Int) + 1 ∧ 4 * (k : Int) + 1 < s.size := by omega
      have i2 : 0 ≤ 4 * (k : Int) + 2 ∧ 4 * (k : Int) + 2 < s.size := by omega
      have i3 : 0 ≤ 4 * (k : Int) + 3 ∧ 4 * (k : Int) + 3 < s.size := by omega
      have e0 := byteW_at s (4 * k) (by omega)
      have e1 := byteW_at s (4 * k + 1) (by omega)
      have e2 := byteW_at s (4 * k + 2) (by omega)
      have e3 := byteW_at s (4 * k + 3) (by omega)
      have o := or_u
      have l24 := fun x => sl_u x 24
      have l16 := fun x => sl_u x 16
      have l8 := fun x => sl_u x 8
      clear hsr H7
      have M1 := Lib.hid (mem_drew (mem_set HM.out rfl k (word s k)))
      have X1 : Hid (∀ j, j < k + 1 → (xs.set k (word s k))[j]? = some (word s j)) := Lib.hid (fun j hj => by
        by_cases e : j = k
        · rw [e, List.getElem?_set_self (by have := HL.out; omega)]
        · rw [List.getElem?_set_ne (by omega)]; exact HX.out j (by omega))
      have L1 : Hid ((xs.set k (word s k)).length = 64) := Lib.hid (by have := HL.out; simpa using this)
      go_wp2
      go_region
      rw [word_u]
      clear c7 z7 e0 e1 e2 e3 o l24 l16 l8
      go_wp2
      go_roundw
      case rel => exact ⟨k + 1, xs.set k (word s k), by omega, by go_num, L1, X1, M1⟩
      case measure => (simp [intOf]; try omega)
    · obtain rfl : k = 16 := by omega
      clear hsr H7
      go_wp2
      go_loopw [9] (fun iv wr => ∃ (k : Nat) (xs : List UInt32), 16 ≤ k ∧ k ≤ 64 ∧ iv = .int .i64 k ∧ Hid (xs.length = 64) ∧ Hid (∀ j, j < k → xs[j]? = some (sch s j)) ∧ Hid (Mem w wr st0 (wcells K) (zeros 8) (wcells xs)))
        (fun iv _ => 64 - (intOf iv).toNat)
      case atStart => exact ⟨16, xs, Nat.le_refl _, by omega, rfl, HL, Lib.hid (fun j hj => by rw [sch_low s j hj]; exact HX.out j hj), HM⟩
      case round =>
        clear HL HX HM
        obtain ⟨k, xs, hk1, hk, rfl, HL, HX, HM⟩ := hrel
        by_cases hlt : k < 64
        · have at_ : ∀ j, j < k → wr.cell? ⟨w.heap.size + 1 + 1 + 1, j, none⟩ = some (.int .u32 (u (sch s j))) := fun j hj => by
            have hl : j < xs.length := by have := HL.out; omega
            rw [cell_words HM.out.2.2.2.1 j hl]
            have := HX.out j hj
            rw [List.getElem?_eq_getElem hl] at this
            rw [Option.some.inj this]
          have c15 := at_ (k - 15) (by omega)
          have c2 := at_ (k - 2) (by omega)
          have c16 := at_ (k - 16) (by omega)
          have c7 := at_ (k - 7) (by omega)
          clear at_
          have ck := cell_words HM.out.2.2.2.1 k (by have := HL.out; omega)
          have zk := free_words HM.out.2.2.2.1 k
          obtain ⟨vk, hvk⟩ : ∃ v, u (xs[k]'(by have := HL.out; omega)) = v := ⟨_, rfl⟩
          rw [hvk] at ck
          clear hvk
          have w15 : IntKind.i64.wrap ((k : Int) - 15) = (k : Int) - 15 := IntWalk.i64_in _ (by omega)
          have w2 : IntKind.i64.wrap ((k : Int) - 2) = (k : Int) - 2 := IntWalk.i64_in _ (by omega)
          have w16 : IntKind.i64.wrap ((k : Int) - 16) = (k : Int) - 16 := IntWalk.i64_in _ (by omega)
          have w7 : IntKind.i64.wrap ((k : Int) - 7) = (k : Int) - 7 := IntWalk.i64_in _ (by omega)
          have n15 : ((k : Int) - 15).toNat = k - 15 := by omega
          have n2 : ((k : Int) - 2).toNat = k - 2 := by omega
          have n16 : ((k : Int) - 16).toNat = k - 16 := by omega
          have n7 : ((k : Int) - 7).toNat = k - 7 := by omega
          have b15 : 0 ≤ (k : Int) - 15 ∧ (k : Int) - 15 < 64 := by omega
          have b2 : 0 ≤ (k : Int) - 2 ∧ (k : Int) - 2 < 64 := by omega
          have b16 : 0 ≤ (k : Int) - 16 ∧ (k : Int) - 16 < 64 := by omega
          have b7 : 0 ≤ (k : Int) - 7 ∧ (k : Int) - 7 < 64 := by omega
          have xo := xor_u
          have s3 := sr3_u
          have s10 := sr10_u
          go_wp2
          go_quiet ((go_at_call 63; exact Calls.quiet_of_same (turn_int _ _ _ (by decide) (by decide))))
          go_wp2
          go_quiet ((go_at_call 63; exact quiet_again (fun W => turn_int _ _ W (by decide) (by decide))))
          have ad := add_u
          have adw := add_w
          go_wp2
          go_region
          go_wp2
          go_roundw
          case rel => exact ⟨k + 1, xs.set k _, by omega, by omega, by go_num, Lib.hid (by have := HL.out; simpa using this), Lib.hid (row_next HX.out (by have := HL.out; omega) (sch_high s k hk1).symm), Lib.hid (mem_set (mem_draws HM.out _) rfl k _)⟩
          case measure => (simp [intOf]; try omega)
        · obtain rfl : k = 64 := by omega
          have m0 := HM.out.1
          have hst8 : st0.size = 8 := by rw [HST.out]; rfl
          have hone : ∀ v ∈ st0.toList, v.oneCell' = true := by rw [HST.out]; simp [St8.cells, Value.oneCell']
          have hsr2 := run_storeCells_from (P := Tryd.prog) wr.heap.size 44 st0.toList 0 (zeros 8) _ (heap_alloc_new wr (.cells (zeros 8) 44)) (by simp [zeros, wcells, hst8]) hone
          simp at hsr2
          have hqb : w.heap.size + 1 + 1 + 1 < wr.heap.size := (Array.getElem?_eq_some_iff.1 HM.out.2.2.2.1).1
          have M5 := Lib.hid (mem_new HM.out hqb (.cells (zeros 8) 44) st0)
          have N5 : Hid (((wr.alloc (.cells (zeros 8) 44)).setRow wr.heap.size st0).heap[wr.heap.size]? = some (.cells st0 44 (0, 0))) := Lib.hid (setRow_heap _ _ _ _ _ _ (heap_alloc_new wr (.cells (zeros 8) 44)))
          clear hone
          go_wp2_with (first
            | (refine wpList_load_row rfl 44 (.tmp 3) rfl w.heap.size rfl 44 st0 (0, 0) _ m0 Tryd.underlying44 rfl (by rw [hst8]; kernel_rfl) ?_)
            | (refine wpList_allocRow rfl 44 rfl (zeros 8) run_alloc8 ?_))
          clear m0 hst8 hsr2
          obtain ⟨q, hq⟩ : ∃ q, wr.heap.size = q := ⟨_, rfl⟩
          obtain ⟨W5, hW5⟩ : ∃ W5, (wr.alloc (.cells (zeros 8) 44)).setRow wr.heap.size st0 = W5 := ⟨_, rfl⟩
          rw [hW5] at M5 N5 ⊢
          rw [hq] at N5 hqb ⊢
          clear hW5 hq HM
          go_loopw [13] (fun iv wr => ∃ (k : Nat), k ≤ 64 ∧ iv = .int .i64 k ∧ Hid (Mem w wr st0 (wcells K) (zeros 8) (wcells xs)) ∧ Hid (wr.heap[q]? = some (.cells (rounds S0 K s k).cells 44 (0, 0))))
            (fun iv _ => 64 - (intOf iv).toNat)
          case atStart => exact ⟨0, Nat.zero_le _, rfl, M5, Lib.hid (by rw [N5.out, HST.out]; rfl)⟩
          case round =>
            clear M5 N5
            obtain ⟨k, hk, rfl, HM, HN⟩ := hrel
            by_cases hlt : k < 64
            · obtain ⟨R, hR⟩ : ∃ R, rounds S0 K s k = R := ⟨_, rfl⟩
              have N := HN.out
              rw [hR] at N
              have HR := Lib.hid hR
              clear hR
              have d0 : wr.cell? ⟨q, 0, none⟩ = some (.int .u32 (u R.a)) := by simp [World.cell?, N, St8.cells]
              have d1 : wr.cell? ⟨q, 1, none⟩ = some (.int .u32 (u R.b)) := by simp [World.cell?, N, St8.cells]
              have d2 : wr.cell? ⟨q, 2, none⟩ = some (.int .u32 (u R.c)) := by simp [World.cell?, N, St8.cells]
              have d3 : wr.cell? ⟨q, 3, none⟩ = some (.int .u32 (u R.d)) := by simp [World.cell?, N, St8.cells]
              have d4 : wr.cell? ⟨q, 4, none⟩ = some (.int .u32 (u R.e)) := by simp [World.cell?, N, St8.cells]
              have d5 : wr.cell? ⟨q, 5, none⟩ = some (.int .u32 (u R.f)) := by simp [World.cell?, N, St8.cells]
              have d6 : wr.cell? ⟨q, 6, none⟩ = some (.int .u32 (u R.g)) := by simp [World.cell?, N, St8.cells]
              have d7 : wr.cell? ⟨q, 7, none⟩ = some (.int .u32 (u R.h)) := by simp [World.cell?, N, St8.cells]
              have fz : ∀ j, wr.frozen? ⟨q, j, none⟩ = false := fun j => free_words N j
              have kk := cell_words HM.out.2.1 k (by have := HK.out; omega)
              have ww := cell_words HM.out.2.2.2.1 k (by have := HL.out; omega)
              obtain ⟨kw, hkw⟩ : ∃ x, K[k]'(by have := HK.out; omega) = x := ⟨_, rfl⟩
              obtain ⟨sw, hsw⟩ : ∃ x, xs[k]'(by have := HL.out; omega) = x := ⟨_, rfl⟩
              rw [hkw] at kk
              rw [hsw] at ww
              have HKW := Lib.hid hkw
              have HSW := Lib.hid hsw
              have HNN := Lib.hid N
              clear hkw hsw N
              have xo := xor_u
              have xc := xorc_u
              have an := and_u
              have ad := add_u
              have adw := add_w
              go_wp2
              go_quiet ((go_at_call 63; exact Calls.quiet_of_same (turn_int _ _ _ (by decide) (by decide))))
              go_wp2
              go_quiet (fail)
              go_wp2
              go_quiet ((go_at_call 63; exact quiet_again (fun W => turn_int _ _ W (by decide) (by decide))))
              go_wp2
              go_roundw
              case rel => exact ⟨k + 1, by omega, by go_num, Lib.hid (mem_eight (mem_draws HM.out _) hqb _ _ _ _ _ _ _ _), Lib.hid (by
                have ek : K.getD k 0 = kw := by rw [← HKW.out]; simp [List.getD, show k < K.length by have := HK.out; omega]
                have es : sch s k = sw := by
                  have h1 := HX.out k (by omega)
                  rw [List.getElem?_eq_getElem (show k < xs.length by have := HL.out; omega)] at h1
                  rw [← HSW.out]; exact (Option.some.inj h1).symm
                have er : (rounds S0 K s (k + 1)) = rnd R kw sw := by show rnd (rounds S0 K s k) (K.getD k 0) (sch s k) = _; rw [HR.out, ek, es]
                rw [er]
                exact eight_sets (R := R) HNN.out _ _ _ _ _ _ _ _)⟩
              case measure => (simp [intOf]; try omega)
            · obtain rfl : k = 64 := by omega
              have HN0 := HN
              go_wp2
              clear HN
              have N6 : Hid (wr.heap[q]? = some (.cells (rounds S0 K s 64).cells 44 (0, 0))) := HN0
              go_loopw [20] (fun iv wr => ∃ (k : Nat) (hs : List UInt32), k ≤ 8 ∧ iv = .int .i64 k ∧ Hid (hs.length = 8) ∧ Hid (∀ j, j < k → hs[j]? = some ((blockS S0 K s).list.getD j 0)) ∧ Hid (∀ j, k ≤ j → hs[j]? = S0.list[j]?) ∧ Hid (Mem w wr (wcells hs) (wcells K) (zeros 8) (wcells xs)) ∧ Hid (wr.heap[q]? = some (.cells (wcells (rounds S0 K s 64).list) 44 (0, 0))))
                (fun iv _ => 8 - (intOf iv).toNat)
              case atStart => exact ⟨0, S0.list, Nat.zero_le _, rfl, Lib.hid rfl, Lib.hid (fun j hj => by omega), Lib.hid (fun j _ => rfl), Lib.hid (by have := HM.out; rw [HST.out] at this; exact this), Lib.hid N6.out⟩
              case round =>
                clear HM N6
                obtain ⟨k, hs, hk, rfl, HL8, HA, HB, HM, HQ⟩ := hrel
                by_cases hlt : k < 8
                · have ck := cell_words HM.out.1 k (by have := HL8.out; omega)
                  have zk := free_words HM.out.1 k
                  have cq := cell_words HQ.out k (show k < 8 from hlt)
                  have hx := list_getD (HB.out k (Nat.le_refl _)) (by have := HL8.out; omega)
                  have hy := list_getD (S := rounds S0 K s 64) (xs := (rounds S0 K s 64).list) (k := k) rfl hlt
                  have hsum := addS_getD S0 (rounds S0 K s 64) k hlt
                  obtain ⟨x, hxe⟩ : ∃ x, hs[k]'(by have := HL8.out; omega) = x := ⟨_, rfl⟩
                  obtain ⟨y, hye⟩ : ∃ y, (rounds S0 K s 64).list[k]'hlt = y := ⟨_, rfl⟩
                  rw [hxe] at ck hx
                  rw [hye] at cq hy
                  rw [← hx, ← hy] at hsum
                  have HSUM := Lib.hid hsum
                  clear hx hy hsum hxe hye
                  have adw := add_w
                  have ad := add_u
                  go_wp2
                  go_region
                  go_wp2
                  go_roundw
                  case rel => exact ⟨k + 1, hs.set k (x + y), by omega, by go_num, Lib.hid (by have := HL8.out; simpa using this), Lib.hid (row_next HA.out (by have := HL8.out; omega) HSUM.out.symm), Lib.hid (fun j hj => by rw [List.getElem?_set_ne (by omega)]; exact HB.out j (by omega)), Lib.hid (mem_drew (mem_set0 HM.out rfl k _)), Lib.hid (by
                    show (wr.setCell ⟨w.heap.size, k, none⟩ (.int .u32 (u (x + y)))).heap[q]? = _
                    rw [Below.heap_setCell _ _ _ _ (by simp; omega)]; exact HQ.out)⟩
                  case measure => (simp [intOf]; try omega)
                · obtain rfl : k = 8 := by omega
                  have hfin := list_eq_of HL8.out HA.out
                  have m0 := HM.out.1
                  rw [hfin] at m0
                  have hcs : (wcells (blockS S0 K s).list).size = 8 := wcells_size _
                  have hone := wcells_one (blockS S0 K s).list
                  have hce := cells_list (blockS S0 K s)
                  have HCE := Lib.hid hce
                  clear hce
                  obtain ⟨cs, hcse⟩ : ∃ cs, wcells (blockS S0 K s).list = cs := ⟨_, rfl⟩
                  rw [hcse] at m0 hcs hone
                  have HCS := Lib.hid hcse
                  clear hcse
                  have hsr3 := run_storeCells_from (P := Tryd.prog) (w.heap.size + 1 + 1) 44 cs.toList 0 (zeros 8) _ HM.out.2.2.1 (by simp [zeros, wcells, hcs]) hone
                  simp at hsr3
                  clear hone
                  go_wp2_with (first
                    | (refine wpList_load_row rfl 44 (.tmp 3) rfl w.heap.size rfl 44 cs (0, 0) _ m0 Tryd.underlying44 rfl (by rw [hcs]; kernel_rfl) ?_))
                  (try simp only [Exit.inBlock, Exit.then])
                  refine bodyPost_ret (results_cell_row rfl _ _ (w.heap.size + 1 + 1) 44 cs (0, 0) _ rfl (setRow_heap _ _ _ _ _ _ HM.out.2.2.1) Tryd.underlying44 rfl (by rw [hcs]; kernel_rfl)) rfl ?_
                  exact ⟨by rw [HCE.out, HCS.out], HM.out.2.2.2.2.trans ⟨rfl, rfl, rfl, by simp, fun k hk => setRow_other _ _ _ _ (by omega)⟩⟩
end Go.Proofs.YtbojcphcjggccaaDoor
