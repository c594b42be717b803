/- The program's state behind a block. -/
import Derived.Test.YtbojcphcjggccaaDoorShaSched
import Derived.StillTailTactics
namespace Go.Proofs.YtbojcphcjggccaaDoor
open Go.RowKit Go.Proofs.YtbojcphcjggccaaDoor.Sha

/-- The numbers of the rounds. -/
def keyL : List UInt32 := [1116352408, 1899447441, 3049323471, 3921009573, 961987163, 1508970993, 2453635748, 2870763221, 3624381080, 310598401, 607225278, 1426881987, 1925078388, 2162078206, 2614888103, 3248222580, 3835390401, 4022224774, 264347078, 604807628, 770255983, 1249150122, 1555081692, 1996064986, 2554220882, 2821834349, 2952996808, 3210313671, 3336571891, 3584528711, 113926993, 338241895, 666307205, 773529912, 1294757372, 1396182291, 1695183700, 1986661051, 2177026350, 2456956037, 2730485921, 2820302411, 3259730800, 3345764771, 3516065817, 3600352804, 4094571909, 275423344, 430227734, 506948616, 659060556, 883997877, 958139571, 1322822218, 1537002063, 1747873779, 1955562222, 2024104815, 2227730452, 2361852424, 2428436474, 2756734187, 3204031479, 3329325298]
/-- The first state. -/
def firstS : St8 := ⟨1779033703, 3144134277, 1013904242, 2773480762, 1359893119, 2600822924, 528734635, 1541459225⟩
theorem keyL_length : keyL.length = 64 := by decide

/-- Block g holds the words xs. -/
def IsTab (w : World) (g : Nat) (xs : List UInt32) : Prop := ∃ t fr, w.heap[g]? = some (.cells (wcells xs) t fr)
theorem IsTab.below {w w' : World} {B g : Nat} {xs : List UInt32} (h : IsTab w g xs) (hg : g < B) (hb : Below B w w') : IsTab w' g xs := by
  obtain ⟨t, fr, h⟩ := h
  exact ⟨t, fr, by rw [hb.block g hg]; exact h⟩
theorem IsTab.lt {w : World} {g : Nat} {xs : List UInt32} (h : IsTab w g xs) : g < w.heap.size := by
  obtain ⟨t, fr, h⟩ := h
  exact (Array.getElem?_eq_some_iff.1 h).1

theorem wpStill_load_row {P : Program} {ops : Array Oper} {rest : List Oper} {o : Oper} {a : Act} {w : World} {Q : Act → Prop} (hgd : o.guard = none) (ty : TypeId) (x : Operand) (ho : o.op = .load ty x)
    (g : Nat) (hx : a.eval x = .pointer (some ⟨g, 0, none⟩)) (t : TypeId) (cs : Array Value) (fr : Nat × Nat) (d : TypeDesc) (hg : w.heap[g]? = some (.cells cs t fr))
    (hu : P.underlying ty = some d) (hd : (match d with | .struct _ | .array _ _ => true | _ => false) = true) (hi : (P.info? ty).map (·.size) = some cs.size)
    (h : wpStill P ops w Q rest (a.put o.dst (.agg cs))) : wpStill P ops w Q (o :: rest) a := by
  unfold wpStill
  rw [if_pos (by simp [Region.wanted, hgd])]
  unfold Oper.still execOp
  simp only [ho, hx, Instr.loadAt, Instr.sureAddr, Sem.run_bind, Sem.run_pure, Result.andThen_ok, run_loadVar_row w g t ty cs fr d hg hu hd hi, Oper.stillUpon]
  exact ⟨trivial, h⟩

theorem run_index_cells {P : Program} (W : World) (t e n : Nat) (cs : Array Value) (k : Nat) (v : Value) (i0 : TypeInfo) (ht : P.underlying t = some (.array n e)) (he : P.underlying e = some (.int .u32)) (hi : P.info? e = some i0) (h1 : i0.size = 1) (hk : k < n) (hv : cs[k]? = some v) :
    (Instr.index t (.agg cs) (.int .i64 (k : Int))).run P W = .ok v W := by
  simp [Instr.index, run_underlying ht, asIntOf, sizeOf, typeInfo, hi, h1, part, isAgg, run_underlying he, hv]
  intro hn
  omega
theorem wpList_index_run {P : Program} {ops : Array Oper} {rest : List Oper} {o : Oper} {a : Act} {w : World} {Q : Exit → Act → World → Prop} (hgd : o.guard = none) (t : TypeId) (x i : Operand) (ho : o.op = .index t x i)
    (vx vi v : Value) (hx : a.eval x = vx) (hi : a.eval i = vi) (hr : (Instr.index t vx vi).run P w = .ok v w) (h : wpList P ops Q rest (a.put o.dst v) w) : wpList P ops Q (o :: rest) a w := by
  refine wpList_plain hgd fun K hK => ?_
  unfold Oper.wp execOp
  simp only [ho, hx, hi, Sem.run_bind, Sem.run_pure, Result.andThen_ok, hr]
  exact hK _ _ h
theorem infoU32 : (Tryd.prog.info? 43).map (fun i => (i.zero, i.size, i.bytes)) = some (some (.int .u32 0), 1, 4) := by kernel_rfl

/-- The blocks of the call: the words, the result, the mixed words; the keys. -/
structure Mem3 (w wr : World) (q : Nat) (st mx : Array Value) : Prop where
  words : wr.heap[w.heap.size]? = some (.cells st 45 (0, 0))
  res : wr.heap[w.heap.size + 1]? = some (.cells (zeros 8) 45 (0, 0))
  mixed : wr.heap[q]? = some (.cells mx 45 (0, 0))
  far : w.heap.size + 1 < q
  keys : IsTab w 1 keyL
  below : Below w.heap.size w wr
theorem Mem3.tab {w wr : World} {q : Nat} {st mx : Array Value} (h : Mem3 w wr q st mx) : IsTab wr 1 keyL := h.keys.below h.keys.lt h.below

/-- What is laid behind the schedule's call. -/
theorem laid_two {w w1 : World} {st ws : Array Value} (h1 : w1.heap[w.heap.size]? = some (.cells st 45 (0, 0))) (h2 : w1.heap[w.heap.size + 1]? = some (.cells (zeros 8) 45 (0, 0)))
    (hb : Below w.heap.size w w1) (hk : IsTab w 1 keyL) (hws : ws.size = 64) (hwo : ∀ v ∈ ws.toList, v.oneCell' = true) (hss : st.size = 8) (hso : ∀ v ∈ st.toList, v.oneCell' = true) :
    ∃ W2 W3 : World, (storeCells ⟨w1.heap.size, 0, none⟩ ws.toList 0).run Tryd.prog (w1.alloc (.cells (zeros 64) 67)) = .ok () W2 ∧ W2.heap[w.heap.size]? = some (.cells st 45 (0, 0)) ∧
      (storeCells ⟨W2.heap.size, 0, none⟩ st.toList 0).run Tryd.prog (W2.alloc (.cells (zeros 8) 45)) = .ok () W3 ∧ W3.heap[w1.heap.size]? = some (.cells ws 67 (0, 0)) ∧ Mem3 w W3 W2.heap.size st st := by
  have l2 := (Array.getElem?_eq_some_iff.1 h2).1
  have r1 := run_storeCells_from (P := Tryd.prog) w1.heap.size 67 ws.toList 0 (zeros 64) _ (heap_alloc_new w1 (.cells (zeros 64) 67)) (by simp [zeros, wcells, hws]) hwo
  simp at r1
  generalize hW2 : (w1.alloc (.cells (zeros 64) 67)).setRow w1.heap.size ws = W2 at r1
  have s2 : W2.heap.size = w1.heap.size + 1 := by rw [← hW2]; simp
  have o2 : ∀ k, k < w1.heap.size → W2.heap[k]? = w1.heap[k]? := fun k hk => by
    rw [← hW2, setRow_other _ _ _ _ (by omega), Below.heap_alloc _ _ _ hk]
  have n2 : W2.heap[w1.heap.size]? = some (.cells ws 67 (0, 0)) := by rw [← hW2]; exact setRow_heap _ _ _ _ _ _ (heap_alloc_new w1 _)
  have b2 : Below w.heap.size w W2 := by
    rw [← hW2]
    exact (hb.alloc hb.size _).trans ⟨rfl, rfl, rfl, by simp, fun k hk => setRow_other _ _ _ _ (by have := hb.size; omega)⟩
  have r2 := run_storeCells_from (P := Tryd.prog) W2.heap.size 45 st.toList 0 (zeros 8) _ (heap_alloc_new W2 (.cells (zeros 8) 45)) (by simp [zeros, wcells, hss]) hso
  simp at r2
  have o3 : ∀ k, k < W2.heap.size → ((W2.alloc (.cells (zeros 8) 45)).setRow W2.heap.size st).heap[k]? = W2.heap[k]? := fun k hk => by
    rw [setRow_other _ _ _ _ (by omega), Below.heap_alloc _ _ _ hk]
  have b3 : Below w.heap.size w ((W2.alloc (.cells (zeros 8) 45)).setRow W2.heap.size st) :=
    (b2.alloc b2.size _).trans ⟨rfl, rfl, rfl, by simp, fun k hk => setRow_other _ _ _ _ (by have := b2.size; omega)⟩
  refine ⟨W2, _, r1, ?_, r2, ?_, ?_, ?_, ?_, ?_, ?_, b3⟩
  · rw [o2 _ (by omega)]; exact h1
  · rw [o3 _ (by omega)]; exact n2
  · rw [o3 _ (by omega), o2 _ (by omega)]; exact h1
  · rw [o3 _ (by omega), o2 _ (by omega)]; exact h2
  · exact setRow_heap _ _ _ _ _ _ (heap_alloc_new W2 _)
  · omega
  · exact hk


/-- The mixed words stored anew. -/
theorem mem3_store {w wr w4 : World} {q : Nat} {st mx : Array Value} (h : Mem3 w wr q st mx) (hb : Below wr.drew.heap.size wr.drew w4) (R : St8) (hs : mx.size = 8 := by rfl) :
    ∃ W5, (storeCells ⟨q, 0, none⟩ R.cells.toList 0).run Tryd.prog w4 = .ok () W5 ∧ Mem3 w W5 q st R.cells := by
  have lq : q < wr.heap.size := (Array.getElem?_eq_some_iff.1 h.mixed).1
  have hk : ∀ k, k < wr.heap.size → w4.heap[k]? = wr.heap[k]? := fun k hk => hb.block k hk
  have hm : w4.heap[q]? = some (.cells mx 45 (0, 0)) := by rw [hk q lq]; exact h.mixed
  have r := run_storeCells_from (P := Tryd.prog) q 45 R.cells.toList 0 mx w4 hm (by rw [hs]; rfl) (wcells_one R.list)
  have e : (mx.toList.take 0 ++ R.cells.toList).toArray = R.cells := by simp
  rw [e] at r
  have bw : Below w.heap.size w w4 := (h.below.drew).trans (hb.mono (by have := h.below.size; simpa using this))
  have b5 : Below w.heap.size w (w4.setRow q R.cells) := bw.trans ⟨rfl, rfl, rfl, by simp, fun k hk => setRow_other _ _ _ _ (by have := h.far; omega)⟩
  have l1 : w.heap.size + 1 < wr.heap.size := (Array.getElem?_eq_some_iff.1 h.res).1
  have hf := h.far
  refine ⟨_, r, ?_, ?_, setRow_heap _ _ _ _ _ _ hm, hf, h.keys, b5⟩
  · rw [setRow_other _ _ _ _ (by omega), hk _ (by omega)]; exact h.words
  · rw [setRow_other _ _ _ _ (by omega), hk _ (by omega)]; exact h.res

theorem mem3_cell {w wr : World} {q : Nat} {st : Array Value} {xs : List UInt32} (h : Mem3 w wr q st (wcells xs)) (k : Nat) (x : UInt32) : Mem3 w (wr.setCell ⟨q, k, none⟩ (.int .u32 (u x))) q st (wcells (xs.set k x)) := by
  have hf := h.far
  refine ⟨?_, ?_, set_words h.mixed x, hf, h.keys, h.below.setCell (by show _ ≤ q; omega) _⟩
  · rw [Below.heap_setCell _ _ _ _ (by simp; omega)]; exact h.words
  · rw [Below.heap_setCell _ _ _ _ (by simp; omega)]; exact h.res

set_option maxRecDepth 100000 in
set_option maxHeartbeats 4000000 in
theorem after_any (S : St8) (s : ByteArray) (w : World) (hs : s.size = 64) (hk : IsTab w 1 keyL) :
    Calls Tryd.prog 27 #[.agg S.cells, .string s] w fun e w' => e = .returned (.agg (blockS S keyL s).cells) ∧ Below w.heap.size w w' := by
  have HS := Lib.hid hs
  have HK := Lib.hid hk
  clear hs hk
  obtain ⟨st, hst⟩ : ∃ st, S.cells = st := ⟨_, rfl⟩
  rw [hst]
  obtain ⟨ws, hws⟩ : ∃ ws, wcells (schL s) = ws := ⟨_, rfl⟩
  have HST := Lib.hid hst
  have HWS := Lib.hid hws
  clear hst hws
  have s8 : Hid (st.size = 8) := Lib.hid (by rw [← HST.out]; rfl)
  have s64 : Hid (ws.size = 64) := Lib.hid (by rw [← HWS.out, wcells_size, schL_length])
  have HB2 := Below.heap_alloc (w.alloc (.cells st 45)) (.cells (zeros 8) 45) w.heap.size (by simp)
  rw [heap_alloc_new w (.cells st 45)] at HB2
  have HZ := heap_alloc_new (w.alloc (.cells st 45)) (.cells (zeros 8) 45)
  simp only [World.size_alloc] at HZ
  have HW : Below w.heap.size w ((w.alloc (.cells st 45)).alloc (.cells (zeros 8) 45)) := ((Below.refl _ _).alloc (Nat.le_refl _) _).alloc (by simp) _
  have H1 := Lib.hid HB2
  have H2 := Lib.hid HZ
  have H3 := Lib.hid HW
  clear HB2 HZ HW
  go_enter Tryd.func27, Tryd.ntmps27
  go_wp2_with (first
    | (refine wpList_allocRow rfl 67 rfl (zeros 64) run_alloc64 ?_)
    | (refine wpList_allocRow rfl 45 rfl (zeros 8) run_allocW ?_)
    | (go_at_call 41; refine (sched_any _ _ HS.out).mono ?_; rintro e w1 ⟨rfl, hb1⟩; rw [HWS.out]
       obtain ⟨W2, W3, r1, m2, r2, m3, M3⟩ := laid_two (w := w) (w1 := w1) (st := st) (ws := ws) (by rw [hb1.block _ (by simp only [World.size_alloc]; omega)]; exact H1.out) (by rw [hb1.block _ (by simp only [World.size_alloc]; omega)]; exact H2.out) (H3.out.trans (hb1.mono (by simp; omega))) HK.out s64.out (by rw [← HWS.out]; exact wcells_one _) s8.out (by rw [← HST.out]; exact wcells_one S.list)
       have HM3 := Lib.hid M3
       clear M3)
    | (refine wpList_load_row rfl 45 (.tmp 2) rfl w.heap.size rfl 45 st (0, 0) _ m2 Tryd.underlying45 rfl (by rw [s8.out]; kernel_rfl) ?_)
    | (refine wpList_load_row rfl 67 (.tmp 5) rfl w1.heap.size rfl 67 ws (0, 0) _ m3 Tryd.underlying67 rfl (by rw [s64.out]; kernel_rfl) ?_))
  clear H1 H2 H3 hb1 r1 m2 r2 m3
  have s64b := s64.out
  have s8b := s8.out
  obtain ⟨q, hq⟩ : ∃ q, W2.heap.size = q := ⟨_, rfl⟩
  rw [hq] at HM3 ⊢
  clear hq
  go_loopw [7, 8, 15] (fun _ _ iv wr => ∃ (k : Nat), k ≤ 64 ∧ iv = .int .i64 k ∧ Hid (Mem3 w wr q st (rounds S keyL s k).cells))
    (fun _ _ iv _ => 64 - (intOf iv).toNat)
  case atStart => exact ⟨0, Nat.zero_le _, rfl, Lib.hid (by have := HM3.out; rw [show (rounds S keyL s 0).cells = st from HST.out]; exact this)⟩
  case round =>
    clear HM3
    obtain ⟨k, hk, rfl, HM⟩ := hrel
    by_cases hlt : k < 64
    · have hget : ws[k]? = some (.int .u32 (u (sch s k))) := by
        rw [← HWS.out]; simp [wcells, schL, hlt]
      obtain ⟨i0, hi, hz0, hz1, hz2⟩ := info_parts infoU32
      have hix := run_index_cells (P := Tryd.prog) wr 67 43 64 ws k _ i0 Tryd.underlying67 Tryd.underlying43 hi hz1 hlt hget
      clear hget hi hz0 hz1 hz2
      obtain ⟨tk, frk, hkt⟩ := HM.out.tab
      have kk := cell_words hkt k (by rw [keyL_length]; exact hlt)
      clear hkt
      obtain ⟨kw, hkw⟩ : ∃ x, keyL[k]'(by rw [keyL_length]; exact hlt) = x := ⟨_, rfl⟩
      rw [hkw] at kk
      have HKW := Lib.hid hkw
      clear hkw
      have ad := add_u
      have adw := add_w
      go_wp2
      refine wp_region_still_tail 6 (by kernel_rfl) (by kernel_rfl) ?_
      simp only [List.take_succ_cons, List.take_zero, List.drop_succ_cons, List.drop_zero]
      refine wpStill_load_row rfl 45 (.tmp 6) rfl q rfl _ (rounds S keyL s k).cells (0, 0) _ HM.out.mixed Tryd.underlying45 rfl (by kernel_rfl) ?_
      repeat still_step
      refine wpStill_nil ?_
      change wpList _ _ _ _ _ wr.drew
      clear kk hix
      go_wp2_with (first
        | (go_at_call 42; refine (round_any (rounds S keyL s k) (sch s k + kw) wr.drew).mono ?_; rintro e w4 ⟨rfl, hb4⟩
           obtain ⟨W5, r5, M5⟩ := mem3_store HM.out hb4 (rndA (rounds S keyL s k) (sch s k + kw))
           have HM5 := Lib.hid M5
           have e5 : Hid (rndA (rounds S keyL s k) (sch s k + kw) = rounds S keyL s (k + 1)) := Lib.hid (by
             rw [rndA_eq, ← HKW.out]; show _ = rnd (rounds S keyL s k) (keyL.getD k 0) (sch s k)
             have : keyL.getD k 0 = keyL[k]'(by rw [keyL_length]; exact hlt) := by simp [List.getD, show k < keyL.length by rw [keyL_length]; exact hlt]
             rw [this])
           clear M5 hb4
           generalize rndA (rounds S keyL s k) (sch s k + kw) = R2 at r5 HM5 e5 ⊢
           obtain ⟨cs2, hcs2⟩ : ∃ cs2, R2.cells = cs2 := ⟨_, rfl⟩
           have h82 : cs2.size = 8 := by rw [← hcs2]; rfl
           rw [hcs2] at r5 HM5 ⊢
           have HC2 := Lib.hid hcs2
           clear hcs2))
      go_roundw
      case rel => exact ⟨k + 1, by omega, by go_num, Lib.hid (by rw [← e5.out, HC2.out]; exact HM5.out)⟩
      case measure => (simp [intOf]; try omega)
    · obtain rfl : k = 64 := by omega
      have m0 := HM.out.words
      go_wp2_with (first
        | (refine wpList_load_row rfl 45 (.tmp 2) rfl w.heap.size rfl 45 st (0, 0) _ m0 Tryd.underlying45 rfl (by rw [s8.out]; kernel_rfl) ?_))
      clear m0
      go_loopw [9, 10, 28] (fun _ _ iv wr => ∃ (k : Nat) (hs : List UInt32), k ≤ 8 ∧ iv = .int .i64 k ∧ Hid (hs.length = 8) ∧ Hid (∀ j, j < k → hs[j]? = some ((blockS S keyL s).list.getD j 0)) ∧ Hid (∀ j, k ≤ j → hs[j]? = (rounds S keyL s 64).list[j]?) ∧ Hid (Mem3 w wr q st (wcells hs)))
        (fun _ _ iv _ => 8 - (intOf iv).toNat)
      case atStart => exact ⟨0, (rounds S keyL s 64).list, Nat.zero_le _, rfl, Lib.hid rfl, Lib.hid (fun j hj => by omega), Lib.hid (fun j _ => rfl), HM⟩
      case round =>
        clear HM
        obtain ⟨k, hs, hk, rfl, HL8, HA, HB, HM⟩ := hrel
        by_cases hlt : k < 8
        · have ck := cell_words HM.out.mixed k (by have := HL8.out; omega)
          have zk := free_words HM.out.mixed k
          have hx := list_getD (HB.out k (Nat.le_refl _)) (by have := HL8.out; omega)
          have hy := list_getD (S := S) (xs := S.list) (k := k) rfl hlt
          have hsum := addS_getD S (rounds S keyL s 64) k hlt
          obtain ⟨x, hxe⟩ : ∃ x, hs[k]'(by have := HL8.out; omega) = x := ⟨_, rfl⟩
          obtain ⟨y, hye⟩ : ∃ y, S.list[k]'hlt = y := ⟨_, rfl⟩
          have hget : st[k]? = some (.int .u32 (u y)) := by
            rw [← HST.out, cells_list, ← hye]; simp [wcells, show k < S.list.length from hlt]; rfl
          rw [hxe] at ck hx
          rw [hye] at hy
          rw [← hx, ← hy, UInt32.add_comm] at hsum
          have HSUM := Lib.hid hsum
          clear hx hy hsum hxe hye
          obtain ⟨i0, hi, hz0, hz1, hz2⟩ := info_parts infoU32
          have hix := run_index_cells (P := Tryd.prog) wr 45 43 8 st k _ i0 Tryd.underlying45 Tryd.underlying43 hi hz1 hlt hget
          clear hget hi hz0 hz1 hz2
          have adw := add_w
          have ad := add_u
          go_wp2
          clear hix ck zk
          go_roundw
          case rel => exact ⟨k + 1, hs.set k (x + y), by omega, by go_num, Lib.hid (by have := HL8.out; simpa using this), Lib.hid (row_next HA.out (by have := HL8.out; omega) HSUM.out.symm), Lib.hid (fun j hj => by rw [List.getElem?_set_ne (by omega)]; exact HB.out j (by omega)), Lib.hid (mem3_cell HM.out k (x + y))⟩
          case measure => (simp [intOf]; try omega)
        · obtain rfl : k = 8 := by omega
          have hfin := list_eq_of HL8.out HA.out
          have m0 := HM.out.mixed
          rw [hfin] at m0
          have hcs : (wcells (blockS S keyL s).list).size = 8 := wcells_size _
          have hone := wcells_one (blockS S keyL s).list
          have HCE := Lib.hid (cells_list (blockS S keyL s))
          obtain ⟨cs, hcse⟩ : ∃ cs, wcells (blockS S keyL s).list = cs := ⟨_, rfl⟩
          rw [hcse] at m0 hcs hone
          have HCS := Lib.hid hcse
          clear hcse
          have hsr3 := run_storeCells_from (P := Tryd.prog) (w.heap.size + 1) 45 cs.toList 0 (zeros 8) _ HM.out.res (by simp [zeros, wcells, hcs]) hone
          simp at hsr3
          clear hone
          go_wp2_with (first
            | (refine wpList_load_row rfl 45 (.tmp 6) rfl q rfl 45 cs (0, 0) _ m0 Tryd.underlying45 rfl (by rw [hcs]; kernel_rfl) ?_))
          (try simp only [Exit.inBlock, Exit.then])
          refine bodyPost_ret (results_cell_row rfl _ _ (w.heap.size + 1) 45 cs (0, 0) _ rfl (setRow_heap _ _ _ _ _ _ HM.out.res) Tryd.underlying45 rfl (by rw [hcs]; kernel_rfl)) rfl ?_
          exact ⟨by rw [HCE.out, HCS.out], HM.out.below.trans ⟨rfl, rfl, rfl, by simp, fun k hk => setRow_other _ _ _ _ (by omega)⟩⟩
end Go.Proofs.YtbojcphcjggccaaDoor
