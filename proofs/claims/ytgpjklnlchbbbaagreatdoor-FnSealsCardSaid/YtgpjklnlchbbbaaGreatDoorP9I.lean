/- Merged texts: ShaAfter, ShaFirst, PadMath, PadSpec, ShaText, PadImpl, DigSpec. -/
import Derived.Test.YtgpjklnlchbbbaaGreatDoorP9H
import Derived.StillTailTactics
import Derived.Deep.RegionLaw
import Derived.Deep.AppendLies
import Derived.WalkKit
import Derived.WalkSpells
import Derived.WalkLawsBesides
import Derived.Lib.Hide
namespace Go.Proofs.YtgpjklnlchbbbaaGreatDoor
open Go.RowKit Go.Proofs.YtgpjklnlchbbbaaGreatDoor.Sha

/-- The numbers of the rounds. -/
def keyL : List UInt32 := [1116352408, 1899447441, 3049323471, 3921009573, 961987163, 1508970993, 2453635748, 2870763221, 3624381080, 310598401, 607225278, 1426881987, 1925078388, 2162078206, 2614888103, 3248222580, 3835390401, 4022224774, 264347078, 604807628, 770255983, 1249150122, 1555081692, 1996064986, 2554220882, 2821834349, 2952996808, 3210313671, 3336571891, 3584528711, 113926993, 338241895, 666307205, 773529912, 1294757372, 1396182291, 1695183700, 1986661051, 2177026350, 2456956037, 2730485921, 2820302411, 3259730800, 3345764771, 3516065817, 3600352804, 4094571909, 275423344, 430227734, 506948616, 659060556, 883997877, 958139571, 1322822218, 1537002063, 1747873779, 1955562222, 2024104815, 2227730452, 2361852424, 2428436474, 2756734187, 3204031479, 3329325298]
/-- The first state. -/
def firstS : St8 := ⟨1779033703, 3144134277, 1013904242, 2773480762, 1359893119, 2600822924, 528734635, 1541459225⟩
theorem keyL_length : keyL.length = 64 := by decide

/-- Block g holds the words xs. -/
def IsTab (w : World) (g : Nat) (xs : List UInt32) : Prop := ∃ t fr, w.heap[g]? = some (.cells (wcells xs) t fr)
theorem IsTab.below {w w' : World} {B g : Nat} {xs : List UInt32} (h : IsTab w g xs) (hg : g < B) (hb : Below B w w') : IsTab w' g xs := by
  obtain ⟨t, fr, h⟩ := h
  exact ⟨t, fr, by rw [hb.block g hg]; exact h⟩
theorem IsTab.lt {w : World} {g : Nat} {xs : List UInt32} (h : IsTab w g xs) : g < w.heap.size := by
  obtain ⟨t, fr, h⟩ := h
  exact (Array.getElem?_eq_some_iff.1 h).1

theorem wpStill_load_row {P : Program} {ops : Array Oper} {rest : List Oper} {o : Oper} {a : Act} {w : World} {Q : Act → Prop} (hgd : o.guard = none) (ty : TypeId) (x : Operand) (ho : o.op = .load ty x)
    (g : Nat) (hx : a.eval x = .pointer (some ⟨g, 0, none⟩)) (t : TypeId) (cs : Array Value) (fr : Nat × Nat) (d : TypeDesc) (hg : w.heap[g]? = some (.cells cs t fr))
    (hu : P.underlying ty = some d) (hd : (match d with | .struct _ | .array _ _ => true | _ => false) = true) (hi : (P.info? ty).map (·.size) = some cs.size)
    (h : wpStill P ops w Q rest (a.put o.dst (.agg cs))) : wpStill P ops w Q (o :: rest) a := by
  unfold wpStill
  rw [if_pos (by simp [Region.wanted, hgd])]
  unfold Oper.still execOp
  simp only [ho, hx, Instr.loadAt, Instr.sureAddr, Sem.run_bind, Sem.run_pure, Result.andThen_ok, run_loadVar_row w g t ty cs fr d hg hu hd hi, Oper.stillUpon]
  exact ⟨trivial, h⟩

theorem run_index_cells {P : Program} (W : World) (t e n : Nat) (cs : Array Value) (k : Nat) (v : Value) (i0 : TypeInfo) (ht : P.underlying t = some (.array n e)) (he : P.underlying e = some (.int .u32)) (hi : P.info? e = some i0) (h1 : i0.size = 1) (hk : k < n) (hv : cs[k]? = some v) :
    (Instr.index t (.agg cs) (.int .i64 (k : Int))).run P W = .ok v W := by
  simp [Instr.index, run_underlying ht, asIntOf, sizeOf, typeInfo, hi, h1, part, isAgg, run_underlying he, hv]
  intro hn
  omega
theorem wpList_index_run {P : Program} {ops : Array Oper} {rest : List Oper} {o : Oper} {a : Act} {w : World} {Q : Exit → Act → World → Prop} (hgd : o.guard = none) (t : TypeId) (x i : Operand) (ho : o.op = .index t x i)
    (vx vi v : Value) (hx : a.eval x = vx) (hi : a.eval i = vi) (hr : (Instr.index t vx vi).run P w = .ok v w) (h : wpList P ops Q rest (a.put o.dst v) w) : wpList P ops Q (o :: rest) a w := by
  refine wpList_plain hgd fun K hK => ?_
  unfold Oper.wp execOp
  simp only [ho, hx, hi, Sem.run_bind, Sem.run_pure, Result.andThen_ok, hr]
  exact hK _ _ h
theorem infoU32 : (Tryz.prog.info? 78).map (fun i => (i.zero, i.size, i.bytes)) = some (some (.int .u32 0), 1, 4) := by kernel_rfl

/-- The blocks of the call: the words, the result, the mixed words; the keys. -/
structure Mem3 (w wr : World) (q : Nat) (st mx : Array Value) : Prop where
  words : wr.heap[w.heap.size]? = some (.cells st 104 (0, 0))
  res : wr.heap[w.heap.size + 1]? = some (.cells (zeros 8) 104 (0, 0))
  mixed : wr.heap[q]? = some (.cells mx 104 (0, 0))
  far : w.heap.size + 1 < q
  keys : IsTab w 2 keyL
  below : Below w.heap.size w wr
theorem Mem3.tab {w wr : World} {q : Nat} {st mx : Array Value} (h : Mem3 w wr q st mx) : IsTab wr 2 keyL := h.keys.below h.keys.lt h.below

/-- What is laid behind the schedule's call. -/
theorem laid_two {w w1 : World} {st ws : Array Value} (h1 : w1.heap[w.heap.size]? = some (.cells st 104 (0, 0))) (h2 : w1.heap[w.heap.size + 1]? = some (.cells (zeros 8) 104 (0, 0)))
    (hb : Below w.heap.size w w1) (hk : IsTab w 2 keyL) (hws : ws.size = 64) (hwo : ∀ v ∈ ws.toList, v.oneCell' = true) (hss : st.size = 8) (hso : ∀ v ∈ st.toList, v.oneCell' = true) :
    ∃ W2 W3 : World, (storeCells ⟨w1.heap.size, 0, none⟩ ws.toList 0).run Tryz.prog (w1.alloc (.cells (zeros 64) 81)) = .ok () W2 ∧ W2.heap[w.heap.size]? = some (.cells st 104 (0, 0)) ∧
      (storeCells ⟨W2.heap.size, 0, none⟩ st.toList 0).run Tryz.prog (W2.alloc (.cells (zeros 8) 104)) = .ok () W3 ∧ W3.heap[w1.heap.size]? = some (.cells ws 81 (0, 0)) ∧ Mem3 w W3 W2.heap.size st st := by
  have l2 := (Array.getElem?_eq_some_iff.1 h2).1
  have r1 := run_storeCells_from (P := Tryz.prog) w1.heap.size 81 ws.toList 0 (zeros 64) _ (heap_alloc_new w1 (.cells (zeros 64) 81)) (by simp [zeros, wcells, hws]) hwo
  simp at r1
  generalize hW2 : (w1.alloc (.cells (zeros 64) 81)).setRow w1.heap.size ws = W2 at r1
  have s2 : W2.heap.size = w1.heap.size + 1 := by rw [← hW2]; simp
  have o2 : ∀ k, k < w1.heap.size → W2.heap[k]? = w1.heap[k]? := fun k hk => by
    rw [← hW2, setRow_other _ _ _ _ (by omega), Below.heap_alloc _ _ _ hk]
  have n2 : W2.heap[w1.heap.size]? = some (.cells ws 81 (0, 0)) := by rw [← hW2]; exact setRow_heap _ _ _ _ _ _ (heap_alloc_new w1 _)
  have b2 : Below w.heap.size w W2 := by
    rw [← hW2]
    exact (hb.alloc hb.size _).trans ⟨rfl, rfl, rfl, by simp, fun k hk => setRow_other _ _ _ _ (by have := hb.size; omega)⟩
  have r2 := run_storeCells_from (P := Tryz.prog) W2.heap.size 104 st.toList 0 (zeros 8) _ (heap_alloc_new W2 (.cells (zeros 8) 104)) (by simp [zeros, wcells, hss]) hso
  simp at r2
  have o3 : ∀ k, k < W2.heap.size → ((W2.alloc (.cells (zeros 8) 104)).setRow W2.heap.size st).heap[k]? = W2.heap[k]? := fun k hk => by
    rw [setRow_other _ _ _ _ (by omega), Below.heap_alloc _ _ _ hk]
  have b3 : Below w.heap.size w ((W2.alloc (.cells (zeros 8) 104)).setRow W2.heap.size st) :=
    (b2.alloc b2.size _).trans ⟨rfl, rfl, rfl, by simp, fun k hk => setRow_other _ _ _ _ (by have := b2.size; omega)⟩
  refine ⟨W2, _, r1, ?_, r2, ?_, ?_, ?_, ?_, ?_, ?_, b3⟩
  · rw [o2 _ (by omega)]; exact h1
  · rw [o3 _ (by omega)]; exact n2
  · rw [o3 _ (by omega), o2 _ (by omega)]; exact h1
  · rw [o3 _ (by omega), o2 _ (by omega)]; exact h2
  · exact setRow_heap _ _ _ _ _ _ (heap_alloc_new W2 _)
  · omega
  · exact hk


/-- The mixed words stored anew. -/
theorem mem3_store {w wr w4 : World} {q : Nat} {st mx : Array Value} (h : Mem3 w wr q st mx) (hb : Below wr.drew.heap.size wr.drew w4) (R : St8) (hs : mx.size = 8 := by rfl) :
    ∃ W5, (storeCells ⟨q, 0, none⟩ R.cells.toList 0).run Tryz.prog w4 = .ok () W5 ∧ Mem3 w W5 q st R.cells := by
  have lq : q < wr.heap.size := (Array.getElem?_eq_some_iff.1 h.mixed).1
  have hk : ∀ k, k < wr.heap.size → w4.heap[k]? = wr.heap[k]? := fun k hk => hb.block k hk
  have hm : w4.heap[q]? = some (.cells mx 104 (0, 0)) := by rw [hk q lq]; exact h.mixed
  have r := run_storeCells_from (P := Tryz.prog) q 104 R.cells.toList 0 mx w4 hm (by rw [hs]; rfl) (wcells_one R.list)
  have e : (mx.toList.take 0 ++ R.cells.toList).toArray = R.cells := by simp
  rw [e] at r
  have bw : Below w.heap.size w w4 := (h.below.drew).trans (hb.mono (by have := h.below.size; simpa using this))
  have b5 : Below w.heap.size w (w4.setRow q R.cells) := bw.trans ⟨rfl, rfl, rfl, by simp, fun k hk => setRow_other _ _ _ _ (by have := h.far; omega)⟩
  have l1 : w.heap.size + 1 < wr.heap.size := (Array.getElem?_eq_some_iff.1 h.res).1
  have hf := h.far
  refine ⟨_, r, ?_, ?_, setRow_heap _ _ _ _ _ _ hm, hf, h.keys, b5⟩
  · rw [setRow_other _ _ _ _ (by omega), hk _ (by omega)]; exact h.words
  · rw [setRow_other _ _ _ _ (by omega), hk _ (by omega)]; exact h.res

theorem mem3_cell {w wr : World} {q : Nat} {st : Array Value} {xs : List UInt32} (h : Mem3 w wr q st (wcells xs)) (k : Nat) (x : UInt32) : Mem3 w (wr.setCell ⟨q, k, none⟩ (.int .u32 (u x))) q st (wcells (xs.set k x)) := by
  have hf := h.far
  refine ⟨?_, ?_, set_words h.mixed x, hf, h.keys, h.below.setCell (by show _ ≤ q; omega) _⟩
  · rw [Below.heap_setCell _ _ _ _ (by simp; omega)]; exact h.words
  · rw [Below.heap_setCell _ _ _ _ (by simp; omega)]; exact h.res

set_option maxRecDepth 100000 in
set_option maxHeartbeats 4000000 in
theorem after_any (S : St8) (s : ByteArray) (w : World) (hs : s.size = 64) (hk : IsTab w 2 keyL) :
    Calls Tryz.prog 75 #[.agg S.cells, .string s] w fun e w' => e = .returned (.agg (blockS S keyL s).cells) ∧ Below w.heap.size w w' := by
  have HS := Lib.hid hs
  have HK := Lib.hid hk
  clear hs hk
  obtain ⟨st, hst⟩ : ∃ st, S.cells = st := ⟨_, rfl⟩
  rw [hst]
  obtain ⟨ws, hws⟩ : ∃ ws, wcells (schL s) = ws := ⟨_, rfl⟩
  have HST := Lib.hid hst
  have HWS := Lib.hid hws
  clear hst hws
  have s8 : Hid (st.size = 8) := Lib.hid (by rw [← HST.out]; rfl)
  have s64 : Hid (ws.size = 64) := Lib.hid (by rw [← HWS.out, wcells_size, schL_length])
  have HB2 := Below.heap_alloc (w.alloc (.cells st 104)) (.cells (zeros 8) 104) w.heap.size (by simp)
  rw [heap_alloc_new w (.cells st 104)] at HB2
  have HZ := heap_alloc_new (w.alloc (.cells st 104)) (.cells (zeros 8) 104)
  simp only [World.size_alloc] at HZ
  have HW : Below w.heap.size w ((w.alloc (.cells st 104)).alloc (.cells (zeros 8) 104)) := ((Below.refl _ _).alloc (Nat.le_refl _) _).alloc (by simp) _
  have H1 := Lib.hid HB2
  have H2 := Lib.hid HZ
  have H3 := Lib.hid HW
  clear HB2 HZ HW
  go_enter Tryz.func75, Tryz.ntmps75
  go_wp2_with (first
    | (refine wpList_allocRow rfl 81 rfl (zeros 64) run_alloc64 ?_)
    | (refine wpList_allocRow rfl 104 rfl (zeros 8) run_allocW ?_)
    | (go_at_call 80; refine (sched_any _ _ HS.out).mono ?_; rintro e w1 ⟨rfl, hb1⟩; rw [HWS.out]
       obtain ⟨W2, W3, r1, m2, r2, m3, M3⟩ := laid_two (w := w) (w1 := w1) (st := st) (ws := ws) (by rw [hb1.block _ (by simp only [World.size_alloc]; omega)]; exact H1.out) (by rw [hb1.block _ (by simp only [World.size_alloc]; omega)]; exact H2.out) (H3.out.trans (hb1.mono (by simp; omega))) HK.out s64.out (by rw [← HWS.out]; exact wcells_one _) s8.out (by rw [← HST.out]; exact wcells_one S.list)
       have HM3 := Lib.hid M3
       clear M3)
    | (refine wpList_load_row rfl 104 (.tmp 2) rfl w.heap.size rfl 104 st (0, 0) _ m2 Tryz.underlying104 rfl (by rw [s8.out]; kernel_rfl) ?_)
    | (refine wpList_load_row rfl 81 (.tmp 5) rfl w1.heap.size rfl 81 ws (0, 0) _ m3 Tryz.underlying81 rfl (by rw [s64.out]; kernel_rfl) ?_))
  clear H1 H2 H3 hb1 r1 m2 r2 m3
  have s64b := s64.out
  have s8b := s8.out
  obtain ⟨q, hq⟩ : ∃ q, W2.heap.size = q := ⟨_, rfl⟩
  rw [hq] at HM3 ⊢
  clear hq
  go_loopw [7, 8, 15] (fun _ _ iv wr => ∃ (k : Nat), k ≤ 64 ∧ iv = .int .i64 k ∧ Hid (Mem3 w wr q st (rounds S keyL s k).cells))
    (fun _ _ iv _ => 64 - (intOf iv).toNat)
  case atStart => exact ⟨0, Nat.zero_le _, rfl, Lib.hid (by have := HM3.out; rw [show (rounds S keyL s 0).cells = st from HST.out]; exact this)⟩
  case round =>
    clear HM3
    obtain ⟨k, hk, rfl, HM⟩ := hrel
    by_cases hlt : k < 64
    · have hget : ws[k]? = some (.int .u32 (u (sch s k))) := by
        rw [← HWS.out]; simp [wcells, schL, hlt]
      obtain ⟨i0, hi, hz0, hz1, hz2⟩ := info_parts infoU32
      have hix := run_index_cells (P := Tryz.prog) wr 81 78 64 ws k _ i0 Tryz.underlying81 Tryz.underlying78 hi hz1 hlt hget
      clear hget hi hz0 hz1 hz2
      obtain ⟨tk, frk, hkt⟩ := HM.out.tab
      have kk := cell_words hkt k (by rw [keyL_length]; exact hlt)
      clear hkt
      obtain ⟨kw, hkw⟩ : ∃ x, keyL[k]'(by rw [keyL_length]; exact hlt) = x := ⟨_, rfl⟩
      rw [hkw] at kk
      have HKW := Lib.hid hkw
      clear hkw
      have ad := add_u
      have adw := add_w
      go_wp2
      refine wp_region_still_tail 6 (by kernel_rfl) (by kernel_rfl) ?_
      simp only [List.take_succ_cons, List.take_zero, List.drop_succ_cons, List.drop_zero]
      refine wpStill_load_row rfl 104 (.tmp 6) rfl q rfl _ (rounds S keyL s k).cells (0, 0) _ HM.out.mixed Tryz.underlying104 rfl (by kernel_rfl) ?_
      repeat still_step
      refine wpStill_nil ?_
      change wpList _ _ _ _ _ wr.drew
      clear kk hix
      go_wp2_with (first
        | (go_at_call 81; refine (round_any (rounds S keyL s k) (sch s k + kw) wr.drew).mono ?_; rintro e w4 ⟨rfl, hb4⟩
           obtain ⟨W5, r5, M5⟩ := mem3_store HM.out hb4 (rndA (rounds S keyL s k) (sch s k + kw))
           have HM5 := Lib.hid M5
           have e5 : Hid (rndA (rounds S keyL s k) (sch s k + kw) = rounds S keyL s (k + 1)) := Lib.hid (by
             rw [rndA_eq, ← HKW.out]; show _ = rnd (rounds S keyL s k) (keyL.getD k 0) (sch s k)
             have : keyL.getD k 0 = keyL[k]'(by rw [keyL_length]; exact hlt) := by simp [List.getD, show k < keyL.length by rw [keyL_length]; exact hlt]
             rw [this])
           clear M5 hb4
           generalize rndA (rounds S keyL s k) (sch s k + kw) = R2 at r5 HM5 e5 ⊢
           obtain ⟨cs2, hcs2⟩ : ∃ cs2, R2.cells = cs2 := ⟨_, rfl⟩
           have h82 : cs2.size = 8 := by rw [← hcs2]; rfl
           rw [hcs2] at r5 HM5 ⊢
           have HC2 := Lib.hid hcs2
           clear hcs2))
      go_roundw
      case rel => exact ⟨k + 1, by omega, by go_num, Lib.hid (by rw [← e5.out, HC2.out]; exact HM5.out)⟩
      case measure => (simp [intOf]; try omega)
    · obtain rfl : k = 64 := by omega
      have m0 := HM.out.words
      go_wp2_with (first
        | (refine wpList_load_row rfl 104 (.tmp 2) rfl w.heap.size rfl 104 st (0, 0) _ m0 Tryz.underlying104 rfl (by rw [s8.out]; kernel_rfl) ?_))
      clear m0
      go_loopw [9, 10, 28] (fun _ _ iv wr => ∃ (k : Nat) (hs : List UInt32), k ≤ 8 ∧ iv = .int .i64 k ∧ Hid (hs.length = 8) ∧ Hid (∀ j, j < k → hs[j]? = some ((blockS S keyL s).list.getD j 0)) ∧ Hid (∀ j, k ≤ j → hs[j]? = (rounds S keyL s 64).list[j]?) ∧ Hid (Mem3 w wr q st (wcells hs)))
        (fun _ _ iv _ => 8 - (intOf iv).toNat)
      case atStart => exact ⟨0, (rounds S keyL s 64).list, Nat.zero_le _, rfl, Lib.hid rfl, Lib.hid (fun j hj => by omega), Lib.hid (fun j _ => rfl), HM⟩
      case round =>
        clear HM
        obtain ⟨k, hs, hk, rfl, HL8, HA, HB, HM⟩ := hrel
        by_cases hlt : k < 8
        · have ck := cell_words HM.out.mixed k (by have := HL8.out; omega)
          have zk := free_words HM.out.mixed k
          have hx := list_getD (HB.out k (Nat.le_refl _)) (by have := HL8.out; omega)
          have hy := list_getD (S := S) (xs := S.list) (k := k) rfl hlt
          have hsum := addS_getD S (rounds S keyL s 64) k hlt
          obtain ⟨x, hxe⟩ : ∃ x, hs[k]'(by have := HL8.out; omega) = x := ⟨_, rfl⟩
          obtain ⟨y, hye⟩ : ∃ y, S.list[k]'hlt = y := ⟨_, rfl⟩
          have hget : st[k]? = some (.int .u32 (u y)) := by
            rw [← HST.out, cells_list, ← hye]; simp [wcells, show k < S.list.length from hlt]; rfl
          rw [hxe] at ck hx
          rw [hye] at hy
          rw [← hx, ← hy, UInt32.add_comm] at hsum
          have HSUM := Lib.hid hsum
          clear hx hy hsum hxe hye
          obtain ⟨i0, hi, hz0, hz1, hz2⟩ := info_parts infoU32
          have hix := run_index_cells (P := Tryz.prog) wr 104 78 8 st k _ i0 Tryz.underlying104 Tryz.underlying78 hi hz1 hlt hget
          clear hget hi hz0 hz1 hz2
          have adw := add_w
          have ad := add_u
          go_wp2
          clear hix ck zk
          go_roundw
          case rel => exact ⟨k + 1, hs.set k (x + y), by omega, by go_num, Lib.hid (by have := HL8.out; simpa using this), Lib.hid (row_next HA.out (by have := HL8.out; omega) HSUM.out.symm), Lib.hid (fun j hj => by rw [List.getElem?_set_ne (by omega)]; exact HB.out j (by omega)), Lib.hid (mem3_cell HM.out k (x + y))⟩
          case measure => (simp [intOf]; try omega)
        · obtain rfl : k = 8 := by omega
          have hfin := list_eq_of HL8.out HA.out
          have m0 := HM.out.mixed
          rw [hfin] at m0
          have hcs : (wcells (blockS S keyL s).list).size = 8 := wcells_size _
          have hone := wcells_one (blockS S keyL s).list
          have HCE := Lib.hid (cells_list (blockS S keyL s))
          obtain ⟨cs, hcse⟩ : ∃ cs, wcells (blockS S keyL s).list = cs := ⟨_, rfl⟩
          rw [hcse] at m0 hcs hone
          have HCS := Lib.hid hcse
          clear hcse
          have hsr3 := run_storeCells_from (P := Tryz.prog) (w.heap.size + 1) 104 cs.toList 0 (zeros 8) _ HM.out.res (by simp [zeros, wcells, hcs]) hone
          simp at hsr3
          clear hone
          go_wp2_with (first
            | (refine wpList_load_row rfl 104 (.tmp 6) rfl q rfl 104 cs (0, 0) _ m0 Tryz.underlying104 rfl (by rw [hcs]; kernel_rfl) ?_))
          (try simp only [Exit.inBlock, Exit.then])
          refine bodyPost_ret (results_cell_row rfl _ _ (w.heap.size + 1) 104 cs (0, 0) _ rfl (setRow_heap _ _ _ _ _ _ HM.out.res) Tryz.underlying104 rfl (by rw [hcs]; kernel_rfl)) rfl ?_
          exact ⟨by rw [HCE.out, HCS.out], HM.out.below.trans ⟨rfl, rfl, rfl, by simp, fun k hk => setRow_other _ _ _ _ (by omega)⟩⟩
end Go.Proofs.YtgpjklnlchbbbaaGreatDoor
namespace Go.Proofs.YtgpjklnlchbbbaaGreatDoor
open Go.RowKit Go.Proofs.YtgpjklnlchbbbaaGreatDoor.Sha Go.Proofs.YtgpjklnlchbbbaaGreatDoor.Hexa Go.Proofs.YtgpjklnlchbbbaaGreatDoor.Parts

/-- The words as ints. -/
def ints (S : St8) : List Int := S.list.map u
theorem ints_length (S : St8) : (ints S).length = 8 := rfl
theorem ints_get (S : St8) (k : Nat) (hk : k < 8) : (ints S).getD k 0 = u (S.list.getD k 0) := by
  rcases k with _ | _ | _ | _ | _ | _ | _ | _ | k
  all_goals first | rfl | omega
theorem cells_get (S : St8) (k : Nat) (hk : k < 8) : S.cells[k]? = some (.int .u32 ((ints S).getD k 0)) := by
  rcases k with _ | _ | _ | _ | _ | _ | _ | _ | k
  all_goals first | rfl | omega
set_option maxRecDepth 100000 in
set_option maxHeartbeats 1000000 in
theorem first_any (w : World) : Calls Tryz.prog 48 #[] w fun e w' => e = .returned (.agg firstS.cells) ∧ Below w.heap.size w w' := by
  have H2 := Lib.hid (heap_alloc_new w (.cells (zeros 8) 79))
  have H3 : Hid (Below w.heap.size w (w.alloc (.cells (zeros 8) 79))) := Lib.hid ((Below.refl _ _).alloc (Nat.le_refl _) _)
  go_enter Tryz.func48, Tryz.ntmps48
  go_wp2_with (first
    | (refine wpList_allocRow rfl 79 rfl (zeros 8) run_alloc8 ?_)
    | (refine wpList_build rfl 79 _ rfl (by kernel_rfl) ?_
       refine wpList_store_row rfl 79 (.tmp 0) (.tmp 1) rfl w.heap.size firstS.cells rfl (by kernel_rfl) 79 (zeros 8) H2.out (by kernel_rfl) (by kernel_rfl) (by kernel_rfl) ?_))
  (try simp only [Exit.inBlock, Exit.then])
  refine bodyPost_ret (results_cell_row rfl _ _ w.heap.size 79 firstS.cells (0, 0) _ rfl (setRow_heap _ _ _ _ _ _ H2.out) Tryz.underlying79 rfl (by kernel_rfl)) rfl ?_
  exact ⟨rfl, H3.out.trans ⟨rfl, rfl, rfl, by simp, fun k hk => setRow_other _ _ _ _ (by omega)⟩⟩

set_option maxRecDepth 100000 in
set_option maxHeartbeats 1000000 in
theorem keys_any (w : World) : Calls Tryz.prog 49 #[] w fun e w' => e = .returned (.agg (wcells keyL)) ∧ Below w.heap.size w w' := by
  have H2 := Lib.hid (heap_alloc_new w (.cells (zeros 64) 81))
  have H3 : Hid (Below w.heap.size w (w.alloc (.cells (zeros 64) 81))) := Lib.hid ((Below.refl _ _).alloc (Nat.le_refl _) _)
  go_enter Tryz.func49, Tryz.ntmps49
  go_wp2_with (first
    | (refine wpList_allocRow rfl 81 rfl (zeros 64) run_alloc64 ?_)
    | (refine wpList_build rfl 81 _ rfl (by kernel_rfl) ?_
       refine wpList_store_row rfl 81 (.tmp 0) (.tmp 1) rfl w.heap.size (wcells keyL) rfl (by kernel_rfl) 81 (zeros 64) H2.out (by kernel_rfl) (by kernel_rfl) (by kernel_rfl) ?_))
  (try simp only [Exit.inBlock, Exit.then])
  refine bodyPost_ret (results_cell_row rfl _ _ w.heap.size 81 (wcells keyL) (0, 0) _ rfl (setRow_heap _ _ _ _ _ _ H2.out) Tryz.underlying81 rfl (by kernel_rfl)) rfl ?_
  exact ⟨rfl, H3.out.trans ⟨rfl, rfl, rfl, by simp, fun k hk => setRow_other _ _ _ _ (by omega)⟩⟩

/-- A state stored into a variable of its own. -/
theorem laid_row (w1 : World) {st : Array Value} (hss : st.size = 8) (hso : ∀ v ∈ st.toList, v.oneCell' = true) :
    ∃ W2 : World, (storeCells ⟨w1.heap.size, 0, none⟩ st.toList 0).run Tryz.prog (w1.alloc (.cells (zeros 8) 79)) = .ok () W2 ∧ W2.heap[w1.heap.size]? = some (.cells st 79 (0, 0)) ∧ W2.heap.size = w1.heap.size + 1 ∧ Below w1.heap.size w1 W2 := by
  have r1 := run_storeCells_from (P := Tryz.prog) w1.heap.size 79 st.toList 0 (zeros 8) _ (heap_alloc_new w1 (.cells (zeros 8) 79)) (by simp [zeros, wcells, hss]) hso
  simp at r1
  exact ⟨_, r1, setRow_heap _ _ _ _ _ _ (heap_alloc_new w1 _), by simp, ((Below.refl _ _).alloc (Nat.le_refl _) _).trans ⟨rfl, rfl, rfl, by simp, fun k hk => setRow_other _ _ _ _ (by omega)⟩⟩

end Go.Proofs.YtgpjklnlchbbbaaGreatDoor
namespace Go.Proofs.YtgpjklnlchbbbaaGreatDoor.Pad
open Go.Proofs.YtgpjklnlchbbbaaGreatDoor.Hexa

/-- How many zero bytes. -/
def zer (n : Nat) : Nat := (64 - (n + 9) % 64) % 64
/-- The first k of the eight bytes of m. -/
def lenB (m k : Nat) : List UInt8 := (List.range k).map fun j => UInt8.ofNat (m / 256 ^ (7 - j))
def head (s : ByteArray) (j : Nat) : List UInt8 := s.data.toList ++ [128] ++ List.replicate j 0
def padK (s : ByteArray) (k : Nat) : List UInt8 := head s (zer s.size) ++ lenB (8 * s.size) k
/-- The padded text. -/
def padL (s : ByteArray) : List UInt8 := padK s 8

theorem head_length (s : ByteArray) (j : Nat) : (head s j).length = s.size + 1 + j := by simp [head]; omega
theorem head_next (s : ByteArray) (j : Nat) : head s j ++ [0] = head s (j + 1) := by
  simp [head, List.replicate_succ']
theorem lenB_next (m k : Nat) : lenB m k ++ [UInt8.ofNat (m / 256 ^ (7 - k))] = lenB m (k + 1) := by simp [lenB, List.range_succ]
theorem padK_next (s : ByteArray) (k : Nat) : padK s k ++ [UInt8.ofNat (8 * s.size / 256 ^ (7 - k))] = padK s (k + 1) := by
  unfold padK; rw [List.append_assoc, lenB_next]
theorem padK_length (s : ByteArray) (k : Nat) : (padK s k).length = s.size + 1 + zer s.size + k := by simp [padK, head_length, lenB]
theorem padL_length (s : ByteArray) : (padL s).length = s.size + 1 + zer s.size + 8 := padK_length s 8
theorem zer_lt (n : Nat) : zer n < 64 := by unfold zer; omega
theorem zer_end (n : Nat) : (n + 1 + zer n) % 64 = 56 := by unfold zer; omega
theorem zer_not (n j : Nat) (h : j < zer n) : (n + 1 + j) % 64 ≠ 56 := by unfold zer at h; omega

theorem byte_shift (n k : Nat) : 8 * (n : Int) / 2 ^ (8 * (7 - k)) % 256 = ((UInt8.ofNat (8 * n / 256 ^ (7 - k))).toNat : Int) := by
  rw [UInt8.toNat_ofNat', show (256 : Nat) ^ (7 - k) = 2 ^ (8 * (7 - k)) by rw [Nat.pow_mul]]
  generalize 8 * (7 - k) = e
  have : (2 : Int) ^ e = ((2 ^ e : Nat) : Int) := by simp
  rw [this, show (8 : Int) * (n : Int) = ((8 * n : Nat) : Int) by simp, ← Int.natCast_ediv]
  rfl
end Go.Proofs.YtgpjklnlchbbbaaGreatDoor.Pad
namespace Go.Proofs.YtgpjklnlchbbbaaGreatDoor.Pad
open Go.RowKit Go.Proofs.YtgpjklnlchbbbaaGreatDoor.Hexa Go.Proofs.YtgpjklnlchbbbaaGreatDoor.Byt

theorem infoU8 : (Tryz.prog.info? 5).map (fun i => (i.zero, i.size, i.bytes)) = some (some (.int .u8 0), 1, 1) := by kernel_rfl

/-- One byte appended, in the block of the walk's own one-cell slice. -/
theorem out_byte (w : World) {B : Nat} {v : Value} {l : List UInt8} (h : Bytes w B 5 v l) (hB : B ≤ w.heap.size) (ty : TypeId) (c : UInt8) (x : Int) (hx : x = c.toNat) (hl : l.length ≤ 100000000) :
    Out Tryz.prog #[22, 22] ty #[v, .slice (some ⟨w.heap.size, 0, none⟩) 1 1] (w.alloc (.cells #[.int .u8 x] 5)) B 5 (l ++ [c]) := by
  obtain ⟨i0, hi, hz0, hz1, hz2⟩ := info_parts infoU8
  subst hx
  refine append_cells Tryz.underlying22 hi hz0 hz1 hz2 _ (bytes_alloc h _) (by simp; omega) ty ⟨w.heap.size, 0, none⟩ 1 [c] ?_ (by simp; omega)
  exact World.news_of_block (heap_alloc_new _ _)

def lenV : Value → Nat
  | .slice _ n _ => n
  | _ => 0

set_option maxRecDepth 100000 in
set_option maxHeartbeats 1000000 in
theorem spec_any (s : ByteArray) (w : World) (hs : s.size ≤ 8000000) :
    Calls Tryz.prog 50 #[.string s] w fun e w' => e = .returned (.string ⟨(padL s).toArray⟩) ∧ Below w.heap.size w w' := by
  have kc := fun (W : World) => run_bytes_of_string (P := Tryz.prog) W 9 22 5 s Tryz.underlying9 Tryz.underlying22 Tryz.underlying5
  have b0 := bytes_conv w 5 s w.heap.size (Nat.le_refl _) (by omega)
  have g0 : Below w.heap.size w (w.drew.alloc (.cells (bytesRow s (grownCap w s.size 0 5)) 5 ((bytesRow s (grownCap w s.size 0 5)).size, (bytesRow s (grownCap w s.size 0 5)).size + 1))) := below_grown w (Nat.le_refl _) _
  generalize hW0 : w.drew.alloc (.cells (bytesRow s (grownCap w s.size 0 5)) 5 ((bytesRow s (grownCap w s.size 0 5)).size, (bytesRow s (grownCap w s.size 0 5)).size + 1)) = W0 at b0 g0
  have kc0 := kc w
  rw [hW0] at kc0
  clear kc hW0
  have HB := Lib.hid b0
  have HG := Lib.hid g0
  clear b0 g0
  go_enter Tryz.func50, Tryz.ntmps50
  go_wp2_with (first
    | (at_builtin; refine wpList_append_out rfl (.tmp 8) (.tmp 9) 22 22 rfl _ _ rfl rfl (out_byte _ HB.out HG.out.size _ 128 128 rfl (by simp; omega)) ?_; intro v1 w1 hb1 hg1))
  have hB1 : Below w.heap.size w w1 := (HG.out.alloc HG.out.size _).trans hg1
  have HB1 := Lib.hid hb1
  clear HB HG hb1 hg1 kc0
  go_loopw [3] (fun v wr => ∃ j : Nat, j ≤ zer s.size ∧ Bytes wr w.heap.size 5 v (head s j) ∧ Below w.heap.size w wr)
    (fun v _ => s.size + 1 + zer s.size - lenV v)
  case atStart => exact ⟨0, Nat.zero_le _, by simpa [head] using HB1.out, hB1⟩
  case round =>
    obtain ⟨j, hj, hb, hg⟩ := hrel
    clear HB1 hB1
    obtain ⟨a, c, rfl⟩ := bytes_len hb
    have hl := head_length s j
    by_cases hlt : j < zer s.size
    · have hne := zer_not s.size j hlt
      go_wp2_with (first
        | (at_builtin; refine wpList_append_out rfl (.tmp 15) (.tmp 16) 22 22 rfl _ _ rfl rfl (out_byte _ hb hg.size _ 0 0 rfl (by have := zer_lt s.size; omega)) ?_; intro v1 w1 hb1 hg1))
      rw [head_next] at hb1
      go_roundw
      case rel => exact ⟨j + 1, by omega, hb1, (hg.alloc hg.size _).trans hg1⟩
      case measure =>
        obtain ⟨a', c', rfl⟩ := bytes_len hb1
        simp only [lenV, head_length]; omega
    · obtain rfl : j = zer s.size := by omega
      have he := zer_end s.size
      have hf : (((s.size : Int) + 1 + (zer s.size : Int)) % 64 != 56) = false := by simp; omega
      go_wp2
      try rw [hf]
      go_loopw [3, 5] (fun v i wr => ∃ k : Nat, k ≤ 8 ∧ i = .int .i64 (7 - (k : Int)) ∧ Bytes wr w.heap.size 5 v (padK s k) ∧ Below w.heap.size w wr)
        (fun _ i _ => (intOf i + 1).toNat)
      case atStart => exact ⟨0, Nat.zero_le _, rfl, by simpa [padK, lenB] using hb, hg⟩
      case round =>
        clear hb hg hl
        obtain ⟨k, hk, rfl, hb, hg⟩ := hrel
        obtain ⟨a, c, rfl⟩ := bytes_len hb
        have hl := padK_length s k
        have hz := zer_lt s.size
        by_cases hlt : k < 8
        · go_wp2_with (first
            | (at_builtin; refine wpList_append_out rfl (.tmp 25) (.tmp 32) 22 22 rfl _ _ rfl rfl (out_byte _ hb hg.size _ (UInt8.ofNat (8 * s.size / 256 ^ (7 - k))) _ (byte_shift s.size k) (by omega)) ?_; intro v1 w1 hb1 hg1))
          rw [padK_next] at hb1
          go_roundw
          case rel => exact ⟨k + 1, by omega, by go_num, hb1, (hg.alloc hg.size _).trans hg1⟩
          case measure => simp [intOf]; omega
        · obtain rfl : k = 8 := by omega
          have hconv := bytes_string (P := Tryz.prog) 22 9 Tryz.underlying22 Tryz.underlying5 Tryz.underlying9 hb
          rw [hl] at hconv
          go_wp2
          go_ret
          exact ⟨rfl, hg⟩
end Go.Proofs.YtgpjklnlchbbbaaGreatDoor.Pad
namespace Go.Proofs.YtgpjklnlchbbbaaGreatDoor
open Go.RowKit Go.Proofs.YtgpjklnlchbbbaaGreatDoor.Sha Go.Proofs.YtgpjklnlchbbbaaGreatDoor.Hexa Go.Proofs.YtgpjklnlchbbbaaGreatDoor.Parts Go.Proofs.YtgpjklnlchbbbaaGreatDoor.Byt

/-- The four bytes of a word, the greatest first. -/
def be4 (x : UInt32) : List UInt8 := [UInt8.ofNat (x.toNat / 16777216), UInt8.ofNat (x.toNat / 65536), UInt8.ofNat (x.toNat / 256), UInt8.ofNat x.toNat]
/-- The digest's bytes. -/
def textL (S : St8) : List UInt8 := S.list.flatMap be4
theorem textL_length (S : St8) : (textL S).length = 32 := rfl
theorem ofNat_u (n : Nat) : ((UInt8.ofNat n).toNat : Int) = (n : Int) % 256 := by rw [UInt8.toNat_ofNat']; simp
theorem be4_cells (x : UInt32) : bcells (be4 x) = [.int .u8 (u x / 16777216), .int .u8 (u x / 65536 % 256), .int .u8 (u x / 256 % 256), .int .u8 (u x % 256)] := by
  have e1 : ((x.toNat / 16777216 : Nat) : Int) = u x / 16777216 := by unfold u; omega
  have e2 : ((x.toNat / 65536 : Nat) : Int) = u x / 65536 := by unfold u; omega
  have e3 : ((x.toNat / 256 : Nat) : Int) = u x / 256 := by unfold u; omega
  have e4 : (x.toNat : Int) = u x := rfl
  have e5 : u x / 16777216 % 256 = u x / 16777216 := by have := u_bd x; omega
  simp only [bcells, be4, List.map_cons, List.map_nil, ofNat_u, e1, e2, e3, e4, e5]
theorem text_snoc (l : List UInt32) (k : Nat) (hk : k < l.length) : (l.take k).flatMap be4 ++ be4 (l.getD k 0) = (l.take (k + 1)).flatMap be4 := by
  have e : l.getD k 0 = l[k] := by simp [List.getD, hk]
  rw [List.take_succ_eq_append_getElem hk, e, List.flatMap_append]; simp
theorem flat_length : ∀ (l : List UInt32), (l.flatMap be4).length = 4 * l.length
  | [] => rfl
  | x :: l => by rw [List.flatMap_cons, List.length_append, flat_length l]; simp [be4]; omega

/-- Four bytes appended, in the block of the walk's own slice of four. -/
theorem out_four (w : World) {B : Nat} {v : Value} {l : List UInt8} (h : Bytes w B 5 v l) (hB : B ≤ w.heap.size) (ty : TypeId) (x : UInt32) (hl : l.length ≤ 100000000) :
    Out Tryz.prog #[22, 22] ty #[v, .slice (some ⟨w.heap.size, 0, none⟩) 4 4] (w.alloc (.cells #[.int .u8 (u x / 16777216), .int .u8 (u x / 65536 % 256), .int .u8 (u x / 256 % 256), .int .u8 (u x % 256)] 5)) B 5 (l ++ be4 x) := by
  obtain ⟨i0, hi, hz0, hz1, hz2⟩ := info_parts Pad.infoU8
  refine append_cells Tryz.underlying22 hi hz0 hz1 hz2 _ (bytes_alloc h _) (by simp; omega) ty ⟨w.heap.size, 0, none⟩ 4 (be4 x) ?_ (by simp [be4]; omega)
  rw [be4_cells]
  exact World.news_of_block (heap_alloc_new _ _)

theorem cells_getU (S : St8) (k : Nat) (hk : k < 8) : S.cells[k]? = some (.int .u32 (u (S.list.getD k 0))) := by rw [cells_get S k hk, ints_get S k hk]

set_option maxRecDepth 100000 in
set_option maxHeartbeats 1000000 in
theorem text_any (S : St8) (w : World) : Calls Tryz.prog 76 #[.agg S.cells] w fun e w' => e = .returned (.string ⟨(textL S).toArray⟩) ∧ Below w.heap.size w w' := by
  obtain ⟨i0, hi, hz0, hz1, hz2⟩ := info_parts Pad.infoU8
  obtain ⟨j0, gi, gz0, gz1, gz2⟩ := info_parts infoU32
  have HX := Lib.hid (cells_getU S)
  obtain ⟨I, hI⟩ : ∃ I, S.list = I := ⟨_, rfl⟩
  have HIL : Hid (I.length = 8) := Lib.hid (by rw [← hI]; rfl)
  obtain ⟨st, hst⟩ : ∃ st, S.cells = st := ⟨_, rfl⟩
  have hss : Hid (st.size = 8) := Lib.hid (by rw [← hst]; rfl)
  unfold textL
  rw [hst] at HX ⊢
  rw [hI] at HX ⊢
  clear hI hst
  have HB0 : Hid (Below w.heap.size w (w.alloc (.cells st 104))) := Lib.hid ((Below.refl _ _).alloc (Nat.le_refl _) _)
  have HN0 := Lib.hid (heap_alloc_new w (.cells st 104))
  go_enter Tryz.func76, Tryz.ntmps76
  go_wp2_with (first
    | (at_make; refine wpList_make_own _ rfl _ _ 22 rfl w.heap.size 5 i0 (.int .u8 0) 1 Tryz.underlying22 hi hz0 hz1 .i64 .i64 _ 32 rfl rfl (by omega) (by rw [hz2]; omega) (by unfold maxLen; omega) (by simp) ?_; intro w0 hown0 hgrow0
       have hg0 : Below (w.alloc (.cells st 104)).heap.size (w.alloc (.cells st 104)) w0 := (Below.refl _ _).grown hgrow0 (Nat.le_refl _) (fun k h => by cases h)
       have m0 : w0.heap[w.heap.size]? = some (.cells st 104 (0, 0)) := by rw [hg0.block _ (by simp)]; exact HN0.out
       have hb1 : Hid (Below w.heap.size w w0) := Lib.hid (HB0.out.trans (hg0.mono (by simp)))
       have HO := Lib.hid (bytes_of_own (l := []) hown0)
       clear hgrow0 hg0 hown0)
    | (refine wpList_load_row rfl 104 (.tmp 1) rfl w.heap.size rfl 104 st (0, 0) _ m0 Tryz.underlying104 rfl (by rw [hss.out]; kernel_rfl) ?_))
  clear m0
  go_loopw [3, 5, 8] (fun v _ iv wr => ∃ k : Nat, k ≤ 8 ∧ iv = .int .i64 k ∧ Hid (Bytes wr w.heap.size 5 v ((I.take k).flatMap be4)) ∧ Below w.heap.size w wr)
    (fun _ _ iv _ => 8 - (intOf iv).toNat)
  case atStart => exact ⟨0, Nat.zero_le _, rfl, Lib.hid (by have := HO.out; simpa using this), hb1.out⟩
  case round =>
    obtain ⟨k, hk, rfl, HW, hbel⟩ := hrel
    clear HO hb1
    by_cases hlt : k < 8
    · have hIl := HIL.out
      have hix := run_index_cells (P := Tryz.prog) wr 104 78 8 st k _ j0 Tryz.underlying104 Tryz.underlying78 gi gz1 hlt (HX.out k hlt)
      have hsn := text_snoc I k (by omega)
      obtain ⟨x, hx⟩ : ∃ x, I.getD k 0 = x := ⟨_, rfl⟩
      rw [hx] at hix hsn
      have hb := u_bd x
      have HSN := Lib.hid hsn
      have hfl : ((I.take k).flatMap be4).length ≤ 32 := by rw [flat_length, List.length_take]; omega
      clear hsn hx hIl
      go_wp2_with (at_builtin; (refine wpList_append_out rfl (.tmp 11) (.tmp 23) 22 22 rfl _ _ rfl rfl (out_four _ HW.out hbel.size _ x (by omega)) ?_; intro v2 w2 hown2 hg2))
      have hb2 : Below w.heap.size w w2 := (hbel.alloc hbel.size _).trans hg2
      rw [HSN.out] at hown2
      have HO2 := Lib.hid hown2
      clear hown2 hg2 hix
      go_roundw
      case rel => exact ⟨k + 1, by omega, by go_num, HO2, hb2⟩
      case measure => (simp [intOf]; try omega)
    · obtain rfl : k = 8 := by omega
      have h8 := HW.out
      rw [List.take_of_length_le (by have := HIL.out; omega)] at h8
      have hconv := bytes_string (P := Tryz.prog) 22 9 Tryz.underlying22 Tryz.underlying5 Tryz.underlying9 h8
      go_wp2
      go_ret
      exact ⟨rfl, hbel⟩
end Go.Proofs.YtgpjklnlchbbbaaGreatDoor
namespace Go.Proofs.YtgpjklnlchbbbaaGreatDoor.Pad
open Go.RowKit Go.Proofs.YtgpjklnlchbbbaaGreatDoor.Hexa Go.Proofs.YtgpjklnlchbbbaaGreatDoor.Byt

theorem out_text (w : World) {B : Nat} {v : Value} {l : List UInt8} (h : Bytes w B 5 v l) (hB : B ≤ w.heap.size) (ty : TypeId) (s : ByteArray) (hl : l.length + s.size ≤ 100000000) :
    Out Tryz.prog #[22, 9] ty #[v, .string s] w B 5 (l ++ s.data.toList) := by
  obtain ⟨i0, hi, hz0, hz1, hz2⟩ := info_parts infoU8
  exact append_text Tryz.underlying22 hi hz0 hz1 hz2 Tryz.underlying9 w h hB ty s (by omega)
theorem out_zeros (w : World) {B : Nat} {v : Value} {l : List UInt8} (h : Bytes w B 5 v l) (hB : B ≤ w.heap.size) (hv : l ≠ []) (ty : TypeId) (k : Nat) (hl : l.length + k ≤ 100000000) :
    Out Tryz.prog #[22, 3] ty #[v, .int .i64 k] w B 5 (l ++ List.replicate k 0) := by
  obtain ⟨i0, hi, hz0, hz1, hz2⟩ := info_parts infoU8
  refine append_zeros Tryz.underlying22 hi hz0 hz1 hz2 Tryz.underlying3 w h hB ?_ ty k (by omega)
  rintro rfl
  rcases h with ⟨_, h⟩ | ⟨g, cap, cur, fz, h, _⟩
  · exact hv h
  · cases h

theorem shift_u (n k : Nat) : 8 * (n : Int) / 2 ^ (56 - 8 * k) % 256 = ((UInt8.ofNat (8 * n / 256 ^ (7 - k))).toNat : Int) := by
  rw [show 56 - 8 * k = 8 * (7 - k) by omega]; exact byte_shift n k

set_option maxRecDepth 100000 in
set_option maxHeartbeats 1000000 in
theorem impl_any (s : ByteArray) (w : World) (hs : s.size ≤ 8000000) :
    Calls Tryz.prog 74 #[.string s] w fun e w' => e = .returned (.string ⟨(padL s).toArray⟩) ∧ Below w.heap.size w w' := by
  obtain ⟨i0, hi, hz0, hz1, hz2⟩ := info_parts infoU8
  have hz := zer_lt s.size
  have d1 : (64 - ((s.size : Int) + 1 + 8) % 64) % 64 = (zer s.size : Int) := by unfold zer; omega
  have d2 : -(((s.size : Int) + 1 + 8) % 64) % 64 = (zer s.size : Int) := by unfold zer; omega
  go_enter Tryz.func74, Tryz.ntmps74
  go_wp2_with (first
    | (at_make; refine wpList_make_own _ rfl _ _ 22 rfl w.heap.size 5 i0 (.int .u8 0) 1 Tryz.underlying22 hi hz0 hz1 .i64 .i64 _ (s.size + 1 + zer s.size + 8) rfl rfl (by omega) (by rw [hz2]; omega) (by unfold maxLen; omega) (Nat.le_refl _) ?_; intro w0 hown0 hgrow0)
    | (at_builtin; refine wpList_append_out rfl (.tmp 23) (.tmp 24) 22 9 rfl _ _ rfl rfl (out_text w0 (bytes_of_own (l := []) hown0) hgrow0.size _ s (by simp; omega)) ?_; intro v1 w1 hb1 hg1)
    | (at_builtin; refine wpList_append_out rfl (.tmp 26) (.tmp 27) 22 22 rfl _ _ rfl rfl (out_byte w1 hb1 (Nat.le_trans hgrow0.size hg1.size) _ 128 128 rfl (by simp; omega)) ?_; intro v2 w2 hb2 hg2)
    | (at_builtin; refine wpList_append_out rfl (.tmp 29) (.tmp 30) 22 3 rfl _ _ rfl rfl (out_zeros w2 hb2 (Nat.le_trans hgrow0.size (Nat.le_trans hg1.size (Nat.le_trans (by simp) hg2.size))) (by simp) _ (zer s.size) (by simp; omega)) ?_; intro v3 w3 hb3 hg3))
  have hB1 := (Below.refl w.heap.size w).grown hgrow0 (Nat.le_refl _) (fun k h => by cases h)
  have hB2 := hB1.trans hg1
  have hB3 := ((hB2.alloc hB2.size _).trans hg2).trans hg3
  have HB := Lib.hid hb3
  clear hb1 hg1 hb2 hg2 hb3 hg3 hown0 hgrow0 hB1 hB2 d1 d2
  go_loopw [5, 7] (fun v i wr => ∃ k : Nat, k ≤ 8 ∧ i = .int .i64 (56 - 8 * (k : Int)) ∧ Bytes wr w.heap.size 5 v (padK s k) ∧ Below w.heap.size w wr)
    (fun _ i _ => (intOf i + 8).toNat)
  case atStart => exact ⟨0, Nat.zero_le _, rfl, by simpa [padK, lenB, head] using HB.out, hB3⟩
  case round =>
    clear HB hB3
    obtain ⟨k, hk, rfl, hb, hg⟩ := hrel
    obtain ⟨a, c, rfl⟩ := bytes_len hb
    have hl := padK_length s k
    by_cases hlt : k < 8
    · have hsh : ((56 - 8 * (k : Int))).toNat = 56 - 8 * k := by omega
      go_wp2_with (first
        | (at_builtin; refine wpList_append_out rfl (.tmp 40) (.tmp 45) 22 22 rfl _ _ rfl rfl (out_byte _ hb hg.size _ (UInt8.ofNat (8 * s.size / 256 ^ (7 - k))) _ (shift_u s.size k) (by omega)) ?_; intro v1 w1 hb1 hg1))
      rw [padK_next] at hb1
      go_roundw
      case rel => exact ⟨k + 1, by omega, by go_num, hb1, (hg.alloc hg.size _).trans hg1⟩
      case measure => simp [intOf]; omega
    · obtain rfl : k = 8 := by omega
      have hconv := bytes_string (P := Tryz.prog) 22 9 Tryz.underlying22 Tryz.underlying5 Tryz.underlying9 hb
      rw [hl] at hconv
      go_wp2
      go_ret
      exact ⟨rfl, hg⟩
end Go.Proofs.YtgpjklnlchbbbaaGreatDoor.Pad
namespace Go.Proofs.YtgpjklnlchbbbaaGreatDoor
open Go.RowKit Go.Proofs.YtgpjklnlchbbbaaGreatDoor.Sha Go.Proofs.YtgpjklnlchbbbaaGreatDoor.Hexa Go.Proofs.YtgpjklnlchbbbaaGreatDoor.Parts Go.Proofs.YtgpjklnlchbbbaaGreatDoor.Byt

def padB (s : ByteArray) : ByteArray := ⟨(Pad.padL s).toArray⟩
def padN (s : ByteArray) : Nat := (s.size + 1 + Pad.zer s.size + 8) / 64
theorem padB_size (s : ByteArray) : (padB s).size = 64 * padN s := by
  show (Pad.padL s).toArray.size = _
  rw [List.size_toArray, Pad.padL_length]
  have := Pad.zer_end s.size
  unfold padN
  omega
theorem padN_le (s : ByteArray) (h : s.size ≤ 8000000) : padN s ≤ 200000 := by
  have := Pad.zer_lt s.size
  unfold padN; omega
/-- The state behind k blocks. -/
def blocksS (p : ByteArray) : Nat → St8
  | 0 => firstS
  | k + 1 => blockS (blocksS p k) keyL (p.extract (64 * k) (64 * k + 64))
/-- The digest's bytes. -/
def digL (s : ByteArray) : List UInt8 := textL (blocksS (padB s) (padN s))
def digB (s : ByteArray) : ByteArray := ⟨(digL s).toArray⟩
theorem digB_size (s : ByteArray) : (digB s).size = 32 := rfl

/-- The keys stored into a variable of their own. -/
theorem laid_row64 (w1 : World) {st : Array Value} (hss : st.size = 64) (hso : ∀ v ∈ st.toList, v.oneCell' = true) :
    ∃ W2 : World, (storeCells ⟨w1.heap.size, 0, none⟩ st.toList 0).run Tryz.prog (w1.alloc (.cells (zeros 64) 81)) = .ok () W2 ∧ W2.heap[w1.heap.size]? = some (.cells st 81 (0, 0)) ∧ W2.heap.size = w1.heap.size + 1 ∧ Below w1.heap.size w1 W2 := by
  have r1 := run_storeCells_from (P := Tryz.prog) w1.heap.size 81 st.toList 0 (zeros 64) _ (heap_alloc_new w1 (.cells (zeros 64) 81)) (by simp [zeros, wcells, hss]) hso
  simp at r1
  exact ⟨_, r1, setRow_heap _ _ _ _ _ _ (heap_alloc_new w1 _), by simp, ((Below.refl _ _).alloc (Nat.le_refl _) _).trans ⟨rfl, rfl, rfl, by simp, fun k hk => setRow_other _ _ _ _ (by omega)⟩⟩

/-- The blocks of the call: the state, the keys. -/
structure MemD (w wr : World) (g1 g2 : Nat) (st : Array Value) : Prop where
  state : wr.heap[g1]? = some (.cells st 79 (0, 0))
  keys : wr.heap[g2]? = some (.cells (wcells keyL) 81 (0, 0))
  ne : g1 ≠ g2
  lo1 : w.heap.size ≤ g1
  lo2 : w.heap.size ≤ g2
  below : Below w.heap.size w wr
theorem MemD.lt1 {w wr : World} {g1 g2 : Nat} {st : Array Value} (h : MemD w wr g1 g2 st) : g1 < wr.heap.size := (Array.getElem?_eq_some_iff.1 h.state).1
theorem MemD.lt2 {w wr : World} {g1 g2 : Nat} {st : Array Value} (h : MemD w wr g1 g2 st) : g2 < wr.heap.size := (Array.getElem?_eq_some_iff.1 h.keys).1
theorem MemD.later {w wr w6 : World} {g1 g2 : Nat} {st : Array Value} (h : MemD w wr g1 g2 st) {B : Nat} (hb : Below B wr w6) (hB : g1 < B ∧ g2 < B) (hw : w.heap.size ≤ B) : MemD w w6 g1 g2 st :=
  ⟨by rw [hb.block g1 hB.1]; exact h.state, by rw [hb.block g2 hB.2]; exact h.keys, h.ne, h.lo1, h.lo2, h.below.trans (hb.mono hw)⟩
theorem memD_store {w wr w6 : World} {g1 g2 : Nat} {st : Array Value} (h : MemD w wr g1 g2 st) (hb : Below wr.drew.heap.size wr.drew w6) (R : St8) (hs : st.size = 8) :
    ∃ W7, (storeCells ⟨g1, 0, none⟩ R.cells.toList 0).run Tryz.prog w6 = .ok () W7 ∧ MemD w W7 g1 g2 R.cells := by
  have l1 := h.lt1
  have l2 := h.lt2
  have b1 : Below wr.heap.size wr w6 := ((Below.refl wr.heap.size wr).drew).trans hb
  have h6 := h.later b1 ⟨l1, l2⟩ h.below.size
  have r := run_storeCells_from (P := Tryz.prog) g1 79 R.cells.toList 0 st w6 h6.state (by rw [hs]; rfl) (wcells_one R.list)
  have e : (st.toList.take 0 ++ R.cells.toList).toArray = R.cells := by simp
  rw [e] at r
  refine ⟨_, r, setRow_heap _ _ _ _ _ _ h6.state, ?_, h.ne, h.lo1, h.lo2, h6.below.trans ⟨rfl, rfl, rfl, by simp, fun k hk => setRow_other _ _ _ _ (by have := h.lo1; omega)⟩⟩
  rw [setRow_other _ _ _ _ (Ne.symm h.ne)]; exact h6.keys

theorem memD_far {w wr : World} {g1 g2 g3 : Nat} {st : Array Value} (h : MemD w wr g1 g2 st) (hg : g1 < g3 ∧ g2 < g3 ∧ w.heap.size ≤ g3) (j : Nat) (v : Value) : MemD w (wr.setCell ⟨g3, j, none⟩ v) g1 g2 st := by
  refine ⟨?_, ?_, h.ne, h.lo1, h.lo2, h.below.setCell hg.2.2 _⟩
  · rw [Below.heap_setCell _ _ _ _ (by simp; omega)]; exact h.state
  · rw [Below.heap_setCell _ _ _ _ (by simp; omega)]; exact h.keys
theorem textL_at (S : St8) (k : Nat) (hk : k < 8) : ∀ i, i < 4 → (bcells (textL S))[4 * k + i]? = (bcells (be4 (S.list.getD k 0)))[i]? := by
  intro i hi
  rcases k with _ | _ | _ | _ | _ | _ | _ | _ | k
  all_goals first | omega | (rcases i with _ | _ | _ | _ | i <;> first | omega | rfl)
/-- Four bytes more. -/
theorem four_sets {S : St8} {xs : List Value} {k : Nat} {x : UInt32} (h : ∀ j, j < 4 * k → xs[j]? = (bcells (textL S))[j]?) (hl : xs.length = 32) (hk : k < 8) (hx : S.list.getD k 0 = x) :
    ∀ j, j < 4 * (k + 1) → ((((xs.set (4 * k) (.int .u8 (u x / 16777216))).set (4 * k + 1) (.int .u8 (u x / 65536 % 256))).set (4 * k + 2) (.int .u8 (u x / 256 % 256))).set (4 * k + 3) (.int .u8 (u x % 256)))[j]? = (bcells (textL S))[j]? := by
  intro j hj
  have t := textL_at S k hk
  rw [hx, be4_cells] at t
  by_cases h3 : j = 4 * k + 3
  · subst h3; rw [List.getElem?_set_self (by simp; omega), t 3 (by omega)]; rfl
  rw [List.getElem?_set_ne (by omega)]
  by_cases h2 : j = 4 * k + 2
  · subst h2; rw [List.getElem?_set_self (by simp; omega), t 2 (by omega)]; rfl
  rw [List.getElem?_set_ne (by omega)]
  by_cases h1 : j = 4 * k + 1
  · subst h1; rw [List.getElem?_set_self (by simp; omega), t 1 (by omega)]; rfl
  rw [List.getElem?_set_ne (by omega)]
  by_cases h0 : j = 4 * k
  · subst h0; rw [List.getElem?_set_self (by omega)]; exact (t 0 (by omega)).symm
  rw [List.getElem?_set_ne (by omega)]
  exact h j (by omega)

set_option maxRecDepth 100000 in
set_option maxHeartbeats 4000000 in
theorem specDigest_any (s : ByteArray) (w : World) (hs : s.size ≤ 8000000) :
    Calls Tryz.prog 37 #[.string s] w fun e w' => e = .returned (.string (digB s)) ∧ Below w.heap.size w w' := by
  obtain ⟨i0, hi, hz0, hz1, hz2⟩ := info_parts Pad.infoU8
  have KP := Lib.hid fun w => Pad.spec_any s w hs
  have HPS := Lib.hid (padB_size s)
  have HPN := Lib.hid (padN_le s hs)
  obtain ⟨st, hst⟩ : ∃ st, firstS.cells = st := ⟨_, rfl⟩
  have HST := Lib.hid hst
  obtain ⟨ky, hky⟩ : ∃ ky, wcells keyL = ky := ⟨_, rfl⟩
  have HKY := Lib.hid hky
  have s8 : Hid (st.size = 8) := Lib.hid (by rw [← hst]; rfl)
  have s64 : Hid (ky.size = 64) := Lib.hid (by rw [← hky, wcells_size, keyL_length])
  clear hst hky hs
  go_enter Tryz.func37, Tryz.ntmps37
  go_wp2_with (first
    | (refine wpList_allocRow rfl 79 rfl (zeros 8) run_alloc8 ?_)
    | (refine wpList_allocRow rfl 81 rfl (zeros 64) run_alloc64 ?_)
    | (go_at_call 48; refine (first_any _).mono ?_; rintro e w1 ⟨rfl, hb1⟩; rw [HST.out]
       obtain ⟨W2, r1, m2, z2, b2⟩ := laid_row w1 s8.out (by rw [← HST.out]; exact wcells_one firstS.list)
       have M2 := Lib.hid m2
       have Z2 := Lib.hid z2
       have B1 := Lib.hid hb1
       have B2 : Hid (Below w.heap.size w W2) := Lib.hid (hb1.trans (b2.mono hb1.size))
       clear m2 z2 b2 hb1)
    | (go_at_call 49; refine (keys_any _).mono ?_; rintro e w3 ⟨rfl, hb3⟩; rw [HKY.out]
       obtain ⟨W4, r4, m4, z4, b4⟩ := laid_row64 w3 s64.out (by rw [← HKY.out]; exact wcells_one keyL)
       have M4 := Lib.hid m4
       have Z4 := Lib.hid z4
       have B3 := Lib.hid hb3
       have B4 : Hid (Below W2.heap.size W2 W4) := Lib.hid (hb3.trans (b4.mono hb3.size))
       clear m4 z4 b4 hb3)
    | (go_at_call 50; refine (KP.out _).mono ?_; rintro e w5 ⟨rfl, hb5⟩
       have B5 := Lib.hid hb5
       clear hb5))
  have MD : Hid (MemD w w5 w1.heap.size w3.heap.size st) := Lib.hid (by
    have q1 := Z2.out
    have q3 := Z4.out
    have q4 := B3.out.size
    have q5 := B1.out.size
    have q6 : W2.heap.size ≤ W4.heap.size := B4.out.size
    refine ⟨?_, ?_, by omega, q5, by omega, ?_⟩
    · rw [B5.out.block _ (by omega), B4.out.block _ (by omega)]; exact M2.out
    · rw [B5.out.block _ (by omega), HKY.out]; exact M4.out
    · exact B2.out.trans ((B4.out.trans (B5.out.mono q6)).mono (by omega)))
  clear r1 r4 M2 M4 Z2 Z4 B1 B2 B3 B4 B5
  generalize hg1 : w1.heap.size = g1 at MD ⊢
  generalize hg2 : w3.heap.size = g2 at MD ⊢
  clear hg1 hg2
  have HP2 : Hid (({ data := (Pad.padL s).toArray } : ByteArray) = padB s) := Lib.hid rfl
  rw [HP2.out]
  generalize hpp : padB s = p at HPS ⊢
  have HPP := Lib.hid hpp
  clear hpp HP2
  generalize hN : padN s = N at HPS HPN
  have HN := Lib.hid hN
  clear hN
  go_loopw [6] (fun iv wr => ∃ (k : Nat), k ≤ N ∧ iv = .int .i64 (64 * (k : Int)) ∧ Hid (MemD w wr g1 g2 (blocksS p k).cells))
    (fun iv _ => (64 * (N : Int) - intOf iv).toNat)
  case atStart => exact ⟨0, Nat.zero_le _, rfl, Lib.hid (by have := MD.out; rw [show (blocksS p 0).cells = st from HST.out]; exact this)⟩
  case round =>
    clear MD
    obtain ⟨k, hk, rfl, HM⟩ := hrel
    have hps := HPS.out
    have hpn := HPN.out
    by_cases hlt : k < N
    · have hw : IntKind.i64.wrap (64 * (k : Int) + 64) = 64 * (k : Int) + 64 := IntWalk.i64_in _ (by omega)
      have n1 : (64 * (k : Int)).toNat = 64 * k := by omega
      have n2 : (64 * (k : Int) + 64).toNat = 64 * k + 64 := by omega
      have c1 : 0 ≤ 64 * (k : Int) + 64 ∧ 64 * (k : Int) + 64 ≤ 64 * (N : Int) := by omega
      have c2 : 64 * (k : Int) ≤ 64 * (k : Int) + 64 := by omega
      have c3 : 0 ≤ 64 * (k : Int) := by omega
      go_wp2
      refine wp_region_still_tail 7 (by kernel_rfl) (by kernel_rfl) ?_
      simp only [List.take_succ_cons, List.take_zero, List.drop_succ_cons, List.drop_zero]
      refine wpStill_load_row rfl 79 (.tmp 3) rfl g1 rfl _ (blocksS p k).cells (0, 0) _ HM.out.state Tryz.underlying79 rfl (by kernel_rfl) ?_
      still_step
      still_step
      still_step
      still_step
      still_step
      refine wpStill_load_row rfl 81 (.tmp 4) rfl g2 rfl _ (wcells keyL) (0, 0) _ HM.out.keys Tryz.underlying81 rfl (by kernel_rfl) ?_
      refine wpStill_nil ?_
      change wpList _ _ _ _ _ wr.drew
      have HB := Lib.hid (show (p.extract (64 * k) (64 * k + 64)).size = 64 by simp; omega)
      have hnx : blockS (blocksS p k) keyL (p.extract (64 * k) (64 * k + 64)) = blocksS p (k + 1) := rfl
      clear hw n1 n2 c1 c2 c3
      go_wp2_with (first
        | (go_at_call 51; refine (block_any (blocksS p k) (p.extract (64 * k) (64 * k + 64)) keyL wr.drew HB.out keyL_length).mono ?_; rintro e w6 ⟨rfl, hb6⟩
           rw [hnx]
           obtain ⟨W7, r7, M7⟩ := memD_store HM.out hb6 (blocksS p (k + 1)) rfl
           have HM7 := Lib.hid M7
           clear M7 hb6 hnx
           obtain ⟨cs2, hcs2⟩ : ∃ cs2, (blocksS p (k + 1)).cells = cs2 := ⟨_, rfl⟩
           have h82 : cs2.size = 8 := by rw [← hcs2]; rfl
           rw [hcs2] at r7 HM7 ⊢
           have HC2 := Lib.hid hcs2
           clear hcs2))
      go_roundw
      case rel => exact ⟨k + 1, by omega, by go_num, Lib.hid (by rw [HC2.out]; exact HM7.out)⟩
      case measure => (simp [intOf]; try omega)
    · obtain rfl : k = N := by omega
      clear KP HPS HPN hpn
      generalize hS : blocksS p k = S at HM
      have HSS : Hid (digB s = ⟨(textL S).toArray⟩) := Lib.hid (by rw [← hS, ← HPP.out, ← HN.out]; rfl)
      clear hS
      go_wp2_with (at_make; refine wpList_make_full _ rfl _ _ 22 rfl wr.heap.size 5 i0 (.int .u8 0) 1 Tryz.underlying22 hi hz0 hz1 .i64 .i64 _ _ 32 rfl rfl rfl rfl (by rw [hz2]; omega) (by unfold maxLen; omega) (Nat.le_refl _) ?_; intro w0 hown0 hgrow0)
      have hg0 : Below wr.heap.size wr w0 := (Below.refl _ _).grown hgrow0 (Nat.le_refl _) (fun k h => by cases h)
      have HM0 := Lib.hid (HM.out.later hg0 ⟨HM.out.lt1, HM.out.lt2⟩ HM.out.below.size)
      obtain ⟨g3, hg3⟩ : ∃ g, wr.heap.size = g := ⟨_, rfl⟩
      have H13 : Hid (g1 < g3 ∧ g2 < g3 ∧ w.heap.size ≤ g3) := Lib.hid ⟨by rw [← hg3]; exact HM.out.lt1, by rw [← hg3]; exact HM.out.lt2, by rw [← hg3]; exact HM.out.below.size⟩
      rw [hg3] at hown0 ⊢
      have HO0 := Lib.hid hown0
      clear hown0 hgrow0 hg0 hg3 HM
      go_loopw [8] (fun iv wr => ∃ (k : Nat) (xs : List Value), k ≤ 8 ∧ iv = .int .i64 k ∧ Hid (wr.ownsRow g3 5 1 (.slice (some ⟨g3, 0, none⟩) 32 32) 32 xs) ∧ Hid (∀ j, j < 4 * k → xs[j]? = (bcells (textL S))[j]?) ∧ Hid (MemD w wr g1 g2 S.cells))
        (fun iv _ => 8 - (intOf iv).toNat)
      case atStart => exact ⟨0, _, Nat.zero_le _, rfl, HO0, Lib.hid (fun j hj => by omega), HM0⟩
      case round =>
        clear HO0 HM0
        obtain ⟨k, xs, hk, rfl, HW, HX, HM⟩ := hrel
        have hxl : Hid (xs.length = 32) := Lib.hid (own_length HW.out)
        by_cases hlt : k < 8
        · obtain ⟨x, hx⟩ : ∃ x, S.list.getD k 0 = x := ⟨_, rfl⟩
          have ch : wr.cell? ⟨g1, k, none⟩ = some (.int .u32 (u x)) := by
            have := cell_words (xs := S.list) HM.out.state k hlt
            rw [this, ← hx]
            simp [List.getD, show k < S.list.length from hlt]; rfl
          have HSET : Hid (∀ j, j < 4 * (k + 1) → ((((xs.set (4 * k) (.int .u8 (u x / 16777216))).set (4 * k + 1) (.int .u8 (u x / 65536 % 256))).set (4 * k + 2) (.int .u8 (u x / 256 % 256))).set (4 * k + 3) (.int .u8 (u x % 256)))[j]? = (bcells (textL S))[j]?) := Lib.hid (four_sets HX.out hxl.out hlt hx)
          have fz := fun j => HW.out.frozenAt j
          have cc : ∀ j, j < 32 → ∃ v, wr.cell? ⟨g3, j, none⟩ = some v := fun j hj => ⟨xs[j]'(by have := hxl.out; omega), by rw [HW.out.cellAt j (by omega)]; simp [hxl.out, hj]⟩
          obtain ⟨v0, c0⟩ := cc (4 * k) (by omega)
          obtain ⟨v1, c1⟩ := cc (4 * k + 1) (by omega)
          obtain ⟨v2, c2⟩ := cc (4 * k + 2) (by omega)
          obtain ⟨v3, c3⟩ := cc (4 * k + 3) (by omega)
          have o1 := (HW.out.stored (4 * k) (.int .u8 (u x / 16777216))).1
          have o2 := (o1.stored (4 * k + 1) (.int .u8 (u x / 65536 % 256))).1
          have o3 := (o2.stored (4 * k + 2) (.int .u8 (u x / 256 % 256))).1
          have O4 := Lib.hid (o3.stored (4 * k + 3) (.int .u8 (u x % 256))).1
          have hne : ¬ (g1 = g3) := by have := H13.out.1; omega
          have hne' : ¬ (g3 = g1) := by have := H13.out.1; omega
          have M4 := Lib.hid (memD_far (memD_far (memD_far (memD_far HM.out H13.out (4 * k) (.int .u8 (u x / 16777216))) H13.out (4 * k + 1) (.int .u8 (u x / 65536 % 256))) H13.out (4 * k + 2) (.int .u8 (u x / 256 % 256))) H13.out (4 * k + 3) (.int .u8 (u x % 256)))
          have hb := u_bd x
          have n0 : (4 * (k : Int)).toNat = 4 * k := by omega
          have n1 : (4 * (k : Int) + 1).toNat = 4 * k + 1 := by omega
          have n2 : (4 * (k : Int) + 2).toNat = 4 * k + 2 := by omega
          have n3 : (4 * (k : Int) + 3).toNat = 4 * k + 3 := by omega
          have d0 : 0 ≤ 4 * (k : Int) ∧ 4 * (k : Int) < 32 := by omega
          have d1 : 0 ≤ 4 * (k : Int) + 1 ∧ 4 * (k : Int) + 1 < 32 := by omega
          have d2 : 0 ≤ 4 * (k : Int) + 2 ∧ 4 * (k : Int) + 2 < 32 := by omega
          have d3 : 0 ≤ 4 * (k : Int) + 3 ∧ 4 * (k : Int) + 3 < 32 := by omega
          clear o1 o2 o3 cc hx
          go_wp2
          go_roundw
          case rel => exact ⟨k + 1, _, by omega, by go_num, O4, HSET, M4⟩
          case measure => (simp [intOf]; try omega)
        · obtain rfl : k = 8 := by omega
          have hx32 : xs = bcells (textL S) := by
            apply List.ext_getElem?
            intro j
            by_cases hj : j < 32
            · exact HX.out j (by omega)
            · rw [List.getElem?_eq_none (by have := hxl.out; omega), List.getElem?_eq_none (by rw [bcells_length, textL_length]; omega)]
          have ho := HW.out
          rw [hx32] at ho
          have hconv := own_string (P := Tryz.prog) 22 9 Tryz.underlying22 Tryz.underlying5 Tryz.underlying9 ho
          clear hx32 ho
          go_wp2
          go_ret
          exact ⟨by rw [HSS.out]; rfl, HM.out.below⟩
end Go.Proofs.YtgpjklnlchbbbaaGreatDoor
