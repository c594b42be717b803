/- The model's Digest, at a text of at most 8000000 bytes. -/
import Derived.Test.YtbojcphcjggccaaDoorShaText
import Derived.Test.YtbojcphcjggccaaDoorPadImpl
namespace Go.Proofs.YtbojcphcjggccaaDoor
open Go.RowKit Go.Proofs.YtbojcphcjggccaaDoor.Sha Go.Proofs.YtbojcphcjggccaaDoor.Hexa Go.Proofs.YtbojcphcjggccaaDoor.Parts Go.Proofs.YtbojcphcjggccaaDoor.Byt

def padB (s : ByteArray) : ByteArray := ⟨(Pad.padL s).toArray⟩
def padN (s : ByteArray) : Nat := (s.size + 1 + Pad.zer s.size + 8) / 64
theorem padB_size (s : ByteArray) : (padB s).size = 64 * padN s := by
  show (Pad.padL s).toArray.size = _
  rw [List.size_toArray, Pad.padL_length]
  have := Pad.zer_end s.size
  unfold padN
  omega
theorem padN_le (s : ByteArray) (h : s.size ≤ 8000000) : padN s ≤ 200000 := by
  have := Pad.zer_lt s.size
  unfold padN; omega
/-- The state behind k blocks. -/
def blocksS (p : ByteArray) : Nat → St8
  | 0 => firstS
  | k + 1 => blockS (blocksS p k) keyL (p.extract (64 * k) (64 * k + 64))
/-- The digest's bytes. -/
def digL (s : ByteArray) : List UInt8 := textL (blocksS (padB s) (padN s))
def digB (s : ByteArray) : ByteArray := ⟨(digL s).toArray⟩
theorem digB_size (s : ByteArray) : (digB s).size = 32 := rfl

/-- The keys stored into a variable of their own. -/
theorem laid_row64 (w1 : World) {st : Array Value} (hss : st.size = 64) (hso : ∀ v ∈ st.toList, v.oneCell' = true) :
    ∃ W2 : World, (storeCells ⟨w1.heap.size, 0, none⟩ st.toList 0).run Tryd.prog (w1.alloc (.cells (zeros 64) 67)) = .ok () W2 ∧ W2.heap[w1.heap.size]? = some (.cells st 67 (0, 0)) ∧ W2.heap.size = w1.heap.size + 1 ∧ Below w1.heap.size w1 W2 := by
  have r1 := run_storeCells_from (P := Tryd.prog) w1.heap.size 67 st.toList 0 (zeros 64) _ (heap_alloc_new w1 (.cells (zeros 64) 67)) (by simp [zeros, wcells, hss]) hso
  simp at r1
  exact ⟨_, r1, setRow_heap _ _ _ _ _ _ (heap_alloc_new w1 _), by simp, ((Below.refl _ _).alloc (Nat.le_refl _) _).trans ⟨rfl, rfl, rfl, by simp, fun k hk => setRow_other _ _ _ _ (by omega)⟩⟩

/-- The blocks of the call: the state, the keys. -/
structure MemD (w wr : World) (g1 g2 : Nat) (st : Array Value) : Prop where
  state : wr.heap[g1]? = some (.cells st 44 (0, 0))
  keys : wr.heap[g2]? = some (.cells (wcells keyL) 67 (0, 0))
  ne : g1 ≠ g2
  lo1 : w.heap.size ≤ g1
  lo2 : w.heap.size ≤ g2
  below : Below w.heap.size w wr
theorem MemD.lt1 {w wr : World} {g1 g2 : Nat} {st : Array Value} (h : MemD w wr g1 g2 st) : g1 < wr.heap.size := (Array.getElem?_eq_some_iff.1 h.state).1
theorem MemD.lt2 {w wr : World} {g1 g2 : Nat} {st : Array Value} (h : MemD w wr g1 g2 st) : g2 < wr.heap.size := (Array.getElem?_eq_some_iff.1 h.keys).1
theorem MemD.later {w wr w6 : World} {g1 g2 : Nat} {st : Array Value} (h : MemD w wr g1 g2 st) {B : Nat} (hb : Below B wr w6) (hB : g1 < B ∧ g2 < B) (hw : w.heap.size ≤ B) : MemD w w6 g1 g2 st :=
  ⟨by rw [hb.block g1 hB.1]; exact h.state, by rw [hb.block g2 hB.2]; exact h.keys, h.ne, h.lo1, h.lo2, h.below.trans (hb.mono hw)⟩
theorem memD_store {w wr w6 : World} {g1 g2 : Nat} {st : Array Value} (h : MemD w wr g1 g2 st) (hb : Below wr.drew.heap.size wr.drew w6) (R : St8) (hs : st.size = 8) :
    ∃ W7, (storeCells ⟨g1, 0, none⟩ R.cells.toList 0).run Tryd.prog w6 = .ok () W7 ∧ MemD w W7 g1 g2 R.cells := by
  have l1 := h.lt1
  have l2 := h.lt2
  have b1 : Below wr.heap.size wr w6 := ((Below.refl wr.heap.size wr).drew).trans hb
  have h6 := h.later b1 ⟨l1, l2⟩ h.below.size
  have r := run_storeCells_from (P := Tryd.prog) g1 44 R.cells.toList 0 st w6 h6.state (by rw [hs]; rfl) (wcells_one R.list)
  have e : (st.toList.take 0 ++ R.cells.toList).toArray = R.cells := by simp
  rw [e] at r
  refine ⟨_, r, setRow_heap _ _ _ _ _ _ h6.state, ?_, h.ne, h.lo1, h.lo2, h6.below.trans ⟨rfl, rfl, rfl, by simp, fun k hk => setRow_other _ _ _ _ (by have := h.lo1; omega)⟩⟩
  rw [setRow_other _ _ _ _ (Ne.symm h.ne)]; exact h6.keys

theorem memD_far {w wr : World} {g1 g2 g3 : Nat} {st : Array Value} (h : MemD w wr g1 g2 st) (hg : g1 < g3 ∧ g2 < g3 ∧ w.heap.size ≤ g3) (j : Nat) (v : Value) : MemD w (wr.setCell ⟨g3, j, none⟩ v) g1 g2 st := by
  refine ⟨?_, ?_, h.ne, h.lo1, h.lo2, h.below.setCell hg.2.2 _⟩
  · rw [Below.heap_setCell _ _ _ _ (by simp; omega)]; exact h.state
  · rw [Below.heap_setCell _ _ _ _ (by simp; omega)]; exact h.keys
theorem textL_at (S : St8) (k : Nat) (hk : k < 8) : ∀ i, i < 4 → (bcells (textL S))[4 * k + i]? = (bcells (be4 (S.list.getD k 0)))[i]? := by
  intro i hi
  rcases k with _ | _ | _ | _ | _ | _ | _ | _ | k
  all_goals first | omega | (rcases i with _ | _ | _ | _ | i <;> first | omega | rfl)
/-- Four bytes more. -/
theorem four_sets {S : St8} {xs : List Value} {k : Nat} {x : UInt32} (h : ∀ j, j < 4 * k → xs[j]? = (bcells (textL S))[j]?) (hl : xs.length = 32) (hk : k < 8) (hx : S.list.getD k 0 = x) :
    ∀ j, j < 4 * (k + 1) → ((((xs.set (4 * k) (.int .u8 (u x / 16777216))).set (4 * k + 1) (.int .u8 (u x / 65536 % 256))).set (4 * k + 2) (.int .u8 (u x / 256 % 256))).set (4 * k + 3) (.int .u8 (u x % 256)))[j]? = (bcells (textL S))[j]? := by
  intro j hj
  have t := textL_at S k hk
  rw [hx, be4_cells] at t
  by_cases h3 : j = 4 * k + 3
  · subst h3; rw [List.getElem?_set_self (by simp; omega), t 3 (by omega)]; rfl
  rw [List.getElem?_set_ne (by omega)]
  by_cases h2 : j = 4 * k + 2
  · subst h2; rw [List.getElem?_set_self (by simp; omega), t 2 (by omega)]; rfl
  rw [List.getElem?_set_ne (by omega)]
  by_cases h1 : j = 4 * k + 1
  · subst h1; rw [List.getElem?_set_self (by simp; omega), t 1 (by omega)]; rfl
  rw [List.getElem?_set_ne (by omega)]
  by_cases h0 : j = 4 * k
  · subst h0; rw [List.getElem?_set_self (by omega)]; exact (t 0 (by omega)).symm
  rw [List.getElem?_set_ne (by omega)]
  exact h j (by omega)

set_option maxRecDepth 100000 in
set_option maxHeartbeats 4000000 in
theorem specDigest_any (s : ByteArray) (w : World) (hs : s.size ≤ 8000000) :
    Calls Tryd.prog 36 #[.string s] w fun e w' => e = .returned (.string (digB s)) ∧ Below w.heap.size w w' := by
  obtain ⟨i0, hi, hz0, hz1, hz2⟩ := info_parts Pad.infoU8
  have KP := Lib.hid fun w => Pad.spec_any s w hs
  have HPS := Lib.hid (padB_size s)
  have HPN := Lib.hid (padN_le s hs)
  obtain ⟨st, hst⟩ : ∃ st, firstS.cells = st := ⟨_, rfl⟩
  have HST := Lib.hid hst
  obtain ⟨ky, hky⟩ : ∃ ky, wcells keyL = ky := ⟨_, rfl⟩
  have HKY := Lib.hid hky
  have s8 : Hid (st.size = 8) := Lib.hid (by rw [← hst]; rfl)
  have s64 : Hid (ky.size = 64) := Lib.hid (by rw [← hky, wcells_size, keyL_length])
  clear hst hky hs
  go_enter Tryd.func36, Tryd.ntmps36
  go_wp2_with (first
    | (refine wpList_allocRow rfl 44 rfl (zeros 8) run_alloc8 ?_)
    | (refine wpList_allocRow rfl 67 rfl (zeros 64) run_alloc64 ?_)
    | (go_at_call 50; refine (first_any _).mono ?_; rintro e w1 ⟨rfl, hb1⟩; rw [HST.out]
       obtain ⟨W2, r1, m2, z2, b2⟩ := laid_row w1 s8.out (by rw [← HST.out]; exact wcells_one firstS.list)
       have M2 := Lib.hid m2
       have Z2 := Lib.hid z2
       have B1 := Lib.hid hb1
       have B2 : Hid (Below w.heap.size w W2) := Lib.hid (hb1.trans (b2.mono hb1.size))
       clear m2 z2 b2 hb1)
    | (go_at_call 51; refine (keys_any _).mono ?_; rintro e w3 ⟨rfl, hb3⟩; rw [HKY.out]
       obtain ⟨W4, r4, m4, z4, b4⟩ := laid_row64 w3 s64.out (by rw [← HKY.out]; exact wcells_one keyL)
       have M4 := Lib.hid m4
       have Z4 := Lib.hid z4
       have B3 := Lib.hid hb3
       have B4 : Hid (Below W2.heap.size W2 W4) := Lib.hid (hb3.trans (b4.mono hb3.size))
       clear m4 z4 b4 hb3)
    | (go_at_call 52; refine (KP.out _).mono ?_; rintro e w5 ⟨rfl, hb5⟩
       have B5 := Lib.hid hb5
       clear hb5))
  have MD : Hid (MemD w w5 w1.heap.size w3.heap.size st) := Lib.hid (by
    have q1 := Z2.out
    have q3 := Z4.out
    have q4 := B3.out.size
    have q5 := B1.out.size
    have q6 : W2.heap.size ≤ W4.heap.size := B4.out.size
    refine ⟨?_, ?_, by omega, q5, by omega, ?_⟩
    · rw [B5.out.block _ (by omega), B4.out.block _ (by omega)]; exact M2.out
    · rw [B5.out.block _ (by omega), HKY.out]; exact M4.out
    · exact B2.out.trans ((B4.out.trans (B5.out.mono q6)).mono (by omega)))
  clear r1 r4 M2 M4 Z2 Z4 B1 B2 B3 B4 B5
  generalize hg1 : w1.heap.size = g1 at MD ⊢
  generalize hg2 : w3.heap.size = g2 at MD ⊢
  clear hg1 hg2
  have HP2 : Hid (({ data := (Pad.padL s).toArray } : ByteArray) = padB s) := Lib.hid rfl
  rw [HP2.out]
  generalize hpp : padB s = p at HPS ⊢
  have HPP := Lib.hid hpp
  clear hpp HP2
  generalize hN : padN s = N at HPS HPN
  have HN := Lib.hid hN
  clear hN
  go_loopw [6] (fun iv wr => ∃ (k : Nat), k ≤ N ∧ iv = .int .i64 (64 * (k : Int)) ∧ Hid (MemD w wr g1 g2 (blocksS p k).cells))
    (fun iv _ => (64 * (N : Int) - intOf iv).toNat)
  case atStart => exact ⟨0, Nat.zero_le _, rfl, Lib.hid (by have := MD.out; rw [show (blocksS p 0).cells = st from HST.out]; exact this)⟩
  case round =>
    clear MD
    obtain ⟨k, hk, rfl, HM⟩ := hrel
    have hps := HPS.out
    have hpn := HPN.out
    by_cases hlt : k < N
    · have hw : IntKind.i64.wrap (64 * (k : Int) + 64) = 64 * (k : Int) + 64 := IntWalk.i64_in _ (by omega)
      have n1 : (64 * (k : Int)).toNat = 64 * k := by omega
      have n2 : (64 * (k : Int) + 64).toNat = 64 * k + 64 := by omega
      have c1 : 0 ≤ 64 * (k : Int) + 64 ∧ 64 * (k : Int) + 64 ≤ 64 * (N : Int) := by omega
      have c2 : 64 * (k : Int) ≤ 64 * (k : Int) + 64 := by omega
      have c3 : 0 ≤ 64 * (k : Int) := by omega
      go_wp2
      refine wp_region_still_tail 7 (by kernel_rfl) (by kernel_rfl) ?_
      simp only [List.take_succ_cons, List.take_zero, List.drop_succ_cons, List.drop_zero]
      refine wpStill_load_row rfl 44 (.tmp 3) rfl g1 rfl _ (blocksS p k).cells (0, 0) _ HM.out.state Tryd.underlying44 rfl (by kernel_rfl) ?_
      still_step
      still_step
      still_step
      still_step
      still_step
      refine wpStill_load_row rfl 67 (.tmp 4) rfl g2 rfl _ (wcells keyL) (0, 0) _ HM.out.keys Tryd.underlying67 rfl (by kernel_rfl) ?_
      refine wpStill_nil ?_
      change wpList _ _ _ _ _ wr.drew
      have HB := Lib.hid (show (p.extract (64 * k) (64 * k + 64)).size = 64 by simp; omega)
      have hnx : blockS (blocksS p k) keyL (p.extract (64 * k) (64 * k + 64)) = blocksS p (k + 1) := rfl
      clear hw n1 n2 c1 c2 c3
      go_wp2_with (first
        | (go_at_call 53; refine (block_any (blocksS p k) (p.extract (64 * k) (64 * k + 64)) keyL wr.drew HB.out keyL_length).mono ?_; rintro e w6 ⟨rfl, hb6⟩
           rw [hnx]
           obtain ⟨W7, r7, M7⟩ := memD_store HM.out hb6 (blocksS p (k + 1)) rfl
           have HM7 := Lib.hid M7
           clear M7 hb6 hnx
           obtain ⟨cs2, hcs2⟩ : ∃ cs2, (blocksS p (k + 1)).cells = cs2 := ⟨_, rfl⟩
           have h82 : cs2.size = 8 := by rw [← hcs2]; rfl
           rw [hcs2] at r7 HM7 ⊢
           have HC2 := Lib.hid hcs2
           clear hcs2))
      go_roundw
      case rel => exact ⟨k + 1, by omega, by go_num, Lib.hid (by rw [HC2.out]; exact HM7.out)⟩
      case measure => (simp [intOf]; try omega)
    · obtain rfl : k = N := by omega
      clear KP HPS HPN hpn
      generalize hS : blocksS p k = S at HM
      have HSS : Hid (digB s = ⟨(textL S).toArray⟩) := Lib.hid (by rw [← hS, ← HPP.out, ← HN.out]; rfl)
      clear hS
      go_wp2_with (at_make; refine wpList_make_full _ rfl _ _ 22 rfl wr.heap.size 5 i0 (.int .u8 0) 1 Tryd.underlying22 hi hz0 hz1 .i64 .i64 _ _ 32 rfl rfl rfl rfl (by rw [hz2]; omega) (by unfold maxLen; omega) (Nat.le_refl _) ?_; intro w0 hown0 hgrow0)
      have hg0 : Below wr.heap.size wr w0 := (Below.refl _ _).grown hgrow0 (Nat.le_refl _) (fun k h => by cases h)
      have HM0 := Lib.hid (HM.out.later hg0 ⟨HM.out.lt1, HM.out.lt2⟩ HM.out.below.size)
      obtain ⟨g3, hg3⟩ : ∃ g, wr.heap.size = g := ⟨_, rfl⟩
      have H13 : Hid (g1 < g3 ∧ g2 < g3 ∧ w.heap.size ≤ g3) := Lib.hid ⟨by rw [← hg3]; exact HM.out.lt1, by rw [← hg3]; exact HM.out.lt2, by rw [← hg3]; exact HM.out.below.size⟩
      rw [hg3] at hown0 ⊢
      have HO0 := Lib.hid hown0
      clear hown0 hgrow0 hg0 hg3 HM
      go_loopw [8] (fun iv wr => ∃ (k : Nat) (xs : List Value), k ≤ 8 ∧ iv = .int .i64 k ∧ Hid (wr.ownsRow g3 5 1 (.slice (some ⟨g3, 0, none⟩) 32 32) 32 xs) ∧ Hid (∀ j, j < 4 * k → xs[j]? = (bcells (textL S))[j]?) ∧ Hid (MemD w wr g1 g2 S.cells))
        (fun iv _ => 8 - (intOf iv).toNat)
      case atStart => exact ⟨0, _, Nat.zero_le _, rfl, HO0, Lib.hid (fun j hj => by omega), HM0⟩
      case round =>
        clear HO0 HM0
        obtain ⟨k, xs, hk, rfl, HW, HX, HM⟩ := hrel
        have hxl : Hid (xs.length = 32) := Lib.hid (own_length HW.out)
        by_cases hlt : k < 8
        · obtain ⟨x, hx⟩ : ∃ x, S.list.getD k 0 = x := ⟨_, rfl⟩
          have ch : wr.cell? ⟨g1, k, none⟩ = some (.int .u32 (u x)) := by
            have := cell_words (xs := S.list) HM.out.state k hlt
            rw [this, ← hx]
            simp [List.getD, show k < S.list.length from hlt]; rfl
          have HSET : Hid (∀ j, j < 4 * (k + 1) → ((((xs.set (4 * k) (.int .u8 (u x / 16777216))).set (4 * k + 1) (.int .u8 (u x / 65536 % 256))).set (4 * k + 2) (.int .u8 (u x / 256 % 256))).set (4 * k + 3) (.int .u8 (u x % 256)))[j]? = (bcells (textL S))[j]?) := Lib.hid (four_sets HX.out hxl.out hlt hx)
          have fz := fun j => HW.out.frozenAt j
          have cc : ∀ j, j < 32 → ∃ v, wr.cell? ⟨g3, j, none⟩ = some v := fun j hj => ⟨xs[j]'(by have := hxl.out; omega), by rw [HW.out.cellAt j (by omega)]; simp [hxl.out, hj]⟩
          obtain ⟨v0, c0⟩ := cc (4 * k) (by omega)
          obtain ⟨v1, c1⟩ := cc (4 * k + 1) (by omega)
          obtain ⟨v2, c2⟩ := cc (4 * k + 2) (by omega)
          obtain ⟨v3, c3⟩ := cc (4 * k + 3) (by omega)
          have o1 := (HW.out.stored (4 * k) (.int .u8 (u x / 16777216))).1
          have o2 := (o1.stored (4 * k + 1) (.int .u8 (u x / 65536 % 256))).1
          have o3 := (o2.stored (4 * k + 2) (.int .u8 (u x / 256 % 256))).1
          have O4 := Lib.hid (o3.stored (4 * k + 3) (.int .u8 (u x % 256))).1
          have hne : ¬ (g1 = g3) := by have := H13.out.1; omega
          have hne' : ¬ (g3 = g1) := by have := H13.out.1; omega
          have M4 := Lib.hid (memD_far (memD_far (memD_far (memD_far HM.out H13.out (4 * k) (.int .u8 (u x / 16777216))) H13.out (4 * k + 1) (.int .u8 (u x / 65536 % 256))) H13.out (4 * k + 2) (.int .u8 (u x / 256 % 256))) H13.out (4 * k + 3) (.int .u8 (u x % 256)))
          have hb := u_bd x
          have n0 : (4 * (k : Int)).toNat = 4 * k := by omega
          have n1 : (4 * (k : Int) + 1).toNat = 4 * k + 1 := by omega
          have n2 : (4 * (k : Int) + 2).toNat = 4 * k + 2 := by omega
          have n3 : (4 * (k : Int) + 3).toNat = 4 * k + 3 := by omega
          have d0 : 0 ≤ 4 * (k : Int) ∧ 4 * (k : Int) < 32 := by omega
          have d1 : 0 ≤ 4 * (k : Int) + 1 ∧ 4 * (k : Int) + 1 < 32 := by omega
          have d2 : 0 ≤ 4 * (k : Int) + 2 ∧ 4 * (k : Int) + 2 < 32 := by omega
          have d3 : 0 ≤ 4 * (k : Int) + 3 ∧ 4 * (k : Int) + 3 < 32 := by omega
          clear o1 o2 o3 cc hx
          go_wp2
          go_roundw
          case rel => exact ⟨k + 1, _, by omega, by go_num, O4, HSET, M4⟩
          case measure => (simp [intOf]; try omega)
        · obtain rfl : k = 8 := by omega
          have hx32 : xs = bcells (textL S) := by
            apply List.ext_getElem?
            intro j
            by_cases hj : j < 32
            · exact HX.out j (by omega)
            · rw [List.getElem?_eq_none (by have := hxl.out; omega), List.getElem?_eq_none (by rw [bcells_length, textL_length]; omega)]
          have ho := HW.out
          rw [hx32] at ho
          have hconv := own_string (P := Tryd.prog) 22 9 Tryd.underlying22 Tryd.underlying5 Tryd.underlying9 ho
          clear hx32 ho
          go_wp2
          go_ret
          exact ⟨by rw [HSS.out]; rfl, HM.out.below⟩
end Go.Proofs.YtbojcphcjggccaaDoor
