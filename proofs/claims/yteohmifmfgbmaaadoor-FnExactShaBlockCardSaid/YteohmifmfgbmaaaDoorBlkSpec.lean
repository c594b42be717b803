/- The model's ShaBlock. -/
import Derived.Test.YteohmifmfgbmaaaDoorBlkImpl
namespace Go.Proofs.YteohmifmfgbmaaaDoor
open Go.RowKit Go.Proofs.YteohmifmfgbmaaaDoor.Sha Go.Proofs.YteohmifmfgbmaaaDoor.Hexa Go.Proofs.YteohmifmfgbmaaaDoor.Parts

theorem in_anyB (n a b : Int) (w : World) : Calls Tryd.prog 22 #[.int .i64 n, .int .i64 a, .int .i64 b] w fun e w' => e = .returned (.bool (decide (a ≤ n ∧ n ≤ b))) ∧ w' = w := by
  by_cases h1 : a ≤ n <;> by_cases h2 : n ≤ b
  all_goals
    go_enter Tryd.func22, Tryd.ntmps22
    go_wp2
    all_goals go_ret
    all_goals exact ⟨by simp [h1, h2], rfl⟩

theorem in_yes {n a b : Int} (w : World) (h : a ≤ n ∧ n ≤ b) : Calls Tryd.prog 22 #[.int .i64 n, .int .i64 a, .int .i64 b] w fun e w' => e = .returned (.bool true) ∧ w' = w :=
  (in_anyB n a b w).mono fun _ _ ⟨he, hw⟩ => ⟨by rw [he, decide_eq_true h], hw⟩
theorem in_no {n a b : Int} (w : World) (h : ¬ (a ≤ n ∧ n ≤ b)) : Calls Tryd.prog 22 #[.int .i64 n, .int .i64 a, .int .i64 b] w fun e w' => e = .returned (.bool false) ∧ w' = w :=
  (in_anyB n a b w).mono fun _ _ ⟨he, hw⟩ => ⟨by rw [he, decide_eq_false h], hw⟩
theorem cells8 {w : World} {q : Nat} {S : St8} {t : TypeId} (N : w.heap[q]? = some (.cells S.cells t (0, 0))) :
    w.cell? ⟨q, 0, none⟩ = some (.int .u32 (u S.a)) ∧ w.cell? ⟨q, 1, none⟩ = some (.int .u32 (u S.b)) ∧ w.cell? ⟨q, 2, none⟩ = some (.int .u32 (u S.c)) ∧ w.cell? ⟨q, 3, none⟩ = some (.int .u32 (u S.d)) ∧
    w.cell? ⟨q, 4, none⟩ = some (.int .u32 (u S.e)) ∧ w.cell? ⟨q, 5, none⟩ = some (.int .u32 (u S.f)) ∧ w.cell? ⟨q, 6, none⟩ = some (.int .u32 (u S.g)) ∧ w.cell? ⟨q, 7, none⟩ = some (.int .u32 (u S.h)) := by
  refine ⟨?_, ?_, ?_, ?_, ?_, ?_, ?_, ?_⟩
  all_goals simp [World.cell?, N, St8.cells]

theorem built8s : (Tryd.prog.built 35 []).isSome = true ∧ (Tryd.prog.built 35 []).getD #[] = zeros 8 := ⟨by kernel_rfl, by kernel_rfl⟩
theorem wpList_buildZero8s {ops : Array Oper} {rest : List Oper} {o : Oper} {a : Act} {w : World} {Q : Exit → Act → World → Prop} (hg : o.guard = none) (ho : o.op = .build 35 #[])
    (h : wpList Tryd.prog ops Q rest (a.put o.dst (.agg (zeros 8))) w) : wpList Tryd.prog ops Q (o :: rest) a w := by
  refine wpList_build hg 35 #[] ho (by simpa using built8s.1) ?_
  have e := built8s.2
  simp only [List.map_toArray, List.map_nil]
  rw [e]
  exact h

/-- The state's block behind the result's slice. -/
structure MemS (w1 wr : World) (q : Nat) (st : Array Value) : Prop where
  state : wr.heap[q]? = some (.cells st 35 (0, 0))
  lo : w1.heap.size ≤ q
  below : Below w1.heap.size w1 wr
theorem memS_set {w1 wr : World} {q : Nat} {xs : List UInt32} (h : MemS w1 wr q (wcells xs)) (k : Nat) (x : UInt32) : MemS w1 (wr.setCell ⟨q, k, none⟩ (.int .u32 (u x))) q (wcells (xs.set k x)) :=
  ⟨set_words h.state x, h.lo, h.below.setCell h.lo _⟩
theorem memS_store {w1 wr w6 : World} {q : Nat} {st : Array Value} (h : MemS w1 wr q st) (hb : Below wr.drew.heap.size wr.drew w6) (R : St8) (hs : st.size = 8) :
    ∃ W7, (storeCells ⟨q, 0, none⟩ R.cells.toList 0).run Tryd.prog w6 = .ok () W7 ∧ MemS w1 W7 q R.cells := by
  have l1 : q < wr.heap.size := (Array.getElem?_eq_some_iff.1 h.state).1
  have b1 : Below wr.heap.size wr w6 := ((Below.refl wr.heap.size wr).drew).trans hb
  have h6 : w6.heap[q]? = some (.cells st 35 (0, 0)) := by rw [b1.block q l1]; exact h.state
  have r := run_storeCells_from (P := Tryd.prog) q 35 R.cells.toList 0 st w6 h6 (by rw [hs]; rfl) (wcells_one R.list)
  have e : (st.toList.take 0 ++ R.cells.toList).toArray = R.cells := by simp
  rw [e] at r
  exact ⟨_, r, setRow_heap _ _ _ _ _ _ h6, h.lo, (h.below.trans (b1.mono h.below.size)).trans ⟨rfl, rfl, rfl, by simp, fun k hk => setRow_other _ _ _ _ (by have := h.lo; omega)⟩⟩

set_option maxRecDepth 100000 in
set_option maxHeartbeats 4000000 in
theorem specBlock_short (g n c : Nat) (zs : List Int) (b : ByteArray) (w : World) (hI : IntsAt w g n zs) (hn : n ≤ 10000000) (hG : ¬ (n = 8 ∧ b.size = 64)) :
    Calls Tryd.prog 8 #[.slice (some ⟨g, 0, none⟩) n c, .string b] w (GivesL zs w) := by
  obtain ⟨i0, hi, hz0, hz1, hz2⟩ := info_parts infoInt
  have HI := Lib.hid (hI.later ((Below.refl _ _).alloc (Nat.le_refl _) (.cells #[] 3)))
  have hl := hI.len
  clear hI
  unfold GivesL
  rw [hl]
  have HL := Lib.hid hl
  clear hl
  by_cases h8 : n = 8
  · have hbs : b.size ≠ 64 := fun h => hG ⟨h8, h⟩
    clear hG
    subst h8
    go_enter Tryd.func8, Tryd.ntmps8
    go_wp2_with (at_builtin; refine wpList_append_own _ rfl (.tmp 9) (.tmp 10) 22 rfl w.heap.size 3 i0 (.int .i64 0) 1 8 Tryd.underlying22 hi hz0 hz1 hz2 rfl (by decide) _ 0 [] rfl (World.ownsRow_lit w #[] 0 (Nat.le_refl _) (by decide) rfl) ⟨g, 0, none⟩ 8 c (icells zs) rfl (by rw [icells_length, HL.out]) HI.out.news (icells_one zs) (by unfold maxLen; omega) (by omega) (by simp) ?_; intro v2 w2 hown2 hgrow2 hn2)
    have hb2 : Below w.heap.size w w2 := ((Below.refl w.heap.size w).alloc (Nat.le_refl _) (.cells #[] 3)).grown hgrow2 (by simp) (own_block_ge (World.ownsRow_lit (e := 3) (size := 1) (base := w.heap.size) w #[] 0 (Nat.le_refl _) (by decide) rfl))
    go_ret
    exact ⟨v2, rfl, by simpa using hown2, hb2⟩
  · clear hG
    go_enter Tryd.func8, Tryd.ntmps8
    go_wp2_with (at_builtin; refine wpList_append_own _ rfl (.tmp 9) (.tmp 10) 22 rfl w.heap.size 3 i0 (.int .i64 0) 1 8 Tryd.underlying22 hi hz0 hz1 hz2 rfl (by decide) _ 0 [] rfl (World.ownsRow_lit w #[] 0 (Nat.le_refl _) (by decide) rfl) ⟨g, 0, none⟩ n c (icells zs) rfl (by rw [icells_length, HL.out]; omega) HI.out.news (icells_one zs) (by unfold maxLen; omega) (by omega) (by simp) ?_; intro v2 w2 hown2 hgrow2 hn2)
    have hb2 : Below w.heap.size w w2 := ((Below.refl w.heap.size w).alloc (Nat.le_refl _) (.cells #[] 3)).grown hgrow2 (by simp) (own_block_ge (World.ownsRow_lit (e := 3) (size := 1) (base := w.heap.size) w #[] 0 (Nat.le_refl _) (by decide) rfl))
    go_ret
    exact ⟨v2, rfl, by simpa using hown2, hb2⟩

/-- What the model returns at eight ints and a block of 64 bytes. -/
def BlockPost (zs : List Int) (b : ByteArray) (w : World) (e : Ending) (w' : World) : Prop :=
  (Good zs ∧ GivesL (ints (blockS (stOf zs) keyL b)) w e w') ∨ (¬ Good zs ∧ GivesL zs w e w')

set_option maxRecDepth 100000 in
set_option maxHeartbeats 4000000 in
theorem specBlock_eight (g c : Nat) (zs : List Int) (b : ByteArray) (w : World) (hI : IntsAt w g 8 zs) (hb : b.size = 64) :
    Calls Tryd.prog 8 #[.slice (some ⟨g, 0, none⟩) 8 c, .string b] w (BlockPost zs b w) := by
  obtain ⟨i0, hi, hz0, hz1, hz2⟩ := info_parts infoInt
  have HI := Lib.hid (hI.later ((Below.refl _ _).alloc (Nat.le_refl _) (.cells #[] 3)))
  have HIN := Lib.hid hI
  have HL := Lib.hid hI.len
  have HBS := Lib.hid hb
  clear hI
  have s1 : Hid (∀ v ∈ (zeros 8).toList, v.oneCell' = true) := Lib.hid (wcells_one (List.replicate 8 0))
  go_enter Tryd.func8, Tryd.ntmps8
  go_wp2_with (first
    | (at_builtin; refine wpList_append_own _ rfl (.tmp 9) (.tmp 10) 22 rfl w.heap.size 3 i0 (.int .i64 0) 1 8 Tryd.underlying22 hi hz0 hz1 hz2 rfl (by decide) _ 0 [] rfl (World.ownsRow_lit w #[] 0 (Nat.le_refl _) (by decide) rfl) ⟨g, 0, none⟩ 8 c (icells zs) rfl (by rw [icells_length, HL.out]) HI.out.news (icells_one zs) (by unfold maxLen; omega) (by omega) (by simp) ?_; intro v2 w2 hown2 hgrow2 hn2
       have B2 : Hid (Below w.heap.size w w2) := Lib.hid (((Below.refl w.heap.size w).alloc (Nat.le_refl _) (.cells #[] 3)).grown hgrow2 (by simp) (own_block_ge (World.ownsRow_lit (e := 3) (size := 1) (base := w.heap.size) w #[] 0 (Nat.le_refl _) (by decide) rfl)))
       have ho2 : w2.ownsRow w.heap.size 3 1 v2 8 (icells zs) := by simpa using hown2
       obtain ⟨ad2, cap2, rfl, hcm2, hcn2, hr2⟩ := own_form ho2
       obtain ⟨g1, rfl, hc1⟩ := hr2 0 (by rw [icells_length, HL.out]; omega)
       have O2 := Lib.hid ho2
       unfold maxLen at hcm2
       clear hgrow2 hn2 hown2 ho2 hr2 hc1)
    | (refine wpList_buildZero8s rfl rfl ?_
       obtain ⟨W3, r3, m3, z3, b3⟩ := laid_row w2 (st := zeros 8) rfl s1.out
       have M3 : Hid (MemS w2 W3 w2.heap.size (zeros 8)) := Lib.hid ⟨m3, Nat.le_refl _, b3⟩
       clear m3 z3 b3)
    | (refine wpList_allocRow rfl 35 rfl (zeros 8) run_alloc8 ?_))
  clear r3 hb
  generalize hq : w2.heap.size = q at M3 ⊢
  have HQ := Lib.hid hq
  clear hq
  go_loopw [7] (fun iv wr => ∃ (k : Nat) (xs : List UInt32), k ≤ 8 ∧ iv = .int .i64 k ∧ Hid (xs.length = 8) ∧ Hid (∀ j, j < k → xs[j]? = some ((stOf zs).list.getD j 0)) ∧ Hid (∀ j, j < k → InWord (zs.getD j 0)) ∧ Hid (MemS w2 wr q (wcells xs)))
    (fun iv _ => 8 - (intOf iv).toNat)
  case atStart => exact ⟨0, List.replicate 8 0, Nat.zero_le _, rfl, Lib.hid (by simp), Lib.hid (fun j hj => by omega), Lib.hid (fun j hj => by omega), M3⟩
  case round =>
    clear M3
    obtain ⟨k, xs, hk, rfl, HX, HA, HB, HM⟩ := hrel
    have BW : Hid (Below w.heap.size w wr) := Lib.hid (B2.out.trans (HM.out.below.mono B2.out.size))
    by_cases hlt : k < 8
    · have hc0 : wr.cell? ⟨g, k, none⟩ = some (.int .i64 (zs.getD k 0)) := (HIN.out.later BW.out).cell k hlt
      by_cases hin : InWord (zs.getD k 0)
      · have hset := stOf_get zs k hlt
        have hu := wordOf_u hin
        obtain ⟨x, hx⟩ : ∃ x, wordOf (zs.getD k 0) = x := ⟨_, rfl⟩
        rw [hx] at hu hset
        rw [← hu] at hc0
        have hbd := u_bd x
        have hd : Hid (0 ≤ u x ∧ u x ≤ 4294967295) := Lib.hid (by omega)
        have hw : IntKind.u32.wrap (u x) = u x := wrap_u x
        have ck := cell_words HM.out.state k (by have := HX.out; omega)
        have zk := free_words HM.out.state k
        obtain ⟨vk, hvk⟩ : ∃ v, u (xs[k]'(by have := HX.out; omega)) = v := ⟨_, rfl⟩
        rw [hvk] at ck
        have HSET := Lib.hid hset
        have HIW := Lib.hid hin
        clear hvk hset hin hu hx
        go_wp2_with (first
          | (go_at_call 22; refine (in_yes _ hd.out).mono ?_; rintro e w4 ⟨rfl, rfl⟩))
        go_roundw
        case rel => exact ⟨k + 1, xs.set k x, by omega, by go_num, Lib.hid (by have := HX.out; simpa using this), Lib.hid (row_next HA.out (by have := HX.out; omega) HSET.out.symm), Lib.hid (fun j hj => by
          by_cases e : j = k
          · rw [e]; exact HIW.out
          · exact HB.out j (by omega)), Lib.hid (memS_set HM.out k x)⟩
        case measure => (simp [intOf]; try omega)
      · have HNG : Hid (¬ Good zs) := Lib.hid (fun h => hin (h.2 k hlt))
        obtain ⟨z, hz⟩ : ∃ z, zs.getD k 0 = z := ⟨_, rfl⟩
        rw [hz] at hc0 hin
        have hd := Lib.hid hin
        have O4 := Lib.hid (own_below O2.out HM.out.below)
        clear hin hz
        go_wp2_with (first
          | (go_at_call 22; refine (in_no _ hd.out).mono ?_; rintro e w4 ⟨rfl, rfl⟩))
        go_ret
        exact .inr ⟨HNG.out, _, rfl, by rw [HL.out]; exact O4.out, BW.out⟩
    · obtain rfl : k = 8 := by omega
      have hfin := list_eq_of HX.out HA.out
      have HG : Hid (Good zs) := Lib.hid ⟨HL.out, HB.out⟩
      have HM1 : Hid (MemS w2 wr q (stOf zs).cells) := Lib.hid (by have := HM.out; rw [hfin] at this; exact this)
      clear hfin HM
      go_wp2
      obtain ⟨e0, e1, e2, e3, e4, e5, e6, e7⟩ := cells8 HM1.out.state
      generalize hSt : stOf zs = S at HM1 e0 e1 e2 e3 e4 e5 e6 e7
      have HSt := Lib.hid hSt
      clear hSt
      go_region_with (first
        | (go_at_call 24; refine (keys_any _).mono ?_; rintro e w5 ⟨rfl, hb5⟩
           have h5 : w5.heap[q]? = some (.cells S.cells 35 (0, 0)) := by rw [hb5.block q (Array.getElem?_eq_some_iff.1 HM1.out.state).1]; exact HM1.out.state
           obtain ⟨f0, f1, f2, f3, f4, f5, f6, f7⟩ := cells8 h5
           clear h5)
        | (go_at_call 23; refine (block_any S b keyL w5 HBS.out keyL_length).mono ?_; rintro e w6 ⟨rfl, hb6⟩
           obtain ⟨W7, r7, M7⟩ := memS_store HM1.out (hb5.trans (hb6.mono hb5.size)) (blockS S keyL b) rfl
           have HM7 := Lib.hid M7
           clear M7 hb6 hb5
           generalize hR : blockS S keyL b = R at r7 HM7 ⊢
           have HRR := Lib.hid hR
           clear hR
           obtain ⟨cs2, hcs2⟩ : ∃ cs2, R.cells = cs2 := ⟨_, rfl⟩
           have h82 : cs2.size = 8 := by rw [← hcs2]; rfl
           rw [hcs2] at r7 HM7 ⊢
           have HC2 := Lib.hid hcs2
           clear hcs2))
      all_goals
        have H1q : Hid (g1 < q) := Lib.hid (by rw [← HQ.out]; exact own_lt O2.out)
        have O7 := Lib.hid (own_below O2.out HM7.out.below)
        have B7 : Hid (Below w.heap.size w W7) := Lib.hid (B2.out.trans (HM7.out.below.mono B2.out.size))
        have S7 := Lib.hid HM7.out.state
        have C7 : Hid (cs2 = wcells R.list) := Lib.hid (by rw [← HC2.out]; rfl)
        clear r7
        go_wp2
        go_loopw [8] (fun iv wr => ∃ (k : Nat) (ys : List Value), k ≤ 8 ∧ iv = .int .i64 k ∧ Hid (wr.ownsRow w.heap.size 3 1 (.slice (some ⟨g1, 0, none⟩) 8 cap2) 8 ys) ∧ Hid (∀ j, j < k → ys[j]? = (icells (ints R))[j]?) ∧ Hid (wr.heap[q]? = some (.cells cs2 35 (0, 0))) ∧ Hid (Below w.heap.size w wr))
          (fun iv _ => 8 - (intOf iv).toNat)
        case atStart => exact ⟨0, _, Nat.zero_le _, rfl, O7, Lib.hid (fun j hj => by omega), S7, B7⟩
        case round =>
          obtain ⟨k, ys, hk, rfl, HW, HY, HS, HBW⟩ := hrel
          have hyl : Hid (ys.length = 8) := Lib.hid (own_length HW.out)
          by_cases hlt : k < 8
          · obtain ⟨x, hx⟩ : ∃ x, R.list.getD k 0 = x := ⟨_, rfl⟩
            have ch : wr.cell? ⟨q, k, none⟩ = some (.int .u32 (u x)) := by
              have h' := HS.out
              rw [C7.out] at h'
              rw [cell_words (xs := R.list) h' k hlt, ← hx]
              simp [List.getD, show k < R.list.length from hlt]; rfl
            have HE : Hid ((icells (ints R))[k]? = some (.int .i64 (u x))) := Lib.hid (by
              have h1 := ints_get R k hlt
              rw [hx] at h1
              have h2 : k < (ints R).length := hlt
              have h3 : (ints R).getD k 0 = (ints R)[k] := by simp [List.getD, h2]
              rw [h3] at h1
              simp only [icells, List.getElem?_map, List.getElem?_eq_getElem h2, h1, Option.map_some])
            have c3 : ∃ v, wr.cell? ⟨g1, k, none⟩ = some v := ⟨ys[k]'(by have := hyl.out; omega), by rw [HW.out.cellAt k (by omega)]; simp [hyl.out, hlt]⟩
            obtain ⟨v3, c3⟩ := c3
            have z3 := HW.out.frozenAt k
            have hbd := u_bd x
            have O8 := Lib.hid (HW.out.stored k (.int .i64 (u x))).1
            have hne : ¬ (q = g1) := by have := H1q.out; omega
            have B8 : Hid (Below w.heap.size w (wr.setCell ⟨g1, k, none⟩ (.int .i64 (u x)))) := Lib.hid (HBW.out.setCell (own_block_ge O2.out g1 rfl) _)
            have S8 : Hid ((wr.setCell ⟨g1, k, none⟩ (.int .i64 (u x))).heap[q]? = some (.cells cs2 35 (0, 0))) := Lib.hid (by rw [Below.heap_setCell _ _ _ _ (by simpa using hne)]; exact HS.out)
            have Y8 : Hid (∀ j, j < k + 1 → (ys.set k (.int .i64 (u x)))[j]? = (icells (ints R))[j]?) := Lib.hid (fun j hj => by
              by_cases e : j = k
              · subst e; rw [List.getElem?_set_self (by have := hyl.out; omega), HE.out]
              · rw [List.getElem?_set_ne (by omega)]; exact HY.out j (by omega))
            clear hx
            go_wp2
            go_roundw
            case rel => exact ⟨k + 1, _, by omega, by go_num, O8, Y8, S8, B8⟩
            case measure => (simp [intOf]; try omega)
          · obtain rfl : k = 8 := by omega
            have hfin : ys = icells (ints R) := by
              apply List.ext_getElem?
              intro j
              by_cases hj : j < 8
              · exact HY.out j hj
              · rw [List.getElem?_eq_none (by have := hyl.out; omega), List.getElem?_eq_none (by rw [icells_length, ints_length]; omega)]
            have ho := HW.out
            rw [hfin] at ho
            have HO := Lib.hid ho
            clear ho hfin
            go_wp2
            go_ret
            exact .inl ⟨HG.out, _, rfl, by rw [HSt.out, HRR.out]; exact HO.out, HBW.out⟩
end Go.Proofs.YteohmifmfgbmaaaDoor
