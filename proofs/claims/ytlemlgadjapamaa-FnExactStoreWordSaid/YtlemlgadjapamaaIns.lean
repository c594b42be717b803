/- slices.Insert of a cell. -/
import Derived.Test.YtlemlgadjapamaaInsMath
namespace Go.Proofs.Ytlemlgadjapamaa
open Go.RowKit Go.Proofs.Ytlemlgadjapamaa.Parts Go.Proofs.Ytlemlgadjapamaa.Hexa

/-- What an insertion gives: the cells with one more, in the row that they had or in a new one; no other block is written. -/
def InsPost (M : Nat) (v : Value) (n p : Nat) (L : List C3) (x : C3) (w : World) (e : Ending) (w' : World) : Prop :=
  ∃ v', e = .returned v' ∧ w'.ownsRow M 68 3 v' (n + 1) (cellsE encC (L.take p ++ x :: L.drop p)) ∧ w.grownBy w' v.ownBlock ∧ (v'.ownBlock = v.ownBlock ∨ v'.ownBlock = some w.heap.size)

theorem one_src {w : World} {vb : Nat} {x : C3} (h : w.heap[vb]? = some (.cells #[.int .i64 x.l, .string x.t, .bool x.f] 68 (0, 0))) : SrcC w (some ⟨vb, 0, none⟩) 1 [x] :=
  ⟨rfl, fun j hj => by
    obtain rfl : j = 0 := by omega
    refine ⟨vb, 0, rfl, lt_of_block h, fun o v hv => ?_⟩
    match o, hv with
    | 0, hv => cases hv; simp [World.cell?, h, encC, List.getD]
    | 1, hv => cases hv; simp [World.cell?, h, encC, List.getD]
    | 2, hv => cases hv; simp [World.cell?, h, encC, List.getD]
    | o + 3, hv => simp [encC] at hv⟩

set_option maxRecDepth 100000 in
set_option maxHeartbeats 2000000 in
theorem ins_end (M : Nat) (a : Option Addr) (n c vb : Nat) (L : List C3) (x : C3) (w : World) (hown : w.ownsRow M 68 3 (.slice a n c) n (cellsE encC L)) (hM : M ≤ w.heap.size) (hn : n ≤ 1048600)
    (hv : w.heap[vb]? = some (.cells #[.int .i64 x.l, .string x.t, .bool x.f] 68 (0, 0))) :
    Calls Try.prog 80 #[.slice a n c, .int .i64 n, .slice (some ⟨vb, 0, none⟩) 1 1] w (InsPost M (.slice a n c) n n L x w) := by
  have hL : L.length = n := (srcC_of_own hown).len
  have HA := Lib.hid (appC w 24 M _ n L hown hM (some ⟨vb, 0, none⟩) 1 1 [x] (one_src hv) (by omega))
  have HE : Hid (L.take n ++ x :: L.drop n = L ++ [x]) := Lib.hid (by rw [← hL, List.take_length, List.drop_length])
  obtain ⟨ad, cap, hve, hnc, hcm, hpl⟩ := ownE_form hown
  cases hve
  unfold maxLen at hcm
  clear hown hv hL hpl
  cases a with
  | none =>
    go_enter Try.func80, Try.ntmps80
    go_wp2_with (at_builtin; refine wpList_appE rfl _ _ _ _ rfl _ _ rfl rfl HA.out ?_; intro v1 w1 hown1 hgrow1 hat1)
    all_goals
      have H1 := Lib.hid hown1
      clear hown1
      go_ret
      exact ⟨_, rfl, by rw [HE.out]; exact H1.out, hgrow1, hat1⟩
  | some q =>
    obtain ⟨qb, qo, qs⟩ := q
    go_enter Try.func80, Try.ntmps80
    go_wp2_with (at_builtin; refine wpList_appE rfl _ _ _ _ rfl _ _ rfl rfl HA.out ?_; intro v1 w1 hown1 hgrow1 hat1)
    all_goals
      have H1 := Lib.hid hown1
      clear hown1
      go_ret
      exact ⟨_, rfl, by rw [HE.out]; exact H1.out, hgrow1, hat1⟩

theorem overlaps_no (w : World) (vb g o lb cb : Nat) (cv cs : Array Value) (hv : w.heap[vb]? = some (.cells cv 68 (0, 0))) (hg : w.heap[g]? = some (.cells cs 68 (0, 0))) (hne : vb ≠ g) (hcs : cs.size ≠ 0) :
    (callFunc 90 #[.slice (some ⟨vb, 0, none⟩) 1 1, .slice (some ⟨g, o, none⟩) lb cb]).run Try.prog w = .ok (.value (.bool false)) w := by
  rw [run_callFunc_extern Try.func90 (by kernel_rfl) (by kernel_rfl) (by kernel_rfl) (e := Extern.SlicesOverlaps.overlaps #[24, 24] #[4]) (by kernel_rfl),
    Lib.run_overlaps_apart w 24 4 68 Try.underlying24 3 Try.sizeOf68 ⟨vb, 0, none⟩ ⟨g, o, none⟩ 1 1 lb cb hne 68 68 cv.size cs.size (by simp [World.shape?, hv]) (by simp [World.shape?, hg]) hcs (by simp [World.frozen?, hv]) (by simp [World.frozen?, hv])]
  rfl

set_option maxRecDepth 100000 in
set_option maxHeartbeats 4000000 in
theorem ins_shift (M g n c p vb : Nat) (L : List C3) (x : C3) (w : World) (hown : w.ownsRow M 68 3 (.slice (some ⟨g, 0, none⟩) n c) n (cellsE encC L)) (hn : n ≤ 1048600) (hp : p < n) (hroom : n + 1 ≤ c)
    (hv : w.heap[vb]? = some (.cells #[.int .i64 x.l, .string x.t, .bool x.f] 68 (0, 0))) (hne : vb ≠ g) :
    Calls Try.prog 80 #[.slice (some ⟨g, 0, none⟩) n c, .int .i64 p, .slice (some ⟨vb, 0, none⟩) 1 1] w (InsPost M (.slice (some ⟨g, 0, none⟩) n c) n p L x w) := by
  have hL : L.length = n := (srcC_of_own hown).len
  obtain ⟨i0, hi, hz0, hz1, hz2⟩ := info_parts infoCell
  obtain ⟨cur, r, hMg, hg, hnc, hcm, hcs, hcur, hrl⟩ := own_parts hown
  have hov := fun lb cb => overlaps_no w vb g ((p + 1) * 3) lb cb _ cur hv hg hne (by omega)
  have hLA : (cellsE encC (L.take p)).length = p * 3 := by rw [cellsC_length, List.length_take]; omega
  have hLD : (cellsE encC (L.drop p)).length = (n - p) * 3 := by rw [cellsC_length, List.length_drop]; omega
  have hcur2 : cur.toList = cellsE encC (L.take p) ++ cellsE encC (L.drop p) ++ r := by rw [hcur, ← cellsE_append, List.take_append_drop]
  have hsrc1 : ∀ j v, (cellsE encC (L.drop p))[j]? = some v → w.drew.cell? ((⟨g, p * 3, none⟩ : Addr).add j) = some v := fun j v hj => by
    rw [Addr.add_lit]
    have h1 : cur.toList[p * 3 + j]? = some v := by
      rw [hcur2, List.append_assoc, List.getElem?_append_right (by omega), hLA, show p * 3 + j - p * 3 = j by omega, List.getElem?_append_left (by
        rcases Nat.lt_or_ge j (cellsE encC (L.drop p)).length with h | h
        · exact h
        · rw [List.getElem?_eq_none h] at hj; cases hj)]
      exact hj
    show w.cell? ⟨g, p * 3 + j, none⟩ = some v
    simpa [World.cell?, hg] using h1
  have hcp1 : ∀ ty dc sc, (Builtin.copy_ #[24, 24] ty #[.slice (some ⟨g, (p + 1) * 3, none⟩) (n - p) dc, .slice (some ⟨g, p * 3, none⟩) (n + 1 - p) sc]).run Try.prog w.drew =   .ok (goInt ((n - p : Nat) : Int)) (w.drew.setRow g (cur.toList.take ((p + 1) * 3) ++ cellsE encC (L.drop p) ++ cur.toList.drop ((p + 1) * 3 + (cellsE encC (L.drop p)).length)).toArray) := fun ty dc sc =>
    run_copy_rowK w.drew _ _ ty 68 i0 3 g ((p + 1) * 3) (n - p) dc ⟨g, p * 3, none⟩ (n + 1 - p) sc cur 68 (cellsE encC (L.drop p)) (n - p) Try.underlying24 hi hz1 hg (by simp only [Nat.min_def]; split <;> omega) hLD hsrc1 (by rw [hLD, hcs]; omega) (cellsC_one _)
  obtain ⟨c1, hc1⟩ : ∃ c1, c1 = cur.toList.take ((p + 1) * 3) ++ cellsE encC (L.drop p) ++ cur.toList.drop ((p + 1) * 3 + (cellsE encC (L.drop p)).length) := ⟨_, rfl⟩
  rw [← hc1] at hcp1
  have hl1 : c1.length = c * 3 := by
    rw [hc1, List.length_append, List.length_append, List.length_take, List.length_drop, hLD, Array.length_toList, hcs]; omega
  obtain ⟨W1, hW1⟩ : ∃ W1, W1 = w.drew.setRow g c1.toArray := ⟨_, rfl⟩
  rw [← hW1] at hcp1
  have hg1 : W1.heap[g]? = some (.cells c1.toArray 68 (0, 0)) := by rw [hW1]; exact setRow_heap w.drew g cur _ _ _ hg
  have hv1 : W1.heap[vb]? = some (.cells #[.int .i64 x.l, .string x.t, .bool x.f] 68 (0, 0)) := by rw [hW1, setRow_other _ _ _ _ hne]; exact hv
  have hcp2 : ∀ ty dc, (Builtin.copy_ #[24, 24] ty #[.slice (some ⟨g, p * 3, none⟩) (n + 1 - p) dc, .slice (some ⟨vb, 0, none⟩) 1 1]).run Try.prog W1 = .ok (goInt 1) (W1.setRow g (c1.take (p * 3) ++ encC.cells x ++ c1.drop (p * 3 + (encC.cells x).length)).toArray) := fun ty dc => by
    have h := run_copy_rowK (P := Try.prog) W1 24 24 ty 68 i0 3 g (p * 3) (n + 1 - p) dc ⟨vb, 0, none⟩ 1 1 c1.toArray 68 (encC.cells x) 1 Try.underlying24 hi hz1 hg1 (by simp only [Nat.min_def]; split <;> omega) rfl (fun j v hj => by have := (one_src hv1).news (by decide) j v (by rw [cellsE_one]; exact hj); exact this) (by rw [List.size_toArray, hl1]; show p * 3 + 3 ≤ c * 3; omega) (encC_one x)
    exact h
  have hfin : ∃ r', c1.take (p * 3) ++ encC.cells x ++ c1.drop (p * 3 + (encC.cells x).length) = cellsE encC (L.take p ++ x :: L.drop p) ++ r' := by
    obtain ⟨r', h⟩ := lay_shift (X := encC.cells x) hcur2 rfl (by omega)
    rw [hLA, show p * 3 + 3 = (p + 1) * 3 by omega, ← hc1] at h
    exact ⟨r', by rw [cells_ins, ← h, show p * 3 + (encC.cells x).length = (p + 1) * 3 by (show p * 3 + 3 = (p + 1) * 3; omega)]⟩
  obtain ⟨r', hfin⟩ := hfin
  have HOWN : Hid ((W1.setRow g (c1.take (p * 3) ++ encC.cells x ++ c1.drop (p * 3 + (encC.cells x).length)).toArray).ownsRow M 68 3 (.slice (some ⟨g, 0, none⟩) (n + 1) c) (n + 1) (cellsE encC (L.take p ++ x :: L.drop p))) := Lib.hid (own_whole hMg (setRow_heap W1 g _ _ _ _ hg1) (by simp; omega) hroom hcm (by
      rw [List.length_append, List.length_append, List.length_take, List.length_drop, hl1]; show min (p * 3) (c * 3) + 3 + (c * 3 - (p * 3 + 3)) = c * 3; omega) hfin)
  have HGR : Hid (w.grownBy (W1.setRow g (c1.take (p * 3) ++ encC.cells x ++ c1.drop (p * 3 + (encC.cells x).length)).toArray) (some g)) := Lib.hid ⟨by rw [hW1]; rfl, by rw [hW1]; rfl, by rw [hW1]; rfl, by rw [hW1]; simp, fun k _ hk => by
    have hkg : k ≠ g := fun e => hk (by rw [e])
    rw [setRow_other _ _ _ _ hkg, hW1, setRow_other _ _ _ _ hkg]; rfl⟩
  obtain ⟨W2, hW2⟩ : ∃ W2, W2 = W1.setRow g (c1.take (p * 3) ++ encC.cells x ++ c1.drop (p * 3 + (encC.cells x).length)).toArray := ⟨_, rfl⟩
  rw [← hW2] at HOWN HGR hcp2
  have HC1 := Lib.hid hcp1
  have HC2 := Lib.hid hcp2
  have h2 : ¬ (c = p + 1) := by omega
  have h3 : ¬ (c = p) := by omega
  have h4 : ¬ ((p : Int) = (n : Int)) := by omega
  have h5 : ¬ ((c : Int) < (n : Int) + 1) := by omega
  unfold maxLen at hcm
  clear hown hv hg hcur hcur2 hsrc1 hcp1 hcp2 hc1 hl1 hW1 hg1 hv1 hfin hW2 hL hLA hLD hrl hcs
  go_enter Try.func80, Try.ntmps80
  go_wp2_with (simp only [hov])
  have hw1 : IntKind.i64.wrap ((p : Int) + 1) = (p : Int) + 1 := IntWalk.i64_in _ (by omega)
  have hn1 : ((p : Int) + 1).toNat = p + 1 := by omega
  have hb1 : 0 ≤ (p : Int) + 1 ∧ (p : Int) + 1 ≤ ((n + 1 : Nat) : Int) := by omega
  have hb2 : (p : Int) ≤ ((n + 1 : Nat) : Int) := by omega
  have hb3 : (p : Int) ≤ (n : Int) + 1 := by omega
  have hb4 : p ≤ n := by omega
  have hb5 : p ≤ n + 1 := by omega
  go_still_tail 8, (by kernel_rfl)
  change wpList _ _ _ _ _ w.drew
  refine wpList_copyK rfl _ _ _ _ rfl _ _ _ _ rfl rfl (HC1.out _ _ _) ?_
  have e2 := HC2.out 3 (c - p)
  go_wp2
  go_ret
  exact ⟨_, rfl, HOWN.out, HGR.out, .inl rfl⟩

set_option maxRecDepth 100000 in
set_option maxHeartbeats 4000000 in
theorem ins_grow (M g n c p vb : Nat) (L : List C3) (x : C3) (w : World) (hown : w.ownsRow M 68 3 (.slice (some ⟨g, 0, none⟩) n c) n (cellsE encC L)) (hM : M ≤ w.heap.size) (hn : n ≤ 1048600) (hp : p < n) (hroom : c < n + 1)
    (hv : w.heap[vb]? = some (.cells #[.int .i64 x.l, .string x.t, .bool x.f] 68 (0, 0))) :
    Calls Try.prog 80 #[.slice (some ⟨g, 0, none⟩) n c, .int .i64 p, .slice (some ⟨vb, 0, none⟩) 1 1] w (InsPost M (.slice (some ⟨g, 0, none⟩) n c) n p L x w) := by
  have hL : L.length = n := (srcC_of_own hown).len
  obtain ⟨i0, hi, hz0, hz1, hz2⟩ := info_parts infoCell
  obtain ⟨cur, r, hMg, hg, hnc, hcm, hcs, hcur, hrl⟩ := own_parts hown
  obtain rfl : c = n := by omega
  have hglt := lt_of_block hg
  have hvlt := lt_of_block hv
  have hLA : (cellsE encC (L.take p)).length = p * 3 := by rw [cellsC_length, List.length_take]; omega
  have hLD : (cellsE encC (L.drop p)).length = (c - p) * 3 := by rw [cellsC_length, List.length_drop]; omega
  have hr0 : r = [] := List.length_eq_zero_iff.1 (by rw [hrl]; omega)
  have hcur2 : cur.toList = cellsE encC (L.take p) ++ cellsE encC (L.drop p) := by rw [hcur, hr0, List.append_nil, ← cellsE_append, List.take_append_drop]
  have hold : (Builtin.firstCells i0.size p (.slice (some ⟨g, 0, none⟩) p c)).run Try.prog w.drew = .ok (cellsE encC (L.take p)).toArray w.drew := by
    rw [hz1]
    refine run_firstCells_some w.drew 3 p ⟨g, 0, none⟩ p c (cellsE encC (L.take p)) hLA (fun j v hj => ?_)
    rw [Addr.add_lit, Nat.zero_add]
    have hjl : j < p * 3 := by
      rcases Nat.lt_or_ge j (cellsE encC (L.take p)).length with h | h
      · omega
      · rw [List.getElem?_eq_none h] at hj; cases hj
    have h1 : cur.toList[j]? = some v := by rw [hcur2, List.getElem?_append_left (by omega)]; exact hj
    show w.cell? ⟨g, j, none⟩ = some v
    simpa [World.cell?, hg] using h1
  have hfit : Builtin.nextslicecap (p + (c + 1 - p)) c * i0.bytes ≤ 281474976710656 := by
    rw [hz2]
    exact growslice_fits (by omega) (by omega)
  have hgrow := fun ty => Lib.run_append_grow_zeros (P := Try.prog) w 24 3 ty 68 i0 _ .i64 .i64 Try.underlying24 Try.underlying3 hi hz0 (some ⟨g, 0, none⟩) p c (cellsE encC (L.take p)) hold (c + 1 - p) (by omega) (by rw [hz1]; omega) (by omega) (by omega) (by rw [hz2]; omega) hfit
  obtain ⟨G, hG⟩ : ∃ G, grownCap w (p + (c + 1 - p)) c 68 = G := ⟨_, rfl⟩
  have hGge : c + 1 ≤ G := by have := grownCap_ge w (p + (c + 1 - p)) c 68; omega
  have hGm : G ≤ maxLen := by rw [← hG]; exact grownCap_le_maxLen _ _ _ _ (by unfold maxLen; omega)
  rw [hG] at hgrow
  obtain ⟨c0, hc0⟩ : ∃ c0, c0 = (cellsE encC (L.take p)) ++ ((Builtin.zeroCells (Value.agg #[.int .i64 0, .string ByteArray.empty, .bool false]).cells (c + 1 - p)).toList ++ (Builtin.zeroCells (Value.agg #[.int .i64 0, .string ByteArray.empty, .bool false]).cells (G - (p + (c + 1 - p)))).toList) := ⟨_, rfl⟩
  have hc0a : (cellsE encC (L.take p)).toArray ++ Builtin.zeroCells (Value.agg #[.int .i64 0, .string ByteArray.empty, .bool false]).cells (c + 1 - p) ++ Builtin.zeroCells (Value.agg #[.int .i64 0, .string ByteArray.empty, .bool false]).cells (G - (p + (c + 1 - p))) = c0.toArray := by
    apply Array.toList_inj.1
    rw [hc0]; simp
  rw [hc0a] at hgrow
  have hl0 : c0.length = G * 3 := by
    rw [hc0, List.length_append, List.length_append, hLA]; simp only [Array.length_toList, zero_len]; omega
  obtain ⟨W0, hW0⟩ : ∃ W0, W0 = w.drew.alloc (.cells c0.toArray 68) := ⟨_, rfl⟩
  rw [← hW0] at hgrow
  have hg0 : W0.heap[w.heap.size]? = some (.cells c0.toArray 68 (0, 0)) := by rw [hW0]; exact heap_alloc_new w.drew _
  have hb0 : Below w.heap.size w W0 := by rw [hW0]; exact (Below.refl _ _).drew.alloc (Nat.le_refl _) _
  have hv0 : W0.heap[vb]? = some (.cells #[.int .i64 x.l, .string x.t, .bool x.f] 68 (0, 0)) := (hb0.block _ hvlt).trans hv
  have hcp1 : ∀ ty dc, (Builtin.copy_ #[24, 24] ty #[.slice (some ⟨w.heap.size, p * 3, none⟩) (c + 1 - p) dc, .slice (some ⟨vb, 0, none⟩) 1 1]).run Try.prog W0 = .ok (goInt 1) (W0.setRow w.heap.size (c0.take (p * 3) ++ encC.cells x ++ c0.drop (p * 3 + (encC.cells x).length)).toArray) := fun ty dc =>
    run_copy_rowK (P := Try.prog) W0 24 24 ty 68 i0 3 w.heap.size (p * 3) (c + 1 - p) dc ⟨vb, 0, none⟩ 1 1 c0.toArray 68 (encC.cells x) 1 Try.underlying24 hi hz1 hg0 (by simp only [Nat.min_def]; split <;> omega) rfl (fun j v hj => (one_src hv0).news (by decide) j v (by rw [cellsE_one]; exact hj)) (by rw [List.size_toArray, hl0]; show p * 3 + 3 ≤ G * 3; omega) (encC_one x)
  obtain ⟨c1, hc1⟩ : ∃ c1, c1 = c0.take (p * 3) ++ encC.cells x ++ c0.drop (p * 3 + (encC.cells x).length) := ⟨_, rfl⟩
  rw [← hc1] at hcp1
  have hl1 : c1.length = G * 3 := by
    rw [hc1, List.length_append, List.length_append, List.length_take, List.length_drop, hl0]; show min (p * 3) (G * 3) + 3 + (G * 3 - (p * 3 + 3)) = G * 3; omega
  obtain ⟨W1, hW1⟩ : ∃ W1, W1 = W0.setRow w.heap.size c1.toArray := ⟨_, rfl⟩
  rw [← hW1] at hcp1
  have hg1 : W1.heap[w.heap.size]? = some (.cells c1.toArray 68 (0, 0)) := by rw [hW1]; exact setRow_heap W0 _ _ _ _ _ hg0
  have hgg : W1.drew.heap[g]? = some (.cells cur 68 (0, 0)) := by
    show W1.heap[g]? = _
    rw [hW1, setRow_other _ _ _ _ (by omega)]; exact (hb0.block _ hglt).trans hg
  have hsrc2 : ∀ j v, (cellsE encC (L.drop p))[j]? = some v → W1.drew.cell? ((⟨g, p * 3, none⟩ : Addr).add j) = some v := fun j v hj => by
    rw [Addr.add_lit]
    have h1 : cur.toList[p * 3 + j]? = some v := by
      rw [hcur2, List.getElem?_append_right (by omega), hLA, show p * 3 + j - p * 3 = j by omega]
      exact hj
    simpa [World.cell?, hgg] using h1
  have hcp2 : ∀ ty dc sc, (Builtin.copy_ #[24, 24] ty #[.slice (some ⟨w.heap.size, (p + 1) * 3, none⟩) (c - p) dc, .slice (some ⟨g, p * 3, none⟩) (c - p) sc]).run Try.prog W1.drew = .ok (goInt ((c - p : Nat) : Int)) (W1.drew.setRow w.heap.size (c1.take ((p + 1) * 3) ++ cellsE encC (L.drop p) ++ c1.drop ((p + 1) * 3 + (cellsE encC (L.drop p)).length)).toArray) := fun ty dc sc =>
    run_copy_rowK W1.drew _ _ ty 68 i0 3 w.heap.size ((p + 1) * 3) (c - p) dc ⟨g, p * 3, none⟩ (c - p) sc c1.toArray 68 (cellsE encC (L.drop p)) (c - p) Try.underlying24 hi hz1 hg1 (by simp only [Nat.min_def]; split <;> omega) hLD hsrc2 (by rw [hLD, List.size_toArray, hl1]; omega) (cellsC_one _)
  have hfin : ∃ r', c1.take ((p + 1) * 3) ++ cellsE encC (L.drop p) ++ c1.drop ((p + 1) * 3 + (cellsE encC (L.drop p)).length) = cellsE encC (L.take p ++ x :: L.drop p) ++ r' := by
    obtain ⟨r', h⟩ := lay_grow (X := encC.cells x) (D := cellsE encC (L.drop p)) hc0 rfl (by rw [List.length_append, hLD]; simp only [Array.length_toList, zero_len]; omega)
    rw [hLA, show c0.take (p * 3) ++ encC.cells x ++ c0.drop (p * 3 + 3) = c1 from hc1.symm, show p * 3 + 3 = (p + 1) * 3 by omega] at h
    exact ⟨r', by rw [cells_ins, ← h]⟩
  obtain ⟨r', hfin⟩ := hfin
  obtain ⟨W2, hW2⟩ : ∃ W2, W2 = W1.drew.setRow w.heap.size (c1.take ((p + 1) * 3) ++ cellsE encC (L.drop p) ++ c1.drop ((p + 1) * 3 + (cellsE encC (L.drop p)).length)).toArray := ⟨_, rfl⟩
  have HOWN : Hid (W2.ownsRow M 68 3 (.slice (some ⟨w.heap.size, 0, none⟩) (c + 1) G) (c + 1) (cellsE encC (L.take p ++ x :: L.drop p))) := Lib.hid (own_whole hM (by rw [hW2]; exact setRow_heap W1.drew _ _ _ _ _ hg1) (by simp; omega) hGge hGm (by
      rw [List.length_append, List.length_append, List.length_take, List.length_drop, hl1, hLD]; omega) hfin)
  have HGR : Hid (w.grownBy W2 (some g)) := Lib.hid ⟨by rw [hW2, hW1]; exact hb0.os, by rw [hW2, hW1]; exact hb0.tape, by rw [hW2, hW1]; exact hb0.output, by rw [hW2, hW1]; have := hb0.size; simpa using this, fun k hk _ => by
    rw [hW2, setRow_other _ _ _ _ (by omega)]
    show W1.heap[k]? = _
    rw [hW1, setRow_other _ _ _ _ (by omega)]
    exact hb0.block k hk⟩
  rw [← hW2] at hcp2
  have hk39 : ((c + 1 - p : Nat) : Int) = (c : Int) + 1 - (p : Int) := by omega
  rw [hk39] at hgrow
  have HA := Lib.hid hgrow
  have HC1 := Lib.hid hcp1
  have HC2 := Lib.hid hcp2
  clear hk39
  have hpp : p + (c + 1 - p) = c + 1 := by omega
  rw [hpp] at HA
  have h2 : ¬ (G = p + 1) := by omega
  have h3 : ¬ (c = p) := by omega
  have h3b : ¬ (G = p) := by omega
  have h4 : ¬ ((p : Int) = (c : Int)) := by omega
  unfold maxLen at hcm
  unfold maxLen at hGm
  clear hown hv hg hcur hcur2 hold hfit hgrow hG hc0 hc0a hl0 hW0 hg0 hb0 hv0 hcp1 hc1 hl1 hW1 hg1 hgg hsrc2 hcp2 hfin hW2 hL hLA hLD hrl hcs hr0 hpp
  go_enter Try.func80, Try.ntmps80
  have hw1 : IntKind.i64.wrap ((p : Int) + 1) = (p : Int) + 1 := IntWalk.i64_in _ (by omega)
  have hn1 : ((p : Int) + 1).toNat = p + 1 := by omega
  have hb4 : p ≤ c := by omega
  have hb5 : p ≤ c + 1 := by omega
  have hb6 : 0 ≤ (p : Int) + 1 := by omega
  have e1 := HC1.out 3 (G - p)
  go_wp2_with (at_builtin; refine Lib.wpList_append_run _ rfl _ _ _ _ rfl _ _ rfl rfl _ _ (HA.out _) ?_)
  go_still_tail 8, (by kernel_rfl)
  change wpList _ _ _ _ _ W1.drew
  refine wpList_copyK rfl _ _ _ _ rfl _ _ _ _ rfl rfl (HC2.out _ _ _) ?_
  go_wp2
  go_ret
  exact ⟨_, rfl, HOWN.out, HGR.out, .inr rfl⟩

/-- Whatever the room. -/
theorem insert_any (M : Nat) (a : Option Addr) (n c p vb : Nat) (L : List C3) (x : C3) (w : World) (hown : w.ownsRow M 68 3 (.slice a n c) n (cellsE encC L)) (hM : M ≤ w.heap.size) (hn : n ≤ 1048600) (hp : p ≤ n)
    (hv : w.heap[vb]? = some (.cells #[.int .i64 x.l, .string x.t, .bool x.f] 68 (0, 0))) (hne : ∀ q, a = some q → vb ≠ q.block) :
    Calls Try.prog 80 #[.slice a n c, .int .i64 p, .slice (some ⟨vb, 0, none⟩) 1 1] w (InsPost M (.slice a n c) n p L x w) := by
  by_cases h : p = n
  · subst h; exact ins_end M a p c vb L x w hown hM hn hv
  · obtain ⟨ad, cap, hve, hnc, hcm, hpl⟩ := ownE_form hown
    cases hve
    cases a with
    | none =>
      rcases hown.2 with ⟨_, h0⟩ | ⟨g', cap', cur, h', _⟩
      · omega
      · simp at h'
    | some q =>
      obtain ⟨g, rfl, _, _⟩ := hpl _ rfl
      by_cases hr : n + 1 ≤ c
      · exact ins_shift M g n c p vb L x w hown hn (by omega) hr hv (hne _ rfl)
      · exact ins_grow M g n c p vb L x w hown hM hn (by omega) (by omega) hv
end Go.Proofs.Ytlemlgadjapamaa
