/- The model's l10Store and StoreWord. -/
import Derived.Test.YtlemlgadjapamaaStoreI
namespace Go.Proofs.Ytlemlgadjapamaa
open Go.RowKit Go.Proofs.Ytlemlgadjapamaa.Parts Go.Proofs.Ytlemlgadjapamaa.Hexa

/-- What the model has laid so far. -/
def LaidTo (l : Int) (X : C3) (L : List C3) (k : Nat) (lv : Bool) (P : List C3) : Prop :=
  (lv = false ∧ P = L.take k ∧ ∀ j, j < k → (L.getD j default).l < l) ∨ (lv = true ∧ P = insL l X (L.take k) ∧ ∃ j, j < k ∧ ¬ (L.getD j default).l < l)
theorem laid_zero (l : Int) (X : C3) (L : List C3) : LaidTo l X L 0 false [] := .inl ⟨rfl, rfl, fun j hj => by omega⟩
theorem take_all_lt {L : List C3} {k : Nat} {l : Int} (hk : k ≤ L.length) (h : ∀ j, j < k → (L.getD j default).l < l) : ∀ c ∈ L.take k, c.l < l := fun c hc => by
  obtain ⟨j, hj, e⟩ := getD_mem hc
  have hjk : j < k := by rw [List.length_take] at hj; omega
  rw [← e, getD_take hjk]; exact h j hjk
theorem laid_lt {l : Int} {X : C3} {L : List C3} {k : Nat} {P : List C3} (hk : k < L.length) (h : LaidTo l X L k false P) (hx : (L.getD k default).l < l) : LaidTo l X L (k + 1) false (P ++ [L.getD k default]) := by
  rcases h with ⟨_, hP, hl⟩ | ⟨h, _⟩
  · refine .inl ⟨rfl, by rw [take_succ hk, hP], fun j hj => ?_⟩
    by_cases e : j = k
    · subst e; exact hx
    · exact hl j (by omega)
  · cases h
theorem laid_new {l : Int} {X : C3} {L : List C3} {k : Nat} {P : List C3} (hk : k < L.length) (h : LaidTo l X L k false P) (hx : ¬ (L.getD k default).l < l) : LaidTo l X L (k + 1) true (P ++ [X] ++ [L.getD k default].filter fun c => !decide (c.l = l)) := by
  rcases h with ⟨_, hP, hl⟩ | ⟨h, _⟩
  · refine .inr ⟨rfl, ?_, k, by omega, hx⟩
    rw [take_succ hk, insL_ge l X (L.take k) (L.getD k default) [] (take_all_lt (by omega) hl) hx, hP, List.append_assoc]
    rfl
  · cases h
theorem laid_old {l : Int} {X : C3} {L : List C3} {k : Nat} {P : List C3} (hk : k < L.length) (h : LaidTo l X L k true P) : LaidTo l X L (k + 1) true (P ++ [L.getD k default].filter fun c => !decide (c.l = l)) := by
  rcases h with ⟨h, _⟩ | ⟨_, hP, j, hj, hn⟩
  · cases h
  · refine .inr ⟨rfl, ?_, j, by omega, hn⟩
    rw [take_succ hk, insL_snoc l X (L.getD k default) (L.take k) ⟨(L.take k).getD j default, ?_, by rw [getD_take hj]; exact hn⟩, hP]
    have hjl : j < (L.take k).length := by rw [List.length_take]; omega
    simp only [List.getD, List.getElem?_eq_getElem hjl, Option.getD_some]
    exact List.getElem_mem hjl
theorem laid_end_true {l : Int} {X : C3} {L : List C3} {P : List C3} (h : LaidTo l X L L.length true P) : P = insL l X L := by
  rcases h with ⟨h, _⟩ | ⟨_, hP, _⟩
  · cases h
  · rw [hP, List.take_length]
theorem laid_end_false {l : Int} {X : C3} {L : List C3} {P : List C3} (h : LaidTo l X L L.length false P) : P ++ [X] = insL l X L := by
  rcases h with ⟨_, hP, hl⟩ | ⟨h, _⟩
  · rw [hP, List.take_length]
    refine (insL_lt l X L (fun c hc => ?_)).symm
    obtain ⟨j, hj, e⟩ := getD_mem hc
    rw [← e]; exact hl j hj
  · cases h
theorem filter_keep {c : C3} {l : Int} (h : ¬ c.l = l) : ([c].filter fun c => !decide (c.l = l)) = [c] := by simp [h]
theorem filter_drop {c : C3} {l : Int} (h : c.l = l) : ([c].filter fun c => !decide (c.l = l)) = [] := by simp [h]
/-- An element's block, as a slice of one. -/
theorem src_lit (w : World) (l : Int) (t : ByteArray) (f : Bool) : SrcC (w.alloc (.cells #[.int .i64 l, .string t, .bool f] 68)) (some ⟨w.heap.size, 0, none⟩) 1 [⟨l, t, f⟩] := by
  have h := World.ownsRow_lit (base := 0) (e := 68) (size := 3) w #[.int .i64 l, .string t, .bool f] 1 (Nat.zero_le _) (by decide) rfl
  have e : (#[.int .i64 l, .string t, .bool f] : Array Value).toList = cellsE encC [⟨l, t, f⟩] := by rw [cellsE_one, encC_cells]
  rw [e] at h
  exact srcC_of_own h

/-- What an append of one element to the cells of a memory that the call owns gives. -/
theorem box_app {w : World} {bo : Nat} {K : ByteArray} {a : Option Addr} {p c : Nat} {P : List C3} (hB : BoxM w bo bo K a p c P) (l : Int) (t : ByteArray) (f : Bool) (hp : p ≤ 3000000) :
    AppE Try.prog #[24, 24] 24 #[.slice a p c, .slice (some ⟨w.heap.size, 0, none⟩) 1 1] (w.alloc (.cells #[.int .i64 l, .string t, .bool f] 68)) bo 68 3 (p + 1) (cellsE encC (P ++ [⟨l, t, f⟩])) (.slice a p c) :=
  appC _ 24 bo (.slice a p c) p P (own_below hB.own (below_alloc _ _)) (by have := hB.two.lt; simp; omega) (some ⟨w.heap.size, 0, none⟩) 1 1 [⟨l, t, f⟩] (src_lit w l t f) (by omega)
/-- .. and behind it, before the cells are stored. -/
structure AppBox (bo : Nat) (K : ByteArray) (a : Option Addr) (p c : Nat) (P : List C3) (w : World) (a2 : Option Addr) (c2 : Nat) (Q : List C3) (w2 : World) : Prop where
  two : Two w2 bo (.string K) (.slice a p c) 26
  box : BoxM (w2.setCell ⟨bo, 1, none⟩ (.slice a2 (p + 1) c2)) bo bo K a2 (p + 1) c2 Q
  below : Below bo w w2
theorem app_box {w : World} {bo : Nat} {K : ByteArray} {a : Option Addr} {p c : Nat} {P : List C3} (hB : BoxM w bo bo K a p c P) (l : Int) (t : ByteArray) (f : Bool) {v2 : Value} {w2 : World} {Q : List C3}
    (ho : w2.ownsRow bo 68 3 v2 (p + 1) (cellsE encC Q)) (hg : (w.alloc (.cells #[.int .i64 l, .string t, .bool f] 68)).grownBy w2 (Value.slice a p c).ownBlock) (ha : v2.ownBlock = (Value.slice a p c).ownBlock ∨ v2.ownBlock = some (w.alloc (.cells #[.int .i64 l, .string t, .bool f] 68)).heap.size) :
    ∃ a2 c2, v2 = .slice a2 (p + 1) c2 ∧ AppBox bo K a p c P w a2 c2 Q w2 := by
  obtain ⟨a2, c2, rfl, _, _, _⟩ := ownE_form ho
  have hB4 := hB.later (below_alloc w (.cells #[.int .i64 l, .string t, .bool f] 68))
  have T2 : Two w2 bo (.string K) (.slice a p c) 26 := (hg.block _ hB4.two.lt (fun e => by
    cases a with
    | none => simp [Value.ownBlock] at e
    | some q => exact hB.ne q rfl (by simpa [Value.ownBlock] using e.symm))).trans hB4.two
  refine ⟨a2, c2, rfl, T2, BoxM.set1 T2 ho (Nat.le_refl _) (fun q hq e => ?_), ?_⟩
  · rcases ha with h | h
    · rw [hq] at h
      have h' : (Value.slice a p c).ownBlock = some q.block := h.symm
      cases a with
      | none => simp [Value.ownBlock] at h'
      | some r => exact hB.ne r rfl (by rw [← e]; simpa [Value.ownBlock] using h')
    · rw [hq] at h
      have h' : q.block = (w.alloc (.cells #[.int .i64 l, .string t, .bool f] 68)).heap.size := by simpa [Value.ownBlock] using h
      have h3 := hB4.two.lt
      omega
  · exact (((below_alloc w _).mono (Nat.le_of_lt hB.two.lt)).grown hg (Nat.le_of_lt hB4.two.lt) (fun q hq => (hB4.own.lt q hq).1))

set_option maxRecDepth 100000 in
set_option maxHeartbeats 4000000 in
theorem l10Store_any (K : ByteArray) (a : Option Addr) (n c : Nat) (L : List C3) (m : Nat) (x : ByteArray) (w : World) (hs : SrcC w a n L) (hn : n ≤ 1048600) (hok : MemOk K L) (hm : m < K.size / 8) (hx : x.size = 8) :
    Calls Try.prog 54 #[.agg #[.string K, .slice a n c], .int .i64 m, .string x] w (GivesM K (storeL K L m x) w) := by
  have hk1 := hok.1
  have hk2 := hok.2.1
  have hl : m / 2 < K.size / 16 := by omega
  have hTs := lineT_size hok hl
  have HPC : Hid (putC K L m x = ⟨((m / 2 : Nat) : Int), putT (lineT K L (m / 2)) (m % 2 * 8) x, false⟩) := Lib.hid rfl
  have HST : Hid (storeL K L m x = insL ((m / 2 : Nat) : Int) (putC K L m x) L) := Lib.hid rfl
  have h8 : m % 2 * 8 ≤ 8 := by omega
  have hline := Lib.hid fun (w : World) (hs : SrcC w a n L) => specLine_any K a n c L (m / 2) w hs hn hok hl
  obtain ⟨T, hT⟩ : ∃ T, lineT K L (m / 2) = T := ⟨_, rfl⟩
  obtain ⟨s0, hs0⟩ : ∃ s0, m % 2 * 8 = s0 := ⟨_, rfl⟩
  obtain ⟨ln, hln⟩ : ∃ ln, m / 2 = ln := ⟨_, rfl⟩
  have hdiv : (m : Int) / 2 = (ln : Int) := by omega
  have hmod : (m : Int) % 2 * 8 = (s0 : Int) := by omega
  rw [hln] at hT
  rw [hln, hT] at hTs
  rw [hs0] at h8
  rw [hln, hT] at hline
  rw [hln, hT, hs0] at HPC
  rw [hln, HPC.out] at HST
  have hm2 : m ≤ 1048600 := by omega
  have HPT : Hid (putT T s0 x = T.extract 0 s0 ++ x ++ T.extract (s0 + 8) 16) := Lib.hid (by unfold putT; rw [hTs])
  rw [HPT.out] at HST
  have HF : FitT L 1048600 := fun j hj => by rw [(hok.2.2 j hj).2.2.1]; decide
  have hF := HF
  clear hk1 hl hT hs0 hln hm HPC HPT HF
  have HS := Lib.hid hs
  have HL := Lib.hid hs.len
  have HF := Lib.hid hF
  have hb0 : Below w.heap.size w ((w.alloc (.cells #[.string K, .slice a n c] 26)).alloc (.cells #[.string ⟨#[]⟩, .slice none 0 0] 26)) := ((Below.refl _ _).alloc (Nat.le_refl _) _).alloc (by simp) _
  have k0 : Two ((w.alloc (.cells #[.string K, .slice a n c] 26)).alloc (.cells #[.string ⟨#[]⟩, .slice none 0 0] 26)) w.heap.size (.string K) (.slice a n c) 26 := (Two.alloc w _ _ _).later (below_alloc _ _)
  have k1 : Two ((w.alloc (.cells #[.string K, .slice a n c] 26)).alloc (.cells #[.string ⟨#[]⟩, .slice none 0 0] 26)) (w.heap.size + 1) (.string ⟨#[]⟩) (.slice none 0 0) 26 := by
    have h := Two.alloc (w.alloc (.cells #[.string K, .slice a n c] 26)) (.string ⟨#[]⟩) (.slice none 0 0) 26
    simpa using h
  have k3 : ((w.alloc (.cells #[.string K, .slice a n c] 26)).alloc (.cells #[.string ⟨#[]⟩, .slice none 0 0] 26)).heap.size = w.heap.size + 2 := by simp
  have K0 := Lib.hid k0
  have K1 := Lib.hid k1
  have K3 := Lib.hid k3
  have B0 := Lib.hid hb0
  clear hs hF hb0 k0 k1 k3
  clear HF
  go_enter Try.func54, Try.ntmps54
  go_wp2_with fail
  obtain ⟨W2, hW⟩ : ∃ x, x = (w.alloc (.cells #[.string K, .slice a n c] 26)).alloc (.cells #[.string ⟨#[]⟩, .slice none 0 0] 26) := ⟨_, rfl⟩
  rw [← hW] at K0 K1 K3 B0 ⊢
  clear hW
  refine (hline.out W2 (HS.out.later B0.out)).mono ?_
  rintro e w1 ⟨rfl, hb1⟩
  have T1 := Lib.hid (K0.out.later hb1)
  have R1 := Lib.hid (K1.out.later hb1)
  have B1 : Hid (Below w.heap.size w w1) := Lib.hid (B0.out.trans (hb1.mono B0.out.size))
  have S1 : Hid (w.heap.size + 2 ≤ w1.heap.size) := Lib.hid (by have := hb1.size; rw [K3.out] at this; exact this)
  clear hb1 K0 K1
  have hb8 : (s0 : Int) + 8 ≤ 16 := by omega
  have hb9 : (s0 : Int) ≤ 16 := by omega
  have hb7 : 0 ≤ (s0 : Int) + 8 := by omega
  have hb6 : s0 ≤ 16 := by omega
  have hb5 : s0 + 8 ≤ 16 := by omega
  have hc1 : ¬ (9223372036854775807 < s0 + 8) := by omega
  have hc2 : ¬ (9223372036854775807 < s0 + 8 + (8 - s0)) := by omega
  have hwr8 : IntKind.i64.wrap ((s0 : Int) + 8) = (s0 : Int) + 8 := IntWalk.i64_in _ (by omega)
  have hn8 : ((s0 : Int) + 8).toNat = s0 + 8 := by omega
  have z0 : (w1.alloc (.cells #[.int .i64 ln, .string (T.extract 0 s0 ++ x ++ T.extract (s0 + 8) 16), .bool false] 68)).cell? ⟨w.heap.size, 0, none⟩ = some (.string K) := (T1.out.later (below_alloc _ _)).c0
  obtain ⟨W5, hW5⟩ : ∃ W5, W5 = (w1.alloc (.cells #[.int .i64 ln, .string (T.extract 0 s0 ++ x ++ T.extract (s0 + 8) 16), .bool false] 68)).alloc (.cells #[.string K, .slice none 0 0] 26) := ⟨_, rfl⟩
  have hb15 : Below w1.heap.size w1 W5 := by rw [hW5]; exact (below_alloc _ _).trans ((below_alloc _ _).mono (below_alloc w1 (.cells #[.int .i64 ln, .string (T.extract 0 s0 ++ x ++ T.extract (s0 + 8) 16), .bool false] 68)).size)
  have T5 := Lib.hid (T1.out.later hb15)
  have R5 := Lib.hid (R1.out.later hb15)
  have X5 : Hid (W5.heap[w1.heap.size]? = some (.cells #[.int .i64 ln, .string (T.extract 0 s0 ++ x ++ T.extract (s0 + 8) 16), .bool false] 68 (0, 0))) := Lib.hid (by rw [hW5, Below.heap_alloc _ _ _ (by simp)]; exact heap_alloc_new w1 _)
  have O5 : Hid (BoxM W5 (w1.heap.size + 1) (w1.heap.size + 1) K none 0 0 []) := Lib.hid ⟨by
      rw [hW5]
      have h := Two.alloc (w1.alloc (.cells #[.int .i64 ln, .string (T.extract 0 s0 ++ x ++ T.extract (s0 + 8) 16), .bool false] 68)) (.string K) (.slice none 0 0) 26
      have hsz : (w1.alloc (.cells #[.int .i64 ln, .string (T.extract 0 s0 ++ x ++ T.extract (s0 + 8) 16), .bool false] 68)).heap.size = w1.heap.size + 1 := by simp
      rw [hsz] at h; exact h, nilC _ _, Nat.le_refl _, fun p hp => by cases hp⟩
  have B5 : Hid (Below w.heap.size w W5) := Lib.hid (B1.out.trans (hb15.mono B1.out.size))
  have HW5 := Lib.hid hW5
  clear hb15 hW5
  go_wp2
  go_region_with (fail)
  go_wp2
  obtain ⟨SX, hSX⟩ : ∃ SX, T.extract 0 s0 ++ x ++ T.extract (s0 + 8) 16 = SX := ⟨_, rfl⟩
  rw [hSX] at X5 HST HW5
  have HSX := Lib.hid hSX
  clear z0 hb8 hb9 hb7 hb6 hb5 hc1 hc2 hwr8 hn8 hTs hx hdiv hmod h8 hSX
  go_loopw [12, 13] (fun bv iv wr => ∃ (k p : Nat) (lv : Bool) (P : List C3) (a' : Option Addr) (c' : Nat), k ≤ n ∧ iv = .int .i64 k ∧ bv = .bool lv ∧ p ≤ 2 * k + 1 ∧ Hid (LaidTo ln ⟨(ln : Int), SX, false⟩ L k lv P) ∧ Hid (BoxM wr (w1.heap.size + 1) (w1.heap.size + 1) K a' p c' P) ∧ Hid (Below (w1.heap.size + 1) W5 wr)) (fun _ iv _ => n - (intOf iv).toNat)
  case atStart => exact ⟨0, 0, false, [], none, 0, Nat.zero_le _, rfl, rfl, by omega, Lib.hid (laid_zero _ _ _), Lib.hid (by rw [HSX.out, ← HW5.out]; exact ⟨O5.out.two, O5.out.own, O5.out.low, O5.out.ne⟩), Lib.hid (by rw [HSX.out, ← HW5.out]; exact (Below.refl _ _).drew)⟩
  case round =>
    clear O5
    obtain ⟨k, p, lv, P, a', c', hk, rfl, rfl, hpk, HLD, BX, WB⟩ := hrel
    have BW : Hid (Below w.heap.size w wr) := Lib.hid (B5.out.trans (WB.out.mono (by have := B1.out.size; omega)))
    have Tr : Hid (Two wr w.heap.size (.string K) (.slice a n c) 26) := Lib.hid ((WB.out.block _ (by have := T1.out.lt; omega)).trans T5.out)
    have Rr : Hid (Two wr (w.heap.size + 1) (.string ⟨#[]⟩) (.slice none 0 0) 26) := Lib.hid ((WB.out.block _ (by have := R1.out.lt; omega)).trans R5.out)
    have Xr : Hid (wr.heap[w1.heap.size]? = some (.cells #[.int .i64 ln, .string SX, .bool false] 68 (0, 0))) := Lib.hid ((WB.out.block _ (by omega)).trans X5.out)
    have y0 : wr.cell? ⟨w1.heap.size, 0, none⟩ = some (.int .i64 ln) := by simp [World.cell?, Xr.out]
    have y1 : wr.cell? ⟨w1.heap.size, 1, none⟩ = some (.string SX) := by simp [World.cell?, Xr.out]
    have y2 : wr.cell? ⟨w1.heap.size, 2, none⟩ = some (.bool false) := by simp [World.cell?, Xr.out]
    have z1 := Tr.out.c1
    have x1 := BX.out.two.c1
    have HX := Lib.hid (box_app BX.out (ln : Int) SX false (by omega))
    by_cases hlt : k < n
    · have hkl : Hid (k < L.length) := Lib.hid (by rw [HL.out]; exact hlt)
      obtain ⟨g, off, rfl, hg, d1, d2, d3⟩ := HS.out.cells3_at BW.out (Nat.le_refl _) k hlt
      obtain ⟨x9, hx9⟩ : ∃ x9, L.getD k default = x9 := ⟨_, rfl⟩
      rw [hx9] at d1 d2 d3
      have HX9 := Lib.hid hx9
      clear hx9
      cases lv with
      | false =>
        by_cases hl : x9.l < (ln : Int)
        · have hge : ¬ ((ln : Int) ≤ x9.l) := by omega
          have hne : (x9.l != (ln : Int)) = true := by have : ¬ (x9.l = (ln : Int)) := by omega
                                                       simpa using this
          have HLT := Lib.hid hl
          clear hl
          have HA := Lib.hid (box_app (w := wr.drew) (bo := w1.heap.size + 1) ⟨BX.out.two, BX.out.own, BX.out.low, BX.out.ne⟩ x9.l x9.t x9.f (by omega))
          have x1' : (wr.alloc (.cells #[.int .i64 x9.l, .string x9.t, .bool x9.f] 68)).cell? ⟨w1.heap.size + 1, 1, none⟩ = some (.slice a' p c') := (BX.out.two.later (below_alloc _ _)).c1
          go_wp2
          go_region_law (first
            | (refine step_appE rfl (.tmp 71) (.tmp 77) 24 24 rfl (.slice a' p c') (.slice (some ⟨wr.heap.size, 0, none⟩) 1 1) (by simp [Act.eval]) (by simp [Act.eval]) HA.out ?_
               intro v8 w8 hown8 hgrow8 hat8
               obtain ⟨a8, c8, rfl, hAB8⟩ := app_box (w := wr.drew) ⟨BX.out.two, BX.out.own, BX.out.low, BX.out.ne⟩ _ _ _ hown8 hgrow8 hat8
               have AB8 := Lib.hid hAB8
               have y18 := AB8.out.two.c1
               have y28 := AB8.out.two.fr (o := 1)
               clear hown8 hgrow8 hat8 hAB8))
          all_goals
            have W6 : Hid (Below (w1.heap.size + 1) W5 (w8.setCell ⟨w1.heap.size + 1, 1, none⟩ (.slice a8 (p + 1) c8))) := Lib.hid (((WB.out.drew).trans AB8.out.below).setCell (Nat.le_refl _) _)
            have BX6 := Lib.hid AB8.out.box
            clear HA x1'
            go_wp2
            go_roundw
            case rel => exact ⟨k + 1, p + 1, false, _, a8, c8, by omega, by go_num, rfl, by omega, Lib.hid (by have h := laid_lt hkl.out HLD.out (by rw [HX9.out]; exact HLT.out); rw [HX9.out] at h; exact h), BX6, W6⟩
            case measure => (simp [intOf]; try omega)
        · have hge : (ln : Int) ≤ x9.l := by omega
          have HGE : Hid (¬ x9.l < (ln : Int)) := Lib.hid hl
          clear hl
          by_cases he : x9.l = (ln : Int)
          · have hne : (x9.l != (ln : Int)) = false := by simpa using he
            have HEQ := Lib.hid he
            clear he
            have D1 := Lib.hid ((BW.out.cell (p := ⟨g, off + k * 3, none⟩) hg).symm.trans d1)
            have D2 := Lib.hid ((BW.out.cell (p := ⟨g, off + k * 3 + 1, none⟩) hg).symm.trans d2)
            have D3 := Lib.hid ((BW.out.cell (p := ⟨g, off + k * 3 + 2, none⟩) hg).symm.trans d3)
            go_wp2_with (at_builtin; refine wpList_appE rfl _ _ _ _ rfl _ _ rfl rfl HX.out ?_; intro v2 w2 hown2 hgrow2 hat2; obtain ⟨a3, c3, rfl, hAB⟩ := app_box BX.out (ln : Int) SX false hown2 hgrow2 hat2; have AB := Lib.hid hAB; have y18 := AB.out.two.c1; have y28 := AB.out.two.fr (o := 1); have BX3 := Lib.hid AB.out.box; have WB3 : Hid (Below (w1.heap.size + 1) W5 (w2.setCell ⟨w1.heap.size + 1, 1, none⟩ (.slice a3 (p + 1) c3))) := Lib.hid ((WB.out.trans AB.out.below).setCell (Nat.le_refl _) _); have BWx : Hid (Below w.heap.size w (w2.setCell ⟨w1.heap.size + 1, 1, none⟩ (.slice a3 (p + 1) c3))) := Lib.hid (B5.out.trans (WB3.out.mono (by have := B1.out.size; omega))); have d1'' := (BWx.out.cell (p := ⟨g, off + k * 3, none⟩) hg).trans D1.out; have d2'' := (BWx.out.cell (p := ⟨g, off + k * 3 + 1, none⟩) hg).trans D2.out; have d3'' := (BWx.out.cell (p := ⟨g, off + k * 3 + 2, none⟩) hg).trans D3.out; have z1'' : (w2.setCell ⟨w1.heap.size + 1, 1, none⟩ (.slice a3 (p + 1) c3)).cell? ⟨w.heap.size, 1, none⟩ = some (.slice (some ⟨g, off, none⟩) n c) := Two.c1 ((WB3.out.block _ (by have := T1.out.lt; omega)).trans T5.out); clear hown2 hgrow2 hat2 hAB d1 d2 d3 z1 x1 y0 y1 y2)
            go_roundw
            case rel => exact ⟨k + 1, p + 1, true, _, a3, c3, by omega, by go_num, rfl, by omega, Lib.hid (by
              have h := laid_new hkl.out HLD.out (by rw [HX9.out]; have := HGE.out; omega)
              rw [HX9.out, filter_drop HEQ.out, List.append_nil] at h
              exact h), BX3, WB3⟩
            case measure => (simp [intOf]; try omega)
          · have hne : (x9.l != (ln : Int)) = true := by simpa using he
            have HEQ := Lib.hid he
            clear he
            have D1 := Lib.hid ((BW.out.cell (p := ⟨g, off + k * 3, none⟩) hg).symm.trans d1)
            have D2 := Lib.hid ((BW.out.cell (p := ⟨g, off + k * 3 + 1, none⟩) hg).symm.trans d2)
            have D3 := Lib.hid ((BW.out.cell (p := ⟨g, off + k * 3 + 2, none⟩) hg).symm.trans d3)
            go_wp2_with (at_builtin; refine wpList_appE rfl _ _ _ _ rfl _ _ rfl rfl HX.out ?_; intro v2 w2 hown2 hgrow2 hat2; obtain ⟨a3, c3, rfl, hAB⟩ := app_box BX.out (ln : Int) SX false hown2 hgrow2 hat2; have AB := Lib.hid hAB; have y18 := AB.out.two.c1; have y28 := AB.out.two.fr (o := 1); have BX3 := Lib.hid AB.out.box; have WB3 : Hid (Below (w1.heap.size + 1) W5 (w2.setCell ⟨w1.heap.size + 1, 1, none⟩ (.slice a3 (p + 1) c3))) := Lib.hid ((WB.out.trans AB.out.below).setCell (Nat.le_refl _) _); have BWx : Hid (Below w.heap.size w (w2.setCell ⟨w1.heap.size + 1, 1, none⟩ (.slice a3 (p + 1) c3))) := Lib.hid (B5.out.trans (WB3.out.mono (by have := B1.out.size; omega))); have d1'' := (BWx.out.cell (p := ⟨g, off + k * 3, none⟩) hg).trans D1.out; have d2'' := (BWx.out.cell (p := ⟨g, off + k * 3 + 1, none⟩) hg).trans D2.out; have d3'' := (BWx.out.cell (p := ⟨g, off + k * 3 + 2, none⟩) hg).trans D3.out; have z1'' : (w2.setCell ⟨w1.heap.size + 1, 1, none⟩ (.slice a3 (p + 1) c3)).cell? ⟨w.heap.size, 1, none⟩ = some (.slice (some ⟨g, off, none⟩) n c) := Two.c1 ((WB3.out.block _ (by have := T1.out.lt; omega)).trans T5.out); clear hown2 hgrow2 hat2 hAB d1 d2 d3 z1 x1 y0 y1 y2)
            clear d1'' d2'' d3'' z1''
            obtain ⟨w4, hw4⟩ : ∃ w4, w4 = w2.setCell ⟨w1.heap.size + 1, 1, none⟩ (.slice a3 (p + 1) c3) := ⟨_, rfl⟩
            rw [← hw4] at BX3 WB3 ⊢
            clear hw4 y18 y28
            have BW3 : Hid (Below w.heap.size w w4) := Lib.hid (B5.out.trans (WB3.out.mono (by have := B1.out.size; omega)))
            have e1 := (BW3.out.cell (p := ⟨g, off + k * 3, none⟩) hg).trans D1.out
            have e2 := (BW3.out.cell (p := ⟨g, off + k * 3 + 1, none⟩) hg).trans D2.out
            have e3 := (BW3.out.cell (p := ⟨g, off + k * 3 + 2, none⟩) hg).trans D3.out
            have z4 : w4.cell? ⟨w.heap.size, 1, none⟩ = some (.slice (some ⟨g, off, none⟩) n c) := Two.c1 ((WB3.out.block _ (by have := T1.out.lt; omega)).trans T5.out)
            have x4 := BX3.out.two.c1
            have HA := Lib.hid (box_app (w := w4.drew) (bo := w1.heap.size + 1) ⟨BX3.out.two, BX3.out.own, BX3.out.low, BX3.out.ne⟩ x9.l x9.t x9.f (by omega))
            have x1' : (w4.alloc (.cells #[.int .i64 x9.l, .string x9.t, .bool x9.f] 68)).cell? ⟨w1.heap.size + 1, 1, none⟩ = some (.slice a3 (p + 1) c3) := (BX3.out.two.later (below_alloc _ _)).c1
            go_wp2
            go_region_law (first
              | (refine step_appE rfl (.tmp 71) (.tmp 77) 24 24 rfl (.slice a3 (p + 1) c3) (.slice (some ⟨w4.heap.size, 0, none⟩) 1 1) (by simp [Act.eval]) (by simp [Act.eval]) HA.out ?_
                 intro v8 w8 hown8 hgrow8 hat8
                 obtain ⟨a8, c8, rfl, hAB8⟩ := app_box (w := w4.drew) ⟨BX3.out.two, BX3.out.own, BX3.out.low, BX3.out.ne⟩ _ _ _ hown8 hgrow8 hat8
                 have AB8 := Lib.hid hAB8
                 have y18 := AB8.out.two.c1
                 have y28 := AB8.out.two.fr (o := 1)
                 clear hown8 hgrow8 hat8 hAB8))
            all_goals
              have W6 : Hid (Below (w1.heap.size + 1) W5 (w8.setCell ⟨w1.heap.size + 1, 1, none⟩ (.slice a8 ((p + 1) + 1) c8))) := Lib.hid (((WB3.out.drew).trans AB8.out.below).setCell (Nat.le_refl _) _)
              have BX6 := Lib.hid AB8.out.box
              clear HA x1'
              go_wp2
              go_roundw
              case rel => exact ⟨k + 1, (p + 1) + 1, true, _, a8, c8, by omega, by go_num, rfl, by omega, Lib.hid (by have h := laid_new hkl.out HLD.out (by rw [HX9.out]; have := HGE.out; omega); rw [HX9.out, filter_keep HEQ.out] at h; exact h), BX6, W6⟩
              case measure => (simp [intOf]; try omega)
      | true =>
        by_cases he : x9.l = (ln : Int)
        · have hne : (x9.l != (ln : Int)) = false := by simpa using he
          have HEQ := Lib.hid he
          clear he
          go_wp2
          go_roundw
          case rel => exact ⟨k + 1, p, true, _, a', c', by omega, by go_num, rfl, by omega, Lib.hid (by
            have h := laid_old hkl.out HLD.out
            rw [HX9.out, filter_drop HEQ.out, List.append_nil] at h
            exact h), BX, WB⟩
          case measure => (simp [intOf]; try omega)
        · have hne : (x9.l != (ln : Int)) = true := by simpa using he
          have HEQ := Lib.hid he
          clear he
          have HA := Lib.hid (box_app (w := wr.drew) (bo := w1.heap.size + 1) ⟨BX.out.two, BX.out.own, BX.out.low, BX.out.ne⟩ x9.l x9.t x9.f (by omega))
          have x1' : (wr.alloc (.cells #[.int .i64 x9.l, .string x9.t, .bool x9.f] 68)).cell? ⟨w1.heap.size + 1, 1, none⟩ = some (.slice a' p c') := (BX.out.two.later (below_alloc _ _)).c1
          go_wp2
          go_region_law (first
            | (refine step_appE rfl (.tmp 71) (.tmp 77) 24 24 rfl (.slice a' p c') (.slice (some ⟨wr.heap.size, 0, none⟩) 1 1) (by simp [Act.eval]) (by simp [Act.eval]) HA.out ?_
               intro v8 w8 hown8 hgrow8 hat8
               obtain ⟨a8, c8, rfl, hAB8⟩ := app_box (w := wr.drew) ⟨BX.out.two, BX.out.own, BX.out.low, BX.out.ne⟩ _ _ _ hown8 hgrow8 hat8
               have AB8 := Lib.hid hAB8
               have y18 := AB8.out.two.c1
               have y28 := AB8.out.two.fr (o := 1)
               clear hown8 hgrow8 hat8 hAB8))
          all_goals
            have W6 : Hid (Below (w1.heap.size + 1) W5 (w8.setCell ⟨w1.heap.size + 1, 1, none⟩ (.slice a8 (p + 1) c8))) := Lib.hid (((WB.out.drew).trans AB8.out.below).setCell (Nat.le_refl _) _)
            have BX6 := Lib.hid AB8.out.box
            clear HA x1'
            go_wp2
            go_roundw
            case rel => exact ⟨k + 1, p + 1, true, _, a8, c8, by omega, by go_num, rfl, by omega, Lib.hid (by have h := laid_old hkl.out HLD.out; rw [HX9.out, filter_keep HEQ.out] at h; exact h), BX6, W6⟩
            case measure => (simp [intOf]; try omega)
    · obtain rfl : k = n := by omega
      have hbH := S1.out
      cases lv with
      | true =>
        have HE : Hid (storeL K L m x = P) := Lib.hid (by rw [HST.out]; exact (laid_end_true (by rw [HL.out]; exact HLD.out)).symm)
        clear x1
        have c0 := BX.out.two.c0
        have c1 := BX.out.two.c1
        have r0 := Rr.out.c0
        have r1 := Rr.out.c1
        have f0 := Rr.out.fr (o := 0)
        have f1 := Rr.out.fr (o := 1)
        have q := two_set1 (two_set0 Rr.out (x := .string K)) (x := .slice a' p c')
        have q0 := cell0_of_two q
        have q1 := cell1_of_two q
        have HG := Lib.hid (gives_box (w := w) (b2 := w.heap.size + 1) (u := .string K) (v := .slice a' p c') BX.out (by omega) BW.out (by omega) (fun p hp => by
          obtain ⟨ad9, cap9, hv9, _, _, hpl9⟩ := ownE_form BX.out.own
          cases hv9
          obtain ⟨g9, e9, h9, _⟩ := hpl9 p hp
          rw [e9]; show g9 ≠ w.heap.size + 1; omega))
        clear q
        go_wp2
        refine bodyPost_ret (v := .agg #[.string K, .slice a' p c']) ?_ rfl ⟨_, rfl, by rw [HE.out]; exact HG.out.1, HG.out.2⟩
        simp [results, Try.results54, go_sem, q0, q1]

      | false =>
        have HE : Hid (storeL K L m x = P ++ [⟨(ln : Int), SX, false⟩]) := Lib.hid (by rw [HST.out]; exact (laid_end_false (by rw [HL.out]; exact HLD.out)).symm)
        go_wp2_with (at_builtin; refine wpList_appE rfl _ _ _ _ rfl _ _ rfl rfl HX.out ?_; intro v2 w2 hown2 hgrow2 hat2; obtain ⟨a3, c3, rfl, hAB⟩ := app_box BX.out (ln : Int) SX false hown2 hgrow2 hat2; have AB := Lib.hid hAB; have y18 := AB.out.two.c1; have y28 := AB.out.two.fr (o := 1); have BX3 := Lib.hid AB.out.box; have WB3 : Hid (Below (w1.heap.size + 1) W5 (w2.setCell ⟨w1.heap.size + 1, 1, none⟩ (.slice a3 (p + 1) c3))) := Lib.hid ((WB.out.trans AB.out.below).setCell (Nat.le_refl _) _); have BWx : Hid (Below w.heap.size w (w2.setCell ⟨w1.heap.size + 1, 1, none⟩ (.slice a3 (p + 1) c3))) := Lib.hid (B5.out.trans (WB3.out.mono (by have := B1.out.size; omega))); have Rx : Hid (Two (w2.setCell ⟨w1.heap.size + 1, 1, none⟩ (.slice a3 (p + 1) c3)) (w.heap.size + 1) (.string ⟨#[]⟩) (.slice none 0 0) 26) := Lib.hid ((WB3.out.block _ (by have := R1.out.lt; omega)).trans R5.out)
                     have c0 := BX3.out.two.c0
                     have c1 := BX3.out.two.c1
                     have r0 := Rx.out.c0
                     have r1 := Rx.out.c1
                     have f0 := Rx.out.fr (o := 0)
                     have f1 := Rx.out.fr (o := 1)
                     have q := two_set1 (two_set0 Rx.out (x := .string K)) (x := .slice a3 (p + 1) c3)
                     have q0 := cell0_of_two q
                     have q1 := cell1_of_two q
                     have HG := Lib.hid (gives_box (w := w) (b2 := w.heap.size + 1) (u := .string K) (v := .slice a3 (p + 1) c3) BX3.out (by omega) BWx.out (by omega) (fun p hp => by
                       obtain ⟨ad9, cap9, hv9, _, _, hpl9⟩ := ownE_form BX3.out.own
                       cases hv9
                       obtain ⟨g9, e9, h9, _⟩ := hpl9 p hp
                       rw [e9]; show g9 ≠ w.heap.size + 1; omega))
                     clear q
                     clear hown2 hgrow2 hat2 hAB)
        refine bodyPost_ret (v := .agg #[.string K, .slice a3 (p + 1) c3]) ?_ rfl ⟨_, rfl, by rw [HE.out]; exact HG.out.1, HG.out.2⟩
        simp [results, Try.results54, go_sem, q0, q1]

end Go.Proofs.Ytlemlgadjapamaa
