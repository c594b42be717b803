/- Merged texts: StorePtr, WordAtSpec, StoreI, StoreS. -/
import Derived.Test.YtpahihcnmpeenaaP10E
namespace Go.Proofs.Ytpahihcnmpeenaa
open Go.RowKit Go.Proofs.Ytpahihcnmpeenaa.Parts Go.Proofs.Ytpahihcnmpeenaa.Hexa

theorem sets_heap {g b : Nat} (hne : b ≠ g) : ∀ (vs : List Value) (o : Nat) (w : World), (w.setCells g o vs).heap[b]? = w.heap[b]?
  | [], _, _ => rfl
  | v :: r, o, w => (sets_heap hne r (o + 1) _).trans (Below.heap_setCell w ⟨g, o, none⟩ v b hne)
theorem BoxM.sets {w : World} {M b : Nat} {K : ByteArray} {g n c : Nat} {L : List C3} (h : BoxM w M b K (some ⟨g, 0, none⟩) n c L) (p : Nat) (x : C3) (hp : p < L.length) : BoxM (w.setCells g (p * 3) (encC.cells x)) M b K (some ⟨g, 0, none⟩) n c (L.set p x) :=
  ⟨(sets_heap (fun e => h.ne _ rfl e.symm) _ _ _).trans h.two, by rw [← cellsE_set encC L p x hp]; exact own_sets _ _ h.own, h.low, h.ne⟩
theorem BoxM.setNew {w : World} {M b : Nat} {K : ByteArray} {u : Value} {a : Option Addr} {n c : Nat} {L : List C3} (hT : Two w b (.string K) u 26) (ho : w.ownsRow M 68 3 (.slice a n c) n (cellsE encC L)) (hl : M ≤ b) (hne : ∀ p, a = some p → p.block ≠ b) : BoxM (w.setCell ⟨b, 1, none⟩ (.slice a n c)) M b K a n c L :=
  ⟨two_set1 hT, ownsRow_setCell_other ho (by
    cases a with
    | none => simp [Value.ownBlock]
    | some p => have := hne p rfl; simpa [Value.ownBlock] using this) _, hl, hne⟩

/-- What a store gives, behind the pointer. -/
def StorePost (M b : Nat) (K : ByteArray) (L : List C3) (m : Nat) (x : ByteArray) (w : World) (e : Ending) (w' : World) : Prop :=
  e = .returned (.tuple #[]) ∧ ∃ a' n' c', BoxM w' M b K a' n' c' (storeL K L m x) ∧ Below M w w'

set_option maxRecDepth 100000 in
set_option maxHeartbeats 2000000 in
theorem store_any (M b : Nat) (K : ByteArray) (a : Option Addr) (n c : Nat) (L : List C3) (m : Nat) (x : ByteArray) (w : World) (hB : BoxM w M b K a n c L) (hn : n ≤ 1048600) (hok : MemOk K L) (hm : m < K.size / 8) (hx : x.size = 8) :
    Calls Try.prog 50 #[.pointer (some ⟨b, 0, none⟩), .int .i64 m, .string x] w (StorePost M b K L m x w) := by
  have hk1 := hok.1
  have hk2 := hok.2.1
  have hl : m / 2 < K.size / 16 := by omega
  have hTs := lineT_size hok hl
  have hws := Lib.hid fun w => wordStart_any m (m : Int) w rfl (by omega)
  have hcur := Lib.hid fun (w : World) (hB : BoxM w M b K a n c L) => current_any b K a n c L (m / 2) ((m / 2 : Nat) : Int) w rfl hB.two hB.src hn hok hl
  have HPC : Hid (putC K L m x = ⟨((m / 2 : Nat) : Int), putT (lineT K L (m / 2)) (m % 2 * 8) x, false⟩) := Lib.hid rfl
  have HST : Hid (storeL K L m x = insL ((m / 2 : Nat) : Int) (putC K L m x) L) := Lib.hid rfl
  have h8 : m % 2 * 8 ≤ 8 := by omega
  obtain ⟨T, hT⟩ : ∃ T, lineT K L (m / 2) = T := ⟨_, rfl⟩
  obtain ⟨s0, hs0⟩ : ∃ s0, m % 2 * 8 = s0 := ⟨_, rfl⟩
  obtain ⟨ln, hln⟩ : ∃ ln, m / 2 = ln := ⟨_, rfl⟩
  have hdiv : (m : Int) / 2 = (ln : Int) := by omega
  rw [hln] at hT
  rw [hln, hT] at hTs
  rw [hs0] at hws h8
  rw [hln, hT] at hcur
  rw [hln, hT, hs0] at HPC
  rw [hln, HPC.out] at HST
  have hm2 : m ≤ 1048600 := by omega
  have HB := Lib.hid hB
  have HOK := Lib.hid hok
  have HL := Lib.hid hB.len
  clear hB hok hk1 hl hT hs0 hln hm HPC
  have hPT : Hid (putT T s0 x = T.extract 0 s0 ++ x ++ T.extract (s0 + 8) T.size) := Lib.hid rfl
  go_enter Try.func50, Try.ntmps50
  go_wp2_with fail
  refine (hws.out w).mono ?_
  rintro e w0 ⟨rfl, rfl⟩
  go_wp2_with fail
  refine (hcur.out _ HB.out).mono ?_
  rintro e w1 ⟨rfl, hb1⟩
  have B1 := Lib.hid (HB.out.later hb1)
  have BB1 := Lib.hid (hb1.mono HB.out.lowM)
  clear hb1
  have hb8 : (s0 : Int) + 8 ≤ 16 := by omega
  have hb9 : (s0 : Int) ≤ 16 := by omega
  have hb7 : 0 ≤ (s0 : Int) + 8 := by omega
  have hb6 : s0 ≤ 16 := by omega
  have hb5 : s0 + 8 ≤ 16 := by omega
  have hc1 : ¬ (9223372036854775807 < s0 + 8) := by omega
  have hc2 : ¬ (9223372036854775807 < s0 + 8 + (8 - s0)) := by omega
  have hwr8 : IntKind.i64.wrap ((s0 : Int) + 8) = (s0 : Int) + 8 := IntWalk.i64_in _ (by omega)
  have hn8 : ((s0 : Int) + 8).toNat = s0 + 8 := by omega
  have HPT : Hid (putT T s0 x = T.extract 0 s0 ++ x ++ T.extract (s0 + 8) 16) := Lib.hid (by rw [hPT.out, hTs])
  rw [HPT.out] at HST
  have hbd : Below w1.heap.size w1 (w1.drew.alloc (.cells #[.int .i64 ln, .string (T.extract 0 s0 ++ x ++ T.extract (s0 + 8) 16), .bool false] 68)) := (Below.refl _ _).drew.alloc (Nat.le_refl _) _
  have B2 := Lib.hid (B1.out.later hbd)
  have BB2 := Lib.hid (BB1.out.trans (hbd.mono B1.out.lowM))
  have X2 : Hid ((w1.drew.alloc (.cells #[.int .i64 ln, .string (T.extract 0 s0 ++ x ++ T.extract (s0 + 8) 16), .bool false] 68)).heap[w1.heap.size]? = some (.cells #[.int .i64 ln, .string (T.extract 0 s0 ++ x ++ T.extract (s0 + 8) 16), .bool false] 68 (0, 0))) := Lib.hid (heap_alloc_new w1.drew _)
  have Q2 : Hid (w1.heap.size < (w1.drew.alloc (.cells #[.int .i64 ln, .string (T.extract 0 s0 ++ x ++ T.extract (s0 + 8) 16), .bool false] 68)).heap.size) := Lib.hid (lt_of_block X2.out)
  clear hbd
  go_wp2
  go_region_with (fail)
  go_wp2_with fail
  refine (cellOf_any b K a n c L ln (w1.drew.alloc (.cells #[.int .i64 ln, .string (T.extract 0 s0 ++ x ++ T.extract (s0 + 8) 16), .bool false] 68)) B2.out.two B2.out.src hn HOK.out).mono ?_
  rintro e w2 ⟨p, hp, rfl, hb2⟩
  obtain ⟨SX, hSX⟩ : ∃ SX, T.extract 0 s0 ++ x ++ T.extract (s0 + 8) 16 = SX := ⟨_, rfl⟩
  obtain ⟨X, hX⟩ : ∃ X : C3, X = ⟨(ln : Int), SX, false⟩ := ⟨_, rfl⟩
  rw [hSX, ← hX] at HST
  have X3 : Hid (w2.heap[w1.heap.size]? = some (.cells #[.int .i64 ln, .string SX, .bool false] 68 (0, 0))) := Lib.hid (by rw [← hSX]; exact (hb2.block _ Q2.out).trans X2.out)
  have B3 := Lib.hid (B2.out.later hb2)
  have BB3 := Lib.hid (BB2.out.trans (hb2.mono B2.out.lowM))
  have HP := Lib.hid hp
  have y0 : w2.cell? ⟨w1.heap.size, 0, none⟩ = some (.int .i64 ln) := by simp [World.cell?, X3.out]
  have y1 : w2.cell? ⟨w1.heap.size, 1, none⟩ = some (.string SX) := by simp [World.cell?, X3.out]
  have y2 : w2.cell? ⟨w1.heap.size, 2, none⟩ = some (.bool false) := by simp [World.cell?, X3.out]
  have q1 := B3.out.two.c1
  have HXX := Lib.hid hX
  have hpn := HP.out.le
  rw [HL.out] at hpn
  rw [hSX]
  clear hp hb2 hSX hX hb8 hb9 hb7 hb6 hb5 hc1 hc2 hwr8 hn8 hTs hx hdiv h8
  cases hfb : foundB L ln p with
  | true =>
    have hf := hfb
    unfold foundB at hf
    have hf := of_decide_eq_true hf
    have HE : Hid (storeL K L m x = L.set p X) := Lib.hid (by rw [HST.out]; exact ins_found HOK.out HP.out hf.1 hf.2)
    have hpn2 : p < n := by have := HL.out; omega
    have HPL := Lib.hid hf.1
    clear hfb hf
    obtain ⟨ad, cap, hv, _, _, hpl⟩ := ownE_form B3.out.own
    cases hv
    have han : ∃ g, a = some ⟨g, 0, none⟩ := by
      cases a with
      | none =>
        rcases B3.out.own.2 with ⟨_, h0⟩ | ⟨g', cap', cur, h', _⟩
        · omega
        · simp at h'
      | some q =>
        obtain ⟨g0, e0, _⟩ := hpl _ rfl
        exact ⟨g0, by rw [e0]⟩
    obtain ⟨g, rfl⟩ := han
    obtain ⟨v1, e1⟩ := ownE_cell B3.out.own (j := p * 3) (by omega)
    obtain ⟨v2, e2⟩ := ownE_cell B3.out.own (j := p * 3 + 1) (by omega)
    obtain ⟨v3, e3⟩ := ownE_cell B3.out.own (j := p * 3 + 2) (by omega)
    have f1 := B3.out.own.frozenAt (p * 3)
    have f2 := B3.out.own.frozenAt (p * 3 + 1)
    have f3 := B3.out.own.frozenAt (p * 3 + 2)
    have B4 : Hid (BoxM (w2.drew.setCells g (p * 3) (encC.cells X)) M b K (some ⟨g, 0, none⟩) n c (storeL K L m x)) := Lib.hid (by
      rw [HE.out]
      exact BoxM.sets (w := w2.drew) ⟨B3.out.two, B3.out.own, B3.out.low, B3.out.ne⟩ p X HPL.out)
    have BB4 : Hid (Below M w0 (w2.drew.setCells g (p * 3) (encC.cells X))) := Lib.hid (below_sets B3.out.base _ _ BB3.out.drew)
    rw [HXX.out] at B4 BB4
    clear hpl
    go_wp2
    go_still_tail 7, (by kernel_rfl)
    change wpList _ _ _ _ _ w2.drew
    go_wp2
    exact end_void rfl rfl ⟨rfl, _, _, _, B4.out, BB4.out⟩
  | false =>
    have hf := hfb
    unfold foundB at hf
    have hf := of_decide_eq_false hf
    have HE : Hid (storeL K L m x = L.take p ++ X :: L.drop p) := Lib.hid (by rw [HST.out]; exact ins_new HP.out (HP.out.lost HOK.out hf))
    clear hfb hf
    have hbd : Below w2.heap.size w2 (w2.drew.alloc (.cells #[.int .i64 ln, .string SX, .bool false] 68)) := (Below.refl _ _).drew.alloc (Nat.le_refl _) _
    have B4 := Lib.hid (B3.out.later hbd)
    have BB4 := Lib.hid (BB3.out.trans (hbd.mono B3.out.lowM))
    have X4 : Hid ((w2.drew.alloc (.cells #[.int .i64 ln, .string SX, .bool false] 68)).heap[w2.heap.size]? = some (.cells #[.int .i64 X.l, .string X.t, .bool X.f] 68 (0, 0))) := Lib.hid (by rw [HXX.out]; exact heap_alloc_new w2.drew _)
    have NE4 : Hid (∀ q, a = some q → w2.heap.size ≠ q.block) := Lib.hid (fun q hq => by
      obtain ⟨ad, cap, hv, _, _, hpl⟩ := ownE_form B3.out.own
      cases hv
      obtain ⟨g0, e0, _, hg0⟩ := hpl _ hq
      rw [e0]; show w2.heap.size ≠ g0; omega)
    have z1' : (w2.alloc (.cells #[.int .i64 ln, .string SX, .bool false] 68)).cell? ⟨b, 1, none⟩ = some (.slice a n c) := B4.out.two.c1
    have hcall := Lib.hid (insert_any M a n c p w2.heap.size L X _ B4.out.own B4.out.lowM hn hpn X4.out NE4.out)
    have HT4 : Hid (∀ w3 : World, (w2.drew.alloc (.cells #[.int .i64 ln, .string SX, .bool false] 68)).grownBy w3 (Value.slice a n c).ownBlock → Two w3 b (.string K) (.slice a n c) 26) := Lib.hid (fun w3 hg => (hg.block _ B4.out.two.lt (fun e => by
      cases a with
      | none => simp [Value.ownBlock] at e
      | some q => exact B4.out.ne q rfl (by simpa [Value.ownBlock] using e.symm))).trans B4.out.two)
    clear hbd
    go_wp2
    go_region_with (first
      | (go_at_call 80; refine hcall.out.mono ?_; rintro e w3 ⟨v3, rfl, hown3, hgr3, hat3⟩
         obtain ⟨a3, c3, rfl, _, _, _⟩ := ownE_form hown3
         have T3 := Lib.hid (HT4.out w3 hgr3)
         have t1 := T3.out.c1
         have t2 := T3.out.fr (o := 1)
         have O3 := Lib.hid hown3
         have G3 := Lib.hid hgr3
         have A3 := Lib.hid hat3
         clear hown3 hgr3 hat3))
    all_goals
      have hne3 : ∀ q, a3 = some q → q.block ≠ b := fun q hq e => by
        rcases A3.out with h | h
        · rw [hq] at h
          have h' : (Value.slice a n c).ownBlock = some q.block := h.symm
          cases a with
          | none => simp [Value.ownBlock] at h'
          | some r => exact B4.out.ne r rfl (by rw [← e]; simpa [Value.ownBlock] using h')
        · rw [hq] at h
          have h' : q.block = (w2.drew.alloc (.cells #[.int .i64 ln, .string SX, .bool false] 68)).heap.size := by simpa [Value.ownBlock] using h
          have h3 := B4.out.two.lt
          omega
      have B5 : Hid (BoxM (w3.setCell ⟨b, 1, none⟩ (.slice a3 (n + 1) c3)) M b K a3 (n + 1) c3 (storeL K L m x)) := Lib.hid (by
        rw [HE.out]
        exact BoxM.setNew T3.out O3.out B4.out.low hne3)
      have BB5 : Hid (Below M w0 (w3.setCell ⟨b, 1, none⟩ (.slice a3 (n + 1) c3))) := Lib.hid ((BB4.out.grown G3.out B4.out.lowM (fun q hq => (B4.out.own.lt q hq).1)).setCell (by exact B4.out.low) _)
      clear hne3
      go_wp2
      exact end_void rfl rfl ⟨rfl, _, _, _, B5.out, BB5.out⟩
end Go.Proofs.Ytpahihcnmpeenaa
namespace Go.Proofs.Ytpahihcnmpeenaa
open Go.RowKit Go.Proofs.Ytpahihcnmpeenaa.Parts Go.Proofs.Ytpahihcnmpeenaa.Hexa

theorem specLine_i (K : ByteArray) (a : Option Addr) (n c : Nat) (L : List C3) (i : Int) (l : Nat) (w : World) (hi : i = l) (hs : SrcC w a n L) (hn : n ≤ 1048600) (hok : MemOk K L) (hl : l < K.size / 16) :
    Calls Try.prog 81 #[.agg #[.string K, .slice a n c], .int .i64 i] w fun e w' => e = .returned (.string (lineT K L l)) ∧ Below w.heap.size w w' := by
  subst hi; exact specLine_any K a n c L l w hs hn hok hl
theorem wordT_of {K : ByteArray} {L : List C3} {m : Nat} {T : ByteArray} (hT : lineT K L (m / 2) = T) : (m % 2 = 0 → wordT K L m = T.extract 0 8) ∧ (m % 2 = 1 → wordT K L m = T.extract 8 16) := by
  unfold wordT
  rw [hT]
  exact ⟨fun h => by rw [h], fun h => by rw [h]⟩

set_option maxRecDepth 100000 in
set_option maxHeartbeats 1000000 in
theorem specL10Word_any (K : ByteArray) (a : Option Addr) (n c : Nat) (L : List C3) (m : Nat) (w : World) (hs : SrcC w a n L) (hn : n ≤ 1048600) (hok : MemOk K L) (hm : m < K.size / 8) :
    Calls Try.prog 56 #[.agg #[.string K, .slice a n c], .int .i64 m] w fun e w' => e = .returned (.string (wordT K L m)) ∧ Below w.heap.size w w' := by
  have HS := Lib.hid hs
  have HOK := Lib.hid hok
  have hk2 := hok.2.1
  have hk1 := hok.1
  have B0 := Lib.hid (below_alloc w (.cells #[.string K, .slice a n c] 26))
  have hl : m / 2 < K.size / 16 := by omega
  have hTs := lineT_size hok hl
  obtain ⟨T, hT⟩ : ∃ T, lineT K L (m / 2) = T := ⟨_, rfl⟩
  rw [hT] at hTs
  have HT := Lib.hid hT
  have HW := Lib.hid (wordT_of hT)
  have HLL := Lib.hid hl
  clear hs hok hT hl hk1
  rcases Nat.mod_two_eq_zero_or_one m with h2 | h2
  · have hi2 : (m : Int) % 2 = 0 := by omega
    have HE := Lib.hid (HW.out.1 h2)
    clear h2
    go_enter Try.func56, Try.ntmps56
    go_wp2_with fail
    refine (specLine_i K _ n c L _ (m / 2) _ (by omega) (HS.out.later B0.out) hn HOK.out HLL.out).mono ?_
    rw [HT.out]
    rintro e w1 ⟨rfl, hb1⟩
    go_wp2
    go_ret
    exact ⟨ret_strm HE.out.symm, B0.out.trans (hb1.mono B0.out.size)⟩
  · have hi2 : (m : Int) % 2 = 1 := by omega
    have HE := Lib.hid (HW.out.2 h2)
    clear h2
    go_enter Try.func56, Try.ntmps56
    go_wp2_with fail
    refine (specLine_i K _ n c L _ (m / 2) _ (by omega) (HS.out.later B0.out) hn HOK.out HLL.out).mono ?_
    rw [HT.out]
    rintro e w1 ⟨rfl, hb1⟩
    go_wp2
    go_ret
    exact ⟨ret_strm HE.out.symm, B0.out.trans (hb1.mono B0.out.size)⟩

set_option maxRecDepth 100000 in
set_option maxHeartbeats 400000 in
theorem words_any (K : ByteArray) (v : Value) (w : World) (hK : K.size ≤ 1048600) :
    Calls Try.prog 52 #[.agg #[.string K, v]] w fun e w' => e = .returned (.int .i64 ((K.size / 8 : Nat) : Int)) ∧ Below w.heap.size w w' := by
  have B0 := Lib.hid (below_alloc w (.cells #[.string K, v] 26))
  go_enter Try.func52, Try.ntmps52
  go_wp2
  go_ret
  exact ⟨ret_intm (by omega), B0.out⟩

set_option maxRecDepth 100000 in
set_option maxHeartbeats 1000000 in
theorem specWordAt_any (K : ByteArray) (a : Option Addr) (n c : Nat) (L : List C3) (i : Int) (w : World) (hs : SrcC w a n L) (hn : n ≤ 1048600) (hK : K.size ≤ 1048600) :
    Calls Try.prog 18 #[.agg #[.string K, .slice a n c], .int .i64 i] w fun e w' => e = .returned (.string (wordAtB K L i)) ∧ Below w.heap.size w w' := by
  have HS := Lib.hid hs
  have B0 := Lib.hid (below_alloc w (.cells #[.string K, .slice a n c] 26))
  have T0 := Lib.hid (Two.alloc w (.string K) (.slice a n c) 26)
  clear hs
  by_cases hok : MemOk K L
  · have HOK := Lib.hid hok
    have HBB := Lib.hid (memOkB_yes hok)
    clear hok
    by_cases hh : Has K i
    · obtain ⟨m, rfl⟩ : ∃ m : Nat, i = m := ⟨i.toNat, by have := hh.1; omega⟩
      have hm : m < K.size / 8 := by have := hh.2; omega
      have HR : Hid ((0 : Int) ≤ (m : Int) ∧ (m : Int) ≤ ((K.size / 8 : Nat) : Int) - 1) := Lib.hid (by omega)
      have HE : Hid (wordAtB K L (m : Int) = wordT K L m) := Lib.hid (wordAtB_yes HOK.out hm)
      have HMM := Lib.hid hm
      clear hh hm
      go_enter Try.func18, Try.ntmps18
      go_wp2_with fail
      refine (specOk_any K a n c L _ (HS.out.later B0.out) hn hK).mono ?_
      rw [HBB.out]
      rintro e w1 ⟨rfl, hb1⟩
      have T1 := Lib.hid (T0.out.later hb1)
      have B1 := Lib.hid (B0.out.trans (hb1.mono B0.out.size))
      have c0 := T1.out.c0
      have c1 := T1.out.c1
      clear hb1
      go_wp2_with fail
      refine (words_any K _ _ hK).mono ?_
      rintro e w2 ⟨rfl, hb2⟩
      have T2 := Lib.hid (T1.out.later hb2)
      have B2 := Lib.hid (B1.out.trans (hb2.mono B1.out.size))
      clear c0 c1 hb2
      have c0 := T2.out.c0
      have c1 := T2.out.c1
      go_wp2_with fail
      refine (range_yes _ HR.out).mono ?_
      rintro e w3 ⟨rfl, rfl⟩
      go_wp2_with fail
      refine (specL10Word_any K a n c L m _ (HS.out.later B2.out) hn HOK.out HMM.out).mono ?_
      rintro e w4 ⟨rfl, hb4⟩
      go_wp2
      go_ret
      exact ⟨ret_strm HE.out.symm, B2.out.trans (hb4.mono B2.out.size)⟩
    · have HR : Hid (¬ ((0 : Int) ≤ i ∧ i ≤ ((K.size / 8 : Nat) : Int) - 1)) := Lib.hid (fun h => hh ⟨h.1, by omega⟩)
      have HE : Hid (wordAtB K L i = ⟨#[]⟩) := Lib.hid (wordAtB_no hh)
      clear hh
      go_enter Try.func18, Try.ntmps18
      go_wp2_with fail
      refine (specOk_any K a n c L _ (HS.out.later B0.out) hn hK).mono ?_
      rw [HBB.out]
      rintro e w1 ⟨rfl, hb1⟩
      have T1 := Lib.hid (T0.out.later hb1)
      have B1 := Lib.hid (B0.out.trans (hb1.mono B0.out.size))
      have c0 := T1.out.c0
      have c1 := T1.out.c1
      clear hb1
      go_wp2_with fail
      refine (words_any K _ _ hK).mono ?_
      rintro e w2 ⟨rfl, hb2⟩
      have B2 := Lib.hid (B1.out.trans (hb2.mono B1.out.size))
      go_wp2_with fail
      refine (range_no _ HR.out).mono ?_
      rintro e w3 ⟨rfl, rfl⟩
      go_wp2
      go_ret
      exact ⟨ret_strm HE.out.symm, B2.out⟩
  · have HBB := Lib.hid (memOkB_no hok)
    have HE : Hid (wordAtB K L i = ⟨#[]⟩) := Lib.hid (wordAtB_bad hok)
    clear hok
    go_enter Try.func18, Try.ntmps18
    go_wp2_with fail
    refine (specOk_any K a n c L _ (HS.out.later B0.out) hn hK).mono ?_
    rw [HBB.out]
    rintro e w1 ⟨rfl, hb1⟩
    go_wp2
    go_ret
    exact ⟨ret_strm HE.out.symm, B0.out.trans (hb1.mono B0.out.size)⟩
end Go.Proofs.Ytpahihcnmpeenaa
namespace Go.Proofs.Ytpahihcnmpeenaa
open Go.RowKit Go.Proofs.Ytpahihcnmpeenaa.Parts Go.Proofs.Ytpahihcnmpeenaa.Hexa

noncomputable def storedL (K : ByteArray) (L : List C3) (i : Int) (x : ByteArray) : List C3 := if memOkB K L = true ∧ x.size = 8 ∧ Has K i then storeL K L i.toNat x else L
theorem storedL_yes {K : ByteArray} {L : List C3} {m : Nat} {x : ByteArray} (h : MemOk K L) (hx : x.size = 8) (hm : m < K.size / 8) : storedL K L (m : Int) x = storeL K L m x := by
  unfold storedL Has
  rw [if_pos ⟨memOkB_yes h, hx, by omega⟩]; rfl
theorem storedL_bad {K : ByteArray} {L : List C3} {i : Int} {x : ByteArray} (h : ¬ MemOk K L) : storedL K L i x = L := if_neg (by rw [memOkB_no h]; simp)
theorem storedL_size {K : ByteArray} {L : List C3} {i : Int} {x : ByteArray} (h : ¬ x.size = 8) : storedL K L i x = L := if_neg (fun y => h y.2.1)
theorem storedL_no {K : ByteArray} {L : List C3} {i : Int} {x : ByteArray} (h : ¬ Has K i) : storedL K L i x = L := if_neg (fun y => h y.2.2)
theorem insL_len (l : Int) (x : C3) : ∀ L : List C3, (insL l x L).length ≤ L.length + 1
  | [] => by simp [insL]
  | c :: r => by
    rw [insL]
    split
    · have := insL_len l x r
      simp only [List.length_cons]; omega
    · have := List.length_filter_le (fun c : C3 => !decide (c.l = l)) (c :: r)
      simp only [List.length_cons] at this ⊢; omega
theorem storedL_len (K : ByteArray) (L : List C3) (i : Int) (x : ByteArray) : (storedL K L i x).length ≤ L.length + 1 := by
  unfold storedL storeL
  split
  · exact insL_len _ _ _
  · omega

set_option maxRecDepth 100000 in
set_option maxHeartbeats 2000000 in
theorem implStore_any (K : ByteArray) (a : Option Addr) (n c : Nat) (L : List C3) (i : Int) (x : ByteArray) (w : World) (hs : SrcC w a n L) (hn : n ≤ 1048600) (hK : K.size ≤ 1048600) (hF : FitT L 1048600) (_hx9 : x.size ≤ 1048600) :
    Calls Try.prog 15 #[.agg #[.string K, .slice a n c], .int .i64 i, .string x] w (GivesM K (storedL K L i x) w) := by
  have HS := Lib.hid hs
  have HL := Lib.hid hs.len
  have HF := Lib.hid hF
  have hb0 : Below w.heap.size w ((w.alloc (.cells #[.string K, .slice a n c] 26)).alloc (.cells #[.string ⟨#[]⟩, .slice none 0 0] 26)) := ((Below.refl _ _).alloc (Nat.le_refl _) _).alloc (by simp) _
  have k0 : Two ((w.alloc (.cells #[.string K, .slice a n c] 26)).alloc (.cells #[.string ⟨#[]⟩, .slice none 0 0] 26)) w.heap.size (.string K) (.slice a n c) 26 := (Two.alloc w _ _ _).later (below_alloc _ _)
  have k1 : Two ((w.alloc (.cells #[.string K, .slice a n c] 26)).alloc (.cells #[.string ⟨#[]⟩, .slice none 0 0] 26)) (w.heap.size + 1) (.string ⟨#[]⟩) (.slice none 0 0) 26 := by
    have h := Two.alloc (w.alloc (.cells #[.string K, .slice a n c] 26)) (.string ⟨#[]⟩) (.slice none 0 0) 26
    simpa using h
  have k3 : ((w.alloc (.cells #[.string K, .slice a n c] 26)).alloc (.cells #[.string ⟨#[]⟩, .slice none 0 0] 26)).heap.size = w.heap.size + 2 := by simp
  have K0 := Lib.hid k0
  have K1 := Lib.hid k1
  have K3 := Lib.hid k3
  have B0 := Lib.hid hb0
  clear hs hF hb0 k0 k1 k3
  go_enter Try.func15, Try.ntmps15
  go_wp2_with fail
  obtain ⟨W2, hW⟩ : ∃ x, x = (w.alloc (.cells #[.string K, .slice a n c] 26)).alloc (.cells #[.string ⟨#[]⟩, .slice none 0 0] 26) := ⟨_, rfl⟩
  rw [← hW] at K0 K1 K3 B0 ⊢
  clear hW
  refine (memoryCopy_any K a n c L W2 (HS.out.later B0.out) hn hK HF.out).mono ?_
  rintro e w1 ⟨v, rfl, hown, hb1⟩
  rw [HL.out, K3.out] at hown
  obtain ⟨ad, cap, rfl, hnc, hcm, hpl⟩ := ownE_form hown
  have T3 := Lib.hid ((K0.out.later hb1).later (below_alloc w1 (.cells #[.string K, .slice ad n cap] 26)))
  have R3 := Lib.hid ((K1.out.later hb1).later (below_alloc w1 (.cells #[.string K, .slice ad n cap] 26)))
  have X3 : Hid (BoxM (w1.alloc (.cells #[.string K, .slice ad n cap] 26)) (w.heap.size + 2) w1.heap.size K ad n cap L) := Lib.hid ⟨Two.alloc w1 _ _ _, own_below hown (below_alloc w1 _), by have := hb1.size; rw [K3.out] at this; exact this, fun p hp => by
    obtain ⟨g, e, _, hg⟩ := hpl p hp
    rw [e]; exact Nat.ne_of_lt hg⟩
  have B3 : Hid (Below w.heap.size w (w1.alloc (.cells #[.string K, .slice ad n cap] 26))) := Lib.hid (B0.out.trans ((hb1.trans ((below_alloc w1 _).mono hb1.size)).mono B0.out.size))
  have c0 := T3.out.c0
  have c1 := T3.out.c1
  unfold maxLen at hcm
  clear hown hb1 hpl K0 K1
  go_wp2_with fail
  clear c0 c1
  obtain ⟨b, hb⟩ : ∃ b, w1.heap.size = b := ⟨_, rfl⟩
  obtain ⟨w3, h3⟩ : ∃ x, x = w1.alloc (.cells #[.string K, .slice ad n cap] 26) := ⟨_, rfl⟩
  rw [hb] at X3 ⊢
  rw [← h3] at X3 T3 R3 B3 ⊢
  clear hb h3
  refine (implOk_any K a n c L w3 (HS.out.later B3.out) hn hK).mono ?_
  rintro e w4 ⟨rfl, hb4⟩
  have R4 := Lib.hid (R3.out.later hb4)
  have T4 := Lib.hid (T3.out.later hb4)
  have X4 := Lib.hid (X3.out.later hb4)
  have B4 : Hid (Below w.heap.size w w4) := Lib.hid (B3.out.trans (hb4.mono B3.out.size))
  clear hb4
  by_cases hok : MemOk K L
  · rw [memOkB_yes hok]
    go_wp2_with fail
    refine (hasWord_any _ K _ _ _ T4.out hK).mono ?_
    by_cases hh : Has K i
    · rw [decide_eq_true hh]
      rintro e w4' ⟨rfl, hw4'⟩
      subst w4'
      by_cases hs8 : x.size = 8
      · obtain ⟨m, rfl⟩ : ∃ m : Nat, i = m := ⟨i.toNat, by have := hh.1; omega⟩
        have hm : m < K.size / 8 := by have := hh.2; omega
        have HOK := Lib.hid hok
        have HE := Lib.hid (storedL_yes hok hs8 hm)
        have hi8 : (x.size : Int) = 8 := by omega
        have HM := Lib.hid hm
        have HS8 := Lib.hid hs8
        clear hok hh hm hs8
        go_wp2_with fail
        refine (store_any (w.heap.size + 2) b K ad n cap L m x w4 X4.out hn HOK.out HM.out HS8.out).mono ?_
        rintro e w5 ⟨rfl, a2, n2, c2, hx5, hb5⟩
        have X5 := Lib.hid hx5
        have R5 : Hid (Two w5 (w.heap.size + 1) (.string ⟨#[]⟩) (.slice none 0 0) 26) := Lib.hid ((hb5.block _ (by omega)).trans R4.out)
        have B5 : Hid (Below w.heap.size w w5) := Lib.hid (B4.out.trans (hb5.mono (by omega)))
        clear hx5 hb5
        have c0 := X5.out.two.c0
        have c1 := X5.out.two.c1
        have r0 := R5.out.c0
        have r1 := R5.out.c1
        have f0 := R5.out.fr (o := 0)
        have f1 := R5.out.fr (o := 1)
        have q := two_set1 (two_set0 R5.out (x := .string K)) (x := .slice a2 n2 c2)
        have q0 := cell0_of_two q
        have q1 := cell1_of_two q
        have HG := Lib.hid (gives_box (w := w) (b2 := w.heap.size + 1) (u := .string K) (v := .slice a2 n2 c2) X5.out (by omega) B5.out (by omega) (fun p hp => by
          obtain ⟨ad9, cap9, hv9, _, _, hpl9⟩ := ownE_form X5.out.own
          cases hv9
          obtain ⟨g9, e9, h9, _⟩ := hpl9 p hp
          rw [e9]; show g9 ≠ w.heap.size + 1; omega))
        clear q
        go_wp2
        refine bodyPost_ret (v := .agg #[.string K, .slice a2 n2 c2]) ?_ rfl ⟨_, rfl, by rw [HE.out]; exact HG.out.1, HG.out.2⟩
        simp [results, Try.results15, go_sem, q0, q1]
      · have HE := Lib.hid (storedL_size (K := K) (L := L) (i := i) hs8)
        have hi8 : ((x.size : Int) == 8) = false := by have : ¬ ((x.size : Int) = 8) := by omega
                                                       simpa using this
        clear hok hh hs8
        have c0 := X4.out.two.c0
        have c1 := X4.out.two.c1
        have r0 := R4.out.c0
        have r1 := R4.out.c1
        have f0 := R4.out.fr (o := 0)
        have f1 := R4.out.fr (o := 1)
        have q := two_set1 (two_set0 R4.out (x := .string K)) (x := .slice ad n cap)
        have q0 := cell0_of_two q
        have q1 := cell1_of_two q
        have HG := Lib.hid (gives_box (w := w) (b2 := w.heap.size + 1) (u := .string K) (v := .slice ad n cap) X4.out (by omega) B4.out (by omega) (fun p hp => by
          obtain ⟨ad9, cap9, hv9, _, _, hpl9⟩ := ownE_form X4.out.own
          cases hv9
          obtain ⟨g9, e9, h9, _⟩ := hpl9 p hp
          rw [e9]; show g9 ≠ w.heap.size + 1; omega))
        clear q
        go_wp2
        refine bodyPost_ret (v := .agg #[.string K, .slice ad n cap]) ?_ rfl ⟨_, rfl, by rw [HE.out]; exact HG.out.1, HG.out.2⟩
        simp [results, Try.results15, go_sem, q0, q1]
    · rw [decide_eq_false hh]
      rintro e w4' ⟨rfl, hw4'⟩
      subst w4'
      have HE := Lib.hid (storedL_no (L := L) (x := x) hh)
      clear hok hh
      have c0 := X4.out.two.c0
      have c1 := X4.out.two.c1
      have r0 := R4.out.c0
      have r1 := R4.out.c1
      have f0 := R4.out.fr (o := 0)
      have f1 := R4.out.fr (o := 1)
      have q := two_set1 (two_set0 R4.out (x := .string K)) (x := .slice ad n cap)
      have q0 := cell0_of_two q
      have q1 := cell1_of_two q
      have HG := Lib.hid (gives_box (w := w) (b2 := w.heap.size + 1) (u := .string K) (v := .slice ad n cap) X4.out (by omega) B4.out (by omega) (fun p hp => by
        obtain ⟨ad9, cap9, hv9, _, _, hpl9⟩ := ownE_form X4.out.own
        cases hv9
        obtain ⟨g9, e9, h9, _⟩ := hpl9 p hp
        rw [e9]; show g9 ≠ w.heap.size + 1; omega))
      clear q
      go_wp2
      refine bodyPost_ret (v := .agg #[.string K, .slice ad n cap]) ?_ rfl ⟨_, rfl, by rw [HE.out]; exact HG.out.1, HG.out.2⟩
      simp [results, Try.results15, go_sem, q0, q1]
  · rw [memOkB_no hok]
    have HE := Lib.hid (storedL_bad (i := i) (x := x) hok)
    clear hok
    have c0 := X4.out.two.c0
    have c1 := X4.out.two.c1
    have r0 := R4.out.c0
    have r1 := R4.out.c1
    have f0 := R4.out.fr (o := 0)
    have f1 := R4.out.fr (o := 1)
    have q := two_set1 (two_set0 R4.out (x := .string K)) (x := .slice ad n cap)
    have q0 := cell0_of_two q
    have q1 := cell1_of_two q
    have HG := Lib.hid (gives_box (w := w) (b2 := w.heap.size + 1) (u := .string K) (v := .slice ad n cap) X4.out (by omega) B4.out (by omega) (fun p hp => by
      obtain ⟨ad9, cap9, hv9, _, _, hpl9⟩ := ownE_form X4.out.own
      cases hv9
      obtain ⟨g9, e9, h9, _⟩ := hpl9 p hp
      rw [e9]; show g9 ≠ w.heap.size + 1; omega))
    clear q
    go_wp2
    refine bodyPost_ret (v := .agg #[.string K, .slice ad n cap]) ?_ rfl ⟨_, rfl, by rw [HE.out]; exact HG.out.1, HG.out.2⟩
    simp [results, Try.results15, go_sem, q0, q1]
end Go.Proofs.Ytpahihcnmpeenaa
namespace Go.Proofs.Ytpahihcnmpeenaa
open Go.RowKit Go.Proofs.Ytpahihcnmpeenaa.Parts Go.Proofs.Ytpahihcnmpeenaa.Hexa

/-- What the model has laid so far. -/
def LaidTo (l : Int) (X : C3) (L : List C3) (k : Nat) (lv : Bool) (P : List C3) : Prop :=
  (lv = false ∧ P = L.take k ∧ ∀ j, j < k → (L.getD j default).l < l) ∨ (lv = true ∧ P = insL l X (L.take k) ∧ ∃ j, j < k ∧ ¬ (L.getD j default).l < l)
theorem laid_zero (l : Int) (X : C3) (L : List C3) : LaidTo l X L 0 false [] := .inl ⟨rfl, rfl, fun j hj => by omega⟩
theorem take_all_lt {L : List C3} {k : Nat} {l : Int} (hk : k ≤ L.length) (h : ∀ j, j < k → (L.getD j default).l < l) : ∀ c ∈ L.take k, c.l < l := fun c hc => by
  obtain ⟨j, hj, e⟩ := getD_mem hc
  have hjk : j < k := by rw [List.length_take] at hj; omega
  rw [← e, getD_take hjk]; exact h j hjk
theorem laid_lt {l : Int} {X : C3} {L : List C3} {k : Nat} {P : List C3} (hk : k < L.length) (h : LaidTo l X L k false P) (hx : (L.getD k default).l < l) : LaidTo l X L (k + 1) false (P ++ [L.getD k default]) := by
  rcases h with ⟨_, hP, hl⟩ | ⟨h, _⟩
  · refine .inl ⟨rfl, by rw [take_succ hk, hP], fun j hj => ?_⟩
    by_cases e : j = k
    · subst e; exact hx
    · exact hl j (by omega)
  · cases h
theorem laid_new {l : Int} {X : C3} {L : List C3} {k : Nat} {P : List C3} (hk : k < L.length) (h : LaidTo l X L k false P) (hx : ¬ (L.getD k default).l < l) : LaidTo l X L (k + 1) true (P ++ [X] ++ [L.getD k default].filter fun c => !decide (c.l = l)) := by
  rcases h with ⟨_, hP, hl⟩ | ⟨h, _⟩
  · refine .inr ⟨rfl, ?_, k, by omega, hx⟩
    rw [take_succ hk, insL_ge l X (L.take k) (L.getD k default) [] (take_all_lt (by omega) hl) hx, hP, List.append_assoc]
    rfl
  · cases h
theorem laid_old {l : Int} {X : C3} {L : List C3} {k : Nat} {P : List C3} (hk : k < L.length) (h : LaidTo l X L k true P) : LaidTo l X L (k + 1) true (P ++ [L.getD k default].filter fun c => !decide (c.l = l)) := by
  rcases h with ⟨h, _⟩ | ⟨_, hP, j, hj, hn⟩
  · cases h
  · refine .inr ⟨rfl, ?_, j, by omega, hn⟩
    rw [take_succ hk, insL_snoc l X (L.getD k default) (L.take k) ⟨(L.take k).getD j default, ?_, by rw [getD_take hj]; exact hn⟩, hP]
    have hjl : j < (L.take k).length := by rw [List.length_take]; omega
    simp only [List.getD, List.getElem?_eq_getElem hjl, Option.getD_some]
    exact List.getElem_mem hjl
theorem laid_end_true {l : Int} {X : C3} {L : List C3} {P : List C3} (h : LaidTo l X L L.length true P) : P = insL l X L := by
  rcases h with ⟨h, _⟩ | ⟨_, hP, _⟩
  · cases h
  · rw [hP, List.take_length]
theorem laid_end_false {l : Int} {X : C3} {L : List C3} {P : List C3} (h : LaidTo l X L L.length false P) : P ++ [X] = insL l X L := by
  rcases h with ⟨_, hP, hl⟩ | ⟨h, _⟩
  · rw [hP, List.take_length]
    refine (insL_lt l X L (fun c hc => ?_)).symm
    obtain ⟨j, hj, e⟩ := getD_mem hc
    rw [← e]; exact hl j hj
  · cases h
theorem filter_keep {c : C3} {l : Int} (h : ¬ c.l = l) : ([c].filter fun c => !decide (c.l = l)) = [c] := by simp [h]
theorem filter_drop {c : C3} {l : Int} (h : c.l = l) : ([c].filter fun c => !decide (c.l = l)) = [] := by simp [h]
/-- An element's block, as a slice of one. -/
theorem src_lit (w : World) (l : Int) (t : ByteArray) (f : Bool) : SrcC (w.alloc (.cells #[.int .i64 l, .string t, .bool f] 68)) (some ⟨w.heap.size, 0, none⟩) 1 [⟨l, t, f⟩] := by
  have h := World.ownsRow_lit (base := 0) (e := 68) (size := 3) w #[.int .i64 l, .string t, .bool f] 1 (Nat.zero_le _) (by decide) rfl
  have e : (#[.int .i64 l, .string t, .bool f] : Array Value).toList = cellsE encC [⟨l, t, f⟩] := by rw [cellsE_one, encC_cells]
  rw [e] at h
  exact srcC_of_own h

/-- What an append of one element to the cells of a memory that the call owns gives. -/
theorem box_app {w : World} {bo : Nat} {K : ByteArray} {a : Option Addr} {p c : Nat} {P : List C3} (hB : BoxM w bo bo K a p c P) (l : Int) (t : ByteArray) (f : Bool) (hp : p ≤ 3000000) :
    AppE Try.prog #[24, 24] 24 #[.slice a p c, .slice (some ⟨w.heap.size, 0, none⟩) 1 1] (w.alloc (.cells #[.int .i64 l, .string t, .bool f] 68)) bo 68 3 (p + 1) (cellsE encC (P ++ [⟨l, t, f⟩])) (.slice a p c) :=
  appC _ 24 bo (.slice a p c) p P (own_below hB.own (below_alloc _ _)) (by have := hB.two.lt; simp; omega) (some ⟨w.heap.size, 0, none⟩) 1 1 [⟨l, t, f⟩] (src_lit w l t f) (by omega)
/-- .. and behind it, before the cells are stored. -/
structure AppBox (bo : Nat) (K : ByteArray) (a : Option Addr) (p c : Nat) (P : List C3) (w : World) (a2 : Option Addr) (c2 : Nat) (Q : List C3) (w2 : World) : Prop where
  two : Two w2 bo (.string K) (.slice a p c) 26
  box : BoxM (w2.setCell ⟨bo, 1, none⟩ (.slice a2 (p + 1) c2)) bo bo K a2 (p + 1) c2 Q
  below : Below bo w w2
theorem app_box {w : World} {bo : Nat} {K : ByteArray} {a : Option Addr} {p c : Nat} {P : List C3} (hB : BoxM w bo bo K a p c P) (l : Int) (t : ByteArray) (f : Bool) {v2 : Value} {w2 : World} {Q : List C3}
    (ho : w2.ownsRow bo 68 3 v2 (p + 1) (cellsE encC Q)) (hg : (w.alloc (.cells #[.int .i64 l, .string t, .bool f] 68)).grownBy w2 (Value.slice a p c).ownBlock) (ha : v2.ownBlock = (Value.slice a p c).ownBlock ∨ v2.ownBlock = some (w.alloc (.cells #[.int .i64 l, .string t, .bool f] 68)).heap.size) :
    ∃ a2 c2, v2 = .slice a2 (p + 1) c2 ∧ AppBox bo K a p c P w a2 c2 Q w2 := by
  obtain ⟨a2, c2, rfl, _, _, _⟩ := ownE_form ho
  have hB4 := hB.later (below_alloc w (.cells #[.int .i64 l, .string t, .bool f] 68))
  have T2 : Two w2 bo (.string K) (.slice a p c) 26 := (hg.block _ hB4.two.lt (fun e => by
    cases a with
    | none => simp [Value.ownBlock] at e
    | some q => exact hB.ne q rfl (by simpa [Value.ownBlock] using e.symm))).trans hB4.two
  refine ⟨a2, c2, rfl, T2, BoxM.set1 T2 ho (Nat.le_refl _) (fun q hq e => ?_), ?_⟩
  · rcases ha with h | h
    · rw [hq] at h
      have h' : (Value.slice a p c).ownBlock = some q.block := h.symm
      cases a with
      | none => simp [Value.ownBlock] at h'
      | some r => exact hB.ne r rfl (by rw [← e]; simpa [Value.ownBlock] using h')
    · rw [hq] at h
      have h' : q.block = (w.alloc (.cells #[.int .i64 l, .string t, .bool f] 68)).heap.size := by simpa [Value.ownBlock] using h
      have h3 := hB4.two.lt
      omega
  · exact (((below_alloc w _).mono (Nat.le_of_lt hB.two.lt)).grown hg (Nat.le_of_lt hB4.two.lt) (fun q hq => (hB4.own.lt q hq).1))

set_option maxRecDepth 100000 in
set_option maxHeartbeats 4000000 in
theorem l10Store_any (K : ByteArray) (a : Option Addr) (n c : Nat) (L : List C3) (m : Nat) (x : ByteArray) (w : World) (hs : SrcC w a n L) (hn : n ≤ 1048600) (hok : MemOk K L) (hm : m < K.size / 8) (hx : x.size = 8) :
    Calls Try.prog 54 #[.agg #[.string K, .slice a n c], .int .i64 m, .string x] w (GivesM K (storeL K L m x) w) := by
  have hk1 := hok.1
  have hk2 := hok.2.1
  have hl : m / 2 < K.size / 16 := by omega
  have hTs := lineT_size hok hl
  have HPC : Hid (putC K L m x = ⟨((m / 2 : Nat) : Int), putT (lineT K L (m / 2)) (m % 2 * 8) x, false⟩) := Lib.hid rfl
  have HST : Hid (storeL K L m x = insL ((m / 2 : Nat) : Int) (putC K L m x) L) := Lib.hid rfl
  have h8 : m % 2 * 8 ≤ 8 := by omega
  have hline := Lib.hid fun (w : World) (hs : SrcC w a n L) => specLine_any K a n c L (m / 2) w hs hn hok hl
  obtain ⟨T, hT⟩ : ∃ T, lineT K L (m / 2) = T := ⟨_, rfl⟩
  obtain ⟨s0, hs0⟩ : ∃ s0, m % 2 * 8 = s0 := ⟨_, rfl⟩
  obtain ⟨ln, hln⟩ : ∃ ln, m / 2 = ln := ⟨_, rfl⟩
  have hdiv : (m : Int) / 2 = (ln : Int) := by omega
  have hmod : (m : Int) % 2 * 8 = (s0 : Int) := by omega
  rw [hln] at hT
  rw [hln, hT] at hTs
  rw [hs0] at h8
  rw [hln, hT] at hline
  rw [hln, hT, hs0] at HPC
  rw [hln, HPC.out] at HST
  have hm2 : m ≤ 1048600 := by omega
  have HPT : Hid (putT T s0 x = T.extract 0 s0 ++ x ++ T.extract (s0 + 8) 16) := Lib.hid (by unfold putT; rw [hTs])
  rw [HPT.out] at HST
  have HF : FitT L 1048600 := fun j hj => by rw [(hok.2.2 j hj).2.2.1]; decide
  have hF := HF
  clear hk1 hl hT hs0 hln hm HPC HPT HF
  have HS := Lib.hid hs
  have HL := Lib.hid hs.len
  have HF := Lib.hid hF
  have hb0 : Below w.heap.size w ((w.alloc (.cells #[.string K, .slice a n c] 26)).alloc (.cells #[.string ⟨#[]⟩, .slice none 0 0] 26)) := ((Below.refl _ _).alloc (Nat.le_refl _) _).alloc (by simp) _
  have k0 : Two ((w.alloc (.cells #[.string K, .slice a n c] 26)).alloc (.cells #[.string ⟨#[]⟩, .slice none 0 0] 26)) w.heap.size (.string K) (.slice a n c) 26 := (Two.alloc w _ _ _).later (below_alloc _ _)
  have k1 : Two ((w.alloc (.cells #[.string K, .slice a n c] 26)).alloc (.cells #[.string ⟨#[]⟩, .slice none 0 0] 26)) (w.heap.size + 1) (.string ⟨#[]⟩) (.slice none 0 0) 26 := by
    have h := Two.alloc (w.alloc (.cells #[.string K, .slice a n c] 26)) (.string ⟨#[]⟩) (.slice none 0 0) 26
    simpa using h
  have k3 : ((w.alloc (.cells #[.string K, .slice a n c] 26)).alloc (.cells #[.string ⟨#[]⟩, .slice none 0 0] 26)).heap.size = w.heap.size + 2 := by simp
  have K0 := Lib.hid k0
  have K1 := Lib.hid k1
  have K3 := Lib.hid k3
  have B0 := Lib.hid hb0
  clear hs hF hb0 k0 k1 k3
  clear HF
  go_enter Try.func54, Try.ntmps54
  go_wp2_with fail
  obtain ⟨W2, hW⟩ : ∃ x, x = (w.alloc (.cells #[.string K, .slice a n c] 26)).alloc (.cells #[.string ⟨#[]⟩, .slice none 0 0] 26) := ⟨_, rfl⟩
  rw [← hW] at K0 K1 K3 B0 ⊢
  clear hW
  refine (hline.out W2 (HS.out.later B0.out)).mono ?_
  rintro e w1 ⟨rfl, hb1⟩
  have T1 := Lib.hid (K0.out.later hb1)
  have R1 := Lib.hid (K1.out.later hb1)
  have B1 : Hid (Below w.heap.size w w1) := Lib.hid (B0.out.trans (hb1.mono B0.out.size))
  have S1 : Hid (w.heap.size + 2 ≤ w1.heap.size) := Lib.hid (by have := hb1.size; rw [K3.out] at this; exact this)
  clear hb1 K0 K1
  have hb8 : (s0 : Int) + 8 ≤ 16 := by omega
  have hb9 : (s0 : Int) ≤ 16 := by omega
  have hb7 : 0 ≤ (s0 : Int) + 8 := by omega
  have hb6 : s0 ≤ 16 := by omega
  have hb5 : s0 + 8 ≤ 16 := by omega
  have hc1 : ¬ (9223372036854775807 < s0 + 8) := by omega
  have hc2 : ¬ (9223372036854775807 < s0 + 8 + (8 - s0)) := by omega
  have hwr8 : IntKind.i64.wrap ((s0 : Int) + 8) = (s0 : Int) + 8 := IntWalk.i64_in _ (by omega)
  have hn8 : ((s0 : Int) + 8).toNat = s0 + 8 := by omega
  have z0 : (w1.alloc (.cells #[.int .i64 ln, .string (T.extract 0 s0 ++ x ++ T.extract (s0 + 8) 16), .bool false] 68)).cell? ⟨w.heap.size, 0, none⟩ = some (.string K) := (T1.out.later (below_alloc _ _)).c0
  obtain ⟨W5, hW5⟩ : ∃ W5, W5 = (w1.alloc (.cells #[.int .i64 ln, .string (T.extract 0 s0 ++ x ++ T.extract (s0 + 8) 16), .bool false] 68)).alloc (.cells #[.string K, .slice none 0 0] 26) := ⟨_, rfl⟩
  have hb15 : Below w1.heap.size w1 W5 := by rw [hW5]; exact (below_alloc _ _).trans ((below_alloc _ _).mono (below_alloc w1 (.cells #[.int .i64 ln, .string (T.extract 0 s0 ++ x ++ T.extract (s0 + 8) 16), .bool false] 68)).size)
  have T5 := Lib.hid (T1.out.later hb15)
  have R5 := Lib.hid (R1.out.later hb15)
  have X5 : Hid (W5.heap[w1.heap.size]? = some (.cells #[.int .i64 ln, .string (T.extract 0 s0 ++ x ++ T.extract (s0 + 8) 16), .bool false] 68 (0, 0))) := Lib.hid (by rw [hW5, Below.heap_alloc _ _ _ (by simp)]; exact heap_alloc_new w1 _)
  have O5 : Hid (BoxM W5 (w1.heap.size + 1) (w1.heap.size + 1) K none 0 0 []) := Lib.hid ⟨by
      rw [hW5]
      have h := Two.alloc (w1.alloc (.cells #[.int .i64 ln, .string (T.extract 0 s0 ++ x ++ T.extract (s0 + 8) 16), .bool false] 68)) (.string K) (.slice none 0 0) 26
      have hsz : (w1.alloc (.cells #[.int .i64 ln, .string (T.extract 0 s0 ++ x ++ T.extract (s0 + 8) 16), .bool false] 68)).heap.size = w1.heap.size + 1 := by simp
      rw [hsz] at h; exact h, nilC _ _, Nat.le_refl _, fun p hp => by cases hp⟩
  have B5 : Hid (Below w.heap.size w W5) := Lib.hid (B1.out.trans (hb15.mono B1.out.size))
  have HW5 := Lib.hid hW5
  clear hb15 hW5
  go_wp2
  go_region_with (fail)
  go_wp2
  obtain ⟨SX, hSX⟩ : ∃ SX, T.extract 0 s0 ++ x ++ T.extract (s0 + 8) 16 = SX := ⟨_, rfl⟩
  rw [hSX] at X5 HST HW5
  have HSX := Lib.hid hSX
  clear z0 hb8 hb9 hb7 hb6 hb5 hc1 hc2 hwr8 hn8 hTs hx hdiv hmod h8 hSX
  go_loopw [12, 13] (fun bv iv wr => ∃ (k p : Nat) (lv : Bool) (P : List C3) (a' : Option Addr) (c' : Nat), k ≤ n ∧ iv = .int .i64 k ∧ bv = .bool lv ∧ p ≤ 2 * k + 1 ∧ Hid (LaidTo ln ⟨(ln : Int), SX, false⟩ L k lv P) ∧ Hid (BoxM wr (w1.heap.size + 1) (w1.heap.size + 1) K a' p c' P) ∧ Hid (Below (w1.heap.size + 1) W5 wr)) (fun _ iv _ => n - (intOf iv).toNat)
  case atStart => exact ⟨0, 0, false, [], none, 0, Nat.zero_le _, rfl, rfl, by omega, Lib.hid (laid_zero _ _ _), Lib.hid (by rw [HSX.out, ← HW5.out]; exact ⟨O5.out.two, O5.out.own, O5.out.low, O5.out.ne⟩), Lib.hid (by rw [HSX.out, ← HW5.out]; exact (Below.refl _ _).drew)⟩
  case round =>
    clear O5
    obtain ⟨k, p, lv, P, a', c', hk, rfl, rfl, hpk, HLD, BX, WB⟩ := hrel
    have BW : Hid (Below w.heap.size w wr) := Lib.hid (B5.out.trans (WB.out.mono (by have := B1.out.size; omega)))
    have Tr : Hid (Two wr w.heap.size (.string K) (.slice a n c) 26) := Lib.hid ((WB.out.block _ (by have := T1.out.lt; omega)).trans T5.out)
    have Rr : Hid (Two wr (w.heap.size + 1) (.string ⟨#[]⟩) (.slice none 0 0) 26) := Lib.hid ((WB.out.block _ (by have := R1.out.lt; omega)).trans R5.out)
    have Xr : Hid (wr.heap[w1.heap.size]? = some (.cells #[.int .i64 ln, .string SX, .bool false] 68 (0, 0))) := Lib.hid ((WB.out.block _ (by omega)).trans X5.out)
    have y0 : wr.cell? ⟨w1.heap.size, 0, none⟩ = some (.int .i64 ln) := by simp [World.cell?, Xr.out]
    have y1 : wr.cell? ⟨w1.heap.size, 1, none⟩ = some (.string SX) := by simp [World.cell?, Xr.out]
    have y2 : wr.cell? ⟨w1.heap.size, 2, none⟩ = some (.bool false) := by simp [World.cell?, Xr.out]
    have z1 := Tr.out.c1
    have x1 := BX.out.two.c1
    have HX := Lib.hid (box_app BX.out (ln : Int) SX false (by omega))
    by_cases hlt : k < n
    · have hkl : Hid (k < L.length) := Lib.hid (by rw [HL.out]; exact hlt)
      obtain ⟨g, off, rfl, hg, d1, d2, d3⟩ := HS.out.cells3_at BW.out (Nat.le_refl _) k hlt
      obtain ⟨x9, hx9⟩ : ∃ x9, L.getD k default = x9 := ⟨_, rfl⟩
      rw [hx9] at d1 d2 d3
      have HX9 := Lib.hid hx9
      clear hx9
      cases lv with
      | false =>
        by_cases hl : x9.l < (ln : Int)
        · have hge : ¬ ((ln : Int) ≤ x9.l) := by omega
          have hne : (x9.l != (ln : Int)) = true := by have : ¬ (x9.l = (ln : Int)) := by omega
                                                       simpa using this
          have HLT := Lib.hid hl
          clear hl
          have HA := Lib.hid (box_app (w := wr.drew) (bo := w1.heap.size + 1) ⟨BX.out.two, BX.out.own, BX.out.low, BX.out.ne⟩ x9.l x9.t x9.f (by omega))
          have x1' : (wr.alloc (.cells #[.int .i64 x9.l, .string x9.t, .bool x9.f] 68)).cell? ⟨w1.heap.size + 1, 1, none⟩ = some (.slice a' p c') := (BX.out.two.later (below_alloc _ _)).c1
          go_wp2
          go_region_law (first
            | (refine step_appE rfl (.tmp 71) (.tmp 77) 24 24 rfl (.slice a' p c') (.slice (some ⟨wr.heap.size, 0, none⟩) 1 1) (by simp [Act.eval]) (by simp [Act.eval]) HA.out ?_
               intro v8 w8 hown8 hgrow8 hat8
               obtain ⟨a8, c8, rfl, hAB8⟩ := app_box (w := wr.drew) ⟨BX.out.two, BX.out.own, BX.out.low, BX.out.ne⟩ _ _ _ hown8 hgrow8 hat8
               have AB8 := Lib.hid hAB8
               have y18 := AB8.out.two.c1
               have y28 := AB8.out.two.fr (o := 1)
               clear hown8 hgrow8 hat8 hAB8))
          all_goals
            have W6 : Hid (Below (w1.heap.size + 1) W5 (w8.setCell ⟨w1.heap.size + 1, 1, none⟩ (.slice a8 (p + 1) c8))) := Lib.hid (((WB.out.drew).trans AB8.out.below).setCell (Nat.le_refl _) _)
            have BX6 := Lib.hid AB8.out.box
            clear HA x1'
            go_wp2
            go_roundw
            case rel => exact ⟨k + 1, p + 1, false, _, a8, c8, by omega, by go_num, rfl, by omega, Lib.hid (by have h := laid_lt hkl.out HLD.out (by rw [HX9.out]; exact HLT.out); rw [HX9.out] at h; exact h), BX6, W6⟩
            case measure => (simp [intOf]; try omega)
        · have hge : (ln : Int) ≤ x9.l := by omega
          have HGE : Hid (¬ x9.l < (ln : Int)) := Lib.hid hl
          clear hl
          by_cases he : x9.l = (ln : Int)
          · have hne : (x9.l != (ln : Int)) = false := by simpa using he
            have HEQ := Lib.hid he
            clear he
            have D1 := Lib.hid ((BW.out.cell (p := ⟨g, off + k * 3, none⟩) hg).symm.trans d1)
            have D2 := Lib.hid ((BW.out.cell (p := ⟨g, off + k * 3 + 1, none⟩) hg).symm.trans d2)
            have D3 := Lib.hid ((BW.out.cell (p := ⟨g, off + k * 3 + 2, none⟩) hg).symm.trans d3)
            go_wp2_with (at_builtin; refine wpList_appE rfl _ _ _ _ rfl _ _ rfl rfl HX.out ?_; intro v2 w2 hown2 hgrow2 hat2; obtain ⟨a3, c3, rfl, hAB⟩ := app_box BX.out (ln : Int) SX false hown2 hgrow2 hat2; have AB := Lib.hid hAB; have y18 := AB.out.two.c1; have y28 := AB.out.two.fr (o := 1); have BX3 := Lib.hid AB.out.box; have WB3 : Hid (Below (w1.heap.size + 1) W5 (w2.setCell ⟨w1.heap.size + 1, 1, none⟩ (.slice a3 (p + 1) c3))) := Lib.hid ((WB.out.trans AB.out.below).setCell (Nat.le_refl _) _); have BWx : Hid (Below w.heap.size w (w2.setCell ⟨w1.heap.size + 1, 1, none⟩ (.slice a3 (p + 1) c3))) := Lib.hid (B5.out.trans (WB3.out.mono (by have := B1.out.size; omega))); have d1'' := (BWx.out.cell (p := ⟨g, off + k * 3, none⟩) hg).trans D1.out; have d2'' := (BWx.out.cell (p := ⟨g, off + k * 3 + 1, none⟩) hg).trans D2.out; have d3'' := (BWx.out.cell (p := ⟨g, off + k * 3 + 2, none⟩) hg).trans D3.out; have z1'' : (w2.setCell ⟨w1.heap.size + 1, 1, none⟩ (.slice a3 (p + 1) c3)).cell? ⟨w.heap.size, 1, none⟩ = some (.slice (some ⟨g, off, none⟩) n c) := Two.c1 ((WB3.out.block _ (by have := T1.out.lt; omega)).trans T5.out); clear hown2 hgrow2 hat2 hAB d1 d2 d3 z1 x1 y0 y1 y2)
            go_roundw
            case rel => exact ⟨k + 1, p + 1, true, _, a3, c3, by omega, by go_num, rfl, by omega, Lib.hid (by
              have h := laid_new hkl.out HLD.out (by rw [HX9.out]; have := HGE.out; omega)
              rw [HX9.out, filter_drop HEQ.out, List.append_nil] at h
              exact h), BX3, WB3⟩
            case measure => (simp [intOf]; try omega)
          · have hne : (x9.l != (ln : Int)) = true := by simpa using he
            have HEQ := Lib.hid he
            clear he
            have D1 := Lib.hid ((BW.out.cell (p := ⟨g, off + k * 3, none⟩) hg).symm.trans d1)
            have D2 := Lib.hid ((BW.out.cell (p := ⟨g, off + k * 3 + 1, none⟩) hg).symm.trans d2)
            have D3 := Lib.hid ((BW.out.cell (p := ⟨g, off + k * 3 + 2, none⟩) hg).symm.trans d3)
            go_wp2_with (at_builtin; refine wpList_appE rfl _ _ _ _ rfl _ _ rfl rfl HX.out ?_; intro v2 w2 hown2 hgrow2 hat2; obtain ⟨a3, c3, rfl, hAB⟩ := app_box BX.out (ln : Int) SX false hown2 hgrow2 hat2; have AB := Lib.hid hAB; have y18 := AB.out.two.c1; have y28 := AB.out.two.fr (o := 1); have BX3 := Lib.hid AB.out.box; have WB3 : Hid (Below (w1.heap.size + 1) W5 (w2.setCell ⟨w1.heap.size + 1, 1, none⟩ (.slice a3 (p + 1) c3))) := Lib.hid ((WB.out.trans AB.out.below).setCell (Nat.le_refl _) _); have BWx : Hid (Below w.heap.size w (w2.setCell ⟨w1.heap.size + 1, 1, none⟩ (.slice a3 (p + 1) c3))) := Lib.hid (B5.out.trans (WB3.out.mono (by have := B1.out.size; omega))); have d1'' := (BWx.out.cell (p := ⟨g, off + k * 3, none⟩) hg).trans D1.out; have d2'' := (BWx.out.cell (p := ⟨g, off + k * 3 + 1, none⟩) hg).trans D2.out; have d3'' := (BWx.out.cell (p := ⟨g, off + k * 3 + 2, none⟩) hg).trans D3.out; have z1'' : (w2.setCell ⟨w1.heap.size + 1, 1, none⟩ (.slice a3 (p + 1) c3)).cell? ⟨w.heap.size, 1, none⟩ = some (.slice (some ⟨g, off, none⟩) n c) := Two.c1 ((WB3.out.block _ (by have := T1.out.lt; omega)).trans T5.out); clear hown2 hgrow2 hat2 hAB d1 d2 d3 z1 x1 y0 y1 y2)
            clear d1'' d2'' d3'' z1''
            obtain ⟨w4, hw4⟩ : ∃ w4, w4 = w2.setCell ⟨w1.heap.size + 1, 1, none⟩ (.slice a3 (p + 1) c3) := ⟨_, rfl⟩
            rw [← hw4] at BX3 WB3 ⊢
            clear hw4 y18 y28
            have BW3 : Hid (Below w.heap.size w w4) := Lib.hid (B5.out.trans (WB3.out.mono (by have := B1.out.size; omega)))
            have e1 := (BW3.out.cell (p := ⟨g, off + k * 3, none⟩) hg).trans D1.out
            have e2 := (BW3.out.cell (p := ⟨g, off + k * 3 + 1, none⟩) hg).trans D2.out
            have e3 := (BW3.out.cell (p := ⟨g, off + k * 3 + 2, none⟩) hg).trans D3.out
            have z4 : w4.cell? ⟨w.heap.size, 1, none⟩ = some (.slice (some ⟨g, off, none⟩) n c) := Two.c1 ((WB3.out.block _ (by have := T1.out.lt; omega)).trans T5.out)
            have x4 := BX3.out.two.c1
            have HA := Lib.hid (box_app (w := w4.drew) (bo := w1.heap.size + 1) ⟨BX3.out.two, BX3.out.own, BX3.out.low, BX3.out.ne⟩ x9.l x9.t x9.f (by omega))
            have x1' : (w4.alloc (.cells #[.int .i64 x9.l, .string x9.t, .bool x9.f] 68)).cell? ⟨w1.heap.size + 1, 1, none⟩ = some (.slice a3 (p + 1) c3) := (BX3.out.two.later (below_alloc _ _)).c1
            go_wp2
            go_region_law (first
              | (refine step_appE rfl (.tmp 71) (.tmp 77) 24 24 rfl (.slice a3 (p + 1) c3) (.slice (some ⟨w4.heap.size, 0, none⟩) 1 1) (by simp [Act.eval]) (by simp [Act.eval]) HA.out ?_
                 intro v8 w8 hown8 hgrow8 hat8
                 obtain ⟨a8, c8, rfl, hAB8⟩ := app_box (w := w4.drew) ⟨BX3.out.two, BX3.out.own, BX3.out.low, BX3.out.ne⟩ _ _ _ hown8 hgrow8 hat8
                 have AB8 := Lib.hid hAB8
                 have y18 := AB8.out.two.c1
                 have y28 := AB8.out.two.fr (o := 1)
                 clear hown8 hgrow8 hat8 hAB8))
            all_goals
              have W6 : Hid (Below (w1.heap.size + 1) W5 (w8.setCell ⟨w1.heap.size + 1, 1, none⟩ (.slice a8 ((p + 1) + 1) c8))) := Lib.hid (((WB3.out.drew).trans AB8.out.below).setCell (Nat.le_refl _) _)
              have BX6 := Lib.hid AB8.out.box
              clear HA x1'
              go_wp2
              go_roundw
              case rel => exact ⟨k + 1, (p + 1) + 1, true, _, a8, c8, by omega, by go_num, rfl, by omega, Lib.hid (by have h := laid_new hkl.out HLD.out (by rw [HX9.out]; have := HGE.out; omega); rw [HX9.out, filter_keep HEQ.out] at h; exact h), BX6, W6⟩
              case measure => (simp [intOf]; try omega)
      | true =>
        by_cases he : x9.l = (ln : Int)
        · have hne : (x9.l != (ln : Int)) = false := by simpa using he
          have HEQ := Lib.hid he
          clear he
          go_wp2
          go_roundw
          case rel => exact ⟨k + 1, p, true, _, a', c', by omega, by go_num, rfl, by omega, Lib.hid (by
            have h := laid_old hkl.out HLD.out
            rw [HX9.out, filter_drop HEQ.out, List.append_nil] at h
            exact h), BX, WB⟩
          case measure => (simp [intOf]; try omega)
        · have hne : (x9.l != (ln : Int)) = true := by simpa using he
          have HEQ := Lib.hid he
          clear he
          have HA := Lib.hid (box_app (w := wr.drew) (bo := w1.heap.size + 1) ⟨BX.out.two, BX.out.own, BX.out.low, BX.out.ne⟩ x9.l x9.t x9.f (by omega))
          have x1' : (wr.alloc (.cells #[.int .i64 x9.l, .string x9.t, .bool x9.f] 68)).cell? ⟨w1.heap.size + 1, 1, none⟩ = some (.slice a' p c') := (BX.out.two.later (below_alloc _ _)).c1
          go_wp2
          go_region_law (first
            | (refine step_appE rfl (.tmp 71) (.tmp 77) 24 24 rfl (.slice a' p c') (.slice (some ⟨wr.heap.size, 0, none⟩) 1 1) (by simp [Act.eval]) (by simp [Act.eval]) HA.out ?_
               intro v8 w8 hown8 hgrow8 hat8
               obtain ⟨a8, c8, rfl, hAB8⟩ := app_box (w := wr.drew) ⟨BX.out.two, BX.out.own, BX.out.low, BX.out.ne⟩ _ _ _ hown8 hgrow8 hat8
               have AB8 := Lib.hid hAB8
               have y18 := AB8.out.two.c1
               have y28 := AB8.out.two.fr (o := 1)
               clear hown8 hgrow8 hat8 hAB8))
          all_goals
            have W6 : Hid (Below (w1.heap.size + 1) W5 (w8.setCell ⟨w1.heap.size + 1, 1, none⟩ (.slice a8 (p + 1) c8))) := Lib.hid (((WB.out.drew).trans AB8.out.below).setCell (Nat.le_refl _) _)
            have BX6 := Lib.hid AB8.out.box
            clear HA x1'
            go_wp2
            go_roundw
            case rel => exact ⟨k + 1, p + 1, true, _, a8, c8, by omega, by go_num, rfl, by omega, Lib.hid (by have h := laid_old hkl.out HLD.out; rw [HX9.out, filter_keep HEQ.out] at h; exact h), BX6, W6⟩
            case measure => (simp [intOf]; try omega)
    · obtain rfl : k = n := by omega
      have hbH := S1.out
      cases lv with
      | true =>
        have HE : Hid (storeL K L m x = P) := Lib.hid (by rw [HST.out]; exact (laid_end_true (by rw [HL.out]; exact HLD.out)).symm)
        clear x1
        have c0 := BX.out.two.c0
        have c1 := BX.out.two.c1
        have r0 := Rr.out.c0
        have r1 := Rr.out.c1
        have f0 := Rr.out.fr (o := 0)
        have f1 := Rr.out.fr (o := 1)
        have q := two_set1 (two_set0 Rr.out (x := .string K)) (x := .slice a' p c')
        have q0 := cell0_of_two q
        have q1 := cell1_of_two q
        have HG := Lib.hid (gives_box (w := w) (b2 := w.heap.size + 1) (u := .string K) (v := .slice a' p c') BX.out (by omega) BW.out (by omega) (fun p hp => by
          obtain ⟨ad9, cap9, hv9, _, _, hpl9⟩ := ownE_form BX.out.own
          cases hv9
          obtain ⟨g9, e9, h9, _⟩ := hpl9 p hp
          rw [e9]; show g9 ≠ w.heap.size + 1; omega))
        clear q
        go_wp2
        refine bodyPost_ret (v := .agg #[.string K, .slice a' p c']) ?_ rfl ⟨_, rfl, by rw [HE.out]; exact HG.out.1, HG.out.2⟩
        simp [results, Try.results54, go_sem, q0, q1]

      | false =>
        have HE : Hid (storeL K L m x = P ++ [⟨(ln : Int), SX, false⟩]) := Lib.hid (by rw [HST.out]; exact (laid_end_false (by rw [HL.out]; exact HLD.out)).symm)
        go_wp2_with (at_builtin; refine wpList_appE rfl _ _ _ _ rfl _ _ rfl rfl HX.out ?_; intro v2 w2 hown2 hgrow2 hat2; obtain ⟨a3, c3, rfl, hAB⟩ := app_box BX.out (ln : Int) SX false hown2 hgrow2 hat2; have AB := Lib.hid hAB; have y18 := AB.out.two.c1; have y28 := AB.out.two.fr (o := 1); have BX3 := Lib.hid AB.out.box; have WB3 : Hid (Below (w1.heap.size + 1) W5 (w2.setCell ⟨w1.heap.size + 1, 1, none⟩ (.slice a3 (p + 1) c3))) := Lib.hid ((WB.out.trans AB.out.below).setCell (Nat.le_refl _) _); have BWx : Hid (Below w.heap.size w (w2.setCell ⟨w1.heap.size + 1, 1, none⟩ (.slice a3 (p + 1) c3))) := Lib.hid (B5.out.trans (WB3.out.mono (by have := B1.out.size; omega))); have Rx : Hid (Two (w2.setCell ⟨w1.heap.size + 1, 1, none⟩ (.slice a3 (p + 1) c3)) (w.heap.size + 1) (.string ⟨#[]⟩) (.slice none 0 0) 26) := Lib.hid ((WB3.out.block _ (by have := R1.out.lt; omega)).trans R5.out)
                     have c0 := BX3.out.two.c0
                     have c1 := BX3.out.two.c1
                     have r0 := Rx.out.c0
                     have r1 := Rx.out.c1
                     have f0 := Rx.out.fr (o := 0)
                     have f1 := Rx.out.fr (o := 1)
                     have q := two_set1 (two_set0 Rx.out (x := .string K)) (x := .slice a3 (p + 1) c3)
                     have q0 := cell0_of_two q
                     have q1 := cell1_of_two q
                     have HG := Lib.hid (gives_box (w := w) (b2 := w.heap.size + 1) (u := .string K) (v := .slice a3 (p + 1) c3) BX3.out (by omega) BWx.out (by omega) (fun p hp => by
                       obtain ⟨ad9, cap9, hv9, _, _, hpl9⟩ := ownE_form BX3.out.own
                       cases hv9
                       obtain ⟨g9, e9, h9, _⟩ := hpl9 p hp
                       rw [e9]; show g9 ≠ w.heap.size + 1; omega))
                     clear q
                     clear hown2 hgrow2 hat2 hAB)
        refine bodyPost_ret (v := .agg #[.string K, .slice a3 (p + 1) c3]) ?_ rfl ⟨_, rfl, by rw [HE.out]; exact HG.out.1, HG.out.2⟩
        simp [results, Try.results54, go_sem, q0, q1]

end Go.Proofs.Ytpahihcnmpeenaa
