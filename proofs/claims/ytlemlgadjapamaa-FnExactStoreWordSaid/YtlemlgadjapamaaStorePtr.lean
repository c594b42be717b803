/- The program's store, behind a pointer. -/
import Derived.Test.YtlemlgadjapamaaFlushPtr
import Derived.Test.YtlemlgadjapamaaIns
namespace Go.Proofs.Ytlemlgadjapamaa
open Go.RowKit Go.Proofs.Ytlemlgadjapamaa.Parts Go.Proofs.Ytlemlgadjapamaa.Hexa

theorem sets_heap {g b : Nat} (hne : b ≠ g) : ∀ (vs : List Value) (o : Nat) (w : World), (w.setCells g o vs).heap[b]? = w.heap[b]?
  | [], _, _ => rfl
  | v :: r, o, w => (sets_heap hne r (o + 1) _).trans (Below.heap_setCell w ⟨g, o, none⟩ v b hne)
theorem BoxM.sets {w : World} {M b : Nat} {K : ByteArray} {g n c : Nat} {L : List C3} (h : BoxM w M b K (some ⟨g, 0, none⟩) n c L) (p : Nat) (x : C3) (hp : p < L.length) : BoxM (w.setCells g (p * 3) (encC.cells x)) M b K (some ⟨g, 0, none⟩) n c (L.set p x) :=
  ⟨(sets_heap (fun e => h.ne _ rfl e.symm) _ _ _).trans h.two, by rw [← cellsE_set encC L p x hp]; exact own_sets _ _ h.own, h.low, h.ne⟩
theorem BoxM.setNew {w : World} {M b : Nat} {K : ByteArray} {u : Value} {a : Option Addr} {n c : Nat} {L : List C3} (hT : Two w b (.string K) u 26) (ho : w.ownsRow M 68 3 (.slice a n c) n (cellsE encC L)) (hl : M ≤ b) (hne : ∀ p, a = some p → p.block ≠ b) : BoxM (w.setCell ⟨b, 1, none⟩ (.slice a n c)) M b K a n c L :=
  ⟨two_set1 hT, ownsRow_setCell_other ho (by
    cases a with
    | none => simp [Value.ownBlock]
    | some p => have := hne p rfl; simpa [Value.ownBlock] using this) _, hl, hne⟩

/-- What a store gives, behind the pointer. -/
def StorePost (M b : Nat) (K : ByteArray) (L : List C3) (m : Nat) (x : ByteArray) (w : World) (e : Ending) (w' : World) : Prop :=
  e = .returned (.tuple #[]) ∧ ∃ a' n' c', BoxM w' M b K a' n' c' (storeL K L m x) ∧ Below M w w'

set_option maxRecDepth 100000 in
set_option maxHeartbeats 2000000 in
theorem store_any (M b : Nat) (K : ByteArray) (a : Option Addr) (n c : Nat) (L : List C3) (m : Nat) (x : ByteArray) (w : World) (hB : BoxM w M b K a n c L) (hn : n ≤ 1048600) (hok : MemOk K L) (hm : m < K.size / 8) (hx : x.size = 8) :
    Calls Try.prog 50 #[.pointer (some ⟨b, 0, none⟩), .int .i64 m, .string x] w (StorePost M b K L m x w) := by
  have hk1 := hok.1
  have hk2 := hok.2.1
  have hl : m / 2 < K.size / 16 := by omega
  have hTs := lineT_size hok hl
  have hws := Lib.hid fun w => wordStart_any m (m : Int) w rfl (by omega)
  have hcur := Lib.hid fun (w : World) (hB : BoxM w M b K a n c L) => current_any b K a n c L (m / 2) ((m / 2 : Nat) : Int) w rfl hB.two hB.src hn hok hl
  have HPC : Hid (putC K L m x = ⟨((m / 2 : Nat) : Int), putT (lineT K L (m / 2)) (m % 2 * 8) x, false⟩) := Lib.hid rfl
  have HST : Hid (storeL K L m x = insL ((m / 2 : Nat) : Int) (putC K L m x) L) := Lib.hid rfl
  have h8 : m % 2 * 8 ≤ 8 := by omega
  obtain ⟨T, hT⟩ : ∃ T, lineT K L (m / 2) = T := ⟨_, rfl⟩
  obtain ⟨s0, hs0⟩ : ∃ s0, m % 2 * 8 = s0 := ⟨_, rfl⟩
  obtain ⟨ln, hln⟩ : ∃ ln, m / 2 = ln := ⟨_, rfl⟩
  have hdiv : (m : Int) / 2 = (ln : Int) := by omega
  rw [hln] at hT
  rw [hln, hT] at hTs
  rw [hs0] at hws h8
  rw [hln, hT] at hcur
  rw [hln, hT, hs0] at HPC
  rw [hln, HPC.out] at HST
  have hm2 : m ≤ 1048600 := by omega
  have HB := Lib.hid hB
  have HOK := Lib.hid hok
  have HL := Lib.hid hB.len
  clear hB hok hk1 hl hT hs0 hln hm HPC
  have hPT : Hid (putT T s0 x = T.extract 0 s0 ++ x ++ T.extract (s0 + 8) T.size) := Lib.hid rfl
  go_enter Try.func50, Try.ntmps50
  go_wp2_with fail
  refine (hws.out w).mono ?_
  rintro e w0 ⟨rfl, rfl⟩
  go_wp2_with fail
  refine (hcur.out _ HB.out).mono ?_
  rintro e w1 ⟨rfl, hb1⟩
  have B1 := Lib.hid (HB.out.later hb1)
  have BB1 := Lib.hid (hb1.mono HB.out.lowM)
  clear hb1
  have hb8 : (s0 : Int) + 8 ≤ 16 := by omega
  have hb9 : (s0 : Int) ≤ 16 := by omega
  have hb7 : 0 ≤ (s0 : Int) + 8 := by omega
  have hb6 : s0 ≤ 16 := by omega
  have hb5 : s0 + 8 ≤ 16 := by omega
  have hc1 : ¬ (9223372036854775807 < s0 + 8) := by omega
  have hc2 : ¬ (9223372036854775807 < s0 + 8 + (8 - s0)) := by omega
  have hwr8 : IntKind.i64.wrap ((s0 : Int) + 8) = (s0 : Int) + 8 := IntWalk.i64_in _ (by omega)
  have hn8 : ((s0 : Int) + 8).toNat = s0 + 8 := by omega
  have HPT : Hid (putT T s0 x = T.extract 0 s0 ++ x ++ T.extract (s0 + 8) 16) := Lib.hid (by rw [hPT.out, hTs])
  rw [HPT.out] at HST
  have hbd : Below w1.heap.size w1 (w1.drew.alloc (.cells #[.int .i64 ln, .string (T.extract 0 s0 ++ x ++ T.extract (s0 + 8) 16), .bool false] 68)) := (Below.refl _ _).drew.alloc (Nat.le_refl _) _
  have B2 := Lib.hid (B1.out.later hbd)
  have BB2 := Lib.hid (BB1.out.trans (hbd.mono B1.out.lowM))
  have X2 : Hid ((w1.drew.alloc (.cells #[.int .i64 ln, .string (T.extract 0 s0 ++ x ++ T.extract (s0 + 8) 16), .bool false] 68)).heap[w1.heap.size]? = some (.cells #[.int .i64 ln, .string (T.extract 0 s0 ++ x ++ T.extract (s0 + 8) 16), .bool false] 68 (0, 0))) := Lib.hid (heap_alloc_new w1.drew _)
  have Q2 : Hid (w1.heap.size < (w1.drew.alloc (.cells #[.int .i64 ln, .string (T.extract 0 s0 ++ x ++ T.extract (s0 + 8) 16), .bool false] 68)).heap.size) := Lib.hid (lt_of_block X2.out)
  clear hbd
  go_wp2
  go_region_with (fail)
  go_wp2_with fail
  refine (cellOf_any b K a n c L ln (w1.drew.alloc (.cells #[.int .i64 ln, .string (T.extract 0 s0 ++ x ++ T.extract (s0 + 8) 16), .bool false] 68)) B2.out.two B2.out.src hn HOK.out).mono ?_
  rintro e w2 ⟨p, hp, rfl, hb2⟩
  obtain ⟨SX, hSX⟩ : ∃ SX, T.extract 0 s0 ++ x ++ T.extract (s0 + 8) 16 = SX := ⟨_, rfl⟩
  obtain ⟨X, hX⟩ : ∃ X : C3, X = ⟨(ln : Int), SX, false⟩ := ⟨_, rfl⟩
  rw [hSX, ← hX] at HST
  have X3 : Hid (w2.heap[w1.heap.size]? = some (.cells #[.int .i64 ln, .string SX, .bool false] 68 (0, 0))) := Lib.hid (by rw [← hSX]; exact (hb2.block _ Q2.out).trans X2.out)
  have B3 := Lib.hid (B2.out.later hb2)
  have BB3 := Lib.hid (BB2.out.trans (hb2.mono B2.out.lowM))
  have HP := Lib.hid hp
  have y0 : w2.cell? ⟨w1.heap.size, 0, none⟩ = some (.int .i64 ln) := by simp [World.cell?, X3.out]
  have y1 : w2.cell? ⟨w1.heap.size, 1, none⟩ = some (.string SX) := by simp [World.cell?, X3.out]
  have y2 : w2.cell? ⟨w1.heap.size, 2, none⟩ = some (.bool false) := by simp [World.cell?, X3.out]
  have q1 := B3.out.two.c1
  have HXX := Lib.hid hX
  have hpn := HP.out.le
  rw [HL.out] at hpn
  rw [hSX]
  clear hp hb2 hSX hX hb8 hb9 hb7 hb6 hb5 hc1 hc2 hwr8 hn8 hTs hx hdiv h8
  cases hfb : foundB L ln p with
  | true =>
    have hf := hfb
    unfold foundB at hf
    have hf := of_decide_eq_true hf
    have HE : Hid (storeL K L m x = L.set p X) := Lib.hid (by rw [HST.out]; exact ins_found HOK.out HP.out hf.1 hf.2)
    have hpn2 : p < n := by have := HL.out; omega
    have HPL := Lib.hid hf.1
    clear hfb hf
    obtain ⟨ad, cap, hv, _, _, hpl⟩ := ownE_form B3.out.own
    cases hv
    have han : ∃ g, a = some ⟨g, 0, none⟩ := by
      cases a with
      | none =>
        rcases B3.out.own.2 with ⟨_, h0⟩ | ⟨g', cap', cur, h', _⟩
        · omega
        · simp at h'
      | some q =>
        obtain ⟨g0, e0, _⟩ := hpl _ rfl
        exact ⟨g0, by rw [e0]⟩
    obtain ⟨g, rfl⟩ := han
    obtain ⟨v1, e1⟩ := ownE_cell B3.out.own (j := p * 3) (by omega)
    obtain ⟨v2, e2⟩ := ownE_cell B3.out.own (j := p * 3 + 1) (by omega)
    obtain ⟨v3, e3⟩ := ownE_cell B3.out.own (j := p * 3 + 2) (by omega)
    have f1 := B3.out.own.frozenAt (p * 3)
    have f2 := B3.out.own.frozenAt (p * 3 + 1)
    have f3 := B3.out.own.frozenAt (p * 3 + 2)
    have B4 : Hid (BoxM (w2.drew.setCells g (p * 3) (encC.cells X)) M b K (some ⟨g, 0, none⟩) n c (storeL K L m x)) := Lib.hid (by
      rw [HE.out]
      exact BoxM.sets (w := w2.drew) ⟨B3.out.two, B3.out.own, B3.out.low, B3.out.ne⟩ p X HPL.out)
    have BB4 : Hid (Below M w0 (w2.drew.setCells g (p * 3) (encC.cells X))) := Lib.hid (below_sets B3.out.base _ _ BB3.out.drew)
    rw [HXX.out] at B4 BB4
    clear hpl
    go_wp2
    go_still_tail 7, (by kernel_rfl)
    change wpList _ _ _ _ _ w2.drew
    go_wp2
    exact end_void rfl rfl ⟨rfl, _, _, _, B4.out, BB4.out⟩
  | false =>
    have hf := hfb
    unfold foundB at hf
    have hf := of_decide_eq_false hf
    have HE : Hid (storeL K L m x = L.take p ++ X :: L.drop p) := Lib.hid (by rw [HST.out]; exact ins_new HP.out (HP.out.lost HOK.out hf))
    clear hfb hf
    have hbd : Below w2.heap.size w2 (w2.drew.alloc (.cells #[.int .i64 ln, .string SX, .bool false] 68)) := (Below.refl _ _).drew.alloc (Nat.le_refl _) _
    have B4 := Lib.hid (B3.out.later hbd)
    have BB4 := Lib.hid (BB3.out.trans (hbd.mono B3.out.lowM))
    have X4 : Hid ((w2.drew.alloc (.cells #[.int .i64 ln, .string SX, .bool false] 68)).heap[w2.heap.size]? = some (.cells #[.int .i64 X.l, .string X.t, .bool X.f] 68 (0, 0))) := Lib.hid (by rw [HXX.out]; exact heap_alloc_new w2.drew _)
    have NE4 : Hid (∀ q, a = some q → w2.heap.size ≠ q.block) := Lib.hid (fun q hq => by
      obtain ⟨ad, cap, hv, _, _, hpl⟩ := ownE_form B3.out.own
      cases hv
      obtain ⟨g0, e0, _, hg0⟩ := hpl _ hq
      rw [e0]; show w2.heap.size ≠ g0; omega)
    have z1' : (w2.alloc (.cells #[.int .i64 ln, .string SX, .bool false] 68)).cell? ⟨b, 1, none⟩ = some (.slice a n c) := B4.out.two.c1
    have hcall := Lib.hid (insert_any M a n c p w2.heap.size L X _ B4.out.own B4.out.lowM hn hpn X4.out NE4.out)
    have HT4 : Hid (∀ w3 : World, (w2.drew.alloc (.cells #[.int .i64 ln, .string SX, .bool false] 68)).grownBy w3 (Value.slice a n c).ownBlock → Two w3 b (.string K) (.slice a n c) 26) := Lib.hid (fun w3 hg => (hg.block _ B4.out.two.lt (fun e => by
      cases a with
      | none => simp [Value.ownBlock] at e
      | some q => exact B4.out.ne q rfl (by simpa [Value.ownBlock] using e.symm))).trans B4.out.two)
    clear hbd
    go_wp2
    go_region_with (first
      | (go_at_call 80; refine hcall.out.mono ?_; rintro e w3 ⟨v3, rfl, hown3, hgr3, hat3⟩
         obtain ⟨a3, c3, rfl, _, _, _⟩ := ownE_form hown3
         have T3 := Lib.hid (HT4.out w3 hgr3)
         have t1 := T3.out.c1
         have t2 := T3.out.fr (o := 1)
         have O3 := Lib.hid hown3
         have G3 := Lib.hid hgr3
         have A3 := Lib.hid hat3
         clear hown3 hgr3 hat3))
    all_goals
      have hne3 : ∀ q, a3 = some q → q.block ≠ b := fun q hq e => by
        rcases A3.out with h | h
        · rw [hq] at h
          have h' : (Value.slice a n c).ownBlock = some q.block := h.symm
          cases a with
          | none => simp [Value.ownBlock] at h'
          | some r => exact B4.out.ne r rfl (by rw [← e]; simpa [Value.ownBlock] using h')
        · rw [hq] at h
          have h' : q.block = (w2.drew.alloc (.cells #[.int .i64 ln, .string SX, .bool false] 68)).heap.size := by simpa [Value.ownBlock] using h
          have h3 := B4.out.two.lt
          omega
      have B5 : Hid (BoxM (w3.setCell ⟨b, 1, none⟩ (.slice a3 (n + 1) c3)) M b K a3 (n + 1) c3 (storeL K L m x)) := Lib.hid (by
        rw [HE.out]
        exact BoxM.setNew T3.out O3.out B4.out.low hne3)
      have BB5 : Hid (Below M w0 (w3.setCell ⟨b, 1, none⟩ (.slice a3 (n + 1) c3))) := Lib.hid ((BB4.out.grown G3.out B4.out.lowM (fun q hq => (B4.out.own.lt q hq).1)).setCell (by exact B4.out.low) _)
      clear hne3
      go_wp2
      exact end_void rfl rfl ⟨rfl, _, _, _, B5.out, BB5.out⟩
end Go.Proofs.Ytlemlgadjapamaa
