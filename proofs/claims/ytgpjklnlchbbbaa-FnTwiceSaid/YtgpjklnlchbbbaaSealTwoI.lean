/- Looking up in a map of texts by pairs of texts; the program's SealedTwice. -/
import Derived.Test.YtgpjklnlchbbbaaSealTwo
import Derived.Test.YtgpjklnlchbbbaaSealMap
import Derived.DeepKeys4
namespace Go
open Go.Maps (Keyed)
theorem plainElem_text_inv {H : Type} {P : Program} {e : TypeId} (he : P.underlying e = some .string) {v : Value} {z : DataW H × List MemPlace} (h : plainElem P e v = some z) : ∃ x : ByteArray, v = .string x ∧ z = (.lit (.string x.data.toList), []) := by
  unfold plainElem at h
  rw [he] at h
  cases v <;> simp at h
  exact ⟨_, rfl, h.2.symm⟩
/-- 'v, ok := m[k]' at texts. -/
theorem wpList_lookup_own_ok_text {H : Type} {P : Program} (w : World) {ops : Array Oper} {rest : List Oper} {o : Oper} {a : Act} {Q : Exit → Act → World → Prop}
    (hg : o.guard = none) (m x : Operand) (t : TypeId) (hop : o.op = Op.lookup t m x true)
    (k e : TypeId) (K : Keyed P k) (ht : P.underlying t = some (.map k e)) (he : P.underlying e = some .string) (hz : (zeroValue e).run P w = .ok (.string ⟨#[]⟩) w) (b n : Nat) (D : DataW H)
    (hm : a.eval m = .map (some b)) (hown : w.ownsMap P k (plainElem P e) b n D) (key : Value) (kl : Lit) (hx : a.eval x = key) (hkey : keyOf P k key = some kl)
    (c : ByteArray) (f : Bool) (hat : D.atKey kl (.lit (.string [])) = .lit (.string c.data.toList)) (hf : Maps.has D kl = f) (hK : wpList P ops Q rest (a.put o.dst (.tuple #[.string c, .bool f])) w) :
    wpList P ops Q (o :: rest) a w :=
  wpList_lookup_own_ok w hg m x t hop k e K ht (plainElem P e) hz (.lit (.string [])) [] (plainElem_string he (by decide)) b n D hm hown key kl hx hkey (fun v ps hv => by
    obtain ⟨d, rfl, hd⟩ := plainElem_text_inv he hv
    rw [hat] at hd
    simp only [Prod.mk.injEq, DataW.lit.injEq, Lit.string.injEq] at hd
    have hdc : d = c := Go.Proofs.Ytgpjklnlchbbbaa.data_inj hd.1.symm
    subst hdc
    rw [hf]
    exact hK)
end Go
namespace Go.Proofs.Ytgpjklnlchbbbaa
open Go.RowKit Go.Maps Go.Proofs.Ytgpjklnlchbbbaa.Parts Go.Proofs.Ytgpjklnlchbbbaa.Hexa

theorem laidAll : laidOutB Try.prog = true := by kernel_rfl
theorem rowUse : (43 : TypeId) < Try.prog.types.size := of_decide_eq_true (by kernel_rfl)
theorem wideUse : (match Try.prog.underlying 43 with | some (.array _ _) | some (.struct _) => true | _ => false) = true := by rw [Try.underlying43]
theorem keyUse : Keyed Try.prog 43 := Keyed.of_law (deep_law_laid laidAll (m := 3) (by omega) rowUse (by kernel_rfl) wideUse)
theorem zeroText (w : World) : (zeroValue 9).run Try.prog w = .ok (.string ⟨#[]⟩) w := by kernel_rfl

theorem keyUse_some {a b : ByteArray} (ha : a.size ≤ maxLen) (hb : b.size ≤ maxLen) : ∃ l, keyOf Try.prog 43 (.agg #[.string a, .string b]) = some l := by
  have hk : Try.prog.keyType 43 = true := by kernel_rfl
  have hc : Try.prog.cellsOf 43 = 2 := by kernel_rfl
  have hs : Try.prog.cellsOf 9 = 1 := by kernel_rfl
  have hf : (Value.agg #[.string a, .string b]).formed Try.prog 43 = true := by simp [Value.formed, Try.underlying43, hc]
  obtain ⟨m, hm⟩ : ∃ m, Try.prog.types.size = m + 1 := ⟨Try.prog.types.size - 1, (Nat.succ_pred_eq_of_pos (Nat.lt_of_le_of_lt (Nat.zero_le _) rowUse)).symm⟩
  unfold keyOf
  rw [Try.underlying43]
  simp only [hk, hf, hm]
  simp [Program.keyLits, Try.underlying43, Try.underlying9, hc, hs, Value.cells, ha, hb]

def pairV (s : S3) : Value := .agg #[.string s.k, .string s.n]
theorem pair_inj {s t : S3} (h : pairV s = pairV t) : s.k = t.k ∧ s.n = t.n := by simpa [pairV] using h

/-- A map that holds the first k texts by their keys and nonces. -/
structure HoldsU (D : DataW Unit) (L : List S3) (k : Nat) : Prop where
  map : IsMap D
  yes : ∀ j, j < k → ∀ l, keyOf Try.prog 43 (pairV (L.getD j default)) = some l → Maps.has D l = true ∧ D.atKey l (.lit (.string [])) = .lit (.string (L.getD j default).t.data.toList)
  no : ∀ (s : S3) l, keyOf Try.prog 43 (pairV s) = some l → (∀ j, j < k → ¬ ((L.getD j default).k = s.k ∧ (L.getD j default).n = s.n)) → Maps.has D l = false ∧ D.atKey l (.lit (.string [])) = .lit (.string [])
theorem holdsU_empty (L : List S3) : HoldsU (.map []) L 0 := ⟨isMap_empty, fun j hj => by omega, fun s l _ _ => ⟨rfl, rfl⟩⟩
theorem HoldsU.put {D : DataW Unit} {L : List S3} {k : Nat} (h : HoldsU D L k) {l : Lit} (hl : keyOf Try.prog 43 (pairV (L.getD k default)) = some l) (hc : Clear L k k) :
    HoldsU (D.put l (.lit (.string (L.getD k default).t.data.toList))) L (k + 1) := by
  have hkl := keyUse.key hl
  refine ⟨h.map.put _ _, fun j hj l' hl' => ?_, fun s l' hl' hn => ?_⟩
  · by_cases e : l' = l
    · subst e
      have he := pair_inj (keyUse.inj hl' hl)
      have ht : (L.getD j default).t = (L.getD k default).t := by
        by_cases hjk : j = k
        · rw [hjk]
        · exact (hc j (by omega) he.1.symm he.2.symm).symm
      rw [ht]
      exact ⟨has_put_same h.map hkl _, atKey_put_same h.map hkl _ _⟩
    · have hjk : j < k := by
        rcases Nat.lt_or_ge j k with h1 | h1
        · exact h1
        · obtain rfl : j = k := by omega
          rw [hl] at hl'
          exact absurd (Option.some.inj hl').symm e
      rw [has_put_other e, atKey_put_other e]
      exact h.yes j hjk l' hl'
  · have e : l' ≠ l := fun e => by
      subst e
      exact hn k (by omega) (pair_inj (keyUse.inj hl hl'))
    rw [has_put_other e, atKey_put_other e]
    exact h.no s l' hl' (fun j hj => hn j (by omega))

/-- What the map holds at the next pair, where nothing clashes with it. -/
theorem holdsU_way {D : DataW Unit} {L : List S3} {k : Nat} {x0 x x2 : ByteArray} {l : Lit} (h : HoldsU D L k) (hy : L.getD k default = ⟨x0, x, x2⟩) (hl : keyOf Try.prog 43 (.agg #[.string x0, .string x]) = some l) (hc : Clear L k k) :
    ∃ (c : ByteArray) (f : Bool), D.atKey l (.lit (.string [])) = .lit (.string c.data.toList) ∧ Maps.has D l = f ∧ (f = true → c = x2) := by
  by_cases he : ∃ j, j < k ∧ (L.getD j default).k = x0 ∧ (L.getD j default).n = x
  · obtain ⟨j, hj, e1, e2⟩ := he
    have h1 := h.yes j hj l (by rw [pairV, e1, e2]; exact hl)
    refine ⟨(L.getD j default).t, true, h1.2, h1.1, fun _ => ?_⟩
    have := hc j hj (by rw [hy, e1]) (by rw [hy, e2])
    rw [hy] at this
    exact this.symm
  · have h1 := h.no ⟨x0, x, x2⟩ l hl (fun j hj hh => he ⟨j, hj, hh.1, hh.2⟩)
    exact ⟨⟨#[]⟩, false, h1.2, h1.1, fun h => by cases h⟩
/-- .. where something clashes with it. -/
theorem holdsU_clash {D : DataW Unit} {L : List S3} {k : Nat} {x0 x x2 : ByteArray} {l : Lit} (h : HoldsU D L k) (hy : L.getD k default = ⟨x0, x, x2⟩) (hl : keyOf Try.prog 43 (.agg #[.string x0, .string x]) = some l) (hc : ¬ Clear L k k) :
    ∃ (c : ByteArray), D.atKey l (.lit (.string [])) = .lit (.string c.data.toList) ∧ Maps.has D l = true ∧ c ≠ x2 ∧ Clash L (k + 1) := by
  have he : ∃ j, j < k ∧ (L.getD k default).k = (L.getD j default).k ∧ (L.getD k default).n = (L.getD j default).n ∧ (L.getD k default).t ≠ (L.getD j default).t := by
    refine Classical.byContradiction fun h1 => hc fun j hj a b => Classical.byContradiction fun h2 => h1 ⟨j, hj, a, b, h2⟩
  obtain ⟨j, hj, e1, e2, e3⟩ := he
  have h1 := h.yes j hj l (by rw [pairV, ← e1, ← e2, hy]; exact hl)
  refine ⟨(L.getD j default).t, h1.2, h1.1, fun e => e3 (by rw [e, hy]), k, j, by omega, by omega, e1, e2, e3⟩

theorem block_cell {w1 wr : World} {M g : Nat} {v0 v1 v2 : Value} {t : TypeId} (hg : wr.heap[g]? = some (.cells #[v0, v1, v2] t)) (hne : M < g) (h : wr.grownBy w1 (some M)) : w1.heap[g]? = some (.cells #[v0, v1, v2] t) := by
  rw [h.block g (Array.getElem?_eq_some_iff.1 hg).1 (by simp; omega), hg]

set_option maxRecDepth 100000 in
set_option maxHeartbeats 4000000 in
theorem implTwice_any (a : Option Addr) (n c : Nat) (L : List S3) (w : World) (hs : SrcS w a n L) (hn : n ≤ 1048580) (hsz : ∀ j, j < n → (L.getD j default).k.size ≤ 1048576 ∧ (L.getD j default).n.size ≤ 1048576 ∧ (L.getD j default).t.size ≤ 1048576) :
    Calls Try.prog 9 #[.slice a n c] w fun e w' => e = .returned (.bool (clashB L n)) ∧ Below w.heap.size w w' := by
  have HS := Lib.hid hs
  have HZ := Lib.hid hsz
  clear hs hsz
  have hmm := @run_makeMap Try.prog
  go_enter Try.func9, Try.ntmps9
  go_wp2
  go_loopw [12] (fun iv wr => ∃ (k : Nat) (D : DataW Unit), k ≤ n ∧ iv = .int .i64 k ∧ Hid (¬ Clash L k) ∧ Hid (HoldsU D L k) ∧ Hid (wr.ownsMap Try.prog 43 (plainElem Try.prog 9) w.heap.size k D) ∧ Below w.heap.size w wr ∧ w.heap.size + 1 ≤ wr.heap.size)
    (fun iv _ => n - (intOf iv).toNat)
  case atStart => exact ⟨0, .map [], Nat.zero_le _, rfl, Lib.hid (clash_zero L), Lib.hid (holdsU_empty L), Lib.hid (World.ownsMap_made _ _ _ _), (Below.refl _ _).alloc (Nat.le_refl _) _, by simp⟩
  case round =>
    clear hmm
    obtain ⟨k, D, hk, rfl, HC, HT, HM, hbel, hsz1⟩ := hrel
    by_cases hlt : k < n
    · obtain ⟨g, off, rfl, hg, c1, c2, c3⟩ := HS.out.cell k hlt
      have d1 := (hbel.cell (p := ⟨g, off + k * 3, none⟩) hg).trans c1
      have d2 := (hbel.cell (p := ⟨g, off + k * 3 + 1, none⟩) hg).trans c2
      have d3 := (hbel.cell (p := ⟨g, off + k * 3 + 2, none⟩) hg).trans c3
      have hxs := HZ.out k hlt
      obtain ⟨y, hy⟩ : ∃ y, L.getD k default = y := ⟨_, rfl⟩
      rw [hy] at d1 d2 d3 hxs
      have HY := Lib.hid hy
      clear c1 c2 c3 hy
      obtain ⟨x0, x, x2⟩ := y
      simp only at d1 d2 d3 hxs
      obtain ⟨l, hl⟩ := keyUse_some (a := x0) (b := x) (by unfold maxLen; omega) (by unfold maxLen; omega)
      have HKY := Lib.hid hl
      clear hl
      have HM0 := Lib.hid ((HM.out.alloc (.cells #[.string x0, .string x, .string x2] 29)).alloc (.cells #[.string x0, .string x] 43))
      have HB := Lib.hid ((hbel.alloc hbel.size (.cells #[.string x0, .string x, .string x2] 29)).alloc (by simp; omega) (.cells #[.string x0, .string x] 43))
      by_cases hcl : Clear L k k
      · have HN := Lib.hid (clash_step HC.out hcl)
        have HT2 : Hid (HoldsU (D.put l (.lit (.string x2.data.toList))) L (k + 1)) := Lib.hid (by have := HT.out.put (l := l) (by rw [HY.out]; exact HKY.out) hcl; rw [HY.out] at this; exact this)
        have hway : ∃ (c : ByteArray) (f : Bool), D.atKey l (.lit (.string [])) = .lit (.string c.data.toList) ∧ Maps.has D l = f ∧ (f = true → c = x2) := by
          have := holdsU_way HT.out HY.out HKY.out hcl
          exact this
        obtain ⟨c0, f, hat, hf, hcf⟩ := hway
        have HAT := Lib.hid hat
        have HF := Lib.hid hf
        clear hat hf hcl
        cases f with
        | true =>
          obtain rfl := hcf rfl
          clear hcf
          go_wp2_with (first
            | (at_lookup; refine wpList_lookup_own_ok_text _ rfl _ _ 41 rfl 43 9 keyUse Try.underlying41 Try.underlying9 (zeroText _) w.heap.size k D rfl HM0.out _ _ rfl HKY.out _ true HAT.out HF.out ?_)
            | (at_mapUpdate; refine wpList_mapUpdate_own _ rfl _ _ _ 41 rfl 43 9 keyUse Try.underlying41 (plainElem Try.prog 9) w.heap.size k D rfl HM0.out (by unfold maxLen; omega) _ _ _ rfl rfl HKY.out _ [] (plainElem_string Try.underlying9 (by unfold maxLen; omega)) ?_; intro w1 hown1 hgrow1)
            | go_in)
          have HM1 := Lib.hid hown1
          have hb1 : Below w.heap.size w w1 := HB.out.grown hgrow1 (by simp; omega) (fun g hg => by cases hg; exact Nat.le_refl _)
          have hs1 : w.heap.size + 1 ≤ w1.heap.size := by have := hgrow1.size; simp at this; omega
          clear hown1 hgrow1 HM0 HM HB HAT HKY HF
          go_roundw
          case rel => exact ⟨k + 1, _, by omega, by go_num, HN, HT2, HM1, hb1, hs1⟩
          case measure => (simp [intOf]; try omega)
        | false =>
          clear hcf
          go_wp2_with (first
            | (at_lookup; refine wpList_lookup_own_ok_text _ rfl _ _ 41 rfl 43 9 keyUse Try.underlying41 Try.underlying9 (zeroText _) w.heap.size k D rfl HM0.out _ _ rfl HKY.out _ false HAT.out HF.out ?_)
            | (at_mapUpdate; refine wpList_mapUpdate_own _ rfl _ _ _ 41 rfl 43 9 keyUse Try.underlying41 (plainElem Try.prog 9) w.heap.size k D rfl HM0.out (by unfold maxLen; omega) _ _ _ rfl rfl HKY.out _ [] (plainElem_string Try.underlying9 (by unfold maxLen; omega)) ?_; intro w1 hown1 hgrow1)
            | go_in)
          have HM1 := Lib.hid hown1
          have hb1 : Below w.heap.size w w1 := HB.out.grown hgrow1 (by simp; omega) (fun g hg => by cases hg; exact Nat.le_refl _)
          have hs1 : w.heap.size + 1 ≤ w1.heap.size := by have := hgrow1.size; simp at this; omega
          clear hown1 hgrow1 HM0 HM HB HAT HKY HF
          go_roundw
          case rel => exact ⟨k + 1, _, by omega, by go_num, HN, HT2, HM1, hb1, hs1⟩
          case measure => (simp [intOf]; try omega)
      · obtain ⟨c0, hat, hf, hne, hcl⟩ := holdsU_clash HT.out HY.out HKY.out hcl
        have HAT := Lib.hid hat
        have HF := Lib.hid hf
        have q1 := text_ne hne
        have q2 := text_ne' hne
        have HR := Lib.hid (clashB_yes (clash_mono (m := n) (by omega) hcl))
        clear hat hf hne hcl
        go_wp2_with (first
            | (at_lookup; refine wpList_lookup_own_ok_text _ rfl _ _ 41 rfl 43 9 keyUse Try.underlying41 Try.underlying9 (zeroText _) w.heap.size k D rfl HM0.out _ _ rfl HKY.out _ true HAT.out HF.out ?_)
            | (at_mapUpdate; refine wpList_mapUpdate_own _ rfl _ _ _ 41 rfl 43 9 keyUse Try.underlying41 (plainElem Try.prog 9) w.heap.size k D rfl HM0.out (by unfold maxLen; omega) _ _ _ rfl rfl HKY.out _ [] (plainElem_string Try.underlying9 (by unfold maxLen; omega)) ?_; intro w1 hown1 hgrow1)
            | go_in)
        go_ret
        exact ⟨ret_bool HR.out.symm, HB.out⟩
    · obtain rfl : k = n := by omega
      have HR := Lib.hid (clashB_no HC.out)
      go_wp2
      go_ret
      exact ⟨ret_bool HR.out.symm, hbel⟩
end Go.Proofs.Ytgpjklnlchbbbaa
