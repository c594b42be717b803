/- Merged texts: SealDef, SealClone, SealMap, SealTwoI, SealsLaw, ShaTab, MixShape. -/
import Derived.Test.YtgpjklnlchbbbaaGreatDoorP9K
import Derived.Deep.AppendLies
import Derived.Test.YtgpjklnlchbbbaaGreatDoorShelf
import Derived.Maps.OwnSet
import Derived.Maps.OwnOps
import Derived.Maps.Views
import Derived.Carry
import Derived.DeepKeys4
import Derived.Lib.LaidTab
import Derived.HandedShaped
import Derived.LaidMore
import Derived.ChangeVars
namespace Go.Proofs.YtgpjklnlchbbbaaGreatDoor
open Go.RowKit Go.Proofs.YtgpjklnlchbbbaaGreatDoor.Parts Go.Proofs.YtgpjklnlchbbbaaGreatDoor.Hexa

theorem ret_bool {a b : Bool} (h : a = b) : Ending.returned (.bool a) = .returned (.bool b) := by rw [h]

theorem infoStr : (Tryz.prog.info? 9).map (fun i => (i.zero, i.size, i.bytes)) = some (some (.string ⟨#[]⟩), 1, 16) := by kernel_rfl

/-- What a call of NoncesOf gives: some slice that owns these texts. -/
def GivesT (P : List ByteArray) (w : World) (e : Ending) (w' : World) : Prop :=
  ∃ v, e = .returned v ∧ w'.ownsRow w.heap.size 9 1 v P.length (scells P) ∧ Below w.heap.size w w'

/-- Nothing among the first k clashes with sealing i. -/
def Clear (L : List S3) (i k : Nat) : Prop := ∀ j, j < k → (L.getD i default).k = (L.getD j default).k → (L.getD i default).n = (L.getD j default).n → (L.getD i default).t = (L.getD j default).t
theorem clear_zero (L : List S3) (i : Nat) : Clear L i 0 := fun j hj => by omega
theorem clear_step {L : List S3} {i k : Nat} (h : Clear L i k) (hk : (L.getD i default).k = (L.getD k default).k → (L.getD i default).n = (L.getD k default).n → (L.getD i default).t = (L.getD k default).t) : Clear L i (k + 1) := fun j hj a b => by
  by_cases e : j = k
  · subst e; exact hk a b
  · exact h j (by omega) a b

theorem below_drew3 (B : Nat) (w : World) (m : Nat) : Below B w (w.drewN m) := ⟨rfl, rfl, rfl, Nat.le_refl _, fun _ _ => rfl⟩

end Go.Proofs.YtgpjklnlchbbbaaGreatDoor
namespace Go.Proofs.YtgpjklnlchbbbaaGreatDoor
open Go.RowKit Go.Proofs.YtgpjklnlchbbbaaGreatDoor.Parts Go.Proofs.YtgpjklnlchbbbaaGreatDoor.Hexa

set_option maxRecDepth 100000 in
set_option maxHeartbeats 400000 in
theorem textClone_any (s : ByteArray) (w : World) (hs : s.size ≤ 1048576) :
    Calls Tryz.prog 18 #[.string s] w fun e w' => e = .returned (.string s) ∧ Below w.heap.size w w' := by
  go_enter Tryz.func18, Tryz.ntmps18
  go_wp2_with (go_at_call 29; refine (Tryz.stringslite_Clone _ _ (by omega)).mono ?_; rintro e w1 ⟨rfl, hb1⟩)
  go_ret
  exact ⟨rfl, hb1⟩
end Go.Proofs.YtgpjklnlchbbbaaGreatDoor
namespace Go
open Go.Maps (Keyed)
/-- What reads as a truth is one. -/
theorem plainElem_bool_inv {H : Type} {P : Program} {e : TypeId} (he : P.underlying e = some .bool) {v : Value} {z : DataW H × List MemPlace} (h : plainElem P e v = some z) : ∃ x, v = .bool x ∧ z = (.lit (.bool x), []) := by
  unfold plainElem at h
  rw [he] at h
  cases v <;> simp at h
  exact ⟨_, rfl, h.symm⟩
/-- Looking up a truth. -/
theorem wpList_lookup_own_bool {H : Type} {P : Program} (w : World) {ops : Array Oper} {rest : List Oper} {o : Oper} {a : Act} {Q : Exit → Act → World → Prop}
    (hg : o.guard = none) (m x : Operand) (t : TypeId) (hop : o.op = Op.lookup t m x false)
    (k e : TypeId) (K : Keyed P k) (ht : P.underlying t = some (.map k e)) (he : P.underlying e = some .bool) (hz : (zeroValue e).run P w = .ok (.bool false) w) (b n : Nat) (D : DataW H)
    (hm : a.eval m = .map (some b)) (hown : w.ownsMap P k (plainElem P e) b n D) (key : Value) (kl : Lit) (hx : a.eval x = key) (hkey : keyOf P k key = some kl)
    (c : Bool) (hat : D.atKey kl (.lit (.bool false)) = .lit (.bool c)) (hK : wpList P ops Q rest (a.put o.dst (.bool c)) w) :
    wpList P ops Q (o :: rest) a w := by
  refine wpList_plain hg fun K' hK' => ?_
  obtain ⟨v, ps, hrun, hv⟩ := hown.lookup K ht hz (plainElem_bool he false) hkey
  obtain ⟨d, rfl, hd⟩ := plainElem_bool_inv he hv
  rw [hat] at hd
  simp only [Prod.mk.injEq, DataW.lit.injEq, Lit.bool.injEq] at hd
  obtain ⟨rfl, _⟩ := hd
  unfold Oper.wp
  simp [execOp, hop, hm, hx, hrun, Result.andThen]
  exact hK' _ _ hK
end Go
namespace Go.Proofs.YtgpjklnlchbbbaaGreatDoor
open Go.RowKit Go.Maps Go.Proofs.YtgpjklnlchbbbaaGreatDoor.Parts Go.Proofs.YtgpjklnlchbbbaaGreatDoor.Hexa

theorem keyText : Keyed Tryz.prog 9 := string_keyed Tryz.underlying9
theorem zeroBool (w : World) : (zeroValue 4).run Tryz.prog w = .ok (.bool false) w := by kernel_rfl
theorem lit_text {a b : ByteArray} (h : a ≠ b) : Lit.string a.data.toList ≠ Lit.string b.data.toList := fun e => h (data_inj (by simpa using e))

/-- A map that tells which texts are in a list. -/
def Tells (D : DataW Unit) (P : List ByteArray) : Prop := IsMap D ∧ ∀ y : ByteArray, D.atKey (.string y.data.toList) (.lit (.bool false)) = .lit (.bool (decide (y ∈ P)))
theorem tells_empty : Tells (.map []) [] := ⟨isMap_empty, fun y => by rw [decide_eq_false (by simp)]; rfl⟩
theorem Tells.put {D : DataW Unit} {P : List ByteArray} (h : Tells D P) (x : ByteArray) : Tells (D.put (.string x.data.toList) (.lit (.bool true))) (P ++ [x]) := by
  refine ⟨h.1.put _ _, fun y => ?_⟩
  by_cases e : y = x
  · subst e
    rw [atKey_put_same (k := .string y.data.toList) h.1 trivial, decide_eq_true (by simp)]
  · rw [atKey_put_other (lit_text e), h.2 y]
    congr 2
    by_cases hy : y ∈ P
    · rw [decide_eq_true hy, decide_eq_true (by simp [hy])]
    · rw [decide_eq_false hy, decide_eq_false (by simp [hy, e])]

/-- The loop's variable stands, whatever the map's block has become. -/
theorem nonce_cell {w1 wr : World} {M : Nat} {x0 x x2 : ByteArray} {t : TypeId} (h : (wr.alloc (.cells #[.string x0, .string x, .string x2] t)).grownBy w1 (some M)) (hne : M + 1 ≤ wr.heap.size) : w1.cell? ⟨wr.heap.size, 1, none⟩ = some (.string x) := by
  rw [World.cell?_of_block (w := wr.alloc (.cells #[.string x0, .string x, .string x2] t)) (h.block wr.heap.size (by simp) (by simp; omega))]
  have h1 := (MapKept.heap_alloc wr (.cells #[.string x0, .string x, .string x2] t)).1
  unfold World.cell?
  simp only [h1]
  rfl
/-- The nonces' row stands beside the map. -/
theorem own_beside {wa w1 : World} {M e : Nat} {v : Value} {n : Nat} {xs : List Value} (h : wa.ownsRow (M + 1) e 1 v n xs) (hg : wa.grownBy w1 (some M)) : w1.ownsRow (M + 1) e 1 v n xs := by
  refine h.kept hg ?_
  cases hv : v.ownBlock with
  | none => exact .inl rfl
  | some g =>
    right
    have := own_block_ge h g hv
    intro e
    cases e
    omega
theorem own_lower {w : World} {B B' e : Nat} {v : Value} {n : Nat} {xs : List Value} (h : w.ownsRow B e 1 v n xs) (hb : B' ≤ B) : w.ownsRow B' e 1 v n xs :=
  ⟨h.1, h.2.imp id fun ⟨g, cap, cur, hv, hg, r⟩ => ⟨g, cap, cur, hv, Nat.le_trans hb hg, r⟩⟩
theorem below_map {w wa w1 : World} {M : Nat} (h : Below M w wa) (hg : wa.grownBy w1 (some M)) (hs : w.heap.size ≤ wa.heap.size) (hM : M ≤ w.heap.size) : Below M w w1 := h.grown hg (by omega) (fun g hg => by cases hg; omega)

set_option maxRecDepth 100000 in
set_option maxHeartbeats 2000000 in
theorem implNonces_any (a : Option Addr) (n c : Nat) (L : List S3) (w : World) (hs : SrcS w a n L) (hn : n ≤ 1048580) (hsz : ∀ j, j < n → (L.getD j default).n.size ≤ 1048576) :
    Calls Tryz.prog 8 #[.slice a n c] w (GivesT (noncesB L) w) := by
  obtain ⟨i0, hi, hz0, hz1, hz2⟩ := info_parts infoStr
  have HS := Lib.hid hs
  have hL := Lib.hid hs.len
  have HZ := Lib.hid hsz
  clear hs hsz
  have hmm := @run_makeMap Tryz.prog
  go_enter Tryz.func8, Tryz.ntmps8
  go_wp2
  go_loopw [4, 10] (fun v iv wr => ∃ (k : Nat) (P : List ByteArray) (D : DataW Unit), k ≤ n ∧ P.length ≤ k ∧ iv = .int .i64 k ∧ Hid (P = noncesTo L k) ∧ Hid (Tells D P) ∧ Hid (wr.ownsMap Tryz.prog 9 (plainElem Tryz.prog 4) w.heap.size k D) ∧ wr.ownsRow (w.heap.size + 1) 9 1 v P.length (scells P) ∧ Below w.heap.size w wr ∧ w.heap.size + 1 ≤ wr.heap.size)
    (fun _ iv _ => n - (intOf iv).toNat)
  case atStart => exact ⟨0, [], .map [], Nat.zero_le _, Nat.le_refl _, rfl, Lib.hid rfl, Lib.hid tells_empty, Lib.hid (World.ownsMap_made _ _ _ _), World.ownsRow_nil _ _ _ _, (Below.refl _ _).alloc (Nat.le_refl _) _, by simp⟩
  case round =>
    clear hmm
    obtain ⟨k, P, D, hk, hP, rfl, HP, HT, HM, hown, hbel, hsz1⟩ := hrel
    obtain ⟨ad, cap, rfl, hcap, hnc, hr⟩ := own_form hown
    by_cases hlt : k < n
    · obtain ⟨g, off, rfl, hg, c1, c2, c3⟩ := HS.out.cell k hlt
      have d1 := (hbel.cell (p := ⟨g, off + k * 3, none⟩) hg).trans c1
      have d2 := (hbel.cell (p := ⟨g, off + k * 3 + 1, none⟩) hg).trans c2
      have d3 := (hbel.cell (p := ⟨g, off + k * 3 + 2, none⟩) hg).trans c3
      have HE := Lib.hid (noncesTo_step (L := L) (k := k) (by have := hL.out; omega))
      have hxs := HZ.out k hlt
      obtain ⟨y, hy⟩ : ∃ y, L.getD k default = y := ⟨_, rfl⟩
      rw [hy, ← HP.out] at HE
      rw [hy] at d1 d2 d3 hxs
      obtain ⟨x0, x, x2⟩ := y
      simp only at d1 d2 d3 hxs HE
      clear c1 c2 c3 hy hr
      have HO := Lib.hid hown
      clear hown
      have HM0 := Lib.hid (HM.out.alloc (.cells #[.string x0, .string x, .string x2] 32))
      have HB := Lib.hid (hbel.alloc hbel.size (.cells #[.string x0, .string x, .string x2] 32))
      have hkey : keyOf Tryz.prog 9 (.string x) = some (.string x.data.toList) := WideMaps.keyOf_string_mk Tryz.underlying9 (by unfold maxLen; omega)
      have HKY := Lib.hid hkey
      clear hkey
      by_cases hm : x ∈ P
      · have HN := Lib.hid (addN_yes hm)
        have HAT : Hid (D.atKey (.string x.data.toList) (.lit (.bool false)) = .lit (.bool true)) := Lib.hid (by rw [HT.out.2 x, decide_eq_true hm])
        clear hm
        go_wp2_with (first | (at_lookup; refine wpList_lookup_own_bool _ rfl _ _ 51 rfl 9 4 keyText Tryz.underlying51 Tryz.underlying4 (zeroBool _) w.heap.size k D rfl HM0.out _ _ rfl HKY.out true HAT.out ?_) | go_in)
        go_roundw
        case rel => exact ⟨k + 1, P, D, by omega, by omega, by go_num, Lib.hid (by rw [HE.out, HN.out]), HT, Lib.hid (HM0.out.mono (by omega)), HO.out.alloc _, HB.out, by simp; omega⟩
        case measure => (simp [intOf]; try omega)
      · have HN := Lib.hid (addN_no hm)
        have HAT : Hid (D.atKey (.string x.data.toList) (.lit (.bool false)) = .lit (.bool false)) := Lib.hid (by rw [HT.out.2 x, decide_eq_false hm])
        have HT2 := Lib.hid (HT.out.put x)
        clear hm
        go_wp2_with (first
          | (at_lookup; refine wpList_lookup_own_bool _ rfl _ _ 51 rfl 9 4 keyText Tryz.underlying51 Tryz.underlying4 (zeroBool _) w.heap.size k D rfl HM0.out _ _ rfl HKY.out false HAT.out ?_)
          | (at_mapUpdate; refine wpList_mapUpdate_own _ rfl _ _ _ 51 rfl 9 4 keyText Tryz.underlying51 (plainElem Tryz.prog 4) w.heap.size k D rfl HM0.out (by unfold maxLen; omega) _ _ _ rfl rfl HKY.out _ [] (plainElem_bool Tryz.underlying4 true) ?_; intro w1 hown1 hgrow1; have hs1 := hgrow1.size; have q1 : w1.cell? ⟨wr.heap.size, 1, none⟩ = some (.string x) := nonce_cell hgrow1 hsz1)
          | (go_at_call 18; refine (textClone_any x _ hxs).mono ?_; rintro e w2 ⟨rfl, hb2⟩; have HO2 := Lib.hid (own_below (own_beside (HO.out.alloc (.cells #[.string x0, .string x, .string x2] 32)) hgrow1) hb2); have hs2 := hb2.size)
          | (at_builtin; refine wpList_append_own _ rfl (.tmp 22) (.tmp 26) 29 rfl (w.heap.size + 1) 9 i0 (.string ⟨#[]⟩) 1 16 Tryz.underlying29 hi hz0 hz1 hz2 rfl (by decide) _ _ _ rfl (HO2.out.alloc _) ⟨w2.heap.size, 0, none⟩ 1 1 [.string x] rfl rfl (World.news_of_block (heap_alloc_new _ _)) (by simp [Value.oneCell']) (by unfold maxLen; omega) (by omega) (by simp at hs1 ⊢; omega) ?_; intro v1 w3 hown3 hgrow3 hn3)
          | go_in)
        have B1 : Below w.heap.size w w1 := HB.out.grown hgrow1 (by simp; omega) (fun g hg => by cases hg; exact Nat.le_refl _)
        have B2 : Below w.heap.size w w2 := B1.trans (hb2.mono B1.size)
        have hb3 : Below w.heap.size w w3 := (B2.alloc B2.size _).grown hgrow3 (by have := B2.size; simp; omega) (fun g hg => Nat.le_of_succ_le (own_block_ge HO2.out g hg))
        have HO3 : Hid (w3.ownsRow (w.heap.size + 1) 9 1 v1 (P ++ [x]).length (scells (P ++ [x]))) := Lib.hid (by simpa [scells, List.length_append] using hown3)
        have HM3 : Hid (w3.ownsMap Tryz.prog 9 (plainElem Tryz.prog 4) w.heap.size (k + 1) (D.put (.string x.data.toList) (.lit (.bool true)))) := Lib.hid (by
          have hl := hown1.lt
          have m2 := hown1.kept (row := none) ⟨hb2.os, hb2.tape, hb2.output, hb2.size, fun g hg _ => hb2.block g hg⟩ (by simp)
          exact (m2.alloc _).kept hgrow3 (fun e => absurd (own_block_ge HO2.out _ e.symm) (by omega)))
        have hs3 : w.heap.size + 1 ≤ w3.heap.size := by have := hgrow3.size; simp at this hs1; omega
        clear hown1 hgrow1 hown3 hgrow3 hn3 HO HO2 B1 B2 hb2 hs1 hs2 q1 HM0 HM HB HAT HKY
        go_wp2
        go_roundw
        case rel => exact ⟨k + 1, P ++ [x], _, by omega, by simp; omega, by go_num, Lib.hid (by rw [HE.out, HN.out]), HT2, HM3, HO3.out, hb3, hs3⟩
        case measure => (simp [intOf]; try omega)
    · obtain rfl : k = n := by omega
      have HF : Hid (P = noncesB L) := Lib.hid (by rw [HP.out, ← hL.out, noncesTo_all])
      clear hr HP
      have HO := Lib.hid hown
      clear hown
      go_wp2
      go_ret
      exact ⟨_, rfl, by rw [← HF.out]; exact own_lower HO.out (by omega), hbel⟩
end Go.Proofs.YtgpjklnlchbbbaaGreatDoor
namespace Go
open Go.Maps (Keyed)
theorem plainElem_text_inv {H : Type} {P : Program} {e : TypeId} (he : P.underlying e = some .string) {v : Value} {z : DataW H × List MemPlace} (h : plainElem P e v = some z) : ∃ x : ByteArray, v = .string x ∧ z = (.lit (.string x.data.toList), []) := by
  unfold plainElem at h
  rw [he] at h
  cases v <;> simp at h
  exact ⟨_, rfl, h.2.symm⟩
/-- 'v, ok := m[k]' at texts. -/
theorem wpList_lookup_own_ok_text {H : Type} {P : Program} (w : World) {ops : Array Oper} {rest : List Oper} {o : Oper} {a : Act} {Q : Exit → Act → World → Prop}
    (hg : o.guard = none) (m x : Operand) (t : TypeId) (hop : o.op = Op.lookup t m x true)
    (k e : TypeId) (K : Keyed P k) (ht : P.underlying t = some (.map k e)) (he : P.underlying e = some .string) (hz : (zeroValue e).run P w = .ok (.string ⟨#[]⟩) w) (b n : Nat) (D : DataW H)
    (hm : a.eval m = .map (some b)) (hown : w.ownsMap P k (plainElem P e) b n D) (key : Value) (kl : Lit) (hx : a.eval x = key) (hkey : keyOf P k key = some kl)
    (c : ByteArray) (f : Bool) (hat : D.atKey kl (.lit (.string [])) = .lit (.string c.data.toList)) (hf : Maps.has D kl = f) (hK : wpList P ops Q rest (a.put o.dst (.tuple #[.string c, .bool f])) w) :
    wpList P ops Q (o :: rest) a w :=
  wpList_lookup_own_ok w hg m x t hop k e K ht (plainElem P e) hz (.lit (.string [])) [] (plainElem_string he (by decide)) b n D hm hown key kl hx hkey (fun v ps hv => by
    obtain ⟨d, rfl, hd⟩ := plainElem_text_inv he hv
    rw [hat] at hd
    simp only [Prod.mk.injEq, DataW.lit.injEq, Lit.string.injEq] at hd
    have hdc : d = c := Go.Proofs.YtgpjklnlchbbbaaGreatDoor.data_inj hd.1.symm
    subst hdc
    rw [hf]
    exact hK)
end Go
namespace Go.Proofs.YtgpjklnlchbbbaaGreatDoor
open Go.RowKit Go.Maps Go.Proofs.YtgpjklnlchbbbaaGreatDoor.Parts Go.Proofs.YtgpjklnlchbbbaaGreatDoor.Hexa

set_option maxRecDepth 100000 in
theorem laidAll : laidOutB Tryz.prog = true := by kernel_rfl
set_option maxRecDepth 100000 in
theorem rowUse : (50 : TypeId) < Tryz.prog.types.size := of_decide_eq_true (by kernel_rfl)
set_option maxRecDepth 100000 in
theorem wideUse : (match Tryz.prog.underlying 50 with | some (.array _ _) | some (.struct _) => true | _ => false) = true := by rw [Tryz.underlying50]
set_option maxRecDepth 100000 in
theorem keyUse : Keyed Tryz.prog 50 := Keyed.of_law (deep_law_laid laidAll (m := 3) (by omega) rowUse (by kernel_rfl) wideUse)
set_option maxRecDepth 100000 in
theorem zeroText (w : World) : (zeroValue 9).run Tryz.prog w = .ok (.string ⟨#[]⟩) w := by kernel_rfl

set_option maxRecDepth 100000 in
theorem keyUse_some {a b : ByteArray} (ha : a.size ≤ maxLen) (hb : b.size ≤ maxLen) : ∃ l, keyOf Tryz.prog 50 (.agg #[.string a, .string b]) = some l := by
  have hk : Tryz.prog.keyType 50 = true := by kernel_rfl
  have hc : Tryz.prog.cellsOf 50 = 2 := by kernel_rfl
  have hs : Tryz.prog.cellsOf 9 = 1 := by kernel_rfl
  have hf : (Value.agg #[.string a, .string b]).formed Tryz.prog 50 = true := by simp [Value.formed, Tryz.underlying50, hc]
  obtain ⟨m, hm⟩ : ∃ m, Tryz.prog.types.size = m + 1 := ⟨Tryz.prog.types.size - 1, (Nat.succ_pred_eq_of_pos (Nat.lt_of_le_of_lt (Nat.zero_le _) rowUse)).symm⟩
  unfold keyOf
  rw [Tryz.underlying50]
  simp only [hk, hf, hm]
  simp [Program.keyLits, Tryz.underlying50, Tryz.underlying9, hc, hs, Value.cells, ha, hb]

def pairV (s : S3) : Value := .agg #[.string s.k, .string s.n]
theorem pair_inj {s t : S3} (h : pairV s = pairV t) : s.k = t.k ∧ s.n = t.n := by simpa [pairV] using h

/-- A map that holds the first k texts by their keys and nonces. -/
structure HoldsU (D : DataW Unit) (L : List S3) (k : Nat) : Prop where
  map : IsMap D
  yes : ∀ j, j < k → ∀ l, keyOf Tryz.prog 50 (pairV (L.getD j default)) = some l → Maps.has D l = true ∧ D.atKey l (.lit (.string [])) = .lit (.string (L.getD j default).t.data.toList)
  no : ∀ (s : S3) l, keyOf Tryz.prog 50 (pairV s) = some l → (∀ j, j < k → ¬ ((L.getD j default).k = s.k ∧ (L.getD j default).n = s.n)) → Maps.has D l = false ∧ D.atKey l (.lit (.string [])) = .lit (.string [])
theorem holdsU_empty (L : List S3) : HoldsU (.map []) L 0 := ⟨isMap_empty, fun j hj => by omega, fun s l _ _ => ⟨rfl, rfl⟩⟩
theorem HoldsU.put {D : DataW Unit} {L : List S3} {k : Nat} (h : HoldsU D L k) {l : Lit} (hl : keyOf Tryz.prog 50 (pairV (L.getD k default)) = some l) (hc : Clear L k k) :
    HoldsU (D.put l (.lit (.string (L.getD k default).t.data.toList))) L (k + 1) := by
  have hkl := keyUse.key hl
  refine ⟨h.map.put _ _, fun j hj l' hl' => ?_, fun s l' hl' hn => ?_⟩
  · by_cases e : l' = l
    · subst e
      have he := pair_inj (keyUse.inj hl' hl)
      have ht : (L.getD j default).t = (L.getD k default).t := by
        by_cases hjk : j = k
        · rw [hjk]
        · exact (hc j (by omega) he.1.symm he.2.symm).symm
      rw [ht]
      exact ⟨has_put_same h.map hkl _, atKey_put_same h.map hkl _ _⟩
    · have hjk : j < k := by
        rcases Nat.lt_or_ge j k with h1 | h1
        · exact h1
        · obtain rfl : j = k := by omega
          rw [hl] at hl'
          exact absurd (Option.some.inj hl').symm e
      rw [has_put_other e, atKey_put_other e]
      exact h.yes j hjk l' hl'
  · have e : l' ≠ l := fun e => by
      subst e
      exact hn k (by omega) (pair_inj (keyUse.inj hl hl'))
    rw [has_put_other e, atKey_put_other e]
    exact h.no s l' hl' (fun j hj => hn j (by omega))

/-- What the map holds at the next pair, where nothing clashes with it. -/
theorem holdsU_way {D : DataW Unit} {L : List S3} {k : Nat} {x0 x x2 : ByteArray} {l : Lit} (h : HoldsU D L k) (hy : L.getD k default = ⟨x0, x, x2⟩) (hl : keyOf Tryz.prog 50 (.agg #[.string x0, .string x]) = some l) (hc : Clear L k k) :
    ∃ (c : ByteArray) (f : Bool), D.atKey l (.lit (.string [])) = .lit (.string c.data.toList) ∧ Maps.has D l = f ∧ (f = true → c = x2) := by
  by_cases he : ∃ j, j < k ∧ (L.getD j default).k = x0 ∧ (L.getD j default).n = x
  · obtain ⟨j, hj, e1, e2⟩ := he
    have h1 := h.yes j hj l (by rw [pairV, e1, e2]; exact hl)
    refine ⟨(L.getD j default).t, true, h1.2, h1.1, fun _ => ?_⟩
    have := hc j hj (by rw [hy, e1]) (by rw [hy, e2])
    rw [hy] at this
    exact this.symm
  · have h1 := h.no ⟨x0, x, x2⟩ l hl (fun j hj hh => he ⟨j, hj, hh.1, hh.2⟩)
    exact ⟨⟨#[]⟩, false, h1.2, h1.1, fun h => by cases h⟩
/-- .. where something clashes with it. -/
theorem holdsU_clash {D : DataW Unit} {L : List S3} {k : Nat} {x0 x x2 : ByteArray} {l : Lit} (h : HoldsU D L k) (hy : L.getD k default = ⟨x0, x, x2⟩) (hl : keyOf Tryz.prog 50 (.agg #[.string x0, .string x]) = some l) (hc : ¬ Clear L k k) :
    ∃ (c : ByteArray), D.atKey l (.lit (.string [])) = .lit (.string c.data.toList) ∧ Maps.has D l = true ∧ c ≠ x2 ∧ Clash L (k + 1) := by
  have he : ∃ j, j < k ∧ (L.getD k default).k = (L.getD j default).k ∧ (L.getD k default).n = (L.getD j default).n ∧ (L.getD k default).t ≠ (L.getD j default).t := by
    refine Classical.byContradiction fun h1 => hc fun j hj a b => Classical.byContradiction fun h2 => h1 ⟨j, hj, a, b, h2⟩
  obtain ⟨j, hj, e1, e2, e3⟩ := he
  have h1 := h.yes j hj l (by rw [pairV, ← e1, ← e2, hy]; exact hl)
  refine ⟨(L.getD j default).t, h1.2, h1.1, fun e => e3 (by rw [e, hy]), k, j, by omega, by omega, e1, e2, e3⟩

theorem block_cell {w1 wr : World} {M g : Nat} {v0 v1 v2 : Value} {t : TypeId} (hg : wr.heap[g]? = some (.cells #[v0, v1, v2] t)) (hne : M < g) (h : wr.grownBy w1 (some M)) : w1.heap[g]? = some (.cells #[v0, v1, v2] t) := by
  rw [h.block g (Array.getElem?_eq_some_iff.1 hg).1 (by simp; omega), hg]

set_option maxRecDepth 100000 in
set_option maxHeartbeats 4000000 in
theorem implTwice_any (a : Option Addr) (n c : Nat) (L : List S3) (w : World) (hs : SrcS w a n L) (hn : n ≤ 1048580) (hsz : ∀ j, j < n → (L.getD j default).k.size ≤ 1048576 ∧ (L.getD j default).n.size ≤ 1048576 ∧ (L.getD j default).t.size ≤ 1048576) :
    Calls Tryz.prog 7 #[.slice a n c] w fun e w' => e = .returned (.bool (clashB L n)) ∧ Below w.heap.size w w' := by
  have HS := Lib.hid hs
  have HZ := Lib.hid hsz
  clear hs hsz
  have hmm := @run_makeMap Tryz.prog
  go_enter Tryz.func7, Tryz.ntmps7
  go_wp2
  go_loopw [12] (fun iv wr => ∃ (k : Nat) (D : DataW Unit), k ≤ n ∧ iv = .int .i64 k ∧ Hid (¬ Clash L k) ∧ Hid (HoldsU D L k) ∧ Hid (wr.ownsMap Tryz.prog 50 (plainElem Tryz.prog 9) w.heap.size k D) ∧ Below w.heap.size w wr ∧ w.heap.size + 1 ≤ wr.heap.size)
    (fun iv _ => n - (intOf iv).toNat)
  case atStart => exact ⟨0, .map [], Nat.zero_le _, rfl, Lib.hid (clash_zero L), Lib.hid (holdsU_empty L), Lib.hid (World.ownsMap_made _ _ _ _), (Below.refl _ _).alloc (Nat.le_refl _) _, by simp⟩
  case round =>
    clear hmm
    obtain ⟨k, D, hk, rfl, HC, HT, HM, hbel, hsz1⟩ := hrel
    by_cases hlt : k < n
    · obtain ⟨g, off, rfl, hg, c1, c2, c3⟩ := HS.out.cell k hlt
      have d1 := (hbel.cell (p := ⟨g, off + k * 3, none⟩) hg).trans c1
      have d2 := (hbel.cell (p := ⟨g, off + k * 3 + 1, none⟩) hg).trans c2
      have d3 := (hbel.cell (p := ⟨g, off + k * 3 + 2, none⟩) hg).trans c3
      have hxs := HZ.out k hlt
      obtain ⟨y, hy⟩ : ∃ y, L.getD k default = y := ⟨_, rfl⟩
      rw [hy] at d1 d2 d3 hxs
      have HY := Lib.hid hy
      clear c1 c2 c3 hy
      obtain ⟨x0, x, x2⟩ := y
      simp only at d1 d2 d3 hxs
      obtain ⟨l, hl⟩ := keyUse_some (a := x0) (b := x) (by unfold maxLen; omega) (by unfold maxLen; omega)
      have HKY := Lib.hid hl
      clear hl
      have HM0 := Lib.hid ((HM.out.alloc (.cells #[.string x0, .string x, .string x2] 32)).alloc (.cells #[.string x0, .string x] 50))
      have HB := Lib.hid ((hbel.alloc hbel.size (.cells #[.string x0, .string x, .string x2] 32)).alloc (by simp; omega) (.cells #[.string x0, .string x] 50))
      by_cases hcl : Clear L k k
      · have HN := Lib.hid (clash_step HC.out hcl)
        have HT2 : Hid (HoldsU (D.put l (.lit (.string x2.data.toList))) L (k + 1)) := Lib.hid (by have := HT.out.put (l := l) (by rw [HY.out]; exact HKY.out) hcl; rw [HY.out] at this; exact this)
        have hway : ∃ (c : ByteArray) (f : Bool), D.atKey l (.lit (.string [])) = .lit (.string c.data.toList) ∧ Maps.has D l = f ∧ (f = true → c = x2) := by
          have := holdsU_way HT.out HY.out HKY.out hcl
          exact this
        obtain ⟨c0, f, hat, hf, hcf⟩ := hway
        have HAT := Lib.hid hat
        have HF := Lib.hid hf
        clear hat hf hcl
        cases f with
        | true =>
          obtain rfl := hcf rfl
          clear hcf
          go_wp2_with (first
            | (at_lookup; refine wpList_lookup_own_ok_text _ rfl _ _ 48 rfl 50 9 keyUse Tryz.underlying48 Tryz.underlying9 (zeroText _) w.heap.size k D rfl HM0.out _ _ rfl HKY.out _ true HAT.out HF.out ?_)
            | (at_mapUpdate; refine wpList_mapUpdate_own _ rfl _ _ _ 48 rfl 50 9 keyUse Tryz.underlying48 (plainElem Tryz.prog 9) w.heap.size k D rfl HM0.out (by unfold maxLen; omega) _ _ _ rfl rfl HKY.out _ [] (plainElem_string Tryz.underlying9 (by unfold maxLen; omega)) ?_; intro w1 hown1 hgrow1)
            | go_in)
          have HM1 := Lib.hid hown1
          have hb1 : Below w.heap.size w w1 := HB.out.grown hgrow1 (by simp; omega) (fun g hg => by cases hg; exact Nat.le_refl _)
          have hs1 : w.heap.size + 1 ≤ w1.heap.size := by have := hgrow1.size; simp at this; omega
          clear hown1 hgrow1 HM0 HM HB HAT HKY HF
          go_roundw
          case rel => exact ⟨k + 1, _, by omega, by go_num, HN, HT2, HM1, hb1, hs1⟩
          case measure => (simp [intOf]; try omega)
        | false =>
          clear hcf
          go_wp2_with (first
            | (at_lookup; refine wpList_lookup_own_ok_text _ rfl _ _ 48 rfl 50 9 keyUse Tryz.underlying48 Tryz.underlying9 (zeroText _) w.heap.size k D rfl HM0.out _ _ rfl HKY.out _ false HAT.out HF.out ?_)
            | (at_mapUpdate; refine wpList_mapUpdate_own _ rfl _ _ _ 48 rfl 50 9 keyUse Tryz.underlying48 (plainElem Tryz.prog 9) w.heap.size k D rfl HM0.out (by unfold maxLen; omega) _ _ _ rfl rfl HKY.out _ [] (plainElem_string Tryz.underlying9 (by unfold maxLen; omega)) ?_; intro w1 hown1 hgrow1)
            | go_in)
          have HM1 := Lib.hid hown1
          have hb1 : Below w.heap.size w w1 := HB.out.grown hgrow1 (by simp; omega) (fun g hg => by cases hg; exact Nat.le_refl _)
          have hs1 : w.heap.size + 1 ≤ w1.heap.size := by have := hgrow1.size; simp at this; omega
          clear hown1 hgrow1 HM0 HM HB HAT HKY HF
          go_roundw
          case rel => exact ⟨k + 1, _, by omega, by go_num, HN, HT2, HM1, hb1, hs1⟩
          case measure => (simp [intOf]; try omega)
      · obtain ⟨c0, hat, hf, hne, hcl⟩ := holdsU_clash HT.out HY.out HKY.out hcl
        have HAT := Lib.hid hat
        have HF := Lib.hid hf
        have q1 := text_ne hne
        have q2 := text_ne' hne
        have HR := Lib.hid (clashB_yes (clash_mono (m := n) (by omega) hcl))
        clear hat hf hne hcl
        go_wp2_with (first
            | (at_lookup; refine wpList_lookup_own_ok_text _ rfl _ _ 48 rfl 50 9 keyUse Tryz.underlying48 Tryz.underlying9 (zeroText _) w.heap.size k D rfl HM0.out _ _ rfl HKY.out _ true HAT.out HF.out ?_)
            | (at_mapUpdate; refine wpList_mapUpdate_own _ rfl _ _ _ 48 rfl 50 9 keyUse Tryz.underlying48 (plainElem Tryz.prog 9) w.heap.size k D rfl HM0.out (by unfold maxLen; omega) _ _ _ rfl rfl HKY.out _ [] (plainElem_string Tryz.underlying9 (by unfold maxLen; omega)) ?_; intro w1 hown1 hgrow1)
            | go_in)
        go_ret
        exact ⟨ret_bool HR.out.symm, HB.out⟩
    · obtain rfl : k = n := by omega
      have HR := Lib.hid (clashB_no HC.out)
      go_wp2
      go_ret
      exact ⟨ret_bool HR.out.symm, hbel⟩
end Go.Proofs.YtgpjklnlchbbbaaGreatDoor
namespace Go.Proofs.YtgpjklnlchbbbaaGreatDoor
open Go.RowKit Go.Proofs.YtgpjklnlchbbbaaGreatDoor.Hexa Go.Proofs.YtgpjklnlchbbbaaGreatDoor.Byt Go.Proofs.YtgpjklnlchbbbaaGreatDoor.Aes Go.Proofs.YtgpjklnlchbbbaaGreatDoor.Parts

/-- One list of one empty sealing has one nonce. -/
theorem one_nonce : (noncesB [(⟨⟨#[]⟩, ⟨#[]⟩, ⟨#[]⟩⟩ : S3)]).length = 1 := by
  show (addN [] ⟨#[]⟩).length = 1
  rw [addN_no (by simp)]
  rfl
theorem one_src (w : World) (t : TypeId) : SrcS (w.alloc (.cells #[.string ⟨#[]⟩, .string ⟨#[]⟩, .string ⟨#[]⟩] t)) (some ⟨w.heap.size, 0, none⟩) 1 [⟨⟨#[]⟩, ⟨#[]⟩, ⟨#[]⟩⟩] := by
  have hh := heap_alloc_new w (.cells #[.string ⟨#[]⟩, .string ⟨#[]⟩, .string ⟨#[]⟩] t)
  refine ⟨rfl, fun j hj => ?_⟩
  obtain rfl : j = 0 := by omega
  have h1 : ∀ (o : Option Obj) (k : Nat), k < 3 → o = some (.cells #[.string ⟨#[]⟩, .string ⟨#[]⟩, .string ⟨#[]⟩] t) → (match o with | some (.cells c _ _) => c[k]? | _ => none) = some (.string ⟨#[]⟩) := fun o k hk ho => by
    subst ho
    rcases k with _ | _ | _ | k
    · rfl
    · rfl
    · rfl
    · omega
  exact ⟨w.heap.size, 0, rfl, by simp, h1 _ 0 (by omega) hh, h1 _ 1 (by omega) hh, h1 _ 2 (by omega) hh⟩
theorem none_src (w : World) : SrcS w none 0 [] := ⟨rfl, fun j hj => by omega⟩

section
variable [Inhabited Gen.Mix4]

/-- OpenPage of the program: some text, and whether the tag is right. -/
theorem implOpen_flag (key nonce page mark : ByteArray) (w : World) (b : Bool) (hb : b = true ↔ okP key nonce page mark) (hT : Tabs w) (hM : Gen.MixTab w) :
    Calls Tryz.prog 9 #[.string key, .string nonce, .string page, .string mark] w fun e w' => (∃ t, e = .returned (.tuple #[.string t, .bool b])) ∧ Below w.heap.size w w' := by
  by_cases h : okP key nonce page mark
  · rw [hb.2 h]
    exact (implOpen_yes key nonce page mark w hT hM h).mono fun e w' ⟨he, hw⟩ => ⟨⟨_, he⟩, hw⟩
  · have e : b = false := by cases b with | false => rfl | true => exact absurd (hb.1 rfl) h
    rw [e]
    exact (implOpen_no key nonce page mark w hT h).mono fun e w' ⟨he, hw⟩ => ⟨⟨_, he⟩, hw⟩
end
theorem specOpen_flag (key nonce page mark : ByteArray) (w : World) (b : Bool) (hb : b = true ↔ okP key nonce page mark) :
    Calls Tryz.prog 11 #[.string key, .string nonce, .string page, .string mark] w fun e w' => (∃ t, e = .returned (.tuple #[.string t, .bool b])) ∧ Below w.heap.size w w' := by
  by_cases h : okP key nonce page mark
  · rw [hb.2 h]
    exact specOpen_yes key nonce page mark w h
  · have e : b = false := by cases b with | false => rfl | true => exact absurd (hb.1 rfl) h
    rw [e]
    by_cases hf : FitsP key nonce page
    · exact (specOpen_wrong key nonce page mark w hf (fun ht => h ⟨hf, ht⟩)).mono fun e w' ⟨he, hw⟩ => ⟨⟨_, he⟩, hw⟩
    · exact (specOpen_misfit key nonce page mark w hf).mono fun e w' ⟨he, hw⟩ => ⟨⟨_, he⟩, hw⟩
theorem flag_of (key nonce page mark : ByteArray) : ∃ b : Bool, b = true ↔ okP key nonce page mark := by
  by_cases h : okP key nonce page mark
  · exact ⟨true, ⟨fun _ => h, fun _ => rfl⟩⟩
  · exact ⟨false, ⟨fun e => (by cases e), fun e => absurd e h⟩⟩

set_option maxRecDepth 100000 in
theorem fnSeals_big (ad : Option Addr) (len cap : Nat) (w : World) (hlen : 1048576 < len) :
    Calls Tryz.prog 3 #[.slice ad len cap] w fun e w' => e = .returned (.bool true) ∧ Below w.heap.size w w' := by
  go_enter Tryz.func3, Tryz.ntmps3
  go_wp2_with (go_at_call 4; go_in)
  go_ret
  exact ⟨rfl, Below.refl _ _⟩
section
variable [Inhabited Gen.Mix4]
set_option maxRecDepth 100000 in
set_option maxHeartbeats 4000000 in
theorem fnSeals_law (ad : Option Addr) (len cap : Nat) (w : World) (hlen : len ≤ 1048576) (hs : Draw.Src w w.heap.size ad len) (hT : Tabs w) (hM : Gen.MixTab w) :
    Calls Tryz.prog 3 #[.slice ad len cap] w fun e w' => e = .returned (.bool true) ∧ Below w.heap.size w w' := by
  have HS := Lib.hid hs
  have HT := Lib.hid hT
  have HM := Lib.hid hM
  clear hs hT hM
  go_enter Tryz.func3, Tryz.ntmps3
  go_wp2_with (go_at_call 4; go_in)
  refine (Draw.drawSeal_any ad len cap w hlen HS.out).mono ?_
  rintro e w1 ⟨key, nonce, text, rfl, hka, hna, hta, hb1⟩
  have B1 := Lib.hid hb1
  clear hb1
  by_cases hf : FitsP key nonce text
  · have kseal := Lib.hid fun w hT hM => implSeal_yes key nonce text w hT hM hf
    have hps := pageP_size key nonce text hf
    have hpb := pageP_back key nonce text hf
    have hms : (tagP key nonce (pageP key nonce text)).size = 4 := markB_size _ _ _ (by omega) (by omega)
    have hokP : okP key nonce (pageP key nonce text) (tagP key nonce (pageP key nonce text)) := ⟨⟨hf.1, hf.2.1, hps⟩, rfl⟩
    have hobad : ¬ okP key nonce (pageP key nonce text) (otherT (tagP key nonce (pageP key nonce text))) := fun h => otherT_ne _ (by omega) h.2.symm
    have kop := Lib.hid fun w hT hM => implOpen_yes key nonce _ _ w hT hM hokP
    rw [hpb] at kop
    obtain ⟨h1, h2, h3⟩ := hf
    generalize pageP key nonce text = P at kseal hps hms hobad kop
    generalize tagP key nonce P = M at kseal hms hobad kop
    have KO := kop
    obtain ⟨fa, hfa⟩ := flag_of (otherT key) nonce P M
    obtain ⟨fb, hfb⟩ := flag_of key (otherT nonce) P M
    obtain ⟨fd, hfd⟩ := flag_of key nonce (otherT P) M
    have ia := Lib.hid fun w hT hM => implOpen_flag (otherT key) nonce P M w fa hfa hT hM
    have ib := Lib.hid fun w hT hM => implOpen_flag key (otherT nonce) P M w fb hfb hT hM
    have id := Lib.hid fun w hT hM => implOpen_flag key nonce (otherT P) M w fd hfd hT hM
    have ie := Lib.hid fun w hT => implOpen_no key nonce P (otherT M) w hT hobad
    have sa := Lib.hid fun w => specOpen_flag (otherT key) nonce P M w fa hfa
    have sb := Lib.hid fun w => specOpen_flag key (otherT nonce) P M w fb hfb
    have sd := Lib.hid fun w => specOpen_flag key nonce (otherT P) M w fd hfd
    have ok := Lib.hid fun w => others_any key w (by omega)
    have on := Lib.hid fun w => others_any nonce w (by omega)
    have op := Lib.hid fun w => others_any P w (by omega)
    have om := Lib.hid fun w => others_any M w (by omega)
    have ea : (fa == fa) = true := by cases fa <;> rfl
    have eb : (fb == fb) = true := by cases fb <;> rfl
    have ed : (fd == fd) = true := by cases fd <;> rfl
    generalize otherT key = key' at ia sa ok
    generalize otherT nonce = nonce' at ib sb on
    generalize otherT P = P' at id sd op
    generalize otherT M = M' at ie om
    clear hfa hfb hfd hokP hobad hpb kop
    go_wp2_with fail
    refine (kseal.out _ (HT.out.below B1.out) (HM.out.below B1.out)).mono ?_
    rintro e w2 ⟨rfl, hb2⟩
    have B2 := Lib.hid (B1.out.trans (hb2.mono B1.out.size))
    clear hb2
    go_wp2_with fail
    refine (KO.out _ (HT.out.below B2.out) (HM.out.below B2.out)).mono ?_
    rintro e w3 ⟨rfl, hb3⟩
    have B3 := Lib.hid (B2.out.trans (hb3.mono B2.out.size))
    clear hb3
    go_wp2_with fail
    refine (ok.out _).mono ?_
    rintro e w4 ⟨rfl, hb4⟩
    have B4 := Lib.hid (B3.out.trans (hb4.mono B3.out.size))
    clear hb4
    go_wp2_with fail
    refine (ia.out _ (HT.out.below B4.out) (HM.out.below B4.out)).mono ?_
    rintro e w5 ⟨⟨x5, rfl⟩, hb5⟩
    have B5 := Lib.hid (B4.out.trans (hb5.mono B4.out.size))
    clear hb5
    go_wp2_with fail
    refine (on.out _).mono ?_
    rintro e w6 ⟨rfl, hb6⟩
    have B6 := Lib.hid (B5.out.trans (hb6.mono B5.out.size))
    clear hb6
    go_wp2_with fail
    refine (ib.out _ (HT.out.below B6.out) (HM.out.below B6.out)).mono ?_
    rintro e w7 ⟨⟨x7, rfl⟩, hb7⟩
    have B7 := Lib.hid (B6.out.trans (hb7.mono B6.out.size))
    clear hb7
    go_wp2_with fail
    refine (op.out _).mono ?_
    rintro e w8 ⟨rfl, hb8⟩
    have B8 := Lib.hid (B7.out.trans (hb8.mono B7.out.size))
    clear hb8
    go_wp2_with fail
    refine (id.out _ (HT.out.below B8.out) (HM.out.below B8.out)).mono ?_
    rintro e w9 ⟨⟨x9, rfl⟩, hb9⟩
    have B9 := Lib.hid (B8.out.trans (hb9.mono B8.out.size))
    clear hb9
    go_wp2_with fail
    refine (om.out _).mono ?_
    rintro e w10 ⟨rfl, hb10⟩
    have B10 := Lib.hid (B9.out.trans (hb10.mono B9.out.size))
    clear hb10
    go_wp2_with fail
    refine (ie.out _ (HT.out.below B10.out)).mono ?_
    rintro e w11 ⟨rfl, hb11⟩
    have B11 := Lib.hid (B10.out.trans (hb11.mono B10.out.size))
    clear hb11
    go_wp2_with fail
    refine (ok.out _).mono ?_
    rintro e w12 ⟨rfl, hb12⟩
    have B12 := Lib.hid (B11.out.trans (hb12.mono B11.out.size))
    clear hb12
    go_wp2_with fail
    refine (sa.out _).mono ?_
    rintro e w13 ⟨⟨x13, rfl⟩, hb13⟩
    have B13 := Lib.hid (B12.out.trans (hb13.mono B12.out.size))
    clear hb13
    go_wp2_with fail
    refine (on.out _).mono ?_
    rintro e w14 ⟨rfl, hb14⟩
    have B14 := Lib.hid (B13.out.trans (hb14.mono B13.out.size))
    clear hb14
    go_wp2_with fail
    refine (sb.out _).mono ?_
    rintro e w15 ⟨⟨x15, rfl⟩, hb15⟩
    have B15 := Lib.hid (B14.out.trans (hb15.mono B14.out.size))
    clear hb15
    go_wp2_with fail
    refine (op.out _).mono ?_
    rintro e w16 ⟨rfl, hb16⟩
    have B16 := Lib.hid (B15.out.trans (hb16.mono B15.out.size))
    clear hb16
    go_wp2_with fail
    refine (sd.out _).mono ?_
    rintro e w17 ⟨⟨x17, rfl⟩, hb17⟩
    have B17 := Lib.hid (B16.out.trans (hb17.mono B16.out.size))
    clear hb17
    go_wp2
    go_ret
    exact ⟨rfl, B17.out⟩
  · have kseal := Lib.hid fun w => implSeal_no key nonce text w hf
    have kt : Hid (∀ w : World, Calls Tryz.prog 7 #[.slice none 0 0] w fun e w' => e = .returned (.bool false) ∧ Below w.heap.size w w') := Lib.hid fun w => by
      have := implTwice_any none 0 0 [] w (none_src w) (by omega) (fun j hj => by omega)
      rwa [clashB_no (clash_zero _)] at this
    have kn : Hid (∀ (w : World) (t : TypeId), Calls Tryz.prog 8 #[.slice (some ⟨w.heap.size, 0, none⟩) 1 1] (w.alloc (.cells #[.string ⟨#[]⟩, .string ⟨#[]⟩, .string ⟨#[]⟩] t)) (GivesT (noncesB [(⟨⟨#[]⟩, ⟨#[]⟩, ⟨#[]⟩⟩ : S3)]) (w.alloc (.cells #[.string ⟨#[]⟩, .string ⟨#[]⟩, .string ⟨#[]⟩] t)))) := Lib.hid fun w t =>
      implNonces_any _ 1 1 _ _ (one_src w t) (by omega) (fun j hj => by
        obtain rfl : j = 0 := (by omega)
        show (0 : Nat) ≤ 1048576
        omega)
    by_cases h1 : (key.size : Int) = 8
    · by_cases h2 : (nonce.size : Int) = 12
      · have h3 : ¬ ((text.size : Int) = 32) := fun e => hf ⟨by omega, by omega, by omega⟩
        have d3 : ((text.size : Int) == 32) = false := beq_eq_false_iff_ne.2 h3
        clear hf
        go_wp2_with fail
        refine (kseal.out _).mono ?_
        rintro e w2 ⟨rfl, rfl⟩
        go_wp2_with fail
        refine (kt.out _).mono ?_
        rintro e w3 ⟨rfl, hb3⟩
        have B3 := Lib.hid (B1.out.trans (hb3.mono B1.out.size))
        clear hb3
        go_wp2_with fail
        refine (kn.out _ _).mono ?_
        rintro e w4 ⟨v4, rfl, hown4, hb4⟩
        rw [one_nonce] at hown4
        obtain ⟨a4, c4, rfl, _, _, _⟩ := own_form hown4
        have B4 := Lib.hid ((B3.out.alloc B3.out.size _).trans (hb4.mono (by have := B3.out.size; simp; omega)))
        clear hown4 hb4
        go_wp2
        go_ret
        exact ⟨rfl, B4.out⟩
      · have d2 : ((nonce.size : Int) == 12) = false := beq_eq_false_iff_ne.2 h2
        clear hf
        go_wp2_with fail
        refine (kseal.out _).mono ?_
        rintro e w2 ⟨rfl, rfl⟩
        go_wp2_with fail
        refine (kt.out _).mono ?_
        rintro e w3 ⟨rfl, hb3⟩
        have B3 := Lib.hid (B1.out.trans (hb3.mono B1.out.size))
        clear hb3
        go_wp2_with fail
        refine (kn.out _ _).mono ?_
        rintro e w4 ⟨v4, rfl, hown4, hb4⟩
        rw [one_nonce] at hown4
        obtain ⟨a4, c4, rfl, _, _, _⟩ := own_form hown4
        have B4 := Lib.hid ((B3.out.alloc B3.out.size _).trans (hb4.mono (by have := B3.out.size; simp; omega)))
        clear hown4 hb4
        go_wp2
        go_ret
        exact ⟨rfl, B4.out⟩
    · have d1 : ((key.size : Int) == 8) = false := beq_eq_false_iff_ne.2 h1
      clear hf
      go_wp2_with fail
      refine (kseal.out _).mono ?_
      rintro e w2 ⟨rfl, rfl⟩
      go_wp2_with fail
      refine (kt.out _).mono ?_
      rintro e w3 ⟨rfl, hb3⟩
      have B3 := Lib.hid (B1.out.trans (hb3.mono B1.out.size))
      clear hb3
      go_wp2_with fail
      refine (kn.out _ _).mono ?_
      rintro e w4 ⟨v4, rfl, hown4, hb4⟩
      rw [one_nonce] at hown4
      obtain ⟨a4, c4, rfl, _, _, _⟩ := own_form hown4
      have B4 := Lib.hid ((B3.out.alloc B3.out.size _).trans (hb4.mono (by have := B3.out.size; simp; omega)))
      clear hown4 hb4
      go_wp2
      go_ret
      exact ⟨rfl, B4.out⟩
theorem fnSeals_all (ad : Option Addr) (len cap : Nat) (w : World) (hs : Draw.Src w w.heap.size ad len) (hT : Tabs w) (hM : Gen.MixTab w) :
    Calls Tryz.prog 3 #[.slice ad len cap] w fun e w' => e = .returned (.bool true) ∧ Below w.heap.size w w' := by
  by_cases h : len ≤ 1048576
  · exact fnSeals_law ad len cap w h hs hT hM
  · exact fnSeals_big ad len cap w (by omega)
end
end Go.Proofs.YtgpjklnlchbbbaaGreatDoor
namespace Go.Proofs.YtgpjklnlchbbbaaGreatDoor
open Go.RowKit Go.Proofs.YtgpjklnlchbbbaaGreatDoor.Sha

theorem isTab_of {P : Program} {w : World} {name : String} {g : Nat} {xs : List UInt32} (hg : P.globalNamed name = some g) (h : Lib.TabIs P w name .u32 (xs.map u)) : IsTab w g xs := by
  unfold Lib.TabIs World.var? at h
  rw [hg] at h
  simp only [Option.bind_some] at h
  have e : (List.map (fun z => Value.int IntKind.u32 z) (List.map u xs)).toArray = wcells xs := by simp [wcells]
  rw [e] at h
  split at h
  · rename_i cs t fr hh
    obtain rfl := Option.some.inj h
    exact ⟨t, fr, hh⟩
  · cases h
theorem gFirst : Tryz.prog.globalNamed "loop.example/g00969/impl.shaInitial" = some 0 := by kernel_rfl
theorem gFirstType : (Tryz.prog.globals[0]?).map (·.type) = some 104 := by kernel_rfl
theorem gKeys : Tryz.prog.globalNamed "loop.example/g00969/impl.shaConstants" = some 2 := by kernel_rfl
theorem gKeysType : (Tryz.prog.globals[2]?).map (·.type) = some 81 := by kernel_rfl
theorem datumFirst : (Rows.laid_loop_example_g00969_impl_shaInitial : DataW Unit) = Lib.tabData .u32 (firstS.list.map u) := by kernel_rfl
theorem datumKeys : (Rows.laid_loop_example_g00969_impl_shaConstants : DataW Unit) = Lib.tabData .u32 (keyL.map u) := by kernel_rfl
theorem first_of_head {W : World} {rest : List (String × DataW Unit)} (h : laidMet Tryz.prog (("loop.example/g00969/impl.shaInitial", Rows.laid_loop_example_g00969_impl_shaInitial) :: rest) W) : IsTab W 0 firstS.list := by
  rw [datumFirst] at h
  exact isTab_of gFirst (Lib.tabIs_of_head gFirst gFirstType Tryz.underlying104 Tryz.underlying78 (by kernel_rfl) (by kernel_rfl) h)
theorem keys_of_head {W : World} {rest : List (String × DataW Unit)} (h : laidMet Tryz.prog (("loop.example/g00969/impl.shaConstants", Rows.laid_loop_example_g00969_impl_shaConstants) :: rest) W) : IsTab W 2 keyL := by
  rw [datumKeys] at h
  exact isTab_of gKeys (Lib.tabIs_of_head gKeys gKeysType Tryz.underlying81 Tryz.underlying78 (by kernel_rfl) (by kernel_rfl) h)
end Go.Proofs.YtgpjklnlchbbbaaGreatDoor
namespace Go.Proofs.YtgpjklnlchbbbaaGreatDoor
open Go.RowKit

theorem mixSlot : (3 : Nat) < Tryz.prog.globals.size := of_decide_eq_true (by kernel_rfl)
theorem mixBegin : ((begin Tryz.prog (fun _ _ => 0) default).world.heap[3]?).bind Obj.row? = some (#[.int .i64 0, .int .i64 0, .int .i64 0, .int .i64 0], 135) := by kernel_rfl
theorem mixKinds : Tryz.prog.cellTypes Tryz.prog.depth 135 = some [3, 3, 3, 3] := by kernel_rfl
set_option maxRecDepth 100000 in
theorem int_of_ok {w : World} {base : Nat} {v : Value} (h : Cell.ok Tryz.prog w .any base 3 v) : ∃ n, v = .int .i64 n := by
  unfold Cell.ok at h
  rw [Tryz.underlying3] at h
  cases v <;> simp at h
  obtain ⟨rfl, _⟩ := h
  exact ⟨_, rfl⟩
set_option maxRecDepth 100000 in
/-- Some four factors. -/
theorem mix_of_shape {W : World} (h : W.ShapedOpen Tryz.prog) : ∃ M : Gen.Mix4, @Gen.MixTab ⟨M⟩ W := by
  obtain ⟨cs, hh, hs, hr⟩ := h.1 _ _ _ mixSlot mixBegin
  obtain ⟨ts, hts, _, hall⟩ := hr (by kernel_rfl)
  rw [mixKinds] at hts
  obtain rfl := Option.some.inj hts
  have hs4 : cs.size = 4 := hs
  have each : ∀ i (hi : i < 4), ∃ n, cs[i]? = some (.int .i64 n) := fun i hi => by
    obtain ⟨u, hu, hok⟩ := hall i (cs[i]'(by omega)) (by simp [hs4, hi])
    have hu4 : u = 3 := by
      rcases i with _ | _ | _ | _ | i
      · exact (Option.some.inj hu).symm
      · exact (Option.some.inj hu).symm
      · exact (Option.some.inj hu).symm
      · exact (Option.some.inj hu).symm
      · omega
    rw [hu4] at hok
    obtain ⟨n, hn⟩ := int_of_ok hok
    exact ⟨n, by rw [Array.getElem?_eq_getElem (by omega), hn]⟩
  obtain ⟨a, ha⟩ := each 0 (by omega)
  obtain ⟨b, hb⟩ := each 1 (by omega)
  obtain ⟨c, hc⟩ := each 2 (by omega)
  obtain ⟨d, hd⟩ := each 3 (by omega)
  refine ⟨⟨a, b, c, d⟩, 135, (0, 0), ?_⟩
  have e : cs = #[.int .i64 a, .int .i64 b, .int .i64 c, .int .i64 d] := by
    apply Array.ext_getElem?
    intro i
    rcases i with _ | _ | _ | _ | i
    · exact ha
    · exact hb
    · exact hc
    · exact hd
    · rw [Array.getElem?_eq_none (by omega), Array.getElem?_eq_none (by simp)]
  rw [hh, e]
  rfl

/-- The wrap of a tied card that hands on the world's shape beside the variables' content. -/
theorem handed_shape {H : Type} {enc : TypeId × Value → H} {C : Checked} {os : Os} {f : FuncId} {fn : Func} {s : ChangeSpec} {X : World → Prop} (keep : ∀ w w' : World, w.heap = w'.heap → X w → X w')
    (own : ownKnob C.prog.godebug = none) (started : os.Started) (plainStart : C.prog.inits.idxOf? f = none) (at_f : C.prog.funcs[f]? = some fn)
    (one : ∃ (w : World) (tape : Tape) (i : Input), w.os = os ∧ (w.forCall tape i).Shaped C.prog ∧ i.vars = [] ∧ Input.okWide C.prog (w.forCall tape i) .any w.heap.size f i ∧
      ((s.pre enc C.prog fn [] false (w.forCall tape i).memory i.args ∧ X (w.forCall tape i).memory) ∧ sizedMet enc C.prog fn (OpenSpec.ofChange s) false (w.forCall tape i).memory i.args) ∧ Assume.holds {} C.prog (lone (Frame.enter C.prog f i.args .normal) [] (w.forCall tape i)))
    (law : ∀ (W : World) (base : Nat) (args : Array Value) (ds gs : List (DataW H)) (before : List MemPlace), W.ShapedOpen C.prog → X W →
      (∀ (j : Nat) t v, fn.params[j]? = some t → args[j]? = some v → Value.okWide C.prog W .any base t v) → DataW.Whole enc C.prog fn.params.toList s.vars false W args.toList ds gs before →
      Calls C.prog f args W fun e W' => ∃ v, e = .returned v ∧ s.post enc C.prog fn false true false false W args v W') :
    ReturnsInHanded {} C os f .any (fun w args => (s.pre enc C.prog fn [] false w args ∧ X w) ∧ sizedMet enc C.prog fn (OpenSpec.ofChange s) false w args) (s.post enc C.prog fn false true false false) :=
  returnsInHanded_of_calls own started plainStart one fun w tape i _ shape _ fits ⟨⟨⟨ds, gs, before, whole, _⟩, content⟩, _⟩ _ => by
    obtain ⟨_, _, _, fn2, at2, _, _, _, _, vals⟩ := fits
    obtain rfl : fn2 = fn := Option.some.inj (at2.symm.trans at_f)
    have here : DataW.Whole enc C.prog fn2.params.toList s.vars false (w.forCall tape i) i.args.toList ds gs before := DataW.Whole.of_heap (w' := w.forCall tape i) (by rfl) whole
    refine (law _ w.heap.size i.args ds gs before shape (keep _ _ (by rfl) content) vals here).mono fun e W' told => ?_
    obtain ⟨v, rfl, left⟩ := told
    exact ChangeSpec.post_blind left
end Go.Proofs.YtgpjklnlchbbbaaGreatDoor
