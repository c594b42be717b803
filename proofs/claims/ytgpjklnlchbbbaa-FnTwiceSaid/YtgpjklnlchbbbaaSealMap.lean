/- Looking up in a map of texts that the call owns; the program's NoncesOf. -/
import Derived.Test.YtgpjklnlchbbbaaSealClone
import Derived.Maps.OwnSet
import Derived.Maps.OwnOps
import Derived.Maps.Views
import Derived.Carry
namespace Go
open Go.Maps (Keyed)
/-- What reads as a truth is one. -/
theorem plainElem_bool_inv {H : Type} {P : Program} {e : TypeId} (he : P.underlying e = some .bool) {v : Value} {z : DataW H × List MemPlace} (h : plainElem P e v = some z) : ∃ x, v = .bool x ∧ z = (.lit (.bool x), []) := by
  unfold plainElem at h
  rw [he] at h
  cases v <;> simp at h
  exact ⟨_, rfl, h.symm⟩
/-- Looking up a truth. -/
theorem wpList_lookup_own_bool {H : Type} {P : Program} (w : World) {ops : Array Oper} {rest : List Oper} {o : Oper} {a : Act} {Q : Exit → Act → World → Prop}
    (hg : o.guard = none) (m x : Operand) (t : TypeId) (hop : o.op = Op.lookup t m x false)
    (k e : TypeId) (K : Keyed P k) (ht : P.underlying t = some (.map k e)) (he : P.underlying e = some .bool) (hz : (zeroValue e).run P w = .ok (.bool false) w) (b n : Nat) (D : DataW H)
    (hm : a.eval m = .map (some b)) (hown : w.ownsMap P k (plainElem P e) b n D) (key : Value) (kl : Lit) (hx : a.eval x = key) (hkey : keyOf P k key = some kl)
    (c : Bool) (hat : D.atKey kl (.lit (.bool false)) = .lit (.bool c)) (hK : wpList P ops Q rest (a.put o.dst (.bool c)) w) :
    wpList P ops Q (o :: rest) a w := by
  refine wpList_plain hg fun K' hK' => ?_
  obtain ⟨v, ps, hrun, hv⟩ := hown.lookup K ht hz (plainElem_bool he false) hkey
  obtain ⟨d, rfl, hd⟩ := plainElem_bool_inv he hv
  rw [hat] at hd
  simp only [Prod.mk.injEq, DataW.lit.injEq, Lit.bool.injEq] at hd
  obtain ⟨rfl, _⟩ := hd
  unfold Oper.wp
  simp [execOp, hop, hm, hx, hrun, Result.andThen]
  exact hK' _ _ hK
end Go
namespace Go.Proofs.Ytgpjklnlchbbbaa
open Go.RowKit Go.Maps Go.Proofs.Ytgpjklnlchbbbaa.Parts Go.Proofs.Ytgpjklnlchbbbaa.Hexa

theorem keyText : Keyed Try.prog 9 := string_keyed Try.underlying9
theorem zeroBool (w : World) : (zeroValue 4).run Try.prog w = .ok (.bool false) w := by kernel_rfl
theorem lit_text {a b : ByteArray} (h : a ≠ b) : Lit.string a.data.toList ≠ Lit.string b.data.toList := fun e => h (data_inj (by simpa using e))

/-- A map that tells which texts are in a list. -/
def Tells (D : DataW Unit) (P : List ByteArray) : Prop := IsMap D ∧ ∀ y : ByteArray, D.atKey (.string y.data.toList) (.lit (.bool false)) = .lit (.bool (decide (y ∈ P)))
theorem tells_empty : Tells (.map []) [] := ⟨isMap_empty, fun y => by rw [decide_eq_false (by simp)]; rfl⟩
theorem Tells.put {D : DataW Unit} {P : List ByteArray} (h : Tells D P) (x : ByteArray) : Tells (D.put (.string x.data.toList) (.lit (.bool true))) (P ++ [x]) := by
  refine ⟨h.1.put _ _, fun y => ?_⟩
  by_cases e : y = x
  · subst e
    rw [atKey_put_same (k := .string y.data.toList) h.1 trivial, decide_eq_true (by simp)]
  · rw [atKey_put_other (lit_text e), h.2 y]
    congr 2
    by_cases hy : y ∈ P
    · rw [decide_eq_true hy, decide_eq_true (by simp [hy])]
    · rw [decide_eq_false hy, decide_eq_false (by simp [hy, e])]

/-- The loop's variable stands, whatever the map's block has become. -/
theorem nonce_cell {w1 wr : World} {M : Nat} {x0 x x2 : ByteArray} {t : TypeId} (h : (wr.alloc (.cells #[.string x0, .string x, .string x2] t)).grownBy w1 (some M)) (hne : M + 1 ≤ wr.heap.size) : w1.cell? ⟨wr.heap.size, 1, none⟩ = some (.string x) := by
  rw [World.cell?_of_block (w := wr.alloc (.cells #[.string x0, .string x, .string x2] t)) (h.block wr.heap.size (by simp) (by simp; omega))]
  have h1 := (MapKept.heap_alloc wr (.cells #[.string x0, .string x, .string x2] t)).1
  unfold World.cell?
  simp only [h1]
  rfl
/-- The nonces' row stands beside the map. -/
theorem own_beside {wa w1 : World} {M e : Nat} {v : Value} {n : Nat} {xs : List Value} (h : wa.ownsRow (M + 1) e 1 v n xs) (hg : wa.grownBy w1 (some M)) : w1.ownsRow (M + 1) e 1 v n xs := by
  refine h.kept hg ?_
  cases hv : v.ownBlock with
  | none => exact .inl rfl
  | some g =>
    right
    have := own_block_ge h g hv
    intro e
    cases e
    omega
theorem own_lower {w : World} {B B' e : Nat} {v : Value} {n : Nat} {xs : List Value} (h : w.ownsRow B e 1 v n xs) (hb : B' ≤ B) : w.ownsRow B' e 1 v n xs :=
  ⟨h.1, h.2.imp id fun ⟨g, cap, cur, hv, hg, r⟩ => ⟨g, cap, cur, hv, Nat.le_trans hb hg, r⟩⟩
theorem below_map {w wa w1 : World} {M : Nat} (h : Below M w wa) (hg : wa.grownBy w1 (some M)) (hs : w.heap.size ≤ wa.heap.size) (hM : M ≤ w.heap.size) : Below M w w1 := h.grown hg (by omega) (fun g hg => by cases hg; omega)

set_option maxRecDepth 100000 in
set_option maxHeartbeats 2000000 in
theorem implNonces_any (a : Option Addr) (n c : Nat) (L : List S3) (w : World) (hs : SrcS w a n L) (hn : n ≤ 1048580) (hsz : ∀ j, j < n → (L.getD j default).n.size ≤ 1048576) :
    Calls Try.prog 8 #[.slice a n c] w (GivesT (noncesB L) w) := by
  obtain ⟨i0, hi, hz0, hz1, hz2⟩ := info_parts infoStr
  have HS := Lib.hid hs
  have hL := Lib.hid hs.len
  have HZ := Lib.hid hsz
  clear hs hsz
  have hmm := @run_makeMap Try.prog
  go_enter Try.func8, Try.ntmps8
  go_wp2
  go_loopw [4, 10] (fun v iv wr => ∃ (k : Nat) (P : List ByteArray) (D : DataW Unit), k ≤ n ∧ P.length ≤ k ∧ iv = .int .i64 k ∧ Hid (P = noncesTo L k) ∧ Hid (Tells D P) ∧ Hid (wr.ownsMap Try.prog 9 (plainElem Try.prog 4) w.heap.size k D) ∧ wr.ownsRow (w.heap.size + 1) 9 1 v P.length (scells P) ∧ Below w.heap.size w wr ∧ w.heap.size + 1 ≤ wr.heap.size)
    (fun _ iv _ => n - (intOf iv).toNat)
  case atStart => exact ⟨0, [], .map [], Nat.zero_le _, Nat.le_refl _, rfl, Lib.hid rfl, Lib.hid tells_empty, Lib.hid (World.ownsMap_made _ _ _ _), World.ownsRow_nil _ _ _ _, (Below.refl _ _).alloc (Nat.le_refl _) _, by simp⟩
  case round =>
    clear hmm
    obtain ⟨k, P, D, hk, hP, rfl, HP, HT, HM, hown, hbel, hsz1⟩ := hrel
    obtain ⟨ad, cap, rfl, hcap, hnc, hr⟩ := own_form hown
    by_cases hlt : k < n
    · obtain ⟨g, off, rfl, hg, c1, c2, c3⟩ := HS.out.cell k hlt
      have d1 := (hbel.cell (p := ⟨g, off + k * 3, none⟩) hg).trans c1
      have d2 := (hbel.cell (p := ⟨g, off + k * 3 + 1, none⟩) hg).trans c2
      have d3 := (hbel.cell (p := ⟨g, off + k * 3 + 2, none⟩) hg).trans c3
      have HE := Lib.hid (noncesTo_step (L := L) (k := k) (by have := hL.out; omega))
      have hxs := HZ.out k hlt
      obtain ⟨y, hy⟩ : ∃ y, L.getD k default = y := ⟨_, rfl⟩
      rw [hy, ← HP.out] at HE
      rw [hy] at d1 d2 d3 hxs
      obtain ⟨x0, x, x2⟩ := y
      simp only at d1 d2 d3 hxs HE
      clear c1 c2 c3 hy hr
      have HO := Lib.hid hown
      clear hown
      have HM0 := Lib.hid (HM.out.alloc (.cells #[.string x0, .string x, .string x2] 29))
      have HB := Lib.hid (hbel.alloc hbel.size (.cells #[.string x0, .string x, .string x2] 29))
      have hkey : keyOf Try.prog 9 (.string x) = some (.string x.data.toList) := WideMaps.keyOf_string_mk Try.underlying9 (by unfold maxLen; omega)
      have HKY := Lib.hid hkey
      clear hkey
      by_cases hm : x ∈ P
      · have HN := Lib.hid (addN_yes hm)
        have HAT : Hid (D.atKey (.string x.data.toList) (.lit (.bool false)) = .lit (.bool true)) := Lib.hid (by rw [HT.out.2 x, decide_eq_true hm])
        clear hm
        go_wp2_with (first | (at_lookup; refine wpList_lookup_own_bool _ rfl _ _ 39 rfl 9 4 keyText Try.underlying39 Try.underlying4 (zeroBool _) w.heap.size k D rfl HM0.out _ _ rfl HKY.out true HAT.out ?_) | go_in)
        go_roundw
        case rel => exact ⟨k + 1, P, D, by omega, by omega, by go_num, Lib.hid (by rw [HE.out, HN.out]), HT, Lib.hid (HM0.out.mono (by omega)), HO.out.alloc _, HB.out, by simp; omega⟩
        case measure => (simp [intOf]; try omega)
      · have HN := Lib.hid (addN_no hm)
        have HAT : Hid (D.atKey (.string x.data.toList) (.lit (.bool false)) = .lit (.bool false)) := Lib.hid (by rw [HT.out.2 x, decide_eq_false hm])
        have HT2 := Lib.hid (HT.out.put x)
        clear hm
        go_wp2_with (first
          | (at_lookup; refine wpList_lookup_own_bool _ rfl _ _ 39 rfl 9 4 keyText Try.underlying39 Try.underlying4 (zeroBool _) w.heap.size k D rfl HM0.out _ _ rfl HKY.out false HAT.out ?_)
          | (at_mapUpdate; refine wpList_mapUpdate_own _ rfl _ _ _ 39 rfl 9 4 keyText Try.underlying39 (plainElem Try.prog 4) w.heap.size k D rfl HM0.out (by unfold maxLen; omega) _ _ _ rfl rfl HKY.out _ [] (plainElem_bool Try.underlying4 true) ?_; intro w1 hown1 hgrow1; have hs1 := hgrow1.size; have q1 : w1.cell? ⟨wr.heap.size, 1, none⟩ = some (.string x) := nonce_cell hgrow1 hsz1)
          | (go_at_call 21; refine (textClone_any x _ hxs).mono ?_; rintro e w2 ⟨rfl, hb2⟩; have HO2 := Lib.hid (own_below (own_beside (HO.out.alloc (.cells #[.string x0, .string x, .string x2] 29)) hgrow1) hb2); have hs2 := hb2.size)
          | (at_builtin; refine wpList_append_own _ rfl (.tmp 22) (.tmp 26) 26 rfl (w.heap.size + 1) 9 i0 (.string ⟨#[]⟩) 1 16 Try.underlying26 hi hz0 hz1 hz2 rfl (by decide) _ _ _ rfl (HO2.out.alloc _) ⟨w2.heap.size, 0, none⟩ 1 1 [.string x] rfl rfl (World.news_of_block (heap_alloc_new _ _)) (by simp [Value.oneCell']) (by unfold maxLen; omega) (by omega) (by simp at hs1 ⊢; omega) ?_; intro v1 w3 hown3 hgrow3 hn3)
          | go_in)
        have B1 : Below w.heap.size w w1 := HB.out.grown hgrow1 (by simp; omega) (fun g hg => by cases hg; exact Nat.le_refl _)
        have B2 : Below w.heap.size w w2 := B1.trans (hb2.mono B1.size)
        have hb3 : Below w.heap.size w w3 := (B2.alloc B2.size _).grown hgrow3 (by have := B2.size; simp; omega) (fun g hg => Nat.le_of_succ_le (own_block_ge HO2.out g hg))
        have HO3 : Hid (w3.ownsRow (w.heap.size + 1) 9 1 v1 (P ++ [x]).length (scells (P ++ [x]))) := Lib.hid (by simpa [scells, List.length_append] using hown3)
        have HM3 : Hid (w3.ownsMap Try.prog 9 (plainElem Try.prog 4) w.heap.size (k + 1) (D.put (.string x.data.toList) (.lit (.bool true)))) := Lib.hid (by
          have hl := hown1.lt
          have m2 := hown1.kept (row := none) ⟨hb2.os, hb2.tape, hb2.output, hb2.size, fun g hg _ => hb2.block g hg⟩ (by simp)
          exact (m2.alloc _).kept hgrow3 (fun e => absurd (own_block_ge HO2.out _ e.symm) (by omega)))
        have hs3 : w.heap.size + 1 ≤ w3.heap.size := by have := hgrow3.size; simp at this hs1; omega
        clear hown1 hgrow1 hown3 hgrow3 hn3 HO HO2 B1 B2 hb2 hs1 hs2 q1 HM0 HM HB HAT HKY
        go_wp2
        go_roundw
        case rel => exact ⟨k + 1, P ++ [x], _, by omega, by simp; omega, by go_num, Lib.hid (by rw [HE.out, HN.out]), HT2, HM3, HO3.out, hb3, hs3⟩
        case measure => (simp [intOf]; try omega)
    · obtain rfl : k = n := by omega
      have HF : Hid (P = noncesB L) := Lib.hid (by rw [HP.out, ← hL.out, noncesTo_all])
      clear hr HP
      have HO := Lib.hid hown
      clear hown
      go_wp2
      go_ret
      exact ⟨_, rfl, by rw [← HF.out]; exact own_lower HO.out (by omega), hbel⟩
end Go.Proofs.Ytgpjklnlchbbbaa
