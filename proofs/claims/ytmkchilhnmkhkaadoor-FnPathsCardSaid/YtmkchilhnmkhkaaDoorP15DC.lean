/- Merged texts: EqTexts, MarkText, IntsBase, MarkStr, PartsLawA, SplitPathLaw, JoinSpec, PathSpecB, JoinImpl, PathImplB, ParentOfLaw, LastOfLaw, Says, PathSpecC, EqualImpl, PathImplC, IsUnderLaw, Deep, Tree, IntsAt. -/
import Derived.Test.YtmkchilhnmkhkaaDoorP15DB
import Derived.Test.YtmkchilhnmkhkaaDoorRows
import Derived.WalkKit
import Derived.WalkSpells
import Derived.WalkLawsBesides
import Derived.Lib.Hide
import Derived.Deep.QuietTactic
import Derived.BigQuiet
import Derived.Deep.RegionHeld3
import Derived.Test.YtmkchilhnmkhkaaDoorShelfJ
import Derived.Below
import Derived.RowKit3
import Derived.OwnWalk
namespace Go.Proofs.YtmkchilhnmkhkaaDoor
open Go.RowKit Go.Proofs.YtmkchilhnmkhkaaDoor.Parts Go.Proofs.YtmkchilhnmkhkaaDoor.Hexa

theorem cell_text {w : World} {a : Addr} {P : List ByteArray} {k : Nat} (hk : k < P.length) (h : w.cell? a = (scells P)[k]?) : w.cell? a = some (.string P[k]) := by
  rw [h]; simp [scells, hk]

set_option maxRecDepth 100000 in
set_option maxHeartbeats 1000000 in
theorem eqStrings_any (a1 a2 : Option Addr) (n c1 c2 : Nat) (P : List ByteArray) (w : World) (hP : P.length = n) (hn : n ≤ 100000000) (r1 : Reads w a1 (scells P)) (r2 : Reads w a2 (scells P)) :
    Calls Tryd.prog 21 #[.slice a1 n c1, .slice a2 n c2] w fun e w' => e = .returned (.bool true) ∧ ∃ m, w' = w.drewN m := by
  have HP := Lib.hid hP
  clear hP
  have R1 := Lib.hid r1
  have R2 := Lib.hid r2
  clear r1 r2
  go_enter Tryd.func21, Tryd.ntmps21
  go_wp2
  go_loopw [5] (fun iv wr => ∃ k m : Nat, k ≤ n ∧ iv = .int .i64 k ∧ wr = w.drewN m) (fun iv _ => n - (intOf iv).toNat)
  case atStart => exact ⟨0, 0, Nat.zero_le _, rfl, rfl⟩
  case round =>
    obtain ⟨k, m, hk, rfl, rfl⟩ := hrel
    by_cases hlt : k < n
    · obtain ⟨g1, rfl, e1⟩ := R1.out k (by have := HP.out; simp [scells]; omega)
      obtain ⟨g2, rfl, e2⟩ := R2.out k (by have := HP.out; simp [scells]; omega)
      have d1 := cell_text (by have := HP.out; omega) e1
      have d2 := cell_text (by have := HP.out; omega) e2
      obtain ⟨x, hx⟩ : ∃ x, P[k]'(by have := HP.out; omega) = x := ⟨_, rfl⟩
      rw [hx] at d1 d2
      clear e1 e2 hx
      go_wp2
      go_quiet (fail)
      go_wp2
      go_roundw
      case rel => exact ⟨k + 1, _, by omega, by go_num, rfl⟩
      case measure => (simp [intOf]; try omega)
    · obtain rfl : k = n := by omega
      go_wp2
      go_ret
      exact ⟨rfl, _, rfl⟩

end Go.Proofs.YtmkchilhnmkhkaaDoor
namespace Go.Proofs.YtmkchilhnmkhkaaDoor
open Go.RowKit Go.Proofs.YtmkchilhnmkhkaaDoor.Parts Go.Proofs.YtmkchilhnmkhkaaDoor.Hexa
theorem ret_str {a b : ByteArray} (h : a = b) : Ending.returned (.string a) = .returned (.string b) := by rw [h]

set_option maxRecDepth 100000 in
set_option maxHeartbeats 1000000 in
theorem markText_any (k : Nat) (w : World) (h0 : 0 < k) (hk : k ≤ 100000000) :
    Calls Tryd.prog 59 #[.int .i64 k] w fun e w' => e = .returned (.string (markT k)) ∧ Below w.heap.size w w' := by
  go_enter Tryd.func59, Tryd.ntmps59
  go_wp2
  go_loopw [0, 3] (fun kv sv wr => ∃ (j : Nat) (t : ByteArray), j ≤ k ∧ t.size ≤ k ∧ Hid (digs j ++ t.data.toList = digs k) ∧ kv = .int .i64 j ∧ sv = .string t ∧ Below w.heap.size w wr) (fun kv _ _ => (intOf kv).toNat)
  case atStart => exact ⟨k, ⟨#[]⟩, Nat.le_refl _, Nat.zero_le _, Lib.hid (by simp), rfl, rfl, Below.refl _ _⟩
  case round =>
    obtain ⟨j, t, hj, ht, HD, rfl, rfl, hbel⟩ := hrel
    by_cases hlt : 0 < j
    · obtain ⟨cs, hcs, hcd, hce⟩ := Parts.one_byte (UInt8.ofNat (48 + j % 10))
      have HC := Lib.hid hcd
      have HT := Lib.hid (digs_round hlt HD.out hcd)
      have HS := digs_size HT.out
      have HS' : cs.size + t.size ≤ 100000001 := by omega
      have en : ((UInt8.ofNat (48 + j % 10)).toNat : Int) = 48 + (j : Int) % 10 := by rw [UInt8.toNat_ofNat']; omega
      have hown := World.ownsRow_lit (e := 5) (size := 1) (base := w.heap.size) wr #[.int .u8 (48 + (j : Int) % 10)] 1 hbel.size (by decide) rfl
      have hconv := own_string (P := Tryd.prog) (l := [UInt8.ofNat (48 + j % 10)]) 22 9 Tryd.underlying22 Tryd.underlying5 Tryd.underlying9 (by rw [show bcells [UInt8.ofNat (48 + j % 10)] = [Value.int .u8 (48 + (j : Int) % 10)] by simp only [bcells, List.map, en]]; exact hown)
      rw [← hce] at hconv
      clear hown hcd hce en
      go_wp2
      go_roundw
      case rel => exact ⟨j / 10, cs ++ t, by omega, HS, HT, by go_num, rfl, hbel.alloc hbel.size _⟩
      case measure => (simp [intOf]; omega)
    · obtain rfl : j = 0 := by omega
      go_wp2
      go_ret
      exact ⟨ret_str (mark_end HD.out), hbel⟩

end Go.Proofs.YtmkchilhnmkhkaaDoor
namespace Go.Proofs.YtmkchilhnmkhkaaDoor
open Go.RowKit Go.Proofs.YtmkchilhnmkhkaaDoor.Parts Go.Proofs.YtmkchilhnmkhkaaDoor.Hexa

theorem ret_i64' {a b : Int} (h : a = b) : Ending.returned (.int .i64 a) = .returned (.int .i64 b) := by rw [h]

/-- A row of ints as cells. -/
def icells (xs : List Int) : List Value := xs.map fun x => Value.int .i64 x
theorem icells_length (xs : List Int) : (icells xs).length = xs.length := by simp [icells]
theorem cell_int {w : World} {a : Addr} {P : List Int} {k : Nat} (hk : k < P.length) (h : w.cell? a = (icells P)[k]?) : w.cell? a = some (.int .i64 P[k]) := by
  rw [h]; simp [icells, hk]
end Go.Proofs.YtmkchilhnmkhkaaDoor
namespace Go.Proofs.YtmkchilhnmkhkaaDoor
open Go.RowKit Go.Proofs.YtmkchilhnmkhkaaDoor.Parts Go.Proofs.YtmkchilhnmkhkaaDoor.Hexa


/-- The first j texts are the marks from k on. -/
def Marked (xs : List Value) (k j : Nat) : Prop := ∀ t, t < j → xs[t]? = some (.string (markT (k + t)))
theorem Marked.step {xs : List Value} {k j : Nat} (h : Marked xs k j) (hj : j < xs.length) : Marked (xs.set j (.string (markT (k + j)))) k (j + 1) := by
  intro t ht
  by_cases e : t = j
  · subst e; simp [hj]
  · rw [List.getElem?_set_ne (by omega)]; exact h t (by omega)

def MarkPostS (base : Nat) (v : Value) (n k : Nat) (w : World) (e : Ending) (w' : World) : Prop :=
  ∃ ys, e = .returned (.int .i64 (k + n)) ∧ w'.ownsRow base 9 1 v n ys ∧ Marked ys k n ∧ Below base w w'

set_option maxRecDepth 100000 in
set_option maxHeartbeats 1000000 in
theorem markStrings_any (base : Nat) (v : Value) (n k : Nat) (xs : List Value) (w : World) (h0 : 0 < k) (hk : k + n ≤ 100000000) (hbase : base ≤ w.heap.size) (hown : w.ownsRow base 9 1 v n xs) :
    Calls Tryd.prog 22 #[v, .int .i64 k] w (MarkPostS base v n k w) := by
  obtain ⟨ad, cap, rfl, hcap, hnc, hr⟩ := own_form hown
  have HO := Lib.hid hown
  clear hown hr
  unfold maxLen at hcap
  go_enter Tryd.func22, Tryd.ntmps22
  go_wp2
  go_loopw [1, 5] (fun kv iv wr => ∃ (j q : Nat) (ys : List Value), j ≤ n ∧ q ≤ k + n ∧ 0 < q ∧ Hid (q = k + j) ∧ Hid (Marked ys k j) ∧ iv = .int .i64 j ∧ kv = .int .i64 q ∧ Hid (wr.ownsRow base 9 1 (.slice ad n cap) n ys) ∧ Below base w wr) (fun _ iv _ => n - (intOf iv).toNat)
  case atStart => exact ⟨0, k, xs, Nat.zero_le _, by omega, h0, Lib.hid rfl, Lib.hid (fun t ht => by omega), rfl, rfl, HO, Below.refl _ _⟩
  case round =>
    obtain ⟨j, q, ys, hj, hq, hq0, HQ, HM, rfl, rfl, HW, hbel⟩ := hrel
    by_cases hlt : j < n
    · have hl : ys.length = n := own_length HW.out
      obtain ⟨ad', cap', hv, _, _, hr⟩ := own_form HW.out
      obtain ⟨g, hg, hc⟩ := hr j (by omega)
      have hv' : ad = ad' := by simp at hv; exact hv.1
      subst hv'
      subst hg
      have hgb : base ≤ g := own_block_ge HW.out g rfl
      have hM1 := Lib.hid (HM.out.step (by omega))
      have HQ1 : Hid (markT q = markT (k + j)) := Lib.hid (by rw [HQ.out])
      clear hr hc hv HO
      go_wp2_with (go_at_call 59; refine (markText_any q _ hq0 (by omega)).mono ?_; rintro e w1 ⟨rfl, hb1⟩; have HW1 := Lib.hid (own_below HW.out hb1); obtain ⟨x, hx⟩ : ∃ x, w1.cell? ⟨g, j, none⟩ = some x := ⟨ys[j]'(by omega), by rw [HW1.out.cellAt j (by omega)]; simp [hl, hlt]⟩; have hfz := HW1.out.frozenAt j)
      have HS := Lib.hid (HW1.out.stored j (.string (markT q))).1
      have hb2 : Below base w (w1.setCell ⟨g, j, none⟩ (.string (markT q))) := (hbel.trans (hb1.mono (by have := hbel.size; omega))).setCell hgb _
      clear hx hfz hl
      go_roundw
      case rel => exact ⟨j + 1, q + 1, ys.set j (.string (markT q)), by omega, by have := HQ.out; omega, by omega, Lib.hid (by have := HQ.out; omega), by rw [HQ1.out]; exact hM1, by go_num, by go_num, HS, hb2⟩
      case measure => (simp [intOf]; try omega)
    · obtain rfl : j = n := by omega
      go_wp2
      go_ret
      exact ⟨ys, ret_i64' (by have := HQ.out; omega), HW.out, HM.out, hbel⟩

set_option maxRecDepth 100000 in
set_option maxHeartbeats 1000000 in
theorem heldStrings_any (base : Nat) (v : Value) (n k : Nat) (ys : List Value) (w : World) (h0 : 0 < k) (hk : k + n ≤ 100000000) (hown : w.ownsRow base 9 1 v n ys) (hm : Marked ys k n) :
    Calls Tryd.prog 23 #[v, .int .i64 k] w fun e w' => e = .returned (.int .i64 (k + n)) ∧ Below w.heap.size w w' := by
  obtain ⟨ad, cap, rfl, hcap, hnc, hr⟩ := own_form hown
  have hl := own_length hown
  have HR := Lib.hid hr
  have HM := Lib.hid hm
  have HL := Lib.hid hl
  clear hown hr hm hl
  unfold maxLen at hcap
  go_enter Tryd.func23, Tryd.ntmps23
  go_wp2
  go_loopw [1, 5] (fun kv iv wr => ∃ (j q : Nat), j ≤ n ∧ q ≤ k + n ∧ 0 < q ∧ Hid (q = k + j) ∧ iv = .int .i64 j ∧ kv = .int .i64 q ∧ Below w.heap.size w wr) (fun _ iv _ => n - (intOf iv).toNat)
  case atStart => exact ⟨0, k, Nat.zero_le _, by omega, h0, Lib.hid rfl, rfl, rfl, Below.refl _ _⟩
  case round =>
    obtain ⟨j, q, hj, hq, hq0, HQ, rfl, rfl, hbel⟩ := hrel
    by_cases hlt : j < n
    · obtain ⟨g, rfl, hc⟩ := HR.out j (by have := HL.out; omega)
      have hgb : g < w.heap.size := by
        have e : ∃ x, w.cell? ⟨g, j, none⟩ = some x := ⟨_, by rw [hc, HM.out j hlt]⟩
        obtain ⟨x, hx⟩ := e
        rcases Nat.lt_or_ge g w.heap.size with h | h
        · exact h
        · simp [World.cell?, Array.getElem?_eq_none h] at hx
      have hc0 : wr.cell? ⟨g, j, none⟩ = some (.string (markT q)) := by rw [hbel.cell (by exact hgb), hc, HM.out j hlt, HQ.out]
      clear hc
      go_wp2
      go_region_with (go_at_call 59; refine (markText_any q _ hq0 (by omega)).mono ?_; rintro e w1 ⟨rfl, hb1⟩; have hc1 : w1.cell? ⟨g, j, none⟩ = some (.string (markT q)) := (hb1.cell (by have := hbel.size; simp; omega)).trans hc0)
      all_goals
        have hb2 : Below w.heap.size w w1 := hbel.drew.trans (hb1.mono hbel.size)
        clear hc1 hc0
        go_wp2
        go_roundw
        case rel => exact ⟨j + 1, q + 1, by omega, by have := HQ.out; omega, by omega, Lib.hid (by have := HQ.out; omega), by go_num, by go_num, hb2⟩
        case measure => (simp [intOf]; try omega)
    · obtain rfl : j = n := by omega
      go_wp2
      go_ret
      exact ⟨ret_i64' (by have := HQ.out; omega), hbel⟩
end Go.Proofs.YtmkchilhnmkhkaaDoor

namespace Go.Proofs.YtmkchilhnmkhkaaDoor
open Go.RowKit Go.Proofs.YtmkchilhnmkhkaaDoor.Parts Go.Proofs.YtmkchilhnmkhkaaDoor.Hexa Go.Proofs.YtmkchilhnmkhkaaDoor.Byt

set_option maxRecDepth 100000 in
set_option maxHeartbeats 1000000 in
theorem splitPath_law_of (s : ByteArray) (P : List ByteArray) (c : Int) (w : World) (hs : s.size ≤ 1048576) (hP : P.length ≤ 61)
    (h1 : ∀ w, Calls Tryd.prog 15 #[.string s] w (GivesTI P c w))
    (hE : ErrIs w) (h2 : ∀ w, ErrIs w → Calls Tryd.prog 14 #[.string s] w (GivesTI P c w)) :
    Calls Tryd.prog 4 #[.string s] w fun e w' => e = .returned (.bool true) ∧ Below w.heap.size w w' := by
  have k1 := Lib.hid h1
  have k2 := Lib.hid h2
  have HE := Lib.hid hE
  clear h1 h2 hE
  go_enter Tryd.func4, Tryd.ntmps4
  go_wp2_with fail
  refine (k1.out _).mono ?_
  rintro e w1 ⟨v1, rfl, hown1, hb1⟩
  obtain ⟨ad1, cap1, rfl, hc1, hn1, hr1⟩ := own_form hown1
  have O1 := Lib.hid hown1
  have B1 := Lib.hid hb1
  clear hown1 hr1 hc1 hn1 hb1
  go_wp2_with fail
  refine (k2.out _ (HE.out.later rfl B1.out)).mono ?_
  rintro e w2 ⟨v2, rfl, hown2, hb2⟩
  obtain ⟨ad2, cap2, rfl, hc2, hn2, hr2⟩ := own_form hown2
  have O2 := Lib.hid hown2
  have B2 := Lib.hid hb2
  have O12 := Lib.hid (own_below O1.out hb2)
  clear hown2 hr2 hc2 hn2 hb2
  go_wp2_with fail
  refine (eqStrings_any _ _ _ _ _ P _ rfl (by omega) (own_reads O2.out) (own_reads O12.out)).mono ?_
  rintro e w3 ⟨rfl, m, rfl⟩
  have O2' := Lib.hid (own_drawsP O2.out m)
  go_wp2_with fail
  refine (markStrings_any w1.heap.size _ P.length 1 (scells P) (w2.drewN m) (by decide) (by omega) (B2.out.size) O2'.out).mono ?_
  rintro e w4 ⟨ys, rfl, hown4, hm4, hb4⟩
  have O4 := Lib.hid hown4
  have M4 := Lib.hid hm4
  have B4 : Hid (Below w1.heap.size w1 w4) := Lib.hid ((below_drawsP B2.out m).trans hb4)
  clear hown4 hm4 hb4
  go_wp2_with fail
  refine (heldStrings_any w1.heap.size _ P.length 1 ys _ (by decide) (by omega) O4.out M4.out).mono ?_
  rintro e w5 ⟨rfl, hb5⟩
  have B5 := Lib.hid hb5
  have hpos : ¬ ((1 : Int) + (P.length : Int) < 0) := by omega
  clear hb5
  go_wp2_with fail
  refine (k2.out _ (((HE.out.later rfl B1.out).later rfl B4.out).later rfl B5.out)).mono ?_
  rintro e w6 ⟨v6, rfl, hown6, hb6⟩
  obtain ⟨ad6, cap6, rfl, hc6, hn6, hr6⟩ := own_form hown6
  have O6 := Lib.hid hown6
  have B6 := Lib.hid hb6
  have B46 : Hid (Below w4.heap.size w4 w6) := Lib.hid (B5.out.trans (hb6.mono B5.out.size))
  have B16 : Hid (Below w1.heap.size w1 w6) := Lib.hid (B4.out.trans (B46.out.mono B4.out.size))
  have O16 := Lib.hid (own_below O1.out B16.out)
  have O46 := Lib.hid (own_below O4.out B46.out)
  clear hown6 hr6 hc6 hn6 hb6
  go_wp2_with fail
  refine (eqStrings_any _ _ _ _ _ P _ rfl (by omega) (own_reads O6.out) (own_reads O16.out)).mono ?_
  rintro e w7 ⟨rfl, m7, rfl⟩
  have O47 := Lib.hid (own_drawsP O46.out m7)
  go_wp2_with fail
  refine (heldStrings_any w1.heap.size _ P.length 1 ys (w6.drewN m7) (by decide) (by omega) O47.out M4.out).mono ?_
  rintro e w8 ⟨rfl, hb8⟩
  have B8 := Lib.hid hb8
  clear hb8
  go_wp2
  go_ret
  exact ⟨rfl, B1.out.trans ((((below_drawsP B16.out m7).trans (B8.out.mono (by have := B16.out.size; exact this)))).mono B1.out.size)⟩

set_option maxRecDepth 100000 in
set_option maxHeartbeats 400000 in
theorem splitPath_law (s : ByteArray) (w : World) (hE : ErrIs w) :
    Calls Tryd.prog 4 #[.string s] w fun e w' => e = .returned (.bool true) ∧ Below w.heap.size w w' := by
  by_cases h : s.size ≤ 1048576
  · exact splitPath_law_of s _ _ w h (names_len s) (fun w => specSplit_any s w (by omega)) hE (fun w hE => implSplit_any s w (by omega) hE)
  · have hn : 1048576 < s.size := by omega
    go_enter Tryd.func4, Tryd.ntmps4
    go_wp2
    go_ret
    exact ⟨rfl, Below.refl _ _⟩
end Go.Proofs.YtmkchilhnmkhkaaDoor
namespace Go.Proofs.YtmkchilhnmkhkaaDoor
open Go.RowKit Go.Proofs.YtmkchilhnmkhkaaDoor.Parts Go.Proofs.YtmkchilhnmkhkaaDoor.Hexa

set_option maxRecDepth 100000 in
set_option maxHeartbeats 1000000 in
theorem specJoin_any (a : Option Addr) (n c : Nat) (L : List ByteArray) (w : World) (hs : SrcT w a n L) (hn : n ≤ 2000000) (hm : ∀ j, j < n → (L.getD j default).size ≤ 2000000) :
    Calls Tryd.prog 60 #[.slice a n c] w (SaysT (joinB L) w) := by
  have HS := Lib.hid hs
  have HL := Lib.hid hs.len
  have HM := Lib.hid hm
  have HT : Hid (∀ k, k ≤ n → (joinTo L k).size ≤ 4000002000000) := Lib.hid (fun k hk => Nat.le_trans (joinTo_size L 2000000 k (fun j hj => hm j (by omega))) (Nat.le_trans (Nat.mul_le_mul_right _ (Nat.le_trans hk hn)) (by decide)))
  clear hs hm
  by_cases h0 : n = 0
  · subst h0
    have HJ : Hid (joinB L = ⟨#[47]⟩) := Lib.hid (by unfold joinB; rw [if_pos HL.out]; rfl)
    go_enter Tryd.func60, Tryd.ntmps60
    go_wp2
    go_ret
    exact ⟨by rw [HJ.out]; rfl, Below.refl _ _⟩
  · have HJ : Hid (joinB L = joinTo L n) := Lib.hid (by unfold joinB; rw [HL.out, if_neg h0])
    go_enter Tryd.func60, Tryd.ntmps60
    go_wp2
    go_loopw [3, 4] (fun sv kv wr => ∃ (k : Nat) (x : ByteArray), k ≤ n ∧ kv = .int .i64 k ∧ sv = .string x ∧ Hid (x = joinTo L k) ∧ x.size ≤ 4000002000000 ∧ w = wr) (fun _ kv _ => n - (intOf kv).toNat)
    case atStart => exact ⟨0, _, Nat.zero_le _, rfl, rfl, Lib.hid rfl, by decide, rfl⟩
    case round =>
      obtain ⟨k, x, hk, rfl, rfl, HX, hx, rfl⟩ := hrel
      by_cases hlt : k < n
      · obtain ⟨g, off, rfl, hg, d0⟩ := srcT_at HS.out k hlt
        obtain ⟨y, hy⟩ : ∃ y, L.getD k default = y := ⟨_, rfl⟩
        rw [hy] at d0
        have hy2 : y.size ≤ 2000000 := by rw [← hy]; exact HM.out k hlt
        have HN : Hid (x ++ (⟨#[47]⟩ : ByteArray) ++ y = joinTo L (k + 1)) := Lib.hid (by rw [joinTo_next, HX.out, hy]; rfl)
        have HZ : Hid ((x ++ (⟨#[47]⟩ : ByteArray) ++ y).size ≤ 4000002000000) := Lib.hid (by rw [HN.out]; exact HT.out (k + 1) (by omega))
        clear hy
        go_wp2
        go_roundw
        case rel => exact ⟨k + 1, _, by omega, by go_num, rfl, HN, HZ.out, by first | rfl | trivial⟩
        case measure => (simp [intOf]; try omega)
      · obtain rfl : k = n := by omega
        go_wp2
        go_ret
        exact ⟨by rw [HJ.out, ← HX.out]; rfl, Below.refl _ _⟩
end Go.Proofs.YtmkchilhnmkhkaaDoor
namespace Go.Proofs.YtmkchilhnmkhkaaDoor
open Go.RowKit Go.Proofs.YtmkchilhnmkhkaaDoor.Parts Go.Proofs.YtmkchilhnmkhkaaDoor.Hexa

set_option maxRecDepth 100000 in
set_option maxHeartbeats 1000000 in
theorem specParent_any (s : ByteArray) (w : World) (hs : s.size ≤ 2000000) :
    Calls Tryd.prog 24 #[.string s] w (SaysT (parentB s) w) := by
  obtain ⟨L, hL⟩ : ∃ L, pathNames s = L := ⟨_, rfl⟩
  obtain ⟨q, hq⟩ : ∃ q, pathCode s = q := ⟨_, rfl⟩
  have HQ := Lib.hid hq
  have HL := Lib.hid hL
  have HN : Hid (q ≠ 0 → L.length = 0) := Lib.hid (fun h => by rw [← hL]; exact names_none (by rw [hq]; exact h))
  have HM : Hid (∀ j, j < L.length → (L.getD j default).size ≤ 60) := Lib.hid (fun j hj => by have := names_size s j (by rw [hL]; exact hj); rw [hL] at this; exact this)
  have hl : L.length ≤ 61 := by rw [← hL]; exact names_len s
  clear hL hq
  go_enter Tryd.func24, Tryd.ntmps24
  go_wp2_with fail
  refine (specSplit_any s _ hs).mono ?_
  rw [HQ.out, HL.out]
  rintro e w1 ⟨v, rfl, ho, hb⟩
  obtain ⟨ad, cap, rfl, hcap, hnc, hr⟩ := own_form ho
  have HO := Lib.hid ho
  have HB := Lib.hid hb
  unfold maxLen at hcap
  clear ho hb hr
  by_cases h0 : L.length = 0
  · have HJ : Hid (parentB s = ⟨#[]⟩) := Lib.hid (by unfold parentB; rw [HL.out, if_pos h0])
    by_cases hz : q = 0
    · subst hz
      go_wp2
      go_ret
      exact ⟨by rw [HJ.out]; rfl, HB.out⟩
    · go_wp2
      go_ret
      exact ⟨by rw [HJ.out]; rfl, HB.out⟩
  · have hz : q = 0 := by
      by_cases h : q = 0
      · exact h
      · exact absurd (HN.out h) h0
    subst hz
    have HJ : Hid (parentB s = joinB (L.take (L.length - 1))) := Lib.hid (by unfold parentB; rw [HL.out, if_neg h0])
    obtain ⟨m, hm⟩ : ∃ m, L.length = m + 1 := ⟨L.length - 1, by omega⟩
    have HT : Hid (SrcT w1 ad m (L.take m)) := Lib.hid (srcT_take (srcT_of_own HO.out) (by omega))
    have HT2 : Hid (∀ j, j < m → ((L.take m).getD j default).size ≤ 2000000) := Lib.hid (fun j hj => by
      have h9 := HM.out j (by omega)
      have e9 : (L.take m).getD j default = L.getD j default := by
        simp only [List.getD, List.getElem?_take]
        rw [if_pos hj]
      rw [e9]; omega)
    have HJ2 : Hid (parentB s = joinB (L.take m)) := Lib.hid (by rw [HJ.out, hm]; rfl)
    rw [hm] at hnc hl h0 ⊢
    clear HJ HN HM
    go_wp2_with fail
    refine (specJoin_any ad m cap (L.take m) _ HT.out (by omega) HT2.out).mono ?_
    rw [← HJ2.out]
    rintro e w2 ⟨rfl, hb2⟩
    have B2 : Below w.heap.size w w2 := HB.out.trans (hb2.mono HB.out.size)
    clear hb2
    go_wp2
    go_ret
    exact ⟨rfl, B2⟩
set_option maxRecDepth 100000 in
set_option maxHeartbeats 1000000 in
theorem specLast_any (s : ByteArray) (w : World) (hs : s.size ≤ 2000000) :
    Calls Tryd.prog 25 #[.string s] w (SaysT (lastB s) w) := by
  obtain ⟨L, hL⟩ : ∃ L, pathNames s = L := ⟨_, rfl⟩
  obtain ⟨q, hq⟩ : ∃ q, pathCode s = q := ⟨_, rfl⟩
  have HQ := Lib.hid hq
  have HL := Lib.hid hL
  have HN : Hid (q ≠ 0 → L.length = 0) := Lib.hid (fun h => by rw [← hL]; exact names_none (by rw [hq]; exact h))
  have hl : L.length ≤ 61 := by rw [← hL]; exact names_len s
  clear hL hq
  go_enter Tryd.func25, Tryd.ntmps25
  go_wp2_with fail
  refine (specSplit_any s _ hs).mono ?_
  rw [HQ.out, HL.out]
  rintro e w1 ⟨v, rfl, ho, hb⟩
  obtain ⟨ad, cap, rfl, hcap, hnc, hr⟩ := own_form ho
  have HO := Lib.hid ho
  have HB := Lib.hid hb
  unfold maxLen at hcap
  clear ho hb hr
  by_cases h0 : L.length = 0
  · have HJ : Hid (lastB s = ⟨#[]⟩) := Lib.hid (by unfold lastB; rw [HL.out, if_pos h0])
    by_cases hz : q = 0
    · subst hz
      go_wp2
      go_ret
      exact ⟨by rw [HJ.out]; rfl, HB.out⟩
    · go_wp2
      go_ret
      exact ⟨by rw [HJ.out]; rfl, HB.out⟩
  · have hz : q = 0 := by
      by_cases h : q = 0
      · exact h
      · exact absurd (HN.out h) h0
    subst hz
    obtain ⟨m, hm⟩ : ∃ m, L.length = m + 1 := ⟨L.length - 1, by omega⟩
    have HJ : Hid (lastB s = L.getD m default) := Lib.hid (by unfold lastB; rw [HL.out, if_neg h0, hm]; rfl)
    obtain ⟨g, off, rfl, hg, d0⟩ := srcT_at (srcT_of_own HO.out) m (by omega)
    rw [← HJ.out] at d0
    rw [hm] at hnc hl h0 ⊢
    clear HN
    go_wp2
    go_ret
    exact ⟨rfl, HB.out⟩
end Go.Proofs.YtmkchilhnmkhkaaDoor
namespace Go.Proofs.YtmkchilhnmkhkaaDoor
open Go.RowKit Go.Proofs.YtmkchilhnmkhkaaDoor.Parts Go.Proofs.YtmkchilhnmkhkaaDoor.Hexa

theorem joinL_data (L : List ByteArray) : ∀ k, (joinTo L k).data.toList = (L.take k).flatMap (fun x => 47 :: x.data.toList) ∨ L.length < k
  | 0 => .inl rfl
  | k + 1 => by
    by_cases h : L.length < k + 1
    · exact .inr h
    · rcases joinL_data L k with h1 | h1
      · refine .inl ?_
        rw [joinTo_next, List.take_succ_eq_append_getElem (by omega), List.flatMap_append, ← h1]
        simp [slashB, List.getD, show k < L.length by omega]
      · omega
theorem lib_join_cons (x : List UInt8) (r : List (List UInt8)) (sep : List UInt8) : sep ++ Lib.join (x :: r) sep = (x :: r).flatMap (fun y => sep ++ y) := by
  rw [Lib.join_cons, List.flatMap_cons, List.append_assoc]
  congr 1
theorem joinB_lib (L : List ByteArray) : slashB ++ ⟨(Lib.join (L.map (·.data.toList)) [47]).toArray⟩ = joinB L := by
  cases L with
  | nil => rfl
  | cons x r =>
    have h := joinL_data (x :: r) (x :: r).length
    rcases h with h | h
    · have h2 := lib_join_cons x.data.toList (r.map (·.data.toList)) [47]
      rw [List.take_length] at h
      unfold joinB
      rw [if_neg (by simp)]
      apply ByteArray.ext
      apply Array.toList_inj.1
      rw [h]
      have h3 : (slashB ++ ⟨(Lib.join ((x :: r).map (·.data.toList)) [47]).toArray⟩ : ByteArray).data.toList = [47] ++ Lib.join ((x :: r).map (·.data.toList)) [47] := by simp [slashB]
      rw [h3, List.map_cons, h2, List.flatMap_cons, List.flatMap_cons, List.flatMap_map]
      rfl
    · omega
theorem lib_tail_len (m : Nat) : ∀ (r : List (List UInt8)), (∀ x ∈ r, x.length ≤ m) → (Lib.joinTail [47] r).length ≤ r.length * (m + 1)
  | [], _ => by simp [Lib.joinTail]
  | x :: r, h => by
    have h1 := lib_tail_len m r (fun z hz => h z (by simp [hz]))
    have h2 := h x (by simp)
    have h3 : (Lib.joinTail [47] (x :: r)).length = 1 + x.length + (Lib.joinTail [47] r).length := by simp [Lib.joinTail]; omega
    rw [h3, List.length_cons, Nat.add_mul r.length 1]
    omega
theorem lib_join_len (m : Nat) (L : List (List UInt8)) (h : ∀ x ∈ L, x.length ≤ m) : (Lib.join L [47]).length ≤ L.length * (m + 1) := by
  cases L with
  | nil => simp [Lib.join_nil]
  | cons x r =>
    have h1 := lib_tail_len m r (fun z hz => h z (by simp [hz]))
    have h2 := h x (by simp)
    rw [Lib.join_cons, List.length_append, List.length_cons, Nat.add_mul r.length 1]
    omega

set_option maxRecDepth 100000 in
set_option maxHeartbeats 1000000 in
theorem implJoin_any (a : Option Addr) (n c : Nat) (L : List ByteArray) (w : World) (hs : SrcT w a n L) (hn : n ≤ 2000000) (hc : n ≤ c) (hm : ∀ j, j < n → (L.getD j default).size ≤ 2000000) :
    Calls Tryd.prog 17 #[.slice a n c] w (SaysT (joinB L) w) := by
  have hl := hs.len
  have HJ := Lib.hid (joinB_lib L)
  have HZ : Hid ((Lib.join (L.map (·.data.toList)) [47]).length ≤ 4000002000000) := Lib.hid (by
    have h1 := lib_join_len 2000000 (L.map (·.data.toList)) (fun x hx => by
      obtain ⟨y, hy, rfl⟩ := List.mem_map.1 hx
      obtain ⟨j, hj, rfl⟩ := List.mem_iff_getElem.1 hy
      have h9 := hm j (by omega)
      rw [← Lib.size_eq]
      simpa [List.getD, hj] using h9)
    rw [List.length_map, hl] at h1
    exact Nat.le_trans h1 (Nat.le_trans (Nat.mul_le_mul_right _ hn) (by decide)))
  obtain ⟨t, ht⟩ : ∃ t : ByteArray, t = ⟨(Lib.join (L.map (·.data.toList)) [47]).toArray⟩ := ⟨_, rfl⟩
  have HTs : t.size ≤ 4000002000000 := by rw [ht]; have := HZ.out; simpa [ByteArray.size] using this
  have HJ2 : Hid ((⟨#[47]⟩ : ByteArray) ++ t = joinB L) := Lib.hid (by rw [ht]; exact HJ.out)
  have HJc : Hid (Calls Tryd.prog 57 #[.slice a n c, .string ⟨#[47]⟩] w (SaysT t w)) := Lib.hid (by
    by_cases h0 : n = 0
    · subst h0
      have hL0 : L = [] := List.length_eq_zero_iff.1 hl
      subst hL0
      refine (Any.strings_Join_none Tryd.lays156 Tryd.Builder_Extra_156 a c ⟨#[47]⟩ w).mono ?_
      rintro e w' ⟨he, hw⟩
      subst hw
      exact ⟨by first | (rw [he, ht]; done) | (rw [he, ht]; rfl), Below.refl _ _⟩
    · obtain ⟨g, off, e, hg, _⟩ := srcT_at hs 0 (by omega)
      subst e
      subst hl
      refine (Tryd.strings_Join g off c L ⟨#[47]⟩ w (fun j x hx => ?_) hg (by omega) hc (by exact Nat.le_trans HZ.out (by decide))).mono ?_
      · have hj : j < L.length := by
          rcases Nat.lt_or_ge j L.length with h | h
          · exact h
          · rw [List.getElem?_eq_none h] at hx; cases hx
        obtain ⟨g', off', e', _, c'⟩ := srcT_at hs j hj
        cases e'
        have h8 : L.getD j default = x := by simp [List.getD, hx]
        rw [← h8]
        exact c'
      · rintro e w' ⟨he, hb⟩
        exact ⟨by first | (rw [he, ht]; done) | (rw [he, ht]; rfl), hb⟩)
  clear HJ HZ ht hm hs
  go_enter Tryd.func17, Tryd.ntmps17
  go_wp2_with fail
  refine HJc.out.mono ?_
  rintro e w1 ⟨rfl, hb⟩
  have HB := Lib.hid hb
  clear hb
  go_wp2
  go_ret
  exact ⟨by rw [HJ2.out]; rfl, HB.out⟩
end Go.Proofs.YtmkchilhnmkhkaaDoor
namespace Go.Proofs.YtmkchilhnmkhkaaDoor
open Go.RowKit Go.Proofs.YtmkchilhnmkhkaaDoor.Parts Go.Proofs.YtmkchilhnmkhkaaDoor.Hexa

set_option maxRecDepth 100000 in
set_option maxHeartbeats 1000000 in
theorem implParent_any (s : ByteArray) (w : World) (hs : s.size ≤ 2000000) (hE : ErrIs w) :
    Calls Tryd.prog 19 #[.string s] w (SaysT (parentB s) w) := by
  obtain ⟨L, hL⟩ : ∃ L, pathNames s = L := ⟨_, rfl⟩
  obtain ⟨q, hq⟩ : ∃ q, pathCode s = q := ⟨_, rfl⟩
  have HQ := Lib.hid hq
  have HL := Lib.hid hL
  have HN : Hid (q ≠ 0 → L.length = 0) := Lib.hid (fun h => by rw [← hL]; exact names_none (by rw [hq]; exact h))
  have HM : Hid (∀ j, j < L.length → (L.getD j default).size ≤ 60) := Lib.hid (fun j hj => by have := names_size s j (by rw [hL]; exact hj); rw [hL] at this; exact this)
  have hl : L.length ≤ 61 := by rw [← hL]; exact names_len s
  clear hL hq
  go_enter Tryd.func19, Tryd.ntmps19
  go_wp2_with fail
  refine (implSplit_any s _ hs hE).mono ?_
  rw [HQ.out, HL.out]
  rintro e w1 ⟨v, rfl, ho, hb⟩
  obtain ⟨ad, cap, rfl, hcap, hnc, hr⟩ := own_form ho
  have HO := Lib.hid ho
  have HB := Lib.hid hb
  unfold maxLen at hcap
  clear ho hb hr
  by_cases h0 : L.length = 0
  · have HJ : Hid (parentB s = ⟨#[]⟩) := Lib.hid (by unfold parentB; rw [HL.out, if_pos h0])
    go_wp2
    go_ret
    exact ⟨by rw [HJ.out]; rfl, HB.out⟩
  · have hz : q = 0 := by
      by_cases h : q = 0
      · exact h
      · exact absurd (HN.out h) h0
    subst hz
    have HJ : Hid (parentB s = joinB (L.take (L.length - 1))) := Lib.hid (by unfold parentB; rw [HL.out, if_neg h0])
    obtain ⟨m, hm⟩ : ∃ m, L.length = m + 1 := ⟨L.length - 1, by omega⟩
    have HT : Hid (SrcT w1 ad m (L.take m)) := Lib.hid (srcT_take (srcT_of_own HO.out) (by omega))
    have HT2 : Hid (∀ j, j < m → ((L.take m).getD j default).size ≤ 2000000) := Lib.hid (fun j hj => by
      have h9 := HM.out j (by omega)
      have e9 : (L.take m).getD j default = L.getD j default := by
        simp only [List.getD, List.getElem?_take]
        rw [if_pos hj]
      rw [e9]; omega)
    have HJ2 : Hid (parentB s = joinB (L.take m)) := Lib.hid (by rw [HJ.out, hm]; rfl)
    rw [hm] at hnc hl h0 ⊢
    clear HJ HN HM
    go_wp2_with fail
    refine (implJoin_any ad m cap (L.take m) _ HT.out (by omega) (by omega) HT2.out).mono ?_
    rw [← HJ2.out]
    rintro e w2 ⟨rfl, hb2⟩
    have B2 : Below w.heap.size w w2 := HB.out.trans (hb2.mono HB.out.size)
    clear hb2
    go_wp2
    go_ret
    exact ⟨rfl, B2⟩
set_option maxRecDepth 100000 in
set_option maxHeartbeats 1000000 in
theorem implLast_any (s : ByteArray) (w : World) (hs : s.size ≤ 2000000) (hE : ErrIs w) :
    Calls Tryd.prog 20 #[.string s] w (SaysT (lastB s) w) := by
  obtain ⟨L, hL⟩ : ∃ L, pathNames s = L := ⟨_, rfl⟩
  obtain ⟨q, hq⟩ : ∃ q, pathCode s = q := ⟨_, rfl⟩
  have HQ := Lib.hid hq
  have HL := Lib.hid hL
  have HN : Hid (q ≠ 0 → L.length = 0) := Lib.hid (fun h => by rw [← hL]; exact names_none (by rw [hq]; exact h))
  have hl : L.length ≤ 61 := by rw [← hL]; exact names_len s
  clear hL hq
  go_enter Tryd.func20, Tryd.ntmps20
  go_wp2_with fail
  refine (implSplit_any s _ hs hE).mono ?_
  rw [HQ.out, HL.out]
  rintro e w1 ⟨v, rfl, ho, hb⟩
  obtain ⟨ad, cap, rfl, hcap, hnc, hr⟩ := own_form ho
  have HO := Lib.hid ho
  have HB := Lib.hid hb
  unfold maxLen at hcap
  clear ho hb hr
  by_cases h0 : L.length = 0
  · have HJ : Hid (lastB s = ⟨#[]⟩) := Lib.hid (by unfold lastB; rw [HL.out, if_pos h0])
    go_wp2
    go_ret
    exact ⟨by rw [HJ.out]; rfl, HB.out⟩
  · have hz : q = 0 := by
      by_cases h : q = 0
      · exact h
      · exact absurd (HN.out h) h0
    subst hz
    obtain ⟨m, hm⟩ : ∃ m, L.length = m + 1 := ⟨L.length - 1, by omega⟩
    have HJ : Hid (lastB s = L.getD m default) := Lib.hid (by unfold lastB; rw [HL.out, if_neg h0, hm]; rfl)
    obtain ⟨g, off, rfl, hg, d0⟩ := srcT_at (srcT_of_own HO.out) m (by omega)
    rw [← HJ.out] at d0
    rw [hm] at hnc hl h0 ⊢
    clear HN
    go_wp2
    go_ret
    exact ⟨rfl, HB.out⟩
end Go.Proofs.YtmkchilhnmkhkaaDoor
namespace Go.Proofs.YtmkchilhnmkhkaaDoor
open Go.RowKit Go.Proofs.YtmkchilhnmkhkaaDoor.Parts Go.Proofs.YtmkchilhnmkhkaaDoor.Hexa Go.Proofs.YtmkchilhnmkhkaaDoor.Byt

set_option maxRecDepth 100000 in
set_option maxHeartbeats 1000000 in
theorem parentOf_law (s : ByteArray) (w : World) (hE : ErrIs w) :
    Calls Tryd.prog 5 #[.string s] w fun e w' => e = .returned (.bool true) ∧ Below w.heap.size w w' := by
  by_cases h_s : s.size ≤ 1048576
  case neg =>
    have hn_s : 1048576 < s.size := by omega
    go_enter Tryd.func5, Tryd.ntmps5
    go_wp2
    go_ret
    exact ⟨rfl, Below.refl _ _⟩
  obtain ⟨r, hr⟩ : ∃ r, parentB s = r := ⟨_, rfl⟩
  have HR := Lib.hid hr
  have HE := Lib.hid hE
  clear hr hE
  go_enter Tryd.func5, Tryd.ntmps5
  go_wp2_with fail
  refine (specParent_any s _ (by omega)).mono ?_
  rw [HR.out]
  rintro e w1 ⟨rfl, hb1⟩
  have B1 := Lib.hid hb1
  clear hb1
  go_wp2_with fail
  refine (implParent_any s _ (by omega) (HE.out.later rfl B1.out)).mono ?_
  rw [HR.out]
  rintro e w2 ⟨rfl, hb2⟩
  have B2 : Hid (Below w.heap.size w w2) := Lib.hid (B1.out.trans (hb2.mono B1.out.size))
  clear hb2
  go_wp2
  go_ret
  exact ⟨rfl, B2.out⟩
end Go.Proofs.YtmkchilhnmkhkaaDoor
namespace Go.Proofs.YtmkchilhnmkhkaaDoor
open Go.RowKit Go.Proofs.YtmkchilhnmkhkaaDoor.Parts Go.Proofs.YtmkchilhnmkhkaaDoor.Hexa Go.Proofs.YtmkchilhnmkhkaaDoor.Byt

set_option maxRecDepth 100000 in
set_option maxHeartbeats 1000000 in
theorem lastOf_law (s : ByteArray) (w : World) (hE : ErrIs w) :
    Calls Tryd.prog 6 #[.string s] w fun e w' => e = .returned (.bool true) ∧ Below w.heap.size w w' := by
  by_cases h_s : s.size ≤ 1048576
  case neg =>
    have hn_s : 1048576 < s.size := by omega
    go_enter Tryd.func6, Tryd.ntmps6
    go_wp2
    go_ret
    exact ⟨rfl, Below.refl _ _⟩
  obtain ⟨r, hr⟩ : ∃ r, lastB s = r := ⟨_, rfl⟩
  have HR := Lib.hid hr
  have HE := Lib.hid hE
  clear hr hE
  go_enter Tryd.func6, Tryd.ntmps6
  go_wp2_with fail
  refine (specLast_any s _ (by omega)).mono ?_
  rw [HR.out]
  rintro e w1 ⟨rfl, hb1⟩
  have B1 := Lib.hid hb1
  clear hb1
  go_wp2_with fail
  refine (implLast_any s _ (by omega) (HE.out.later rfl B1.out)).mono ?_
  rw [HR.out]
  rintro e w2 ⟨rfl, hb2⟩
  have B2 : Hid (Below w.heap.size w w2) := Lib.hid (B1.out.trans (hb2.mono B1.out.size))
  clear hb2
  go_wp2
  go_ret
  exact ⟨rfl, B2.out⟩
end Go.Proofs.YtmkchilhnmkhkaaDoor
namespace Go.Proofs.YtmkchilhnmkhkaaDoor
open Go.RowKit
def SaysB (b : Bool) (w : World) (e : Ending) (w' : World) : Prop := e = .returned (.bool b) ∧ Below w.heap.size w w'
end Go.Proofs.YtmkchilhnmkhkaaDoor

namespace Go.Proofs.YtmkchilhnmkhkaaDoor
open Go.RowKit Go.Proofs.YtmkchilhnmkhkaaDoor.Parts Go.Proofs.YtmkchilhnmkhkaaDoor.Hexa

set_option maxRecDepth 100000 in
set_option maxHeartbeats 2000000 in
theorem specUnder_any (s t : ByteArray) (w : World) (hs : s.size ≤ 2000000) (ht : t.size ≤ 2000000) :
    Calls Tryd.prog 26 #[.string s, .string t] w (SaysB (underB s t) w) := by
  obtain ⟨L, hL⟩ : ∃ L, pathNames s = L := ⟨_, rfl⟩
  obtain ⟨M, hM⟩ : ∃ M, pathNames t = M := ⟨_, rfl⟩
  obtain ⟨q, hq⟩ : ∃ q, pathCode s = q := ⟨_, rfl⟩
  obtain ⟨r, hr⟩ : ∃ r, pathCode t = r := ⟨_, rfl⟩
  have HQ := Lib.hid hq
  have HR := Lib.hid hr
  have HL := Lib.hid hL
  have HM := Lib.hid hM
  have HU : Hid (underB s t = decide (q = 0 ∧ r = 0 ∧ M.length < L.length ∧ L.take M.length = M)) := Lib.hid (by unfold underB; rw [hL, hM, hq, hr])
  have hl : L.length ≤ 61 := by rw [← hL]; exact names_len s
  have hm : M.length ≤ 61 := by rw [← hM]; exact names_len t

  clear hL hM hq hr
  go_enter Tryd.func26, Tryd.ntmps26
  go_wp2_with fail
  refine (specSplit_any s _ hs).mono ?_
  rw [HQ.out, HL.out]
  rintro e w1 ⟨v1, rfl, ho1, hb1⟩
  obtain ⟨ad1, cap1, rfl, hcap1, hnc1, hr1⟩ := own_form ho1
  have HO1 := Lib.hid ho1
  have HB1 := Lib.hid hb1
  unfold maxLen at hcap1
  clear ho1 hb1 hr1
  go_wp2_with fail
  refine (specSplit_any t _ ht).mono ?_
  rw [HR.out, HM.out]
  rintro e w2 ⟨v2, rfl, ho2, hb2⟩
  obtain ⟨ad2, cap2, rfl, hcap2, hnc2, hr2⟩ := own_form ho2
  have HS1 : Hid (SrcT w2 ad1 L.length L) := Lib.hid (srcT_of_own (own_below HO1.out hb2))
  have HS2 : Hid (SrcT w2 ad2 M.length M) := Lib.hid (srcT_of_own ho2)
  have HB2 : Hid (Below w.heap.size w w2) := Lib.hid (HB1.out.trans (hb2.mono HB1.out.size))
  unfold maxLen at hcap2
  clear ho2 hb2 hr2 HO1
  by_cases c1 : q = 0
  case neg =>
    have HF : Hid (underB s t = false) := Lib.hid (by rw [HU.out]; exact decide_eq_false (fun h => c1 h.1))
    go_wp2
    go_ret
    exact ⟨by rw [HF.out]; rfl, HB2.out⟩
  by_cases c2 : r = 0
  case neg =>
    have HF : Hid (underB s t = false) := Lib.hid (by rw [HU.out]; exact decide_eq_false (fun h => c2 h.2.1))
    subst c1
    go_wp2
    go_ret
    exact ⟨by rw [HF.out]; rfl, HB2.out⟩
  subst c1 c2
  by_cases c3 : (M.length : Int) < (L.length : Int)
  case neg =>
    have HF : Hid (underB s t = false) := Lib.hid (by rw [HU.out]; exact decide_eq_false (fun h => c3 (by have := h.2.2.1; omega)))
    go_wp2
    go_ret
    exact ⟨by rw [HF.out]; rfl, HB2.out⟩
  have HU2 : Hid (underB s t = decide (L.take M.length = M)) := Lib.hid (by
    rw [HU.out]
    by_cases h : L.take M.length = M
    · rw [decide_eq_true h]; exact decide_eq_true ⟨rfl, rfl, by omega, h⟩
    · rw [decide_eq_false h]; exact decide_eq_false (fun hh => h hh.2.2.2))
  clear HU
  go_wp2
  go_loopw [9] (fun kv wr => ∃ k : Nat, k ≤ M.length ∧ kv = .int .i64 k ∧ Hid (∀ j, j < k → L.getD j default = M.getD j default) ∧ Hid (Below w.heap.size w wr) ∧ Hid (SrcT wr ad1 L.length L) ∧ Hid (SrcT wr ad2 M.length M)) (fun kv _ => M.length - (intOf kv).toNat)
  case atStart => exact ⟨0, Nat.zero_le _, rfl, Lib.hid (fun j hj => by omega), HB2, HS1, HS2⟩
  case round =>
    clear HB2 HS1 HS2
    obtain ⟨k, hk, rfl, HA, HB3, HS3, HS4⟩ := hrel
    by_cases hlt : k < M.length
    · obtain ⟨g1, o1, rfl, hg1, d1⟩ := srcT_at HS3.out k (by omega)
      obtain ⟨g2, o2, rfl, hg2, d2⟩ := srcT_at HS4.out k hlt
      obtain ⟨x, hx⟩ : ∃ x, L.getD k default = x := ⟨_, rfl⟩
      obtain ⟨y, hy⟩ : ∃ y, M.getD k default = y := ⟨_, rfl⟩
      rw [hx] at d1
      rw [hy] at d2
      by_cases hxy : x = y
      · have HA2 : Hid (∀ j, j < k + 1 → L.getD j default = M.getD j default) := Lib.hid (fun j hj => by
          by_cases e : j = k
          · subst e; rw [hx, hy, hxy]
          · exact HA.out j (by omega))
        subst hxy
        clear hx hy HA
        have HB4 : Hid (Below w.heap.size w wr.drew) := Lib.hid HB3.out.drew
        have HS5 : Hid (SrcT wr.drew (some ⟨g1, o1, none⟩) L.length L) := Lib.hid (HS3.out.later (Below.refl _ _).drew)
        have HS6 : Hid (SrcT wr.drew (some ⟨g2, o2, none⟩) M.length M) := Lib.hid (HS4.out.later (Below.refl _ _).drew)
        go_wp2
        go_region
        all_goals
          go_wp2
          go_roundw
          case rel => exact ⟨k + 1, by omega, by go_num, HA2, HB4, HS5, HS6⟩
          case measure => (simp [intOf]; try omega)
      · have HF : Hid (underB s t = false) := Lib.hid (by
          rw [HU2.out]
          refine decide_eq_false (fun h => hxy ?_)
          have h9 : (L.take M.length).getD k default = M.getD k default := by rw [h]
          rw [hy] at h9
          rw [← h9, ← hx]
          simp only [List.getD, List.getElem?_take]
          rw [if_pos hlt])
        have HB4 : Hid (Below w.heap.size w wr.drew) := Lib.hid HB3.out.drew
        have i1 := text_neB hxy
        have i2 : (x.toList != y.toList) = true := by simp only [bne, i1]; rfl
        have i3 := text_ne hxy
        clear hx hy HA
        go_wp2
        go_region
        all_goals
          go_wp2
          go_ret
          exact ⟨by rw [HF.out]; rfl, HB4.out⟩
    · obtain rfl : k = M.length := by omega
      have HT : Hid (underB s t = true) := Lib.hid (by
        rw [HU2.out]
        refine decide_eq_true (texts_eq (n := M.length) (by rw [List.length_take]; omega) rfl (fun j hj => ?_))
        rw [← HA.out j hj]
        simp only [List.getD, List.getElem?_take]
        rw [if_pos hj])
      go_wp2
      go_ret
      exact ⟨by rw [HT.out]; rfl, HB3.out⟩
end Go.Proofs.YtmkchilhnmkhkaaDoor
namespace Go.Proofs.YtmkchilhnmkhkaaDoor
open Go.RowKit Go.Proofs.YtmkchilhnmkhkaaDoor.Parts Go.Proofs.YtmkchilhnmkhkaaDoor.Hexa

set_option maxRecDepth 100000 in
set_option maxHeartbeats 1000000 in
theorem implEqual_any (a1 a2 : Option Addr) (n m c1 c2 : Nat) (P Q : List ByteArray) (w : World) (hn : n ≤ 100000000) (r1 : SrcT w a1 n P) (r2 : SrcT w a2 m Q) (b : Bool) (hb : b = true ↔ P = Q) :
    Calls Tryd.prog 58 #[.slice a1 n c1, .slice a2 m c2] w fun e w' => e = .returned (.bool b) ∧ ∃ q, w' = w.drewN q := by
  have hP := r1.len
  have hQ := r2.len
  by_cases hnm : n = m
  · subst hnm
    have HG := Lib.hid hb
    have HP := Lib.hid hP
    have HQ := Lib.hid hQ
    have R1 := Lib.hid r1
    have R2 := Lib.hid r2
    clear r1 r2 hb hP hQ
    go_enter Tryd.func58, Tryd.ntmps58
    go_wp2
    go_loopw [13] (fun iv wr => ∃ k q : Nat, k ≤ n ∧ iv = .int .i64 k ∧ wr = w.drewN q ∧ Hid (∀ j, j < k → P.getD j default = Q.getD j default)) (fun iv _ => n - (intOf iv).toNat)
    case atStart => exact ⟨0, 0, Nat.zero_le _, rfl, rfl, Lib.hid (fun j hj => by omega)⟩
    case round =>
      obtain ⟨k, q, hk, rfl, rfl, HA⟩ := hrel
      by_cases hlt : k < n
      · obtain ⟨g1, o1, e1, _, d1⟩ := srcT_at R1.out k hlt
        obtain ⟨g2, o2, e2, _, d2⟩ := srcT_at R2.out k hlt
        obtain ⟨x, hx⟩ : ∃ x, P.getD k default = x := ⟨_, rfl⟩
        obtain ⟨y, hy⟩ : ∃ y, Q.getD k default = y := ⟨_, rfl⟩
        rw [hx] at d1
        rw [hy] at d2
        have HX := Lib.hid hx
        have HY := Lib.hid hy
        subst e1 e2
        clear hx hy
        by_cases hxy : x = y
        · subst hxy
          have HA2 : Hid (∀ j, j < k + 1 → P.getD j default = Q.getD j default) := Lib.hid (fun j hj => by
            by_cases e : j = k
            · subst e; rw [HX.out, HY.out]
            · exact HA.out j (by omega))
          go_wp2
          go_quiet (fail)
          go_wp2
          go_roundw
          case rel => exact ⟨k + 1, _, by omega, by go_num, rfl, HA2⟩
          case measure => (simp [intOf]; try omega)
        · have i1 := text_neB hxy
          have i2 : (x.toList != y.toList) = true := by simp only [bne, i1]; rfl
          have i3 := text_ne hxy
          have HE : Hid (b = false) := Lib.hid (by
            cases b
            · rfl
            · exact absurd (by rw [← HX.out, ← HY.out, HG.out.1 rfl]) hxy)
          clear hxy
          go_wp2
          go_quiet (fail)
          go_wp2
          go_ret
          exact ⟨by rw [HE.out]; rfl, _, by rw [World.drewN_drewN]⟩
      · obtain rfl : k = n := by omega
        have HE : Hid (b = true) := Lib.hid (HG.out.2 (texts_eq HP.out HQ.out HA.out))
        go_wp2
        go_ret
        exact ⟨by rw [HE.out]; rfl, _, rfl⟩
  · have e1 : ((n : Int) == (m : Int)) = false := by simp; omega
    have e2 : ((n : Int) != (m : Int)) = true := by simp only [bne, e1]; rfl
    have HE : Hid (b = false) := Lib.hid (by
      cases b
      · rfl
      · exact absurd (by rw [← hP, ← hQ, hb.1 rfl]) hnm)
    clear r1 r2 hP hQ hb
    go_enter Tryd.func58, Tryd.ntmps58
    go_wp2
    go_ret
    exact ⟨by rw [HE.out]; rfl, 0, rfl⟩
end Go.Proofs.YtmkchilhnmkhkaaDoor
namespace Go.Proofs.YtmkchilhnmkhkaaDoor
open Go.RowKit Go.Proofs.YtmkchilhnmkhkaaDoor.Parts Go.Proofs.YtmkchilhnmkhkaaDoor.Hexa

set_option maxRecDepth 100000 in
set_option maxHeartbeats 2000000 in
theorem implUnder_any (s t : ByteArray) (w : World) (hs : s.size ≤ 2000000) (ht : t.size ≤ 2000000) (hE : ErrIs w) :
    Calls Tryd.prog 18 #[.string s, .string t] w (SaysB (underB s t) w) := by
  obtain ⟨L, hL⟩ : ∃ L, pathNames s = L := ⟨_, rfl⟩
  obtain ⟨M, hM⟩ : ∃ M, pathNames t = M := ⟨_, rfl⟩
  obtain ⟨q, hq⟩ : ∃ q, pathCode s = q := ⟨_, rfl⟩
  obtain ⟨r, hr⟩ : ∃ r, pathCode t = r := ⟨_, rfl⟩
  have HQ := Lib.hid hq
  have HR := Lib.hid hr
  have HL := Lib.hid hL
  have HM := Lib.hid hM
  have HU : Hid (underB s t = decide (q = 0 ∧ r = 0 ∧ M.length < L.length ∧ L.take M.length = M)) := Lib.hid (by unfold underB; rw [hL, hM, hq, hr])
  have hl : L.length ≤ 61 := by rw [← hL]; exact names_len s
  have hm : M.length ≤ 61 := by rw [← hM]; exact names_len t
  have HE := Lib.hid hE
  clear hL hM hq hr
  go_enter Tryd.func18, Tryd.ntmps18
  go_wp2_with fail
  refine (implSplit_any s _ hs hE).mono ?_
  rw [HQ.out, HL.out]
  rintro e w1 ⟨v1, rfl, ho1, hb1⟩
  obtain ⟨ad1, cap1, rfl, hcap1, hnc1, hr1⟩ := own_form ho1
  have HO1 := Lib.hid ho1
  have HB1 := Lib.hid hb1
  unfold maxLen at hcap1
  clear ho1 hb1 hr1
  go_wp2_with fail
  refine (implSplit_any t _ ht (HE.out.later rfl HB1.out)).mono ?_
  rw [HR.out, HM.out]
  rintro e w2 ⟨v2, rfl, ho2, hb2⟩
  obtain ⟨ad2, cap2, rfl, hcap2, hnc2, hr2⟩ := own_form ho2
  have HS1 : Hid (SrcT w2 ad1 L.length L) := Lib.hid (srcT_of_own (own_below HO1.out hb2))
  have HS2 : Hid (SrcT w2 ad2 M.length M) := Lib.hid (srcT_of_own ho2)
  have HB2 : Hid (Below w.heap.size w w2) := Lib.hid (HB1.out.trans (hb2.mono HB1.out.size))
  unfold maxLen at hcap2
  clear ho2 hb2 hr2 HO1
  by_cases c1 : q = 0
  case neg =>
    have HF : Hid (underB s t = false) := Lib.hid (by rw [HU.out]; exact decide_eq_false (fun h => c1 h.1))
    go_wp2
    go_ret
    exact ⟨by rw [HF.out]; rfl, HB2.out⟩
  by_cases c2 : r = 0
  case neg =>
    have HF : Hid (underB s t = false) := Lib.hid (by rw [HU.out]; exact decide_eq_false (fun h => c2 h.2.1))
    subst c1
    go_wp2
    go_ret
    exact ⟨by rw [HF.out]; rfl, HB2.out⟩
  subst c1 c2
  by_cases c3 : (M.length : Int) < (L.length : Int)
  case neg =>
    have HF : Hid (underB s t = false) := Lib.hid (by rw [HU.out]; exact decide_eq_false (fun h => c3 (by have := h.2.2.1; omega)))
    go_wp2
    go_ret
    exact ⟨by rw [HF.out]; rfl, HB2.out⟩
  have HU2 : Hid (underB s t = decide (L.take M.length = M)) := Lib.hid (by
    rw [HU.out]
    by_cases h : L.take M.length = M
    · rw [decide_eq_true h]; exact decide_eq_true ⟨rfl, rfl, by omega, h⟩
    · rw [decide_eq_false h]; exact decide_eq_false (fun hh => h hh.2.2.2))
  clear HU
  have HT : Hid (SrcT w2 ad1 M.length (L.take M.length)) := Lib.hid (srcT_take HS1.out (by omega))
  go_wp2_with fail
  refine (implEqual_any ad2 ad1 M.length M.length cap2 cap1 M (L.take M.length) _ (by omega) HS2.out HT.out (underB s t) ⟨fun h => (of_decide_eq_true (HU2.out.symm.trans h)).symm, fun h => HU2.out.trans (decide_eq_true h.symm)⟩).mono ?_
  rintro e w3 ⟨rfl, m, rfl⟩
  have HB3 : Below w.heap.size w (w2.drewN m) := below_drawsP HB2.out m
  go_wp2
  go_ret
  exact ⟨rfl, HB3⟩
end Go.Proofs.YtmkchilhnmkhkaaDoor
namespace Go.Proofs.YtmkchilhnmkhkaaDoor
open Go.RowKit Go.Proofs.YtmkchilhnmkhkaaDoor.Parts Go.Proofs.YtmkchilhnmkhkaaDoor.Hexa Go.Proofs.YtmkchilhnmkhkaaDoor.Byt

set_option maxRecDepth 100000 in
set_option maxHeartbeats 1000000 in
theorem isUnder_law (s : ByteArray) (t : ByteArray) (w : World) (hE : ErrIs w) :
    Calls Tryd.prog 7 #[.string s, .string t] w fun e w' => e = .returned (.bool true) ∧ Below w.heap.size w w' := by
  by_cases h_s : s.size ≤ 1048576
  case neg =>
    have hn_s : 1048576 < s.size := by omega
    go_enter Tryd.func7, Tryd.ntmps7
    go_wp2
    go_ret
    exact ⟨rfl, Below.refl _ _⟩
  by_cases h_t : t.size ≤ 1048576
  case neg =>
    have hn_t : 1048576 < t.size := by omega
    go_enter Tryd.func7, Tryd.ntmps7
    go_wp2
    go_ret
    exact ⟨rfl, Below.refl _ _⟩
  obtain ⟨r, hr⟩ : ∃ r, underB s t = r := ⟨_, rfl⟩
  have HR := Lib.hid hr
  have HE := Lib.hid hE
  clear hr hE
  go_enter Tryd.func7, Tryd.ntmps7
  go_wp2_with fail
  refine (specUnder_any s t _ (by omega) (by omega)).mono ?_
  rw [HR.out]
  rintro e w1 ⟨rfl, hb1⟩
  have B1 := Lib.hid hb1
  clear hb1
  go_wp2_with fail
  refine (implUnder_any s t _ (by omega) (by omega) (HE.out.later rfl B1.out)).mono ?_
  rw [HR.out]
  rintro e w2 ⟨rfl, hb2⟩
  have B2 : Hid (Below w.heap.size w w2) := Lib.hid (B1.out.trans (hb2.mono B1.out.size))
  clear hb2
  go_wp2
  go_ret
  exact ⟨rfl, B2.out⟩
end Go.Proofs.YtmkchilhnmkhkaaDoor
namespace Go.Proofs.YtmkchilhnmkhkaaDoor
open Go.RowKit Go.Proofs.YtmkchilhnmkhkaaDoor.Parts

inductive Cel where
  | val (v : Value)
  | sl (e : TypeId) (k n : Nat) (cs : List Cel)
instance : Inhabited Cel := ⟨.val undef⟩

/-! What reads as a tree. -/
mutual
def Cel.Rd (w : World) : Cel → Value → Prop
  | .val x, v => v = x
  | .sl _ k n cs, v => cs.length = n * k ∧ ∃ a c vs, v = .slice a n c ∧ RdL w cs vs ∧ (n = 0 ∨ ∃ g off, a = some ⟨g, off, none⟩ ∧ g < w.heap.size ∧ ∀ (j : Nat) (u : Value), vs[j]? = some u → w.cell? ⟨g, off + j, none⟩ = some u)
def RdL (w : World) : List Cel → List Value → Prop
  | [], vs => vs = []
  | c :: cs, vs => ∃ v r, vs = v :: r ∧ Cel.Rd w c v ∧ RdL w cs r
end

/-! What the call owns: F are its blocks. -/
mutual
def Cel.Own (w : World) : Cel → List Nat → Value → Prop
  | .val x, F, v => F = [] ∧ v = x
  | .sl e k n cs, F, v => cs.length = n * k ∧ ∃ a c, v = .slice a n c ∧ n ≤ c ∧ c ≤ maxLen ∧ ((n = 0 ∧ F = []) ∨ ∃ g cur G, a = some ⟨g, 0, none⟩ ∧ F = g :: G ∧ w.heap[g]? = some (.cells cur e (0, 0)) ∧ n * k ≤ cur.size ∧ OwnL w cs G (cur.toList.take (n * k)))
def OwnL (w : World) : List Cel → List Nat → List Value → Prop
  | [], F, vs => F = [] ∧ vs = []
  | c :: cs, F, vs => ∃ v r G H, vs = v :: r ∧ F = G ++ H ∧ Cel.Own w c G v ∧ OwnL w cs H r
end

section
variable {w w' : World}
mutual
theorem Cel.Rd.later (hb : Below w.heap.size w w') : ∀ (c : Cel) (v : Value), c.Rd w v → c.Rd w' v
  | .val _, _, h => h
  | .sl _ _ _ cs, _, ⟨hl, a, c, vs, hv, hr, h⟩ => ⟨hl, a, c, vs, hv, RdL.later hb cs vs hr, h.imp id fun ⟨g, off, ha, hg, hc⟩ => ⟨g, off, ha, Nat.lt_of_lt_of_le hg hb.size, fun j u hu => by rw [hb.cell (by exact hg)]; exact hc j u hu⟩⟩
theorem RdL.later (hb : Below w.heap.size w w') : ∀ (cs : List Cel) (vs : List Value), RdL w cs vs → RdL w' cs vs
  | [], _, h => h
  | c :: cs, _, ⟨v, r, hv, h1, h2⟩ => ⟨v, r, hv, Cel.Rd.later hb c v h1, RdL.later hb cs r h2⟩
end

mutual
theorem Cel.Own.kept : ∀ (c : Cel) (F : List Nat) (v : Value), (∀ g ∈ F, w'.heap[g]? = w.heap[g]?) → c.Own w F v → c.Own w' F v
  | .val _, _, _, _, h => h
  | .sl _ _ _ cs, F, _, hk, ⟨hl, a, c, hv, h1, h2, h⟩ => ⟨hl, a, c, hv, h1, h2, h.imp id fun ⟨g, cur, G, ha, hF, hg, hn, ho⟩ => ⟨g, cur, G, ha, hF, by rw [hk g (by rw [hF]; exact List.mem_cons_self)]; exact hg, hn, OwnL.kept cs G _ (fun h hh => hk h (by rw [hF]; exact List.mem_cons_of_mem _ hh)) ho⟩⟩
theorem OwnL.kept : ∀ (cs : List Cel) (F : List Nat) (vs : List Value), (∀ g ∈ F, w'.heap[g]? = w.heap[g]?) → OwnL w cs F vs → OwnL w' cs F vs
  | [], _, _, _, h => h
  | c :: cs, F, _, hk, ⟨v, r, G, H, hv, hF, h1, h2⟩ => ⟨v, r, G, H, hv, hF, Cel.Own.kept c G v (fun g hg => hk g (by rw [hF]; exact List.mem_append_left _ hg)) h1, OwnL.kept cs H r (fun g hg => hk g (by rw [hF]; exact List.mem_append_right _ hg)) h2⟩
end

mutual
theorem Cel.Own.lt : ∀ (c : Cel) (F : List Nat) (v : Value), c.Own w F v → ∀ g ∈ F, g < w.heap.size
  | .val _, _, _, ⟨hF, _⟩, g, hg => by rw [hF] at hg; cases hg
  | .sl _ _ _ cs, F, _, ⟨_, _, _, _, _, _, h⟩, g, hg => by
    rcases h with ⟨_, hF⟩ | ⟨b, cur, G, _, hF, hb, _, ho⟩
    · rw [hF] at hg; cases hg
    · rw [hF] at hg
      rcases List.mem_cons.1 hg with rfl | hg
      · exact (Array.getElem?_eq_some_iff.1 hb).1
      · exact OwnL.lt cs G _ ho g hg
theorem OwnL.lt : ∀ (cs : List Cel) (F : List Nat) (vs : List Value), OwnL w cs F vs → ∀ g ∈ F, g < w.heap.size
  | [], _, _, ⟨hF, _⟩, g, hg => by rw [hF] at hg; cases hg
  | c :: cs, F, _, ⟨v, r, G, H, _, hF, h1, h2⟩, g, hg => by
    rw [hF] at hg
    rcases List.mem_append.1 hg with hg | hg
    · exact Cel.Own.lt c G v h1 g hg
    · exact OwnL.lt cs H r h2 g hg
end

theorem RdL.length : ∀ (cs : List Cel) (vs : List Value), RdL w cs vs → vs.length = cs.length
  | [], _, h => by rw [show _ = [] from h]; rfl
  | _ :: cs, _, ⟨v, r, hv, _, h2⟩ => by rw [hv, List.length_cons, RdL.length cs r h2, List.length_cons]
theorem OwnL.length : ∀ (cs : List Cel) (F : List Nat) (vs : List Value), OwnL w cs F vs → vs.length = cs.length
  | [], _, _, ⟨_, h⟩ => by rw [h]; rfl
  | _ :: cs, _, _, ⟨v, r, _, H, hv, _, _, h2⟩ => by rw [hv, List.length_cons, OwnL.length cs H r h2, List.length_cons]

mutual
theorem Cel.Own.rd : ∀ (c : Cel) (F : List Nat) (v : Value), c.Own w F v → c.Rd w v
  | .val _, _, _, ⟨_, h⟩ => h
  | .sl _ k n cs, _, _, ⟨hl, a, c, hv, _, _, h⟩ => by
    rcases h with ⟨h0, _⟩ | ⟨g, cur, G, ha, hF, hg, hn, ho⟩
    · obtain rfl : cs = [] := List.length_eq_zero_iff.1 (by rw [hl, h0, Nat.zero_mul])
      exact ⟨hl, a, c, [], hv, rfl, .inl h0⟩
    · refine ⟨hl, a, c, _, hv, OwnL.rd cs G _ ho, .inr ⟨g, 0, ha, (Array.getElem?_eq_some_iff.1 hg).1, fun j u hu => ?_⟩⟩
      rw [List.getElem?_take] at hu
      split at hu
      · rw [Nat.zero_add]
        simp only [World.cell?, hg]
        simpa using hu
      · cases hu
theorem OwnL.rd : ∀ (cs : List Cel) (F : List Nat) (vs : List Value), OwnL w cs F vs → RdL w cs vs
  | [], _, _, ⟨_, h⟩ => h
  | c :: cs, _, _, ⟨v, r, G, H, hv, _, h1, h2⟩ => ⟨v, r, hv, Cel.Own.rd c G v h1, OwnL.rd cs H r h2⟩
end

theorem RdL.get : ∀ (cs : List Cel) (vs : List Value) (j : Nat), RdL w cs vs → j < cs.length → ∃ u, vs[j]? = some u ∧ (cs.getD j default).Rd w u
  | [], _, _, _, hj => absurd hj (Nat.not_lt_zero _)
  | c :: cs, _, 0, ⟨v, r, hv, h1, _⟩, _ => ⟨v, by rw [hv]; rfl, h1⟩
  | c :: cs, _, j + 1, ⟨v, r, hv, _, h2⟩, hj => by
    obtain ⟨u, hu, h⟩ := RdL.get cs r j h2 (by simpa using hj)
    exact ⟨u, by rw [hv]; exact hu, h⟩
/-- A place of a slice that reads as a tree. -/
theorem Cel.Rd.at {e k n c : Nat} {a : Option Addr} {cs : List Cel} (h : (Cel.sl e k n cs).Rd w (.slice a n c)) (j : Nat) (hj : j < n * k) :
    ∃ g off u, a = some ⟨g, off, none⟩ ∧ g < w.heap.size ∧ w.cell? ⟨g, off + j, none⟩ = some u ∧ (cs.getD j default).Rd w u := by
  obtain ⟨hl, a', c', vs, hv, hr, h⟩ := h
  cases hv
  rcases h with h0 | ⟨g, off, ha, hg, hc⟩
  · rw [h0, Nat.zero_mul] at hj; omega
  · obtain ⟨u, hu, h⟩ := RdL.get cs vs j hr (by omega)
    exact ⟨g, off, u, ha, hg, hc j u hu, h⟩

theorem OwnL.sub : ∀ (cs : List Cel) (F : List Nat) (vs : List Value) (j : Nat), OwnL w cs F vs → j < cs.length →
    ∃ P G Q u, F = P ++ (G ++ Q) ∧ vs[j]? = some u ∧ (cs.getD j default).Own w G u ∧
      ∀ (w' : World) (c' : Cel) (u' : Value), c'.Own w' G u' → (∀ h ∈ P, w'.heap[h]? = w.heap[h]?) → (∀ h ∈ Q, w'.heap[h]? = w.heap[h]?) → OwnL w' (cs.set j c') F (vs.set j u')
  | [], _, _, _, _, hj => absurd hj (Nat.not_lt_zero _)
  | c :: cs, F, _, 0, ⟨v, r, G, H, hv, hF, h1, h2⟩, _ => ⟨[], G, H, v, by rw [hF]; rfl, by rw [hv]; rfl, h1, fun w' c' u' ho _ hQ => by
      rw [hv]; exact ⟨u', r, G, H, rfl, hF, ho, OwnL.kept cs H r hQ h2⟩⟩
  | c :: cs, F, _, j + 1, ⟨v, r, G, H, hv, hF, h1, h2⟩, hj => by
    obtain ⟨P, G', Q, u, hH, hu, ho, hk⟩ := OwnL.sub cs H r j h2 (by simpa using hj)
    refine ⟨G ++ P, G', Q, u, by rw [hF, hH, List.append_assoc], by rw [hv]; exact hu, ho, fun w' c' u' ho' hP hQ => ?_⟩
    rw [hv]
    exact ⟨v, r.set j u', G, H, rfl, hF, Cel.Own.kept c G v (fun h hh => hP h (List.mem_append_left _ hh)) h1, hk w' c' u' ho' (fun h hh => hP h (List.mem_append_right _ hh)) hQ⟩

/-- Blocks outside F lie as they lay. -/
structure OutF (F : List Nat) (w w' : World) : Prop where
  os : w'.os = w.os
  tape : w'.tape = w.tape
  output : w'.output = w.output
  size : w.heap.size ≤ w'.heap.size
  block : ∀ g, g ∉ F → g < w.heap.size → w'.heap[g]? = w.heap[g]?
theorem OutF.refl (F : List Nat) (w : World) : OutF F w w := ⟨rfl, rfl, rfl, Nat.le_refl _, fun _ _ _ => rfl⟩
theorem OutF.trans {F : List Nat} {a b c : World} (h : OutF F a b) (h' : OutF F b c) : OutF F a c :=
  ⟨h'.os.trans h.os, h'.tape.trans h.tape, h'.output.trans h.output, Nat.le_trans h.size h'.size, fun g hg hl => (h'.block g hg (Nat.lt_of_lt_of_le hl h.size)).trans (h.block g hg hl)⟩
theorem OutF.mono {F G : List Nat} {a b : World} (h : OutF F a b) (hs : ∀ g ∈ F, g ∈ G) : OutF G a b := ⟨h.os, h.tape, h.output, h.size, fun g hg hl => h.block g (fun hh => hg (hs g hh)) hl⟩
theorem OutF.of_below {F : List Nat} {a b : World} (h : Below a.heap.size a b) : OutF F a b := ⟨h.os, h.tape, h.output, h.size, fun g _ hl => h.block g hl⟩
theorem OutF.below {F : List Nat} {B : Nat} {a b : World} (h : OutF F a b) (hF : ∀ g ∈ F, B ≤ g) (hB : B ≤ a.heap.size) : Below B a b := ⟨h.os, h.tape, h.output, h.size, fun g hg => h.block g (fun hh => by have := hF g hh; omega) (by omega)⟩

/-- The place j of a slice that the call owns: what lies there, and what becomes of the whole when it changes. -/
theorem Cel.Own.sub {e k n c : Nat} {a : Option Addr} {cs : List Cel} {F : List Nat} (h : (Cel.sl e k n cs).Own w F (.slice a n c)) (hF : F.Nodup) (j : Nat) (hj : j < n * k) :
    ∃ g G u, a = some ⟨g, 0, none⟩ ∧ g ∈ F ∧ (∀ x ∈ G, x ∈ F) ∧ g ∉ G ∧ G.Nodup ∧ w.cell? ⟨g, j, none⟩ = some u ∧ w.frozen? ⟨g, j, none⟩ = false ∧ (cs.getD j default).Own w G u ∧
      (∀ (w' : World) (c' : Cel), c'.Own w' G u → OutF G w w' → (Cel.sl e k n (cs.set j c')).Own w' F (.slice a n c)) ∧
      (∀ y, cs.getD j default = .val y → ∀ x, (Cel.sl e k n (cs.set j (.val x))).Own (w.setCell ⟨g, j, none⟩ x) F (.slice a n c) ∧ OutF F w (w.setCell ⟨g, j, none⟩ x)) := by
  have hlt := Cel.Own.lt _ _ _ h
  obtain ⟨hl, a', c', hv, hnc, hcm, h⟩ := h
  cases hv
  rcases h with ⟨h0, _⟩ | ⟨g, cur, G0, ha, hFG, hg, hn, ho⟩
  · rw [h0, Nat.zero_mul] at hj; omega
  obtain ⟨P, G, Q, u, hG0, hu, hou, hk⟩ := OwnL.sub cs G0 _ j ho (by omega)
  have hF0 := hF
  rw [hFG, List.nodup_cons, hG0] at hF
  obtain ⟨hgn, hnd⟩ := hF
  have hju : cur.toList[j]? = some u := by
    rw [List.getElem?_take, if_pos hj] at hu
    exact hu
  have hcell : w.cell? ⟨g, j, none⟩ = some u := by simp only [World.cell?, hg]; simpa using hju
  have hPG : ∀ x ∈ P, x ∉ G := fun x hx hx' => (List.nodup_append.1 hnd).2.2 x hx x (List.mem_append_left _ hx') rfl
  have hQG : ∀ x ∈ Q, x ∉ G := fun x hx hx' => (List.nodup_append.1 (List.nodup_append.1 hnd).2.1).2.2 x hx' x hx rfl
  have hGn : g ∉ G := fun hx => hgn (List.mem_append_right _ (List.mem_append_left _ hx))
  have hin : ∀ x ∈ P ++ (G ++ Q), x ∈ F := fun x hx => by rw [hFG, hG0]; exact List.mem_cons_of_mem _ hx
  refine ⟨g, G, u, ha, by rw [hFG]; exact List.mem_cons_self, fun x hx => hin x (List.mem_append_right _ (List.mem_append_left _ hx)), hGn, (List.nodup_append.1 (List.nodup_append.1 hnd).2.1).1, hcell, by simp [World.frozen?, hg], hou, ?_, ?_⟩
  · intro w1 c1 ho1 hout
    refine ⟨by rw [List.length_set]; exact hl, a, c, rfl, hnc, hcm, .inr ⟨g, cur, G0, ha, hFG, ?_, hn, ?_⟩⟩
    · rw [hout.block g hGn (hlt g (by rw [hFG]; exact List.mem_cons_self))]; exact hg
    · have h9 := hk w1 c1 u ho1 (fun x hx => hout.block x (hPG x hx) (hlt x (hin x (List.mem_append_left _ hx)))) (fun x hx => hout.block x (hQG x hx) (hlt x (hin x (List.mem_append_right _ (List.mem_append_right _ hx)))))
      have e9 : (cur.toList.take (n * k)).set j u = cur.toList.take (n * k) := by
        apply List.ext_getElem?
        intro i
        by_cases e : i = j
        · subst e
          rw [List.getElem?_set_self (by have := OwnL.length _ _ _ ho; rw [this]; omega), hu]
        · rw [List.getElem?_set_ne (fun x => e x.symm)]
      rw [e9] at h9
      exact h9
  · intro y hy x
    rw [hy] at hou
    obtain ⟨hGe, _⟩ := hou
    subst hGe
    have hset := heap_setCell_same w g j cur e x hg
    have hother : ∀ z, z ∈ P ++ ([] ++ Q) → (w.setCell ⟨g, j, none⟩ x).heap[z]? = w.heap[z]? := fun z hz => Below.heap_setCell _ _ _ _ (by show z ≠ g; exact fun e => hgn (by rw [← e]; exact hz))
    refine ⟨⟨by rw [List.length_set]; exact hl, a, c, rfl, hnc, hcm, .inr ⟨g, cur.setIfInBounds j x, G0, ha, hFG, hset, by rw [Array.size_setIfInBounds]; exact hn, ?_⟩⟩, ?_⟩
    · have h9 := hk (w.setCell ⟨g, j, none⟩ x) (.val x) x ⟨rfl, rfl⟩ (fun z hz => hother z (List.mem_append_left _ hz)) (fun z hz => hother z (List.mem_append_right _ hz))
      rw [Array.toList_setIfInBounds, List.take_set]
      exact h9
    · exact ⟨rfl, rfl, rfl, by simp [World.setCell], fun z hz _ => Below.heap_setCell _ _ _ _ (by show z ≠ g; exact fun e => hz (by rw [e, hFG]; exact List.mem_cons_self))⟩
end

/-! Marks, in the order of the cells. -/
mutual
def Cel.cnt : Cel → Nat
  | .val _ => 1
  | .sl _ _ _ cs => cntL cs
def cntL : List Cel → Nat
  | [] => 0
  | c :: cs => c.cnt + cntL cs
end
def markV : Value → Nat → Value
  | .int _ _, k => .int .i64 (k : Int)
  | .string _, k => .string (markT k)
  | .bool _, k => .bool (k % 3 == 0)
  | v, _ => v
mutual
def Cel.mk : Cel → Nat → Cel
  | .val v, k => .val (markV v k)
  | .sl e s n cs, k => .sl e s n (mkL cs k)
def mkL : List Cel → Nat → List Cel
  | [], _ => []
  | c :: cs, k => c.mk k :: mkL cs (k + c.cnt)
end
theorem mkL_length : ∀ (cs : List Cel) (k : Nat), (mkL cs k).length = cs.length
  | [], _ => rfl
  | _ :: cs, k => by rw [mkL, List.length_cons, mkL_length cs, List.length_cons]
theorem cntL_append : ∀ (a b : List Cel), cntL (a ++ b) = cntL a + cntL b
  | [], b => by rw [List.nil_append, cntL, Nat.zero_add]
  | c :: a, b => by rw [List.cons_append, cntL, cntL, cntL_append a b, Nat.add_assoc]
theorem mkL_append : ∀ (a b : List Cel) (k : Nat), mkL (a ++ b) k = mkL a k ++ mkL b (k + cntL a)
  | [], b, k => by rw [List.nil_append, mkL, cntL, Nat.add_zero, List.nil_append]
  | c :: a, b, k => by rw [List.cons_append, mkL, mkL, mkL_append a b, cntL, List.cons_append, Nat.add_assoc]
/-- The first j cells marked. -/
def stM (cs : List Cel) (k j : Nat) : List Cel := mkL (cs.take j) k ++ cs.drop j
def atM (cs : List Cel) (k j : Nat) : Nat := k + cntL (cs.take j)
theorem stM_zero (cs : List Cel) (k : Nat) : stM cs k 0 = cs := rfl
theorem stM_all (cs : List Cel) (k : Nat) {j : Nat} (h : cs.length ≤ j) : stM cs k j = mkL cs k := by
  unfold stM; rw [List.take_of_length_le h, List.drop_eq_nil_of_le h, List.append_nil]
theorem atM_zero (cs : List Cel) (k : Nat) : atM cs k 0 = k := rfl
theorem atM_all (cs : List Cel) (k : Nat) {j : Nat} (h : cs.length ≤ j) : atM cs k j = k + cntL cs := by unfold atM; rw [List.take_of_length_le h]
theorem getD_eq {cs : List Cel} {j : Nat} (h : j < cs.length) : cs.getD j default = cs[j] := by simp [List.getD, h]
theorem atM_next {cs : List Cel} {k j : Nat} (h : j < cs.length) : atM cs k (j + 1) = atM cs k j + (cs.getD j default).cnt := by
  unfold atM
  rw [List.take_succ_eq_append_getElem h, cntL_append, getD_eq h, cntL, cntL, Nat.add_zero, Nat.add_assoc]
theorem stM_getD {cs : List Cel} {k j i : Nat} (hi : i < cs.length) (hj : j ≤ i) : (stM cs k j).getD i default = cs.getD i default := by
  unfold stM
  simp only [List.getD]
  rw [List.getElem?_append_right (by rw [mkL_length, List.length_take]; omega), mkL_length, List.length_take, List.getElem?_drop]
  congr 2
  omega
theorem stM_next {cs : List Cel} {k j : Nat} (h : j < cs.length) : (stM cs k j).set j ((cs.getD j default).mk (atM cs k j)) = stM cs k (j + 1) := by
  have hl : (mkL (cs.take j) k).length = j := by rw [mkL_length, List.length_take]; omega
  unfold stM
  rw [List.take_succ_eq_append_getElem h, mkL_append, List.set_append_right _ _ (by omega), hl, Nat.sub_self, getD_eq h, List.drop_eq_getElem_cons h, List.set_cons_zero, List.append_assoc]
  rfl
theorem mkL_getD {cs : List Cel} {k j : Nat} (h : j < cs.length) : (mkL cs k).getD j default = (cs.getD j default).mk (atM cs k j) := by
  have h1 : mkL cs k = mkL (cs.take j) k ++ mkL (cs.drop j) (k + cntL (cs.take j)) := by rw [← mkL_append, List.take_append_drop]
  have hl : (mkL (cs.take j) k).length = j := by rw [mkL_length, List.length_take]; omega
  rw [h1, List.drop_eq_getElem_cons h, mkL]
  simp only [List.getD]
  rw [List.getElem?_append_right (by omega), hl, Nat.sub_self]
  simp [atM, h]
theorem atM_mono (cs : List Cel) (k j : Nat) : atM cs k j ≤ k + cntL cs := by
  have : cntL cs = cntL (cs.take j) + cntL (cs.drop j) := by rw [← cntL_append, List.take_append_drop]
  unfold atM; omega
end Go.Proofs.YtmkchilhnmkhkaaDoor
namespace Go.Proofs.YtmkchilhnmkhkaaDoor
open Go.RowKit Go.Proofs.YtmkchilhnmkhkaaDoor.Parts

/-- How an element lies in its cells. -/
structure EncC (α : Type) where
  e : TypeId
  k : Nat
  cels : α → List Cel
  len : ∀ x, (cels x).length = k
def celsE {α : Type} (E : EncC α) : List α → List Cel
  | [] => []
  | x :: r => E.cels x ++ celsE E r
def celRow {α : Type} (E : EncC α) (L : List α) : Cel := .sl E.e E.k L.length (celsE E L)
section
variable {α : Type} [Inhabited α] (E : EncC α)
omit [Inhabited α] in
theorem celsE_length : ∀ L : List α, (celsE E L).length = L.length * E.k
  | [] => by simp [celsE]
  | x :: r => by simp [celsE, E.len, celsE_length r, Nat.add_mul]; omega
omit [Inhabited α] in
theorem celsE_append : ∀ L M : List α, celsE E (L ++ M) = celsE E L ++ celsE E M
  | [], M => rfl
  | x :: r, M => by simp [celsE, celsE_append r M]
theorem celsE_getD : ∀ (L : List α) (j o : Nat), j < L.length → o < E.k → (celsE E L).getD (j * E.k + o) default = (E.cels (L.getD j default)).getD o default
  | x :: r, 0, o, _, ho => by
    rw [celsE, Nat.zero_mul, Nat.zero_add]
    simp only [List.getD]
    rw [List.getElem?_append_left (by rw [E.len]; exact ho)]; rfl
  | x :: r, j + 1, o, h, ho => by
    have h1 := celsE_getD r j o (by simpa using h) ho
    rw [celsE]
    simp only [List.getD] at h1 ⊢
    rw [List.getElem?_append_right (by rw [E.len, Nat.add_mul]; omega), E.len, show (j + 1) * E.k + o - E.k = j * E.k + o by rw [Nat.add_mul]; omega]
    exact h1
omit [Inhabited α] in
theorem celsE_take : ∀ (L : List α) (j : Nat), (celsE E L).take (j * E.k) = celsE E (L.take j)
  | [], j => by simp [celsE]
  | x :: r, 0 => by simp [celsE]
  | x :: r, j + 1 => by
    rw [celsE, List.take_append, List.take_of_length_le (by rw [E.len, Nat.add_mul]; omega), E.len, show (j + 1) * E.k - E.k = j * E.k by rw [Nat.add_mul]; omega, celsE_take r j]
    rfl
theorem celsE_next {L : List α} {j : Nat} (hj : j < L.length) : celsE E (L.take (j + 1)) = celsE E (L.take j) ++ E.cels (L.getD j default) := by
  rw [List.take_succ_eq_append_getElem hj, celsE_append, celsE, celsE, List.append_nil]
  simp [List.getD, hj]
theorem celsE_in {L : List α} {j o : Nat} (hj : j < L.length) (ho : o ≤ E.k) : (celsE E L).take (j * E.k + o) = celsE E (L.take j) ++ (E.cels (L.getD j default)).take o := by
  have h1 : (celsE E L).take (j * E.k + o) = ((celsE E L).take ((j + 1) * E.k)).take (j * E.k + o) := by
    rw [List.take_take, Nat.min_eq_left (by rw [Nat.add_mul]; omega)]
  have h2 : (celsE E (L.take j)).length = j * E.k := by rw [celsE_length, List.length_take, Nat.min_eq_left (by omega)]
  rw [h1, celsE_take, celsE_next E hj, List.take_append, h2, List.take_of_length_le (by omega)]
  congr 2
  omega
end

/-! Measured. -/
mutual
def Cel.sz : Cel → Nat
  | .val (.string b) => b.size
  | .val _ => 0
  | .sl _ _ n cs => n + szL cs
def szL : List Cel → Nat
  | [] => 0
  | c :: cs => c.sz + szL cs
end
mutual
def Cel.Ty : Cel → Prop
  | .val (.string b) => b.size ≤ maxLen
  | .val (.int .i64 z) => -9223372036854775808 ≤ z ∧ z ≤ 9223372036854775807
  | .val _ => True
  | .sl _ _ n cs => n ≤ 9223372036854775807 ∧ TyL cs
def TyL : List Cel → Prop
  | [] => True
  | c :: cs => c.Ty ∧ TyL cs
end
theorem szL_append : ∀ (a b : List Cel), szL (a ++ b) = szL a + szL b
  | [], b => by rw [List.nil_append, szL, Nat.zero_add]
  | c :: a, b => by rw [List.cons_append, szL, szL, szL_append a b, Nat.add_assoc]
theorem TyL_append : ∀ (a b : List Cel), TyL (a ++ b) ↔ TyL a ∧ TyL b
  | [], b => by simp [TyL]
  | c :: a, b => by rw [List.cons_append, TyL, TyL, TyL_append a b, and_assoc]
theorem TyL_at {α : Type} [Inhabited α] (E : EncC α) : ∀ (L : List α) (j : Nat), TyL (celsE E L) → j < L.length → TyL (E.cels (L.getD j default))
  | x :: r, 0, h, _ => ((TyL_append _ _).1 (by exact h)).1
  | x :: r, j + 1, h, hj => TyL_at E r j ((TyL_append _ _).1 (by exact h)).2 (by simpa using hj)
theorem szL_at {α : Type} [Inhabited α] (E : EncC α) : ∀ (L : List α) (j : Nat), j < L.length → szL (E.cels (L.getD j default)) ≤ szL (celsE E L)
  | x :: r, 0, _ => by rw [celsE, szL_append]; exact Nat.le_add_right _ _
  | x :: r, j + 1, hj => by
    have := szL_at E r j (by simpa using hj)
    rw [celsE, szL_append]
    exact Nat.le_trans this (Nat.le_add_left _ _)
theorem szL_take {α : Type} (E : EncC α) (L : List α) (j : Nat) : szL (celsE E (L.take j)) ≤ szL (celsE E L) := by
  conv => rhs; rw [← List.take_append_drop j L, celsE_append, szL_append]
  exact Nat.le_add_right _ _
theorem szL_next {α : Type} [Inhabited α] (E : EncC α) {L : List α} {j : Nat} (hj : j < L.length) : szL (celsE E (L.take (j + 1))) = szL (celsE E (L.take j)) + szL (E.cels (L.getD j default)) := by rw [celsE_next E hj, szL_append]
def SzPost (z : Nat) (l : Int) (w : World) (e : Ending) (w' : World) : Prop := ∃ r : Int, e = .returned (.int .i64 r) ∧ (r < 0 ∨ (0 ≤ r ∧ r + (z : Int) = l)) ∧ Below w.heap.size w w'

/-! Read. -/
theorem Cel.Rd.cap {w : World} {e e' k n : Nat} {cs : List Cel} {a : Option Addr} {m c c' : Nat} (h : (Cel.sl e k n cs).Rd w (.slice a m c)) : m = n ∧ (Cel.sl e' k n cs).Rd w (.slice a n c') := by
  obtain ⟨hl, a1, c1, vs, hv, hr, h1⟩ := h
  cases hv
  exact ⟨rfl, hl, a, c', vs, rfl, hr, h1⟩
theorem row_form {α : Type} {E : EncC α} {w : World} {L : List α} {v : Value} (h : (celRow E L).Rd w v) : ∃ a n c, v = .slice a n c ∧ L.length = n := by
  obtain ⟨hl, a1, c1, vs, hv, hr, h1⟩ := h
  exact ⟨a1, L.length, c1, hv, rfl⟩
theorem row_at {α : Type} [Inhabited α] {E : EncC α} {w : World} {L : List α} {a : Option Addr} {n c : Nat} (h : (celRow E L).Rd w (.slice a n c)) (_ : 0 < E.k) (j : Nat) (hj : j < n) :
    ∃ g off vs, a = some ⟨g, off, none⟩ ∧ g < w.heap.size ∧ RdL w (E.cels (L.getD j default)) vs ∧ ∀ (o : Nat) (u : Value), vs[o]? = some u → w.cell? ⟨g, off + j * E.k + o, none⟩ = some u := by
  obtain ⟨hl, a1, c1, vs, hv, hr, h1⟩ := h
  cases hv
  have hm : (j + 1) * E.k ≤ L.length * E.k := Nat.mul_le_mul_right _ hj
  rw [Nat.add_mul, Nat.one_mul] at hm
  rcases h1 with h0 | ⟨g, off, ha, hg, hc⟩
  · omega
  refine ⟨g, off, (vs.drop (j * E.k)).take E.k, ha, hg, ?_, fun o u hu => ?_⟩
  · have key : ∀ (M : List α) (us : List Value) (i : Nat), RdL w (celsE E M) us → i < M.length → RdL w (E.cels (M.getD i default)) ((us.drop (i * E.k)).take E.k) := by
      intro M
      induction M with
      | nil => intro us i _ hi; exact absurd hi (Nat.not_lt_zero _)
      | cons x r ih =>
        have split : ∀ (A B : List Cel) (us : List Value), RdL w (A ++ B) us → RdL w A (us.take A.length) ∧ RdL w B (us.drop A.length) := by
          intro A
          induction A with
          | nil => intro B us h; exact ⟨rfl, h⟩
          | cons d A ihA =>
            intro B us h
            obtain ⟨v, s, rfl, h1, h2⟩ := h
            obtain ⟨p, q⟩ := ihA B s h2
            exact ⟨⟨v, s.take A.length, rfl, h1, p⟩, q⟩
        intro us i h hi
        obtain ⟨p, q⟩ := split (E.cels x) (celsE E r) us h
        rw [E.len] at p q
        cases i with
        | zero => rw [Nat.zero_mul, List.drop_zero]; exact p
        | succ i =>
          have := ih (us.drop E.k) i q (by simpa using hi)
          rw [List.drop_drop] at this
          rw [show (i + 1) * E.k = E.k + i * E.k by rw [Nat.add_mul]; omega]
          exact this
    exact key L vs j hr hj
  · rw [List.getElem?_take] at hu
    split at hu
    · rw [List.getElem?_drop] at hu
      rw [Nat.add_assoc]
      exact hc _ u hu
    · cases hu

/-! Owned, between two block numbers. -/
def Objs (w : World) (lo hi : Nat) (cs : List Cel) (vs : List Value) : Prop := ∃ F, F.Nodup ∧ (∀ g ∈ F, lo ≤ g ∧ g < hi) ∧ OwnL w cs F vs
def Obj1 (w : World) (lo hi : Nat) (c : Cel) (v : Value) : Prop := ∃ F, F.Nodup ∧ (∀ g ∈ F, lo ≤ g ∧ g < hi) ∧ c.Own w F v
section
variable {w w' : World} {lo hi : Nat} {cs : List Cel} {vs : List Value} {c : Cel} {v : Value}
theorem Objs.mono {lo' hi' : Nat} (h : Objs w lo hi cs vs) (h1 : lo' ≤ lo) (h2 : hi ≤ hi') : Objs w lo' hi' cs vs := by
  obtain ⟨F, hn, hb, ho⟩ := h
  exact ⟨F, hn, fun g hg => by have := hb g hg; omega, ho⟩
theorem Obj1.mono {lo' hi' : Nat} (h : Obj1 w lo hi c v) (h1 : lo' ≤ lo) (h2 : hi ≤ hi') : Obj1 w lo' hi' c v := by
  obtain ⟨F, hn, hb, ho⟩ := h
  exact ⟨F, hn, fun g hg => by have := hb g hg; omega, ho⟩
theorem Objs.kept (h : Objs w lo hi cs vs) (hk : ∀ g, lo ≤ g → g < hi → w'.heap[g]? = w.heap[g]?) : Objs w' lo hi cs vs := by
  obtain ⟨F, hn, hb, ho⟩ := h
  exact ⟨F, hn, hb, OwnL.kept _ _ _ (fun g hg => hk g (hb g hg).1 (hb g hg).2) ho⟩
theorem Obj1.kept (h : Obj1 w lo hi c v) (hk : ∀ g, lo ≤ g → g < hi → w'.heap[g]? = w.heap[g]?) : Obj1 w' lo hi c v := by
  obtain ⟨F, hn, hb, ho⟩ := h
  exact ⟨F, hn, hb, Cel.Own.kept _ _ _ (fun g hg => hk g (hb g hg).1 (hb g hg).2) ho⟩
theorem Objs.later (h : Objs w lo hi cs vs) (hb : Below w.heap.size w w') : Objs w' lo hi cs vs := by
  obtain ⟨F, hn, hb', ho⟩ := h
  exact ⟨F, hn, hb', OwnL.kept _ _ _ (fun g hg => hb.block g (OwnL.lt _ _ _ ho g hg)) ho⟩
theorem Obj1.later (h : Obj1 w lo hi c v) (hb : Below w.heap.size w w') : Obj1 w' lo hi c v := by
  obtain ⟨F, hn, hb', ho⟩ := h
  exact ⟨F, hn, hb', Cel.Own.kept _ _ _ (fun g hg => hb.block g (Cel.Own.lt _ _ _ ho g hg)) ho⟩
theorem Objs.rd (h : Objs w lo hi cs vs) : RdL w cs vs := by
  obtain ⟨F, _, _, ho⟩ := h
  exact OwnL.rd _ _ _ ho
theorem Obj1.rd (h : Obj1 w lo hi c v) : c.Rd w v := by
  obtain ⟨F, _, _, ho⟩ := h
  exact Cel.Own.rd _ _ _ ho
theorem Objs.nil (w : World) (lo hi : Nat) : Objs w lo hi [] [] := ⟨[], List.nodup_nil, fun g hg => (by cases hg), rfl, rfl⟩
theorem Objs.val (h : Objs w lo hi cs vs) (x : Value) : Objs w lo hi (.val x :: cs) (x :: vs) := by
  obtain ⟨F, hn, hb, ho⟩ := h
  exact ⟨F, hn, hb, x, vs, [], F, rfl, rfl, ⟨rfl, rfl⟩, ho⟩
theorem Objs.cons {mid mid' : Nat} (h1 : Obj1 w lo mid c v) (h2 : Objs w mid' hi cs vs) (hm : mid ≤ mid') (hl : lo ≤ mid') (hh : mid ≤ hi) : Objs w lo hi (c :: cs) (v :: vs) := by
  obtain ⟨F, hn, hb, ho⟩ := h1
  obtain ⟨G, hn', hb', ho'⟩ := h2
  refine ⟨F ++ G, List.nodup_append.2 ⟨hn, hn', fun a ha b hb2 e => ?_⟩, fun g hg => ?_, v, vs, F, G, rfl, rfl, ho, ho'⟩
  · have := hb a ha; have := hb' b hb2; omega
  · rcases List.mem_append.1 hg with hg | hg
    · have := hb g hg; omega
    · have := hb' g hg; omega
theorem Objs.one (h : Obj1 w lo hi c v) : Objs w lo hi [c] [v] := by
  obtain ⟨F, hn, hb, ho⟩ := h
  exact ⟨F, hn, hb, v, [], F, [], rfl, by simp, ho, rfl, rfl⟩
end
/-- Two slices in blocks of their own, in whatever order. -/
theorem obj_two {w : World} {a b lo hi : Nat} {c d : Cel} {v u : Value} (h1 : Obj1 w a (a + 1) c v) (h2 : Obj1 w b (b + 1) d u) (hne : a ≠ b) (ha : lo ≤ a ∧ a < hi) (hb : lo ≤ b ∧ b < hi) : Objs w lo hi [c, d] [v, u] := by
  obtain ⟨F, hn, hF, ho⟩ := h1
  obtain ⟨G, hn', hG, ho'⟩ := h2
  refine ⟨F ++ (G ++ []), ?_, ?_, v, [u], F, G ++ [], rfl, rfl, ho, u, [], G, [], rfl, rfl, ho', rfl, rfl⟩
  · rw [List.append_nil]
    exact List.nodup_append.2 ⟨hn, hn', fun x hx y hy e => by have := hF x hx; have := hG y hy; omega⟩
  · intro g hg
    rw [List.append_nil] at hg
    rcases List.mem_append.1 hg with hg | hg
    · have := hF g hg; omega
    · have := hG g hg; omega
theorem OwnL.append {w : World} : ∀ (A B : List Cel) (F G : List Nat) (us vs : List Value), OwnL w A F us → OwnL w B G vs → OwnL w (A ++ B) (F ++ G) (us ++ vs)
  | [], _, _, _, _, _, ⟨hF, hv⟩, h => by rw [hF, hv]; exact h
  | c :: A, B, _, G, _, vs, ⟨v, r, G1, H1, hv, hF, h1, h2⟩, h => by
    rw [hF, hv]
    exact ⟨v, r ++ vs, G1, H1 ++ G, rfl, by rw [List.append_assoc], h1, OwnL.append A B H1 G r vs h2 h⟩
/-- A row of the call's own whose cells own what they hold. -/
theorem own_of_row {w : World} {B e k n : Nat} {v : Value} {xs : List Value} {cs : List Cel} {G : List Nat} (ho : w.ownsRow B e k v n xs) (hl : cs.length = n * k) (hG : OwnL w cs G xs) :
    ∃ F, (Cel.sl e k n cs).Own w F v ∧ F = v.ownBlock.toList ++ G := by
  rcases ho.2 with ⟨rfl, rfl⟩ | ⟨g, cap, cur, rfl, hB, hg, hn, hm, hs, ht⟩
  · obtain rfl : cs = [] := List.length_eq_zero_iff.1 (by rw [hl, Nat.zero_mul])
    obtain ⟨rfl, _⟩ := hG
    exact ⟨[], ⟨hl, none, 0, rfl, Nat.le_refl _, by decide, .inl ⟨rfl, rfl⟩⟩, rfl⟩
  · refine ⟨g :: G, ⟨hl, _, cap, rfl, hn, hm, .inr ⟨g, cur, G, rfl, rfl, hg, by rw [hs]; exact Nat.mul_le_mul_right _ hn, by rw [ht]; exact hG⟩⟩, rfl⟩
theorem obj_of_row {w : World} {B e k n lo hi : Nat} {v : Value} {xs : List Value} {cs : List Cel} {G : List Nat} (ho : w.ownsRow B e k v n xs) (hl : cs.length = n * k) (hG : OwnL w cs G xs) (hn : G.Nodup)
    (hb : ∀ g ∈ G, lo ≤ g ∧ g < hi) (hv : ∀ g, v.ownBlock = some g → g ∉ G ∧ lo ≤ g ∧ g < hi) : Obj1 w lo hi (.sl e k n cs) v := by
  obtain ⟨F, h1, rfl⟩ := own_of_row ho hl hG
  refine ⟨_, ?_, ?_, h1⟩
  · cases hq : v.ownBlock with
    | none => simpa using hn
    | some q => simp only [Option.toList, List.cons_append, List.nil_append, List.nodup_cons]; exact ⟨(hv q hq).1, hn⟩
  · intro g hg
    cases hq : v.ownBlock with
    | none => rw [hq] at hg; exact hb g (by simpa using hg)
    | some q =>
      rw [hq] at hg
      simp only [Option.toList, List.cons_append, List.nil_append, List.mem_cons] at hg
      rcases hg with rfl | hg
      · exact (hv _ hq).2
      · exact hb g hg
/-- A copy under way: the first elements lie there and own what they hold. -/
structure Part2 {α : Type} (E : EncC α) (L : List α) (w : World) (g n k : Nat) : Prop where
  ex : ∃ xs G, w.ownsRow g E.e E.k (.slice (some ⟨g, 0, none⟩) n n) n xs ∧ OwnL w (celsE E (L.take k)) G (xs.take (k * E.k)) ∧ G.Nodup ∧ ∀ h ∈ G, g < h ∧ h < w.heap.size
theorem setsL_take : ∀ (vs xs : List Value) (o : Nat), o + vs.length ≤ xs.length → (setsL xs o vs).take (o + vs.length) = xs.take o ++ vs := by
  intro vs xs o h
  apply List.ext_getElem?
  intro j
  by_cases hj : j < o + vs.length
  · rw [List.getElem?_take_of_lt hj]
    by_cases hj0 : j < o
    · rw [setsL_out _ _ _ _ (.inl hj0), List.getElem?_append_left (by rw [List.length_take]; omega), List.getElem?_take_of_lt hj0]
    · obtain ⟨t, rfl⟩ : ∃ t, j = o + t := ⟨j - o, by omega⟩
      rw [setsL_in _ _ _ _ (by omega) h, List.getElem?_append_right (by rw [List.length_take]; omega), List.length_take, Nat.min_eq_left (by omega), Nat.add_sub_cancel_left]
  · rw [List.getElem?_eq_none (by rw [List.length_take]; omega), List.getElem?_eq_none (by rw [List.length_append, List.length_take]; omega)]
theorem Part2.start {α : Type} {E : EncC α} {L : List α} {w : World} {g n : Nat} {xs : List Value} (h : w.ownsRow g E.e E.k (.slice (some ⟨g, 0, none⟩) n n) n xs) : Part2 E L w g n 0 :=
  ⟨xs, [], h, by rw [List.take_zero, Nat.zero_mul, List.take_zero]; exact ⟨rfl, rfl⟩, List.nodup_nil, fun _ hh => by cases hh⟩
theorem Part2.later {α : Type} {E : EncC α} {L : List α} {w w' : World} {g n k : Nat} (h : Part2 E L w g n k) (hb : Below w.heap.size w w') : Part2 E L w' g n k := by
  obtain ⟨xs, G, h1, h2, h3, h4⟩ := h.ex
  exact ⟨xs, G, own_below h1 hb, OwnL.kept _ _ _ (fun q hq => hb.block q (h4 q hq).2) h2, h3, fun q hq => ⟨(h4 q hq).1, Nat.lt_of_lt_of_le (h4 q hq).2 hb.size⟩⟩
theorem heap_setCells_ne {q g : Nat} (hq : q ≠ g) : ∀ (vs : List Value) (w : World) (o : Nat), (w.setCells g o vs).heap[q]? = w.heap[q]?
  | [], _, _ => rfl
  | v :: r, w, o => by rw [World.setCells, heap_setCells_ne hq r, Below.heap_setCell _ _ _ _ (by exact hq)]
theorem size_setCells {g : Nat} : ∀ (vs : List Value) (w : World) (o : Nat), (w.setCells g o vs).heap.size = w.heap.size
  | [], _, _ => rfl
  | v :: r, w, o => by rw [World.setCells, size_setCells r]; simp [World.setCell]
theorem Part2.next {α : Type} [Inhabited α] {E : EncC α} {L : List α} {w w1 : World} {g n k hi : Nat} {vs : List Value} (h : Part2 E L w g n k) (hn : L.length = n) (hk : k < n) (hb : Below w.heap.size w w1)
    (ho : Objs w1 w.heap.size hi (E.cels (L.getD k default)) vs) : Part2 E L (w1.setCells g (k * E.k) vs) g n (k + 1) := by
  obtain ⟨xs, G, h1, h2, h3, h4⟩ := h.ex
  obtain ⟨F, hF, hr, hO⟩ := ho
  have hl : vs.length = E.k := by rw [OwnL.length _ _ _ hO, E.len]
  have h1' := own_below h1 hb
  have hg : g < w.heap.size := ownE_lt h1
  have hm : (k + 1) * E.k ≤ n * E.k := Nat.mul_le_mul_right _ hk
  rw [Nat.add_mul, Nat.one_mul] at hm
  have hne : ∀ q ∈ G ++ F, q ≠ g := by
    intro q hq
    rcases List.mem_append.1 hq with hq | hq
    · have := h4 q hq; omega
    · have := hr q hq; omega
  refine ⟨_, G ++ F, own_sets vs (k * E.k) h1', ?_, ?_, ?_⟩
  · rw [celsE_next E (by omega), show (k + 1) * E.k = k * E.k + vs.length by rw [hl, Nat.add_mul, Nat.one_mul], setsL_take _ _ _ (by rw [hl, h1.1]; exact hm)]
    refine OwnL.append _ _ _ _ _ _ ?_ ?_
    · exact OwnL.kept _ _ _ (fun q hq => by rw [heap_setCells_ne (hne q (List.mem_append_left _ hq))]; exact hb.block q (h4 q hq).2) h2
    · exact OwnL.kept _ _ _ (fun q hq => heap_setCells_ne (hne q (List.mem_append_right _ hq)) _ _ _) hO
  · exact List.nodup_append.2 ⟨h3, hF, fun a ha b hb2 e => by have := h4 a ha; have := hr b hb2; omega⟩
  · intro q hq
    rw [size_setCells]
    rcases List.mem_append.1 hq with hq | hq
    · have := h4 q hq; have := hb.size; omega
    · have := hr q hq; have := OwnL.lt _ _ _ hO q hq; omega
theorem Part2.done {α : Type} {E : EncC α} {L : List α} {w : World} {g n : Nat} (h : Part2 E L w g n n) (hn : L.length = n) : Obj1 w g w.heap.size (celRow E L) (.slice (some ⟨g, 0, none⟩) n n) := by
  obtain ⟨xs, G, h1, h2, h3, h4⟩ := h.ex
  rw [List.take_of_length_le (by omega), List.take_of_length_le (by rw [h1.1]; omega)] at h2
  unfold celRow
  rw [hn]
  exact obj_of_row h1 (by rw [celsE_length, hn]) h2 h3 (fun q hq => by have := h4 q hq; omega) (fun q hq => by
    have e : g = q := Option.some.inj hq
    have := ownE_lt h1
    exact ⟨fun hh => by have := h4 q hh; omega, by omega, by omega⟩)
def ToPost (c : Cel) (w : World) (e : Ending) (w' : World) : Prop := ∃ v, e = .returned v ∧ Obj1 w' w.heap.size w'.heap.size c v ∧ Below w.heap.size w w'
def ToPostS (cs : List Cel) (w : World) (e : Ending) (w' : World) : Prop := ∃ vs : List Value, e = .returned (.agg ⟨vs⟩) ∧ Objs w' w.heap.size w'.heap.size cs vs ∧ Below w.heap.size w w'

/-! Marked. -/
def MarkPost (c : Cel) (F : List Nat) (v : Value) (k : Nat) (w : World) (e : Ending) (w' : World) : Prop :=
  e = .returned (.int .i64 ((k + c.cnt : Nat) : Int)) ∧ OutF F w w' ∧ (c.mk k).Own w' F v
theorem own_set_same {w : World} {e k n : Nat} {cs : List Cel} {F : List Nat} {v : Value} {j : Nat} (h : (Cel.sl e k n cs).Own w F v) (hc : cs.set j (cs.getD j default) = cs) : (Cel.sl e k n (cs.set j (cs.getD j default))).Own w F v := by rw [hc]; exact h
/-- A plain place marked. -/
theorem mark_val {w : World} {e K n c i k : Nat} {cs : List Cel} {a : Option Addr} {F : List Nat} {y : Value} (h : (Cel.sl e K n (stM cs k i)).Own w F (.slice a n c)) (hF : F.Nodup) (hi : i < n * K) (hl : cs.length = n * K) (hy : cs.getD i default = .val y) :
    ∃ g, a = some ⟨g, 0, none⟩ ∧ g ∈ F ∧ (∃ u, w.cell? ⟨g, i, none⟩ = some u) ∧ w.frozen? ⟨g, i, none⟩ = false ∧
      (Cel.sl e K n (stM cs k (i + 1))).Own (w.setCell ⟨g, i, none⟩ (markV y (atM cs k i))) F (.slice a n c) ∧ OutF F w (w.setCell ⟨g, i, none⟩ (markV y (atM cs k i))) := by
  obtain ⟨g, G, u, ha, hg, _, _, _, hc, hz, _, _, hv⟩ := Cel.Own.sub h hF i hi
  have hget : (stM cs k i).getD i default = .val y := by rw [stM_getD (by omega) (Nat.le_refl _), hy]
  obtain ⟨h1, h2⟩ := hv y hget (markV y (atM cs k i))
  have e1 := stM_next (cs := cs) (k := k) (j := i) (by omega)
  rw [hy] at e1
  rw [show Cel.mk (.val y) (atM cs k i) = .val (markV y (atM cs k i)) from rfl] at e1
  rw [e1] at h1
  exact ⟨g, ha, hg, ⟨u, hc⟩, hz, h1, h2⟩
/-- A slice within marked. -/
theorem mark_sub {w : World} {e K n c i k : Nat} {cs : List Cel} {a : Option Addr} {F : List Nat} (h : (Cel.sl e K n (stM cs k i)).Own w F (.slice a n c)) (hF : F.Nodup) (hi : i < n * K) (hl : cs.length = n * K) :
    ∃ g G u, a = some ⟨g, 0, none⟩ ∧ G.Nodup ∧ w.cell? ⟨g, i, none⟩ = some u ∧ (cs.getD i default).Own w G u ∧
      ∀ w', OutF G w w' → ((cs.getD i default).mk (atM cs k i)).Own w' G u → (Cel.sl e K n (stM cs k (i + 1))).Own w' F (.slice a n c) ∧ OutF F w w' := by
  obtain ⟨g, G, u, ha, hg, hGF, _, hGn, hc, hz, ho, hk, _⟩ := Cel.Own.sub h hF i hi
  have hget : (stM cs k i).getD i default = cs.getD i default := stM_getD (by omega) (Nat.le_refl _)
  rw [hget] at ho
  refine ⟨g, G, u, ha, hGn, hc, ho, fun w' hO ho' => ⟨?_, hO.mono hGF⟩⟩
  have h1 := hk w' _ ho' hO
  rw [stM_next (by omega)] at h1
  exact h1
/-- The count at a place. -/
theorem atM_in {α : Type} [Inhabited α] (E : EncC α) {L : List α} {k j o : Nat} (hj : j < L.length) (ho : o ≤ E.k) : atM (celsE E L) k (j * E.k + o) = k + cntL (celsE E (L.take j)) + cntL ((E.cels (L.getD j default)).take o) := by
  unfold atM
  rw [celsE_in E hj ho, cntL_append, Nat.add_assoc]
theorem cntL_next {α : Type} [Inhabited α] (E : EncC α) {L : List α} {j : Nat} (hj : j < L.length) : cntL (celsE E (L.take (j + 1))) = cntL (celsE E (L.take j)) + cntL (E.cels (L.getD j default)) := by rw [celsE_next E hj, cntL_append]
theorem cntL_take {α : Type} (E : EncC α) (L : List α) (j : Nat) : cntL (celsE E (L.take j)) ≤ cntL (celsE E L) := by
  conv => rhs; rw [← List.take_append_drop j L, celsE_append, cntL_append]
  exact Nat.le_add_right _ _
/-- What is marked, read. -/
theorem rowM_at {α : Type} [Inhabited α] {E : EncC α} {w : World} {L : List α} {a : Option Addr} {n c k : Nat} (h : ((celRow E L).mk k).Rd w (.slice a n c)) (_ : 0 < E.k) (j : Nat) (hj : j < n) :
    ∃ g off vs, a = some ⟨g, off, none⟩ ∧ g < w.heap.size ∧ RdL w (mkL (E.cels (L.getD j default)) (k + cntL (celsE E (L.take j)))) vs ∧ ∀ (o : Nat) (u : Value), vs[o]? = some u → w.cell? ⟨g, off + j * E.k + o, none⟩ = some u := by
  obtain ⟨hl, a1, c1, vs, hv, hr, h1⟩ := h
  cases hv
  have hm : (j + 1) * E.k ≤ L.length * E.k := Nat.mul_le_mul_right _ hj
  rw [Nat.add_mul, Nat.one_mul] at hm
  rcases h1 with h0 | ⟨g, off, ha, hg, hc⟩
  · omega
  refine ⟨g, off, (vs.drop (j * E.k)).take E.k, ha, hg, ?_, fun o u hu => ?_⟩
  · have split : ∀ (A B : List Cel) (us : List Value), RdL w (A ++ B) us → RdL w A (us.take A.length) ∧ RdL w B (us.drop A.length) := by
      intro A
      induction A with
      | nil => intro B us h; exact ⟨rfl, h⟩
      | cons d A ihA =>
        intro B us h
        obtain ⟨v, s, rfl, h1, h2⟩ := h
        obtain ⟨p, q⟩ := ihA B s h2
        exact ⟨⟨v, s.take A.length, rfl, h1, p⟩, q⟩
    have e1 : celsE E L = celsE E (L.take j) ++ (E.cels (L.getD j default) ++ celsE E (L.drop (j + 1))) := by
      conv => lhs; rw [← List.take_append_drop (j + 1) L, celsE_append, celsE_next E hj]
      rw [List.append_assoc]
    have hr' : RdL w (mkL (celsE E L) k) vs := hr
    rw [e1, mkL_append, mkL_append] at hr'
    have h2 := (split _ _ _ hr').2
    rw [mkL_length, celsE_length, List.length_take, Nat.min_eq_left (by omega)] at h2
    have h3 := (split _ _ _ h2).1
    rw [mkL_length, E.len] at h3
    exact h3
  · rw [List.getElem?_take] at hu
    split at hu
    · rw [List.getElem?_drop] at hu
      rw [Nat.add_assoc]
      exact hc _ u hu
    · cases hu
/-! A struct alone: only its slices are marked. -/
def mkTop : List Cel → Nat → List Cel
  | [], _ => []
  | .val v :: cs, k => .val v :: mkTop cs k
  | .sl e s n c :: cs, k => (Cel.sl e s n c).mk k :: mkTop cs (k + (Cel.sl e s n c).cnt)
def cntTop : List Cel → Nat
  | [] => 0
  | .val _ :: cs => cntTop cs
  | .sl e s n c :: cs => (Cel.sl e s n c).cnt + cntTop cs
theorem own_nil {w : World} {F : List Nat} (h : OwnL w [] F []) : F = [] := h.1
theorem own_cons {w : World} {c : Cel} {cs : List Cel} {F : List Nat} {v : Value} {vs : List Value} (h : OwnL w (c :: cs) F (v :: vs)) : ∃ G H, F = G ++ H ∧ c.Own w G v ∧ OwnL w cs H vs := by
  obtain ⟨v', r', G, H, hv, hF, h1, h2⟩ := h
  cases hv
  exact ⟨G, H, hF, h1, h2⟩
theorem own_cons_val {w : World} {x : Value} {cs : List Cel} {F : List Nat} {v : Value} {vs : List Value} (h : OwnL w (.val x :: cs) F (v :: vs)) : OwnL w cs F vs := by
  obtain ⟨G, H, hF, ⟨hG, _⟩, h2⟩ := own_cons h
  subst hG
  rw [hF]
  exact h2
theorem rd_cons {w : World} {c : Cel} {cs : List Cel} {v : Value} {vs : List Value} (h : RdL w (c :: cs) (v :: vs)) : c.Rd w v ∧ RdL w cs vs := by
  obtain ⟨v', r', hv, h1, h2⟩ := h
  cases hv
  exact ⟨h1, h2⟩
/-- Blocks outside a range lie as they lay. -/
structure OutR (lo hi : Nat) (w w' : World) : Prop where
  os : w'.os = w.os
  tape : w'.tape = w.tape
  output : w'.output = w.output
  size : w.heap.size ≤ w'.heap.size
  block : ∀ g, (g < lo ∨ hi ≤ g) → g < w.heap.size → w'.heap[g]? = w.heap[g]?
theorem OutR.of {F : List Nat} {lo hi : Nat} {w w' : World} (h : OutF F w w') (hF : ∀ g ∈ F, lo ≤ g ∧ g < hi) : OutR lo hi w w' :=
  ⟨h.os, h.tape, h.output, h.size, fun g hg hl => h.block g (fun hh => by have := hF g hh; omega) hl⟩
theorem OutR.below {lo hi B : Nat} {w w' : World} (h : OutR lo hi w w') (h1 : B ≤ lo) (h2 : B ≤ w.heap.size) : Below B w w' :=
  ⟨h.os, h.tape, h.output, h.size, fun g hg => h.block g (by omega) (by omega)⟩
theorem Objs.out {w w' : World} {lo hi lo' hi' : Nat} {cs : List Cel} {vs : List Value} (h : Objs w lo hi cs vs) (ho : OutR lo' hi' w w') (hd : hi ≤ lo' ∨ hi' ≤ lo) : Objs w' lo hi cs vs := by
  obtain ⟨F, hn, hb, hO⟩ := h
  exact ⟨F, hn, hb, OwnL.kept _ _ _ (fun g hg => ho.block g (by have := hb g hg; omega) (OwnL.lt _ _ _ hO g hg)) hO⟩
theorem Obj1.out {w w' : World} {lo hi lo' hi' : Nat} {c : Cel} {v : Value} (h : Obj1 w lo hi c v) (ho : OutR lo' hi' w w') (hd : hi ≤ lo' ∨ hi' ≤ lo) : Obj1 w' lo hi c v := by
  obtain ⟨F, hn, hb, hO⟩ := h
  exact ⟨F, hn, hb, Cel.Own.kept _ _ _ (fun g hg => ho.block g (by have := hb g hg; omega) (Cel.Own.lt _ _ _ hO g hg)) hO⟩
theorem OutR.bk {w w' : World} {lo hi b : Nat} {cs : Array Value} {t : TypeId} (h : OutR lo hi w w') (hk : Bk w b cs t) (hd : b < lo ∨ hi ≤ b) : Bk w' b cs t := (h.block b hd hk.lt).trans hk
theorem sz_row' {α : Type} (E : EncC α) (L : List α) : (celRow E L).sz = L.length + szL (celsE E L) := rfl
theorem Cel.Rd.drew {w : World} {c : Cel} {v : Value} (h : c.Rd w v) : c.Rd w.drew v := Cel.Rd.later ((Below.refl _ _).drew) c v h
theorem rowK_form {α : Type} {E : EncC α} {w : World} {L : List α} {k : Nat} {v : Value} (h : ((celRow E L).mk k).Rd w v) : ∃ a n c, v = .slice a n c ∧ L.length = n := by
  obtain ⟨hl, a1, c1, vs, hv, hr, h1⟩ := h
  exact ⟨a1, L.length, c1, hv, rfl⟩
theorem mark3_eq {a b : Nat} {c : Int} (h : a = b) (hc : c = (b : Int)) : (a % 3 == 0) = (c % 3 == 0) := by
  subst h hc
  rw [Bool.eq_iff_iff]
  simp only [beq_iff_eq]
  omega
theorem own_vals {w : World} : ∀ xs : List Value, OwnL w (xs.map .val) [] xs
  | [] => ⟨rfl, rfl⟩
  | x :: r => ⟨x, r, [], [], rfl, rfl, ⟨rfl, rfl⟩, own_vals r⟩
end Go.Proofs.YtmkchilhnmkhkaaDoor
namespace Go.Proofs.YtmkchilhnmkhkaaDoor
open Go.RowKit Go.Proofs.YtmkchilhnmkhkaaDoor.Parts Go.Proofs.YtmkchilhnmkhkaaDoor.Hexa

theorem infoInt : (Tryd.prog.info? 3).map (fun i => (i.zero, i.size, i.bytes)) = some (some (.int .i64 0), 1, 8) := by kernel_rfl

/-- A slice of ints that came in. -/
structure SrcI (w : World) (a : Option Addr) (n : Nat) (zs : List Int) : Prop where
  len : zs.length = n
  cell : ∀ j, j < n → ∃ g off, a = some ⟨g, off, none⟩ ∧ g < w.heap.size ∧ w.cell? ⟨g, off + j, none⟩ = some (.int .i64 (zs.getD j 0))
theorem SrcI.later {w w' : World} {a : Option Addr} {n : Nat} {zs : List Int} (h : SrcI w a n zs) (hb : Below w.heap.size w w') : SrcI w' a n zs :=
  ⟨h.len, fun j hj => by
    obtain ⟨g, off, e, hg, hc⟩ := h.cell j hj
    exact ⟨g, off, e, Nat.lt_of_lt_of_le hg hb.size, by rw [hb.cell hg]; exact hc⟩⟩

/-- A slice at the head of its block reads as these ints. -/
structure IntsAt (w : World) (g n : Nat) (zs : List Int) : Prop where
  len : zs.length = n
  lt : g < w.heap.size
  cell : ∀ j, j < n → w.cell? ⟨g, j, none⟩ = some (.int .i64 (zs.getD j 0))
theorem IntsAt.later {w w' : World} {g n : Nat} {zs : List Int} (h : IntsAt w g n zs) (hb : Below w.heap.size w w') : IntsAt w' g n zs :=
  ⟨h.len, Nat.lt_of_lt_of_le h.lt hb.size, fun j hj => by rw [hb.cell h.lt]; exact h.cell j hj⟩
theorem own_lt {w : World} {B e : Nat} {g n cap : Nat} {xs : List Value} (h : w.ownsRow B e 1 (.slice (some ⟨g, 0, none⟩) n cap) n xs) : g < w.heap.size := by
  rcases h.2 with ⟨h', _⟩ | ⟨g', cap', cur, h', _, hg, _⟩
  · simp at h'
  · simp at h'
    rw [h'.1]
    exact (Array.getElem?_eq_some_iff.1 hg).1
theorem intsAt_of_own {w : World} {B e : Nat} {g n cap : Nat} {zs : List Int} (h : w.ownsRow B e 1 (.slice (some ⟨g, 0, none⟩) n cap) n (icells zs)) : IntsAt w g n zs := by
  have hl : zs.length = n := by have := own_length h; rwa [icells_length] at this
  refine ⟨hl, own_lt h, fun j hj => ?_⟩
  rw [h.cellAt j (by omega)]
  have hj' : j < zs.length := by omega
  simp [icells, List.getD, hj']
theorem IntsAt.reads {w : World} {g n : Nat} {zs : List Int} (h : IntsAt w g n zs) : Reads w (some ⟨g, 0, none⟩) (icells zs) := fun j hj => by
  rw [icells_length] at hj
  refine ⟨g, rfl, ?_⟩
  rw [h.cell j (by have := h.len; omega)]
  simp [icells, List.getD, hj]
theorem own_kept {w w' : World} {B e : Nat} {v : Value} {n : Nat} {xs : List Value} (h : w.ownsRow B e 1 v n xs) (hk : ∀ g, v.ownBlock = some g → w'.heap[g]? = w.heap[g]?) : w'.ownsRow B e 1 v n xs := by
  refine ⟨h.1, h.2.imp id fun ⟨g, cap, cur, hv, hg, hh, r⟩ => ⟨g, cap, cur, hv, hg, ?_, r⟩⟩
  rw [hk g (by rw [hv]; rfl)]; exact hh
theorem own_block_lt {w : World} {B e : Nat} {v : Value} {n : Nat} {xs : List Value} (h : w.ownsRow B e 1 v n xs) : ∀ g, v.ownBlock = some g → g < w.heap.size := by
  intro k hk
  rcases h.2 with ⟨rfl, _⟩ | ⟨g, cap, cur, rfl, _, hg, _⟩
  · simp [Value.ownBlock] at hk
  · simp [Value.ownBlock] at hk
    rw [← hk]
    exact (Array.getElem?_eq_some_iff.1 hg).1
end Go.Proofs.YtmkchilhnmkhkaaDoor
