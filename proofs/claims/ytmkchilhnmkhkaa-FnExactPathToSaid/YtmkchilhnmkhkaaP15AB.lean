/- Merged texts: RecSpec, TextEq, PathBase, TextBase, Texts, JoinMath, JoinSpec, JoinImpl, EqTexts, JoinPathLaw, MarkText, Deep, Tree, IntsBase, IntsAt, TIntE. -/
import Derived.Test.YtmkchilhnmkhkaaP15AA
import Derived.Deep.DeepCutAuto
import Derived.Deep.RegionHeld3
import Derived.Test.YtmkchilhnmkhkaaRows
import Derived.WalkKit
import Derived.WalkSpells
import Derived.Test.YtmkchilhnmkhkaaShelfJ
import Derived.Lib.Hide
import Derived.WalkLawsBesides
import Derived.Deep.QuietTactic
import Derived.BigQuiet
import Derived.OwnWalk
namespace Go.Proofs.Ytmkchilhnmkhkaa
open Go.RowKit Go.Proofs.Ytmkchilhnmkhkaa.Parts Go.Proofs.Ytmkchilhnmkhkaa.Hexa Go.Proofs.Ytmkchilhnmkhkaa.Byt

theorem name_all {s : ByteArray} (hl : 1 ≤ s.size ∧ s.size ≤ 7) (h : ∀ j (hj : j < s.size), NameC s[j]) : NameR s := by
  refine ⟨hl, fun b hb => ?_⟩
  obtain ⟨j, hj, rfl⟩ := List.getElem_of_mem hb
  exact h j (by simpa using hj)
theorem name_at {s : ByteArray} (h : NameR s) (j : Nat) (hj : j < s.size) : NameC s[j] := by
  refine h.2 _ ?_
  have hj' : j < s.data.toList.length := by simpa using hj
  exact List.getElem_mem hj'

set_option maxRecDepth 100000 in
set_option maxHeartbeats 1000000 in
theorem specName_any (s : ByteArray) (w : World) (hs : s.size ≤ 2000000) :
    Calls Try.prog 19 #[.string s] w fun e w' => e = .returned (.bool (nameB s)) ∧ w' = w := by
  go_enter Try.func19, Try.ntmps19
  go_wp2
  go_loop [3] (fun i => ∃ k : Nat, k ≤ s.size ∧ i = .int .i64 k ∧ Hid (∀ j (hj : j < s.size), j < k → NameC s[j])) (fun i => s.size - (intOf i).toNat)
  case atStart => exact ⟨0, Nat.zero_le _, rfl, Lib.hid (fun j hj h => by omega)⟩
  case round =>
    obtain ⟨k, hk, rfl, HA⟩ := hrel
    by_cases hlt : k < s.size
    · obtain ⟨b, hb⟩ : ∃ b, s[k]'hlt = b := ⟨_, rfl⟩
      have hb255 := b.toNat_lt
      have HB := Lib.hid hb
      by_cases h1 : 97 ≤ (b.toNat : Int) ∧ (b.toNat : Int) ≤ 122
      · have HR := Lib.hid h1
        have HA2 : Hid (∀ j (hj : j < s.size), j < k + 1 → NameC s[j]) := Lib.hid (fun j hj h => by
          by_cases e : j = k
          · subst e; rw [HB.out]; exact .inl (by omega)
          · exact HA.out j hj (by omega))
        clear h1
        go_wp2_with ((with_reducible refine (range_yes _ HR.out).mono ?_); rintro e w1 ⟨rfl, rfl⟩)
        go_round
        case rel => exact ⟨k + 1, by omega, by go_num, HA2⟩
        case measure => (simp [intOf]; try omega)
      · by_cases h2 : 48 ≤ (b.toNat : Int) ∧ (b.toNat : Int) ≤ 57
        · have HR := Lib.hid h1
          have HR2 := Lib.hid h2
          have HA2 : Hid (∀ j (hj : j < s.size), j < k + 1 → NameC s[j]) := Lib.hid (fun j hj h => by
            by_cases e : j = k
            · subst e; rw [HB.out]; exact .inr (by omega)
            · exact HA.out j hj (by omega))
          clear h1 h2
          go_wp2_with (first | ((with_reducible refine (range_no _ HR.out).mono ?_); rintro e w1 ⟨rfl, rfl⟩) | ((with_reducible refine (range_yes _ HR2.out).mono ?_); rintro e w1 ⟨rfl, rfl⟩))
          go_round
          case rel => exact ⟨k + 1, by omega, by go_num, HA2⟩
          case measure => (simp [intOf]; try omega)
        · have HR := Lib.hid h1
          have HR2 := Lib.hid h2
          have HN : Hid (nameB s = false) := Lib.hid (nameB_no (fun h => by
            have h3 := name_at h k hlt
            rw [hb] at h3
            rcases h3 with h4 | h4
            · exact h1 (by omega)
            · exact h2 (by omega)))
          clear h1 h2
          go_wp2_with (first | ((with_reducible refine (range_no _ HR.out).mono ?_); rintro e w1 ⟨rfl, rfl⟩) | ((with_reducible refine (range_no _ HR2.out).mono ?_); rintro e w1 ⟨rfl, rfl⟩))
          go_ret
          exact ⟨by rw [HN.out]; rfl, rfl⟩
    · obtain rfl : k = s.size := by omega
      go_wp2_with fail
      refine (range_any _ _ _ _).mono ?_
      rintro e w1 ⟨rfl, rfl⟩
      have HN : Hid (decide ((1 : Int) ≤ (s.size : Int) ∧ (s.size : Int) ≤ 7) = nameB s) := Lib.hid (by
        by_cases hl : 1 ≤ s.size ∧ s.size ≤ 7
        · rw [nameB_yes (name_all hl (fun j hj => HA.out j hj hj))]; exact decide_eq_true (by omega)
        · rw [nameB_no (fun h => hl h.1)]; exact decide_eq_false (by omega))
      rw [HN.out]
      go_wp2
      go_ret
      exact ⟨rfl, rfl⟩

theorem specPages_any (n : Int) (w : World) (h0 : -9223372036854775808 ≤ n) (h1 : n ≤ 9223372036854775807) : Calls Try.prog 57 #[.int .i64 n] w fun e w' => e = .returned (.int .i64 (pagesZ n)) ∧ w' = w := by
  by_cases h : n ≤ 0
  · have HE : Hid (pagesZ n = 0) := Lib.hid (if_pos h)
    go_enter Try.func57, Try.ntmps57
    go_wp2
    go_ret
    exact ⟨by rw [HE.out]; rfl, rfl⟩
  · have HE : Hid (pagesZ n = (n - 1) / 32 + 1) := Lib.hid (if_neg h)
    have hp : 1 ≤ n := by omega
    have hd : (n - 1) / 32 ≤ 288230376151711743 := by omega
    have hd0 : 0 ≤ (n - 1) / 32 := by omega
    go_enter Try.func57, Try.ntmps57
    go_wp2
    go_ret
    exact ⟨by rw [HE.out]; rfl, rfl⟩

def SaysT (s : ByteArray) (w : World) (e : Ending) (w' : World) : Prop := e = .returned (.string s) ∧ Below w.heap.size w w'
set_option maxRecDepth 100000 in
set_option maxHeartbeats 1000000 in
theorem specRecWord_no (p q : Int) (m : ByteArray) (w : World) (_hm : m.size ≤ 2000000) (h : ¬ RecOk ⟨p, q, m⟩) :
    Calls Try.prog 58 #[.agg #[.int .i64 p, .int .i64 q, .string m]] w (SaysT ⟨#[]⟩ w) := by
  by_cases h0 : 1 ≤ p ∧ p ≤ 12
  · have H0 := Lib.hid h0
    by_cases h1 : 1 ≤ q ∧ q ≤ 16777215
    · have H1 := Lib.hid h1
      have h2 : ¬ m.size = 4 := fun e => h ⟨h0, h1, e⟩
      have e8 : ((m.size : Int) == 4) = false := by simp; omega
      have e9 : ((m.size : Int) != 4) = true := by simp; omega
      clear h0 h1 h
      go_enter Try.func58, Try.ntmps58
      go_wp2_with (first | ((with_reducible refine (range_yes _ H0.out).mono ?_); rintro e w1 ⟨rfl, rfl⟩) | ((with_reducible refine (range_yes _ H1.out).mono ?_); rintro e w1 ⟨rfl, rfl⟩))
      go_ret
      exact ⟨rfl, below_bk w _⟩
    · have H1 := Lib.hid h1
      clear h0 h1 h
      go_enter Try.func58, Try.ntmps58
      go_wp2_with (first | ((with_reducible refine (range_yes _ H0.out).mono ?_); rintro e w1 ⟨rfl, rfl⟩) | ((with_reducible refine (range_no _ H1.out).mono ?_); rintro e w1 ⟨rfl, rfl⟩))
      go_ret
      exact ⟨rfl, below_bk w _⟩
  · have H0 := Lib.hid h0
    clear h0 h
    go_enter Try.func58, Try.ntmps58
    go_wp2_with ((with_reducible refine (range_no _ H0.out).mono ?_); rintro e w1 ⟨rfl, rfl⟩)
    go_ret
    exact ⟨rfl, below_bk w _⟩

set_option maxRecDepth 100000 in
set_option maxHeartbeats 1000000 in
theorem specRecWord_yes (p q : Int) (m : ByteArray) (w : World) (h : RecOk ⟨p, q, m⟩) :
    Calls Try.prog 58 #[.agg #[.int .i64 p, .int .i64 q, .string m]] w (SaysT (recWordB ⟨p, q, m⟩) w) := by
  have HE := Lib.hid (recWordB_yes h)
  obtain ⟨h0, h1, h2⟩ := h
  have H0 : Hid (1 ≤ p ∧ p ≤ 12) := Lib.hid h0
  have H1 : Hid (1 ≤ q ∧ q ≤ 16777215) := Lib.hid h1
  have hm4 : m.size = 4 := h2
  have e8 : ((m.size : Int) == 4) = true := by simp; omega
  have e9 : ((m.size : Int) != 4) = false := by simp; omega
  have T0 := Lib.hid (Bk.alloc w #[.int .i64 p, .int .i64 q, .string m] 83)
  have B0 := Lib.hid (below_bk w (.cells #[.int .i64 p, .int .i64 q, .string m] 83))
  have hA : (numTextB p 1).size = 1 := numText_size (k := 1) (by omega) (by have := H0.out.1; omega) (by have := H0.out.2; omega)
  have hB : (numTextB q 3).size = 3 := numText_size (k := 3) (by omega) (by have := H1.out.1; omega) (by have := H1.out.2; omega)
  obtain ⟨A, hAe⟩ : ∃ A, numTextB p 1 = A := ⟨_, rfl⟩
  obtain ⟨D, hDe⟩ : ∃ D, numTextB q 3 = D := ⟨_, rfl⟩
  have HA := Lib.hid hAe
  have HD := Lib.hid hDe
  rw [hAe] at hA
  rw [hDe] at hB
  have hA1 : A.size ≤ 1 := by omega
  have hB1 : D.size ≤ 3 := by omega
  have hAD : ¬ (9223372036854775807 < A.size + D.size) := by omega
  have hADm : ¬ (9223372036854775807 < A.size + D.size + 4) := by omega
  clear h0 h1 h2 hAe hDe hA hB
  go_enter Try.func58, Try.ntmps58
  go_wp2_with (first | ((with_reducible refine (range_yes _ H0.out).mono ?_); rintro e w1 ⟨rfl, rfl⟩) | ((with_reducible refine (range_yes _ H1.out).mono ?_); rintro e w1 ⟨rfl, rfl⟩))
  have T0d := Lib.hid T0.out.drew
  have B0d : Hid (Below w.heap.size w (w.alloc (.cells #[.int .i64 p, .int .i64 q, .string m] 83)).drew) := Lib.hid B0.out.drew
  go_region_held3 (fun w' => w'.cell? ⟨w.heap.size, 0, none⟩ = some (.int .i64 p) ∧ w'.cell? ⟨w.heap.size, 1, none⟩ = some (.int .i64 q) ∧ w'.cell? ⟨w.heap.size, 2, none⟩ = some (.string m))
    (first
      | exact ⟨T0d.out.cell rfl, T0d.out.cell rfl, T0d.out.cell rfl⟩
      | exact ⟨T1.out.cell rfl, T1.out.cell rfl, T1.out.cell rfl⟩
      | exact ⟨T2.out.cell rfl, T2.out.cell rfl, T2.out.cell rfl⟩
      | go_keep)
    (first
      | (go_at_call 52; (with_reducible refine (specNum_any p 1 _ (by have := H0.out.2; omega)).mono ?_); rw [HA.out]; rintro e w1 ⟨rfl, hb⟩; have T1 := Lib.hid (T0d.out.later hb); have B1 : Hid (Below w.heap.size w w1) := Lib.hid (B0d.out.trans (hb.mono B0d.out.size)); clear hb)
      | (go_at_call 52; (with_reducible refine (specNum_any q 3 _ (by have := H1.out.2; omega)).mono ?_); rw [HD.out]; rintro e w2 ⟨rfl, hb⟩; have T2 := Lib.hid (T1.out.later hb); have B2 : Hid (Below w.heap.size w w2) := Lib.hid (B1.out.trans (hb.mono B1.out.size)); clear hb))
  go_wp2
  go_ret
  exact ⟨by rw [HE.out, HA.out, HD.out]; rfl, B2.out⟩
theorem specRecWord_any (p q : Int) (m : ByteArray) (w : World) (hm : m.size ≤ 2000000) :
    Calls Try.prog 58 #[.agg #[.int .i64 p, .int .i64 q, .string m]] w (SaysT (recWordB ⟨p, q, m⟩) w) := by
  by_cases h : RecOk ⟨p, q, m⟩
  · exact specRecWord_yes p q m w h
  · rw [recWordB_no h]; exact specRecWord_no p q m w hm h
end Go.Proofs.Ytmkchilhnmkhkaa
namespace Go.Proofs.Ytmkchilhnmkhkaa
open Go.RowKit

theorem text_full (x : ByteArray) (h : 0 < x.size) : (x.toList == []) = false := by
  apply beq_eq_false_iff_ne.2
  intro e
  have h1 : x.toList.length = x.size := by rw [Go.ByteArray.toList_eq]; simp
  rw [e] at h1
  simp at h1
  omega
theorem text_full' (x : ByteArray) (h : 0 < x.size) : ([] == x.toList) = false := by
  have h1 := text_full x h
  apply beq_eq_false_iff_ne.2
  intro e
  rw [← e] at h1
  simp at h1
theorem text_ne {x y : ByteArray} (h : ¬ x = y) : ¬ (x.toList = y.toList) := by
  intro e
  apply h
  rw [Go.ByteArray.toList_eq, Go.ByteArray.toList_eq] at e
  cases x; cases y
  simp at e
  rw [e]
theorem text_neB {x y : ByteArray} (h : ¬ x = y) : (x.toList == y.toList) = false := beq_eq_false_iff_ne.2 (text_ne h)
end Go.Proofs.Ytmkchilhnmkhkaa
namespace Go.Proofs.Ytmkchilhnmkhkaa
open Go.RowKit Go.Proofs.Ytmkchilhnmkhkaa.Parts

/-- Some slice of the call's own that holds these texts, and a number. -/
def GivesTI (P : List ByteArray) (c : Int) (w : World) (e : Ending) (w' : World) : Prop :=
  ∃ v, e = .returned (.tuple #[v, .int .i64 c]) ∧ w'.ownsRow w.heap.size 9 1 v P.length (scells P) ∧ Below w.heap.size w w'
theorem below_drawsP {B : Nat} {a w : World} (h : Below B a w) (m : Nat) : Below B a (w.drewN m) := ⟨h.os, h.tape, h.output, h.size, h.block⟩
theorem own_drawsP {w : World} {base e : Nat} {v : Value} {n : Nat} {xs : List Value} (h : w.ownsRow base e 1 v n xs) (m : Nat) : (w.drewN m).ownsRow base e 1 v n xs := h
theorem slash_list : (⟨#[47]⟩ : ByteArray).toList = [47] := by rw [Go.ByteArray.toList_eq]
theorem gives_none {s : ByteArray} {c : Int} {w w' : World} {v : Value} (h : pathCode s = c) (hc : c ≠ 0 ∨ s.size = 1) (hown : w'.ownsRow w.heap.size 9 1 v 0 []) (hb : Below w.heap.size w w') : GivesTI (pathNames s) (pathCode s) w (.returned (.tuple #[v, .int .i64 c])) w' := by
  have hp : pathNames s = [] := by
    unfold pathNames
    rw [if_neg]
    rw [h]
    intro hh
    rcases hc with hc | hc
    · exact hc hh.1
    · exact hh.2 hc
  exact ⟨v, by rw [h], by rw [hp]; exact hown, hb⟩
theorem gives_some {s : ByteArray} {P : List (List UInt8)} {w w' : World} {v : Value} {n : Nat} (hp : cutP s = P) (h0 : pathCode s = 0) (h1 : s.size ≠ 1) (hn : n = P.length) (hown : w'.ownsRow w.heap.size 9 1 v n (scells (P.map bytesOf))) (hb : Below w.heap.size w w') : GivesTI (pathNames s) (pathCode s) w (.returned (.tuple #[v, .int .i64 0])) w' := by
  have hq : pathNames s = P.map bytesOf := by
    unfold pathNames
    rw [if_pos ⟨h0, h1⟩, hp]
  exact ⟨v, by rw [h0], by rw [hq, List.length_map, ← hn]; exact hown, hb⟩
end Go.Proofs.Ytmkchilhnmkhkaa
namespace Go.Proofs.Ytmkchilhnmkhkaa
open Go.RowKit Go.Proofs.Ytmkchilhnmkhkaa.Parts Go.Proofs.Ytmkchilhnmkhkaa.Hexa

def encT : Enc ByteArray := ⟨1, fun s => [.string s], fun _ => rfl⟩
theorem encT_cells (s : ByteArray) : encT.cells s = [.string s] := rfl
theorem cellsT_eq : ∀ L : List ByteArray, cellsE encT L = scells L
  | [] => rfl
  | x :: r => by rw [cellsE, cellsT_eq r]; rfl
abbrev SrcT (w : World) (a : Option Addr) (n : Nat) (L : List ByteArray) : Prop := SrcE encT w a n L
theorem srcT_at {w : World} {a : Option Addr} {n : Nat} {L : List ByteArray} (h : SrcT w a n L) (j : Nat) (hj : j < n) : ∃ g off, a = some ⟨g, off, none⟩ ∧ g < w.heap.size ∧ w.cell? ⟨g, off + j, none⟩ = some (.string (L.getD j default)) := by
  obtain ⟨g, off, e, hg, c⟩ := h.cell j hj
  refine ⟨g, off, e, hg, ?_⟩
  have h9 := c 0 _ rfl
  rw [show off + j * encT.k + 0 = off + j from by show off + j * 1 + 0 = off + j; omega] at h9
  exact h9
theorem srcT_of_own {w : World} {B e n cap : Nat} {a : Option Addr} {L : List ByteArray} (h : w.ownsRow B e 1 (.slice a n cap) n (scells L)) : SrcT w a n L := srcE_of_own (E := encT) (by rw [cellsT_eq]; exact h) (by decide)
theorem srcT_later {w w' : World} {a : Option Addr} {n : Nat} {L : List ByteArray} {B : Nat} (h : SrcT w a n L) (hb : Below B w w') (hB : w.heap.size ≤ B) (j : Nat) (hj : j < n) : ∃ g off, a = some ⟨g, off, none⟩ ∧ g < w.heap.size ∧ w'.cell? ⟨g, off + j, none⟩ = some (.string (L.getD j default)) := by
  obtain ⟨g, off, e, hg, _⟩ := srcT_at h j hj
  obtain ⟨g', off', e', _, c⟩ := srcT_at (h.below hb hB) j hj
  rw [e] at e'
  cases e'
  exact ⟨g, off, e, hg, c⟩
theorem texts_eq {P Q : List ByteArray} {n : Nat} (hP : P.length = n) (hQ : Q.length = n) (h : ∀ j, j < n → P.getD j default = Q.getD j default) : P = Q := by
  apply List.ext_getElem (by omega)
  intro i h1 h2
  have h9 := h i (by omega)
  simpa [List.getD, h1, h2] using h9
end Go.Proofs.Ytmkchilhnmkhkaa
namespace Go.Proofs.Ytmkchilhnmkhkaa
open Go.RowKit Go.Proofs.Ytmkchilhnmkhkaa.Parts Go.Proofs.Ytmkchilhnmkhkaa.Hexa

/-- No text longer than b. -/
def FitT2 (L : List ByteArray) (n b : Nat) : Prop := ∀ j, j < n → (L.getD j default).size ≤ b
theorem infoT : (Try.prog.info? 9).map (fun i => (i.zero, i.size, i.bytes)) = some (some (.string ByteArray.empty), 1, 16) := by kernel_rfl

set_option maxRecDepth 100000 in
set_option maxHeartbeats 1000000 in
theorem szTexts_any (a : Option Addr) (n c : Nat) (L : List ByteArray) (l0 : Int) (w : World) (hl0 : 0 ≤ l0) (hl1 : l0 ≤ 1048576) (hs : SrcT w a n L) (hn : n ≤ 9223372036854775807) (hm : FitT2 L n maxLen) :
    Calls Try.prog 9 #[.slice a n c, .int .i64 l0] w fun e w' => ∃ r, e = .returned (.int .i64 r) ∧ (r < 0 ∨ (0 ≤ r ∧ r ≤ l0 ∧ n ≤ 1048576 ∧ FitT2 L n 1048576)) ∧ w' = w := by
  have HS := Lib.hid hs
  have HM := Lib.hid hm
  clear hs hm
  by_cases hlt0 : l0 - (n : Int) < 0
  · go_enter Try.func9, Try.ntmps9
    go_wp2
    go_ret
    exact ⟨-1, rfl, .inl (by omega), rfl⟩
  · go_enter Try.func9, Try.ntmps9
    go_wp2
    go_loopw [1, 5] (fun lv iv wr => ∃ (k : Nat) (l : Int), k ≤ n ∧ iv = .int .i64 k ∧ lv = .int .i64 l ∧ 0 ≤ l ∧ l ≤ l0 ∧ Hid (∀ j, j < k → (L.getD j default).size ≤ 1048576) ∧ wr = w) (fun _ iv _ => n - (intOf iv).toNat)
    case atStart => exact ⟨0, _, Nat.zero_le _, rfl, rfl, by omega, by omega, Lib.hid (fun j hj => by omega), rfl⟩
    case round =>
      obtain ⟨k, l, hk, rfl, rfl, h0, hl, HA, rfl⟩ := hrel
      by_cases hlt : k < n
      · obtain ⟨g, off, rfl, hg, d0⟩ := srcT_at HS.out k hlt
        obtain ⟨x, hx⟩ : ∃ x, L.getD k default = x := ⟨_, rfl⟩
        rw [hx] at d0
        have hm0 := HM.out k hlt
        rw [hx] at hm0
        unfold maxLen at hm0
        have HX := Lib.hid hx
        clear hx
        by_cases hlt2 : l - (x.size : Int) < 0
        · go_wp2
          go_ret
          exact ⟨-1, rfl, .inl (by omega), rfl⟩
        · have HA2 : Hid (∀ j, j < k + 1 → (L.getD j default).size ≤ 1048576) := Lib.hid (fun j hj => by
            by_cases e : j = k
            · subst e; rw [HX.out]; omega
            · exact HA.out j (by omega))
          go_wp2
          go_roundw
          case rel => exact ⟨k + 1, l - (x.size : Int), by omega, by go_num, rfl, by omega, by omega, HA2, by first | rfl | trivial⟩
          case measure => (simp [intOf]; try omega)
      · obtain rfl : k = n := by omega
        go_wp2
        go_ret
        refine ⟨l, rfl, .inr ⟨h0, hl, by omega, fun j hj => HA.out j hj⟩, rfl⟩

/-- What the copy returns. -/
def CopyT (n : Nat) (L : List ByteArray) (w : World) (e : Ending) (w' : World) : Prop :=
  e = .returned (.slice (some ⟨w.heap.size, 0, none⟩) n n) ∧ w'.ownsRow w.heap.size 9 1 (.slice (some ⟨w.heap.size, 0, none⟩) n n) n (scells L) ∧ Below w.heap.size w w'

set_option maxRecDepth 100000 in
set_option maxHeartbeats 1000000 in
theorem toTexts_any (a : Option Addr) (n c : Nat) (L : List ByteArray) (w : World) (hs : SrcT w a n L) (hn : n ≤ 1048576) :
    Calls Try.prog 11 #[.slice a n c] w (CopyT n L w) := by
  obtain ⟨i0, hi, hz0, hz1, hz2⟩ := info_parts infoT
  have HS := Lib.hid hs
  have hL := hs.len
  clear hs
  go_enter Try.func11, Try.ntmps11
  go_wp2_with (at_make; refine wpList_make_full _ rfl _ _ 22 rfl w.heap.size 9 i0 _ 1 Try.underlying22 hi hz0 hz1 .i64 .i64 _ _ n rfl rfl rfl rfl (by rw [hz2]; omega) (by unfold maxLen; omega) (Nat.le_refl _) ?_; intro w0 hown0 hgrow0)
  have hg0 : Below w.heap.size w w0 := (Below.refl _ _).grown hgrow0 (Nat.le_refl _) (fun k h => by cases h)
  have HO0 := Lib.hid hown0
  clear hown0 hgrow0
  go_loopw [4] (fun iv wr => ∃ (k : Nat) (xs : List Value), k ≤ n ∧ iv = .int .i64 k ∧ Hid (wr.ownsRow w.heap.size 9 1 (.slice (some ⟨w.heap.size, 0, none⟩) n n) n xs) ∧ Hid (∀ j, j < k * 1 → xs[j]? = (cellsE encT L)[j]?) ∧ Below w.heap.size w wr)
    (fun iv _ => n - (intOf iv).toNat)
  case atStart => exact ⟨0, _, Nat.zero_le _, rfl, HO0, Lib.hid (fun j hj => by omega), hg0⟩
  case round =>
    clear HO0 hg0
    obtain ⟨k, xs, hk, rfl, HW, HX, hbel⟩ := hrel
    have hxl : Hid (xs.length = n * 1) := Lib.hid HW.out.1
    by_cases hlt : k < n
    · obtain ⟨g, off, rfl, hg, d0⟩ := srcT_later HS.out hbel (Nat.le_refl _) k hlt
      have X1 := Lib.hid (cellsE_step encT (by omega) (by rw [hL]; exact hxl.out) HX.out)
      obtain ⟨x, hx⟩ : ∃ x, L.getD k default = x := ⟨_, rfl⟩
      rw [hx] at d0 X1
      clear hx
      obtain ⟨v0, e0⟩ := ownE_cell HW.out (j := k) (by omega)
      have z0 := HW.out.frozenAt k
      have O1 := Lib.hid (own_sets (encT.cells x) (k * 1) HW.out)
      have hb2 : Hid (Below w.heap.size w (wr.setCells w.heap.size (k * 1) (encT.cells x))) := Lib.hid (below_sets (Nat.le_refl _) _ _ hbel)
      have E9 : Hid (wr.setCells w.heap.size (k * 1) (encT.cells x) = wr.setCell ⟨w.heap.size, k, none⟩ (.string x)) := Lib.hid (by rw [Nat.mul_one]; rfl)
      rw [E9.out] at O1 hb2
      go_wp2
      clear d0 e0 z0
      go_roundw
      case rel => exact ⟨k + 1, _, by omega, by go_num, O1, X1, hb2.out⟩
      case measure => (simp [intOf]; try omega)
    · obtain rfl : k = n := by omega
      have hfin : xs = cellsE encT L := cellsE_all encT (by rw [hL]; exact hxl.out) (by rw [hL]; exact HX.out)
      have ho := HW.out
      rw [hfin, cellsT_eq] at ho
      have HO := Lib.hid ho
      clear ho hfin
      go_wp2
      go_ret
      exact ⟨rfl, HO.out, hbel⟩
end Go.Proofs.Ytmkchilhnmkhkaa
namespace Go.Proofs.Ytmkchilhnmkhkaa
open Go.RowKit Go.Proofs.Ytmkchilhnmkhkaa.Parts Go.Proofs.Ytmkchilhnmkhkaa.Hexa

def slashB : ByteArray := ⟨#[47]⟩
/-- The first k names, a slash ahead of each. -/
def joinTo (L : List ByteArray) : Nat → ByteArray
  | 0 => ⟨#[]⟩
  | k + 1 => joinTo L k ++ slashB ++ L.getD k default
def joinB (L : List ByteArray) : ByteArray := if L.length = 0 then slashB else joinTo L L.length
theorem joinTo_next (L : List ByteArray) (k : Nat) : joinTo L (k + 1) = joinTo L k ++ slashB ++ L.getD k default := rfl
theorem joinTo_size (L : List ByteArray) (m : Nat) : ∀ k, (∀ j, j < k → (L.getD j default).size ≤ m) → (joinTo L k).size ≤ k * (m + 1)
  | 0, _ => by simp [joinTo, ByteArray.size]
  | k + 1, h => by
    have h1 := joinTo_size L m k (fun j hj => h j (by omega))
    have h2 := h k (by omega)
    rw [joinTo_next, ByteArray.size_append, ByteArray.size_append, show slashB.size = 1 from rfl, Nat.add_mul, Nat.one_mul]
    omega
def parentB (s : ByteArray) : ByteArray := if (pathNames s).length = 0 then ⟨#[]⟩ else joinB ((pathNames s).take ((pathNames s).length - 1))
def lastB (s : ByteArray) : ByteArray := if (pathNames s).length = 0 then ⟨#[]⟩ else (pathNames s).getD ((pathNames s).length - 1) default
def underB (s t : ByteArray) : Bool := decide (pathCode s = 0 ∧ pathCode t = 0 ∧ (pathNames t).length < (pathNames s).length ∧ (pathNames s).take (pathNames t).length = pathNames t)
theorem names_none {s : ByteArray} (h : pathCode s ≠ 0) : (pathNames s).length = 0 := by
  unfold pathNames
  rw [if_neg (fun hh => h hh.1)]
  rfl
theorem srcT_take {w : World} {a : Option Addr} {n k : Nat} {L : List ByteArray} (h : SrcT w a n L) (hk : k ≤ n) : SrcT w a k (L.take k) := by
  refine ⟨by rw [List.length_take, h.len]; omega, fun j hj => ?_⟩
  obtain ⟨g, off, e, hg, c⟩ := h.cell j (by omega)
  refine ⟨g, off, e, hg, ?_⟩
  have e9 : (L.take k).getD j default = L.getD j default := by
    simp only [List.getD, List.getElem?_take]
    rw [if_pos hj]
  rw [e9]
  exact c
/-- Every name of a path is short. -/
theorem names_size (s : ByteArray) (j : Nat) (hj : j < (pathNames s).length) : ((pathNames s).getD j default).size ≤ 60 := by
  unfold pathNames at hj ⊢
  split at hj
  · rename_i h
    rw [if_pos h]
    have h1 : ¬ 60 < s.size := fun hh => by have := h.1; rw [pathCode, if_pos (.inl hh)] at this; omega
    rw [List.length_map] at hj
    have h3 : (tailL s).length ≤ s.size := by unfold tailL; rw [List.length_drop, Lib.size_eq]; omega
    have h2 := cutGo_mem (tailL s) [] ((cutP s)[j]) (List.getElem_mem hj)
    have e : ((cutP s).map bytesOf).getD j default = bytesOf (cutP s)[j] := by simp [List.getD, hj]
    rw [e, bytesOf_size]
    simp at h2
    omega
  · simp at hj
end Go.Proofs.Ytmkchilhnmkhkaa
namespace Go.Proofs.Ytmkchilhnmkhkaa
open Go.RowKit Go.Proofs.Ytmkchilhnmkhkaa.Parts Go.Proofs.Ytmkchilhnmkhkaa.Hexa

set_option maxRecDepth 100000 in
set_option maxHeartbeats 1000000 in
theorem specJoin_any (a : Option Addr) (n c : Nat) (L : List ByteArray) (w : World) (hs : SrcT w a n L) (hn : n ≤ 2000000) (hm : ∀ j, j < n → (L.getD j default).size ≤ 2000000) :
    Calls Try.prog 10 #[.slice a n c] w (SaysT (joinB L) w) := by
  have HS := Lib.hid hs
  have HL := Lib.hid hs.len
  have HM := Lib.hid hm
  have HT : Hid (∀ k, k ≤ n → (joinTo L k).size ≤ 4000002000000) := Lib.hid (fun k hk => Nat.le_trans (joinTo_size L 2000000 k (fun j hj => hm j (by omega))) (Nat.le_trans (Nat.mul_le_mul_right _ (Nat.le_trans hk hn)) (by decide)))
  clear hs hm
  by_cases h0 : n = 0
  · subst h0
    have HJ : Hid (joinB L = ⟨#[47]⟩) := Lib.hid (by unfold joinB; rw [if_pos HL.out]; rfl)
    go_enter Try.func10, Try.ntmps10
    go_wp2
    go_ret
    exact ⟨by rw [HJ.out]; rfl, Below.refl _ _⟩
  · have HJ : Hid (joinB L = joinTo L n) := Lib.hid (by unfold joinB; rw [HL.out, if_neg h0])
    go_enter Try.func10, Try.ntmps10
    go_wp2
    go_loopw [3, 4] (fun sv kv wr => ∃ (k : Nat) (x : ByteArray), k ≤ n ∧ kv = .int .i64 k ∧ sv = .string x ∧ Hid (x = joinTo L k) ∧ x.size ≤ 4000002000000 ∧ w = wr) (fun _ kv _ => n - (intOf kv).toNat)
    case atStart => exact ⟨0, _, Nat.zero_le _, rfl, rfl, Lib.hid rfl, by decide, rfl⟩
    case round =>
      obtain ⟨k, x, hk, rfl, rfl, HX, hx, rfl⟩ := hrel
      by_cases hlt : k < n
      · obtain ⟨g, off, rfl, hg, d0⟩ := srcT_at HS.out k hlt
        obtain ⟨y, hy⟩ : ∃ y, L.getD k default = y := ⟨_, rfl⟩
        rw [hy] at d0
        have hy2 : y.size ≤ 2000000 := by rw [← hy]; exact HM.out k hlt
        have HN : Hid (x ++ (⟨#[47]⟩ : ByteArray) ++ y = joinTo L (k + 1)) := Lib.hid (by rw [joinTo_next, HX.out, hy]; rfl)
        have HZ : Hid ((x ++ (⟨#[47]⟩ : ByteArray) ++ y).size ≤ 4000002000000) := Lib.hid (by rw [HN.out]; exact HT.out (k + 1) (by omega))
        clear hy
        go_wp2
        go_roundw
        case rel => exact ⟨k + 1, _, by omega, by go_num, rfl, HN, HZ.out, by first | rfl | trivial⟩
        case measure => (simp [intOf]; try omega)
      · obtain rfl : k = n := by omega
        go_wp2
        go_ret
        exact ⟨by rw [HJ.out, ← HX.out]; rfl, Below.refl _ _⟩
end Go.Proofs.Ytmkchilhnmkhkaa
namespace Go.Proofs.Ytmkchilhnmkhkaa
open Go.RowKit Go.Proofs.Ytmkchilhnmkhkaa.Parts Go.Proofs.Ytmkchilhnmkhkaa.Hexa

theorem joinL_data (L : List ByteArray) : ∀ k, (joinTo L k).data.toList = (L.take k).flatMap (fun x => 47 :: x.data.toList) ∨ L.length < k
  | 0 => .inl rfl
  | k + 1 => by
    by_cases h : L.length < k + 1
    · exact .inr h
    · rcases joinL_data L k with h1 | h1
      · refine .inl ?_
        rw [joinTo_next, List.take_succ_eq_append_getElem (by omega), List.flatMap_append, ← h1]
        simp [slashB, List.getD, show k < L.length by omega]
      · omega
theorem lib_join_cons (x : List UInt8) (r : List (List UInt8)) (sep : List UInt8) : sep ++ Lib.join (x :: r) sep = (x :: r).flatMap (fun y => sep ++ y) := by
  rw [Lib.join_cons, List.flatMap_cons, List.append_assoc]
  congr 1
theorem joinB_lib (L : List ByteArray) : slashB ++ ⟨(Lib.join (L.map (·.data.toList)) [47]).toArray⟩ = joinB L := by
  cases L with
  | nil => rfl
  | cons x r =>
    have h := joinL_data (x :: r) (x :: r).length
    rcases h with h | h
    · have h2 := lib_join_cons x.data.toList (r.map (·.data.toList)) [47]
      rw [List.take_length] at h
      unfold joinB
      rw [if_neg (by simp)]
      apply ByteArray.ext
      apply Array.toList_inj.1
      rw [h]
      have h3 : (slashB ++ ⟨(Lib.join ((x :: r).map (·.data.toList)) [47]).toArray⟩ : ByteArray).data.toList = [47] ++ Lib.join ((x :: r).map (·.data.toList)) [47] := by simp [slashB]
      rw [h3, List.map_cons, h2, List.flatMap_cons, List.flatMap_cons, List.flatMap_map]
      rfl
    · omega
theorem lib_tail_len (m : Nat) : ∀ (r : List (List UInt8)), (∀ x ∈ r, x.length ≤ m) → (Lib.joinTail [47] r).length ≤ r.length * (m + 1)
  | [], _ => by simp [Lib.joinTail]
  | x :: r, h => by
    have h1 := lib_tail_len m r (fun z hz => h z (by simp [hz]))
    have h2 := h x (by simp)
    have h3 : (Lib.joinTail [47] (x :: r)).length = 1 + x.length + (Lib.joinTail [47] r).length := by simp [Lib.joinTail]; omega
    rw [h3, List.length_cons, Nat.add_mul r.length 1]
    omega
theorem lib_join_len (m : Nat) (L : List (List UInt8)) (h : ∀ x ∈ L, x.length ≤ m) : (Lib.join L [47]).length ≤ L.length * (m + 1) := by
  cases L with
  | nil => simp [Lib.join_nil]
  | cons x r =>
    have h1 := lib_tail_len m r (fun z hz => h z (by simp [hz]))
    have h2 := h x (by simp)
    rw [Lib.join_cons, List.length_append, List.length_cons, Nat.add_mul r.length 1]
    omega

set_option maxRecDepth 100000 in
set_option maxHeartbeats 1000000 in
theorem implJoin_any (a : Option Addr) (n c : Nat) (L : List ByteArray) (w : World) (hs : SrcT w a n L) (hn : n ≤ 2000000) (hc : n ≤ c) (hm : ∀ j, j < n → (L.getD j default).size ≤ 2000000) :
    Calls Try.prog 12 #[.slice a n c] w (SaysT (joinB L) w) := by
  have hl := hs.len
  have HJ := Lib.hid (joinB_lib L)
  have HZ : Hid ((Lib.join (L.map (·.data.toList)) [47]).length ≤ 4000002000000) := Lib.hid (by
    have h1 := lib_join_len 2000000 (L.map (·.data.toList)) (fun x hx => by
      obtain ⟨y, hy, rfl⟩ := List.mem_map.1 hx
      obtain ⟨j, hj, rfl⟩ := List.mem_iff_getElem.1 hy
      have h9 := hm j (by omega)
      rw [← Lib.size_eq]
      simpa [List.getD, hj] using h9)
    rw [List.length_map, hl] at h1
    exact Nat.le_trans h1 (Nat.le_trans (Nat.mul_le_mul_right _ hn) (by decide)))
  obtain ⟨t, ht⟩ : ∃ t : ByteArray, t = ⟨(Lib.join (L.map (·.data.toList)) [47]).toArray⟩ := ⟨_, rfl⟩
  have HTs : t.size ≤ 4000002000000 := by rw [ht]; have := HZ.out; simpa [ByteArray.size] using this
  have HJ2 : Hid ((⟨#[47]⟩ : ByteArray) ++ t = joinB L) := Lib.hid (by rw [ht]; exact HJ.out)
  have HJc : Hid (Calls Try.prog 35 #[.slice a n c, .string ⟨#[47]⟩] w (SaysT t w)) := Lib.hid (by
    by_cases h0 : n = 0
    · subst h0
      have hL0 : L = [] := List.length_eq_zero_iff.1 hl
      subst hL0
      refine (Any.strings_Join_none Try.lays156 Try.Builder_Extra_156 a c ⟨#[47]⟩ w).mono ?_
      rintro e w' ⟨he, hw⟩
      subst hw
      exact ⟨by first | (rw [he, ht]; done) | (rw [he, ht]; rfl), Below.refl _ _⟩
    · obtain ⟨g, off, e, hg, _⟩ := srcT_at hs 0 (by omega)
      subst e
      subst hl
      refine (Try.strings_Join g off c L ⟨#[47]⟩ w (fun j x hx => ?_) hg (by omega) hc (by exact Nat.le_trans HZ.out (by decide))).mono ?_
      · have hj : j < L.length := by
          rcases Nat.lt_or_ge j L.length with h | h
          · exact h
          · rw [List.getElem?_eq_none h] at hx; cases hx
        obtain ⟨g', off', e', _, c'⟩ := srcT_at hs j hj
        cases e'
        have h8 : L.getD j default = x := by simp [List.getD, hx]
        rw [← h8]
        exact c'
      · rintro e w' ⟨he, hb⟩
        exact ⟨by first | (rw [he, ht]; done) | (rw [he, ht]; rfl), hb⟩)
  clear HJ HZ ht hm hs
  go_enter Try.func12, Try.ntmps12
  go_wp2_with fail
  refine HJc.out.mono ?_
  rintro e w1 ⟨rfl, hb⟩
  have HB := Lib.hid hb
  clear hb
  go_wp2
  go_ret
  exact ⟨by rw [HJ2.out]; rfl, HB.out⟩
end Go.Proofs.Ytmkchilhnmkhkaa
namespace Go.Proofs.Ytmkchilhnmkhkaa
open Go.RowKit Go.Proofs.Ytmkchilhnmkhkaa.Parts Go.Proofs.Ytmkchilhnmkhkaa.Hexa

theorem cell_text {w : World} {a : Addr} {P : List ByteArray} {k : Nat} (hk : k < P.length) (h : w.cell? a = (scells P)[k]?) : w.cell? a = some (.string P[k]) := by
  rw [h]; simp [scells, hk]

set_option maxRecDepth 100000 in
set_option maxHeartbeats 1000000 in
theorem eqStrings_any (a1 a2 : Option Addr) (n c1 c2 : Nat) (P : List ByteArray) (w : World) (hP : P.length = n) (hn : n ≤ 100000000) (r1 : Reads w a1 (scells P)) (r2 : Reads w a2 (scells P)) :
    Calls Try.prog 13 #[.slice a1 n c1, .slice a2 n c2] w fun e w' => e = .returned (.bool true) ∧ ∃ m, w' = w.drewN m := by
  have HP := Lib.hid hP
  clear hP
  have R1 := Lib.hid r1
  have R2 := Lib.hid r2
  clear r1 r2
  go_enter Try.func13, Try.ntmps13
  go_wp2
  go_loopw [5] (fun iv wr => ∃ k m : Nat, k ≤ n ∧ iv = .int .i64 k ∧ wr = w.drewN m) (fun iv _ => n - (intOf iv).toNat)
  case atStart => exact ⟨0, 0, Nat.zero_le _, rfl, rfl⟩
  case round =>
    obtain ⟨k, m, hk, rfl, rfl⟩ := hrel
    by_cases hlt : k < n
    · obtain ⟨g1, rfl, e1⟩ := R1.out k (by have := HP.out; simp [scells]; omega)
      obtain ⟨g2, rfl, e2⟩ := R2.out k (by have := HP.out; simp [scells]; omega)
      have d1 := cell_text (by have := HP.out; omega) e1
      have d2 := cell_text (by have := HP.out; omega) e2
      obtain ⟨x, hx⟩ : ∃ x, P[k]'(by have := HP.out; omega) = x := ⟨_, rfl⟩
      rw [hx] at d1 d2
      clear e1 e2 hx
      go_wp2
      go_quiet (fail)
      go_wp2
      go_roundw
      case rel => exact ⟨k + 1, _, by omega, by go_num, rfl⟩
      case measure => (simp [intOf]; try omega)
    · obtain rfl : k = n := by omega
      go_wp2
      go_ret
      exact ⟨rfl, _, rfl⟩

end Go.Proofs.Ytmkchilhnmkhkaa
namespace Go.Proofs.Ytmkchilhnmkhkaa
open Go.RowKit Go.Proofs.Ytmkchilhnmkhkaa.Parts Go.Proofs.Ytmkchilhnmkhkaa.Hexa Go.Proofs.Ytmkchilhnmkhkaa.Byt

set_option maxRecDepth 100000 in
set_option maxHeartbeats 4000000 in
theorem joinPath_law (a0 : Option Addr) (n0 c0 : Nat) (z0 : List ByteArray) (w : World) (hs0 : SrcT w a0 n0 z0) (hm0 : FitT2 z0 n0 maxLen) (hl0 : n0 ≤ 9223372036854775807) :
    Calls Try.prog 3 #[.slice a0 n0 c0] w fun e w' => e = .returned (.bool true) ∧ Below w.heap.size w w' := by
  have HS0 := Lib.hid hs0
  have HZ0 := Lib.hid hs0.len
  have HM0 := Lib.hid hm0
  clear hm0 hs0
  obtain ⟨r0, hr0⟩ : ∃ r, joinB z0 = r := ⟨_, rfl⟩
  have HR := Lib.hid hr0
  clear hr0
  go_enter Try.func3, Try.ntmps3
  go_wp2_with fail
  refine (szTexts_any a0 n0 c0 z0 _ _ (by decide) (by decide) HS0.out hl0 HM0.out).mono ?_
  rintro e w1x ⟨r, rfl, hr | ⟨h0, _, hn0, hf2⟩, hww⟩
  · rw [hww]
    go_wp2
    go_ret
    exact ⟨rfl, Below.refl _ _⟩
  have HF0 : Hid (∀ j, j < n0 → (z0.getD j default).size ≤ 2000000) := Lib.hid (fun j hj => Nat.le_trans (hf2 j hj) (by decide))
  have hr : ¬ (r < 0) := by omega
  clear h0 hf2 hl0
  rw [hww]
  clear hww
  go_wp2_with fail
  refine (toTexts_any a0 n0 c0 z0 _ HS0.out (by omega)).mono ?_
  rintro e w1 ⟨rfl, ho, hb⟩
  have BW_1 : Hid (Below w.heap.size w w1) := Lib.hid hb
  have Y0 := Lib.hid ho
  clear hb ho
  go_wp2_with fail
  refine (specJoin_any _ _ _ z0 _ (srcT_of_own Y0.out) (by omega) HF0.out).mono ?_
  rw [HR.out]
  rintro e w2 ⟨rfl, hb⟩
  have BW_2 : Hid (Below w.heap.size w w2) := Lib.hid (BW_1.out.trans (hb.mono BW_1.out.size))
  clear hb Y0 BW_1
  go_wp2_with fail
  refine (toTexts_any a0 n0 c0 z0 _ (HS0.out.later BW_2.out) (by omega)).mono ?_
  rintro e w3 ⟨rfl, ho, hb⟩
  have BW_3 : Hid (Below w.heap.size w w3) := Lib.hid (BW_2.out.trans (hb.mono BW_2.out.size))
  have X0 := Lib.hid ho
  clear hb ho BW_2
  go_wp2_with fail
  refine (implJoin_any _ _ _ z0 _ (srcT_of_own X0.out) (by omega) (Nat.le_refl _) HF0.out).mono ?_
  rw [HR.out]
  rintro e w4 ⟨rfl, hb⟩
  have BW_4 : Hid (Below w.heap.size w w4) := Lib.hid (BW_3.out.trans (hb.mono BW_3.out.size))
  have X1 := Lib.hid (own_below X0.out hb)
  clear hb X0 BW_3
  go_wp2_with fail
  refine (toTexts_any a0 n0 c0 z0 _ (HS0.out.later BW_4.out) (by omega)).mono ?_
  rintro e w5 ⟨rfl, ho, hb⟩
  have BW_5 : Hid (Below w.heap.size w w5) := Lib.hid (BW_4.out.trans (hb.mono BW_4.out.size))
  have X2 := Lib.hid (own_below X1.out hb)
  have Z0 := Lib.hid ho
  clear hb ho X1 BW_4
  go_wp2_with fail
  refine (eqStrings_any _ _ _ _ _ z0 _ HZ0.out (by omega) (own_reads X2.out) (own_reads Z0.out)).mono ?_
  rintro e w6 ⟨rfl, m, rfl⟩
  have BW_6 : Hid (Below w.heap.size w (w5.drewN m)) := Lib.hid (below_drawsP BW_5.out m)
  go_wp2
  go_ret
  exact ⟨rfl, BW_6.out⟩
end Go.Proofs.Ytmkchilhnmkhkaa
namespace Go.Proofs.Ytmkchilhnmkhkaa
open Go.RowKit Go.Proofs.Ytmkchilhnmkhkaa.Parts Go.Proofs.Ytmkchilhnmkhkaa.Hexa
theorem ret_str {a b : ByteArray} (h : a = b) : Ending.returned (.string a) = .returned (.string b) := by rw [h]

set_option maxRecDepth 100000 in
set_option maxHeartbeats 1000000 in
theorem markText_any (k : Nat) (w : World) (h0 : 0 < k) (hk : k ≤ 100000000) :
    Calls Try.prog 73 #[.int .i64 k] w fun e w' => e = .returned (.string (markT k)) ∧ Below w.heap.size w w' := by
  go_enter Try.func73, Try.ntmps73
  go_wp2
  go_loopw [0, 3] (fun kv sv wr => ∃ (j : Nat) (t : ByteArray), j ≤ k ∧ t.size ≤ k ∧ Hid (digs j ++ t.data.toList = digs k) ∧ kv = .int .i64 j ∧ sv = .string t ∧ Below w.heap.size w wr) (fun kv _ _ => (intOf kv).toNat)
  case atStart => exact ⟨k, ⟨#[]⟩, Nat.le_refl _, Nat.zero_le _, Lib.hid (by simp), rfl, rfl, Below.refl _ _⟩
  case round =>
    obtain ⟨j, t, hj, ht, HD, rfl, rfl, hbel⟩ := hrel
    by_cases hlt : 0 < j
    · obtain ⟨cs, hcs, hcd, hce⟩ := Parts.one_byte (UInt8.ofNat (48 + j % 10))
      have HC := Lib.hid hcd
      have HT := Lib.hid (digs_round hlt HD.out hcd)
      have HS := digs_size HT.out
      have HS' : cs.size + t.size ≤ 100000001 := by omega
      have en : ((UInt8.ofNat (48 + j % 10)).toNat : Int) = 48 + (j : Int) % 10 := by rw [UInt8.toNat_ofNat']; omega
      have hown := World.ownsRow_lit (e := 5) (size := 1) (base := w.heap.size) wr #[.int .u8 (48 + (j : Int) % 10)] 1 hbel.size (by decide) rfl
      have hconv := own_string (P := Try.prog) (l := [UInt8.ofNat (48 + j % 10)]) 103 9 Try.underlying103 Try.underlying5 Try.underlying9 (by rw [show bcells [UInt8.ofNat (48 + j % 10)] = [Value.int .u8 (48 + (j : Int) % 10)] by simp only [bcells, List.map, en]]; exact hown)
      rw [← hce] at hconv
      clear hown hcd hce en
      go_wp2
      go_roundw
      case rel => exact ⟨j / 10, cs ++ t, by omega, HS, HT, by go_num, rfl, hbel.alloc hbel.size _⟩
      case measure => (simp [intOf]; omega)
    · obtain rfl : j = 0 := by omega
      go_wp2
      go_ret
      exact ⟨ret_str (mark_end HD.out), hbel⟩

end Go.Proofs.Ytmkchilhnmkhkaa
namespace Go.Proofs.Ytmkchilhnmkhkaa
open Go.RowKit Go.Proofs.Ytmkchilhnmkhkaa.Parts

inductive Cel where
  | val (v : Value)
  | sl (e : TypeId) (k n : Nat) (cs : List Cel)
instance : Inhabited Cel := ⟨.val undef⟩

/-! What reads as a tree. -/
mutual
def Cel.Rd (w : World) : Cel → Value → Prop
  | .val x, v => v = x
  | .sl _ k n cs, v => cs.length = n * k ∧ ∃ a c vs, v = .slice a n c ∧ RdL w cs vs ∧ (n = 0 ∨ ∃ g off, a = some ⟨g, off, none⟩ ∧ g < w.heap.size ∧ ∀ (j : Nat) (u : Value), vs[j]? = some u → w.cell? ⟨g, off + j, none⟩ = some u)
def RdL (w : World) : List Cel → List Value → Prop
  | [], vs => vs = []
  | c :: cs, vs => ∃ v r, vs = v :: r ∧ Cel.Rd w c v ∧ RdL w cs r
end

/-! What the call owns: F are its blocks. -/
mutual
def Cel.Own (w : World) : Cel → List Nat → Value → Prop
  | .val x, F, v => F = [] ∧ v = x
  | .sl e k n cs, F, v => cs.length = n * k ∧ ∃ a c, v = .slice a n c ∧ n ≤ c ∧ c ≤ maxLen ∧ ((n = 0 ∧ F = []) ∨ ∃ g cur G, a = some ⟨g, 0, none⟩ ∧ F = g :: G ∧ w.heap[g]? = some (.cells cur e (0, 0)) ∧ n * k ≤ cur.size ∧ OwnL w cs G (cur.toList.take (n * k)))
def OwnL (w : World) : List Cel → List Nat → List Value → Prop
  | [], F, vs => F = [] ∧ vs = []
  | c :: cs, F, vs => ∃ v r G H, vs = v :: r ∧ F = G ++ H ∧ Cel.Own w c G v ∧ OwnL w cs H r
end

section
variable {w w' : World}
mutual
theorem Cel.Rd.later (hb : Below w.heap.size w w') : ∀ (c : Cel) (v : Value), c.Rd w v → c.Rd w' v
  | .val _, _, h => h
  | .sl _ _ _ cs, _, ⟨hl, a, c, vs, hv, hr, h⟩ => ⟨hl, a, c, vs, hv, RdL.later hb cs vs hr, h.imp id fun ⟨g, off, ha, hg, hc⟩ => ⟨g, off, ha, Nat.lt_of_lt_of_le hg hb.size, fun j u hu => by rw [hb.cell (by exact hg)]; exact hc j u hu⟩⟩
theorem RdL.later (hb : Below w.heap.size w w') : ∀ (cs : List Cel) (vs : List Value), RdL w cs vs → RdL w' cs vs
  | [], _, h => h
  | c :: cs, _, ⟨v, r, hv, h1, h2⟩ => ⟨v, r, hv, Cel.Rd.later hb c v h1, RdL.later hb cs r h2⟩
end

mutual
theorem Cel.Own.kept : ∀ (c : Cel) (F : List Nat) (v : Value), (∀ g ∈ F, w'.heap[g]? = w.heap[g]?) → c.Own w F v → c.Own w' F v
  | .val _, _, _, _, h => h
  | .sl _ _ _ cs, F, _, hk, ⟨hl, a, c, hv, h1, h2, h⟩ => ⟨hl, a, c, hv, h1, h2, h.imp id fun ⟨g, cur, G, ha, hF, hg, hn, ho⟩ => ⟨g, cur, G, ha, hF, by rw [hk g (by rw [hF]; exact List.mem_cons_self)]; exact hg, hn, OwnL.kept cs G _ (fun h hh => hk h (by rw [hF]; exact List.mem_cons_of_mem _ hh)) ho⟩⟩
theorem OwnL.kept : ∀ (cs : List Cel) (F : List Nat) (vs : List Value), (∀ g ∈ F, w'.heap[g]? = w.heap[g]?) → OwnL w cs F vs → OwnL w' cs F vs
  | [], _, _, _, h => h
  | c :: cs, F, _, hk, ⟨v, r, G, H, hv, hF, h1, h2⟩ => ⟨v, r, G, H, hv, hF, Cel.Own.kept c G v (fun g hg => hk g (by rw [hF]; exact List.mem_append_left _ hg)) h1, OwnL.kept cs H r (fun g hg => hk g (by rw [hF]; exact List.mem_append_right _ hg)) h2⟩
end

mutual
theorem Cel.Own.lt : ∀ (c : Cel) (F : List Nat) (v : Value), c.Own w F v → ∀ g ∈ F, g < w.heap.size
  | .val _, _, _, ⟨hF, _⟩, g, hg => by rw [hF] at hg; cases hg
  | .sl _ _ _ cs, F, _, ⟨_, _, _, _, _, _, h⟩, g, hg => by
    rcases h with ⟨_, hF⟩ | ⟨b, cur, G, _, hF, hb, _, ho⟩
    · rw [hF] at hg; cases hg
    · rw [hF] at hg
      rcases List.mem_cons.1 hg with rfl | hg
      · exact (Array.getElem?_eq_some_iff.1 hb).1
      · exact OwnL.lt cs G _ ho g hg
theorem OwnL.lt : ∀ (cs : List Cel) (F : List Nat) (vs : List Value), OwnL w cs F vs → ∀ g ∈ F, g < w.heap.size
  | [], _, _, ⟨hF, _⟩, g, hg => by rw [hF] at hg; cases hg
  | c :: cs, F, _, ⟨v, r, G, H, _, hF, h1, h2⟩, g, hg => by
    rw [hF] at hg
    rcases List.mem_append.1 hg with hg | hg
    · exact Cel.Own.lt c G v h1 g hg
    · exact OwnL.lt cs H r h2 g hg
end

theorem RdL.length : ∀ (cs : List Cel) (vs : List Value), RdL w cs vs → vs.length = cs.length
  | [], _, h => by rw [show _ = [] from h]; rfl
  | _ :: cs, _, ⟨v, r, hv, _, h2⟩ => by rw [hv, List.length_cons, RdL.length cs r h2, List.length_cons]
theorem OwnL.length : ∀ (cs : List Cel) (F : List Nat) (vs : List Value), OwnL w cs F vs → vs.length = cs.length
  | [], _, _, ⟨_, h⟩ => by rw [h]; rfl
  | _ :: cs, _, _, ⟨v, r, _, H, hv, _, _, h2⟩ => by rw [hv, List.length_cons, OwnL.length cs H r h2, List.length_cons]

mutual
theorem Cel.Own.rd : ∀ (c : Cel) (F : List Nat) (v : Value), c.Own w F v → c.Rd w v
  | .val _, _, _, ⟨_, h⟩ => h
  | .sl _ k n cs, _, _, ⟨hl, a, c, hv, _, _, h⟩ => by
    rcases h with ⟨h0, _⟩ | ⟨g, cur, G, ha, hF, hg, hn, ho⟩
    · obtain rfl : cs = [] := List.length_eq_zero_iff.1 (by rw [hl, h0, Nat.zero_mul])
      exact ⟨hl, a, c, [], hv, rfl, .inl h0⟩
    · refine ⟨hl, a, c, _, hv, OwnL.rd cs G _ ho, .inr ⟨g, 0, ha, (Array.getElem?_eq_some_iff.1 hg).1, fun j u hu => ?_⟩⟩
      rw [List.getElem?_take] at hu
      split at hu
      · rw [Nat.zero_add]
        simp only [World.cell?, hg]
        simpa using hu
      · cases hu
theorem OwnL.rd : ∀ (cs : List Cel) (F : List Nat) (vs : List Value), OwnL w cs F vs → RdL w cs vs
  | [], _, _, ⟨_, h⟩ => h
  | c :: cs, _, _, ⟨v, r, G, H, hv, _, h1, h2⟩ => ⟨v, r, hv, Cel.Own.rd c G v h1, OwnL.rd cs H r h2⟩
end

theorem RdL.get : ∀ (cs : List Cel) (vs : List Value) (j : Nat), RdL w cs vs → j < cs.length → ∃ u, vs[j]? = some u ∧ (cs.getD j default).Rd w u
  | [], _, _, _, hj => absurd hj (Nat.not_lt_zero _)
  | c :: cs, _, 0, ⟨v, r, hv, h1, _⟩, _ => ⟨v, by rw [hv]; rfl, h1⟩
  | c :: cs, _, j + 1, ⟨v, r, hv, _, h2⟩, hj => by
    obtain ⟨u, hu, h⟩ := RdL.get cs r j h2 (by simpa using hj)
    exact ⟨u, by rw [hv]; exact hu, h⟩
/-- A place of a slice that reads as a tree. -/
theorem Cel.Rd.at {e k n c : Nat} {a : Option Addr} {cs : List Cel} (h : (Cel.sl e k n cs).Rd w (.slice a n c)) (j : Nat) (hj : j < n * k) :
    ∃ g off u, a = some ⟨g, off, none⟩ ∧ g < w.heap.size ∧ w.cell? ⟨g, off + j, none⟩ = some u ∧ (cs.getD j default).Rd w u := by
  obtain ⟨hl, a', c', vs, hv, hr, h⟩ := h
  cases hv
  rcases h with h0 | ⟨g, off, ha, hg, hc⟩
  · rw [h0, Nat.zero_mul] at hj; omega
  · obtain ⟨u, hu, h⟩ := RdL.get cs vs j hr (by omega)
    exact ⟨g, off, u, ha, hg, hc j u hu, h⟩

theorem OwnL.sub : ∀ (cs : List Cel) (F : List Nat) (vs : List Value) (j : Nat), OwnL w cs F vs → j < cs.length →
    ∃ P G Q u, F = P ++ (G ++ Q) ∧ vs[j]? = some u ∧ (cs.getD j default).Own w G u ∧
      ∀ (w' : World) (c' : Cel) (u' : Value), c'.Own w' G u' → (∀ h ∈ P, w'.heap[h]? = w.heap[h]?) → (∀ h ∈ Q, w'.heap[h]? = w.heap[h]?) → OwnL w' (cs.set j c') F (vs.set j u')
  | [], _, _, _, _, hj => absurd hj (Nat.not_lt_zero _)
  | c :: cs, F, _, 0, ⟨v, r, G, H, hv, hF, h1, h2⟩, _ => ⟨[], G, H, v, by rw [hF]; rfl, by rw [hv]; rfl, h1, fun w' c' u' ho _ hQ => by
      rw [hv]; exact ⟨u', r, G, H, rfl, hF, ho, OwnL.kept cs H r hQ h2⟩⟩
  | c :: cs, F, _, j + 1, ⟨v, r, G, H, hv, hF, h1, h2⟩, hj => by
    obtain ⟨P, G', Q, u, hH, hu, ho, hk⟩ := OwnL.sub cs H r j h2 (by simpa using hj)
    refine ⟨G ++ P, G', Q, u, by rw [hF, hH, List.append_assoc], by rw [hv]; exact hu, ho, fun w' c' u' ho' hP hQ => ?_⟩
    rw [hv]
    exact ⟨v, r.set j u', G, H, rfl, hF, Cel.Own.kept c G v (fun h hh => hP h (List.mem_append_left _ hh)) h1, hk w' c' u' ho' (fun h hh => hP h (List.mem_append_right _ hh)) hQ⟩

/-- Blocks outside F lie as they lay. -/
structure OutF (F : List Nat) (w w' : World) : Prop where
  os : w'.os = w.os
  tape : w'.tape = w.tape
  output : w'.output = w.output
  size : w.heap.size ≤ w'.heap.size
  block : ∀ g, g ∉ F → g < w.heap.size → w'.heap[g]? = w.heap[g]?
theorem OutF.refl (F : List Nat) (w : World) : OutF F w w := ⟨rfl, rfl, rfl, Nat.le_refl _, fun _ _ _ => rfl⟩
theorem OutF.trans {F : List Nat} {a b c : World} (h : OutF F a b) (h' : OutF F b c) : OutF F a c :=
  ⟨h'.os.trans h.os, h'.tape.trans h.tape, h'.output.trans h.output, Nat.le_trans h.size h'.size, fun g hg hl => (h'.block g hg (Nat.lt_of_lt_of_le hl h.size)).trans (h.block g hg hl)⟩
theorem OutF.mono {F G : List Nat} {a b : World} (h : OutF F a b) (hs : ∀ g ∈ F, g ∈ G) : OutF G a b := ⟨h.os, h.tape, h.output, h.size, fun g hg hl => h.block g (fun hh => hg (hs g hh)) hl⟩
theorem OutF.of_below {F : List Nat} {a b : World} (h : Below a.heap.size a b) : OutF F a b := ⟨h.os, h.tape, h.output, h.size, fun g _ hl => h.block g hl⟩
theorem OutF.below {F : List Nat} {B : Nat} {a b : World} (h : OutF F a b) (hF : ∀ g ∈ F, B ≤ g) (hB : B ≤ a.heap.size) : Below B a b := ⟨h.os, h.tape, h.output, h.size, fun g hg => h.block g (fun hh => by have := hF g hh; omega) (by omega)⟩

/-- The place j of a slice that the call owns: what lies there, and what becomes of the whole when it changes. -/
theorem Cel.Own.sub {e k n c : Nat} {a : Option Addr} {cs : List Cel} {F : List Nat} (h : (Cel.sl e k n cs).Own w F (.slice a n c)) (hF : F.Nodup) (j : Nat) (hj : j < n * k) :
    ∃ g G u, a = some ⟨g, 0, none⟩ ∧ g ∈ F ∧ (∀ x ∈ G, x ∈ F) ∧ g ∉ G ∧ G.Nodup ∧ w.cell? ⟨g, j, none⟩ = some u ∧ w.frozen? ⟨g, j, none⟩ = false ∧ (cs.getD j default).Own w G u ∧
      (∀ (w' : World) (c' : Cel), c'.Own w' G u → OutF G w w' → (Cel.sl e k n (cs.set j c')).Own w' F (.slice a n c)) ∧
      (∀ y, cs.getD j default = .val y → ∀ x, (Cel.sl e k n (cs.set j (.val x))).Own (w.setCell ⟨g, j, none⟩ x) F (.slice a n c) ∧ OutF F w (w.setCell ⟨g, j, none⟩ x)) := by
  have hlt := Cel.Own.lt _ _ _ h
  obtain ⟨hl, a', c', hv, hnc, hcm, h⟩ := h
  cases hv
  rcases h with ⟨h0, _⟩ | ⟨g, cur, G0, ha, hFG, hg, hn, ho⟩
  · rw [h0, Nat.zero_mul] at hj; omega
  obtain ⟨P, G, Q, u, hG0, hu, hou, hk⟩ := OwnL.sub cs G0 _ j ho (by omega)
  have hF0 := hF
  rw [hFG, List.nodup_cons, hG0] at hF
  obtain ⟨hgn, hnd⟩ := hF
  have hju : cur.toList[j]? = some u := by
    rw [List.getElem?_take, if_pos hj] at hu
    exact hu
  have hcell : w.cell? ⟨g, j, none⟩ = some u := by simp only [World.cell?, hg]; simpa using hju
  have hPG : ∀ x ∈ P, x ∉ G := fun x hx hx' => (List.nodup_append.1 hnd).2.2 x hx x (List.mem_append_left _ hx') rfl
  have hQG : ∀ x ∈ Q, x ∉ G := fun x hx hx' => (List.nodup_append.1 (List.nodup_append.1 hnd).2.1).2.2 x hx' x hx rfl
  have hGn : g ∉ G := fun hx => hgn (List.mem_append_right _ (List.mem_append_left _ hx))
  have hin : ∀ x ∈ P ++ (G ++ Q), x ∈ F := fun x hx => by rw [hFG, hG0]; exact List.mem_cons_of_mem _ hx
  refine ⟨g, G, u, ha, by rw [hFG]; exact List.mem_cons_self, fun x hx => hin x (List.mem_append_right _ (List.mem_append_left _ hx)), hGn, (List.nodup_append.1 (List.nodup_append.1 hnd).2.1).1, hcell, by simp [World.frozen?, hg], hou, ?_, ?_⟩
  · intro w1 c1 ho1 hout
    refine ⟨by rw [List.length_set]; exact hl, a, c, rfl, hnc, hcm, .inr ⟨g, cur, G0, ha, hFG, ?_, hn, ?_⟩⟩
    · rw [hout.block g hGn (hlt g (by rw [hFG]; exact List.mem_cons_self))]; exact hg
    · have h9 := hk w1 c1 u ho1 (fun x hx => hout.block x (hPG x hx) (hlt x (hin x (List.mem_append_left _ hx)))) (fun x hx => hout.block x (hQG x hx) (hlt x (hin x (List.mem_append_right _ (List.mem_append_right _ hx)))))
      have e9 : (cur.toList.take (n * k)).set j u = cur.toList.take (n * k) := by
        apply List.ext_getElem?
        intro i
        by_cases e : i = j
        · subst e
          rw [List.getElem?_set_self (by have := OwnL.length _ _ _ ho; rw [this]; omega), hu]
        · rw [List.getElem?_set_ne (fun x => e x.symm)]
      rw [e9] at h9
      exact h9
  · intro y hy x
    rw [hy] at hou
    obtain ⟨hGe, _⟩ := hou
    subst hGe
    have hset := heap_setCell_same w g j cur e x hg
    have hother : ∀ z, z ∈ P ++ ([] ++ Q) → (w.setCell ⟨g, j, none⟩ x).heap[z]? = w.heap[z]? := fun z hz => Below.heap_setCell _ _ _ _ (by show z ≠ g; exact fun e => hgn (by rw [← e]; exact hz))
    refine ⟨⟨by rw [List.length_set]; exact hl, a, c, rfl, hnc, hcm, .inr ⟨g, cur.setIfInBounds j x, G0, ha, hFG, hset, by rw [Array.size_setIfInBounds]; exact hn, ?_⟩⟩, ?_⟩
    · have h9 := hk (w.setCell ⟨g, j, none⟩ x) (.val x) x ⟨rfl, rfl⟩ (fun z hz => hother z (List.mem_append_left _ hz)) (fun z hz => hother z (List.mem_append_right _ hz))
      rw [Array.toList_setIfInBounds, List.take_set]
      exact h9
    · exact ⟨rfl, rfl, rfl, by simp [World.setCell], fun z hz _ => Below.heap_setCell _ _ _ _ (by show z ≠ g; exact fun e => hz (by rw [e, hFG]; exact List.mem_cons_self))⟩
end

/-! Marks, in the order of the cells. -/
mutual
def Cel.cnt : Cel → Nat
  | .val _ => 1
  | .sl _ _ _ cs => cntL cs
def cntL : List Cel → Nat
  | [] => 0
  | c :: cs => c.cnt + cntL cs
end
def markV : Value → Nat → Value
  | .int _ _, k => .int .i64 (k : Int)
  | .string _, k => .string (markT k)
  | .bool _, k => .bool (k % 3 == 0)
  | v, _ => v
mutual
def Cel.mk : Cel → Nat → Cel
  | .val v, k => .val (markV v k)
  | .sl e s n cs, k => .sl e s n (mkL cs k)
def mkL : List Cel → Nat → List Cel
  | [], _ => []
  | c :: cs, k => c.mk k :: mkL cs (k + c.cnt)
end
theorem mkL_length : ∀ (cs : List Cel) (k : Nat), (mkL cs k).length = cs.length
  | [], _ => rfl
  | _ :: cs, k => by rw [mkL, List.length_cons, mkL_length cs, List.length_cons]
theorem cntL_append : ∀ (a b : List Cel), cntL (a ++ b) = cntL a + cntL b
  | [], b => by rw [List.nil_append, cntL, Nat.zero_add]
  | c :: a, b => by rw [List.cons_append, cntL, cntL, cntL_append a b, Nat.add_assoc]
theorem mkL_append : ∀ (a b : List Cel) (k : Nat), mkL (a ++ b) k = mkL a k ++ mkL b (k + cntL a)
  | [], b, k => by rw [List.nil_append, mkL, cntL, Nat.add_zero, List.nil_append]
  | c :: a, b, k => by rw [List.cons_append, mkL, mkL, mkL_append a b, cntL, List.cons_append, Nat.add_assoc]
/-- The first j cells marked. -/
def stM (cs : List Cel) (k j : Nat) : List Cel := mkL (cs.take j) k ++ cs.drop j
def atM (cs : List Cel) (k j : Nat) : Nat := k + cntL (cs.take j)
theorem stM_zero (cs : List Cel) (k : Nat) : stM cs k 0 = cs := rfl
theorem stM_all (cs : List Cel) (k : Nat) {j : Nat} (h : cs.length ≤ j) : stM cs k j = mkL cs k := by
  unfold stM; rw [List.take_of_length_le h, List.drop_eq_nil_of_le h, List.append_nil]
theorem atM_zero (cs : List Cel) (k : Nat) : atM cs k 0 = k := rfl
theorem atM_all (cs : List Cel) (k : Nat) {j : Nat} (h : cs.length ≤ j) : atM cs k j = k + cntL cs := by unfold atM; rw [List.take_of_length_le h]
theorem getD_eq {cs : List Cel} {j : Nat} (h : j < cs.length) : cs.getD j default = cs[j] := by simp [List.getD, h]
theorem atM_next {cs : List Cel} {k j : Nat} (h : j < cs.length) : atM cs k (j + 1) = atM cs k j + (cs.getD j default).cnt := by
  unfold atM
  rw [List.take_succ_eq_append_getElem h, cntL_append, getD_eq h, cntL, cntL, Nat.add_zero, Nat.add_assoc]
theorem stM_getD {cs : List Cel} {k j i : Nat} (hi : i < cs.length) (hj : j ≤ i) : (stM cs k j).getD i default = cs.getD i default := by
  unfold stM
  simp only [List.getD]
  rw [List.getElem?_append_right (by rw [mkL_length, List.length_take]; omega), mkL_length, List.length_take, List.getElem?_drop]
  congr 2
  omega
theorem stM_next {cs : List Cel} {k j : Nat} (h : j < cs.length) : (stM cs k j).set j ((cs.getD j default).mk (atM cs k j)) = stM cs k (j + 1) := by
  have hl : (mkL (cs.take j) k).length = j := by rw [mkL_length, List.length_take]; omega
  unfold stM
  rw [List.take_succ_eq_append_getElem h, mkL_append, List.set_append_right _ _ (by omega), hl, Nat.sub_self, getD_eq h, List.drop_eq_getElem_cons h, List.set_cons_zero, List.append_assoc]
  rfl
theorem mkL_getD {cs : List Cel} {k j : Nat} (h : j < cs.length) : (mkL cs k).getD j default = (cs.getD j default).mk (atM cs k j) := by
  have h1 : mkL cs k = mkL (cs.take j) k ++ mkL (cs.drop j) (k + cntL (cs.take j)) := by rw [← mkL_append, List.take_append_drop]
  have hl : (mkL (cs.take j) k).length = j := by rw [mkL_length, List.length_take]; omega
  rw [h1, List.drop_eq_getElem_cons h, mkL]
  simp only [List.getD]
  rw [List.getElem?_append_right (by omega), hl, Nat.sub_self]
  simp [atM, h]
theorem atM_mono (cs : List Cel) (k j : Nat) : atM cs k j ≤ k + cntL cs := by
  have : cntL cs = cntL (cs.take j) + cntL (cs.drop j) := by rw [← cntL_append, List.take_append_drop]
  unfold atM; omega
end Go.Proofs.Ytmkchilhnmkhkaa
namespace Go.Proofs.Ytmkchilhnmkhkaa
open Go.RowKit Go.Proofs.Ytmkchilhnmkhkaa.Parts

/-- How an element lies in its cells. -/
structure EncC (α : Type) where
  e : TypeId
  k : Nat
  cels : α → List Cel
  len : ∀ x, (cels x).length = k
def celsE {α : Type} (E : EncC α) : List α → List Cel
  | [] => []
  | x :: r => E.cels x ++ celsE E r
def celRow {α : Type} (E : EncC α) (L : List α) : Cel := .sl E.e E.k L.length (celsE E L)
section
variable {α : Type} [Inhabited α] (E : EncC α)
omit [Inhabited α] in
theorem celsE_length : ∀ L : List α, (celsE E L).length = L.length * E.k
  | [] => by simp [celsE]
  | x :: r => by simp [celsE, E.len, celsE_length r, Nat.add_mul]; omega
omit [Inhabited α] in
theorem celsE_append : ∀ L M : List α, celsE E (L ++ M) = celsE E L ++ celsE E M
  | [], M => rfl
  | x :: r, M => by simp [celsE, celsE_append r M]
theorem celsE_getD : ∀ (L : List α) (j o : Nat), j < L.length → o < E.k → (celsE E L).getD (j * E.k + o) default = (E.cels (L.getD j default)).getD o default
  | x :: r, 0, o, _, ho => by
    rw [celsE, Nat.zero_mul, Nat.zero_add]
    simp only [List.getD]
    rw [List.getElem?_append_left (by rw [E.len]; exact ho)]; rfl
  | x :: r, j + 1, o, h, ho => by
    have h1 := celsE_getD r j o (by simpa using h) ho
    rw [celsE]
    simp only [List.getD] at h1 ⊢
    rw [List.getElem?_append_right (by rw [E.len, Nat.add_mul]; omega), E.len, show (j + 1) * E.k + o - E.k = j * E.k + o by rw [Nat.add_mul]; omega]
    exact h1
omit [Inhabited α] in
theorem celsE_take : ∀ (L : List α) (j : Nat), (celsE E L).take (j * E.k) = celsE E (L.take j)
  | [], j => by simp [celsE]
  | x :: r, 0 => by simp [celsE]
  | x :: r, j + 1 => by
    rw [celsE, List.take_append, List.take_of_length_le (by rw [E.len, Nat.add_mul]; omega), E.len, show (j + 1) * E.k - E.k = j * E.k by rw [Nat.add_mul]; omega, celsE_take r j]
    rfl
theorem celsE_next {L : List α} {j : Nat} (hj : j < L.length) : celsE E (L.take (j + 1)) = celsE E (L.take j) ++ E.cels (L.getD j default) := by
  rw [List.take_succ_eq_append_getElem hj, celsE_append, celsE, celsE, List.append_nil]
  simp [List.getD, hj]
theorem celsE_in {L : List α} {j o : Nat} (hj : j < L.length) (ho : o ≤ E.k) : (celsE E L).take (j * E.k + o) = celsE E (L.take j) ++ (E.cels (L.getD j default)).take o := by
  have h1 : (celsE E L).take (j * E.k + o) = ((celsE E L).take ((j + 1) * E.k)).take (j * E.k + o) := by
    rw [List.take_take, Nat.min_eq_left (by rw [Nat.add_mul]; omega)]
  have h2 : (celsE E (L.take j)).length = j * E.k := by rw [celsE_length, List.length_take, Nat.min_eq_left (by omega)]
  rw [h1, celsE_take, celsE_next E hj, List.take_append, h2, List.take_of_length_le (by omega)]
  congr 2
  omega
end

/-! Measured. -/
mutual
def Cel.sz : Cel → Nat
  | .val (.string b) => b.size
  | .val _ => 0
  | .sl _ _ n cs => n + szL cs
def szL : List Cel → Nat
  | [] => 0
  | c :: cs => c.sz + szL cs
end
mutual
def Cel.Ty : Cel → Prop
  | .val (.string b) => b.size ≤ maxLen
  | .val (.int .i64 z) => -9223372036854775808 ≤ z ∧ z ≤ 9223372036854775807
  | .val _ => True
  | .sl _ _ n cs => n ≤ 9223372036854775807 ∧ TyL cs
def TyL : List Cel → Prop
  | [] => True
  | c :: cs => c.Ty ∧ TyL cs
end
theorem szL_append : ∀ (a b : List Cel), szL (a ++ b) = szL a + szL b
  | [], b => by rw [List.nil_append, szL, Nat.zero_add]
  | c :: a, b => by rw [List.cons_append, szL, szL, szL_append a b, Nat.add_assoc]
theorem TyL_append : ∀ (a b : List Cel), TyL (a ++ b) ↔ TyL a ∧ TyL b
  | [], b => by simp [TyL]
  | c :: a, b => by rw [List.cons_append, TyL, TyL, TyL_append a b, and_assoc]
theorem TyL_at {α : Type} [Inhabited α] (E : EncC α) : ∀ (L : List α) (j : Nat), TyL (celsE E L) → j < L.length → TyL (E.cels (L.getD j default))
  | x :: r, 0, h, _ => ((TyL_append _ _).1 (by exact h)).1
  | x :: r, j + 1, h, hj => TyL_at E r j ((TyL_append _ _).1 (by exact h)).2 (by simpa using hj)
theorem szL_at {α : Type} [Inhabited α] (E : EncC α) : ∀ (L : List α) (j : Nat), j < L.length → szL (E.cels (L.getD j default)) ≤ szL (celsE E L)
  | x :: r, 0, _ => by rw [celsE, szL_append]; exact Nat.le_add_right _ _
  | x :: r, j + 1, hj => by
    have := szL_at E r j (by simpa using hj)
    rw [celsE, szL_append]
    exact Nat.le_trans this (Nat.le_add_left _ _)
theorem szL_take {α : Type} (E : EncC α) (L : List α) (j : Nat) : szL (celsE E (L.take j)) ≤ szL (celsE E L) := by
  conv => rhs; rw [← List.take_append_drop j L, celsE_append, szL_append]
  exact Nat.le_add_right _ _
theorem szL_next {α : Type} [Inhabited α] (E : EncC α) {L : List α} {j : Nat} (hj : j < L.length) : szL (celsE E (L.take (j + 1))) = szL (celsE E (L.take j)) + szL (E.cels (L.getD j default)) := by rw [celsE_next E hj, szL_append]
def SzPost (z : Nat) (l : Int) (w : World) (e : Ending) (w' : World) : Prop := ∃ r : Int, e = .returned (.int .i64 r) ∧ (r < 0 ∨ (0 ≤ r ∧ r + (z : Int) = l)) ∧ Below w.heap.size w w'

/-! Read. -/
theorem Cel.Rd.cap {w : World} {e e' k n : Nat} {cs : List Cel} {a : Option Addr} {m c c' : Nat} (h : (Cel.sl e k n cs).Rd w (.slice a m c)) : m = n ∧ (Cel.sl e' k n cs).Rd w (.slice a n c') := by
  obtain ⟨hl, a1, c1, vs, hv, hr, h1⟩ := h
  cases hv
  exact ⟨rfl, hl, a, c', vs, rfl, hr, h1⟩
theorem row_form {α : Type} {E : EncC α} {w : World} {L : List α} {v : Value} (h : (celRow E L).Rd w v) : ∃ a n c, v = .slice a n c ∧ L.length = n := by
  obtain ⟨hl, a1, c1, vs, hv, hr, h1⟩ := h
  exact ⟨a1, L.length, c1, hv, rfl⟩
theorem row_at {α : Type} [Inhabited α] {E : EncC α} {w : World} {L : List α} {a : Option Addr} {n c : Nat} (h : (celRow E L).Rd w (.slice a n c)) (_ : 0 < E.k) (j : Nat) (hj : j < n) :
    ∃ g off vs, a = some ⟨g, off, none⟩ ∧ g < w.heap.size ∧ RdL w (E.cels (L.getD j default)) vs ∧ ∀ (o : Nat) (u : Value), vs[o]? = some u → w.cell? ⟨g, off + j * E.k + o, none⟩ = some u := by
  obtain ⟨hl, a1, c1, vs, hv, hr, h1⟩ := h
  cases hv
  have hm : (j + 1) * E.k ≤ L.length * E.k := Nat.mul_le_mul_right _ hj
  rw [Nat.add_mul, Nat.one_mul] at hm
  rcases h1 with h0 | ⟨g, off, ha, hg, hc⟩
  · omega
  refine ⟨g, off, (vs.drop (j * E.k)).take E.k, ha, hg, ?_, fun o u hu => ?_⟩
  · have key : ∀ (M : List α) (us : List Value) (i : Nat), RdL w (celsE E M) us → i < M.length → RdL w (E.cels (M.getD i default)) ((us.drop (i * E.k)).take E.k) := by
      intro M
      induction M with
      | nil => intro us i _ hi; exact absurd hi (Nat.not_lt_zero _)
      | cons x r ih =>
        have split : ∀ (A B : List Cel) (us : List Value), RdL w (A ++ B) us → RdL w A (us.take A.length) ∧ RdL w B (us.drop A.length) := by
          intro A
          induction A with
          | nil => intro B us h; exact ⟨rfl, h⟩
          | cons d A ihA =>
            intro B us h
            obtain ⟨v, s, rfl, h1, h2⟩ := h
            obtain ⟨p, q⟩ := ihA B s h2
            exact ⟨⟨v, s.take A.length, rfl, h1, p⟩, q⟩
        intro us i h hi
        obtain ⟨p, q⟩ := split (E.cels x) (celsE E r) us h
        rw [E.len] at p q
        cases i with
        | zero => rw [Nat.zero_mul, List.drop_zero]; exact p
        | succ i =>
          have := ih (us.drop E.k) i q (by simpa using hi)
          rw [List.drop_drop] at this
          rw [show (i + 1) * E.k = E.k + i * E.k by rw [Nat.add_mul]; omega]
          exact this
    exact key L vs j hr hj
  · rw [List.getElem?_take] at hu
    split at hu
    · rw [List.getElem?_drop] at hu
      rw [Nat.add_assoc]
      exact hc _ u hu
    · cases hu

/-! Owned, between two block numbers. -/
def Objs (w : World) (lo hi : Nat) (cs : List Cel) (vs : List Value) : Prop := ∃ F, F.Nodup ∧ (∀ g ∈ F, lo ≤ g ∧ g < hi) ∧ OwnL w cs F vs
def Obj1 (w : World) (lo hi : Nat) (c : Cel) (v : Value) : Prop := ∃ F, F.Nodup ∧ (∀ g ∈ F, lo ≤ g ∧ g < hi) ∧ c.Own w F v
section
variable {w w' : World} {lo hi : Nat} {cs : List Cel} {vs : List Value} {c : Cel} {v : Value}
theorem Objs.mono {lo' hi' : Nat} (h : Objs w lo hi cs vs) (h1 : lo' ≤ lo) (h2 : hi ≤ hi') : Objs w lo' hi' cs vs := by
  obtain ⟨F, hn, hb, ho⟩ := h
  exact ⟨F, hn, fun g hg => by have := hb g hg; omega, ho⟩
theorem Obj1.mono {lo' hi' : Nat} (h : Obj1 w lo hi c v) (h1 : lo' ≤ lo) (h2 : hi ≤ hi') : Obj1 w lo' hi' c v := by
  obtain ⟨F, hn, hb, ho⟩ := h
  exact ⟨F, hn, fun g hg => by have := hb g hg; omega, ho⟩
theorem Objs.kept (h : Objs w lo hi cs vs) (hk : ∀ g, lo ≤ g → g < hi → w'.heap[g]? = w.heap[g]?) : Objs w' lo hi cs vs := by
  obtain ⟨F, hn, hb, ho⟩ := h
  exact ⟨F, hn, hb, OwnL.kept _ _ _ (fun g hg => hk g (hb g hg).1 (hb g hg).2) ho⟩
theorem Obj1.kept (h : Obj1 w lo hi c v) (hk : ∀ g, lo ≤ g → g < hi → w'.heap[g]? = w.heap[g]?) : Obj1 w' lo hi c v := by
  obtain ⟨F, hn, hb, ho⟩ := h
  exact ⟨F, hn, hb, Cel.Own.kept _ _ _ (fun g hg => hk g (hb g hg).1 (hb g hg).2) ho⟩
theorem Objs.later (h : Objs w lo hi cs vs) (hb : Below w.heap.size w w') : Objs w' lo hi cs vs := by
  obtain ⟨F, hn, hb', ho⟩ := h
  exact ⟨F, hn, hb', OwnL.kept _ _ _ (fun g hg => hb.block g (OwnL.lt _ _ _ ho g hg)) ho⟩
theorem Obj1.later (h : Obj1 w lo hi c v) (hb : Below w.heap.size w w') : Obj1 w' lo hi c v := by
  obtain ⟨F, hn, hb', ho⟩ := h
  exact ⟨F, hn, hb', Cel.Own.kept _ _ _ (fun g hg => hb.block g (Cel.Own.lt _ _ _ ho g hg)) ho⟩
theorem Objs.rd (h : Objs w lo hi cs vs) : RdL w cs vs := by
  obtain ⟨F, _, _, ho⟩ := h
  exact OwnL.rd _ _ _ ho
theorem Obj1.rd (h : Obj1 w lo hi c v) : c.Rd w v := by
  obtain ⟨F, _, _, ho⟩ := h
  exact Cel.Own.rd _ _ _ ho
theorem Objs.nil (w : World) (lo hi : Nat) : Objs w lo hi [] [] := ⟨[], List.nodup_nil, fun g hg => (by cases hg), rfl, rfl⟩
theorem Objs.val (h : Objs w lo hi cs vs) (x : Value) : Objs w lo hi (.val x :: cs) (x :: vs) := by
  obtain ⟨F, hn, hb, ho⟩ := h
  exact ⟨F, hn, hb, x, vs, [], F, rfl, rfl, ⟨rfl, rfl⟩, ho⟩
theorem Objs.cons {mid mid' : Nat} (h1 : Obj1 w lo mid c v) (h2 : Objs w mid' hi cs vs) (hm : mid ≤ mid') (hl : lo ≤ mid') (hh : mid ≤ hi) : Objs w lo hi (c :: cs) (v :: vs) := by
  obtain ⟨F, hn, hb, ho⟩ := h1
  obtain ⟨G, hn', hb', ho'⟩ := h2
  refine ⟨F ++ G, List.nodup_append.2 ⟨hn, hn', fun a ha b hb2 e => ?_⟩, fun g hg => ?_, v, vs, F, G, rfl, rfl, ho, ho'⟩
  · have := hb a ha; have := hb' b hb2; omega
  · rcases List.mem_append.1 hg with hg | hg
    · have := hb g hg; omega
    · have := hb' g hg; omega
theorem Objs.one (h : Obj1 w lo hi c v) : Objs w lo hi [c] [v] := by
  obtain ⟨F, hn, hb, ho⟩ := h
  exact ⟨F, hn, hb, v, [], F, [], rfl, by simp, ho, rfl, rfl⟩
end
/-- Two slices in blocks of their own, in whatever order. -/
theorem obj_two {w : World} {a b lo hi : Nat} {c d : Cel} {v u : Value} (h1 : Obj1 w a (a + 1) c v) (h2 : Obj1 w b (b + 1) d u) (hne : a ≠ b) (ha : lo ≤ a ∧ a < hi) (hb : lo ≤ b ∧ b < hi) : Objs w lo hi [c, d] [v, u] := by
  obtain ⟨F, hn, hF, ho⟩ := h1
  obtain ⟨G, hn', hG, ho'⟩ := h2
  refine ⟨F ++ (G ++ []), ?_, ?_, v, [u], F, G ++ [], rfl, rfl, ho, u, [], G, [], rfl, rfl, ho', rfl, rfl⟩
  · rw [List.append_nil]
    exact List.nodup_append.2 ⟨hn, hn', fun x hx y hy e => by have := hF x hx; have := hG y hy; omega⟩
  · intro g hg
    rw [List.append_nil] at hg
    rcases List.mem_append.1 hg with hg | hg
    · have := hF g hg; omega
    · have := hG g hg; omega
theorem OwnL.append {w : World} : ∀ (A B : List Cel) (F G : List Nat) (us vs : List Value), OwnL w A F us → OwnL w B G vs → OwnL w (A ++ B) (F ++ G) (us ++ vs)
  | [], _, _, _, _, _, ⟨hF, hv⟩, h => by rw [hF, hv]; exact h
  | c :: A, B, _, G, _, vs, ⟨v, r, G1, H1, hv, hF, h1, h2⟩, h => by
    rw [hF, hv]
    exact ⟨v, r ++ vs, G1, H1 ++ G, rfl, by rw [List.append_assoc], h1, OwnL.append A B H1 G r vs h2 h⟩
/-- A row of the call's own whose cells own what they hold. -/
theorem own_of_row {w : World} {B e k n : Nat} {v : Value} {xs : List Value} {cs : List Cel} {G : List Nat} (ho : w.ownsRow B e k v n xs) (hl : cs.length = n * k) (hG : OwnL w cs G xs) :
    ∃ F, (Cel.sl e k n cs).Own w F v ∧ F = v.ownBlock.toList ++ G := by
  rcases ho.2 with ⟨rfl, rfl⟩ | ⟨g, cap, cur, rfl, hB, hg, hn, hm, hs, ht⟩
  · obtain rfl : cs = [] := List.length_eq_zero_iff.1 (by rw [hl, Nat.zero_mul])
    obtain ⟨rfl, _⟩ := hG
    exact ⟨[], ⟨hl, none, 0, rfl, Nat.le_refl _, by decide, .inl ⟨rfl, rfl⟩⟩, rfl⟩
  · refine ⟨g :: G, ⟨hl, _, cap, rfl, hn, hm, .inr ⟨g, cur, G, rfl, rfl, hg, by rw [hs]; exact Nat.mul_le_mul_right _ hn, by rw [ht]; exact hG⟩⟩, rfl⟩
theorem obj_of_row {w : World} {B e k n lo hi : Nat} {v : Value} {xs : List Value} {cs : List Cel} {G : List Nat} (ho : w.ownsRow B e k v n xs) (hl : cs.length = n * k) (hG : OwnL w cs G xs) (hn : G.Nodup)
    (hb : ∀ g ∈ G, lo ≤ g ∧ g < hi) (hv : ∀ g, v.ownBlock = some g → g ∉ G ∧ lo ≤ g ∧ g < hi) : Obj1 w lo hi (.sl e k n cs) v := by
  obtain ⟨F, h1, rfl⟩ := own_of_row ho hl hG
  refine ⟨_, ?_, ?_, h1⟩
  · cases hq : v.ownBlock with
    | none => simpa using hn
    | some q => simp only [Option.toList, List.cons_append, List.nil_append, List.nodup_cons]; exact ⟨(hv q hq).1, hn⟩
  · intro g hg
    cases hq : v.ownBlock with
    | none => rw [hq] at hg; exact hb g (by simpa using hg)
    | some q =>
      rw [hq] at hg
      simp only [Option.toList, List.cons_append, List.nil_append, List.mem_cons] at hg
      rcases hg with rfl | hg
      · exact (hv _ hq).2
      · exact hb g hg
/-- A copy under way: the first elements lie there and own what they hold. -/
structure Part2 {α : Type} (E : EncC α) (L : List α) (w : World) (g n k : Nat) : Prop where
  ex : ∃ xs G, w.ownsRow g E.e E.k (.slice (some ⟨g, 0, none⟩) n n) n xs ∧ OwnL w (celsE E (L.take k)) G (xs.take (k * E.k)) ∧ G.Nodup ∧ ∀ h ∈ G, g < h ∧ h < w.heap.size
theorem setsL_take : ∀ (vs xs : List Value) (o : Nat), o + vs.length ≤ xs.length → (setsL xs o vs).take (o + vs.length) = xs.take o ++ vs := by
  intro vs xs o h
  apply List.ext_getElem?
  intro j
  by_cases hj : j < o + vs.length
  · rw [List.getElem?_take_of_lt hj]
    by_cases hj0 : j < o
    · rw [setsL_out _ _ _ _ (.inl hj0), List.getElem?_append_left (by rw [List.length_take]; omega), List.getElem?_take_of_lt hj0]
    · obtain ⟨t, rfl⟩ : ∃ t, j = o + t := ⟨j - o, by omega⟩
      rw [setsL_in _ _ _ _ (by omega) h, List.getElem?_append_right (by rw [List.length_take]; omega), List.length_take, Nat.min_eq_left (by omega), Nat.add_sub_cancel_left]
  · rw [List.getElem?_eq_none (by rw [List.length_take]; omega), List.getElem?_eq_none (by rw [List.length_append, List.length_take]; omega)]
theorem Part2.start {α : Type} {E : EncC α} {L : List α} {w : World} {g n : Nat} {xs : List Value} (h : w.ownsRow g E.e E.k (.slice (some ⟨g, 0, none⟩) n n) n xs) : Part2 E L w g n 0 :=
  ⟨xs, [], h, by rw [List.take_zero, Nat.zero_mul, List.take_zero]; exact ⟨rfl, rfl⟩, List.nodup_nil, fun _ hh => by cases hh⟩
theorem Part2.later {α : Type} {E : EncC α} {L : List α} {w w' : World} {g n k : Nat} (h : Part2 E L w g n k) (hb : Below w.heap.size w w') : Part2 E L w' g n k := by
  obtain ⟨xs, G, h1, h2, h3, h4⟩ := h.ex
  exact ⟨xs, G, own_below h1 hb, OwnL.kept _ _ _ (fun q hq => hb.block q (h4 q hq).2) h2, h3, fun q hq => ⟨(h4 q hq).1, Nat.lt_of_lt_of_le (h4 q hq).2 hb.size⟩⟩
theorem heap_setCells_ne {q g : Nat} (hq : q ≠ g) : ∀ (vs : List Value) (w : World) (o : Nat), (w.setCells g o vs).heap[q]? = w.heap[q]?
  | [], _, _ => rfl
  | v :: r, w, o => by rw [World.setCells, heap_setCells_ne hq r, Below.heap_setCell _ _ _ _ (by exact hq)]
theorem size_setCells {g : Nat} : ∀ (vs : List Value) (w : World) (o : Nat), (w.setCells g o vs).heap.size = w.heap.size
  | [], _, _ => rfl
  | v :: r, w, o => by rw [World.setCells, size_setCells r]; simp [World.setCell]
theorem Part2.next {α : Type} [Inhabited α] {E : EncC α} {L : List α} {w w1 : World} {g n k hi : Nat} {vs : List Value} (h : Part2 E L w g n k) (hn : L.length = n) (hk : k < n) (hb : Below w.heap.size w w1)
    (ho : Objs w1 w.heap.size hi (E.cels (L.getD k default)) vs) : Part2 E L (w1.setCells g (k * E.k) vs) g n (k + 1) := by
  obtain ⟨xs, G, h1, h2, h3, h4⟩ := h.ex
  obtain ⟨F, hF, hr, hO⟩ := ho
  have hl : vs.length = E.k := by rw [OwnL.length _ _ _ hO, E.len]
  have h1' := own_below h1 hb
  have hg : g < w.heap.size := ownE_lt h1
  have hm : (k + 1) * E.k ≤ n * E.k := Nat.mul_le_mul_right _ hk
  rw [Nat.add_mul, Nat.one_mul] at hm
  have hne : ∀ q ∈ G ++ F, q ≠ g := by
    intro q hq
    rcases List.mem_append.1 hq with hq | hq
    · have := h4 q hq; omega
    · have := hr q hq; omega
  refine ⟨_, G ++ F, own_sets vs (k * E.k) h1', ?_, ?_, ?_⟩
  · rw [celsE_next E (by omega), show (k + 1) * E.k = k * E.k + vs.length by rw [hl, Nat.add_mul, Nat.one_mul], setsL_take _ _ _ (by rw [hl, h1.1]; exact hm)]
    refine OwnL.append _ _ _ _ _ _ ?_ ?_
    · exact OwnL.kept _ _ _ (fun q hq => by rw [heap_setCells_ne (hne q (List.mem_append_left _ hq))]; exact hb.block q (h4 q hq).2) h2
    · exact OwnL.kept _ _ _ (fun q hq => heap_setCells_ne (hne q (List.mem_append_right _ hq)) _ _ _) hO
  · exact List.nodup_append.2 ⟨h3, hF, fun a ha b hb2 e => by have := h4 a ha; have := hr b hb2; omega⟩
  · intro q hq
    rw [size_setCells]
    rcases List.mem_append.1 hq with hq | hq
    · have := h4 q hq; have := hb.size; omega
    · have := hr q hq; have := OwnL.lt _ _ _ hO q hq; omega
theorem Part2.done {α : Type} {E : EncC α} {L : List α} {w : World} {g n : Nat} (h : Part2 E L w g n n) (hn : L.length = n) : Obj1 w g w.heap.size (celRow E L) (.slice (some ⟨g, 0, none⟩) n n) := by
  obtain ⟨xs, G, h1, h2, h3, h4⟩ := h.ex
  rw [List.take_of_length_le (by omega), List.take_of_length_le (by rw [h1.1]; omega)] at h2
  unfold celRow
  rw [hn]
  exact obj_of_row h1 (by rw [celsE_length, hn]) h2 h3 (fun q hq => by have := h4 q hq; omega) (fun q hq => by
    have e : g = q := Option.some.inj hq
    have := ownE_lt h1
    exact ⟨fun hh => by have := h4 q hh; omega, by omega, by omega⟩)
def ToPost (c : Cel) (w : World) (e : Ending) (w' : World) : Prop := ∃ v, e = .returned v ∧ Obj1 w' w.heap.size w'.heap.size c v ∧ Below w.heap.size w w'
def ToPostS (cs : List Cel) (w : World) (e : Ending) (w' : World) : Prop := ∃ vs : List Value, e = .returned (.agg ⟨vs⟩) ∧ Objs w' w.heap.size w'.heap.size cs vs ∧ Below w.heap.size w w'

/-! Marked. -/
def MarkPost (c : Cel) (F : List Nat) (v : Value) (k : Nat) (w : World) (e : Ending) (w' : World) : Prop :=
  e = .returned (.int .i64 ((k + c.cnt : Nat) : Int)) ∧ OutF F w w' ∧ (c.mk k).Own w' F v
theorem own_set_same {w : World} {e k n : Nat} {cs : List Cel} {F : List Nat} {v : Value} {j : Nat} (h : (Cel.sl e k n cs).Own w F v) (hc : cs.set j (cs.getD j default) = cs) : (Cel.sl e k n (cs.set j (cs.getD j default))).Own w F v := by rw [hc]; exact h
/-- A plain place marked. -/
theorem mark_val {w : World} {e K n c i k : Nat} {cs : List Cel} {a : Option Addr} {F : List Nat} {y : Value} (h : (Cel.sl e K n (stM cs k i)).Own w F (.slice a n c)) (hF : F.Nodup) (hi : i < n * K) (hl : cs.length = n * K) (hy : cs.getD i default = .val y) :
    ∃ g, a = some ⟨g, 0, none⟩ ∧ g ∈ F ∧ (∃ u, w.cell? ⟨g, i, none⟩ = some u) ∧ w.frozen? ⟨g, i, none⟩ = false ∧
      (Cel.sl e K n (stM cs k (i + 1))).Own (w.setCell ⟨g, i, none⟩ (markV y (atM cs k i))) F (.slice a n c) ∧ OutF F w (w.setCell ⟨g, i, none⟩ (markV y (atM cs k i))) := by
  obtain ⟨g, G, u, ha, hg, _, _, _, hc, hz, _, _, hv⟩ := Cel.Own.sub h hF i hi
  have hget : (stM cs k i).getD i default = .val y := by rw [stM_getD (by omega) (Nat.le_refl _), hy]
  obtain ⟨h1, h2⟩ := hv y hget (markV y (atM cs k i))
  have e1 := stM_next (cs := cs) (k := k) (j := i) (by omega)
  rw [hy] at e1
  rw [show Cel.mk (.val y) (atM cs k i) = .val (markV y (atM cs k i)) from rfl] at e1
  rw [e1] at h1
  exact ⟨g, ha, hg, ⟨u, hc⟩, hz, h1, h2⟩
/-- A slice within marked. -/
theorem mark_sub {w : World} {e K n c i k : Nat} {cs : List Cel} {a : Option Addr} {F : List Nat} (h : (Cel.sl e K n (stM cs k i)).Own w F (.slice a n c)) (hF : F.Nodup) (hi : i < n * K) (hl : cs.length = n * K) :
    ∃ g G u, a = some ⟨g, 0, none⟩ ∧ G.Nodup ∧ w.cell? ⟨g, i, none⟩ = some u ∧ (cs.getD i default).Own w G u ∧
      ∀ w', OutF G w w' → ((cs.getD i default).mk (atM cs k i)).Own w' G u → (Cel.sl e K n (stM cs k (i + 1))).Own w' F (.slice a n c) ∧ OutF F w w' := by
  obtain ⟨g, G, u, ha, hg, hGF, _, hGn, hc, hz, ho, hk, _⟩ := Cel.Own.sub h hF i hi
  have hget : (stM cs k i).getD i default = cs.getD i default := stM_getD (by omega) (Nat.le_refl _)
  rw [hget] at ho
  refine ⟨g, G, u, ha, hGn, hc, ho, fun w' hO ho' => ⟨?_, hO.mono hGF⟩⟩
  have h1 := hk w' _ ho' hO
  rw [stM_next (by omega)] at h1
  exact h1
/-- The count at a place. -/
theorem atM_in {α : Type} [Inhabited α] (E : EncC α) {L : List α} {k j o : Nat} (hj : j < L.length) (ho : o ≤ E.k) : atM (celsE E L) k (j * E.k + o) = k + cntL (celsE E (L.take j)) + cntL ((E.cels (L.getD j default)).take o) := by
  unfold atM
  rw [celsE_in E hj ho, cntL_append, Nat.add_assoc]
theorem cntL_next {α : Type} [Inhabited α] (E : EncC α) {L : List α} {j : Nat} (hj : j < L.length) : cntL (celsE E (L.take (j + 1))) = cntL (celsE E (L.take j)) + cntL (E.cels (L.getD j default)) := by rw [celsE_next E hj, cntL_append]
theorem cntL_take {α : Type} (E : EncC α) (L : List α) (j : Nat) : cntL (celsE E (L.take j)) ≤ cntL (celsE E L) := by
  conv => rhs; rw [← List.take_append_drop j L, celsE_append, cntL_append]
  exact Nat.le_add_right _ _
/-- What is marked, read. -/
theorem rowM_at {α : Type} [Inhabited α] {E : EncC α} {w : World} {L : List α} {a : Option Addr} {n c k : Nat} (h : ((celRow E L).mk k).Rd w (.slice a n c)) (_ : 0 < E.k) (j : Nat) (hj : j < n) :
    ∃ g off vs, a = some ⟨g, off, none⟩ ∧ g < w.heap.size ∧ RdL w (mkL (E.cels (L.getD j default)) (k + cntL (celsE E (L.take j)))) vs ∧ ∀ (o : Nat) (u : Value), vs[o]? = some u → w.cell? ⟨g, off + j * E.k + o, none⟩ = some u := by
  obtain ⟨hl, a1, c1, vs, hv, hr, h1⟩ := h
  cases hv
  have hm : (j + 1) * E.k ≤ L.length * E.k := Nat.mul_le_mul_right _ hj
  rw [Nat.add_mul, Nat.one_mul] at hm
  rcases h1 with h0 | ⟨g, off, ha, hg, hc⟩
  · omega
  refine ⟨g, off, (vs.drop (j * E.k)).take E.k, ha, hg, ?_, fun o u hu => ?_⟩
  · have split : ∀ (A B : List Cel) (us : List Value), RdL w (A ++ B) us → RdL w A (us.take A.length) ∧ RdL w B (us.drop A.length) := by
      intro A
      induction A with
      | nil => intro B us h; exact ⟨rfl, h⟩
      | cons d A ihA =>
        intro B us h
        obtain ⟨v, s, rfl, h1, h2⟩ := h
        obtain ⟨p, q⟩ := ihA B s h2
        exact ⟨⟨v, s.take A.length, rfl, h1, p⟩, q⟩
    have e1 : celsE E L = celsE E (L.take j) ++ (E.cels (L.getD j default) ++ celsE E (L.drop (j + 1))) := by
      conv => lhs; rw [← List.take_append_drop (j + 1) L, celsE_append, celsE_next E hj]
      rw [List.append_assoc]
    have hr' : RdL w (mkL (celsE E L) k) vs := hr
    rw [e1, mkL_append, mkL_append] at hr'
    have h2 := (split _ _ _ hr').2
    rw [mkL_length, celsE_length, List.length_take, Nat.min_eq_left (by omega)] at h2
    have h3 := (split _ _ _ h2).1
    rw [mkL_length, E.len] at h3
    exact h3
  · rw [List.getElem?_take] at hu
    split at hu
    · rw [List.getElem?_drop] at hu
      rw [Nat.add_assoc]
      exact hc _ u hu
    · cases hu
/-! A struct alone: only its slices are marked. -/
def mkTop : List Cel → Nat → List Cel
  | [], _ => []
  | .val v :: cs, k => .val v :: mkTop cs k
  | .sl e s n c :: cs, k => (Cel.sl e s n c).mk k :: mkTop cs (k + (Cel.sl e s n c).cnt)
def cntTop : List Cel → Nat
  | [] => 0
  | .val _ :: cs => cntTop cs
  | .sl e s n c :: cs => (Cel.sl e s n c).cnt + cntTop cs
theorem own_nil {w : World} {F : List Nat} (h : OwnL w [] F []) : F = [] := h.1
theorem own_cons {w : World} {c : Cel} {cs : List Cel} {F : List Nat} {v : Value} {vs : List Value} (h : OwnL w (c :: cs) F (v :: vs)) : ∃ G H, F = G ++ H ∧ c.Own w G v ∧ OwnL w cs H vs := by
  obtain ⟨v', r', G, H, hv, hF, h1, h2⟩ := h
  cases hv
  exact ⟨G, H, hF, h1, h2⟩
theorem own_cons_val {w : World} {x : Value} {cs : List Cel} {F : List Nat} {v : Value} {vs : List Value} (h : OwnL w (.val x :: cs) F (v :: vs)) : OwnL w cs F vs := by
  obtain ⟨G, H, hF, ⟨hG, _⟩, h2⟩ := own_cons h
  subst hG
  rw [hF]
  exact h2
theorem rd_cons {w : World} {c : Cel} {cs : List Cel} {v : Value} {vs : List Value} (h : RdL w (c :: cs) (v :: vs)) : c.Rd w v ∧ RdL w cs vs := by
  obtain ⟨v', r', hv, h1, h2⟩ := h
  cases hv
  exact ⟨h1, h2⟩
/-- Blocks outside a range lie as they lay. -/
structure OutR (lo hi : Nat) (w w' : World) : Prop where
  os : w'.os = w.os
  tape : w'.tape = w.tape
  output : w'.output = w.output
  size : w.heap.size ≤ w'.heap.size
  block : ∀ g, (g < lo ∨ hi ≤ g) → g < w.heap.size → w'.heap[g]? = w.heap[g]?
theorem OutR.of {F : List Nat} {lo hi : Nat} {w w' : World} (h : OutF F w w') (hF : ∀ g ∈ F, lo ≤ g ∧ g < hi) : OutR lo hi w w' :=
  ⟨h.os, h.tape, h.output, h.size, fun g hg hl => h.block g (fun hh => by have := hF g hh; omega) hl⟩
theorem OutR.below {lo hi B : Nat} {w w' : World} (h : OutR lo hi w w') (h1 : B ≤ lo) (h2 : B ≤ w.heap.size) : Below B w w' :=
  ⟨h.os, h.tape, h.output, h.size, fun g hg => h.block g (by omega) (by omega)⟩
theorem Objs.out {w w' : World} {lo hi lo' hi' : Nat} {cs : List Cel} {vs : List Value} (h : Objs w lo hi cs vs) (ho : OutR lo' hi' w w') (hd : hi ≤ lo' ∨ hi' ≤ lo) : Objs w' lo hi cs vs := by
  obtain ⟨F, hn, hb, hO⟩ := h
  exact ⟨F, hn, hb, OwnL.kept _ _ _ (fun g hg => ho.block g (by have := hb g hg; omega) (OwnL.lt _ _ _ hO g hg)) hO⟩
theorem Obj1.out {w w' : World} {lo hi lo' hi' : Nat} {c : Cel} {v : Value} (h : Obj1 w lo hi c v) (ho : OutR lo' hi' w w') (hd : hi ≤ lo' ∨ hi' ≤ lo) : Obj1 w' lo hi c v := by
  obtain ⟨F, hn, hb, hO⟩ := h
  exact ⟨F, hn, hb, Cel.Own.kept _ _ _ (fun g hg => ho.block g (by have := hb g hg; omega) (Cel.Own.lt _ _ _ hO g hg)) hO⟩
theorem OutR.bk {w w' : World} {lo hi b : Nat} {cs : Array Value} {t : TypeId} (h : OutR lo hi w w') (hk : Bk w b cs t) (hd : b < lo ∨ hi ≤ b) : Bk w' b cs t := (h.block b hd hk.lt).trans hk
theorem sz_row' {α : Type} (E : EncC α) (L : List α) : (celRow E L).sz = L.length + szL (celsE E L) := rfl
theorem Cel.Rd.drew {w : World} {c : Cel} {v : Value} (h : c.Rd w v) : c.Rd w.drew v := Cel.Rd.later ((Below.refl _ _).drew) c v h
theorem rowK_form {α : Type} {E : EncC α} {w : World} {L : List α} {k : Nat} {v : Value} (h : ((celRow E L).mk k).Rd w v) : ∃ a n c, v = .slice a n c ∧ L.length = n := by
  obtain ⟨hl, a1, c1, vs, hv, hr, h1⟩ := h
  exact ⟨a1, L.length, c1, hv, rfl⟩
theorem mark3_eq {a b : Nat} {c : Int} (h : a = b) (hc : c = (b : Int)) : (a % 3 == 0) = (c % 3 == 0) := by
  subst h hc
  rw [Bool.eq_iff_iff]
  simp only [beq_iff_eq]
  omega
theorem own_vals {w : World} : ∀ xs : List Value, OwnL w (xs.map .val) [] xs
  | [] => ⟨rfl, rfl⟩
  | x :: r => ⟨x, r, [], [], rfl, rfl, ⟨rfl, rfl⟩, own_vals r⟩
end Go.Proofs.Ytmkchilhnmkhkaa
namespace Go.Proofs.Ytmkchilhnmkhkaa
open Go.RowKit Go.Proofs.Ytmkchilhnmkhkaa.Parts Go.Proofs.Ytmkchilhnmkhkaa.Hexa

theorem ret_i64' {a b : Int} (h : a = b) : Ending.returned (.int .i64 a) = .returned (.int .i64 b) := by rw [h]

/-- A row of ints as cells. -/
def icells (xs : List Int) : List Value := xs.map fun x => Value.int .i64 x
theorem icells_length (xs : List Int) : (icells xs).length = xs.length := by simp [icells]
theorem cell_int {w : World} {a : Addr} {P : List Int} {k : Nat} (hk : k < P.length) (h : w.cell? a = (icells P)[k]?) : w.cell? a = some (.int .i64 P[k]) := by
  rw [h]; simp [icells, hk]
end Go.Proofs.Ytmkchilhnmkhkaa
namespace Go.Proofs.Ytmkchilhnmkhkaa
open Go.RowKit Go.Proofs.Ytmkchilhnmkhkaa.Parts Go.Proofs.Ytmkchilhnmkhkaa.Hexa

theorem infoInt : (Try.prog.info? 3).map (fun i => (i.zero, i.size, i.bytes)) = some (some (.int .i64 0), 1, 8) := by kernel_rfl

/-- A slice of ints that came in. -/
structure SrcI (w : World) (a : Option Addr) (n : Nat) (zs : List Int) : Prop where
  len : zs.length = n
  cell : ∀ j, j < n → ∃ g off, a = some ⟨g, off, none⟩ ∧ g < w.heap.size ∧ w.cell? ⟨g, off + j, none⟩ = some (.int .i64 (zs.getD j 0))
theorem SrcI.later {w w' : World} {a : Option Addr} {n : Nat} {zs : List Int} (h : SrcI w a n zs) (hb : Below w.heap.size w w') : SrcI w' a n zs :=
  ⟨h.len, fun j hj => by
    obtain ⟨g, off, e, hg, hc⟩ := h.cell j hj
    exact ⟨g, off, e, Nat.lt_of_lt_of_le hg hb.size, by rw [hb.cell hg]; exact hc⟩⟩

/-- A slice at the head of its block reads as these ints. -/
structure IntsAt (w : World) (g n : Nat) (zs : List Int) : Prop where
  len : zs.length = n
  lt : g < w.heap.size
  cell : ∀ j, j < n → w.cell? ⟨g, j, none⟩ = some (.int .i64 (zs.getD j 0))
theorem IntsAt.later {w w' : World} {g n : Nat} {zs : List Int} (h : IntsAt w g n zs) (hb : Below w.heap.size w w') : IntsAt w' g n zs :=
  ⟨h.len, Nat.lt_of_lt_of_le h.lt hb.size, fun j hj => by rw [hb.cell h.lt]; exact h.cell j hj⟩
theorem own_lt {w : World} {B e : Nat} {g n cap : Nat} {xs : List Value} (h : w.ownsRow B e 1 (.slice (some ⟨g, 0, none⟩) n cap) n xs) : g < w.heap.size := by
  rcases h.2 with ⟨h', _⟩ | ⟨g', cap', cur, h', _, hg, _⟩
  · simp at h'
  · simp at h'
    rw [h'.1]
    exact (Array.getElem?_eq_some_iff.1 hg).1
theorem intsAt_of_own {w : World} {B e : Nat} {g n cap : Nat} {zs : List Int} (h : w.ownsRow B e 1 (.slice (some ⟨g, 0, none⟩) n cap) n (icells zs)) : IntsAt w g n zs := by
  have hl : zs.length = n := by have := own_length h; rwa [icells_length] at this
  refine ⟨hl, own_lt h, fun j hj => ?_⟩
  rw [h.cellAt j (by omega)]
  have hj' : j < zs.length := by omega
  simp [icells, List.getD, hj']
theorem IntsAt.reads {w : World} {g n : Nat} {zs : List Int} (h : IntsAt w g n zs) : Reads w (some ⟨g, 0, none⟩) (icells zs) := fun j hj => by
  rw [icells_length] at hj
  refine ⟨g, rfl, ?_⟩
  rw [h.cell j (by have := h.len; omega)]
  simp [icells, List.getD, hj]
theorem own_kept {w w' : World} {B e : Nat} {v : Value} {n : Nat} {xs : List Value} (h : w.ownsRow B e 1 v n xs) (hk : ∀ g, v.ownBlock = some g → w'.heap[g]? = w.heap[g]?) : w'.ownsRow B e 1 v n xs := by
  refine ⟨h.1, h.2.imp id fun ⟨g, cap, cur, hv, hg, hh, r⟩ => ⟨g, cap, cur, hv, hg, ?_, r⟩⟩
  rw [hk g (by rw [hv]; rfl)]; exact hh
theorem own_block_lt {w : World} {B e : Nat} {v : Value} {n : Nat} {xs : List Value} (h : w.ownsRow B e 1 v n xs) : ∀ g, v.ownBlock = some g → g < w.heap.size := by
  intro k hk
  rcases h.2 with ⟨rfl, _⟩ | ⟨g, cap, cur, rfl, _, hg, _⟩
  · simp [Value.ownBlock] at hk
  · simp [Value.ownBlock] at hk
    rw [← hk]
    exact (Array.getElem?_eq_some_iff.1 hg).1
end Go.Proofs.Ytmkchilhnmkhkaa
namespace Go.Proofs.Ytmkchilhnmkhkaa
open Go.RowKit Go.Proofs.Ytmkchilhnmkhkaa.Parts Go.Proofs.Ytmkchilhnmkhkaa.Hexa

def cInt : EncC Int := ⟨3, 1, fun x => [.val (.int .i64 x)], fun _ => rfl⟩
theorem cInt_at {w : World} {L : List Int} {a : Option Addr} {n c : Nat} (h : (celRow cInt L).Rd w (.slice a n c)) (j : Nat) (hj : j < n) :
    ∃ (g off : Nat), a = some ⟨g, off, none⟩ ∧ g < w.heap.size ∧ w.cell? ⟨g, off + j, none⟩ = some (.int .i64 (L.getD j default)) := by
  obtain ⟨g, off, vs, ha, hg, hr, hc⟩ := row_at h (by decide) j hj
  obtain ⟨v, r, rfl, h0, h1⟩ := hr
  have h0' : v = .int .i64 (L.getD j default) := h0
  have h9 := hc 0 v rfl
  rw [h0', show off + j * cInt.k + 0 = off + j from by show off + j * 1 + 0 = _; omega] at h9
  exact ⟨g, off, ha, hg, h9⟩
theorem srcI_of_rd {w : World} {L : List Int} {a : Option Addr} {n c : Nat} (h : (celRow cInt L).Rd w (.slice a n c)) : SrcI w a n L := by
  obtain ⟨_, _, _, hv, hn⟩ := row_form h
  cases hv
  exact ⟨hn, fun j hj => cInt_at h j hj⟩
theorem rd_of_srcI {w : World} {L : List Int} {a : Option Addr} {n c : Nat} (h : SrcI w a n L) : (celRow cInt L).Rd w (.slice a n c) := by
  have hl := h.len
  subst hl
  refine ⟨by rw [celsE_length], a, c, icells L, rfl, ?_, ?_⟩
  · clear h
    induction L with
    | nil => exact rfl
    | cons x r ih => exact ⟨_, _, rfl, rfl, ih⟩
  · by_cases h0 : L.length = 0
    · exact .inl h0
    · obtain ⟨g, off, ha, hg, _⟩ := h.cell 0 (by omega)
      refine .inr ⟨g, off, ha, hg, fun j u hu => ?_⟩
      have hj : j < L.length := by
        rcases Nat.lt_or_ge j L.length with h9 | h9
        · exact h9
        · rw [List.getElem?_eq_none (by rw [icells_length]; exact h9)] at hu; cases hu
      obtain ⟨g2, off2, ha2, _, hc⟩ := h.cell j hj
      rw [ha] at ha2
      cases ha2
      rw [hc]
      simp only [icells, List.getElem?_map] at hu
      rw [List.getElem?_eq_getElem hj] at hu
      simp only [Option.map_some, Option.some.injEq] at hu
      rw [← hu]
      simp [List.getD, hj]
theorem own_ints {w : World} : ∀ L : List Int, OwnL w (celsE cInt L) [] (icells L)
  | [] => ⟨rfl, rfl⟩
  | x :: r => ⟨.int .i64 x, icells r, [], [], rfl, rfl, ⟨rfl, rfl⟩, own_ints r⟩
theorem obj_ints {w : World} {B n lo hi : Nat} {v : Value} {L : List Int} (h : w.ownsRow B 3 1 v n (icells L)) (h1 : lo ≤ B) (h2 : w.heap.size ≤ hi) : Obj1 w lo hi (celRow cInt L) v := by
  have hl : L.length = n := by have := h.1; rw [icells_length] at this; omega
  unfold celRow
  rw [hl]
  exact obj_of_row h (by rw [celsE_length, hl]) (own_ints L) List.nodup_nil (fun _ hg => by cases hg) (fun g hg => by have := h.lt g hg; exact ⟨by simp, by omega, by omega⟩)

theorem cInt_sz (x : Int) : szL (cInt.cels x) = 0 + 0 := rfl
theorem szInts_eq (L : List Int) : (celRow cInt L).sz = L.length := by
  have h1 : ∀ M : List Int, szL (celsE cInt M) = 0 := by
    intro M
    induction M with
    | nil => rfl
    | cons x r ih => rw [celsE, szL_append, ih]; rfl
  show L.length + szL (celsE cInt L) = _
  have := h1 L
  omega
end Go.Proofs.Ytmkchilhnmkhkaa
