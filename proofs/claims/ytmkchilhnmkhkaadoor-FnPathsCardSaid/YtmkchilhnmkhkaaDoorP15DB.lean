/- Merged texts: RecSpec, TextEq, PathBase, PathSpec, SplitImpl, SplitLib, RangeImpl, NameImpl, Clone, NamesImpl, ErrAs, TextBase, Texts, JoinMath, PathImpl. -/
import Derived.Test.YtmkchilhnmkhkaaDoorP15DA
import Derived.Deep.DeepCutAuto
import Derived.Deep.RegionHeld3
import Derived.Test.YtmkchilhnmkhkaaDoorRows
import Derived.WalkKit
import Derived.WalkSpells
import Derived.WalkLawsBesides
import Derived.Lib.Hide
import Derived.Deep.AppendLies
import Derived.Test.YtmkchilhnmkhkaaDoorShelfP
import Derived.Lib.IndexBytes
import Derived.RowKit3
import Derived.Test.YtmkchilhnmkhkaaDoorShelf
import Derived.LaidEql
import Derived.Stop.Asserts
import Derived.RowKitTokens
import Derived.Below
namespace Go.Proofs.YtmkchilhnmkhkaaDoor
open Go.RowKit Go.Proofs.YtmkchilhnmkhkaaDoor.Parts Go.Proofs.YtmkchilhnmkhkaaDoor.Hexa Go.Proofs.YtmkchilhnmkhkaaDoor.Byt

theorem name_all {s : ByteArray} (hl : 1 ≤ s.size ∧ s.size ≤ 7) (h : ∀ j (hj : j < s.size), NameC s[j]) : NameR s := by
  refine ⟨hl, fun b hb => ?_⟩
  obtain ⟨j, hj, rfl⟩ := List.getElem_of_mem hb
  exact h j (by simpa using hj)
theorem name_at {s : ByteArray} (h : NameR s) (j : Nat) (hj : j < s.size) : NameC s[j] := by
  refine h.2 _ ?_
  have hj' : j < s.data.toList.length := by simpa using hj
  exact List.getElem_mem hj'

set_option maxRecDepth 100000 in
set_option maxHeartbeats 1000000 in
theorem specName_any (s : ByteArray) (w : World) (hs : s.size ≤ 2000000) :
    Calls Tryd.prog 116 #[.string s] w fun e w' => e = .returned (.bool (nameB s)) ∧ w' = w := by
  go_enter Tryd.func116, Tryd.ntmps116
  go_wp2
  go_loop [3] (fun i => ∃ k : Nat, k ≤ s.size ∧ i = .int .i64 k ∧ Hid (∀ j (hj : j < s.size), j < k → NameC s[j])) (fun i => s.size - (intOf i).toNat)
  case atStart => exact ⟨0, Nat.zero_le _, rfl, Lib.hid (fun j hj h => by omega)⟩
  case round =>
    obtain ⟨k, hk, rfl, HA⟩ := hrel
    by_cases hlt : k < s.size
    · obtain ⟨b, hb⟩ : ∃ b, s[k]'hlt = b := ⟨_, rfl⟩
      have hb255 := b.toNat_lt
      have HB := Lib.hid hb
      by_cases h1 : 97 ≤ (b.toNat : Int) ∧ (b.toNat : Int) ≤ 122
      · have HR := Lib.hid h1
        have HA2 : Hid (∀ j (hj : j < s.size), j < k + 1 → NameC s[j]) := Lib.hid (fun j hj h => by
          by_cases e : j = k
          · subst e; rw [HB.out]; exact .inl (by omega)
          · exact HA.out j hj (by omega))
        clear h1
        go_wp2_with ((with_reducible refine (range_yes _ HR.out).mono ?_); rintro e w1 ⟨rfl, rfl⟩)
        go_round
        case rel => exact ⟨k + 1, by omega, by go_num, HA2⟩
        case measure => (simp [intOf]; try omega)
      · by_cases h2 : 48 ≤ (b.toNat : Int) ∧ (b.toNat : Int) ≤ 57
        · have HR := Lib.hid h1
          have HR2 := Lib.hid h2
          have HA2 : Hid (∀ j (hj : j < s.size), j < k + 1 → NameC s[j]) := Lib.hid (fun j hj h => by
            by_cases e : j = k
            · subst e; rw [HB.out]; exact .inr (by omega)
            · exact HA.out j hj (by omega))
          clear h1 h2
          go_wp2_with (first | ((with_reducible refine (range_no _ HR.out).mono ?_); rintro e w1 ⟨rfl, rfl⟩) | ((with_reducible refine (range_yes _ HR2.out).mono ?_); rintro e w1 ⟨rfl, rfl⟩))
          go_round
          case rel => exact ⟨k + 1, by omega, by go_num, HA2⟩
          case measure => (simp [intOf]; try omega)
        · have HR := Lib.hid h1
          have HR2 := Lib.hid h2
          have HN : Hid (nameB s = false) := Lib.hid (nameB_no (fun h => by
            have h3 := name_at h k hlt
            rw [hb] at h3
            rcases h3 with h4 | h4
            · exact h1 (by omega)
            · exact h2 (by omega)))
          clear h1 h2
          go_wp2_with (first | ((with_reducible refine (range_no _ HR.out).mono ?_); rintro e w1 ⟨rfl, rfl⟩) | ((with_reducible refine (range_no _ HR2.out).mono ?_); rintro e w1 ⟨rfl, rfl⟩))
          go_ret
          exact ⟨by rw [HN.out]; rfl, rfl⟩
    · obtain rfl : k = s.size := by omega
      go_wp2_with fail
      refine (range_any _ _ _ _).mono ?_
      rintro e w1 ⟨rfl, rfl⟩
      have HN : Hid (decide ((1 : Int) ≤ (s.size : Int) ∧ (s.size : Int) ≤ 7) = nameB s) := Lib.hid (by
        by_cases hl : 1 ≤ s.size ∧ s.size ≤ 7
        · rw [nameB_yes (name_all hl (fun j hj => HA.out j hj hj))]; exact decide_eq_true (by omega)
        · rw [nameB_no (fun h => hl h.1)]; exact decide_eq_false (by omega))
      rw [HN.out]
      go_wp2
      go_ret
      exact ⟨rfl, rfl⟩

theorem specPages_any (n : Int) (w : World) (h0 : -9223372036854775808 ≤ n) (h1 : n ≤ 9223372036854775807) : Calls Tryd.prog 94 #[.int .i64 n] w fun e w' => e = .returned (.int .i64 (pagesZ n)) ∧ w' = w := by
  by_cases h : n ≤ 0
  · have HE : Hid (pagesZ n = 0) := Lib.hid (if_pos h)
    go_enter Tryd.func94, Tryd.ntmps94
    go_wp2
    go_ret
    exact ⟨by rw [HE.out]; rfl, rfl⟩
  · have HE : Hid (pagesZ n = (n - 1) / 32 + 1) := Lib.hid (if_neg h)
    have hp : 1 ≤ n := by omega
    have hd : (n - 1) / 32 ≤ 288230376151711743 := by omega
    have hd0 : 0 ≤ (n - 1) / 32 := by omega
    go_enter Tryd.func94, Tryd.ntmps94
    go_wp2
    go_ret
    exact ⟨by rw [HE.out]; rfl, rfl⟩

def SaysT (s : ByteArray) (w : World) (e : Ending) (w' : World) : Prop := e = .returned (.string s) ∧ Below w.heap.size w w'
set_option maxRecDepth 100000 in
set_option maxHeartbeats 1000000 in
theorem specRecWord_no (p q : Int) (m : ByteArray) (w : World) (_hm : m.size ≤ 2000000) (h : ¬ RecOk ⟨p, q, m⟩) :
    Calls Tryd.prog 95 #[.agg #[.int .i64 p, .int .i64 q, .string m]] w (SaysT ⟨#[]⟩ w) := by
  by_cases h0 : 1 ≤ p ∧ p ≤ 12
  · have H0 := Lib.hid h0
    by_cases h1 : 1 ≤ q ∧ q ≤ 16777215
    · have H1 := Lib.hid h1
      have h2 : ¬ m.size = 4 := fun e => h ⟨h0, h1, e⟩
      have e8 : ((m.size : Int) == 4) = false := by simp; omega
      have e9 : ((m.size : Int) != 4) = true := by simp; omega
      clear h0 h1 h
      go_enter Tryd.func95, Tryd.ntmps95
      go_wp2_with (first | ((with_reducible refine (range_yes _ H0.out).mono ?_); rintro e w1 ⟨rfl, rfl⟩) | ((with_reducible refine (range_yes _ H1.out).mono ?_); rintro e w1 ⟨rfl, rfl⟩))
      go_ret
      exact ⟨rfl, below_bk w _⟩
    · have H1 := Lib.hid h1
      clear h0 h1 h
      go_enter Tryd.func95, Tryd.ntmps95
      go_wp2_with (first | ((with_reducible refine (range_yes _ H0.out).mono ?_); rintro e w1 ⟨rfl, rfl⟩) | ((with_reducible refine (range_no _ H1.out).mono ?_); rintro e w1 ⟨rfl, rfl⟩))
      go_ret
      exact ⟨rfl, below_bk w _⟩
  · have H0 := Lib.hid h0
    clear h0 h
    go_enter Tryd.func95, Tryd.ntmps95
    go_wp2_with ((with_reducible refine (range_no _ H0.out).mono ?_); rintro e w1 ⟨rfl, rfl⟩)
    go_ret
    exact ⟨rfl, below_bk w _⟩

set_option maxRecDepth 100000 in
set_option maxHeartbeats 1000000 in
theorem specRecWord_yes (p q : Int) (m : ByteArray) (w : World) (h : RecOk ⟨p, q, m⟩) :
    Calls Tryd.prog 95 #[.agg #[.int .i64 p, .int .i64 q, .string m]] w (SaysT (recWordB ⟨p, q, m⟩) w) := by
  have HE := Lib.hid (recWordB_yes h)
  obtain ⟨h0, h1, h2⟩ := h
  have H0 : Hid (1 ≤ p ∧ p ≤ 12) := Lib.hid h0
  have H1 : Hid (1 ≤ q ∧ q ≤ 16777215) := Lib.hid h1
  have hm4 : m.size = 4 := h2
  have e8 : ((m.size : Int) == 4) = true := by simp; omega
  have e9 : ((m.size : Int) != 4) = false := by simp; omega
  have T0 := Lib.hid (Bk.alloc w #[.int .i64 p, .int .i64 q, .string m] 66)
  have B0 := Lib.hid (below_bk w (.cells #[.int .i64 p, .int .i64 q, .string m] 66))
  have hA : (numTextB p 1).size = 1 := numText_size (k := 1) (by omega) (by have := H0.out.1; omega) (by have := H0.out.2; omega)
  have hB : (numTextB q 3).size = 3 := numText_size (k := 3) (by omega) (by have := H1.out.1; omega) (by have := H1.out.2; omega)
  obtain ⟨A, hAe⟩ : ∃ A, numTextB p 1 = A := ⟨_, rfl⟩
  obtain ⟨D, hDe⟩ : ∃ D, numTextB q 3 = D := ⟨_, rfl⟩
  have HA := Lib.hid hAe
  have HD := Lib.hid hDe
  rw [hAe] at hA
  rw [hDe] at hB
  have hA1 : A.size ≤ 1 := by omega
  have hB1 : D.size ≤ 3 := by omega
  have hAD : ¬ (9223372036854775807 < A.size + D.size) := by omega
  have hADm : ¬ (9223372036854775807 < A.size + D.size + 4) := by omega
  clear h0 h1 h2 hAe hDe hA hB
  go_enter Tryd.func95, Tryd.ntmps95
  go_wp2_with (first | ((with_reducible refine (range_yes _ H0.out).mono ?_); rintro e w1 ⟨rfl, rfl⟩) | ((with_reducible refine (range_yes _ H1.out).mono ?_); rintro e w1 ⟨rfl, rfl⟩))
  have T0d := Lib.hid T0.out.drew
  have B0d : Hid (Below w.heap.size w (w.alloc (.cells #[.int .i64 p, .int .i64 q, .string m] 66)).drew) := Lib.hid B0.out.drew
  go_region_held3 (fun w' => w'.cell? ⟨w.heap.size, 0, none⟩ = some (.int .i64 p) ∧ w'.cell? ⟨w.heap.size, 1, none⟩ = some (.int .i64 q) ∧ w'.cell? ⟨w.heap.size, 2, none⟩ = some (.string m))
    (first
      | exact ⟨T0d.out.cell rfl, T0d.out.cell rfl, T0d.out.cell rfl⟩
      | exact ⟨T1.out.cell rfl, T1.out.cell rfl, T1.out.cell rfl⟩
      | exact ⟨T2.out.cell rfl, T2.out.cell rfl, T2.out.cell rfl⟩
      | go_keep)
    (first
      | (go_at_call 118; (with_reducible refine (specNum_any p 1 _ (by have := H0.out.2; omega)).mono ?_); rw [HA.out]; rintro e w1 ⟨rfl, hb⟩; have T1 := Lib.hid (T0d.out.later hb); have B1 : Hid (Below w.heap.size w w1) := Lib.hid (B0d.out.trans (hb.mono B0d.out.size)); clear hb)
      | (go_at_call 118; (with_reducible refine (specNum_any q 3 _ (by have := H1.out.2; omega)).mono ?_); rw [HD.out]; rintro e w2 ⟨rfl, hb⟩; have T2 := Lib.hid (T1.out.later hb); have B2 : Hid (Below w.heap.size w w2) := Lib.hid (B1.out.trans (hb.mono B1.out.size)); clear hb))
  go_wp2
  go_ret
  exact ⟨by rw [HE.out, HA.out, HD.out]; rfl, B2.out⟩
theorem specRecWord_any (p q : Int) (m : ByteArray) (w : World) (hm : m.size ≤ 2000000) :
    Calls Tryd.prog 95 #[.agg #[.int .i64 p, .int .i64 q, .string m]] w (SaysT (recWordB ⟨p, q, m⟩) w) := by
  by_cases h : RecOk ⟨p, q, m⟩
  · exact specRecWord_yes p q m w h
  · rw [recWordB_no h]; exact specRecWord_no p q m w hm h
end Go.Proofs.YtmkchilhnmkhkaaDoor
namespace Go.Proofs.YtmkchilhnmkhkaaDoor
open Go.RowKit

theorem text_full (x : ByteArray) (h : 0 < x.size) : (x.toList == []) = false := by
  apply beq_eq_false_iff_ne.2
  intro e
  have h1 : x.toList.length = x.size := by rw [Go.ByteArray.toList_eq]; simp
  rw [e] at h1
  simp at h1
  omega
theorem text_full' (x : ByteArray) (h : 0 < x.size) : ([] == x.toList) = false := by
  have h1 := text_full x h
  apply beq_eq_false_iff_ne.2
  intro e
  rw [← e] at h1
  simp at h1
theorem text_ne {x y : ByteArray} (h : ¬ x = y) : ¬ (x.toList = y.toList) := by
  intro e
  apply h
  rw [Go.ByteArray.toList_eq, Go.ByteArray.toList_eq] at e
  cases x; cases y
  simp at e
  rw [e]
theorem text_neB {x y : ByteArray} (h : ¬ x = y) : (x.toList == y.toList) = false := beq_eq_false_iff_ne.2 (text_ne h)
end Go.Proofs.YtmkchilhnmkhkaaDoor
namespace Go.Proofs.YtmkchilhnmkhkaaDoor
open Go.RowKit Go.Proofs.YtmkchilhnmkhkaaDoor.Parts

/-- Some slice of the call's own that holds these texts, and a number. -/
def GivesTI (P : List ByteArray) (c : Int) (w : World) (e : Ending) (w' : World) : Prop :=
  ∃ v, e = .returned (.tuple #[v, .int .i64 c]) ∧ w'.ownsRow w.heap.size 9 1 v P.length (scells P) ∧ Below w.heap.size w w'
theorem below_drawsP {B : Nat} {a w : World} (h : Below B a w) (m : Nat) : Below B a (w.drewN m) := ⟨h.os, h.tape, h.output, h.size, h.block⟩
theorem own_drawsP {w : World} {base e : Nat} {v : Value} {n : Nat} {xs : List Value} (h : w.ownsRow base e 1 v n xs) (m : Nat) : (w.drewN m).ownsRow base e 1 v n xs := h
theorem slash_list : (⟨#[47]⟩ : ByteArray).toList = [47] := by rw [Go.ByteArray.toList_eq]
theorem gives_none {s : ByteArray} {c : Int} {w w' : World} {v : Value} (h : pathCode s = c) (hc : c ≠ 0 ∨ s.size = 1) (hown : w'.ownsRow w.heap.size 9 1 v 0 []) (hb : Below w.heap.size w w') : GivesTI (pathNames s) (pathCode s) w (.returned (.tuple #[v, .int .i64 c])) w' := by
  have hp : pathNames s = [] := by
    unfold pathNames
    rw [if_neg]
    rw [h]
    intro hh
    rcases hc with hc | hc
    · exact hc hh.1
    · exact hh.2 hc
  exact ⟨v, by rw [h], by rw [hp]; exact hown, hb⟩
theorem gives_some {s : ByteArray} {P : List (List UInt8)} {w w' : World} {v : Value} {n : Nat} (hp : cutP s = P) (h0 : pathCode s = 0) (h1 : s.size ≠ 1) (hn : n = P.length) (hown : w'.ownsRow w.heap.size 9 1 v n (scells (P.map bytesOf))) (hb : Below w.heap.size w w') : GivesTI (pathNames s) (pathCode s) w (.returned (.tuple #[v, .int .i64 0])) w' := by
  have hq : pathNames s = P.map bytesOf := by
    unfold pathNames
    rw [if_pos ⟨h0, h1⟩, hp]
  exact ⟨v, by rw [h0], by rw [hq, List.length_map, ← hn]; exact hown, hb⟩
end Go.Proofs.YtmkchilhnmkhkaaDoor
namespace Go.Proofs.YtmkchilhnmkhkaaDoor
open Go.RowKit Go.Proofs.YtmkchilhnmkhkaaDoor.Parts Go.Proofs.YtmkchilhnmkhkaaDoor.Hexa

theorem infoPth : (Tryd.prog.info? 9).map (fun i => (i.zero, i.size, i.bytes)) = some (some (.string ⟨#[]⟩), 1, 16) := by kernel_rfl
theorem scells_map_next (P : List (List UInt8)) (p : List UInt8) : scells ((P ++ [p]).map bytesOf) = scells (P.map bytesOf) ++ [.string (bytesOf p)] := by simp [scells]
theorem own_mono15 {w : World} {B B' e : Nat} {v : Value} {n : Nat} {xs : List Value} (h : w.ownsRow B e 1 v n xs) (hb : B' ≤ B) : w.ownsRow B' e 1 v n xs := by
  refine ⟨h.1, ?_⟩
  rcases h.2 with h2 | ⟨g, cap, cur, h1, h2, h3⟩
  · exact .inl h2
  · exact .inr ⟨g, cap, cur, h1, Nat.le_trans hb h2, h3⟩
theorem lit_none (w : World) : (w.alloc (.cells #[] 9)).ownsRow w.heap.size 9 1 (.slice (some ⟨w.heap.size, 0, none⟩) 0 0) 0 [] := World.ownsRow_lit w #[] 0 (Nat.le_refl _) (by decide) rfl

set_option maxRecDepth 100000 in
set_option maxHeartbeats 4000000 in
theorem specSplit_any (s : ByteArray) (w : World) (hs : s.size ≤ 2000000) :
    Calls Tryd.prog 15 #[.string s] w (GivesTI (pathNames s) (pathCode s) w) := by
  obtain ⟨i0, hi, hz0, hz1, hz2⟩ := info_parts infoPth
  have N0 := Lib.hid (lit_none w)
  have B0 := Lib.hid ((Below.refl w.heap.size w).alloc (Nat.le_refl _) (.cells #[] 9))
  by_cases h60 : (60 : Int) < (s.size : Int)
  · have HC := Lib.hid (code_long (s := s) (by omega))
    go_enter Tryd.func15, Tryd.ntmps15
    go_wp2
    go_ret2
    exact gives_none HC.out (.inl (by decide)) N0.out B0.out
  by_cases h0 : (s.size : Int) = 0
  · obtain rfl : s = ByteArray.empty := by
      obtain ⟨⟨l⟩⟩ := s
      cases l with
      | nil => rfl
      | cons a b => simp [ByteArray.size] at h0; omega
    have HC : Hid (pathCode ByteArray.empty = 1) := Lib.hid rfl
    clear h0 h60 hs
    go_enter Tryd.func15, Tryd.ntmps15
    go_wp2
    go_ret2
    exact gives_none HC.out (.inl (by decide)) N0.out B0.out
  have hpos : 0 < s.size := by omega
  have e0 : ((s.size : Int) == 0) = false := beq_eq_false_iff_ne.2 h0
  by_cases hh : (s[0].toNat : Int) = 47
  case neg =>
    have HC := Lib.hid (code_head (headOk_no hpos hh))
    have e47 : ((s[0].toNat : Int) != 47) = true := by simpa [bne] using hh
    go_enter Tryd.func15, Tryd.ntmps15
    go_wp2
    go_ret2
    exact gives_none HC.out (.inl (by decide)) N0.out B0.out
  have HH := Lib.hid (headOk_yes hpos hh)
  have e47 : ((s[0].toNat : Int) != 47) = false := by simpa [bne] using hh
  by_cases h1 : s.size = 1
  · have HC := Lib.hid (code_root HH.out h1)
    have H1 := Lib.hid h1
    obtain rfl := root_text HH.out h1
    clear h1 hh h0 h60 hpos e0 e47
    go_enter Tryd.func15, Tryd.ntmps15
    go_wp2
    go_ret2
    exact gives_none HC.out (.inr H1.out) N0.out B0.out
  have hne : ¬ s = ⟨#[47]⟩ := fun h => h1 (by rw [h]; rfl)
  have i1 : (s.toList == [47]) = false := by rw [← slash_list]; exact text_neB hne
  go_enter Tryd.func15, Tryd.ntmps15
  go_wp2
  obtain ⟨W1, hW1⟩ : ∃ x, x = w.alloc (.cells #[] 9) := ⟨_, rfl⟩
  have LW : Hid (W1.heap.size = w.heap.size + 1) := Lib.hid (by rw [hW1]; simp)
  rw [← hW1] at N0 B0 ⊢
  clear hW1 hh i1 hne e0 e47
  have P0 := Lib.hid (lit_none W1)
  have C0 := Lib.hid ((Below.refl W1.heap.size W1).alloc (Nat.le_refl _) (.cells #[] 9))
  rw [← LW.out]
  go_loopw [5, 6, 7, 8] (fun ov lv bv iv wr => ∃ (i b : Nat) (P : List (List UInt8)) (lg : Bool), 1 ≤ b ∧ b ≤ i ∧ i ≤ s.size + 1 ∧ P.length ≤ i ∧ Hid (i ≤ s.size → cutP s = P ++ cutGo (seg s b i) (s.data.toList.drop i)) ∧ Hid (s.size < i → cutP s = P) ∧ Hid (okP P = true) ∧
      Hid (i ≤ s.size → ∀ j (hj : j < s.size), b ≤ j → j < i → NameC s[j]) ∧ Hid (longP P = lg) ∧ iv = .int .i64 i ∧ bv = .int .i64 b ∧ lv = .bool lg ∧ Hid (wr.ownsRow W1.heap.size 9 1 ov P.length (scells (P.map bytesOf))) ∧ Hid (Below W1.heap.size W1 wr))
    (fun _ _ _ iv _ => s.size + 1 - (intOf iv).toNat)
  case atStart => exact ⟨1, 1, [], false, Nat.le_refl _, Nat.le_refl _, by omega, by simp, Lib.hid (fun _ => cut_start s), Lib.hid (fun h => by omega), Lib.hid rfl, Lib.hid (fun _ j hj h1 h2 => by omega), Lib.hid rfl, rfl, rfl, rfl, P0, C0⟩
  case round =>
    clear P0 C0
    obtain ⟨i, b, P, lg, h1b, hbi, hin, hPi, H1, H2, H3, H4, H5, rfl, rfl, rfl, HO, HB⟩ := hrel
    have hbel := HB.out
    have HW : Hid (W1.heap.size ≤ wr.heap.size) := Lib.hid hbel.size
    have NB : Hid (wr.ownsRow w.heap.size 9 1 (.slice (some ⟨w.heap.size, 0, none⟩) 0 0) 0 []) := Lib.hid (own_below N0.out hbel)
    have BB : Hid (Below w.heap.size w wr) := Lib.hid (B0.out.trans (hbel.mono B0.out.size))
    clear hbel
    by_cases hle : i ≤ s.size
    · have E := Lib.hid (H1.out hle)
      have HN := Lib.hid (H4.out hle)
      clear H1 H2 H4
      by_cases hlt : i < s.size
      · obtain ⟨y, hy⟩ : ∃ y, s[i]'hlt = y := ⟨_, rfl⟩
        have hy255 := y.toNat_lt
        have HY := Lib.hid hy
        by_cases c47 : (y.toNat : Int) = 47
        · have Y47 : Hid (s[i]'hlt = 47) := Lib.hid (by rw [hy]; exact is47 c47)
          by_cases hb : b = i
          · subst hb
            have HC : Hid (pathCode s = 1) := Lib.hid (code_bad (by omega) HH.out h1 (cut_empty E.out hlt Y47.out))
            go_wp2
            go_ret2
            exact gives_none HC.out (.inl (by decide)) NB.out BB.out
          · have HE := Lib.hid (cut_slash E.out hlt Y47.out)
            have HK : Hid (okP (P ++ [seg s b i]) = true) := Lib.hid (by
              rw [okP_append, H3.out, okP_one (fun h => by have := seg_len s b i hbi hle; rw [h] at this; simp at this; omega) (seg_name hle HN.out)]; rfl)
            clear E HN
            have HG0 : Hid (longP (P ++ [seg s b i]) = (lg || decide (7 < i - b))) := Lib.hid (by rw [longP_append, longP_one, H5.out, seg_len s b i hbi (by omega)])
            clear H3 H5
            cases lg with
            | true =>
              have HG : Hid (longP (P ++ [seg s b i]) = true) := Lib.hid (by rw [HG0.out]; rfl)
              clear HG0
              have hown := HO.out
              have hbel := HB.out
              go_wp2_with (first | (at_builtin; refine wpList_append_own _ rfl (.tmp 70) (.tmp 75) 25 rfl W1.heap.size 9 i0 (.string ⟨#[]⟩) 1 16 Tryd.underlying25 hi hz0 hz1 hz2 rfl (by decide) _ _ _ rfl (hown.alloc _) ⟨wr.heap.size, 0, none⟩ 1 1 [.string (s.extract b i)] rfl rfl (World.news_of_block (heap_alloc_new _ _)) (by simp [Value.oneCell']) (by unfold maxLen; omega) (by omega) (by have := HW.out; simp; omega) ?_; intro v1 w1 hown1 hgrow1 hn1))
              have hb1 : Hid (Below W1.heap.size W1 w1) := Lib.hid ((hbel.alloc hbel.size _).grown hgrow1 (by have := HW.out; simp; omega) (own_block_ge hown))
              have HO1 : Hid (w1.ownsRow W1.heap.size 9 1 v1 (P ++ [seg s b i]).length (scells ((P ++ [seg s b i]).map bytesOf))) := Lib.hid (by rw [scells_map_next, seg_bytes, List.length_append]; exact hown1)
              clear hown hbel hown1 hgrow1 hn1 HO HB
              go_wp2
              go_roundw
              case rel => exact ⟨i + 1, i + 1, P ++ [seg s b i], true, by omega, Nat.le_refl _, by omega, by rw [List.length_append]; simp; omega, Lib.hid (fun _ => HE.out), Lib.hid (fun h => by omega), HK, Lib.hid (fun _ j hj h1 h2 => by omega), HG, by go_num, by go_num, rfl, HO1, hb1⟩
              case measure => (simp [intOf]; try omega)
            | false =>
              by_cases h7 : 7 < i - b
              · have h8 : ((7 : Int) < (i : Int) - (b : Int)) := by omega
                have HG : Hid (longP (P ++ [seg s b i]) = true) := Lib.hid (by rw [HG0.out, Bool.false_or]; exact decide_eq_true h7)
                clear HG0
                have hown := HO.out
                have hbel := HB.out
                go_wp2_with (first | (at_builtin; refine wpList_append_own _ rfl (.tmp 70) (.tmp 75) 25 rfl W1.heap.size 9 i0 (.string ⟨#[]⟩) 1 16 Tryd.underlying25 hi hz0 hz1 hz2 rfl (by decide) _ _ _ rfl (hown.alloc _) ⟨wr.heap.size, 0, none⟩ 1 1 [.string (s.extract b i)] rfl rfl (World.news_of_block (heap_alloc_new _ _)) (by simp [Value.oneCell']) (by unfold maxLen; omega) (by omega) (by have := HW.out; simp; omega) ?_; intro v1 w1 hown1 hgrow1 hn1))
                have hb1 : Hid (Below W1.heap.size W1 w1) := Lib.hid ((hbel.alloc hbel.size _).grown hgrow1 (by have := HW.out; simp; omega) (own_block_ge hown))
                have HO1 : Hid (w1.ownsRow W1.heap.size 9 1 v1 (P ++ [seg s b i]).length (scells ((P ++ [seg s b i]).map bytesOf))) := Lib.hid (by rw [scells_map_next, seg_bytes, List.length_append]; exact hown1)
                clear hown hbel hown1 hgrow1 hn1 HO HB
                go_wp2
                go_roundw
                case rel => exact ⟨i + 1, i + 1, P ++ [seg s b i], true, by omega, Nat.le_refl _, by omega, by rw [List.length_append]; simp; omega, Lib.hid (fun _ => HE.out), Lib.hid (fun h => by omega), HK, Lib.hid (fun _ j hj h1 h2 => by omega), HG, by go_num, by go_num, rfl, HO1, hb1⟩
                case measure => (simp [intOf]; try omega)
              · have h8 : ¬ ((7 : Int) < (i : Int) - (b : Int)) := by omega
                have HG : Hid (longP (P ++ [seg s b i]) = false) := Lib.hid (by rw [HG0.out, Bool.false_or]; exact decide_eq_false h7)
                clear HG0
                have hown := HO.out
                have hbel := HB.out
                go_wp2_with (first | (at_builtin; refine wpList_append_own _ rfl (.tmp 70) (.tmp 75) 25 rfl W1.heap.size 9 i0 (.string ⟨#[]⟩) 1 16 Tryd.underlying25 hi hz0 hz1 hz2 rfl (by decide) _ _ _ rfl (hown.alloc _) ⟨wr.heap.size, 0, none⟩ 1 1 [.string (s.extract b i)] rfl rfl (World.news_of_block (heap_alloc_new _ _)) (by simp [Value.oneCell']) (by unfold maxLen; omega) (by omega) (by have := HW.out; simp; omega) ?_; intro v1 w1 hown1 hgrow1 hn1))
                have hb1 : Hid (Below W1.heap.size W1 w1) := Lib.hid ((hbel.alloc hbel.size _).grown hgrow1 (by have := HW.out; simp; omega) (own_block_ge hown))
                have HO1 : Hid (w1.ownsRow W1.heap.size 9 1 v1 (P ++ [seg s b i]).length (scells ((P ++ [seg s b i]).map bytesOf))) := Lib.hid (by rw [scells_map_next, seg_bytes, List.length_append]; exact hown1)
                clear hown hbel hown1 hgrow1 hn1 HO HB
                go_wp2
                go_roundw
                case rel => exact ⟨i + 1, i + 1, P ++ [seg s b i], false, by omega, Nat.le_refl _, by omega, by rw [List.length_append]; simp; omega, Lib.hid (fun _ => HE.out), Lib.hid (fun h => by omega), HK, Lib.hid (fun _ j hj h1 h2 => by omega), HG, by go_num, by go_num, rfl, HO1, hb1⟩
                case measure => (simp [intOf]; try omega)
        · have Y47 : Hid (¬ s[i]'hlt = 47) := Lib.hid (by rw [hy]; exact not47 c47)
          by_cases hn : NameC y
          · have HE := Lib.hid (cut_byte E.out hbi hlt Y47.out)
            have HN2 : Hid (∀ j (hj : j < s.size), b ≤ j → j < i + 1 → NameC s[j]) := Lib.hid (fun j hj h1 h2 => by
              by_cases e : j = i
              · subst e; rw [HY.out]; exact hn
              · exact HN.out j hj h1 (by omega))
            by_cases h1 : 97 ≤ (y.toNat : Int) ∧ (y.toNat : Int) ≤ 122
            · have HR := Lib.hid h1
              clear h1 hn E HN
              go_wp2_with ((with_reducible refine (range_yes _ HR.out).mono ?_); rintro e w1 ⟨rfl, rfl⟩)
              go_roundw
              case rel => exact ⟨i + 1, b, P, lg, h1b, by omega, by omega, by omega, Lib.hid (fun _ => HE.out), Lib.hid (fun h => by omega), H3, Lib.hid (fun _ => HN2.out), H5, by go_num, rfl, rfl, HO, HB⟩
              case measure => (simp [intOf]; try omega)
            · have h2 : 48 ≤ (y.toNat : Int) ∧ (y.toNat : Int) ≤ 57 := by
                rcases hn with h | h
                · exact absurd ⟨by omega, by omega⟩ h1
                · omega
              have HR := Lib.hid h1
              have HR2 := Lib.hid h2
              clear h1 h2 hn E HN
              go_wp2_with (first | ((with_reducible refine (range_no _ HR.out).mono ?_); rintro e w1 ⟨rfl, rfl⟩) | ((with_reducible refine (range_yes _ HR2.out).mono ?_); rintro e w1 ⟨rfl, rfl⟩))
              go_roundw
              case rel => exact ⟨i + 1, b, P, lg, h1b, by omega, by omega, by omega, Lib.hid (fun _ => HE.out), Lib.hid (fun h => by omega), H3, Lib.hid (fun _ => HN2.out), H5, by go_num, rfl, rfl, HO, HB⟩
              case measure => (simp [intOf]; try omega)
          · have HC : Hid (pathCode s = 1) := Lib.hid (code_bad (by omega) HH.out h1 (cut_bad E.out hlt Y47.out (by rw [hy]; exact hn)))
            have HR : Hid (¬ (97 ≤ (y.toNat : Int) ∧ (y.toNat : Int) ≤ 122)) := Lib.hid (fun h => hn (.inl (by omega)))
            have HR2 : Hid (¬ (48 ≤ (y.toNat : Int) ∧ (y.toNat : Int) ≤ 57)) := Lib.hid (fun h => hn (.inr (by omega)))
            clear hn E HN
            go_wp2_with (first | ((with_reducible refine (range_no _ HR.out).mono ?_); rintro e w1 ⟨rfl, rfl⟩) | ((with_reducible refine (range_no _ HR2.out).mono ?_); rintro e w1 ⟨rfl, rfl⟩))
            go_ret2
            exact gives_none HC.out (.inl (by decide)) NB.out BB.out
      · obtain rfl : i = s.size := by omega
        by_cases hb : b = s.size
        · subst hb
          have HC : Hid (pathCode s = 1) := Lib.hid (code_bad (by omega) HH.out h1 (cut_end_bad E.out))
          go_wp2
          go_ret2
          exact gives_none HC.out (.inl (by decide)) NB.out BB.out
        · have HE := Lib.hid (cut_end E.out)
          have HK : Hid (okP (P ++ [seg s b s.size]) = true) := Lib.hid (by
            rw [okP_append, H3.out, okP_one (fun h => by have := seg_len s b s.size hbi (Nat.le_refl _); rw [h] at this; simp at this; omega) (seg_name (Nat.le_refl _) HN.out)]; rfl)
          clear E HN
          have HG0 : Hid (longP (P ++ [seg s b s.size]) = (lg || decide (7 < s.size - b))) := Lib.hid (by rw [longP_append, longP_one, H5.out, seg_len s b s.size hbi (by omega)])
          clear H3 H5
          cases lg with
          | true =>
            have HG : Hid (longP (P ++ [seg s b s.size]) = true) := Lib.hid (by rw [HG0.out]; rfl)
            clear HG0
            have hown := HO.out
            have hbel := HB.out
            go_wp2_with (first | (at_builtin; refine wpList_append_own _ rfl (.tmp 70) (.tmp 75) 25 rfl W1.heap.size 9 i0 (.string ⟨#[]⟩) 1 16 Tryd.underlying25 hi hz0 hz1 hz2 rfl (by decide) _ _ _ rfl (hown.alloc _) ⟨wr.heap.size, 0, none⟩ 1 1 [.string (s.extract b s.size)] rfl rfl (World.news_of_block (heap_alloc_new _ _)) (by simp [Value.oneCell']) (by unfold maxLen; omega) (by omega) (by have := HW.out; simp; omega) ?_; intro v1 w1 hown1 hgrow1 hn1))
            have hb1 : Hid (Below W1.heap.size W1 w1) := Lib.hid ((hbel.alloc hbel.size _).grown hgrow1 (by have := HW.out; simp; omega) (own_block_ge hown))
            have HO1 : Hid (w1.ownsRow W1.heap.size 9 1 v1 (P ++ [seg s b s.size]).length (scells ((P ++ [seg s b s.size]).map bytesOf))) := Lib.hid (by rw [scells_map_next, seg_bytes, List.length_append]; exact hown1)
            clear hown hbel hown1 hgrow1 hn1 HO HB
            go_wp2
            go_roundw
            case rel => exact ⟨s.size + 1, s.size + 1, P ++ [seg s b s.size], true, by omega, Nat.le_refl _, by omega, by rw [List.length_append]; simp; omega, Lib.hid (fun h => by omega), Lib.hid (fun _ => HE.out), HK, Lib.hid (fun h => by omega), HG, by go_num, by go_num, rfl, HO1, hb1⟩
            case measure => (simp [intOf]; try omega)
          | false =>
            by_cases h7 : 7 < s.size - b
            · have h8 : ((7 : Int) < (s.size : Int) - (b : Int)) := by omega
              have HG : Hid (longP (P ++ [seg s b s.size]) = true) := Lib.hid (by rw [HG0.out, Bool.false_or]; exact decide_eq_true h7)
              clear HG0
              have hown := HO.out
              have hbel := HB.out
              go_wp2_with (first | (at_builtin; refine wpList_append_own _ rfl (.tmp 70) (.tmp 75) 25 rfl W1.heap.size 9 i0 (.string ⟨#[]⟩) 1 16 Tryd.underlying25 hi hz0 hz1 hz2 rfl (by decide) _ _ _ rfl (hown.alloc _) ⟨wr.heap.size, 0, none⟩ 1 1 [.string (s.extract b s.size)] rfl rfl (World.news_of_block (heap_alloc_new _ _)) (by simp [Value.oneCell']) (by unfold maxLen; omega) (by omega) (by have := HW.out; simp; omega) ?_; intro v1 w1 hown1 hgrow1 hn1))
              have hb1 : Hid (Below W1.heap.size W1 w1) := Lib.hid ((hbel.alloc hbel.size _).grown hgrow1 (by have := HW.out; simp; omega) (own_block_ge hown))
              have HO1 : Hid (w1.ownsRow W1.heap.size 9 1 v1 (P ++ [seg s b s.size]).length (scells ((P ++ [seg s b s.size]).map bytesOf))) := Lib.hid (by rw [scells_map_next, seg_bytes, List.length_append]; exact hown1)
              clear hown hbel hown1 hgrow1 hn1 HO HB
              go_wp2
              go_roundw
              case rel => exact ⟨s.size + 1, s.size + 1, P ++ [seg s b s.size], true, by omega, Nat.le_refl _, by omega, by rw [List.length_append]; simp; omega, Lib.hid (fun h => by omega), Lib.hid (fun _ => HE.out), HK, Lib.hid (fun h => by omega), HG, by go_num, by go_num, rfl, HO1, hb1⟩
              case measure => (simp [intOf]; try omega)
            · have h8 : ¬ ((7 : Int) < (s.size : Int) - (b : Int)) := by omega
              have HG : Hid (longP (P ++ [seg s b s.size]) = false) := Lib.hid (by rw [HG0.out, Bool.false_or]; exact decide_eq_false h7)
              clear HG0
              have hown := HO.out
              have hbel := HB.out
              go_wp2_with (first | (at_builtin; refine wpList_append_own _ rfl (.tmp 70) (.tmp 75) 25 rfl W1.heap.size 9 i0 (.string ⟨#[]⟩) 1 16 Tryd.underlying25 hi hz0 hz1 hz2 rfl (by decide) _ _ _ rfl (hown.alloc _) ⟨wr.heap.size, 0, none⟩ 1 1 [.string (s.extract b s.size)] rfl rfl (World.news_of_block (heap_alloc_new _ _)) (by simp [Value.oneCell']) (by unfold maxLen; omega) (by omega) (by have := HW.out; simp; omega) ?_; intro v1 w1 hown1 hgrow1 hn1))
              have hb1 : Hid (Below W1.heap.size W1 w1) := Lib.hid ((hbel.alloc hbel.size _).grown hgrow1 (by have := HW.out; simp; omega) (own_block_ge hown))
              have HO1 : Hid (w1.ownsRow W1.heap.size 9 1 v1 (P ++ [seg s b s.size]).length (scells ((P ++ [seg s b s.size]).map bytesOf))) := Lib.hid (by rw [scells_map_next, seg_bytes, List.length_append]; exact hown1)
              clear hown hbel hown1 hgrow1 hn1 HO HB
              go_wp2
              go_roundw
              case rel => exact ⟨s.size + 1, s.size + 1, P ++ [seg s b s.size], false, by omega, Nat.le_refl _, by omega, by rw [List.length_append]; simp; omega, Lib.hid (fun h => by omega), Lib.hid (fun _ => HE.out), HK, Lib.hid (fun h => by omega), HG, by go_num, by go_num, rfl, HO1, hb1⟩
              case measure => (simp [intOf]; try omega)
    · have E := Lib.hid (H2.out (by omega))
      have HK : Hid (okP (cutP s) = true) := Lib.hid (by rw [E.out]; exact H3.out)
      cases lg with
      | true =>
        have HC : Hid (pathCode s = 2) := Lib.hid (code_name (by omega) HH.out h1 HK.out (by rw [E.out]; exact H5.out))
        go_wp2
        go_ret2
        exact gives_none HC.out (.inl (by decide)) NB.out BB.out
      | false =>
        have HC : Hid (pathCode s = 0) := Lib.hid (code_ok (by omega) HH.out h1 HK.out (by rw [E.out]; exact H5.out))
        have hown := HO.out
        obtain ⟨ad, cap, rfl, hcap, hnc, hr⟩ := own_form hown
        clear hr
        go_wp2
        go_ret2
        exact gives_some E.out HC.out h1 rfl (own_mono15 hown B0.out.size) BB.out
end Go.Proofs.YtmkchilhnmkhkaaDoor
namespace Go.Proofs.YtmkchilhnmkhkaaDoor
open Go.RowKit Go.Proofs.YtmkchilhnmkhkaaDoor.Parts Go.Proofs.YtmkchilhnmkhkaaDoor.Hexa

theorem head_cut {s : ByteArray} (h : headOk s = true) : 1 ≤ s.size ∧ s.extract 0 1 = ⟨#[47]⟩ := by
  obtain ⟨⟨l⟩⟩ := s
  cases l with
  | nil => simp [headOk] at h
  | cons a r =>
    have ha : a = 47 := by simpa [headOk] using h
    subst ha
    refine ⟨by simp [ByteArray.size], ?_⟩
    rw [Lib.extract_eq]
    rfl
theorem head_cut_no {s : ByteArray} (h : headOk s = false) (h1 : 1 ≤ s.size) : ¬ s.extract 0 1 = ⟨#[47]⟩ := by
  intro e
  obtain ⟨⟨l⟩⟩ := s
  cases l with
  | nil => simp [ByteArray.size] at h1
  | cons a r =>
    rw [Lib.extract_eq] at e
    have ha : a = 47 := by simpa using congrArg (fun x : ByteArray => x.data.toList) e
    subst ha
    simp [headOk] at h
theorem rest_data (s : ByteArray) : (s.extract 1 s.size).data.toList = tailL s := by
  rw [Lib.extract_data]
  unfold tailL
  rw [List.take_of_length_le (by rw [List.length_drop, ← Lib.size_eq]; omega)]

set_option maxRecDepth 100000 in
set_option maxHeartbeats 1000000 in
theorem hasPrefix_any (s : ByteArray) (w : World) : Calls Tryd.prog 157 #[.string s, .string ⟨#[47]⟩] w fun e w' => e = .returned (.bool (headOk s)) ∧ w' = w := by
  by_cases h1 : 1 ≤ s.size
  · cases hh : headOk s with
    | true =>
      obtain ⟨_, h2⟩ := head_cut hh
      have h3 : ((s.extract 0 1).toList == [47]) = true := by rw [h2, Go.ByteArray.toList_eq]; rfl
      go_enter Tryd.func157, Tryd.ntmps157
      go_wp2
      go_ret
      exact ⟨by first | rfl | (rw [h3]; rfl) | (simp [h3]), rfl⟩
    | false =>
      have h2 := head_cut_no hh h1
      have h3 : ((s.extract 0 1).toList == [47]) = false := by rw [← slash_list]; exact text_neB h2
      go_enter Tryd.func157, Tryd.ntmps157
      go_wp2
      go_ret
      exact ⟨by first | rfl | (rw [h3]; rfl) | (simp [h3]), rfl⟩
  · have hh := headOk_none (show s.size = 0 by omega)
    have h0 : s.size = 0 := by omega
    rw [hh]
    go_enter Tryd.func157, Tryd.ntmps157
    go_wp2
    go_ret
    exact ⟨rfl, rfl⟩
/-- What is left of a path behind its first slash. -/
def CutIs (s : ByteArray) (w : World) (e : Ending) (w' : World) : Prop :=
  ((headOk s = true ∧ e = .returned (.tuple #[.string (s.extract 1 s.size), .bool true])) ∨ (headOk s = false ∧ e = .returned (.tuple #[.string s, .bool false]))) ∧ w' = w
set_option maxRecDepth 100000 in
set_option maxHeartbeats 1000000 in
theorem cutLite_any (s : ByteArray) (w : World) : Calls Tryd.prog 140 #[.string s, .string ⟨#[47]⟩] w (CutIs s w) := by
  cases hh : headOk s with
  | true =>
    have h1 := (head_cut hh).1
    have HH := Lib.hid hh
    go_enter Tryd.func140, Tryd.ntmps140
    go_wp2_with fail
    refine (hasPrefix_any s _).mono ?_
    rw [HH.out]
    rintro e w1 ⟨rfl, rfl⟩
    clear hh
    go_wp2
    refine bodyPost_ret (v := .tuple #[.string (s.extract 1 s.size), .bool true]) ?_ rfl ⟨.inl ⟨HH.out, rfl⟩, rfl⟩
    simp [results, Tryd.results140, go_sem]
  | false =>
    have HH := Lib.hid hh
    go_enter Tryd.func140, Tryd.ntmps140
    go_wp2_with fail
    refine (hasPrefix_any s _).mono ?_
    rw [HH.out]
    rintro e w1 ⟨rfl, rfl⟩
    clear hh
    go_wp2
    refine bodyPost_ret (v := .tuple #[.string s, .bool false]) ?_ rfl ⟨.inr ⟨HH.out, rfl⟩, rfl⟩
    simp [results, Tryd.results140, go_sem]
set_option maxRecDepth 100000 in
set_option maxHeartbeats 1000000 in
theorem cutPrefix_any (s : ByteArray) (w : World) : Calls Tryd.prog 105 #[.string s, .string ⟨#[47]⟩] w (CutIs s w) := by
  go_enter Tryd.func105, Tryd.ntmps105
  go_wp2_with fail
  refine (cutLite_any s _).mono ?_
  rintro e w1 ⟨⟨hh, rfl⟩ | ⟨hh, rfl⟩, rfl⟩
  · have HH := Lib.hid hh
    clear hh
    go_wp2
    refine bodyPost_ret (v := .tuple #[.string (s.extract 1 s.size), .bool true]) ?_ rfl ⟨.inl ⟨HH.out, rfl⟩, rfl⟩
    simp [results, Tryd.results105, go_sem]
  · have HH := Lib.hid hh
    clear hh
    go_wp2
    refine bodyPost_ret (v := .tuple #[.string s, .bool false]) ?_ rfl ⟨.inr ⟨HH.out, rfl⟩, rfl⟩
    simp [results, Tryd.results105, go_sem]

/-- The pieces of a text at its slashes, in a new row. -/
def SplitIs (P : List (List UInt8)) (w : World) (e : Ending) (w' : World) : Prop :=
  e = .returned (.slice (some ⟨w.heap.size, 0, none⟩) P.length P.length) ∧ w'.ownsRow w.heap.size 9 1 (.slice (some ⟨w.heap.size, 0, none⟩) P.length P.length) P.length (scells (P.map bytesOf)) ∧ Below w.heap.size w w'
end Go.Proofs.YtmkchilhnmkhkaaDoor
namespace Go.Proofs.YtmkchilhnmkhkaaDoor
open Go.RowKit Go.Proofs.YtmkchilhnmkhkaaDoor.Parts Go.Proofs.YtmkchilhnmkhkaaDoor.Hexa

theorem infoSp : (Tryd.prog.info? (Tryd.lays221_ren.t 9)).map (fun i => (i.zero, i.size, i.bytes)) = some (some (.string ByteArray.empty), 1, 16) := by kernel_rfl
set_option maxRecDepth 100000 in
set_option maxHeartbeats 1000000 in
theorem genSplit_any (r : ByteArray) (w : World) (hr : r.size ≤ 60) :
    Calls Tryd.prog 141 #[.string r, .string ⟨#[47]⟩, .int .i64 0, .int .i64 (-1)] w (SplitIs (cutGo [] r.data.toList) w) := by
  have hle := Lib.countB_le ⟨#[47]⟩ (by decide) r.size r (Nat.le_refl _)
  have c := Any.strings_genSplit_core Tryd.lays221 infoSp r ⟨#[47]⟩ 0 (-1) (Lib.countB r ⟨#[47]⟩ + 1) w (by omega) (by decide) (Nat.zero_le _)
    (fun x cs _ => (Tryd.strings_Index_one x 47 _).mono (fun e w' ⟨he, hw⟩ => ⟨by rw [he]; exact congrArg (fun z => Ending.returned (Value.int .i64 z)) (Lib.index_one x.data.toList 47).symm, hw⟩))
    ((Tryd.strings_Count_one r 47 w).mono (fun e w' ⟨he, hw⟩ => ⟨by
      rw [he]
      show _ = Ending.returned (Value.int .i64 ((Lib.count r.data.toList [47] : Nat) : Int))
      rw [Lib.count_one]
      rfl, hw⟩))
    (by decide) (by decide) (by rw [if_pos (by decide)]; omega)
  have hlen := Lib.splitB_all ⟨#[47]⟩ (by decide) 0 _ r rfl
  have e1 : (Lib.splitB ⟨#[47]⟩ 0 (Lib.countB r ⟨#[47]⟩ + 1 - 1) r) = (cutGo [] r.data.toList).map bytesOf := by
    rw [Nat.add_sub_cancel]; exact split_cut r
  have e2 : Lib.countB r ⟨#[47]⟩ + 1 = (cutGo [] r.data.toList).length := by
    rw [← hlen, split_cut, List.length_map]
  rw [e1, e2, List.length_map] at c
  refine c.mono ?_
  rintro e w' ⟨he, hw⟩
  subst hw
  have e3 : Lib.cellsOf ((cutGo [] r.data.toList).map bytesOf) (cutGo [] r.data.toList).length = (scells ((cutGo [] r.data.toList).map bytesOf)).toArray := by
    have h := Lib.cellsOf_full ((cutGo [] r.data.toList).map bytesOf)
    rw [List.length_map] at h
    exact h
  have hl := cutGo_len r.data.toList []
  refine ⟨he, ?_, (Below.refl _ _).alloc (Nat.le_refl _) _⟩
  rw [e3]
  change (w.alloc (.cells (scells ((cutGo [] r.data.toList).map bytesOf)).toArray 9)).ownsRow _ _ _ _ _ _
  have h := World.ownsRow_lit (base := w.heap.size) (e := 9) (size := 1) w (scells ((cutGo [] r.data.toList).map bytesOf)).toArray (cutGo [] r.data.toList).length (Nat.le_refl _) (by unfold maxLen; rw [← Lib.size_eq] at hl; omega) (by simp [scells])
  simpa using h
set_option maxRecDepth 100000 in
set_option maxHeartbeats 1000000 in
theorem split_any (r : ByteArray) (P : List (List UInt8)) (w : World) (hr : r.size ≤ 60) (hP : cutGo [] r.data.toList = P) :
    Calls Tryd.prog 106 #[.string r, .string ⟨#[47]⟩] w (SplitIs P w) := by
  subst hP
  have HC := Lib.hid (genSplit_any r w hr)
  go_enter Tryd.func106, Tryd.ntmps106
  go_wp2_with fail
  refine HC.out.mono ?_
  rintro e w' ⟨rfl, ho, hb⟩
  have HO := Lib.hid ho
  have HB := Lib.hid hb
  clear ho hb
  go_wp2
  go_ret
  exact ⟨rfl, HO.out, HB.out⟩
end Go.Proofs.YtmkchilhnmkhkaaDoor
namespace Go.Proofs.YtmkchilhnmkhkaaDoor
open Go.RowKit

set_option maxRecDepth 100000 in
set_option maxHeartbeats 400000 in
theorem implIn_any (n a b : Int) (w : World) : Calls Tryd.prog 96 #[.int .i64 n, .int .i64 a, .int .i64 b] w fun e w' => e = .returned (.bool (decide (a ≤ n ∧ n ≤ b))) ∧ w' = w := by
  by_cases h1 : a ≤ n <;> by_cases h2 : n ≤ b
  all_goals
    go_enter Tryd.func96, Tryd.ntmps96
    go_wp2
    all_goals go_ret
    all_goals exact ⟨by simp [h1, h2], rfl⟩
theorem implIn_yes {n a b : Int} (w : World) (h : a ≤ n ∧ n ≤ b) : Calls Tryd.prog 96 #[.int .i64 n, .int .i64 a, .int .i64 b] w fun e w' => e = .returned (.bool true) ∧ w' = w :=
  (implIn_any n a b w).mono fun _ _ ⟨he, hw⟩ => ⟨by rw [he, decide_eq_true h], hw⟩
theorem implIn_no {n a b : Int} (w : World) (h : ¬ (a ≤ n ∧ n ≤ b)) : Calls Tryd.prog 96 #[.int .i64 n, .int .i64 a, .int .i64 b] w fun e w' => e = .returned (.bool false) ∧ w' = w :=
  (implIn_any n a b w).mono fun _ _ ⟨he, hw⟩ => ⟨by rw [he, decide_eq_false h], hw⟩

end Go.Proofs.YtmkchilhnmkhkaaDoor
namespace Go.Proofs.YtmkchilhnmkhkaaDoor
open Go.RowKit Go.Proofs.YtmkchilhnmkhkaaDoor.Parts Go.Proofs.YtmkchilhnmkhkaaDoor.Hexa Go.Proofs.YtmkchilhnmkhkaaDoor.Byt

set_option maxRecDepth 100000 in
set_option maxHeartbeats 1000000 in
theorem implNameByte_any (n : Int) (w : World) :
    Calls Tryd.prog 139 #[.int .u8 n] w fun e w' => e = .returned (.bool (decide ((97 ≤ n ∧ n ≤ 122) ∨ (48 ≤ n ∧ n ≤ 57)))) ∧ w' = w := by
  by_cases h1 : 97 ≤ n <;> by_cases h2 : n ≤ 122 <;> by_cases h3 : 48 ≤ n <;> by_cases h4 : n ≤ 57
  all_goals
    go_enter Tryd.func139, Tryd.ntmps139
    go_wp2
    all_goals go_ret
    all_goals exact ⟨by simp [h1, h2, h3, h4], rfl⟩
theorem implNameByte_yes {b : UInt8} (w : World) (h : NameC b) :
    Calls Tryd.prog 139 #[.int .u8 (b.toNat : Int)] w fun e w' => e = .returned (.bool true) ∧ w' = w :=
  (implNameByte_any (b.toNat : Int) w).mono fun _ _ ⟨he, hw⟩ => ⟨by rw [he, decide_eq_true (by rcases h with h | h <;> omega)], hw⟩
theorem implNameByte_no {b : UInt8} (w : World) (h : ¬ NameC b) :
    Calls Tryd.prog 139 #[.int .u8 (b.toNat : Int)] w fun e w' => e = .returned (.bool false) ∧ w' = w :=
  (implNameByte_any (b.toNat : Int) w).mono fun _ _ ⟨he, hw⟩ => ⟨by rw [he, decide_eq_false (fun x => h (by rcases x with x | x; exact .inl (by omega); exact .inr (by omega)))], hw⟩

/-- Every byte of it may stand in a name. -/
def nameBytes (s : ByteArray) : Bool := decide (∀ b ∈ s.data.toList, NameC b)
theorem nameBytes_yes {s : ByteArray} (h : ∀ j (hj : j < s.size), NameC s[j]) : nameBytes s = true := decide_eq_true (fun b hb => by
  obtain ⟨j, hj, rfl⟩ := List.mem_iff_getElem.1 hb
  have hj' : j < s.size := by simpa using hj
  exact h j hj')
theorem nameBytes_no {s : ByteArray} (j : Nat) (hj : j < s.size) (h : ¬ NameC s[j]) : nameBytes s = false := decide_eq_false (fun h2 => h (h2 _ (by
  rw [show s[j] = s.data.toList[j]'(by simpa using hj) from rfl]
  exact List.getElem_mem _)))
theorem nameB_split (s : ByteArray) : nameB s = (decide (1 ≤ s.size ∧ s.size ≤ 7) && nameBytes s) := by
  unfold nameB nameBytes NameR
  by_cases h1 : 1 ≤ s.size ∧ s.size ≤ 7 <;> simp [h1]

set_option maxRecDepth 100000 in
set_option maxHeartbeats 1000000 in
theorem implNameBytes_any (s : ByteArray) (w : World) (hs : s.size ≤ 2000000) :
    Calls Tryd.prog 99 #[.string s] w fun e w' => e = .returned (.bool (nameBytes s)) ∧ w' = w := by
  go_enter Tryd.func99, Tryd.ntmps99
  go_wp2
  go_loop [6] (fun i => ∃ k : Nat, k ≤ s.size ∧ i = .int .i64 k ∧ Hid (∀ j (hj : j < s.size), j < k → NameC s[j])) (fun i => s.size - (intOf i).toNat)
  case atStart => exact ⟨0, Nat.zero_le _, rfl, Lib.hid (fun j hj h => by omega)⟩
  case round =>
    obtain ⟨k, hk, rfl, HA⟩ := hrel
    by_cases hlt : k < s.size
    · obtain ⟨b, hb⟩ : ∃ b, s[k]'hlt = b := ⟨_, rfl⟩
      have hb255 := b.toNat_lt
      have HB := Lib.hid hb
      by_cases h1 : NameC b
      · have HR := Lib.hid h1
        have HA2 : Hid (∀ j (hj : j < s.size), j < k + 1 → NameC s[j]) := Lib.hid (fun j hj h => by
          by_cases e : j = k
          · subst e; rw [HB.out]; exact HR.out
          · exact HA.out j hj (by omega))
        clear h1
        go_wp2_with ((with_reducible refine (implNameByte_yes _ HR.out).mono ?_); rintro e w1 ⟨rfl, rfl⟩)
        go_round
        case rel => exact ⟨k + 1, by omega, by go_num, HA2⟩
        case measure => (simp [intOf]; try omega)
      · have HR := Lib.hid h1
        have HN : Hid (nameBytes s = false) := Lib.hid (nameBytes_no k hlt (by rw [hb]; exact h1))
        clear h1
        go_wp2_with ((with_reducible refine (implNameByte_no _ HR.out).mono ?_); rintro e w1 ⟨rfl, rfl⟩)
        go_ret
        exact ⟨by rw [HN.out]; rfl, rfl⟩
    · obtain rfl : k = s.size := by omega
      have HN : Hid (nameBytes s = true) := Lib.hid (nameBytes_yes (fun j hj => HA.out j hj hj))
      go_wp2
      go_ret
      exact ⟨by rw [HN.out]; rfl, rfl⟩
set_option maxRecDepth 100000 in
set_option maxHeartbeats 1000000 in
theorem implName_any (s : ByteArray) (w : World) (hs : s.size ≤ 2000000) :
    Calls Tryd.prog 50 #[.string s] w fun e w' => e = .returned (.bool (nameB s)) ∧ w' = w := by
  by_cases hl : (1 : Int) ≤ (s.size : Int) ∧ (s.size : Int) ≤ 7
  · have HL := Lib.hid hl
    have HN : Hid (nameBytes s = nameB s) := Lib.hid (by rw [nameB_split, decide_eq_true (show 1 ≤ s.size ∧ s.size ≤ 7 by omega)]; rfl)
    clear hl
    go_enter Tryd.func50, Tryd.ntmps50
    go_wp2_with (first
      | ((with_reducible refine (implIn_yes _ HL.out).mono ?_); rintro e w1 ⟨rfl, rfl⟩)
      | ((with_reducible refine (implNameBytes_any s _ hs).mono ?_); rintro e w1 ⟨rfl, rfl⟩))
    go_ret
    exact ⟨by rw [HN.out]; rfl, rfl⟩
  · have HL := Lib.hid hl
    have HN : Hid (nameB s = false) := Lib.hid (nameB_no (fun h => hl (by have := h.1; omega)))
    clear hl
    go_enter Tryd.func50, Tryd.ntmps50
    go_wp2_with ((with_reducible refine (implIn_no _ HL.out).mono ?_); rintro e w1 ⟨rfl, rfl⟩)
    go_ret
    exact ⟨by rw [HN.out]; rfl, rfl⟩
end Go.Proofs.YtmkchilhnmkhkaaDoor
namespace Go.Proofs.YtmkchilhnmkhkaaDoor
open Go.RowKit

set_option maxRecDepth 100000 in
set_option maxHeartbeats 400000 in
theorem cloneText_any (s : ByteArray) (w : World) (hs : s.size ≤ 2000000) :
    Calls Tryd.prog 72 #[.string s] w fun e w' => e = .returned (.string s) ∧ Below w.heap.size w w' := by
  go_enter Tryd.func72, Tryd.ntmps72
  go_wp2_with (go_at_call 130; refine (Tryd.stringslite_Clone _ _ (by omega)).mono ?_; rintro e w1 ⟨rfl, hb1⟩)
  go_ret
  exact ⟨rfl, hb1⟩
end Go.Proofs.YtmkchilhnmkhkaaDoor
namespace Go.Proofs.YtmkchilhnmkhkaaDoor
open Go.RowKit Go.Proofs.YtmkchilhnmkhkaaDoor.Parts Go.Proofs.YtmkchilhnmkhkaaDoor.Hexa Go.Proofs.YtmkchilhnmkhkaaDoor.Byt

/-- What namesIn tells: an error with the code, or the names. -/
def NamesPost (s : ByteArray) (w : World) (e : Ending) (w' : World) : Prop :=
  ((pathCode s ≠ 0 ∧ e = .returned (.tuple #[.slice none 0 0, .iface 79 (.agg #[.int .i64 (pathCode s)])])) ∨
   (pathCode s = 0 ∧ ∃ v, e = .returned (.tuple #[v, .nilIface]) ∧ w'.ownsRow w.heap.size 9 1 v (pathNames s).length (scells (pathNames s)))) ∧ Below w.heap.size w w'
theorem names_err {s : ByteArray} {c : Int} {w w' : World} (h : pathCode s = c) (hc : c ≠ 0) (hb : Below w.heap.size w w') : NamesPost s w (.returned (.tuple #[.slice none 0 0, .iface 79 (.agg #[.int .i64 c])])) w' := by
  subst h
  exact ⟨.inl ⟨hc, rfl⟩, hb⟩
theorem full_of {x : ByteArray} (h : ¬ x = ⟨#[]⟩) : 0 < x.size := by
  obtain ⟨⟨l⟩⟩ := x
  cases l with
  | nil => exact absurd rfl h
  | cons a b => have h9 : (⟨⟨a :: b⟩⟩ : ByteArray).size = b.length + 1 := rfl
                omega
theorem nameL_bytes {p : List UInt8} (h0 : ¬ bytesOf p = ⟨#[]⟩) (h : nameBytes (bytesOf p) = true) : nameL p = true := by
  refine (nameL_iff p).2 ⟨fun e => h0 (by rw [e]; rfl), fun b hb => ?_⟩
  exact (of_decide_eq_true h : ∀ b ∈ (bytesOf p).data.toList, NameC b) b hb
theorem nameL_empty : nameL [] = false := rfl
theorem nameL_bad {p : List UInt8} (h : nameBytes (bytesOf p) = false) : nameL p = false := by
  cases hq : nameL p with
  | false => rfl
  | true =>
    have h2 := ((nameL_iff p).1 hq).2
    have h3 : nameBytes (bytesOf p) = true := decide_eq_true (fun b hb => h2 b hb)
    rw [h3] at h; cases h
theorem getD_in {P : List (List UInt8)} {j : Nat} (h : j < P.length) : P.getD j [] ∈ P := by
  simp [List.getD, h]
theorem okP_at {P : List (List UInt8)} {j : Nat} (h : j < P.length) (hq : nameL (P.getD j []) = false) : okP P = false := by
  cases hk : okP P with
  | false => rfl
  | true =>
    have := (List.all_eq_true.1 hk) _ (getD_in h)
    rw [hq] at this; cases this
theorem okP_all {P : List (List UInt8)} (h : ∀ j, j < P.length → nameL (P.getD j []) = true) : okP P = true := by
  refine List.all_eq_true.2 (fun p hp => ?_)
  obtain ⟨j, hj, rfl⟩ := List.mem_iff_getElem.1 hp
  have := h j hj
  simpa [List.getD, hj] using this
theorem longP_at {P : List (List UInt8)} {j : Nat} (h : j < P.length) (hq : 7 < (P.getD j []).length) : longP P = true :=
  List.any_eq_true.2 ⟨_, getD_in h, decide_eq_true hq⟩
theorem longP_all {P : List (List UInt8)} (h : ∀ j, j < P.length → ¬ 7 < (P.getD j []).length) : longP P = false := by
  refine List.any_eq_false.2 (fun p hp => ?_)
  obtain ⟨j, hj, rfl⟩ := List.mem_iff_getElem.1 hp
  have := h j hj
  simpa [List.getD, hj] using this
theorem cell_at {P : List (List UInt8)} {j : Nat} (h : j < P.length) : (scells (P.map bytesOf))[j]? = some (.string (bytesOf (P.getD j []))) := by
  simp [scells, List.getD, h]
theorem set_same {P : List (List UInt8)} {j : Nat} (h : j < P.length) : (scells (P.map bytesOf)).set j (.string (bytesOf (P.getD j []))) = scells (P.map bytesOf) := by
  apply List.ext_getElem?
  intro k
  rw [List.getElem?_set]
  by_cases e : j = k
  · subst e
    rw [if_pos rfl, if_pos (by simpa [scells] using h), cell_at h]
  · rw [if_neg e]

set_option maxRecDepth 100000 in
set_option maxHeartbeats 4000000 in
theorem implNames_any (s : ByteArray) (w : World) (hs : s.size ≤ 2000000) :
    Calls Tryd.prog 54 #[.string s] w (NamesPost s w) := by
  cases hh : headOk s with
  | false =>
    have HC := Lib.hid (code_head hh)
    have HH := Lib.hid hh
    go_enter Tryd.func54, Tryd.ntmps54
    go_wp2_with fail
    refine (cutPrefix_any s _).mono ?_
    rintro e w1 ⟨⟨h9, _⟩ | ⟨_, rfl⟩, rfl⟩
    · rw [HH.out] at h9; cases h9
    clear hh
    go_wp2
    refine bodyPost_ret (v := .tuple #[.slice none 0 0, .iface 79 (.agg #[.int .i64 1])]) ?_ rfl (names_err HC.out (by decide) (Below.refl _ _))
    simp [results, Tryd.results54, go_sem]
  | true =>
    have HH := Lib.hid hh
    by_cases h60 : 60 < s.size
    · have HC := Lib.hid (code_long h60)
      go_enter Tryd.func54, Tryd.ntmps54
      go_wp2_with fail
      refine (cutPrefix_any s _).mono ?_
      rintro e w1 ⟨⟨_, rfl⟩ | ⟨h9, _⟩, rfl⟩
      case inr => rw [HH.out] at h9; cases h9
      clear hh
      go_wp2
      refine bodyPost_ret (v := .tuple #[.slice none 0 0, .iface 79 (.agg #[.int .i64 1])]) ?_ rfl (names_err HC.out (by decide) (Below.refl _ _))
      simp [results, Tryd.results54, go_sem]
    obtain ⟨r, hr⟩ : ∃ r, s.extract 1 s.size = r := ⟨_, rfl⟩
    have HR := Lib.hid hr
    have hrs : r.size = s.size - 1 := by rw [← hr]; simp
    by_cases h1 : s.size = 1
    · have HC := Lib.hid (code_root hh h1)
      have HN : Hid (pathNames s = []) := Lib.hid (by unfold pathNames; rw [if_neg (fun h => h.2 h1)])
      have hr0 : r = ⟨#[]⟩ := by
        obtain ⟨⟨l⟩⟩ := r
        cases l with
        | nil => rfl
        | cons a b =>
          have h9 : (⟨⟨a :: b⟩⟩ : ByteArray).size = b.length + 1 := rfl
          omega
      subst hr0
      go_enter Tryd.func54, Tryd.ntmps54
      go_wp2_with fail
      refine (cutPrefix_any s _).mono ?_
      rintro e w1 ⟨⟨_, rfl⟩ | ⟨h9, _⟩, rfl⟩
      case inr => rw [HH.out] at h9; cases h9
      rw [HR.out]
      clear hh hr
      go_wp2
      refine bodyPost_ret (v := .tuple #[.slice none 0 0, .nilIface]) ?_ rfl ⟨.inr ⟨HC.out, _, rfl, ?_⟩, Below.refl _ _⟩
      · simp [results, Tryd.results54, go_sem]
      · rw [HN.out]; exact World.ownsRow_nil _ _ _ _
    have h8 := (head_cut hh).1
    have hr0 : ¬ r = ⟨#[]⟩ := by
      intro h
      have h9 : r.size = 0 := by rw [h]; rfl
      omega
    have ir := text_full r (full_of hr0)
    obtain ⟨P, hP⟩ : ∃ P, cutP s = P := ⟨_, rfl⟩
    have HP := Lib.hid hP
    have hPl : P.length ≤ 61 := by
      rw [← hP]
      have h2 := cutGo_len (tailL s) []
      have h3 : (tailL s).length ≤ s.size := by unfold tailL; rw [List.length_drop, Lib.size_eq]; omega
      show (cutGo [] (tailL s)).length ≤ 61
      omega
    have HPm : Hid (∀ j, j < P.length → (bytesOf (P.getD j [])).size ≤ 60) := Lib.hid (fun j hj => by
      rw [bytesOf_size]
      have h2 := cutGo_mem (tailL s) [] _ (by have := getD_in hj; rw [← hP] at this; exact this)
      have h3 : (tailL s).length ≤ s.size := by unfold tailL; rw [List.length_drop, Lib.size_eq]; omega
      have h4 : ([] : List UInt8).length = 0 := rfl
      rw [hP] at h2
      omega)
    have HCut : Hid (cutGo [] r.data.toList = P) := Lib.hid (by rw [← hr, rest_data]; exact hP)
    clear hP
    go_enter Tryd.func54, Tryd.ntmps54
    go_wp2_with fail
    refine (cutPrefix_any s _).mono ?_
    rintro e w1 ⟨⟨_, rfl⟩ | ⟨h9, _⟩, rfl⟩
    case inr => rw [HH.out] at h9; cases h9
    rw [HR.out]
    clear hh hr
    go_wp2_with fail
    refine (split_any r P w1 (by omega) HCut.out).mono ?_
    rintro e w2 ⟨rfl, ho, hb⟩
    have O2 := Lib.hid ho
    have B2 := Lib.hid hb
    clear ho hb hrs
    go_wp2
    go_loopw [31] (fun kv wr => ∃ k : Nat, k ≤ P.length ∧ kv = .int .i64 k ∧ Hid (∀ j, j < k → nameL (P.getD j []) = true) ∧ w2 = wr) (fun kv _ => P.length - (intOf kv).toNat)
    case atStart => exact ⟨0, Nat.zero_le _, rfl, Lib.hid (fun j hj => by omega), rfl⟩
    case round =>
      obtain ⟨k, hk, rfl, HA, rfl⟩ := hrel
      by_cases hlt : k < P.length
      · obtain ⟨x, hx⟩ : ∃ x, bytesOf (P.getD k []) = x := ⟨_, rfl⟩
        have hc : w2.cell? ⟨w1.heap.size, k, none⟩ = some (.string x) := by
          rw [O2.out.cellAt k (by omega), cell_at hlt, hx]
        have hx60 := HPm.out k hlt
        rw [hx] at hx60
        have HX := Lib.hid hx
        clear hx
        by_cases h0 : x = ⟨#[]⟩
        · have HC : Hid (pathCode s = 1) := Lib.hid (code_bad (by omega) HH.out h1 (by
            rw [HP.out]
            refine okP_at hlt ?_
            have h8 : P.getD k [] = [] := by
              have h9 := congrArg (fun z : ByteArray => z.data.toList) (HX.out.trans h0)
              exact h9
            rw [h8]; rfl))
          subst h0
          go_wp2
          refine bodyPost_ret (v := .tuple #[.slice none 0 0, .iface 79 (.agg #[.int .i64 1])]) ?_ rfl (names_err HC.out (by decide) B2.out)
          simp [results, Tryd.results54, go_sem]
        · have ix := text_full x (full_of h0)
          cases hb : nameBytes x with
          | true =>
            have HB := Lib.hid hb
            have HA2 : Hid (∀ j, j < k + 1 → nameL (P.getD j []) = true) := Lib.hid (fun j hj => by
              by_cases e : j = k
              · subst e; exact nameL_bytes (by rw [HX.out]; exact h0) (by rw [HX.out]; exact HB.out)
              · exact HA.out j (by omega))
            go_wp2_with fail
            refine (implNameBytes_any x _ (by omega)).mono ?_
            rw [HB.out]
            rintro e w3 ⟨rfl, rfl⟩
            clear hb hc h0 ix
            go_wp2
            go_roundw
            case rel => exact ⟨k + 1, by omega, by go_num, HA2, by first | rfl | trivial⟩
            case measure => (simp [intOf]; try omega)
          | false =>
            have HB := Lib.hid hb
            have HC : Hid (pathCode s = 1) := Lib.hid (code_bad (by omega) HH.out h1 (by
              rw [HP.out]
              exact okP_at hlt (nameL_bad (by rw [HX.out]; exact HB.out))))
            go_wp2_with fail
            refine (implNameBytes_any x _ (by omega)).mono ?_
            rw [HB.out]
            rintro e w3 ⟨rfl, rfl⟩
            clear hb hc h0 ix
            go_wp2
            refine bodyPost_ret (v := .tuple #[.slice none 0 0, .iface 79 (.agg #[.int .i64 1])]) ?_ rfl (names_err HC.out (by decide) B2.out)
            simp [results, Tryd.results54, go_sem]
      · obtain rfl : k = P.length := by omega
        have HK : Hid (okP (cutP s) = true) := Lib.hid (by rw [HP.out]; exact okP_all HA.out)
        clear hk hlt HA
        go_wp2
        go_loopw [47] (fun kv wr => ∃ k : Nat, k ≤ P.length ∧ kv = .int .i64 k ∧ Hid (∀ j, j < k → ¬ 7 < (P.getD j []).length) ∧ Hid (wr.ownsRow w1.heap.size 9 1 (.slice (some ⟨w1.heap.size, 0, none⟩) P.length P.length) P.length (scells (P.map bytesOf))) ∧ Hid (Below w1.heap.size w1 wr)) (fun kv _ => P.length - (intOf kv).toNat)
        case atStart => exact ⟨0, Nat.zero_le _, rfl, Lib.hid (fun j hj => by omega), O2, B2⟩
        case round =>
          clear O2 B2
          obtain ⟨k, hk, rfl, HA, HO, HB⟩ := hrel
          by_cases hlt : k < P.length
          · obtain ⟨x, hx⟩ : ∃ x, bytesOf (P.getD k []) = x := ⟨_, rfl⟩
            have hc : wr.cell? ⟨w1.heap.size, k, none⟩ = some (.string x) := by
              rw [HO.out.cellAt k (by omega), cell_at hlt, hx]
            have hx60 := HPm.out k hlt
            rw [hx] at hx60
            have HX := Lib.hid hx
            have HL : Hid (x.size = (P.getD k []).length) := Lib.hid (by rw [← hx, bytesOf_size])
            clear hx
            by_cases h7 : (7 : Int) < (x.size : Int)
            · have HC : Hid (pathCode s = 2) := Lib.hid (code_name (by omega) HH.out h1 HK.out (by
                rw [HP.out]
                exact longP_at hlt (by have := HL.out; omega)))
              go_wp2
              refine bodyPost_ret (v := .tuple #[.slice none 0 0, .iface 79 (.agg #[.int .i64 2])]) ?_ rfl (names_err HC.out (by decide) HB.out)
              simp [results, Tryd.results54, go_sem]
            · have HA2 : Hid (∀ j, j < k + 1 → ¬ 7 < (P.getD j []).length) := Lib.hid (fun j hj => by
                by_cases e : j = k
                · subst e; have := HL.out; omega
                · exact HA.out j (by omega))
              clear HA
              go_wp2_with fail
              refine (cloneText_any x _ (by omega)).mono ?_
              rintro e w3 ⟨rfl, hb3⟩
              have HO3 := Lib.hid (own_below HO.out hb3)
              have HB3 : Hid (Below w1.heap.size w1 w3) := Lib.hid (HB.out.trans (hb3.mono HB.out.size))
              obtain ⟨y, hy⟩ : ∃ y, w3.cell? ⟨w1.heap.size, k, none⟩ = some y := ⟨_, by rw [HO3.out.cellAt k (by omega), cell_at hlt]⟩
              have hfz := HO3.out.frozenAt k
              have HS : Hid ((w3.setCell ⟨w1.heap.size, k, none⟩ (.string x)).ownsRow w1.heap.size 9 1 (.slice (some ⟨w1.heap.size, 0, none⟩) P.length P.length) P.length (scells (P.map bytesOf))) := Lib.hid (by
                have h9 := (HO3.out.stored k (.string x)).1
                rw [← HX.out, set_same hlt] at h9
                rw [← HX.out]
                exact h9)
              have HB4 : Hid (Below w1.heap.size w1 (w3.setCell ⟨w1.heap.size, k, none⟩ (.string x))) := Lib.hid (HB3.out.setCell (Nat.le_refl _) _)
              clear hc hb3 HO HB
              go_wp2
              clear hy hfz
              go_roundw
              case rel => exact ⟨k + 1, by omega, by go_num, HA2, HS, HB4⟩
              case measure => (simp [intOf]; try omega)
          · obtain rfl : k = P.length := by omega
            have HC : Hid (pathCode s = 0) := Lib.hid (code_ok (by omega) HH.out h1 HK.out (by rw [HP.out]; exact longP_all HA.out))
            have HN : Hid (pathNames s = P.map bytesOf) := Lib.hid (by unfold pathNames; rw [if_pos ⟨HC.out, h1⟩, HP.out])
            go_wp2
            refine bodyPost_ret (v := .tuple #[.slice (some ⟨w1.heap.size, 0, none⟩) P.length P.length, .nilIface]) ?_ rfl ⟨.inr ⟨HC.out, _, rfl, ?_⟩, HB.out⟩
            · simp [results, Tryd.results54, go_sem]
            · rw [HN.out, List.length_map]; exact HO.out
end Go.Proofs.YtmkchilhnmkhkaaDoor
namespace Go.Proofs.YtmkchilhnmkhkaaDoor
open Go.RowKit Go.Extern.Stop Go.Stop Go.Extern

theorem errAs_nil (t : Value) (w : World) :
    Calls Tryd.prog 55 #[.nilIface, t] w fun e w' => e = .returned (.bool false) ∧ w' = w := by
  go_enter Tryd.func55, Tryd.ntmps55
  go_wp2
  go_ret
  exact ⟨rfl, rfl⟩

theorem ea_valueOfP (t : Addr) (w : World) : (ReflectliteValue.unpack (.iface 81 (.pointer (some t)))).run Tryd.prog w
    = .ok (.agg #[.pointer (some ⟨4, 81, none⟩), .pointer (some ⟨w.heap.size, 0, none⟩), .int .u64 150]) (w.alloc (.cells #[.pointer (some t)] 81)) := by kernel_rfl
theorem ea_typeP (a : Addr) (w : World) : (ReflectliteValue.methodAny (ReflectliteValue.valueError "reflectlite.Value.Type" 0) (fun t _ _ _ => ReflectliteType.toType t) #[.agg #[.pointer (some ⟨4, 81, none⟩), .pointer (some a), .int .u64 150]]).run Tryd.prog w
    = .ok (.iface 174 (.agg #[.pointer (some ⟨4, 81, none⟩)])) w := by kernel_rfl
theorem ea_methodKind (h : Value) (w : World) : (Go.method 345 174 (.agg #[h]) "Kind").run Tryd.prog w = .ok (197, h) w := by kernel_rfl
theorem ea_kindP (w : World) : ((ReflectliteType.abiMethod fun t => (fun a : Nat => Value.int IntKind.u8 (a : Int)) <$> Rtype.kind t) #[.pointer (some ⟨4, 81, none⟩)]).run Tryd.prog w = .ok (.int .u8 22) w := by kernel_rfl
theorem ea_kindE (w : World) : ((ReflectliteType.abiMethod fun t => (fun a : Nat => Value.int IntKind.u8 (a : Int)) <$> Rtype.kind t) #[.pointer (some ⟨4, 79, none⟩)]).run Tryd.prog w = .ok (.int .u8 25) w := by kernel_rfl
theorem ea_rlm (z : Sem Value) (f : TypeId → Addr → Nat → Nat → Sem Value) (v : Value) :
    ReflectliteValue.method z f #[v] = (do match ← ReflectliteValue.parts v with | none => z | some (t, a, fl) => f t a fl (fl % 32)) := rfl
theorem ea_partsP (a : Addr) (w : World) : (ReflectliteValue.parts (.agg #[.pointer (some ⟨4, 81, none⟩), .pointer (some a), .int .u64 150])).run Tryd.prog w = .ok (some (81, a, 150)) w := by kernel_rfl
theorem ea_isNilP (a p : Addr) (W : World) (ha : W.cell? a = some (.pointer (some p))) :
    (ReflectliteValue.method (ReflectliteValue.valueError "reflectlite.Value.IsNil" 0) ReflectliteValue.isNil #[.agg #[.pointer (some ⟨4, 81, none⟩), .pointer (some a), .int .u64 150]]).run Tryd.prog W = .ok (.bool false) W := by
  rw [ea_rlm]
  simp only [Sem.run_bind, ea_partsP, Result.andThen]
  simp [ReflectliteValue.isNil, loadVar, isAgg, underlying, Tryd.underlying81, ha, Result.andThen]
theorem ea_methodElem (h : Value) (w : World) : (Go.method 345 174 (.agg #[h]) "Elem").run Tryd.prog w = .ok (208, .agg #[h]) w := by kernel_rfl
theorem ea_methodImplements (h : Value) (w : World) : (Go.method 345 174 (.agg #[h]) "Implements").run Tryd.prog w = .ok (209, .agg #[h]) w := by kernel_rfl
theorem ea_methodAssignable (h : Value) (w : World) : (Go.method 345 174 (.agg #[h]) "AssignableTo").run Tryd.prog w = .ok (206, .agg #[h]) w := by kernel_rfl
theorem ea_elemP (w : World) : (ReflectliteType.method ReflectliteType.elem #[.agg #[.pointer (some ⟨4, 81, none⟩)]]).run Tryd.prog w = .ok (.iface 174 (.agg #[.pointer (some ⟨4, 79, none⟩)])) w := by kernel_rfl
theorem ea_implements (w : World) : (ReflectliteType.relation "Implements" ReflectliteType.implements_ #[.agg #[.pointer (some ⟨4, 79, none⟩)], .iface 174 (.agg #[.pointer (some ⟨4, 75, none⟩)])]).run Tryd.prog w = .ok (.bool true) w := by kernel_rfl
theorem ea_typeOf (v : Value) (w : World) : (ReflectliteType.typeOf #[.iface 79 v]).run Tryd.prog w = .ok (.iface 174 (.agg #[.pointer (some ⟨4, 79, none⟩)])) w := by kernel_rfl
theorem ea_assignable (w : World) : (ReflectliteType.relation "AssignableTo" ReflectliteType.assignableTo #[.agg #[.pointer (some ⟨4, 79, none⟩)], .iface 174 (.agg #[.pointer (some ⟨4, 79, none⟩)])]).run Tryd.prog w = .ok (.bool true) w := by kernel_rfl
theorem ea_valueOfE (c : Int) (w : World) : (ReflectliteValue.unpack (.iface 79 (.agg #[.int .i64 c]))).run Tryd.prog w
    = .ok (.agg #[.pointer (some ⟨4, 79, none⟩), .pointer (some ⟨w.heap.size, 0, none⟩), .int .u64 153]) (w.alloc (.cells #[.int .i64 c] 79)) := by kernel_rfl
theorem ea_elemOf (w : World) : (Rtype.elem? 81).run Tryd.prog w = .ok (some 79) w := by kernel_rfl
theorem ea_mkE (p : Addr) (w : World) : (ReflectliteValue.mk 79 p ReflectliteValue.flagAddr).run Tryd.prog w = .ok (.agg #[.pointer (some ⟨4, 79, none⟩), .pointer (some p), .int .u64 409]) w := by kernel_rfl
theorem ea_elemV (a p : Addr) (W : World) (ha : W.cell? a = some (.pointer (some p))) :
    (ReflectliteValue.method (ReflectliteValue.valueError "reflectlite.Value.Elem" 0) ReflectliteValue.elem #[.agg #[.pointer (some ⟨4, 81, none⟩), .pointer (some a), .int .u64 150]]).run Tryd.prog W
      = .ok (.agg #[.pointer (some ⟨4, 79, none⟩), .pointer (some p), .int .u64 409]) W := by
  rw [ea_rlm]
  simp only [Sem.run_bind, ea_partsP, Result.andThen]
  simp [ReflectliteValue.elem, loadVar, isAgg, underlying, Tryd.underlying81, ha, Result.andThen, ea_elemOf, ea_mkE]
theorem ea_rls (v x : Value) : ReflectliteValue.set #[v, x] = (do
    let (some (dst, a, fl), some (src, b, _)) := (← ReflectliteValue.parts v, ← ReflectliteValue.parts x)
      | unsupported (.noEntry "extern/(internal/reflectlite.Value).Set.zeroValue")
    if fl / ReflectliteValue.flagAddr % 2 == 0 then unsupported (.noEntry "extern/(internal/reflectlite.Value).Set.unaddressable")
    let val ← loadVar src b
    if ← Rtype.directlyAssignable dst src then storeVar dst a val
    else if ← Rtype.implements dst src then
      if (← Rtype.kind src) == 20 then
        match val with
        | .nilIface => unsupported (.noEntry "extern/reflectlite: a nil value of one interface type handed on as a value of another")
        | _ => storeVar dst a val
      else storeVar dst a (.iface src val)
    else panicString ("reflectlite.Set: value of type " ++ (← Rtype.spelt src) ++ " is not assignable to type " ++ (← Rtype.spelt dst))
    pure (.tuple #[])) := rfl
theorem ea_partsA (a : Addr) (w : World) : (ReflectliteValue.parts (.agg #[.pointer (some ⟨4, 79, none⟩), .pointer (some a), .int .u64 409])).run Tryd.prog w = .ok (some (79, a, 409)) w := by kernel_rfl
theorem ea_partsE (a : Addr) (w : World) : (ReflectliteValue.parts (.agg #[.pointer (some ⟨4, 79, none⟩), .pointer (some a), .int .u64 153])).run Tryd.prog w = .ok (some (79, a, 153)) w := by kernel_rfl
theorem ea_direct (w : World) : (Rtype.directlyAssignable 79 79).run Tryd.prog w = .ok true w := by kernel_rfl
theorem ea_load (b : Addr) (c : Int) (W : World) (hb : W.cell? b = some (.int .i64 c)) : (loadVar 79 b).run Tryd.prog W = .ok (.agg #[.int .i64 c]) W := by
  have h1 : (loadCells b 1).run Tryd.prog W = .ok #[.int .i64 c] W := by
    simp [loadCells, loadCellsFrom, Addr.add, hb]
  simp [loadVar, isAgg, underlying, Tryd.underlying79, Result.andThen, h1]
theorem ea_set (ta b : Addr) (c : Int) (old : Value) (W : World) (hb : W.cell? b = some (.int .i64 c)) (ht : W.cell? ta = some old) (hf : W.frozen? ta = false) :
    (ReflectliteValue.set #[.agg #[.pointer (some ⟨4, 79, none⟩), .pointer (some ta), .int .u64 409], .agg #[.pointer (some ⟨4, 79, none⟩), .pointer (some b), .int .u64 153]]).run Tryd.prog W
      = .ok (.tuple #[]) (W.setCell ta (.int .i64 c)) := by
  rw [ea_rls]
  simp only [Sem.run_bind, ea_partsA, ea_partsE, Result.andThen]
  simp [ReflectliteValue.flagAddr, ea_load b c W hb, Result.andThen, ea_direct, storeVar, Value.cells, storeCells, Addr.add]
  rw [run_store Tryd.prog W ta _ _ (by rfl)]
  simp [ht, hf]
/-- The variable that errors.As reads holds the handle of the type error. -/
def ErrIs (w : World) : Prop := w.cell? ⟨0, 0, none⟩ = some (.iface 174 (.agg #[.pointer (some ⟨4, 75, none⟩)]))
theorem ErrIs.lt {w : World} (h : ErrIs w) : 0 < w.heap.size := by
  rcases Nat.lt_or_ge 0 w.heap.size with h0 | h0
  · exact h0
  · exfalso
    unfold ErrIs at h
    simp [World.cell?, Array.getElem?_eq_none h0] at h
theorem ErrIs.later {B : Nat} {w w' : World} (h : ErrIs w) (hB : B = w.heap.size) (hb : Below B w w') : ErrIs w' := by
  subst hB
  unfold ErrIs
  rw [hb.cell (p := ⟨0, 0, none⟩) h.lt]
  exact h

set_option maxRecDepth 100000 in
set_option maxHeartbeats 4000000 in
theorem errAs_hit0 (c : Int) (t : Addr) (old : Value) (w : World) (hg : ErrIs w) (ht0 : w.cell? t = some old) (hf0 : w.frozen? t = false) :
    Calls Tryd.prog 55 #[.iface 79 (.agg #[.int .i64 c]), .iface 81 (.pointer (some t))] w fun ev w' => ev = .returned (.bool true) ∧ w' = ((((w.alloc (.cells #[.pointer (some t)] 81)).alloc (.cells #[.pointer (some ⟨4, 81, none⟩), .pointer (some ⟨w.heap.size, 0, none⟩), .int .u64 150] 126)).alloc (.cells #[.pointer (some ⟨4, 81, none⟩), .pointer (some ⟨w.heap.size, 0, none⟩), .int .u64 150] 126)).alloc (.cells #[.int .i64 c] 79)).setCell t (.int .i64 c) := by
  have h6 := @run_callFunc_extern Tryd.prog 107 _ (fun args => ReflectliteValue.unpack (args.getD 0 (.tuple #[]))) Tryd.func107 (by kernel_rfl) (by kernel_rfl) (by kernel_rfl) (by kernel_rfl)
  have h7 := @run_callFunc_extern Tryd.prog 108 _ (ReflectliteValue.methodAny (ReflectliteValue.valueError "reflectlite.Value.Type" 0) (fun t _ _ _ => ReflectliteType.toType t)) Tryd.func108 (by kernel_rfl) (by kernel_rfl) (by kernel_rfl) (by kernel_rfl)
  have h8 := @run_callFunc_extern Tryd.prog 109 _ (ReflectliteValue.method (ReflectliteValue.valueError "reflectlite.Value.IsNil" 0) ReflectliteValue.isNil) Tryd.func109 (by kernel_rfl) (by kernel_rfl) (by kernel_rfl) (by kernel_rfl)
  have h27 := @run_callFunc_extern Tryd.prog 197 _ (ReflectliteType.abiMethod fun t => do pure (.int .u8 (← Rtype.kind t))) Tryd.func197 (by kernel_rfl) (by kernel_rfl) (by kernel_rfl) (by kernel_rfl)
  have h37 := @run_callFunc_extern Tryd.prog 208 _ (ReflectliteType.method ReflectliteType.elem) Tryd.func208 (by kernel_rfl) (by kernel_rfl) (by kernel_rfl) (by kernel_rfl)
  have h38 := @run_callFunc_extern Tryd.prog 209 _ (ReflectliteType.relation "Implements" ReflectliteType.implements_) Tryd.func209 (by kernel_rfl) (by kernel_rfl) (by kernel_rfl) (by kernel_rfl)
  have h10 := @run_callFunc_extern Tryd.prog 142 _ ReflectliteType.typeOf Tryd.func142 (by kernel_rfl) (by kernel_rfl) (by kernel_rfl) (by kernel_rfl)
  have h35 := @run_callFunc_extern Tryd.prog 206 _ (ReflectliteType.relation "AssignableTo" ReflectliteType.assignableTo) Tryd.func206 (by kernel_rfl) (by kernel_rfl) (by kernel_rfl) (by kernel_rfl)
  have h11 := @run_callFunc_extern Tryd.prog 143 _ (ReflectliteValue.method (ReflectliteValue.valueError "reflectlite.Value.Elem" 0) ReflectliteValue.elem) Tryd.func143 (by kernel_rfl) (by kernel_rfl) (by kernel_rfl) (by kernel_rfl)
  have h12 := @run_callFunc_extern Tryd.prog 144 _ ReflectliteValue.set Tryd.func144 (by kernel_rfl) (by kernel_rfl) (by kernel_rfl) (by kernel_rfl)
  have tO := ea_typeOf
  have mA := ea_methodAssignable
  have a25 := ea_assignable
  have v25 := ea_valueOfE
  have f6 := ea_valueOfP
  have f7 := ea_typeP
  have mK := ea_methodKind
  have mE := ea_methodElem
  have mI := ea_methodImplements
  have k27 := ea_kindP
  have k25 := ea_kindE
  have e27 := ea_elemP
  have i25 := ea_implements
  have n8 := ea_isNilP ⟨w.heap.size, 0, none⟩ t ((w.alloc (.cells #[.pointer (some t)] 81)).alloc (.cells #[.pointer (some ⟨4, 81, none⟩), .pointer (some ⟨w.heap.size, 0, none⟩), .int .u64 150] 126)) (by simp)
  have hlt := hg.lt
  have hg2 : ((w.alloc (.cells #[.pointer (some t)] 81)).alloc (.cells #[.pointer (some ⟨4, 81, none⟩), .pointer (some ⟨w.heap.size, 0, none⟩), .int .u64 150] 126)).cell? ⟨0, 0, none⟩ = some (.iface 174 (.agg #[.pointer (some ⟨4, 75, none⟩)])) := by
    rw [World.cell?_alloc_lt _ _ ⟨0, 0, none⟩ (by simp), World.cell?_alloc_lt _ _ ⟨0, 0, none⟩ hlt]; exact hg
  have htl : t.block < w.heap.size := by
    rcases Nat.lt_or_ge t.block w.heap.size with h | h
    · exact h
    · simp [World.cell?, Array.getElem?_eq_none h] at ht0
  have el := ea_elemV ⟨w.heap.size, 0, none⟩ t (((w.alloc (.cells #[.pointer (some t)] 81)).alloc (.cells #[.pointer (some ⟨4, 81, none⟩), .pointer (some ⟨w.heap.size, 0, none⟩), .int .u64 150] 126)).alloc (.cells #[.pointer (some ⟨4, 81, none⟩), .pointer (some ⟨w.heap.size, 0, none⟩), .int .u64 150] 126)) (by rw [World.cell?_alloc_lt _ _ ⟨w.heap.size, 0, none⟩ (by simp; omega)]; simp)
  have st := ea_set t ⟨w.heap.size + 1 + 1 + 1, 0, none⟩ c old ((((w.alloc (.cells #[.pointer (some t)] 81)).alloc (.cells #[.pointer (some ⟨4, 81, none⟩), .pointer (some ⟨w.heap.size, 0, none⟩), .int .u64 150] 126)).alloc (.cells #[.pointer (some ⟨4, 81, none⟩), .pointer (some ⟨w.heap.size, 0, none⟩), .int .u64 150] 126)).alloc (.cells #[.int .i64 c] 79))
    (by rw [World.cell?_alloc_at _ _ _ _ (by simp)]; rfl)
    (by rw [World.cell?_alloc_lt _ _ t (by simp; omega), World.cell?_alloc_lt _ _ t (by simp; omega), World.cell?_alloc_lt _ _ t (by simp; omega), World.cell?_alloc_lt _ _ t htl]; exact ht0)
    (by rw [World.frozen?_alloc_old _ _ t (by simp; omega), World.frozen?_alloc_old _ _ t (by simp; omega), World.frozen?_alloc_old _ _ t (by simp; omega), World.frozen?_alloc_old _ _ t (Nat.ne_of_lt htl)]; exact hf0)
  unfold ErrIs at hg
  go_enter Tryd.func55, Tryd.ntmps55
  go_wp2
  refine wp_loop_rounds 1 ?_
  rw [rounds_succ]
  go_wp2
  go_ret
  exact ⟨rfl, rfl⟩
/-- errors.As at a pathError and a target of its own: true; the target's cell holds the code; nothing below the target is written. -/
theorem errAs_hit (c : Int) (b : Nat) (old : Value) (w : World) (hg : ErrIs w) (ht0 : w.cell? ⟨b, 0, none⟩ = some old) (hf0 : w.frozen? ⟨b, 0, none⟩ = false) :
    Calls Tryd.prog 55 #[.iface 79 (.agg #[.int .i64 c]), .iface 81 (.pointer (some ⟨b, 0, none⟩))] w fun ev w' => ev = .returned (.bool true) ∧ w'.cell? ⟨b, 0, none⟩ = some (.int .i64 c) ∧ Below b w w' := by
  have hbl : b < w.heap.size := by
    rcases Nat.lt_or_ge b w.heap.size with h | h
    · exact h
    · exfalso; simp [World.cell?, Array.getElem?_eq_none h] at ht0
  refine (errAs_hit0 c ⟨b, 0, none⟩ old w hg ht0 hf0).mono ?_
  rintro e w' ⟨he, hw⟩
  subst hw
  refine ⟨he, ?_, ?_⟩
  · refine World.cell?_setCell_same (u := old) _ _ _ ?_
    rw [World.cell?_alloc_lt _ _ ⟨b, 0, none⟩ (by simp; omega), World.cell?_alloc_lt _ _ ⟨b, 0, none⟩ (by simp; omega), World.cell?_alloc_lt _ _ ⟨b, 0, none⟩ (by simp; omega), World.cell?_alloc_lt _ _ ⟨b, 0, none⟩ hbl]
    exact ht0
  · refine Below.setCell (p := ⟨b, 0, none⟩) ?_ (Nat.le_refl b) _
    refine Below.alloc (Below.alloc (Below.alloc (Below.alloc (Below.refl _ _) ?_ _) ?_ _) ?_ _) ?_ _ <;> (first | omega | (simp; omega))
end Go.Proofs.YtmkchilhnmkhkaaDoor
namespace Go.Proofs.YtmkchilhnmkhkaaDoor
open Go.RowKit Go.Proofs.YtmkchilhnmkhkaaDoor.Parts Go.Proofs.YtmkchilhnmkhkaaDoor.Hexa

def encT : Enc ByteArray := ⟨1, fun s => [.string s], fun _ => rfl⟩
theorem encT_cells (s : ByteArray) : encT.cells s = [.string s] := rfl
theorem cellsT_eq : ∀ L : List ByteArray, cellsE encT L = scells L
  | [] => rfl
  | x :: r => by rw [cellsE, cellsT_eq r]; rfl
abbrev SrcT (w : World) (a : Option Addr) (n : Nat) (L : List ByteArray) : Prop := SrcE encT w a n L
theorem srcT_at {w : World} {a : Option Addr} {n : Nat} {L : List ByteArray} (h : SrcT w a n L) (j : Nat) (hj : j < n) : ∃ g off, a = some ⟨g, off, none⟩ ∧ g < w.heap.size ∧ w.cell? ⟨g, off + j, none⟩ = some (.string (L.getD j default)) := by
  obtain ⟨g, off, e, hg, c⟩ := h.cell j hj
  refine ⟨g, off, e, hg, ?_⟩
  have h9 := c 0 _ rfl
  rw [show off + j * encT.k + 0 = off + j from by show off + j * 1 + 0 = off + j; omega] at h9
  exact h9
theorem srcT_of_own {w : World} {B e n cap : Nat} {a : Option Addr} {L : List ByteArray} (h : w.ownsRow B e 1 (.slice a n cap) n (scells L)) : SrcT w a n L := srcE_of_own (E := encT) (by rw [cellsT_eq]; exact h) (by decide)
theorem srcT_later {w w' : World} {a : Option Addr} {n : Nat} {L : List ByteArray} {B : Nat} (h : SrcT w a n L) (hb : Below B w w') (hB : w.heap.size ≤ B) (j : Nat) (hj : j < n) : ∃ g off, a = some ⟨g, off, none⟩ ∧ g < w.heap.size ∧ w'.cell? ⟨g, off + j, none⟩ = some (.string (L.getD j default)) := by
  obtain ⟨g, off, e, hg, _⟩ := srcT_at h j hj
  obtain ⟨g', off', e', _, c⟩ := srcT_at (h.below hb hB) j hj
  rw [e] at e'
  cases e'
  exact ⟨g, off, e, hg, c⟩
theorem texts_eq {P Q : List ByteArray} {n : Nat} (hP : P.length = n) (hQ : Q.length = n) (h : ∀ j, j < n → P.getD j default = Q.getD j default) : P = Q := by
  apply List.ext_getElem (by omega)
  intro i h1 h2
  have h9 := h i (by omega)
  simpa [List.getD, h1, h2] using h9
end Go.Proofs.YtmkchilhnmkhkaaDoor
namespace Go.Proofs.YtmkchilhnmkhkaaDoor
open Go.RowKit Go.Proofs.YtmkchilhnmkhkaaDoor.Parts Go.Proofs.YtmkchilhnmkhkaaDoor.Hexa

/-- No text longer than b. -/
def FitT2 (L : List ByteArray) (n b : Nat) : Prop := ∀ j, j < n → (L.getD j default).size ≤ b
theorem infoT : (Tryd.prog.info? 9).map (fun i => (i.zero, i.size, i.bytes)) = some (some (.string ByteArray.empty), 1, 16) := by kernel_rfl

set_option maxRecDepth 100000 in
set_option maxHeartbeats 1000000 in
theorem szTexts_any (a : Option Addr) (n c : Nat) (L : List ByteArray) (l0 : Int) (w : World) (hl0 : 0 ≤ l0) (hl1 : l0 ≤ 1048576) (hs : SrcT w a n L) (hn : n ≤ 9223372036854775807) (hm : FitT2 L n maxLen) :
    Calls Tryd.prog 35 #[.slice a n c, .int .i64 l0] w fun e w' => ∃ r, e = .returned (.int .i64 r) ∧ (r < 0 ∨ (0 ≤ r ∧ r ≤ l0 ∧ n ≤ 1048576 ∧ FitT2 L n 1048576)) ∧ w' = w := by
  have HS := Lib.hid hs
  have HM := Lib.hid hm
  clear hs hm
  by_cases hlt0 : l0 - (n : Int) < 0
  · go_enter Tryd.func35, Tryd.ntmps35
    go_wp2
    go_ret
    exact ⟨-1, rfl, .inl (by omega), rfl⟩
  · go_enter Tryd.func35, Tryd.ntmps35
    go_wp2
    go_loopw [1, 5] (fun lv iv wr => ∃ (k : Nat) (l : Int), k ≤ n ∧ iv = .int .i64 k ∧ lv = .int .i64 l ∧ 0 ≤ l ∧ l ≤ l0 ∧ Hid (∀ j, j < k → (L.getD j default).size ≤ 1048576) ∧ wr = w) (fun _ iv _ => n - (intOf iv).toNat)
    case atStart => exact ⟨0, _, Nat.zero_le _, rfl, rfl, by omega, by omega, Lib.hid (fun j hj => by omega), rfl⟩
    case round =>
      obtain ⟨k, l, hk, rfl, rfl, h0, hl, HA, rfl⟩ := hrel
      by_cases hlt : k < n
      · obtain ⟨g, off, rfl, hg, d0⟩ := srcT_at HS.out k hlt
        obtain ⟨x, hx⟩ : ∃ x, L.getD k default = x := ⟨_, rfl⟩
        rw [hx] at d0
        have hm0 := HM.out k hlt
        rw [hx] at hm0
        unfold maxLen at hm0
        have HX := Lib.hid hx
        clear hx
        by_cases hlt2 : l - (x.size : Int) < 0
        · go_wp2
          go_ret
          exact ⟨-1, rfl, .inl (by omega), rfl⟩
        · have HA2 : Hid (∀ j, j < k + 1 → (L.getD j default).size ≤ 1048576) := Lib.hid (fun j hj => by
            by_cases e : j = k
            · subst e; rw [HX.out]; omega
            · exact HA.out j (by omega))
          go_wp2
          go_roundw
          case rel => exact ⟨k + 1, l - (x.size : Int), by omega, by go_num, rfl, by omega, by omega, HA2, by first | rfl | trivial⟩
          case measure => (simp [intOf]; try omega)
      · obtain rfl : k = n := by omega
        go_wp2
        go_ret
        refine ⟨l, rfl, .inr ⟨h0, hl, by omega, fun j hj => HA.out j hj⟩, rfl⟩

/-- What the copy returns. -/
def CopyT (n : Nat) (L : List ByteArray) (w : World) (e : Ending) (w' : World) : Prop :=
  e = .returned (.slice (some ⟨w.heap.size, 0, none⟩) n n) ∧ w'.ownsRow w.heap.size 9 1 (.slice (some ⟨w.heap.size, 0, none⟩) n n) n (scells L) ∧ Below w.heap.size w w'

set_option maxRecDepth 100000 in
set_option maxHeartbeats 1000000 in
theorem toTexts_any (a : Option Addr) (n c : Nat) (L : List ByteArray) (w : World) (hs : SrcT w a n L) (hn : n ≤ 1048576) :
    Calls Tryd.prog 37 #[.slice a n c] w (CopyT n L w) := by
  obtain ⟨i0, hi, hz0, hz1, hz2⟩ := info_parts infoT
  have HS := Lib.hid hs
  have hL := hs.len
  clear hs
  go_enter Tryd.func37, Tryd.ntmps37
  go_wp2_with (at_make; refine wpList_make_full _ rfl _ _ 25 rfl w.heap.size 9 i0 _ 1 Tryd.underlying25 hi hz0 hz1 .i64 .i64 _ _ n rfl rfl rfl rfl (by rw [hz2]; omega) (by unfold maxLen; omega) (Nat.le_refl _) ?_; intro w0 hown0 hgrow0)
  have hg0 : Below w.heap.size w w0 := (Below.refl _ _).grown hgrow0 (Nat.le_refl _) (fun k h => by cases h)
  have HO0 := Lib.hid hown0
  clear hown0 hgrow0
  go_loopw [4] (fun iv wr => ∃ (k : Nat) (xs : List Value), k ≤ n ∧ iv = .int .i64 k ∧ Hid (wr.ownsRow w.heap.size 9 1 (.slice (some ⟨w.heap.size, 0, none⟩) n n) n xs) ∧ Hid (∀ j, j < k * 1 → xs[j]? = (cellsE encT L)[j]?) ∧ Below w.heap.size w wr)
    (fun iv _ => n - (intOf iv).toNat)
  case atStart => exact ⟨0, _, Nat.zero_le _, rfl, HO0, Lib.hid (fun j hj => by omega), hg0⟩
  case round =>
    clear HO0 hg0
    obtain ⟨k, xs, hk, rfl, HW, HX, hbel⟩ := hrel
    have hxl : Hid (xs.length = n * 1) := Lib.hid HW.out.1
    by_cases hlt : k < n
    · obtain ⟨g, off, rfl, hg, d0⟩ := srcT_later HS.out hbel (Nat.le_refl _) k hlt
      have X1 := Lib.hid (cellsE_step encT (by omega) (by rw [hL]; exact hxl.out) HX.out)
      obtain ⟨x, hx⟩ : ∃ x, L.getD k default = x := ⟨_, rfl⟩
      rw [hx] at d0 X1
      clear hx
      obtain ⟨v0, e0⟩ := ownE_cell HW.out (j := k) (by omega)
      have z0 := HW.out.frozenAt k
      have O1 := Lib.hid (own_sets (encT.cells x) (k * 1) HW.out)
      have hb2 : Hid (Below w.heap.size w (wr.setCells w.heap.size (k * 1) (encT.cells x))) := Lib.hid (below_sets (Nat.le_refl _) _ _ hbel)
      have E9 : Hid (wr.setCells w.heap.size (k * 1) (encT.cells x) = wr.setCell ⟨w.heap.size, k, none⟩ (.string x)) := Lib.hid (by rw [Nat.mul_one]; rfl)
      rw [E9.out] at O1 hb2
      go_wp2
      clear d0 e0 z0
      go_roundw
      case rel => exact ⟨k + 1, _, by omega, by go_num, O1, X1, hb2.out⟩
      case measure => (simp [intOf]; try omega)
    · obtain rfl : k = n := by omega
      have hfin : xs = cellsE encT L := cellsE_all encT (by rw [hL]; exact hxl.out) (by rw [hL]; exact HX.out)
      have ho := HW.out
      rw [hfin, cellsT_eq] at ho
      have HO := Lib.hid ho
      clear ho hfin
      go_wp2
      go_ret
      exact ⟨rfl, HO.out, hbel⟩
end Go.Proofs.YtmkchilhnmkhkaaDoor
namespace Go.Proofs.YtmkchilhnmkhkaaDoor
open Go.RowKit Go.Proofs.YtmkchilhnmkhkaaDoor.Parts Go.Proofs.YtmkchilhnmkhkaaDoor.Hexa

def slashB : ByteArray := ⟨#[47]⟩
/-- The first k names, a slash ahead of each. -/
def joinTo (L : List ByteArray) : Nat → ByteArray
  | 0 => ⟨#[]⟩
  | k + 1 => joinTo L k ++ slashB ++ L.getD k default
def joinB (L : List ByteArray) : ByteArray := if L.length = 0 then slashB else joinTo L L.length
theorem joinTo_next (L : List ByteArray) (k : Nat) : joinTo L (k + 1) = joinTo L k ++ slashB ++ L.getD k default := rfl
theorem joinTo_size (L : List ByteArray) (m : Nat) : ∀ k, (∀ j, j < k → (L.getD j default).size ≤ m) → (joinTo L k).size ≤ k * (m + 1)
  | 0, _ => by simp [joinTo, ByteArray.size]
  | k + 1, h => by
    have h1 := joinTo_size L m k (fun j hj => h j (by omega))
    have h2 := h k (by omega)
    rw [joinTo_next, ByteArray.size_append, ByteArray.size_append, show slashB.size = 1 from rfl, Nat.add_mul, Nat.one_mul]
    omega
def parentB (s : ByteArray) : ByteArray := if (pathNames s).length = 0 then ⟨#[]⟩ else joinB ((pathNames s).take ((pathNames s).length - 1))
def lastB (s : ByteArray) : ByteArray := if (pathNames s).length = 0 then ⟨#[]⟩ else (pathNames s).getD ((pathNames s).length - 1) default
def underB (s t : ByteArray) : Bool := decide (pathCode s = 0 ∧ pathCode t = 0 ∧ (pathNames t).length < (pathNames s).length ∧ (pathNames s).take (pathNames t).length = pathNames t)
theorem names_none {s : ByteArray} (h : pathCode s ≠ 0) : (pathNames s).length = 0 := by
  unfold pathNames
  rw [if_neg (fun hh => h hh.1)]
  rfl
theorem srcT_take {w : World} {a : Option Addr} {n k : Nat} {L : List ByteArray} (h : SrcT w a n L) (hk : k ≤ n) : SrcT w a k (L.take k) := by
  refine ⟨by rw [List.length_take, h.len]; omega, fun j hj => ?_⟩
  obtain ⟨g, off, e, hg, c⟩ := h.cell j (by omega)
  refine ⟨g, off, e, hg, ?_⟩
  have e9 : (L.take k).getD j default = L.getD j default := by
    simp only [List.getD, List.getElem?_take]
    rw [if_pos hj]
  rw [e9]
  exact c
/-- Every name of a path is short. -/
theorem names_size (s : ByteArray) (j : Nat) (hj : j < (pathNames s).length) : ((pathNames s).getD j default).size ≤ 60 := by
  unfold pathNames at hj ⊢
  split at hj
  · rename_i h
    rw [if_pos h]
    have h1 : ¬ 60 < s.size := fun hh => by have := h.1; rw [pathCode, if_pos (.inl hh)] at this; omega
    rw [List.length_map] at hj
    have h3 : (tailL s).length ≤ s.size := by unfold tailL; rw [List.length_drop, Lib.size_eq]; omega
    have h2 := cutGo_mem (tailL s) [] ((cutP s)[j]) (List.getElem_mem hj)
    have e : ((cutP s).map bytesOf).getD j default = bytesOf (cutP s)[j] := by simp [List.getD, hj]
    rw [e, bytesOf_size]
    simp at h2
    omega
  · simp at hj
end Go.Proofs.YtmkchilhnmkhkaaDoor
namespace Go.Proofs.YtmkchilhnmkhkaaDoor
open Go.RowKit Go.Proofs.YtmkchilhnmkhkaaDoor.Parts Go.Proofs.YtmkchilhnmkhkaaDoor.Hexa Go.Proofs.YtmkchilhnmkhkaaDoor.Byt

set_option maxRecDepth 100000 in
set_option maxHeartbeats 2000000 in
theorem implSplit_any (s : ByteArray) (w : World) (hs : s.size ≤ 2000000) (hE : ErrIs w) :
    Calls Tryd.prog 14 #[.string s] w (GivesTI (pathNames s) (pathCode s) w) := by
  have HE := Lib.hid hE
  obtain ⟨q, hq⟩ : ∃ q, pathCode s = q := ⟨_, rfl⟩
  have HQ := Lib.hid hq
  clear hE hq
  go_enter Tryd.func14, Tryd.ntmps14
  go_wp2_with fail
  refine (implNames_any s _ hs).mono ?_
  rintro e w1 ⟨⟨hc, rfl⟩ | ⟨hc, v, rfl, ho⟩, hb⟩
  · have HN : Hid (pathNames s = []) := Lib.hid (List.length_eq_zero_iff.1 (names_none hc))
    rw [HQ.out] at hc
    rw [HQ.out]
    have HE1 := Lib.hid (HE.out.later rfl hb)
    have B1 := Lib.hid hb
    have A1 : Hid (Below w1.heap.size w1 (w1.alloc (.cells #[.int .i64 0] 79))) := Lib.hid ((Below.refl _ _).alloc (Nat.le_refl _) _)
    have HC := Lib.hid hc
    clear hb hc HE
    go_wp2_with fail
    refine (errAs_hit q w1.heap.size (.int .i64 0) _ (HE1.out.later rfl A1.out) (by simp) (by simp)).mono ?_
    rintro e w2 ⟨rfl, hc2, hb2⟩
    have BW : Hid (Below w.heap.size w w2) := Lib.hid (B1.out.trans ((A1.out.trans hb2).mono B1.out.size))
    clear hb2
    go_wp2
    go_region
    all_goals
      go_wp2
      refine bodyPost_ret (v := .tuple #[.slice none 0 0, .int .i64 q]) ?_ rfl ⟨_, by rw [HQ.out], by rw [HN.out]; exact World.ownsRow_nil _ _ _ _, by first | exact BW.out | exact BW.out.drew⟩
      simp [results, Tryd.results14, go_sem]
  · rw [HQ.out] at hc
    subst hc
    obtain ⟨ad, cap, rfl, hcap, hnc, hr⟩ := own_form ho
    obtain ⟨L, hL⟩ : ∃ L, pathNames s = L := ⟨_, rfl⟩
    rw [hL] at ho hnc
    have HLL := Lib.hid hL
    have O1 := Lib.hid ho
    have B1 := Lib.hid hb
    have A1 : Hid (Below w1.heap.size w1 (w1.alloc (.cells #[.int .i64 0] 79))) := Lib.hid ((Below.refl _ _).alloc (Nat.le_refl _) _)
    have BW : Hid (Below w.heap.size w (w1.alloc (.cells #[.int .i64 0] 79))) := Lib.hid (hb.trans (A1.out.mono hb.size))
    have O2 := Lib.hid (own_below ho A1.out)
    clear ho hb hr hL
    go_wp2_with fail
    refine (errAs_nil _ _).mono ?_
    rintro e w2 ⟨rfl, rfl⟩
    go_wp2
    refine bodyPost_ret (v := .tuple #[.slice ad L.length cap, .int .i64 0]) ?_ rfl ⟨_, by rw [HQ.out], by rw [HLL.out]; exact O2.out, BW.out⟩
    simp [results, Tryd.results14, go_sem, HLL.out]
end Go.Proofs.YtmkchilhnmkhkaaDoor
