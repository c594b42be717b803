/- Merged texts: WordAtSpec, Search, Ptr, WordAtImpl, AppE, TextBase, NumMath, WordsMath, Apart, RdWords, SerMath, Says, Geo, PlcMath, PlcV, LinV, IntsBase, IntsAt, AppI, StSpec, RangeImpl, StImpl, Made, StSpecC, WordImpl, WordsImpl. -/
import Derived.Test.YtkfkjcadmdcbnaaGreatDoorPZA
import Derived.Test.YtkfkjcadmdcbnaaGreatDoorShelf
import Derived.Maps.AppendAt
import Derived.Lib.AppendZeros
import Derived.Lib.SliceRun
import Derived.Deep.AppendLies
import Derived.Deep.QuietTactic
import Derived.BigQuiet
import Derived.Test.YtkfkjcadmdcbnaaGreatDoorRows
import Derived.Below
import Derived.RowKit3
import Derived.WalkKit
import Derived.WalkSpells
import Derived.WalkLawsBesides
import Derived.IntWalk
import Derived.Lib.Hide
import Derived.OwnWalk
import Derived.OneCell
import Derived.Deep.RegionWith
import Derived.Laws.MakeOwn
import Derived.Lib.AppendStr
import Derived.Deep.RegionLaw
namespace Go.Proofs.YtkfkjcadmdcbnaaGreatDoor
open Go.RowKit Go.Proofs.YtkfkjcadmdcbnaaGreatDoor.Parts Go.Proofs.YtkfkjcadmdcbnaaGreatDoor.Hexa

theorem specLine_i (K : ByteArray) (a : Option Addr) (n c : Nat) (L : List C3) (i : Int) (l : Nat) (w : World) (hi : i = l) (hs : SrcC w a n L) (hn : n ≤ 1048600) (hok : MemOk K L) (hl : l < K.size / 16) :
    Calls Tryz.prog 166 #[.agg #[.string K, .slice a n c], .int .i64 i] w fun e w' => e = .returned (.string (lineT K L l)) ∧ Below w.heap.size w w' := by
  subst hi; exact specLine_any K a n c L l w hs hn hok hl
theorem wordT_of {K : ByteArray} {L : List C3} {m : Nat} {T : ByteArray} (hT : lineT K L (m / 2) = T) : (m % 2 = 0 → wordT K L m = T.extract 0 8) ∧ (m % 2 = 1 → wordT K L m = T.extract 8 16) := by
  unfold wordT
  rw [hT]
  exact ⟨fun h => by rw [h], fun h => by rw [h]⟩

set_option maxRecDepth 100000 in
set_option maxHeartbeats 1000000 in
theorem specL10Word_any (K : ByteArray) (a : Option Addr) (n c : Nat) (L : List C3) (m : Nat) (w : World) (hs : SrcC w a n L) (hn : n ≤ 1048600) (hok : MemOk K L) (hm : m < K.size / 8) :
    Calls Tryz.prog 119 #[.agg #[.string K, .slice a n c], .int .i64 m] w fun e w' => e = .returned (.string (wordT K L m)) ∧ Below w.heap.size w w' := by
  have HS := Lib.hid hs
  have HOK := Lib.hid hok
  have hk2 := hok.2.1
  have hk1 := hok.1
  have B0 := Lib.hid (below_alloc w (.cells #[.string K, .slice a n c] 57))
  have hl : m / 2 < K.size / 16 := by omega
  have hTs := lineT_size hok hl
  obtain ⟨T, hT⟩ : ∃ T, lineT K L (m / 2) = T := ⟨_, rfl⟩
  rw [hT] at hTs
  have HT := Lib.hid hT
  have HW := Lib.hid (wordT_of hT)
  have HLL := Lib.hid hl
  clear hs hok hT hl hk1
  rcases Nat.mod_two_eq_zero_or_one m with h2 | h2
  · have hi2 : (m : Int) % 2 = 0 := by omega
    have HE := Lib.hid (HW.out.1 h2)
    clear h2
    go_enter Tryz.func119, Tryz.ntmps119
    go_wp2_with fail
    refine (specLine_i K _ n c L _ (m / 2) _ (by omega) (HS.out.later B0.out) hn HOK.out HLL.out).mono ?_
    rw [HT.out]
    rintro e w1 ⟨rfl, hb1⟩
    go_wp2
    go_ret
    exact ⟨ret_strm HE.out.symm, B0.out.trans (hb1.mono B0.out.size)⟩
  · have hi2 : (m : Int) % 2 = 1 := by omega
    have HE := Lib.hid (HW.out.2 h2)
    clear h2
    go_enter Tryz.func119, Tryz.ntmps119
    go_wp2_with fail
    refine (specLine_i K _ n c L _ (m / 2) _ (by omega) (HS.out.later B0.out) hn HOK.out HLL.out).mono ?_
    rw [HT.out]
    rintro e w1 ⟨rfl, hb1⟩
    go_wp2
    go_ret
    exact ⟨ret_strm HE.out.symm, B0.out.trans (hb1.mono B0.out.size)⟩

set_option maxRecDepth 100000 in
set_option maxHeartbeats 400000 in
theorem words_any (K : ByteArray) (v : Value) (w : World) (hK : K.size ≤ 1048600) :
    Calls Tryz.prog 62 #[.agg #[.string K, v]] w fun e w' => e = .returned (.int .i64 ((K.size / 8 : Nat) : Int)) ∧ Below w.heap.size w w' := by
  have B0 := Lib.hid (below_alloc w (.cells #[.string K, v] 57))
  go_enter Tryz.func62, Tryz.ntmps62
  go_wp2
  go_ret
  exact ⟨ret_intm (by omega), B0.out⟩

set_option maxRecDepth 100000 in
set_option maxHeartbeats 1000000 in
theorem specWordAt_any (K : ByteArray) (a : Option Addr) (n c : Nat) (L : List C3) (i : Int) (w : World) (hs : SrcC w a n L) (hn : n ≤ 1048600) (hK : K.size ≤ 1048600) :
    Calls Tryz.prog 64 #[.agg #[.string K, .slice a n c], .int .i64 i] w fun e w' => e = .returned (.string (wordAtB K L i)) ∧ Below w.heap.size w w' := by
  have HS := Lib.hid hs
  have B0 := Lib.hid (below_alloc w (.cells #[.string K, .slice a n c] 57))
  have T0 := Lib.hid (Two.alloc w (.string K) (.slice a n c) 57)
  clear hs
  by_cases hok : MemOk K L
  · have HOK := Lib.hid hok
    have HBB := Lib.hid (memOkB_yes hok)
    clear hok
    by_cases hh : Has K i
    · obtain ⟨m, rfl⟩ : ∃ m : Nat, i = m := ⟨i.toNat, by have := hh.1; omega⟩
      have hm : m < K.size / 8 := by have := hh.2; omega
      have HR : Hid ((0 : Int) ≤ (m : Int) ∧ (m : Int) ≤ ((K.size / 8 : Nat) : Int) - 1) := Lib.hid (by omega)
      have HE : Hid (wordAtB K L (m : Int) = wordT K L m) := Lib.hid (wordAtB_yes HOK.out hm)
      have HMM := Lib.hid hm
      clear hh hm
      go_enter Tryz.func64, Tryz.ntmps64
      go_wp2_with fail
      refine (specOk_any K a n c L _ (HS.out.later B0.out) hn hK).mono ?_
      rw [HBB.out]
      rintro e w1 ⟨rfl, hb1⟩
      have T1 := Lib.hid (T0.out.later hb1)
      have B1 := Lib.hid (B0.out.trans (hb1.mono B0.out.size))
      have c0 := T1.out.c0
      have c1 := T1.out.c1
      clear hb1
      go_wp2_with fail
      refine (words_any K _ _ hK).mono ?_
      rintro e w2 ⟨rfl, hb2⟩
      have T2 := Lib.hid (T1.out.later hb2)
      have B2 := Lib.hid (B1.out.trans (hb2.mono B1.out.size))
      clear c0 c1 hb2
      have c0 := T2.out.c0
      have c1 := T2.out.c1
      go_wp2_with fail
      refine (range_yes _ HR.out).mono ?_
      rintro e w3 ⟨rfl, rfl⟩
      go_wp2_with fail
      refine (specL10Word_any K a n c L m _ (HS.out.later B2.out) hn HOK.out HMM.out).mono ?_
      rintro e w4 ⟨rfl, hb4⟩
      go_wp2
      go_ret
      exact ⟨ret_strm HE.out.symm, B2.out.trans (hb4.mono B2.out.size)⟩
    · have HR : Hid (¬ ((0 : Int) ≤ i ∧ i ≤ ((K.size / 8 : Nat) : Int) - 1)) := Lib.hid (fun h => hh ⟨h.1, by omega⟩)
      have HE : Hid (wordAtB K L i = ⟨#[]⟩) := Lib.hid (wordAtB_no hh)
      clear hh
      go_enter Tryz.func64, Tryz.ntmps64
      go_wp2_with fail
      refine (specOk_any K a n c L _ (HS.out.later B0.out) hn hK).mono ?_
      rw [HBB.out]
      rintro e w1 ⟨rfl, hb1⟩
      have T1 := Lib.hid (T0.out.later hb1)
      have B1 := Lib.hid (B0.out.trans (hb1.mono B0.out.size))
      have c0 := T1.out.c0
      have c1 := T1.out.c1
      clear hb1
      go_wp2_with fail
      refine (words_any K _ _ hK).mono ?_
      rintro e w2 ⟨rfl, hb2⟩
      have B2 := Lib.hid (B1.out.trans (hb2.mono B1.out.size))
      go_wp2_with fail
      refine (range_no _ HR.out).mono ?_
      rintro e w3 ⟨rfl, rfl⟩
      go_wp2
      go_ret
      exact ⟨ret_strm HE.out.symm, B2.out⟩
  · have HBB := Lib.hid (memOkB_no hok)
    have HE : Hid (wordAtB K L i = ⟨#[]⟩) := Lib.hid (wordAtB_bad hok)
    clear hok
    go_enter Tryz.func64, Tryz.ntmps64
    go_wp2_with fail
    refine (specOk_any K a n c L _ (HS.out.later B0.out) hn hK).mono ?_
    rw [HBB.out]
    rintro e w1 ⟨rfl, hb1⟩
    go_wp2
    go_ret
    exact ⟨ret_strm HE.out.symm, B0.out.trans (hb1.mono B0.out.size)⟩
end Go.Proofs.YtkfkjcadmdcbnaaGreatDoor
namespace Go.Proofs.YtkfkjcadmdcbnaaGreatDoor
open Go.RowKit Go.Proofs.YtkfkjcadmdcbnaaGreatDoor.Parts Go.Proofs.YtkfkjcadmdcbnaaGreatDoor.Hexa

def cmpZ (x y : Int) : Int := if x < y then -1 else if y < x then 1 else 0

set_option maxRecDepth 100000 in
set_option maxHeartbeats 400000 in
theorem notNaN_any (x : Int) (w : World) : Calls Tryz.prog 256 #[.int .i64 x] w fun e w' => e = .returned (.bool false) ∧ w' = w := by
  go_enter Tryz.func256, Tryz.ntmps256
  go_wp2
  go_ret
  exact ⟨rfl, rfl⟩

set_option maxRecDepth 100000 in
set_option maxHeartbeats 400000 in
theorem cmp_any (x y : Int) (w : World) : Calls Tryz.prog 228 #[.int .i64 x, .int .i64 y] w fun e w' => e = .returned (.int .i64 (cmpZ x y)) ∧ w' = w := by
  rcases Int.lt_trichotomy x y with h | h | h
  · have HE : Hid (cmpZ x y = -1) := Lib.hid (if_pos h)
    go_enter Tryz.func228, Tryz.ntmps228
    go_wp2_with (go_at_call 256; refine (notNaN_any _ _).mono ?_; rintro e w1 ⟨rfl, rfl⟩)
    go_ret
    exact ⟨by rw [HE.out]; rfl, rfl⟩
  · subst h
    have HE : Hid (cmpZ x x = 0) := Lib.hid (by unfold cmpZ; simp)
    go_enter Tryz.func228, Tryz.ntmps228
    go_wp2_with (go_at_call 256; refine (notNaN_any _ _).mono ?_; rintro e w1 ⟨rfl, rfl⟩)
    go_ret
    exact ⟨by rw [HE.out]; rfl, rfl⟩
  · have HE : Hid (cmpZ x y = 1) := Lib.hid (by unfold cmpZ; rw [if_neg (by omega), if_pos h])
    have h2 : ¬ (x < y) := by omega
    go_enter Tryz.func228, Tryz.ntmps228
    go_wp2_with (go_at_call 256; refine (notNaN_any _ _).mono ?_; rintro e w1 ⟨rfl, rfl⟩)
    go_ret
    exact ⟨by rw [HE.out]; rfl, rfl⟩

set_option maxRecDepth 100000 in
set_option maxHeartbeats 400000 in
theorem cmpCell_any (l : Int) (t : ByteArray) (f : Bool) (y : Int) (w : World) : Calls Tryz.prog 227 #[.agg #[.int .i64 l, .string t, .bool f], .int .i64 y] w fun e w' => e = .returned (.int .i64 (cmpZ l y)) ∧ Below w.heap.size w w' := by
  go_enter Tryz.func227, Tryz.ntmps227
  go_wp2_with (go_at_call 228; refine (cmp_any _ _ _).mono ?_; rintro e w1 ⟨rfl, rfl⟩)
  go_ret
  exact ⟨rfl, below_alloc _ _⟩

def foundB (L : List C3) (l : Int) (p : Nat) : Bool := decide (p < L.length ∧ (L.getD p default).l = l)
/-- What the search gives: the place of a line's cell, and whether it is there. -/
def FindPost (L : List C3) (l : Int) (w : World) (e : Ending) (w' : World) : Prop :=
  ∃ p : Nat, Place L l p ∧ e = .returned (.tuple #[.int .i64 p, .bool (foundB L l p)]) ∧ Below w.heap.size w w'
theorem find_post {L : List C3} {l : Int} {w w' : World} {p : Nat} {b : Bool} (h : Place L l p) (hb : foundB L l p = b) (hw : Below w.heap.size w w') : FindPost L l w (.returned (.tuple #[.int .i64 p, .bool b])) w' := ⟨p, h, by rw [hb], hw⟩

set_option maxRecDepth 100000 in
set_option maxHeartbeats 2000000 in
theorem search_any (K : ByteArray) (a : Option Addr) (n c : Nat) (L : List C3) (l : Int) (w : World) (hs : SrcC w a n L) (hn : n ≤ 1048600) (hok : MemOk K L) :
    Calls Tryz.prog 226 #[.slice a n c, .int .i64 l, .func (.func 227) #[] #[]] w (FindPost L l w) := by
  have HS := Lib.hid hs
  have HL := Lib.hid hs.len
  have HOK := Lib.hid hok
  clear hs hok
  go_enter Tryz.func226, Tryz.ntmps226
  go_wp2
  go_loopw [9, 10] (fun lv hv wr => ∃ lo hi : Nat, lv = .int .i64 lo ∧ hv = .int .i64 hi ∧ lo ≤ hi ∧ hi ≤ n ∧ Hid (∀ j, j < lo → (L.getD j default).l < l) ∧ Hid (∀ j, hi ≤ j → j < n → l ≤ (L.getD j default).l) ∧ Below w.heap.size w wr)
    (fun lv hv _ => (intOf hv).toNat - (intOf lv).toNat)
  case atStart => exact ⟨0, n, rfl, rfl, Nat.zero_le _, Nat.le_refl _, Lib.hid (fun j hj => by omega), Lib.hid (fun j h1 h2 => by omega), Below.refl _ _⟩
  case round =>
    obtain ⟨lo, hi, rfl, rfl, hlh, hin, HA, HB, hbel⟩ := hrel
    by_cases hlt : lo < hi
    · obtain ⟨m, hm⟩ : ∃ m, (lo + hi) / 2 = m := ⟨_, rfl⟩
      obtain ⟨g, off, rfl, hg, d1, d2, d3⟩ := HS.out.cells3_at hbel (Nat.le_refl _) m (by omega)
      have hmi : ((lo : Int) + (hi : Int)) / 2 = (m : Int) := by omega
      have hm1 : lo ≤ m := by omega
      have hm2 : m < hi := by omega
      obtain ⟨x, hx⟩ : ∃ x, L.getD m default = x := ⟨_, rfl⟩
      rw [hx] at d1 d2 d3
      have HX := Lib.hid hx
      clear hx hm
      by_cases hc : x.l < l
      · have hz : cmpZ x.l l < 0 := by unfold cmpZ; rw [if_pos hc]; omega
        have HA2 : Hid (∀ j, j < m + 1 → (L.getD j default).l < l) := Lib.hid (fun j hj => by
          by_cases e : j = m
          · subst e; rw [HX.out]; exact hc
          · have := HOK.out.asc (i := j) (j := m) (by omega) (by have := HL.out; omega); rw [HX.out] at this; omega)
        clear hc
        go_wp2_with fail
        refine (cmpCell_any x.l x.t x.f l _).mono ?_
        rintro e w1 ⟨rfl, hb1⟩
        have hb2 : Below w.heap.size w w1 := hbel.trans (hb1.mono hbel.size)
        clear d1 d2 d3 hb1
        go_wp2
        go_roundw
        case rel => exact ⟨m + 1, hi, by go_num, rfl, by omega, hin, HA2, HB, hb2⟩
        case measure => (simp [intOf]; try omega)
      · have hz : ¬ (cmpZ x.l l < 0) := by
          unfold cmpZ; rw [if_neg hc]; split <;> omega
        have HB2 : Hid (∀ j, m ≤ j → j < n → l ≤ (L.getD j default).l) := Lib.hid (fun j h1 h2 => by
          by_cases e : j = m
          · subst e; rw [HX.out]; omega
          · have := HOK.out.asc (i := m) (j := j) (by omega) (by have := HL.out; omega); rw [HX.out] at this; omega)
        clear hc
        go_wp2_with fail
        refine (cmpCell_any x.l x.t x.f l _).mono ?_
        rintro e w1 ⟨rfl, hb1⟩
        have hb2 : Below w.heap.size w w1 := hbel.trans (hb1.mono hbel.size)
        clear d1 d2 d3 hb1
        go_wp2
        go_roundw
        case rel => exact ⟨lo, m, rfl, rfl, hm1, by omega, HA, HB2, hb2⟩
        case measure => (simp [intOf]; try omega)
    · obtain rfl : lo = hi := by omega
      have HP : Hid (Place L l lo) := Lib.hid ⟨by rw [HL.out]; exact hin, HA.out, fun j h1 h2 => HB.out j h1 (by rw [← HL.out]; exact h2)⟩
      by_cases hn : lo < n
      · obtain ⟨g, off, rfl, hg, d1, d2, d3⟩ := HS.out.cells3_at hbel (Nat.le_refl _) lo hn
        obtain ⟨x, hx⟩ : ∃ x, L.getD lo default = x := ⟨_, rfl⟩
        rw [hx] at d1 d2 d3
        have HX := Lib.hid hx
        have hle : l ≤ x.l := by rw [← hx]; exact HB.out lo (Nat.le_refl _) hn
        clear hx
        by_cases e : x.l = l
        · have HF : Hid (foundB L l lo = true) := Lib.hid (by unfold foundB; exact decide_eq_true ⟨by rw [HL.out]; exact hn, by rw [HX.out]; exact e⟩)
          have hz : cmpZ l l = 0 := by unfold cmpZ; rw [if_neg (by omega), if_neg (by omega)]
          go_wp2_with fail
          refine (cmpCell_any l x.t x.f l _).mono ?_
          rintro e w1 ⟨rfl, hb1⟩
          have hb2 : Below w.heap.size w w1 := hbel.trans (hb1.mono hbel.size)
          go_wp2
          go_ret2
          exact find_post HP.out HF.out hb2
        · have HF : Hid (foundB L l lo = false) := Lib.hid (by unfold foundB; exact decide_eq_false (fun h => e (by rw [← HX.out]; exact h.2)))
          have hz : cmpZ x.l l = 1 := by unfold cmpZ; rw [if_neg (by omega), if_pos (by omega)]
          go_wp2_with fail
          refine (cmpCell_any x.l x.t x.f l _).mono ?_
          rintro e w1 ⟨rfl, hb1⟩
          have hb2 : Below w.heap.size w w1 := hbel.trans (hb1.mono hbel.size)
          go_wp2
          go_ret2
          exact find_post HP.out HF.out hb2
      · have HF : Hid (foundB L l lo = false) := Lib.hid (by unfold foundB; exact decide_eq_false (fun h => by have := h.1; rw [HL.out] at this; omega))
        go_wp2
        go_ret2
        exact find_post HP.out HF.out hbel

/-- The search behind a pointer to a memory. -/
theorem cellOf_any (b : Nat) (K : ByteArray) (a : Option Addr) (n c : Nat) (L : List C3) (l : Int) (w : World) (hT : Two w b (.string K) (.slice a n c) 57) (hs : SrcC w a n L) (hn : n ≤ 1048600) (hok : MemOk K L) :
    Calls Tryz.prog 181 #[.pointer (some ⟨b, 0, none⟩), .int .i64 l] w (FindPost L l w) := by
  have HS := Lib.hid hs
  have HOK := Lib.hid hok
  have q1 := hT.c1
  clear hs hok hT
  go_enter Tryz.func181, Tryz.ntmps181
  go_wp2_with fail
  refine (search_any K a n c L l w HS.out hn HOK.out).mono ?_
  rintro e w1 ⟨p, hp, rfl, hb1⟩
  have HP := Lib.hid hp
  clear hp
  obtain ⟨fb, hfb⟩ : ∃ fb, foundB L l p = fb := ⟨_, rfl⟩
  rw [hfb]
  have HF := Lib.hid hfb
  clear hfb
  go_wp2
  go_ret2
  exact find_post HP.out HF.out hb1
end Go.Proofs.YtkfkjcadmdcbnaaGreatDoor
namespace Go.Proofs.YtkfkjcadmdcbnaaGreatDoor
open Go.RowKit Go.Proofs.YtkfkjcadmdcbnaaGreatDoor.Parts Go.Proofs.YtkfkjcadmdcbnaaGreatDoor.Hexa

theorem ret_strp {a b : ByteArray} (h : a = b) : Ending.returned (.string a) = .returned (.string b) := by rw [h]
theorem ret_intp {a b : Int} (h : a = b) : Ending.returned (.int .i64 a) = .returned (.int .i64 b) := by rw [h]
theorem foundB_yes {K : ByteArray} {L : List C3} {l : Nat} {p : Nat} (hp : Place L l p) (h : foundB L l p = true) : p < L.length ∧ lineT K L l = (L.getD p default).t := by
  unfold foundB at h
  have h := of_decide_eq_true h
  exact ⟨h.1, by unfold lineT; rw [hp.found h.1 h.2]⟩
theorem foundB_no {K : ByteArray} {L : List C3} {l : Nat} {p : Nat} (hok : MemOk K L) (hp : Place L l p) (h : foundB L l p = false) : lineT K L l = K.extract (l * 16) ((l + 1) * 16) := by
  unfold foundB at h
  have h := of_decide_eq_false h
  unfold lineT
  rw [cellIdx_none (hp.lost hok h), show 16 * l = l * 16 by omega, show (l + 1) * 16 = l * 16 + 16 by omega]

set_option maxRecDepth 100000 in
set_option maxHeartbeats 400000 in
theorem textClone_c (s : ByteArray) (w : World) (hs : s.size ≤ 1048600) :
    Calls Tryz.prog 39 #[.string s] w fun e w' => e = .returned (.string s) ∧ Below w.heap.size w w' := by
  go_enter Tryz.func39, Tryz.ntmps39
  go_wp2_with (go_at_call 102; refine (Tryz.stringslite_Clone _ _ (by omega)).mono ?_; rintro e w1 ⟨rfl, hb1⟩)
  go_ret
  exact ⟨rfl, hb1⟩

set_option maxRecDepth 100000 in
set_option maxHeartbeats 400000 in
theorem hasWord_any (b : Nat) (K : ByteArray) (v : Value) (i : Int) (w : World) (hT : Two w b (.string K) v 57) (hK : K.size ≤ 1048600) :
    Calls Tryz.prog 134 #[.pointer (some ⟨b, 0, none⟩), .int .i64 i] w fun e w' => e = .returned (.bool (decide (Has K i))) ∧ w' = w := by
  have q0 := hT.c0
  have hd : (K.size : Int) / 8 = ((K.size / 8 : Nat) : Int) := by omega
  obtain ⟨N, hN⟩ : ∃ N : Nat, K.size / 8 = N := ⟨_, rfl⟩
  have HD : Hid (decide (Has K i) = (decide (0 ≤ i) && decide (i < (N : Int)))) := Lib.hid (by
    have h3 : Has K i ↔ (0 ≤ i ∧ i < (N : Int)) := by unfold Has; rw [hN]
    simp only [h3, Bool.decide_and])
  rw [HD.out]
  rw [hN] at hd
  clear hT hN HD
  by_cases h1 : 0 ≤ i
  · by_cases h2 : i < (N : Int)
    · go_enter Tryz.func134, Tryz.ntmps134
      go_wp2
      go_ret
      exact ⟨by simp [h1, h2], rfl⟩
    · go_enter Tryz.func134, Tryz.ntmps134
      go_wp2
      go_ret
      exact ⟨by simp [h2], rfl⟩
  · go_enter Tryz.func134, Tryz.ntmps134
    go_wp2
    go_ret
    exact ⟨by simp; omega, rfl⟩

set_option maxRecDepth 100000 in
set_option maxHeartbeats 400000 in
theorem wordStart_any (m : Nat) (i : Int) (w : World) (hi : i = m) (hm : m ≤ 1048600) :
    Calls Tryz.prog 135 #[.int .i64 i] w fun e w' => e = .returned (.int .i64 ((m % 2 * 8 : Nat) : Int)) ∧ w' = w := by
  subst hi
  go_enter Tryz.func135, Tryz.ntmps135
  go_wp2
  go_ret
  exact ⟨ret_intp (by omega), rfl⟩

set_option maxRecDepth 100000 in
set_option maxHeartbeats 1000000 in
theorem current_any (b : Nat) (K : ByteArray) (a : Option Addr) (n c : Nat) (L : List C3) (l : Nat) (i : Int) (w : World) (hi : i = l) (hT : Two w b (.string K) (.slice a n c) 57) (hs : SrcC w a n L) (hn : n ≤ 1048600) (hok : MemOk K L) (hl : l < K.size / 16) :
    Calls Tryz.prog 136 #[.pointer (some ⟨b, 0, none⟩), .int .i64 i] w fun e w' => e = .returned (.string (lineT K L l)) ∧ Below w.heap.size w w' := by
  subst hi
  have HS := Lib.hid hs
  have HL := Lib.hid hs.len
  have HOK := Lib.hid hok
  have HT := Lib.hid hT
  have hk2 := hok.2.1
  clear hs hok hT
  go_enter Tryz.func136, Tryz.ntmps136
  go_wp2_with fail
  refine (cellOf_any b K a n c L l w HT.out HS.out hn HOK.out).mono ?_
  rintro e w1 ⟨p, hp, rfl, hb1⟩
  have HP := Lib.hid hp
  have T1 := Lib.hid (HT.out.later hb1)
  have q0 := T1.out.c0
  have q1 := T1.out.c1
  have B1 := Lib.hid hb1
  clear hp hb1
  cases hfb : foundB L l p with
  | true =>
    obtain ⟨hpl, he⟩ := foundB_yes (K := K) HP.out hfb
    have HE := Lib.hid he
    have hpn : p < n := by have := HL.out; omega
    clear hfb he hpl
    obtain ⟨g, off, rfl, hg, d1, d2, d3⟩ := HS.out.cells3_at B1.out (Nat.le_refl _) p hpn
    go_wp2
    go_ret
    exact ⟨ret_strp HE.out.symm, B1.out⟩
  | false =>
    have HE := Lib.hid (foundB_no HOK.out HP.out hfb)
    clear hfb
    go_wp2
    go_ret
    exact ⟨ret_strp HE.out.symm, B1.out⟩
end Go.Proofs.YtkfkjcadmdcbnaaGreatDoor
namespace Go.Proofs.YtkfkjcadmdcbnaaGreatDoor
open Go.RowKit Go.Proofs.YtkfkjcadmdcbnaaGreatDoor.Parts Go.Proofs.YtkfkjcadmdcbnaaGreatDoor.Hexa

set_option maxRecDepth 100000 in
set_option maxHeartbeats 1000000 in
theorem implWordAt_any (K : ByteArray) (a : Option Addr) (n c : Nat) (L : List C3) (i : Int) (w : World) (hs : SrcC w a n L) (hn : n ≤ 1048600) (hK : K.size ≤ 1048600) :
    Calls Tryz.prog 77 #[.agg #[.string K, .slice a n c], .int .i64 i] w fun e w' => e = .returned (.string (wordAtB K L i)) ∧ Below w.heap.size w w' := by
  have HS := Lib.hid hs
  have B0 := Lib.hid (below_alloc w (.cells #[.string K, .slice a n c] 57))
  have T0 := Lib.hid (Two.alloc w (.string K) (.slice a n c) 57)
  clear hs
  by_cases hok : MemOk K L
  · have HOK := Lib.hid hok
    have HBB := Lib.hid (memOkB_yes hok)
    clear hok
    by_cases hh : Has K i
    · obtain ⟨m, rfl⟩ : ∃ m : Nat, i = m := ⟨i.toNat, by have := hh.1; omega⟩
      have hm : m < K.size / 8 := by have := hh.2; omega
      have hm2 : m ≤ 1048600 := by omega
      have HD : Hid (decide (Has K (m : Int)) = true) := Lib.hid (decide_eq_true hh)
      have HE : Hid (wordAtB K L (m : Int) = wordT K L m) := Lib.hid (wordAtB_yes HOK.out hm)
      have HLL : Hid (m / 2 < K.size / 16) := Lib.hid (by have := HOK.out.1; omega)
      have hTs := lineT_size HOK.out HLL.out
      obtain ⟨T, hT⟩ : ∃ T, lineT K L (m / 2) = T := ⟨_, rfl⟩
      rw [hT] at hTs
      have HT := Lib.hid hT
      have HW := Lib.hid (wordT_of hT)
      clear hh hm hT
      go_enter Tryz.func77, Tryz.ntmps77
      go_wp2_with fail
      refine (implOk_any K a n c L _ (HS.out.later B0.out) hn hK).mono ?_
      rw [HBB.out]
      rintro e w1 ⟨rfl, hb1⟩
      have T1 := Lib.hid (T0.out.later hb1)
      have B1 := Lib.hid (B0.out.trans (hb1.mono B0.out.size))
      clear hb1
      go_wp2_with fail
      refine (hasWord_any _ K _ _ _ T1.out hK).mono ?_
      rw [HD.out]
      rintro e w2 ⟨rfl, rfl⟩
      go_wp2_with fail
      refine (wordStart_any m _ _ rfl hm2).mono ?_
      rintro e w3 ⟨rfl, rfl⟩
      go_wp2_with fail
      refine (current_any _ K a n c L (m / 2) _ _ (by omega) T1.out (HS.out.later B1.out) hn HOK.out HLL.out).mono ?_
      rw [HT.out]
      rintro e w4 ⟨rfl, hb4⟩
      have B4 := Lib.hid (B1.out.trans (hb4.mono B1.out.size))
      clear hb4
      rcases Nat.mod_two_eq_zero_or_one m with h2 | h2
      · have HE2 := Lib.hid (HW.out.1 h2)
        have hi2 : (m : Int) % 2 = 0 := by omega
        clear h2
        have hsz : (T.extract 0 8).size ≤ 1048600 := by rw [ByteArray.size_extract]; omega
        have HZ := Lib.hid hsz
        clear hsz
        go_wp2_with fail
        refine (textClone_c _ _ HZ.out).mono ?_
        rintro e w5 ⟨rfl, hb5⟩
        go_wp2
        go_ret
        exact ⟨ret_strp (by rw [HE.out, HE2.out]), B4.out.trans (hb5.mono B4.out.size)⟩
      · have HE2 := Lib.hid (HW.out.2 h2)
        have hi2 : (m : Int) % 2 = 1 := by omega
        clear h2
        have hsz : (T.extract 8 16).size ≤ 1048600 := by rw [ByteArray.size_extract]; omega
        have HZ := Lib.hid hsz
        clear hsz
        go_wp2_with fail
        refine (textClone_c _ _ HZ.out).mono ?_
        rintro e w5 ⟨rfl, hb5⟩
        go_wp2
        go_ret
        exact ⟨ret_strp (by rw [HE.out, HE2.out]), B4.out.trans (hb5.mono B4.out.size)⟩
    · have HD : Hid (decide (Has K i) = false) := Lib.hid (decide_eq_false hh)
      have HE : Hid (wordAtB K L i = ⟨#[]⟩) := Lib.hid (wordAtB_no hh)
      clear hh
      go_enter Tryz.func77, Tryz.ntmps77
      go_wp2_with fail
      refine (implOk_any K a n c L _ (HS.out.later B0.out) hn hK).mono ?_
      rw [HBB.out]
      rintro e w1 ⟨rfl, hb1⟩
      have T1 := Lib.hid (T0.out.later hb1)
      have B1 := Lib.hid (B0.out.trans (hb1.mono B0.out.size))
      clear hb1
      go_wp2_with fail
      refine (hasWord_any _ K _ _ _ T1.out hK).mono ?_
      rw [HD.out]
      rintro e w2 ⟨rfl, rfl⟩
      go_wp2
      go_ret
      exact ⟨ret_strp HE.out.symm, B1.out⟩
  · have HBB := Lib.hid (memOkB_no hok)
    have HE : Hid (wordAtB K L i = ⟨#[]⟩) := Lib.hid (wordAtB_bad hok)
    clear hok
    go_enter Tryz.func77, Tryz.ntmps77
    go_wp2_with fail
    refine (implOk_any K a n c L _ (HS.out.later B0.out) hn hK).mono ?_
    rw [HBB.out]
    rintro e w1 ⟨rfl, hb1⟩
    go_wp2
    go_ret
    exact ⟨ret_strp HE.out.symm, B0.out.trans (hb1.mono B0.out.size)⟩

end Go.Proofs.YtkfkjcadmdcbnaaGreatDoor
namespace Go.Proofs.YtkfkjcadmdcbnaaGreatDoor
open Go.RowKit Go.Proofs.YtkfkjcadmdcbnaaGreatDoor.Parts Go.Proofs.YtkfkjcadmdcbnaaGreatDoor.Hexa

theorem SrcE.news {α : Type} [Inhabited α] {E : Enc α} {w : World} {p : Addr} {n : Nat} {L : List α} (h : SrcE E w (some p) n L) (hk0 : 0 < E.k) : ∀ j u, (cellsE E L)[j]? = some u → w.cell? (p.add j) = some u := by
  intro j u hu
  have hj : j < L.length * E.k := by
    rcases Nat.lt_or_ge j (L.length * E.k) with h | h
    · exact h
    · rw [List.getElem?_eq_none (by rw [cellsE_length]; exact h)] at hu; cases hu
  have hd : j = j / E.k * E.k + j % E.k := by rw [Nat.mul_comm]; exact (Nat.div_add_mod j E.k).symm
  have hq : j / E.k < L.length := (Nat.div_lt_iff_lt_mul hk0).2 hj
  have hr := Nat.mod_lt j hk0
  rw [hd, cellsE_at E L _ _ hq hr] at hu
  obtain ⟨g, off, e, _, c⟩ := h.cell (j / E.k) (by rw [← h.len]; exact hq)
  cases e
  have := c _ _ hu
  rw [Nat.add_assoc, ← hd] at this
  rw [Addr.add_lit]; exact this

/-- What an append gives: a slice that owns the cells, in the row that it had or in a new one. -/
def AppE (P : Program) (args : Array TypeId) (ty : TypeId) (vs : Array Value) (w : World) (B e k n : Nat) (xs : List Value) (v : Value) : Prop :=
  ∃ v' w', (Builtin.append_ args ty vs).run P w = .ok v' w' ∧ w'.ownsRow B e k v' n xs ∧ w.grownBy w' v.ownBlock ∧ (v'.ownBlock = v.ownBlock ∨ v'.ownBlock = some w.heap.size)

theorem run_append_nothing {P : Program} (w : World) (base : Nat) (t ty e : TypeId) (i : TypeInfo) (size : Nat) (ht : P.underlying t = some (.slice e)) (hi : P.info? e = some i)
    (v : Value) (n c : Nat) (xs : List Value) (hown : w.ownsRow base e size v n xs) :
    (Builtin.append_ #[t, t] ty #[v, .slice none 0 c]).run P w = .ok v w := by
  rcases hown.2 with ⟨rfl, rfl⟩ | ⟨g, cap, cur, rfl, _, _, hnc, _⟩
  · simp [Builtin.append_, run_underlying ht, sizeOf, typeInfo, hi, Builtin.lenOf, Builtin.firstCells]
  · simp [Builtin.append_, run_underlying ht, sizeOf, typeInfo, hi, Builtin.lenOf, Builtin.firstCells, hnc, storeCells]

theorem wpList_appE {P : Program} {ops : Array Oper} {rest : List Oper} {o : Oper} {a : Act} {w : World} {Q : Exit → Act → World → Prop} (hgd : o.guard = none) (s x : Operand) (t tn : TypeId)
    (ho : o.op = .call { callee := .builtin .append, args := #[s, x], argTypes := #[t, tn] }) (vs vx : Value) (hs : a.eval s = vs) (hx : a.eval x = vx) {B e k n : Nat} {xs : List Value}
    (hr : AppE P #[t, tn] o.type #[vs, vx] w B e k n xs vs) (h : ∀ v' w', w'.ownsRow B e k v' n xs → w.grownBy w' vs.ownBlock → (v'.ownBlock = vs.ownBlock ∨ v'.ownBlock = some w.heap.size) → wpList P ops Q rest (a.put o.dst v') w') : wpList P ops Q (o :: rest) a w := by
  obtain ⟨v', w', r, h1, h2, h3⟩ := hr
  exact Lib.wpList_append_run w hgd s x t tn ho vs vx hs hx v' w' r (h v' w' h1 h2 h3)
/-- At a step of a region that draws its order. -/
theorem step_appE {P : Program} {ops : Array Oper} {o : Oper} {a : Act} {w : World} {K : Act → World → Prop} {Q : Exit → Act → World → Prop} {E : Prop} (hgd : o.guard = none) (s x : Operand) (t tn : TypeId)
    (ho : o.op = .call { callee := .builtin .append, args := #[s, x], argTypes := #[t, tn] }) (vs vx : Value) (hs : a.eval s = vs) (hx : a.eval x = vx) {B e k n : Nat} {xs : List Value}
    (hr : AppE P #[t, tn] o.type #[vs, vx] w B e k n xs vs) (h : ∀ v' w', w'.ownsRow B e k v' n xs → w.grownBy w' vs.ownBlock → (v'.ownBlock = vs.ownBlock ∨ v'.ownBlock = some w.heap.size) → K (a.put o.dst v') w') :
    if Region.wanted o (yielded ops a.tmps) = true then Oper.wp P o a w K Q else E := by
  obtain ⟨v', w', r, h1, h2, h3⟩ := hr
  rw [if_pos (by simp [Region.wanted, hgd])]
  exact Lib.wp_append_run w s x t tn ho vs vx hs hx v' w' r (h v' w' h1 h2 h3)

end Go.Proofs.YtkfkjcadmdcbnaaGreatDoor
namespace Go.Proofs.YtkfkjcadmdcbnaaGreatDoor
open Go.RowKit Go.Proofs.YtkfkjcadmdcbnaaGreatDoor.Parts Go.Proofs.YtkfkjcadmdcbnaaGreatDoor.Hexa

def encT : Enc ByteArray := ⟨1, fun s => [.string s], fun _ => rfl⟩
theorem encT_cells (s : ByteArray) : encT.cells s = [.string s] := rfl
theorem cellsT_eq : ∀ L : List ByteArray, cellsE encT L = scells L
  | [] => rfl
  | x :: r => by rw [cellsE, cellsT_eq r]; rfl
abbrev SrcT (w : World) (a : Option Addr) (n : Nat) (L : List ByteArray) : Prop := SrcE encT w a n L
theorem srcT_at {w : World} {a : Option Addr} {n : Nat} {L : List ByteArray} (h : SrcT w a n L) (j : Nat) (hj : j < n) : ∃ g off, a = some ⟨g, off, none⟩ ∧ g < w.heap.size ∧ w.cell? ⟨g, off + j, none⟩ = some (.string (L.getD j default)) := by
  obtain ⟨g, off, e, hg, c⟩ := h.cell j hj
  refine ⟨g, off, e, hg, ?_⟩
  have h9 := c 0 _ rfl
  rw [show off + j * encT.k + 0 = off + j from by show off + j * 1 + 0 = off + j; omega] at h9
  exact h9
theorem srcT_of_own {w : World} {B e n cap : Nat} {a : Option Addr} {L : List ByteArray} (h : w.ownsRow B e 1 (.slice a n cap) n (scells L)) : SrcT w a n L := srcE_of_own (E := encT) (by rw [cellsT_eq]; exact h) (by decide)
theorem srcT_later {w w' : World} {a : Option Addr} {n : Nat} {L : List ByteArray} {B : Nat} (h : SrcT w a n L) (hb : Below B w w') (hB : w.heap.size ≤ B) (j : Nat) (hj : j < n) : ∃ g off, a = some ⟨g, off, none⟩ ∧ g < w.heap.size ∧ w'.cell? ⟨g, off + j, none⟩ = some (.string (L.getD j default)) := by
  obtain ⟨g, off, e, hg, _⟩ := srcT_at h j hj
  obtain ⟨g', off', e', _, c⟩ := srcT_at (h.below hb hB) j hj
  rw [e] at e'
  cases e'
  exact ⟨g, off, e, hg, c⟩
theorem texts_eq {P Q : List ByteArray} {n : Nat} (hP : P.length = n) (hQ : Q.length = n) (h : ∀ j, j < n → P.getD j default = Q.getD j default) : P = Q := by
  apply List.ext_getElem (by omega)
  intro i h1 h2
  have h9 := h i (by omega)
  simpa [List.getD, h1, h2] using h9
end Go.Proofs.YtkfkjcadmdcbnaaGreatDoor
namespace Go.Proofs.YtkfkjcadmdcbnaaGreatDoor
open Go.RowKit Go.Proofs.YtkfkjcadmdcbnaaGreatDoor.Hexa Go.Proofs.YtkfkjcadmdcbnaaGreatDoor.Byt Go.Proofs.YtkfkjcadmdcbnaaGreatDoor.BitsM Go.Proofs.YtkfkjcadmdcbnaaGreatDoor.Parts

/-- n zero bytes; none where n is not from 0 to 20000. -/
def zeroB (n : Int) : ByteArray := if 0 ≤ n ∧ n ≤ 20000 then longB n.toNat 0 else ⟨#[]⟩
/-- A text with zero bytes behind it, eight in all; none for a longer one. -/
def wordB (s : ByteArray) : ByteArray := if s.size ≤ 8 then s ++ longB (8 - s.size) 0 else ⟨#[]⟩
theorem zeroB_of (s : ByteArray) (h : s.size ≤ 8) : zeroB (8 - (s.size : Int)) = longB (8 - s.size) 0 := by
  unfold zeroB
  rw [if_pos (by omega), show (8 - (s.size : Int)).toNat = 8 - s.size by omega]
/-- Two texts of one length combined, the first k bytes of them. -/
def xorL (a b : ByteArray) (k : Nat) : List UInt8 := (List.zipWith (· ^^^ ·) a.data.toList b.data.toList).take k
def xorT (a b : ByteArray) : ByteArray := if a.size = b.size then ⟨(xorL a b a.size).toArray⟩ else ⟨#[]⟩
theorem xorL_length (a b : ByteArray) (hl : a.size = b.size) (k : Nat) (hk : k ≤ a.size) : (xorL a b k).length = k := by
  have h1 : a.data.toList.length = a.size := by simp
  have h2 : b.data.toList.length = b.size := by simp
  unfold xorL
  rw [List.length_take, List.length_zipWith]
  omega
theorem xorL_next (a b : ByteArray) (k : Nat) (ha : k < a.size) (hb : k < b.size) : bcells (xorL a b k) ++ [.int .u8 (((a[k]'ha) ^^^ (b[k]'hb)).toNat : Int)] = bcells (xorL a b (k + 1)) := by
  have h1 : k < a.data.toList.length := by simpa using ha
  have h2 : k < b.data.toList.length := by simpa using hb
  have e : (List.zipWith (· ^^^ ·) a.data.toList b.data.toList)[k]'(by rw [List.length_zipWith]; omega) = (a[k]'ha) ^^^ (b[k]'hb) := by rw [List.getElem_zipWith]; rfl
  unfold xorL
  rw [List.take_succ_eq_append_getElem (by rw [List.length_zipWith]; omega), e]
  simp [bcells]
/-- The first j of the k bytes of a number. -/
def numL (m k j : Nat) : List UInt8 := (List.range j).map fun t => UInt8.ofNat (m / 256 ^ (k - 1 - t))
def numB (m k : Nat) : ByteArray := ⟨(numL m k k).toArray⟩
theorem numL_length (m k j : Nat) : (numL m k j).length = j := by simp [numL]
theorem numL_next (m k j : Nat) : numL m k j ++ [UInt8.ofNat (m / 256 ^ (k - 1 - j))] = numL m k (j + 1) := by simp [numL, List.range_succ]
/-- The number has room in width bytes. -/
def NumFits (n width : Int) : Prop := 0 ≤ n ∧ (1 ≤ width ∧ width ≤ 7) ∧ n < 256 ^ width.toNat
theorem shift_zero {m k : Nat} (h : m < 256 ^ k) : (m : Int) / 2 ^ (8 * k) = 0 := by
  have e : (2 : Int) ^ (8 * k) = ((256 ^ k : Nat) : Int) := by rw [show (256 : Nat) ^ k = 2 ^ (8 * k) by rw [Nat.pow_mul]]; simp
  rw [e, ← Int.natCast_ediv, Nat.div_eq_of_lt h]; rfl
theorem shift_pos {m k : Nat} (h : 256 ^ k ≤ m) : 0 < (m : Int) / 2 ^ (8 * k) := by
  have e : (2 : Int) ^ (8 * k) = ((256 ^ k : Nat) : Int) := by rw [show (256 : Nat) ^ k = 2 ^ (8 * k) by rw [Nat.pow_mul]]; simp
  have hp : 0 < 256 ^ k := Nat.pow_pos (by omega)
  have := Nat.div_pos h hp
  rw [e, ← Int.natCast_ediv]; omega
theorem num_byte (m e : Nat) : (m : Int) / 2 ^ (8 * e) % 256 = ((UInt8.ofNat (m / 256 ^ e)).toNat : Int) := by
  rw [UInt8.toNat_ofNat', show (256 : Nat) ^ e = 2 ^ (8 * e) by rw [Nat.pow_mul]]
  have : (2 : Int) ^ (8 * e) = ((2 ^ (8 * e) : Nat) : Int) := by simp
  rw [this, ← Int.natCast_ediv]
  rfl
/-- The number that bytes say, the greatest first. -/
def numV (l : List UInt8) : Nat := l.foldl (fun n b => 256 * n + b.toNat) 0
theorem numV_snoc (l : List UInt8) (b : UInt8) : numV (l ++ [b]) = 256 * numV l + b.toNat := by simp [numV]
theorem fold_lt : ∀ (l : List UInt8) (acc : Nat), l.foldl (fun n b => 256 * n + b.toNat) acc < (acc + 1) * 256 ^ l.length
  | [], acc => by simp
  | b :: l, acc => by
    have h := fold_lt l (256 * acc + b.toNat)
    have hb := b.toNat_lt
    have h2 : (256 * acc + b.toNat + 1) * 256 ^ l.length ≤ (acc + 1) * 256 * 256 ^ l.length := Nat.mul_le_mul_right _ (by omega)
    rw [List.foldl_cons, List.length_cons, Nat.pow_succ, Nat.mul_comm (256 ^ l.length) 256, ← Nat.mul_assoc]
    omega
theorem numV_lt (l : List UInt8) : numV l < 256 ^ l.length := by
  have := fold_lt l 0
  simpa [numV] using this
/-- The bytes from offset a on, k of them. -/
def cutL (s : ByteArray) (a k : Nat) : List UInt8 := (s.data.toList.drop a).take k
theorem cutL_length (s : ByteArray) (a k : Nat) (h : a + k ≤ s.size) : (cutL s a k).length = k := by
  have : s.data.toList.length = s.size := by simp
  unfold cutL
  rw [List.length_take, List.length_drop]
  omega
theorem cutL_next (s : ByteArray) (a k : Nat) (h : a + k < s.size) : cutL s a k ++ [s[a + k]'h] = cutL s a (k + 1) := by
  have hl : s.data.toList.length = s.size := by simp
  unfold cutL
  rw [List.take_succ_eq_append_getElem (by rw [List.length_drop]; omega), List.getElem_drop]
  rfl
/-- These bytes exist. -/
def NumThere (s : ByteArray) (a width : Int) : Prop := (1 ≤ width ∧ width ≤ 7) ∧ (0 ≤ a ∧ a ≤ (s.size : Int) - width)
theorem ret_pair {a b : Int} {v : Value} (h : a = b) : Ending.returned (.tuple #[.int .i64 a, v]) = .returned (.tuple #[.int .i64 b, v]) := by rw [h]
/-- The number in its bytes; none where it has no room. -/
def numTextB (n width : Int) : ByteArray := if 0 ≤ n ∧ (1 ≤ width ∧ width ≤ 7) ∧ n < 256 ^ width.toNat then numB n.toNat width.toNat else ⟨#[]⟩
/-- The number at an offset, and whether it is there. -/
def numAtV (s : ByteArray) (a width : Int) : Int := if (1 ≤ width ∧ width ≤ 7) ∧ (0 ≤ a ∧ a ≤ (s.size : Int) - width) then (numV (cutL s a.toNat width.toNat) : Int) else 0
def numAtB (s : ByteArray) (a width : Int) : Bool := decide ((1 ≤ width ∧ width ≤ 7) ∧ (0 ≤ a ∧ a ≤ (s.size : Int) - width))
end Go.Proofs.YtkfkjcadmdcbnaaGreatDoor
namespace Go.Proofs.YtkfkjcadmdcbnaaGreatDoor
open Go.RowKit Go.Proofs.YtkfkjcadmdcbnaaGreatDoor.Hexa Go.Proofs.YtkfkjcadmdcbnaaGreatDoor.Byt Go.Proofs.YtkfkjcadmdcbnaaGreatDoor.BitsM Go.Proofs.YtkfkjcadmdcbnaaGreatDoor.Parts

theorem infoText : (Tryz.prog.info? 9).map (fun i => (i.zero, i.size, i.bytes)) = some (some (.string ⟨#[]⟩), 1, 16) := by kernel_rfl
def wordsN (s : ByteArray) : Nat := (s.size + 7) / 8
/-- Word k of a text. -/
def wordAt (s : ByteArray) (k : Nat) : ByteArray := wordB (s.extract (8 * k) (min (8 * k + 8) s.size))
/-- The words of a text. -/
def wordsL (s : ByteArray) : List ByteArray := (List.range (wordsN s)).map (wordAt s)
theorem wordsL_length (s : ByteArray) : (wordsL s).length = wordsN s := by simp [wordsL]
def wordsTo (s : ByteArray) (k : Nat) : List ByteArray := (List.range k).map (wordAt s)
theorem wordsTo_next (s : ByteArray) (k : Nat) : scells (wordsTo s k) ++ [.string (wordAt s k)] = scells (wordsTo s (k + 1)) := by simp [wordsTo, scells, List.range_succ]
theorem wordsTo_all (s : ByteArray) : wordsTo s (wordsN s) = wordsL s := rfl

/-- Some slice of the call's own that holds these texts. -/
def GivesT (P : List ByteArray) (w : World) (e : Ending) (w' : World) : Prop :=
  ∃ v, e = .returned v ∧ w'.ownsRow w.heap.size 9 1 v P.length (scells P) ∧ Below w.heap.size w w'

end Go.Proofs.YtkfkjcadmdcbnaaGreatDoor
namespace Go.Proofs.YtkfkjcadmdcbnaaGreatDoor
open Go.RowKit Go.Proofs.YtkfkjcadmdcbnaaGreatDoor.Parts Go.Proofs.YtkfkjcadmdcbnaaGreatDoor.Hexa

/-- No block is written but v's. -/
structure Apart (v : Value) (w w' : World) : Prop where
  size : w.heap.size ≤ w'.heap.size
  block : ∀ g, g < w.heap.size → v.ownBlock ≠ some g → w'.heap[g]? = w.heap[g]?
theorem Apart.own {v : Value} {w w' : World} (h : Apart v w w') {v2 : Value} {M e k n : Nat} {xs : List Value} (ho : w.ownsRow M e k v2 n xs) (hne : ∀ g, v2.ownBlock = some g → v.ownBlock ≠ some g) : w'.ownsRow M e k v2 n xs := by
  refine ⟨ho.1, ho.2.imp id fun ⟨g, cap, cur, hv, hg, hh, r⟩ => ⟨g, cap, cur, hv, hg, ?_, r⟩⟩
  rw [h.block g (Array.getElem?_eq_some_iff.1 hh).1 (hne g (by rw [hv]; rfl))]; exact hh
theorem Apart.of_below {v : Value} {w w' : World} (h : Below w.heap.size w w') : Apart v w w' := ⟨h.size, fun g hg _ => h.block g hg⟩
theorem Apart.after_below {v : Value} {w w1 w2 : World} (hb : Below w.heap.size w w1) (h : Apart v w1 w2) : Apart v w w2 := ⟨Nat.le_trans hb.size h.size, fun g hg hn => (h.block g (Nat.lt_of_lt_of_le hg hb.size) hn).trans (hb.block g hg)⟩
end Go.Proofs.YtkfkjcadmdcbnaaGreatDoor
namespace Go.Proofs.YtkfkjcadmdcbnaaGreatDoor
open Go.RowKit Go.Proofs.YtkfkjcadmdcbnaaGreatDoor.Parts Go.Proofs.YtkfkjcadmdcbnaaGreatDoor.Hexa Go.Proofs.YtkfkjcadmdcbnaaGreatDoor.Byt

/-- The n words of a memory from a place on. -/
noncomputable def rdWords (K : ByteArray) (L : List C3) (a : Int) (n : Nat) : List ByteArray := (List.range n).map fun (k : Nat) => wordAtB K L (a + (k : Int))
theorem rdWords_succ (K : ByteArray) (L : List C3) (a : Int) (n : Nat) : rdWords K L a (n + 1) = rdWords K L a n ++ [wordAtB K L (a + (n : Int))] := by unfold rdWords; rw [List.range_succ, List.map_append]; rfl
theorem rdWords_len (K : ByteArray) (L : List C3) (a : Int) (n : Nat) : (rdWords K L a n).length = n := by simp [rdWords]
theorem infoText1 : (Tryz.prog.info? 9).map (fun i => (i.zero, i.size, i.bytes)) = some (some (.string ⟨#[]⟩), 1, 16) := by kernel_rfl
theorem appS1 (w : World) (ty : TypeId) (B : Nat) (v : Value) (n : Nat) (L : List ByteArray) (hown : w.ownsRow B 9 1 v n (scells L)) (hB : B ≤ w.heap.size) (s : ByteArray) (hn : n ≤ 1000000) :
    AppE Tryz.prog #[38, 38] ty #[v, .slice (some ⟨w.heap.size, 0, none⟩) 1 1] (w.alloc (.cells #[.string s] 9)) B 9 1 (n + 1) (scells (L ++ [s])) v := by
  obtain ⟨i0, hi, hz0, hz1, hz2⟩ := info_parts infoText1
  rw [show scells (L ++ [s]) = scells L ++ [.string s] by simp [scells]]
  obtain ⟨v', w', hr, h2, h3, _, h5⟩ := run_append_own_at (P := Tryz.prog) (w := w.alloc (.cells #[.string s] 9)) B 38 ty 9 i0 _ 1 16 Tryz.underlying38 hi hz0 hz1 hz2 rfl (by decide) v n _ (own_below hown ((Below.refl _ _).alloc (Nat.le_refl _) _)) ⟨w.heap.size, 0, none⟩ 1 1 [.string s] rfl (World.news_of_block (heap_alloc_new _ _)) (by intro u hu; rw [List.mem_singleton.1 hu]; rfl) (by unfold maxLen; omega) (by omega) (by simp; omega)
  exact ⟨v', w', hr, h2, h3, h5⟩
set_option maxRecDepth 100000 in
set_option maxHeartbeats 4000000 in
theorem implRdWords_any (K : ByteArray) (a : Option Addr) (n c : Nat) (L : List C3) (a0 : Int) (m : Nat) (w : World) (hs : SrcC w a n L) (hn : n ≤ 1048600) (hK : K.size ≤ 1048600) (ha : -1 ≤ a0 ∧ a0 ≤ 100000) (hm : m ≤ 1000) :
    Calls Tryz.prog 80 #[.agg #[.string K, .slice a n c], .int .i64 a0, .int .i64 m] w (GivesT (rdWords K L a0 m) w) := by
  have B0 := Lib.hid (below_bk w (.cells #[.string K, .slice a n c] 57))
  have T0 := Lib.hid (Bk.alloc w #[.string K, .slice a n c] 57)
  have HS := Lib.hid hs
  obtain ⟨ha0, ha1⟩ := ha
  clear hs
  go_enter Tryz.func80, Tryz.ntmps80
  go_wp2
  go_loopw [10, 7] (fun kv uv wr => ∃ (k : Nat), k ≤ m ∧ kv = .int .i64 k ∧ Hid (wr.ownsRow (w.heap.size + 1) 9 1 uv k (scells (rdWords K L a0 k))) ∧ Hid (Bk wr w.heap.size #[.string K, .slice a n c] 57) ∧ Below w.heap.size w wr) (fun kv _ _ => m - (intOf kv).toNat)
  case atStart => exact ⟨0, Nat.zero_le _, rfl, Lib.hid (World.ownsRow_nil _ _ _ _), T0, B0.out⟩
  case round =>
    clear T0
    obtain ⟨k, hk, rfl, HW, HT, hbel⟩ := hrel
    obtain ⟨u, hu⟩ : ∃ u, u = u7 := ⟨_, rfl⟩
    rw [← hu] at HW ⊢
    clear hu
    by_cases hlt : k < m
    · have t0 := HT.out.cell (j := 0) rfl
      have t1 := HT.out.cell (j := 1) rfl
      have HSr := Lib.hid (HS.out.below hbel (Nat.le_refl _))
      have HN := Lib.hid (rdWords_succ K L a0 k)
      obtain ⟨s, hs⟩ : ∃ s, wordAtB K L (a0 + (k : Int)) = s := ⟨_, rfl⟩
      have HSG := Lib.hid hs
      rw [hs] at HN
      clear hs
      have HBL := Lib.hid hbel
      go_wp2_with fail
      refine (implWordAt_any K a n c L (a0 + (k : Int)) _ HSr.out hn hK).mono ?_
      rw [HSG.out]
      rintro e w2 ⟨rfl, hb⟩
      have HW2 := Lib.hid (own_below HW.out hb)
      have HT2 := Lib.hid (HT.out.later hb)
      have B2 := Lib.hid (HBL.out.trans (hb.mono HBL.out.size))
      clear hb t0 t1 hbel
      have hr := appS1 w2 38 (w.heap.size + 1) u k (rdWords K L a0 k) HW2.out HT2.out.lt s (by omega)
      go_wp2_with (at_builtin; refine wpList_appE rfl _ _ _ _ rfl _ _ rfl rfl hr ?_; clear hr; intro v' w6 h1 h2 h3)
      have HW6 : Hid (w6.ownsRow (w.heap.size + 1) 9 1 v' (k + 1) (scells (rdWords K L a0 (k + 1)))) := Lib.hid (by rw [HN.out]; exact h1)
      have hba := below_bk w2 (.cells #[.string s] 9)
      have hne : u.ownBlock ≠ some w.heap.size := fun e => by have := (HW2.out.lt _ e).1; omega
      have HT6 := Lib.hid ((HT2.out.later hba).grown h2 hne)
      have B6 : Below w.heap.size w w6 := (B2.out.trans (hba.mono B2.out.size)).grown h2 (by have := B2.out.size; have := hba.size; omega) (fun q hq => by have := (HW2.out.lt q hq).1; omega)
      clear h1 h2 h3 hba hne
      go_wp2
      go_roundw
      case rel => exact ⟨k + 1, by omega, by go_num, HW6, HT6, B6⟩
      case measure => (simp [intOf]; try omega)
    · obtain rfl : k = m := by omega
      have HO := Lib.hid (ownE_mono HW.out (B' := w.heap.size) (by omega))
      go_wp2
      go_ret
      exact ⟨_, rfl, by rw [rdWords_len]; exact HO.out, hbel⟩
set_option maxRecDepth 100000 in
set_option maxHeartbeats 4000000 in
theorem specRdWords_any (K : ByteArray) (a : Option Addr) (n c : Nat) (L : List C3) (a0 : Int) (m : Nat) (w : World) (hs : SrcC w a n L) (hn : n ≤ 1048600) (hK : K.size ≤ 1048600) (ha : -1 ≤ a0 ∧ a0 ≤ 100000) (hm : m ≤ 1000) :
    Calls Tryz.prog 68 #[.agg #[.string K, .slice a n c], .int .i64 a0, .int .i64 m] w (GivesT (rdWords K L a0 m) w) := by
  have hb1 := below_bk w (.cells #[.string K, .slice a n c] 57)
  have hb2 := below_bk (w.alloc (.cells #[.string K, .slice a n c] 57)) (.cells #[] 9)
  have B0 := Lib.hid (hb1.trans (hb2.mono hb1.size))
  have T0 := Lib.hid ((Bk.alloc w #[.string K, .slice a n c] 57).later hb2)
  have O0 : Hid (((w.alloc (.cells #[.string K, .slice a n c] 57)).alloc (.cells #[] 9)).ownsRow (w.heap.size + 1) 9 1 (.slice (some ⟨w.heap.size + 1, 0, none⟩) 0 0) 0 (scells (rdWords K L a0 0))) := Lib.hid (by
    have h := World.ownsRow_lit (base := w.heap.size + 1) (e := 9) (size := 1) (w.alloc (.cells #[.string K, .slice a n c] 57)) #[] 0 (by simp) (by decide) rfl
    simp only [World.size_alloc] at h
    exact h)
  have HS := Lib.hid hs
  obtain ⟨ha0, ha1⟩ := ha
  clear hs hb1 hb2
  go_enter Tryz.func68, Tryz.ntmps68
  go_wp2
  go_loopw [7, 8] (fun uv kv wr => ∃ (k : Nat), k ≤ m ∧ kv = .int .i64 k ∧ Hid (wr.ownsRow (w.heap.size + 1) 9 1 uv k (scells (rdWords K L a0 k))) ∧ Hid (Bk wr w.heap.size #[.string K, .slice a n c] 57) ∧ Below w.heap.size w wr) (fun _ kv _ => m - (intOf kv).toNat)
  case atStart => exact ⟨0, Nat.zero_le _, rfl, O0, T0, B0.out⟩
  case round =>
    clear T0 O0
    obtain ⟨k, hk, rfl, HW, HT, hbel⟩ := hrel
    obtain ⟨u, hu⟩ : ∃ u, u = u7 := ⟨_, rfl⟩
    rw [← hu] at HW ⊢
    clear hu
    by_cases hlt : k < m
    · have t0 := HT.out.cell (j := 0) rfl
      have t1 := HT.out.cell (j := 1) rfl
      have HSr := Lib.hid (HS.out.below hbel (Nat.le_refl _))
      have HN := Lib.hid (rdWords_succ K L a0 k)
      obtain ⟨s, hs⟩ : ∃ s, wordAtB K L (a0 + (k : Int)) = s := ⟨_, rfl⟩
      have HSG := Lib.hid hs
      rw [hs] at HN
      clear hs
      have HBL := Lib.hid hbel
      go_wp2_with fail
      refine (specWordAt_any K a n c L (a0 + (k : Int)) _ HSr.out hn hK).mono ?_
      rw [HSG.out]
      rintro e w2 ⟨rfl, hb⟩
      have HW2 := Lib.hid (own_below HW.out hb)
      have HT2 := Lib.hid (HT.out.later hb)
      have B2 := Lib.hid (HBL.out.trans (hb.mono HBL.out.size))
      clear hb t0 t1 hbel
      have hr := appS1 w2 38 (w.heap.size + 1) u k (rdWords K L a0 k) HW2.out HT2.out.lt s (by omega)
      go_wp2_with (at_builtin; refine wpList_appE rfl _ _ _ _ rfl _ _ rfl rfl hr ?_; clear hr; intro v' w6 h1 h2 h3)
      have HW6 : Hid (w6.ownsRow (w.heap.size + 1) 9 1 v' (k + 1) (scells (rdWords K L a0 (k + 1)))) := Lib.hid (by rw [HN.out]; exact h1)
      have hba := below_bk w2 (.cells #[.string s] 9)
      have hne : u.ownBlock ≠ some w.heap.size := fun e => by have := (HW2.out.lt _ e).1; omega
      have HT6 := Lib.hid ((HT2.out.later hba).grown h2 hne)
      have B6 : Below w.heap.size w w6 := (B2.out.trans (hba.mono B2.out.size)).grown h2 (by have := B2.out.size; have := hba.size; omega) (fun q hq => by have := (HW2.out.lt q hq).1; omega)
      clear h1 h2 h3 hba hne
      go_wp2
      go_roundw
      case rel => exact ⟨k + 1, by omega, by go_num, HW6, HT6, B6⟩
      case measure => (simp [intOf]; try omega)
    · obtain rfl : k = m := by omega
      have HO := Lib.hid (ownE_mono HW.out (B' := w.heap.size) (by omega))
      go_wp2
      go_ret
      exact ⟨_, rfl, by rw [rdWords_len]; exact HO.out, hbel⟩
end Go.Proofs.YtkfkjcadmdcbnaaGreatDoor
namespace Go.Proofs.YtkfkjcadmdcbnaaGreatDoor
open Go.Proofs.YtkfkjcadmdcbnaaGreatDoor.Byt

def SerR (n : Int) : Prop := 0 ≤ n ∧ n ≤ 16777215
noncomputable def serB (n : Int) : ByteArray := @ite _ (SerR n) (Classical.propDecidable _) (wordB (numTextB n 3)) ⟨#[]⟩
theorem serB_yes {n : Int} (h : SerR n) : serB n = wordB (numTextB n 3) := by unfold serB; rw [if_pos h]
theorem serB_no {n : Int} (h : ¬ SerR n) : serB n = ⟨#[]⟩ := by unfold serB; rw [if_neg h]
end Go.Proofs.YtkfkjcadmdcbnaaGreatDoor
namespace Go.Proofs.YtkfkjcadmdcbnaaGreatDoor
open Go.RowKit
def SaysB (b : Bool) (w : World) (e : Ending) (w' : World) : Prop := e = .returned (.bool b) ∧ Below w.heap.size w w'
def SaysT (s : ByteArray) (w : World) (e : Ending) (w' : World) : Prop := e = .returned (.string s) ∧ Below w.heap.size w w'
def SaysI (n : Int) (w : World) (e : Ending) (w' : World) : Prop := e = .returned (.int .i64 n) ∧ Below w.heap.size w w'
theorem ret_boolv {a b : Bool} (h : a = b) : Ending.returned (.bool a) = .returned (.bool b) := by rw [h]
end Go.Proofs.YtkfkjcadmdcbnaaGreatDoor
namespace Go.Proofs.YtkfkjcadmdcbnaaGreatDoor
open Go.RowKit

/-- A block of four cells. -/
def Four (w : World) (b : Nat) (T P I Q : Int) (t : TypeId) : Prop := w.heap[b]? = some (.cells #[.int .i64 T, .int .i64 P, .int .i64 I, .int .i64 Q] t (0, 0))
theorem Four.lt {w : World} {b : Nat} {T P I Q : Int} {t : TypeId} (h : Four w b T P I Q t) : b < w.heap.size := (Array.getElem?_eq_some_iff.1 h).1
theorem Four.later {w w' : World} {b : Nat} {T P I Q : Int} {t : TypeId} (h : Four w b T P I Q t) (hb : Below w.heap.size w w') : Four w' b T P I Q t := (hb.block b h.lt).trans h
theorem Four.alloc (w : World) (T P I Q : Int) (t : TypeId) : Four (w.alloc (.cells #[.int .i64 T, .int .i64 P, .int .i64 I, .int .i64 Q] t)) w.heap.size T P I Q t := heap_alloc_new w _
theorem Four.c0 {w : World} {b : Nat} {T P I Q : Int} {t : TypeId} (h : Four w b T P I Q t) : w.cell? ⟨b, 0, none⟩ = some (.int .i64 T) := by unfold Four at h; simp [World.cell?, h]
theorem Four.c1 {w : World} {b : Nat} {T P I Q : Int} {t : TypeId} (h : Four w b T P I Q t) : w.cell? ⟨b, 1, none⟩ = some (.int .i64 P) := by unfold Four at h; simp [World.cell?, h]
theorem Four.c2 {w : World} {b : Nat} {T P I Q : Int} {t : TypeId} (h : Four w b T P I Q t) : w.cell? ⟨b, 2, none⟩ = some (.int .i64 I) := by unfold Four at h; simp [World.cell?, h]
theorem Four.c3 {w : World} {b : Nat} {T P I Q : Int} {t : TypeId} (h : Four w b T P I Q t) : w.cell? ⟨b, 3, none⟩ = some (.int .i64 Q) := by unfold Four at h; simp [World.cell?, h]
theorem Four.fr {w : World} {b o : Nat} {T P I Q : Int} {t : TypeId} (h : Four w b T P I Q t) : w.frozen? ⟨b, o, none⟩ = false := by unfold Four at h; simp [World.frozen?, h]
theorem Four.drew {w : World} {b : Nat} {T P I Q : Int} {t : TypeId} (h : Four w b T P I Q t) : Four w.drew b T P I Q t := h
theorem Four.setOther' {w : World} {b c o : Nat} {T P I Q : Int} {t : TypeId} {v : Value} (h : Four w b T P I Q t) (hne : b ≠ c) : Four (w.setCell ⟨c, o, none⟩ v) b T P I Q t := (Below.heap_setCell _ _ _ _ hne).trans h
theorem below_al (w : World) (o : Obj) : Below w.heap.size w (w.alloc o) := (Below.refl _ _).alloc (Nat.le_refl _) _

/-- Whether a layout is valid. -/
def GeoR (T P I Q : Int) : Prop := 1 ≤ T ∧ T ≤ 3 ∧ 5 ≤ P ∧ P ≤ 12 ∧ 2 ≤ I ∧ I ≤ 6 ∧ 1 ≤ Q ∧ Q ≤ P - 4
instance (T P I Q : Int) : Decidable (GeoR T P I Q) := by unfold GeoR; infer_instance
theorem geo_cases {T P I Q : Int} (h : ¬ GeoR T P I Q) : (¬ (1 ≤ T ∧ T ≤ 3)) ∨ ((1 ≤ T ∧ T ≤ 3) ∧ ¬ (5 ≤ P ∧ P ≤ 12)) ∨ ((1 ≤ T ∧ T ≤ 3) ∧ (5 ≤ P ∧ P ≤ 12) ∧ ¬ (2 ≤ I ∧ I ≤ 6)) ∨ ((1 ≤ T ∧ T ≤ 3) ∧ (5 ≤ P ∧ P ≤ 12) ∧ (2 ≤ I ∧ I ≤ 6) ∧ ¬ (1 ≤ Q ∧ Q ≤ P - 4)) := by
  unfold GeoR at h; omega
theorem within_cases (n a b : Int) : (a ≤ n ∧ n ≤ b) ∨ n < a ∨ (a ≤ n ∧ b < n) := by omega

/-- The words of a part. -/
def wordsOf (P I : Int) : Int := 38 + 8 * I + 4 * P
end Go.Proofs.YtkfkjcadmdcbnaaGreatDoor
namespace Go.Proofs.YtkfkjcadmdcbnaaGreatDoor
namespace Plc

/-- The kind of the word k of a part. -/
def kindZ (I k : Int) : Int := if k = 0 then 1 else if k = 2 then 2 else if k < 4 then 0 else if k < 36 then 3 else if k < 38 then 4 else if k < 38 + 8 * I then 5 else 6
/-- The j-th place of a part, counted without the words that have no place of their own. -/
def pl (j : Nat) : Nat := if j = 0 then 0 else if j = 1 then 2 else if j < 34 then j + 2 else j + 4
def kd (I : Int) (j : Nat) : Int := if j = 0 then 1 else if j = 1 then 2 else if j < 34 then 3 else if (j : Int) < 34 + 8 * I then 5 else 6
theorem pl_mono {i j : Nat} (h : i < j) : pl i < pl j := by unfold pl; (repeat' split) <;> omega
theorem pl_le (j : Nat) : pl j ≤ j + 4 := by unfold pl; split <;> (try split) <;> (try split) <;> omega
theorem pl_journal {i : Nat} (h : i < 32) : pl (2 + i) = 4 + i := by unfold pl; rw [if_neg (by omega), if_neg (by omega), if_pos (by omega)]; omega
theorem pl_later (i : Nat) : pl (34 + i) = 38 + i := by unfold pl; rw [if_neg (by omega), if_neg (by omega), if_neg (by omega)]; omega
theorem kd_journal {I : Int} {i : Nat} (h : i < 32) : kd I (2 + i) = 3 := by unfold kd; rw [if_neg (by omega), if_neg (by omega), if_pos (by omega)]
theorem kd_inode {I : Int} {i : Nat} (h : (i : Int) < 8 * I) : kd I (34 + i) = 5 := by unfold kd; rw [if_neg (by omega), if_neg (by omega), if_neg (by omega), if_pos (by omega)]
theorem kd_page {I : Int} {i : Nat} (h : 8 * I ≤ (i : Int)) : kd I (34 + i) = 6 := by unfold kd; rw [if_neg (by omega), if_neg (by omega), if_neg (by omega), if_neg (by omega)]
theorem kindZ_pl (I : Int) (j : Nat) : kindZ I (pl j) = kd I j := by
  unfold kindZ kd pl
  by_cases h0 : j = 0
  · subst h0; simp
  by_cases h1 : j = 1
  · subst h1; simp
  rw [if_neg h0, if_neg h1, if_neg h0, if_neg h1]
  by_cases h2 : j < 34
  · rw [if_pos h2, if_pos h2, if_neg (by omega), if_neg (by omega), if_neg (by omega), if_pos (by omega)]
  · rw [if_neg h2, if_neg h2, if_neg (by omega), if_neg (by omega), if_neg (by omega), if_neg (by omega), if_neg (by omega)]
    by_cases h3 : (j : Int) < 34 + 8 * I
    · rw [if_pos h3, if_pos (by omega)]
    · rw [if_neg h3, if_neg (by omega)]

/-- The places of a tenant whose part begins at c, and their kinds. -/
def atL (c : Int) (k : Nat) : List Int := (List.range k).map fun j => c + pl j
def kdL (I : Int) (k : Nat) : List Int := (List.range k).map fun j => kd I j
theorem atL_length (c : Int) (k : Nat) : (atL c k).length = k := by simp [atL]
theorem kdL_length (I : Int) (k : Nat) : (kdL I k).length = k := by simp [kdL]
theorem atL_succ (c : Int) (k : Nat) : atL c (k + 1) = atL c k ++ [c + pl k] := by simp [atL, List.range_succ]
theorem kdL_succ (I : Int) (k : Nat) : kdL I (k + 1) = kdL I k ++ [kd I k] := by simp [kdL, List.range_succ]
theorem atL_at (c : Int) {j k : Nat} (h : j < k) : (atL c k).getD j 0 = c + pl j := by simp [atL, List.getD, h]
theorem kdL_at (I : Int) {j k : Nat} (h : j < k) : (kdL I k).getD j 0 = kd I j := by simp [kdL, List.getD, h]
theorem atL_two (c : Int) : atL c 2 = [c, c + 2] := by simp [atL, List.range_succ, pl]
theorem kdL_two (I : Int) : kdL I 2 = [1, 2] := by simp [kdL, List.range_succ, kd]

/-- A place's tenant and the word in its part. -/
theorem at_div {W t : Int} {k : Nat} (hW : (k : Int) < W) : (t * W + k) / W = t := by
  have h0 : (0 : Int) < W := by omega
  rw [Int.add_comm, Int.add_mul_ediv_right _ _ (by omega), Int.ediv_eq_zero_of_lt (by omega) hW]; omega
theorem at_mod {W t : Int} {k : Nat} (hW : (k : Int) < W) : (t * W + k) % W = k := by
  rw [Int.add_comm, Int.add_mul_emod_self_right, Int.emod_eq_of_lt (by omega) hW]
theorem three {t : Int} (h0 : 0 ≤ t) (h1 : t ≤ 2) : t = 0 ∨ t = 1 ∨ t = 2 := by omega
/-- A part's beginning: a multiple of its words, with bounds. -/
theorem mul_le {t T W : Int} (h1 : t < T) (hW : 0 ≤ W) : t * W + W ≤ T * W := by
  have h : (t + 1) * W ≤ T * W := Int.mul_le_mul_of_nonneg_right (by omega) hW
  rw [Int.add_mul, Int.one_mul] at h; exact h
theorem mul_nonneg' {t W : Int} (h0 : 0 ≤ t) (hW : 0 ≤ W) : 0 ≤ t * W := Int.mul_nonneg h0 hW
theorem mul_bd {T W : Int} (h0 : 0 ≤ T) (h1 : T ≤ 3) (hW : 0 ≤ W) (h2 : W ≤ 134) : 0 ≤ T * W ∧ T * W ≤ 402 := by
  refine ⟨Int.mul_nonneg h0 hW, ?_⟩
  have h : T * W ≤ 3 * W := Int.mul_le_mul_of_nonneg_right h1 hW
  omega
end Plc
end Go.Proofs.YtkfkjcadmdcbnaaGreatDoor
namespace Go.Proofs.YtkfkjcadmdcbnaaGreatDoor
open Go.RowKit

/-- A place of a tenant, or -1. -/
def placeV (T P I Q t a : Int) : Int := if GeoR T P I Q ∧ 0 ≤ t ∧ t ≤ T - 1 then t * wordsOf P I + a else -1
theorem placeV_yes {T P I Q t a : Int} (h : GeoR T P I Q ∧ 0 ≤ t ∧ t ≤ T - 1) : placeV T P I Q t a = t * wordsOf P I + a := if_pos h
theorem placeV_no {T P I Q t a : Int} (h : ¬ (GeoR T P I Q ∧ 0 ≤ t ∧ t ≤ T - 1)) : placeV T P I Q t a = -1 := if_neg h
def jourV (T P I Q t i : Int) : Int := if 0 ≤ i ∧ i ≤ 15 then placeV T P I Q t (4 + 2 * i) else -1
def inodV (T P I Q t i : Int) : Int := if GeoR T P I Q ∧ 0 ≤ i ∧ i ≤ I - 1 then placeV T P I Q t (38 + 8 * i) else -1
def pageV (T P I Q t i : Int) : Int := if GeoR T P I Q ∧ 0 ≤ i ∧ i ≤ P - 1 then placeV T P I Q t (38 + 8 * I + 4 * i) else -1
theorem saysI_eq {a b : Int} {w : World} (h : a = b) : (fun e w' => SaysI a w e w') = SaysI b w := by rw [h]
end Go.Proofs.YtkfkjcadmdcbnaaGreatDoor
namespace Go.Proofs.YtkfkjcadmdcbnaaGreatDoor
open Go.RowKit

/-- The lines of a layout. -/
def linesV (T P I Q : Int) : Int := if GeoR T P I Q then T * wordsOf P I / 2 else 0
theorem linesV_no {T P I Q : Int} (h : ¬ GeoR T P I Q) : linesV T P I Q = 0 := if_neg h
theorem linesV_yes {T P I Q : Int} (h : GeoR T P I Q) : linesV T P I Q * 2 = T * wordsOf P I ∧ 0 ≤ linesV T P I Q ∧ linesV T P I Q ≤ 201 := by
  rw [show linesV T P I Q = T * wordsOf P I / 2 from if_pos h]
  obtain ⟨g1, g2, g3, g4, g5, g6, g7, g8⟩ := h
  have ht : T = 1 ∨ T = 2 ∨ T = 3 := by omega
  unfold wordsOf
  rcases ht with rfl | rfl | rfl <;> omega
end Go.Proofs.YtkfkjcadmdcbnaaGreatDoor
namespace Go.Proofs.YtkfkjcadmdcbnaaGreatDoor
open Go.RowKit Go.Proofs.YtkfkjcadmdcbnaaGreatDoor.Parts Go.Proofs.YtkfkjcadmdcbnaaGreatDoor.Hexa

theorem ret_i64' {a b : Int} (h : a = b) : Ending.returned (.int .i64 a) = .returned (.int .i64 b) := by rw [h]

/-- A row of ints as cells. -/
def icells (xs : List Int) : List Value := xs.map fun x => Value.int .i64 x
theorem icells_length (xs : List Int) : (icells xs).length = xs.length := by simp [icells]
theorem cell_int {w : World} {a : Addr} {P : List Int} {k : Nat} (hk : k < P.length) (h : w.cell? a = (icells P)[k]?) : w.cell? a = some (.int .i64 P[k]) := by
  rw [h]; simp [icells, hk]
end Go.Proofs.YtkfkjcadmdcbnaaGreatDoor
namespace Go.Proofs.YtkfkjcadmdcbnaaGreatDoor
open Go.RowKit Go.Proofs.YtkfkjcadmdcbnaaGreatDoor.Parts Go.Proofs.YtkfkjcadmdcbnaaGreatDoor.Hexa

theorem infoInt : (Tryz.prog.info? 3).map (fun i => (i.zero, i.size, i.bytes)) = some (some (.int .i64 0), 1, 8) := by kernel_rfl

/-- A slice of ints that came in. -/
structure SrcI (w : World) (a : Option Addr) (n : Nat) (zs : List Int) : Prop where
  len : zs.length = n
  cell : ∀ j, j < n → ∃ g off, a = some ⟨g, off, none⟩ ∧ g < w.heap.size ∧ w.cell? ⟨g, off + j, none⟩ = some (.int .i64 (zs.getD j 0))
theorem SrcI.later {w w' : World} {a : Option Addr} {n : Nat} {zs : List Int} (h : SrcI w a n zs) (hb : Below w.heap.size w w') : SrcI w' a n zs :=
  ⟨h.len, fun j hj => by
    obtain ⟨g, off, e, hg, hc⟩ := h.cell j hj
    exact ⟨g, off, e, Nat.lt_of_lt_of_le hg hb.size, by rw [hb.cell hg]; exact hc⟩⟩

/-- A slice at the head of its block reads as these ints. -/
structure IntsAt (w : World) (g n : Nat) (zs : List Int) : Prop where
  len : zs.length = n
  lt : g < w.heap.size
  cell : ∀ j, j < n → w.cell? ⟨g, j, none⟩ = some (.int .i64 (zs.getD j 0))
theorem IntsAt.later {w w' : World} {g n : Nat} {zs : List Int} (h : IntsAt w g n zs) (hb : Below w.heap.size w w') : IntsAt w' g n zs :=
  ⟨h.len, Nat.lt_of_lt_of_le h.lt hb.size, fun j hj => by rw [hb.cell h.lt]; exact h.cell j hj⟩
theorem own_lt {w : World} {B e : Nat} {g n cap : Nat} {xs : List Value} (h : w.ownsRow B e 1 (.slice (some ⟨g, 0, none⟩) n cap) n xs) : g < w.heap.size := by
  rcases h.2 with ⟨h', _⟩ | ⟨g', cap', cur, h', _, hg, _⟩
  · simp at h'
  · simp at h'
    rw [h'.1]
    exact (Array.getElem?_eq_some_iff.1 hg).1
theorem intsAt_of_own {w : World} {B e : Nat} {g n cap : Nat} {zs : List Int} (h : w.ownsRow B e 1 (.slice (some ⟨g, 0, none⟩) n cap) n (icells zs)) : IntsAt w g n zs := by
  have hl : zs.length = n := by have := own_length h; rwa [icells_length] at this
  refine ⟨hl, own_lt h, fun j hj => ?_⟩
  rw [h.cellAt j (by omega)]
  have hj' : j < zs.length := by omega
  simp [icells, List.getD, hj']
theorem IntsAt.reads {w : World} {g n : Nat} {zs : List Int} (h : IntsAt w g n zs) : Reads w (some ⟨g, 0, none⟩) (icells zs) := fun j hj => by
  rw [icells_length] at hj
  refine ⟨g, rfl, ?_⟩
  rw [h.cell j (by have := h.len; omega)]
  simp [icells, List.getD, hj]
theorem own_kept {w w' : World} {B e : Nat} {v : Value} {n : Nat} {xs : List Value} (h : w.ownsRow B e 1 v n xs) (hk : ∀ g, v.ownBlock = some g → w'.heap[g]? = w.heap[g]?) : w'.ownsRow B e 1 v n xs := by
  refine ⟨h.1, h.2.imp id fun ⟨g, cap, cur, hv, hg, hh, r⟩ => ⟨g, cap, cur, hv, hg, ?_, r⟩⟩
  rw [hk g (by rw [hv]; rfl)]; exact hh
theorem own_block_lt {w : World} {B e : Nat} {v : Value} {n : Nat} {xs : List Value} (h : w.ownsRow B e 1 v n xs) : ∀ g, v.ownBlock = some g → g < w.heap.size := by
  intro k hk
  rcases h.2 with ⟨rfl, _⟩ | ⟨g, cap, cur, rfl, _, hg, _⟩
  · simp [Value.ownBlock] at hk
  · simp [Value.ownBlock] at hk
    rw [← hk]
    exact (Array.getElem?_eq_some_iff.1 hg).1
end Go.Proofs.YtkfkjcadmdcbnaaGreatDoor
namespace Go.Proofs.YtkfkjcadmdcbnaaGreatDoor
open Go.RowKit Go.Proofs.YtkfkjcadmdcbnaaGreatDoor.Parts Go.Proofs.YtkfkjcadmdcbnaaGreatDoor.Hexa

/-- What an append gives: a slice that owns the cells, in the row that it had or in a new one. -/
def AppG (P : Program) (args : Array TypeId) (ty : TypeId) (vs : Array Value) (w : World) (B e k n : Nat) (xs : List Value) (v : Value) : Prop :=
  ∃ v' w', (Builtin.append_ args ty vs).run P w = .ok v' w' ∧ w'.ownsRow B e k v' n xs ∧ w.grownBy w' v.ownBlock ∧ (v'.ownBlock = v.ownBlock ∨ v'.ownBlock = some w.heap.size)
theorem icells_append (L M : List Int) : icells (L ++ M) = icells L ++ icells M := by simp [icells]
theorem icells_one (L : List Int) : ∀ v ∈ icells L, v.oneCell' = true := by
  intro v hv
  simp only [icells, List.mem_map] at hv
  obtain ⟨x, _, rfl⟩ := hv
  rfl
/-- One int appended, in the block of the walk's own one-cell slice. -/
theorem appI (w : World) (ty : TypeId) (B : Nat) (v : Value) (n : Nat) (P : List Int) (hown : w.ownsRow B 3 1 v n (icells P)) (hB : B ≤ w.heap.size) (x : Int) (hn : n ≤ 100000000) :
    AppG Tryz.prog #[49, 49] ty #[v, .slice (some ⟨w.heap.size, 0, none⟩) 1 1] (w.alloc (.cells #[.int .i64 x] 3)) B 3 1 (n + 1) (icells (P ++ [x])) v := by
  obtain ⟨i0, hi, hz0, hz1, hz2⟩ := info_parts infoInt
  rw [icells_append]
  obtain ⟨v', w', hr, h2, h3, _, h5⟩ := run_append_own_at (P := Tryz.prog) (w := w.alloc (.cells #[.int .i64 x] 3)) B 49 ty 3 i0 _ 1 8 Tryz.underlying49 hi hz0 hz1 hz2 rfl (by decide) v n _ (own_below hown ((Below.refl _ _).alloc (Nat.le_refl _) _)) ⟨w.heap.size, 0, none⟩ 1 1 (icells [x]) rfl (World.news_of_block (heap_alloc_new _ _)) (icells_one [x]) (by unfold maxLen; omega) (by omega) (by simp; omega)
  exact ⟨v', w', hr, h2, h3, h5⟩
theorem wpList_appG {P : Program} {ops : Array Oper} {rest : List Oper} {o : Oper} {a : Act} {w : World} {Q : Exit → Act → World → Prop} (hgd : o.guard = none) (s x : Operand) (t tn : TypeId)
    (ho : o.op = .call { callee := .builtin .append, args := #[s, x], argTypes := #[t, tn] }) (vs vx : Value) (hs : a.eval s = vs) (hx : a.eval x = vx) {B e k n : Nat} {xs : List Value}
    (hr : AppG P #[t, tn] o.type #[vs, vx] w B e k n xs vs) (h : ∀ v' w', w'.ownsRow B e k v' n xs → w.grownBy w' vs.ownBlock → (v'.ownBlock = vs.ownBlock ∨ v'.ownBlock = some w.heap.size) → wpList P ops Q rest (a.put o.dst v') w') : wpList P ops Q (o :: rest) a w := by
  obtain ⟨v', w', r, h1, h2, h3⟩ := hr
  exact Lib.wpList_append_run w hgd s x t tn ho vs vx hs hx v' w' r (h v' w' h1 h2 h3)
end Go.Proofs.YtkfkjcadmdcbnaaGreatDoor
namespace Go.Proofs.YtkfkjcadmdcbnaaGreatDoor
open Go.RowKit Go.Proofs.YtkfkjcadmdcbnaaGreatDoor.Parts Go.Proofs.YtkfkjcadmdcbnaaGreatDoor.Hexa

def StR (zs : List Int) (n : Nat) : Prop := ∀ j, j < n → 0 ≤ zs.getD j 0 ∧ zs.getD j 0 ≤ 2
def StOk (zs : List Int) (p : Int) : Prop := StR zs zs.length ∧ (zs.length : Int) = p ∧ 1 ≤ p ∧ p ≤ 12
noncomputable def stB (zs : List Int) (p : Int) : Bool := @decide (StOk zs p) (Classical.propDecidable _)
theorem stB_yes {zs : List Int} {p : Int} (h : StOk zs p) : stB zs p = true := by unfold stB; exact @decide_eq_true _ (Classical.propDecidable _) h
theorem stB_no {zs : List Int} {p : Int} (h : ¬ StOk zs p) : stB zs p = false := by unfold stB; exact @decide_eq_false _ (Classical.propDecidable _) h
/-- Some slice of ints of the call's own. -/
def GivesI (P : List Int) (w : World) (e : Ending) (w' : World) : Prop :=
  ∃ v, e = .returned v ∧ w'.ownsRow w.heap.size 3 1 v P.length (icells P) ∧ Below w.heap.size w w'
/-- The pages below n that bear the state. -/
def withSt (zs : List Int) (s : Int) (n : Nat) : List Int := ((List.range n).filter fun j => zs.getD j 0 == s).map fun (j : Nat) => (j : Int)
theorem withSt_zero (zs : List Int) (s : Int) : withSt zs s 0 = [] := rfl
theorem withSt_yes {zs : List Int} {s : Int} {n : Nat} (h : zs.getD n 0 = s) : withSt zs s (n + 1) = withSt zs s n ++ [(n : Int)] := by
  unfold withSt; rw [List.range_succ, List.filter_append, List.filter_cons_of_pos (by rw [h]; simp)]; simp
theorem withSt_no {zs : List Int} {s : Int} {n : Nat} (h : zs.getD n 0 ≠ s) : withSt zs s (n + 1) = withSt zs s n := by
  unfold withSt; rw [List.range_succ, List.filter_append, List.filter_cons_of_neg (by simpa [List.getD] using h)]; simp
theorem withSt_len (zs : List Int) (s : Int) (n : Nat) : (withSt zs s n).length ≤ n := by
  unfold withSt; rw [List.length_map]; have := List.length_filter_le (fun j => zs.getD j 0 == s) (List.range n); simpa using this

set_option maxRecDepth 100000 in
set_option maxHeartbeats 1000000 in
theorem specStOk_any (a : Option Addr) (n c : Nat) (zs : List Int) (p : Int) (w : World) (hs : SrcI w a n zs) (hn : n ≤ 2000000) :
    Calls Tryz.prog 167 #[.slice a n c, .int .i64 p] w fun e w' => e = .returned (.bool (stB zs p)) ∧ w' = w := by
  have HS := Lib.hid hs
  have HL := Lib.hid hs.len
  clear hs
  go_enter Tryz.func167, Tryz.ntmps167
  go_wp2
  go_loop [5] (fun iv => ∃ k : Nat, k ≤ n ∧ iv = .int .i64 k ∧ Hid (StR zs k)) (fun iv => n - (intOf iv).toNat)
  case atStart => exact ⟨0, Nat.zero_le _, rfl, Lib.hid (fun j hj => by omega)⟩
  case round =>
    obtain ⟨k, hk, rfl, HR⟩ := hrel
    by_cases hlt : k < n
    · obtain ⟨g, off, rfl, _, d⟩ := HS.out.cell k hlt
      obtain ⟨x, hx⟩ : ∃ x, zs.getD k 0 = x := ⟨_, rfl⟩
      rw [hx] at d
      have HX := Lib.hid hx
      clear hx
      by_cases h : 0 ≤ x ∧ x ≤ 2
      · have HR2 : Hid (StR zs (k + 1)) := Lib.hid (fun j hj => by
          by_cases e : j = k
          · subst e; rw [HX.out]; exact h
          · exact HR.out j (by omega))
        go_wp2_with fail
        refine (range_yes _ h).mono ?_
        rintro e w1 ⟨rfl, rfl⟩
        clear h
        go_wp2
        go_round
        case rel => exact ⟨k + 1, by omega, by go_num, HR2⟩
        case measure => (simp [intOf]; try omega)
      · have HN := Lib.hid (stB_no (zs := zs) (p := p) (fun h9 => h (by rw [← HX.out]; exact h9.1 k (by have := HL.out; omega))))
        go_wp2_with fail
        refine (range_no _ h).mono ?_
        rintro e w1 ⟨rfl, rfl⟩
        clear h
        go_wp2
        go_ret
        exact ⟨by rw [HN.out]; rfl, rfl⟩
    · obtain rfl : n = k := by omega
      by_cases he : (n : Int) = p
      · subst he
        by_cases h : 1 ≤ (n : Int) ∧ (n : Int) ≤ 12
        · have HN := Lib.hid (stB_yes (zs := zs) (p := (n : Int)) ⟨by rw [HL.out]; exact HR.out, by rw [HL.out], h⟩)
          go_wp2_with fail
          refine (range_yes _ h).mono ?_
          rintro e w1 ⟨rfl, rfl⟩
          clear h
          go_wp2
          go_ret
          exact ⟨by rw [HN.out]; rfl, rfl⟩
        · have HN := Lib.hid (stB_no (zs := zs) (p := (n : Int)) (fun h9 => h h9.2.2))
          go_wp2_with fail
          refine (range_no _ h).mono ?_
          rintro e w1 ⟨rfl, rfl⟩
          clear h
          go_wp2
          go_ret
          exact ⟨by rw [HN.out]; rfl, rfl⟩
      · have HN := Lib.hid (stB_no (zs := zs) (p := p) (fun h9 => he (by rw [← h9.2.1, HL.out])))
        have e1 : ((n : Int) == p) = false := by simpa using he
        clear he
        go_wp2
        go_ret
        exact ⟨by rw [HN.out]; rfl, rfl⟩

end Go.Proofs.YtkfkjcadmdcbnaaGreatDoor
namespace Go.Proofs.YtkfkjcadmdcbnaaGreatDoor
open Go.RowKit

set_option maxRecDepth 100000 in
set_option maxHeartbeats 400000 in
theorem implIn_any (n a b : Int) (w : World) : Calls Tryz.prog 108 #[.int .i64 n, .int .i64 a, .int .i64 b] w fun e w' => e = .returned (.bool (decide (a ≤ n ∧ n ≤ b))) ∧ w' = w := by
  by_cases h1 : a ≤ n <;> by_cases h2 : n ≤ b
  all_goals
    go_enter Tryz.func108, Tryz.ntmps108
    go_wp2
    all_goals go_ret
    all_goals exact ⟨by simp [h1, h2], rfl⟩
theorem implIn_yes {n a b : Int} (w : World) (h : a ≤ n ∧ n ≤ b) : Calls Tryz.prog 108 #[.int .i64 n, .int .i64 a, .int .i64 b] w fun e w' => e = .returned (.bool true) ∧ w' = w :=
  (implIn_any n a b w).mono fun _ _ ⟨he, hw⟩ => ⟨by rw [he, decide_eq_true h], hw⟩
theorem implIn_no {n a b : Int} (w : World) (h : ¬ (a ≤ n ∧ n ≤ b)) : Calls Tryz.prog 108 #[.int .i64 n, .int .i64 a, .int .i64 b] w fun e w' => e = .returned (.bool false) ∧ w' = w :=
  (implIn_any n a b w).mono fun _ _ ⟨he, hw⟩ => ⟨by rw [he, decide_eq_false h], hw⟩

end Go.Proofs.YtkfkjcadmdcbnaaGreatDoor
namespace Go.Proofs.YtkfkjcadmdcbnaaGreatDoor
open Go.RowKit Go.Proofs.YtkfkjcadmdcbnaaGreatDoor.Parts Go.Proofs.YtkfkjcadmdcbnaaGreatDoor.Hexa

set_option maxRecDepth 100000 in
set_option maxHeartbeats 1000000 in
theorem implStOk_any (a : Option Addr) (n c : Nat) (zs : List Int) (p : Int) (w : World) (hs : SrcI w a n zs) (hn : n ≤ 2000000) :
    Calls Tryz.prog 182 #[.slice a n c, .int .i64 p] w fun e w' => e = .returned (.bool (stB zs p)) ∧ w' = w := by
  have HS := Lib.hid hs
  have HL := Lib.hid hs.len
  clear hs
  by_cases he : (n : Int) = p
  · subst he
    have e1 : ((n : Int) != (n : Int)) = false := by simp
    by_cases h : 1 ≤ (n : Int) ∧ (n : Int) ≤ 12
    · have HP := Lib.hid h
      go_enter Tryz.func182, Tryz.ntmps182
      go_wp2_with fail
      refine (implIn_yes _ h).mono ?_
      rintro e w1 ⟨rfl, rfl⟩
      clear h
      go_wp2
      go_loop [18] (fun iv => ∃ k : Nat, k ≤ n ∧ iv = .int .i64 k ∧ Hid (StR zs k)) (fun iv => n - (intOf iv).toNat)
      case atStart => exact ⟨0, Nat.zero_le _, rfl, Lib.hid (fun j hj => by omega)⟩
      case round =>
        obtain ⟨k, hk, rfl, HR⟩ := hrel
        by_cases hlt : k < n
        · obtain ⟨g, off, rfl, _, d⟩ := HS.out.cell k hlt
          obtain ⟨x, hx⟩ : ∃ x, zs.getD k 0 = x := ⟨_, rfl⟩
          rw [hx] at d
          have HX := Lib.hid hx
          clear hx
          by_cases h : 0 ≤ x ∧ x ≤ 2
          · have HR2 : Hid (StR zs (k + 1)) := Lib.hid (fun j hj => by
              by_cases e : j = k
              · subst e; rw [HX.out]; exact h
              · exact HR.out j (by omega))
            go_wp2_with fail
            refine (implIn_yes _ h).mono ?_
            rintro e w1 ⟨rfl, rfl⟩
            clear h
            go_wp2
            go_round
            case rel => exact ⟨k + 1, by omega, by go_num, HR2⟩
            case measure => (simp [intOf]; try omega)
          · have HN := Lib.hid (stB_no (zs := zs) (p := (n : Int)) (fun h9 => h (by rw [← HX.out]; exact h9.1 k (by have := HL.out; omega))))
            go_wp2_with fail
            refine (implIn_no _ h).mono ?_
            rintro e w1 ⟨rfl, rfl⟩
            clear h
            go_wp2
            go_ret
            exact ⟨by rw [HN.out]; rfl, rfl⟩
        · obtain rfl : n = k := by omega
          have HN := Lib.hid (stB_yes (zs := zs) (p := (n : Int)) ⟨by rw [HL.out]; exact HR.out, by rw [HL.out], HP.out⟩)
          go_wp2
          go_ret
          exact ⟨by rw [HN.out]; rfl, rfl⟩
    · have HN := Lib.hid (stB_no (zs := zs) (p := (n : Int)) (fun h9 => h h9.2.2))
      go_enter Tryz.func182, Tryz.ntmps182
      go_wp2_with fail
      refine (implIn_no _ h).mono ?_
      rintro e w1 ⟨rfl, rfl⟩
      clear h
      go_wp2
      go_ret
      exact ⟨by rw [HN.out]; rfl, rfl⟩
  · have HN := Lib.hid (stB_no (zs := zs) (p := p) (fun h9 => he (by rw [← h9.2.1, HL.out])))
    have e1 : ((n : Int) != p) = true := by simpa using he
    clear he
    go_enter Tryz.func182, Tryz.ntmps182
    go_wp2
    go_ret
    exact ⟨by rw [HN.out]; rfl, rfl⟩

end Go.Proofs.YtkfkjcadmdcbnaaGreatDoor
namespace Go.Proofs.YtkfkjcadmdcbnaaGreatDoor
open Go.RowKit Go.Lib Go.Proofs.YtkfkjcadmdcbnaaGreatDoor.Hexa Go.Proofs.YtkfkjcadmdcbnaaGreatDoor.Byt

theorem made_zero (n : Nat) : (madeCells (Value.int .u8 0).cells (n * 1)).toList = bcells (List.replicate n 0) := by
  apply List.ext_getElem?
  intro j
  have hcl : (Value.int .u8 0).cells = #[Value.int .u8 0] := rfl
  by_cases hj : j < n
  · simp [madeCells, hj, hcl, Nat.mod_one, bcells]
  · rw [List.getElem?_eq_none (by simp [madeCells]; omega), List.getElem?_eq_none (by simp [bcells]; omega)]

/-- The bytes A, and zeros up to n. -/
def partB (A : List UInt8) (n : Nat) : List UInt8 := A ++ List.replicate (n - A.length) 0
theorem partB_length (A : List UInt8) (n : Nat) (h : A.length ≤ n) : (partB A n).length = n := by simp [partB]; omega
theorem partB_nil (n : Nat) : partB [] n = List.replicate n 0 := by simp [partB]
theorem partB_full (A : List UInt8) (n : Nat) (h : A.length = n) : partB A n = A := by simp [partB, h]
theorem partB_set (A : List UInt8) (n : Nat) (x : UInt8) (h : A.length < n) : (partB A n).set A.length x = partB (A ++ [x]) n := by
  obtain ⟨m, hm⟩ : ∃ m, n - A.length = m + 1 := ⟨n - A.length - 1, by omega⟩
  have h2 : n - (A ++ [x]).length = m := by simp; omega
  unfold partB
  rw [h2, hm, List.replicate_succ, List.set_append_right _ _ (Nat.le_refl _), Nat.sub_self, List.set_cons_zero, List.append_assoc]
  rfl
theorem part_start {w : World} {B e g n : Nat} (h : w.ownsRow B e 1 (.slice (some ⟨g, 0, none⟩) n n) n (madeCells (Value.int .u8 0).cells (n * 1)).toList) :
    Bytes w B e (.slice (some ⟨g, 0, none⟩) n n) (partB [] n) := by
  rw [made_zero] at h
  rw [partB_nil]
  refine bytes_of_own ?_
  rw [List.length_replicate]
  exact h
/-- The next byte written. -/
theorem part_next {w : World} {B e g n : Nat} {A : List UInt8} (h : Bytes w B e (.slice (some ⟨g, 0, none⟩) n n) (partB A n)) (x : UInt8) (hl : A.length < n) :
    Bytes (w.setCell ⟨g, A.length, none⟩ (.int .u8 x.toNat)) B e (.slice (some ⟨g, 0, none⟩) n n) (partB (A ++ [x]) n) := by
  have hp := partB_length A n (by omega)
  have h' : Bytes w B e (.slice (some ⟨g, 0, none⟩) (partB A n).length n) (partB A n) := by rw [hp]; exact h
  have hs := bytes_set h' A.length x
  rw [partB_set A n x hl, hp] at hs
  exact hs
theorem part_at {w : World} {B e g n : Nat} {A : List UInt8} (h : Bytes w B e (.slice (some ⟨g, 0, none⟩) n n) (partB A n)) (hl : A.length < n) :
    (∃ v, w.cell? ⟨g, A.length, none⟩ = some v) ∧ w.frozen? ⟨g, A.length, none⟩ = false ∧ B ≤ g := by
  have hp := partB_length A n (by omega)
  have h' : Bytes w B e (.slice (some ⟨g, 0, none⟩) (partB A n).length n) (partB A n) := by rw [hp]; exact h
  obtain ⟨h1, h2, h3⟩ := bytes_at h' A.length (by omega)
  exact ⟨⟨_, h1⟩, h2, h3⟩

/-- 'copy(b, s)'. -/
theorem bytes_copy {P : Program} {t e u ty : TypeId} {i : TypeInfo} (ht : P.underlying t = some (.slice e)) (hi : P.info? e = some i) (hs1 : i.size = 1)
    {w : World} {B g c n : Nat} {l : List UInt8} (hn : l.length = n) (h : Bytes w B e (.slice (some ⟨g, 0, none⟩) n c) l) (s : ByteArray) (hs : s.size ≤ n) :
    ∃ w', (Builtin.copy_ #[t, u] ty #[.slice (some ⟨g, 0, none⟩) n c, .string s]).run P w = .ok (goInt s.size) w' ∧ Bytes w' B e (.slice (some ⟨g, 0, none⟩) n c) (s.data.toList ++ l.drop s.size) ∧ Below B w w' := by
  subst hn
  have hsl : s.data.toList.length = s.size := by simp
  rcases h with ⟨h, _⟩ | ⟨g', cap, cur, fz, hv, hb, hg, hfz, hlc, hm, hcs, htk⟩
  · cases h
  · simp at hv
    obtain ⟨rfl, rfl⟩ := hv
    have hst := Byt.run_store P g 0 e fz (strCells s) 0 cur w hg hfz (by rw [strCells_length]; omega) (strCells_oneCell s)
    have hf := run_firstCells_string (P := P) w 1 s
    have hln : (s.data.toList ++ l.drop s.size).length = l.length := by rw [List.length_append, List.length_drop, hsl]; omega
    simp only [Nat.add_zero, Nat.zero_add, strCells_length] at hst
    refine ⟨w.setRow g (List.take 0 cur.toList ++ strCells s ++ List.drop s.size cur.toList).toArray, ?_, .inr ⟨g, c, (List.take 0 cur.toList ++ strCells s ++ List.drop s.size cur.toList).toArray, fz, by rw [hln], hb, setRow_heap w g cur _ e fz hg, ?_, by rw [hln]; exact hlc, hm, ?_, ?_⟩, Byt.below_setRow w hb _⟩
    · simp [Builtin.copy_, run_underlying ht, Builtin.lenOf, sizeOf, typeInfo, hi, hs1, Nat.min_eq_left hs, hf, hst]
    · have hz : (List.take 0 cur.toList ++ strCells s ++ List.drop s.size cur.toList).toArray.size = cur.size := by simp [strCells_length]; omega
      rw [hz]; exact hfz
    · simp [strCells_length]; omega
    · rw [hln]
      have e1 : strCells s = bcells s.data.toList := rfl
      simp only [List.take_zero, List.nil_append, e1, bcells_append]
      have e2 : l.length = (bcells s.data.toList).length + (l.length - s.size) := by rw [bcells_length, hsl]; omega
      have e3 : bcells (l.drop s.size) = (bcells l).drop s.size := by simp [bcells]
      rw [e2, List.take_length_add_append, e3, ← htk, List.drop_take]

theorem wpList_copy_text {P : Program} {w : World} {ops : Array Oper} {rest : List Oper} {o : Oper} {a : Act} {Q : Exit → Act → World → Prop} (hgd : o.guard = none) (d s : Operand) (dT sT : TypeId)
    (ho : o.op = .call { callee := .builtin .copy, args := #[d, s], argTypes := #[dT, sT] }) (v0 v1 r : Value) (w' : World) (hd : a.eval d = v0) (hs : a.eval s = v1)
    (hrun : (Builtin.copy_ #[dT, sT] o.type #[v0, v1]).run P w = .ok r w') (h : wpList P ops Q rest (a.put o.dst r) w') : wpList P ops Q (o :: rest) a w := by
  refine wpList_plain hgd fun K hK => ?_
  unfold Oper.wp
  simp [execOp, ho, resolve, invoke, builtin, hd, hs, hrun, Result.andThen]
  exact hK _ _ h
end Go.Proofs.YtkfkjcadmdcbnaaGreatDoor
namespace Go.Proofs.YtkfkjcadmdcbnaaGreatDoor
open Go.RowKit Go.Proofs.YtkfkjcadmdcbnaaGreatDoor.Parts Go.Proofs.YtkfkjcadmdcbnaaGreatDoor.Hexa Go.Proofs.YtkfkjcadmdcbnaaGreatDoor.Byt

theorem bytes_cut_text {P : Program} {w : World} {B e g c : Nat} {l : List UInt8} (src dst : TypeId)
    (hs : P.underlying src = some (.slice e)) (he : P.underlying e = some (.int .u8)) (hd : P.underlying dst = some .string)
    (h : Bytes w B e (.slice (some ⟨g, 0, none⟩) l.length c) l) (o n c' : Nat) (hon : o + n ≤ l.length) :
    (convert src dst (.slice (some ⟨g, o, none⟩) n c')).run P w = .ok (.string ⟨((l.drop o).take n).toArray⟩) w := by
  have hl : ((l.drop o).take n).length = n := by rw [List.length_take, List.length_drop]; omega
  have := run_convert_bytes_back (P := P) w src dst e ⟨g, o, none⟩ c' ((l.drop o).take n) hs he hd (fun j hj => by
    have hj' : o + j < l.length := by omega
    have h1 := (bytes_at h (o + j) hj').1
    have hadd : (⟨g, o, none⟩ : Addr).add j = ⟨g, o + j, none⟩ := by unfold Addr.add; split <;> simp_all
    rw [hadd, h1]
    simp)
  rw [hl] at this
  exact this

/-- The states as bytes. -/
def stT (zs : List Int) : List UInt8 := zs.map fun x => UInt8.ofNat x.toNat
theorem stT_len (zs : List Int) : (stT zs).length = zs.length := by simp [stT]
theorem stT_succ {zs : List Int} {k : Nat} (h : k < zs.length) : stT (zs.take (k + 1)) = stT (zs.take k) ++ [UInt8.ofNat (zs.getD k 0).toNat] := by
  have e : zs.getD k 0 = zs[k] := by simp [List.getD, h]
  unfold stT
  rw [List.take_succ_eq_append_getElem h, List.map_append, e]
  rfl
def cutSt (l : List UInt8) (o : Nat) : ByteArray := ⟨((l.drop o).take 8).toArray⟩
noncomputable def stWords (zs : List Int) : List ByteArray := if stB zs zs.length = true then [cutSt (partB (stT zs) 16) 0, cutSt (partB (stT zs) 16) 8] else []
theorem stWords_yes {zs : List Int} (h : StOk zs zs.length) : stWords zs = [cutSt (partB (stT zs) 16) 0, cutSt (partB (stT zs) 16) 8] := if_pos (stB_yes h)
theorem stWords_no {zs : List Int} (h : ¬ StOk zs zs.length) : stWords zs = [] := if_neg (by rw [stB_no h]; decide)
theorem st_byte {x : Int} (h : 0 ≤ x ∧ x ≤ 2) : IntKind.u8.wrap x = ((UInt8.ofNat x.toNat).toNat : Int) := by
  rw [IntKind.wrap_u8]
  obtain ⟨n, rfl⟩ : ∃ n : Nat, x = n := ⟨x.toNat, by omega⟩
  rw [Int.toNat_natCast, UInt8.toNat_ofNat']
  omega

set_option maxRecDepth 100000 in
set_option maxHeartbeats 1000000 in
theorem specStWords_any (a : Option Addr) (n c : Nat) (zs : List Int) (w : World) (hs : SrcI w a n zs) (hn : n ≤ 2000000) :
    Calls Tryz.prog 121 #[.slice a n c] w (GivesT (stWords zs) w) := by
  obtain ⟨i0, hi, hz0, hz1, hz2⟩ := info_parts infoByte
  have HL := Lib.hid hs.len
  have HS := Lib.hid hs
  clear hs
  by_cases hok : StOk zs n
  · have HB := Lib.hid (stB_yes hok)
    have HW : Hid (stWords zs = [cutSt (partB (stT zs) 16) 0, cutSt (partB (stT zs) 16) 8]) := Lib.hid (stWords_yes (by rw [HL.out]; exact hok))
    have h12 : n ≤ 12 := by have := hok.2.2.2; omega
    have HR : Hid (StR zs n) := Lib.hid (by rw [← HL.out]; exact hok.1)
    clear hok
    go_enter Tryz.func121, Tryz.ntmps121
    go_wp2_with fail
    refine (specStOk_any a n c zs n _ HS.out hn).mono ?_
    rw [HB.out]
    rintro e w1 ⟨rfl, rfl⟩
    go_wp2_with (at_make; refine wpList_make_full _ rfl _ _ 22 rfl w1.heap.size 5 i0 (.int .u8 0) 1 Tryz.underlying22 hi hz0 hz1 .i64 .i64 _ _ 16 rfl rfl rfl rfl (by rw [hz2]; omega) (by unfold maxLen; omega) (Nat.le_refl _) ?_; intro w0 hown0 hgrow0)
    have HG0 : Hid (Below w1.heap.size w1 w0) := Lib.hid ((Below.refl _ _).grown hgrow0 (Nat.le_refl _) (fun k h => by cases h))
    have HO0 := Lib.hid (part_start hown0)
    clear hown0 hgrow0
    go_wp2
    go_loopw [4] (fun iv wr => ∃ k : Nat, k ≤ n ∧ iv = .int .i64 k ∧ Hid (Bytes wr w1.heap.size 5 (.slice (some ⟨w1.heap.size, 0, none⟩) 16 16) (partB (stT (zs.take k)) 16)) ∧ Hid (Below w1.heap.size w1 wr)) (fun iv _ => n - (intOf iv).toNat)
    case atStart => exact ⟨0, Nat.zero_le _, rfl, HO0, HG0⟩
    case round =>
      obtain ⟨k, hk, rfl, HO, HG⟩ := hrel
      clear HO0 HG0
      have hl : (stT (zs.take k)).length = k := by rw [stT_len, List.length_take, HL.out]; omega
      by_cases hlt : k < n
      · obtain ⟨g, off, rfl, hg, d⟩ := HS.out.cell k hlt
        have d0 : wr.cell? ⟨g, off + k, none⟩ = some (.int .i64 (zs.getD k 0)) := by rw [HG.out.cell hg]; exact d
        have HX := Lib.hid (HR.out k hlt)
        have HE := Lib.hid (stT_succ (zs := zs) (k := k) (by rw [HL.out]; exact hlt))
        have hby := st_byte HX.out
        obtain ⟨⟨u, c3⟩, z3, _⟩ := part_at HO.out (by omega)
        have N3 := part_next HO.out (UInt8.ofNat (zs.getD k 0).toNat) (by omega)
        rw [hl] at c3 z3 N3
        rw [← HE.out] at N3
        obtain ⟨x, hx⟩ : ∃ x, zs.getD k 0 = x := ⟨_, rfl⟩
        rw [hx] at d0 hby N3
        clear hx d
        generalize UInt8.ofNat x.toNat = z at hby N3
        have N4 := Lib.hid N3
        have HG2 : Hid (Below w1.heap.size w1 (wr.setCell ⟨w1.heap.size, k, none⟩ (.int .u8 (z.toNat : Int)))) := Lib.hid (HG.out.setCell (Nat.le_refl _) _)
        have hb1 : ¬ g = w1.heap.size := by omega
        clear N3 hl HX HE
        go_wp2
        go_roundw
        case rel => exact ⟨k + 1, by omega, by go_num, N4, HG2⟩
        case measure => (simp [intOf]; try omega)
      · obtain rfl : n = k := by omega
        rw [show zs.take n = zs by rw [← HL.out, List.take_length]] at HO hl
        have hpl := partB_length (stT zs) 16 (by omega)
        have HO' : Bytes wr w1.heap.size 5 (.slice (some ⟨w1.heap.size, 0, none⟩) (partB (stT zs) 16).length 16) (partB (stT zs) 16) := by rw [hpl]; exact HO.out
        have HD' : Bytes wr.drew w1.heap.size 5 (.slice (some ⟨w1.heap.size, 0, none⟩) (partB (stT zs) 16).length 16) (partB (stT zs) 16) := HO'
        have k0 := bytes_cut_text (P := Tryz.prog) 22 9 Tryz.underlying22 Tryz.underlying5 Tryz.underlying9 HD' 0 8 16 (by rw [hpl]; omega)
        have k8 := bytes_cut_text (P := Tryz.prog) 22 9 Tryz.underlying22 Tryz.underlying5 Tryz.underlying9 HD' 8 8 8 (by rw [hpl]; omega)
        change _ = Result.ok (Value.string (cutSt (partB (stT zs) 16) 0)) wr.drew at k0
        change _ = Result.ok (Value.string (cutSt (partB (stT zs) 16) 8)) wr.drew at k8
        obtain ⟨A, hA⟩ : ∃ A, cutSt (partB (stT zs) 16) 0 = A := ⟨_, rfl⟩
        obtain ⟨B, hB⟩ : ∃ B, cutSt (partB (stT zs) 16) 8 = B := ⟨_, rfl⟩
        rw [hA] at k0 HW
        rw [hB] at k8 HW
        have hsz := HG.out.size
        have HOW : Hid ((wr.drew.alloc (.cells #[.string A, .string B] 9)).ownsRow w1.heap.size 9 1 (.slice (some ⟨wr.heap.size, 0, none⟩) 2 2) 2 (scells [A, B])) :=
          Lib.hid (World.ownsRow_lit (e := 9) (size := 1) (base := w1.heap.size) wr.drew #[.string A, .string B] 2 hsz (by decide) rfl)
        have HGW : Hid (Below w1.heap.size w1 (wr.drew.alloc (.cells #[.string A, .string B] 9))) := Lib.hid (HG.out.drew.alloc hsz _)
        clear hpl HO' HD' hA hB hl
        go_wp2
        go_region
        all_goals
          go_wp2
          go_ret
          rw [HW.out]
          exact ⟨_, rfl, HOW.out, HGW.out⟩
  · have HB := Lib.hid (stB_no hok)
    have HW : Hid (stWords zs = []) := Lib.hid (stWords_no (by rw [HL.out]; exact hok))
    clear hok
    have HOW : Hid ((w.alloc (.cells #[] 9)).ownsRow w.heap.size 9 1 (.slice (some ⟨w.heap.size, 0, none⟩) 0 0) 0 (scells [])) :=
      Lib.hid (World.ownsRow_lit (e := 9) (size := 1) (base := w.heap.size) w #[] 0 (Nat.le_refl _) (by decide) rfl)
    have HGW : Hid (Below w.heap.size w (w.alloc (.cells #[] 9))) := Lib.hid ((Below.refl _ _).alloc (Nat.le_refl _) _)
    go_enter Tryz.func121, Tryz.ntmps121
    go_wp2_with fail
    refine (specStOk_any a n c zs n _ HS.out hn).mono ?_
    rw [HB.out]
    rintro e w1 ⟨rfl, rfl⟩
    go_wp2
    go_ret
    rw [HW.out]
    exact ⟨_, rfl, HOW.out, HGW.out⟩
end Go.Proofs.YtkfkjcadmdcbnaaGreatDoor
namespace Go.Proofs.YtkfkjcadmdcbnaaGreatDoor
open Go.RowKit Go.Proofs.YtkfkjcadmdcbnaaGreatDoor.Hexa Go.Proofs.YtkfkjcadmdcbnaaGreatDoor.Byt Go.Proofs.YtkfkjcadmdcbnaaGreatDoor.BitsM

theorem wordB_list (s : ByteArray) (h : s.size ≤ 8) : (⟨(s.data.toList ++ (partB [] 8).drop s.size).toArray⟩ : ByteArray) = wordB s := by
  have hE : wordB s = s ++ longB (8 - s.size) 0 := if_pos h
  rw [hE, partB_nil, List.drop_replicate]
  apply ByteArray.ext
  apply Array.toList_inj.1
  rw [ByteArray.data_append, Array.toList_append]
  rfl

set_option maxRecDepth 100000 in
set_option maxHeartbeats 1000000 in
theorem implWord_any (s : ByteArray) (w : World) :
    Calls Tryz.prog 179 #[.string s] w fun e w' => e = .returned (.string (wordB s)) ∧ Below w.heap.size w w' := by
  by_cases h : s.size ≤ 8
  · obtain ⟨i0, hi, hz0, hz1, hz2⟩ := info_parts infoByte
    have HE := Lib.hid (wordB_list s h)
    go_enter Tryz.func179, Tryz.ntmps179
    go_wp2_with (at_make; refine wpList_make_full _ rfl _ _ 22 rfl w.heap.size 5 i0 (.int .u8 0) 1 Tryz.underlying22 hi hz0 hz1 .i64 .i64 _ _ 8 rfl rfl rfl rfl (by rw [hz2]; omega) (by unfold maxLen; omega) (Nat.le_refl _) ?_; intro w0 hown0 hgrow0; have hg0 : Below w.heap.size w w0 := (Below.refl _ _).grown hgrow0 (Nat.le_refl _) (fun k h => by cases h); obtain ⟨w1, hrun, hb1, hg1⟩ := bytes_copy (P := Tryz.prog) (u := 9) (ty := 3) Tryz.underlying22 hi hz1 (partB_length [] 8 (by decide)) (part_start hown0) s h; have hconv := bytes_string (P := Tryz.prog) 22 9 Tryz.underlying22 Tryz.underlying5 Tryz.underlying9 hb1; rw [HE.out] at hconv; clear hown0 hgrow0 hb1)
    go_ret
    exact ⟨rfl, hg0.trans hg1⟩
  · have HE : Hid (wordB s = ⟨#[]⟩) := Lib.hid (if_neg h)
    have hlt : 8 < s.size := by omega
    go_enter Tryz.func179, Tryz.ntmps179
    go_wp2
    go_ret
    exact ⟨by rw [HE.out]; rfl, Below.refl _ _⟩
end Go.Proofs.YtkfkjcadmdcbnaaGreatDoor
namespace Go.Proofs.YtkfkjcadmdcbnaaGreatDoor
open Go.RowKit Go.Proofs.YtkfkjcadmdcbnaaGreatDoor.Hexa Go.Proofs.YtkfkjcadmdcbnaaGreatDoor.Byt Go.Proofs.YtkfkjcadmdcbnaaGreatDoor.BitsM Go.Proofs.YtkfkjcadmdcbnaaGreatDoor.Parts

set_option maxRecDepth 100000 in
set_option maxHeartbeats 1000000 in
theorem implWords_any (s : ByteArray) (w : World) (hs : s.size ≤ 20000) :
    Calls Tryz.prog 183 #[.string s] w (GivesT (wordsL s) w) := by
  obtain ⟨i0, hi, hz0, hz1, hz2⟩ := info_parts infoText
  unfold GivesT
  rw [wordsL_length]
  have hN : wordsN s = (s.size + 7) / 8 := rfl
  generalize hNN : wordsN s = N at hN
  have HNN := Lib.hid hNN
  have hN2 : 8 * N ≤ s.size + 7 := by omega
  have hN3 : s.size ≤ 8 * N := by omega
  have hC : ((s.size : Int) + 8 - 1) / 8 = (N : Int) := by omega
  clear hNN hN
  go_enter Tryz.func183, Tryz.ntmps183
  go_wp2_with (at_make; refine wpList_make_own _ rfl _ _ 38 rfl w.heap.size 9 i0 (.string ⟨#[]⟩) 1 Tryz.underlying38 hi hz0 hz1 .i64 .i64 _ N rfl rfl (by omega) (by rw [hz2]; omega) (by unfold maxLen; omega) (Nat.le_refl _) ?_; intro w0 hown0 hgrow0)
  have hg0 : Below w.heap.size w w0 := (Below.refl _ _).grown hgrow0 (Nat.le_refl _) (fun k h => by cases h)
  have HO0 := Lib.hid hown0
  clear hown0 hgrow0 hC
  go_loopw [3, 4] (fun v iv wr => ∃ k : Nat, k ≤ N ∧ iv = .int .i64 (8 * (k : Int)) ∧ Hid (wr.ownsRow w.heap.size 9 1 v k (scells (wordsTo s k))) ∧ Below w.heap.size w wr)
    (fun _ iv _ => (8 * (N : Int) - intOf iv).toNat)
  case atStart => exact ⟨0, Nat.zero_le _, by go_num, HO0, hg0⟩
  case round =>
    clear HO0 hg0
    obtain ⟨k, hk, rfl, HW, hbel⟩ := hrel
    by_cases hlt : 8 * k < s.size
    · have hN1 : k < N := by omega
      have HWN := Lib.hid (wordsTo_next s k)
      by_cases hend : 8 * k + 8 ≤ s.size
      · have HE : Hid (wordAt s k = wordB (s.extract (8 * k) (8 * k + 8))) := Lib.hid (by unfold wordAt; rw [Nat.min_eq_left hend])
        have n1 : (8 * (k : Int)).toNat = 8 * k := by omega
        have n2 : (8 * (k : Int) + 8).toNat = 8 * k + 8 := by omega
        have n3 : min (8 * (k : Int) + 8) (s.size : Int) = 8 * (k : Int) + 8 := by omega
        go_wp2_with (first
          | (go_at_call 179; refine (implWord_any _ _).mono ?_; rintro e w1 ⟨rfl, hb1⟩; rw [← HE.out]; have hb2 : Below w.heap.size w w1 := hbel.trans (hb1.mono hbel.size); have HW1 := Lib.hid (own_below HW.out hb1))
          | (at_builtin; refine wpList_append_own _ rfl (.tmp 20) (.tmp 30) 38 rfl w.heap.size 9 i0 (.string ⟨#[]⟩) 1 16 Tryz.underlying38 hi hz0 hz1 hz2 rfl (by decide) _ _ _ rfl (HW1.out.alloc _) ⟨w1.heap.size, 0, none⟩ 1 1 [.string (wordAt s k)] rfl rfl (World.news_of_block (heap_alloc_new _ _)) (by simp [Value.oneCell']) (by unfold maxLen; omega) (by omega) (by have := hb2.size; simp; omega) ?_; intro v2 w2 hown2 hgrow2 hn2))
        have hb3 : Below w.heap.size w w2 := (hb2.alloc hb2.size _).grown hgrow2 (by have := hb2.size; simp; omega) (own_block_ge HW1.out)
        rw [HWN.out] at hown2
        have HO2 := Lib.hid hown2
        clear hown2 hgrow2 hn2
        go_roundw
        case rel => exact ⟨k + 1, by omega, by go_num, HO2, hb3⟩
        case measure => (simp [intOf]; try omega)
      · have HE : Hid (wordAt s k = wordB (s.extract (8 * k) s.size)) := Lib.hid (by unfold wordAt; rw [Nat.min_eq_right (by omega)])
        have n1 : (8 * (k : Int)).toNat = 8 * k := by omega
        have n3 : min (8 * (k : Int) + 8) (s.size : Int) = (s.size : Int) := by omega
        go_wp2_with (first
          | (go_at_call 179; refine (implWord_any _ _).mono ?_; rintro e w1 ⟨rfl, hb1⟩; rw [← HE.out]; have hb2 : Below w.heap.size w w1 := hbel.trans (hb1.mono hbel.size); have HW1 := Lib.hid (own_below HW.out hb1))
          | (at_builtin; refine wpList_append_own _ rfl (.tmp 20) (.tmp 30) 38 rfl w.heap.size 9 i0 (.string ⟨#[]⟩) 1 16 Tryz.underlying38 hi hz0 hz1 hz2 rfl (by decide) _ _ _ rfl (HW1.out.alloc _) ⟨w1.heap.size, 0, none⟩ 1 1 [.string (wordAt s k)] rfl rfl (World.news_of_block (heap_alloc_new _ _)) (by simp [Value.oneCell']) (by unfold maxLen; omega) (by omega) (by have := hb2.size; simp; omega) ?_; intro v2 w2 hown2 hgrow2 hn2))
        have hb3 : Below w.heap.size w w2 := (hb2.alloc hb2.size _).grown hgrow2 (by have := hb2.size; simp; omega) (own_block_ge HW1.out)
        rw [HWN.out] at hown2
        have HO2 := Lib.hid hown2
        clear hown2 hgrow2 hn2
        go_roundw
        case rel => exact ⟨k + 1, by omega, by go_num, HO2, hb3⟩
        case measure => (simp [intOf]; try omega)
    · obtain rfl : k = N := by omega
      go_wp2
      go_ret
      have ho := HW.out
      rw [← HNN.out] at ho
      exact ⟨_, rfl, by rw [← HNN.out]; exact ho, hbel⟩

set_option maxRecDepth 100000 in
set_option maxHeartbeats 400000 in
theorem implWords_long (s : ByteArray) (w : World) (hs : 20000 < s.size) :
    Calls Tryz.prog 183 #[.string s] w (GivesT [] w) := by
  go_enter Tryz.func183, Tryz.ntmps183
  go_wp2
  go_ret
  exact ⟨_, rfl, World.ownsRow_nil _ _ _ 1, Below.refl _ _⟩
end Go.Proofs.YtkfkjcadmdcbnaaGreatDoor
