/- The program's search for a line's cell. -/
import Derived.Test.YtlemlgadjapamaaMemNewLaw
namespace Go.Proofs.Ytlemlgadjapamaa
open Go.RowKit Go.Proofs.Ytlemlgadjapamaa.Parts Go.Proofs.Ytlemlgadjapamaa.Hexa

def cmpZ (x y : Int) : Int := if x < y then -1 else if y < x then 1 else 0

set_option maxRecDepth 100000 in
set_option maxHeartbeats 400000 in
theorem notNaN_any (x : Int) (w : World) : Calls Try.prog 92 #[.int .i64 x] w fun e w' => e = .returned (.bool false) ∧ w' = w := by
  go_enter Try.func92, Try.ntmps92
  go_wp2
  go_ret
  exact ⟨rfl, rfl⟩

set_option maxRecDepth 100000 in
set_option maxHeartbeats 400000 in
theorem cmp_any (x y : Int) (w : World) : Calls Try.prog 89 #[.int .i64 x, .int .i64 y] w fun e w' => e = .returned (.int .i64 (cmpZ x y)) ∧ w' = w := by
  rcases Int.lt_trichotomy x y with h | h | h
  · have HE : Hid (cmpZ x y = -1) := Lib.hid (if_pos h)
    go_enter Try.func89, Try.ntmps89
    go_wp2_with (go_at_call 92; refine (notNaN_any _ _).mono ?_; rintro e w1 ⟨rfl, rfl⟩)
    go_ret
    exact ⟨by rw [HE.out]; rfl, rfl⟩
  · subst h
    have HE : Hid (cmpZ x x = 0) := Lib.hid (by unfold cmpZ; simp)
    go_enter Try.func89, Try.ntmps89
    go_wp2_with (go_at_call 92; refine (notNaN_any _ _).mono ?_; rintro e w1 ⟨rfl, rfl⟩)
    go_ret
    exact ⟨by rw [HE.out]; rfl, rfl⟩
  · have HE : Hid (cmpZ x y = 1) := Lib.hid (by unfold cmpZ; rw [if_neg (by omega), if_pos h])
    have h2 : ¬ (x < y) := by omega
    go_enter Try.func89, Try.ntmps89
    go_wp2_with (go_at_call 92; refine (notNaN_any _ _).mono ?_; rintro e w1 ⟨rfl, rfl⟩)
    go_ret
    exact ⟨by rw [HE.out]; rfl, rfl⟩

set_option maxRecDepth 100000 in
set_option maxHeartbeats 400000 in
theorem cmpCell_any (l : Int) (t : ByteArray) (f : Bool) (y : Int) (w : World) : Calls Try.prog 88 #[.agg #[.int .i64 l, .string t, .bool f], .int .i64 y] w fun e w' => e = .returned (.int .i64 (cmpZ l y)) ∧ Below w.heap.size w w' := by
  go_enter Try.func88, Try.ntmps88
  go_wp2_with (go_at_call 89; refine (cmp_any _ _ _).mono ?_; rintro e w1 ⟨rfl, rfl⟩)
  go_ret
  exact ⟨rfl, below_alloc _ _⟩

def foundB (L : List C3) (l : Int) (p : Nat) : Bool := decide (p < L.length ∧ (L.getD p default).l = l)
/-- What the search gives: the place of a line's cell, and whether it is there. -/
def FindPost (L : List C3) (l : Int) (w : World) (e : Ending) (w' : World) : Prop :=
  ∃ p : Nat, Place L l p ∧ e = .returned (.tuple #[.int .i64 p, .bool (foundB L l p)]) ∧ Below w.heap.size w w'
theorem find_post {L : List C3} {l : Int} {w w' : World} {p : Nat} {b : Bool} (h : Place L l p) (hb : foundB L l p = b) (hw : Below w.heap.size w w') : FindPost L l w (.returned (.tuple #[.int .i64 p, .bool b])) w' := ⟨p, h, by rw [hb], hw⟩

set_option maxRecDepth 100000 in
set_option maxHeartbeats 2000000 in
theorem search_any (K : ByteArray) (a : Option Addr) (n c : Nat) (L : List C3) (l : Int) (w : World) (hs : SrcC w a n L) (hn : n ≤ 1048600) (hok : MemOk K L) :
    Calls Try.prog 87 #[.slice a n c, .int .i64 l, .func (.func 88) #[] #[]] w (FindPost L l w) := by
  have HS := Lib.hid hs
  have HL := Lib.hid hs.len
  have HOK := Lib.hid hok
  clear hs hok
  go_enter Try.func87, Try.ntmps87
  go_wp2
  go_loopw [9, 10] (fun lv hv wr => ∃ lo hi : Nat, lv = .int .i64 lo ∧ hv = .int .i64 hi ∧ lo ≤ hi ∧ hi ≤ n ∧ Hid (∀ j, j < lo → (L.getD j default).l < l) ∧ Hid (∀ j, hi ≤ j → j < n → l ≤ (L.getD j default).l) ∧ Below w.heap.size w wr)
    (fun lv hv _ => (intOf hv).toNat - (intOf lv).toNat)
  case atStart => exact ⟨0, n, rfl, rfl, Nat.zero_le _, Nat.le_refl _, Lib.hid (fun j hj => by omega), Lib.hid (fun j h1 h2 => by omega), Below.refl _ _⟩
  case round =>
    obtain ⟨lo, hi, rfl, rfl, hlh, hin, HA, HB, hbel⟩ := hrel
    by_cases hlt : lo < hi
    · obtain ⟨m, hm⟩ : ∃ m, (lo + hi) / 2 = m := ⟨_, rfl⟩
      obtain ⟨g, off, rfl, hg, d1, d2, d3⟩ := HS.out.cells3_at hbel (Nat.le_refl _) m (by omega)
      have hmi : ((lo : Int) + (hi : Int)) / 2 = (m : Int) := by omega
      have hm1 : lo ≤ m := by omega
      have hm2 : m < hi := by omega
      obtain ⟨x, hx⟩ : ∃ x, L.getD m default = x := ⟨_, rfl⟩
      rw [hx] at d1 d2 d3
      have HX := Lib.hid hx
      clear hx hm
      by_cases hc : x.l < l
      · have hz : cmpZ x.l l < 0 := by unfold cmpZ; rw [if_pos hc]; omega
        have HA2 : Hid (∀ j, j < m + 1 → (L.getD j default).l < l) := Lib.hid (fun j hj => by
          by_cases e : j = m
          · subst e; rw [HX.out]; exact hc
          · have := HOK.out.asc (i := j) (j := m) (by omega) (by have := HL.out; omega); rw [HX.out] at this; omega)
        clear hc
        go_wp2_with fail
        refine (cmpCell_any x.l x.t x.f l _).mono ?_
        rintro e w1 ⟨rfl, hb1⟩
        have hb2 : Below w.heap.size w w1 := hbel.trans (hb1.mono hbel.size)
        clear d1 d2 d3 hb1
        go_wp2
        go_roundw
        case rel => exact ⟨m + 1, hi, by go_num, rfl, by omega, hin, HA2, HB, hb2⟩
        case measure => (simp [intOf]; try omega)
      · have hz : ¬ (cmpZ x.l l < 0) := by
          unfold cmpZ; rw [if_neg hc]; split <;> omega
        have HB2 : Hid (∀ j, m ≤ j → j < n → l ≤ (L.getD j default).l) := Lib.hid (fun j h1 h2 => by
          by_cases e : j = m
          · subst e; rw [HX.out]; omega
          · have := HOK.out.asc (i := m) (j := j) (by omega) (by have := HL.out; omega); rw [HX.out] at this; omega)
        clear hc
        go_wp2_with fail
        refine (cmpCell_any x.l x.t x.f l _).mono ?_
        rintro e w1 ⟨rfl, hb1⟩
        have hb2 : Below w.heap.size w w1 := hbel.trans (hb1.mono hbel.size)
        clear d1 d2 d3 hb1
        go_wp2
        go_roundw
        case rel => exact ⟨lo, m, rfl, rfl, hm1, by omega, HA, HB2, hb2⟩
        case measure => (simp [intOf]; try omega)
    · obtain rfl : lo = hi := by omega
      have HP : Hid (Place L l lo) := Lib.hid ⟨by rw [HL.out]; exact hin, HA.out, fun j h1 h2 => HB.out j h1 (by rw [← HL.out]; exact h2)⟩
      by_cases hn : lo < n
      · obtain ⟨g, off, rfl, hg, d1, d2, d3⟩ := HS.out.cells3_at hbel (Nat.le_refl _) lo hn
        obtain ⟨x, hx⟩ : ∃ x, L.getD lo default = x := ⟨_, rfl⟩
        rw [hx] at d1 d2 d3
        have HX := Lib.hid hx
        have hle : l ≤ x.l := by rw [← hx]; exact HB.out lo (Nat.le_refl _) hn
        clear hx
        by_cases e : x.l = l
        · have HF : Hid (foundB L l lo = true) := Lib.hid (by unfold foundB; exact decide_eq_true ⟨by rw [HL.out]; exact hn, by rw [HX.out]; exact e⟩)
          have hz : cmpZ l l = 0 := by unfold cmpZ; rw [if_neg (by omega), if_neg (by omega)]
          go_wp2_with fail
          refine (cmpCell_any l x.t x.f l _).mono ?_
          rintro e w1 ⟨rfl, hb1⟩
          have hb2 : Below w.heap.size w w1 := hbel.trans (hb1.mono hbel.size)
          go_wp2
          go_ret2
          exact find_post HP.out HF.out hb2
        · have HF : Hid (foundB L l lo = false) := Lib.hid (by unfold foundB; exact decide_eq_false (fun h => e (by rw [← HX.out]; exact h.2)))
          have hz : cmpZ x.l l = 1 := by unfold cmpZ; rw [if_neg (by omega), if_pos (by omega)]
          go_wp2_with fail
          refine (cmpCell_any x.l x.t x.f l _).mono ?_
          rintro e w1 ⟨rfl, hb1⟩
          have hb2 : Below w.heap.size w w1 := hbel.trans (hb1.mono hbel.size)
          go_wp2
          go_ret2
          exact find_post HP.out HF.out hb2
      · have HF : Hid (foundB L l lo = false) := Lib.hid (by unfold foundB; exact decide_eq_false (fun h => by have := h.1; rw [HL.out] at this; omega))
        go_wp2
        go_ret2
        exact find_post HP.out HF.out hbel

/-- The search behind a pointer to a memory. -/
theorem cellOf_any (b : Nat) (K : ByteArray) (a : Option Addr) (n c : Nat) (L : List C3) (l : Int) (w : World) (hT : Two w b (.string K) (.slice a n c) 26) (hs : SrcC w a n L) (hn : n ≤ 1048600) (hok : MemOk K L) :
    Calls Try.prog 79 #[.pointer (some ⟨b, 0, none⟩), .int .i64 l] w (FindPost L l w) := by
  have HS := Lib.hid hs
  have HOK := Lib.hid hok
  have q1 := hT.c1
  clear hs hok hT
  go_enter Try.func79, Try.ntmps79
  go_wp2_with fail
  refine (search_any K a n c L l w HS.out hn HOK.out).mono ?_
  rintro e w1 ⟨p, hp, rfl, hb1⟩
  have HP := Lib.hid hp
  clear hp
  obtain ⟨fb, hfb⟩ : ∃ fb, foundB L l p = fb := ⟨_, rfl⟩
  rw [hfb]
  have HF := Lib.hid hfb
  clear hfb
  go_wp2
  go_ret2
  exact find_post HP.out HF.out hb1
end Go.Proofs.Ytlemlgadjapamaa
