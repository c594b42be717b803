/- A memory's cells, one at a time: measured, copied, compared. -/
import Derived.Test.YtlemlgadjapamaaCellBase
namespace Go.Proofs.Ytlemlgadjapamaa
open Go.RowKit Go.Proofs.Ytlemlgadjapamaa.Parts Go.Proofs.Ytlemlgadjapamaa.Hexa

set_option maxRecDepth 100000 in
set_option maxHeartbeats 400000 in
theorem szCell_any (x : C3) (l : Int) (w : World) (h0 : 0 ≤ l) (hl : l ≤ 1048576) (hk : x.t.size ≤ maxLen) :
    Calls Try.prog 85 #[.agg #[.int .i64 x.l, .string x.t, .bool x.f], .int .i64 l] w fun e w' => ∃ r, e = .returned (.int .i64 r) ∧ (r < 0 ∨ (0 ≤ r ∧ r ≤ l ∧ (x.t.size : Int) ≤ l)) ∧ Below w.heap.size w w' := by
  obtain ⟨xl, k, f⟩ := x
  simp only at hk ⊢
  unfold maxLen at hk
  by_cases h1 : l - (k.size : Int) < 0
  · go_enter Try.func85, Try.ntmps85
    go_wp2
    go_ret
    exact ⟨_, rfl, .inl (by omega), (Below.refl _ _).alloc (Nat.le_refl _) _⟩
  · go_enter Try.func85, Try.ntmps85
    go_wp2
    go_ret
    exact ⟨_, rfl, .inr (by omega), (Below.refl _ _).alloc (Nat.le_refl _) _⟩

set_option maxRecDepth 100000 in
set_option maxHeartbeats 400000 in
theorem toCell_any (l : Int) (t : ByteArray) (f : Bool) (w : World) :
    Calls Try.prog 86 #[.agg #[.int .i64 l, .string t, .bool f]] w fun e w' => e = .returned (.agg #[.int .i64 l, .string t, .bool f]) ∧ Below w.heap.size w w' := by
  go_enter Try.func86, Try.ntmps86
  go_wp2
  refine bodyPost_ret (v := .agg #[.int .i64 l, .string t, .bool f]) ?_ rfl ⟨rfl, (((Below.refl _ _).alloc (Nat.le_refl _) _).alloc (by simp) _).alloc (by simp; omega) _⟩
  simp [results, Try.results86, go_sem]

set_option maxRecDepth 100000 in
set_option maxHeartbeats 400000 in
theorem eqCell_any (l : Int) (t : ByteArray) (f : Bool) (w : World) :
    Calls Try.prog 83 #[.agg #[.int .i64 l, .string t, .bool f], .agg #[.int .i64 l, .string t, .bool f]] w fun e w' => e = .returned (.bool true) ∧ Below w.heap.size w w' := by
  go_enter Try.func83, Try.ntmps83
  go_wp2
  go_ret
  exact ⟨rfl, ((Below.refl _ _).alloc (Nat.le_refl _) _).alloc (by simp) _⟩

/-- What a slice of cells that came in holds. -/
def FitC (L : List C3) (n b : Nat) : Prop := ∀ j, j < n → (L.getD j default).t.size ≤ b

set_option maxRecDepth 100000 in
set_option maxHeartbeats 1000000 in
theorem szCells_any (a : Option Addr) (n c : Nat) (L : List C3) (l0 : Int) (w : World) (hl0 : 0 ≤ l0) (hl1 : l0 ≤ 1048576) (hs : SrcC w a n L) (hn : n ≤ 9223372036854775807) (hm : FitC L n maxLen) :
    Calls Try.prog 71 #[.slice a n c, .int .i64 l0] w fun e w' => ∃ r, e = .returned (.int .i64 r) ∧ (r < 0 ∨ (0 ≤ r ∧ n ≤ 1048576 ∧ FitC L n 1048576)) ∧ Below w.heap.size w w' := by
  have HS := Lib.hid hs
  have HM := Lib.hid hm
  clear hs hm
  by_cases hlt0 : l0 - (n : Int) < 0
  · go_enter Try.func71, Try.ntmps71
    go_wp2
    go_ret
    exact ⟨-1, rfl, .inl (by omega), Below.refl _ _⟩
  · go_enter Try.func71, Try.ntmps71
    go_wp2
    go_loopw [1, 5] (fun lv iv wr => ∃ (k : Nat) (l : Int), k ≤ n ∧ iv = .int .i64 k ∧ lv = .int .i64 l ∧ 0 ≤ l ∧ l ≤ 1048576 ∧ Hid (∀ j, j < k → (L.getD j default).t.size ≤ 1048576) ∧ Below w.heap.size w wr) (fun _ iv _ => n - (intOf iv).toNat)
    case atStart => exact ⟨0, _, Nat.zero_le _, rfl, rfl, by omega, by omega, Lib.hid (fun j hj => by omega), Below.refl _ _⟩
    case round =>
      obtain ⟨k, l, hk, rfl, rfl, h0, hl, HA, hbel⟩ := hrel
      by_cases hlt : k < n
      · obtain ⟨g, off, rfl, hg, d1, d2, d3⟩ := HS.out.cells3_at hbel (Nat.le_refl _) k hlt
        obtain ⟨x, hx⟩ : ∃ x, L.getD k default = x := ⟨_, rfl⟩
        rw [hx] at d1 d2 d3
        go_wp2_with fail
        have hm := HM.out k hlt
        rw [hx] at hm
        refine (szCell_any x l _ h0 hl hm).mono ?_
        rintro e w1 ⟨r, rfl, hr, hb1⟩
        have hb2 : Below w.heap.size w w1 := hbel.trans (hb1.mono hbel.size)
        clear d1 d2 d3 hb1 hm
        rcases hr with h1 | ⟨h1, h2, h3⟩
        · go_wp2
          go_ret
          exact ⟨-1, rfl, .inl (by omega), hb2⟩
        · have HA2 : Hid (∀ j, j < k + 1 → (L.getD j default).t.size ≤ 1048576) := Lib.hid (fun j hj => by
            by_cases e : j = k
            · subst e; rw [hx]; omega
            · exact HA.out j (by omega))
          clear HA hx h3
          go_wp2
          go_roundw
          case rel => exact ⟨k + 1, r, by omega, by go_num, rfl, h1, by omega, HA2, hb2⟩
          case measure => (simp [intOf]; try omega)
      · obtain rfl : k = n := by omega
        go_wp2
        go_ret
        refine ⟨l, rfl, .inr ⟨h0, by omega, fun j hj => HA.out j hj⟩, hbel⟩

set_option maxRecDepth 100000 in
set_option maxHeartbeats 1000000 in
theorem szMemory_any (K : ByteArray) (a : Option Addr) (n c : Nat) (L : List C3) (w : World) (hs : SrcC w a n L) (hn : n ≤ 9223372036854775807) (hK : K.size ≤ maxLen) (hm : FitC L n maxLen) :
    Calls Try.prog 36 #[.agg #[.string K, .slice a n c], .int .i64 1048576] w fun e w' => ∃ r, e = .returned (.int .i64 r) ∧ (r < 0 ∨ (0 ≤ r ∧ K.size ≤ 1048576 ∧ n ≤ 1048576 ∧ FitC L n 1048576)) ∧ Below w.heap.size w w' := by
  have HS := Lib.hid hs
  have HM := Lib.hid hm
  clear hs hm
  unfold maxLen at hK
  by_cases h1 : (1048576 : Int) - (K.size : Int) < 0
  · go_enter Try.func36, Try.ntmps36
    go_wp2
    go_ret
    exact ⟨_, rfl, .inl (by omega), (Below.refl _ _).alloc (Nat.le_refl _) _⟩
  · go_enter Try.func36, Try.ntmps36
    have hb0 : Below w.heap.size w (w.alloc (.cells #[.string K, .slice a n c] 46)) := (Below.refl _ _).alloc (Nat.le_refl _) _
    go_wp2_with fail
    refine (szCells_any a n c L _ _ (by omega) (by omega) (HS.out.later hb0) hn HM.out).mono ?_
    rintro e w1 ⟨r, rfl, hr, hb1⟩
    have hb2 : Below w.heap.size w w1 := hb0.trans (hb1.mono hb0.size)
    clear hb0 hb1
    rcases hr with h2 | ⟨h2, h3, h4⟩
    · go_wp2
      go_ret
      exact ⟨_, rfl, .inl (by omega), hb2⟩
    · have H4 := Lib.hid h4
      clear h4
      go_wp2
      go_ret
      exact ⟨_, rfl, .inr ⟨h2, by omega, h3, H4.out⟩, hb2⟩
end Go.Proofs.Ytlemlgadjapamaa
