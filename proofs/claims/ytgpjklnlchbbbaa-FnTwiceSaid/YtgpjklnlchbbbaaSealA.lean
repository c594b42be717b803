/- Sealings: one at a time: measured, copied, compared. -/
import Derived.Test.YtgpjklnlchbbbaaRows
import Derived.Test.YtgpjklnlchbbbaaPartsMath
import Derived.WalkKit
import Derived.WalkSpells
import Derived.WalkLawsBesides
import Derived.Lib.Hide
import Derived.Deep.QuietTactic
import Derived.BigQuiet
import Derived.OwnWalk
namespace Go.Proofs.Ytgpjklnlchbbbaa
open Go.RowKit Go.Proofs.Ytgpjklnlchbbbaa.Parts Go.Proofs.Ytgpjklnlchbbbaa.Hexa

/-- A sealing: its key, nonce and text. -/
structure S3 where
  k : ByteArray
  n : ByteArray
  t : ByteArray
instance : Inhabited S3 := ⟨⟨ByteArray.empty, ByteArray.empty, ByteArray.empty⟩⟩
def S3.val (s : S3) : Value := .agg #[.string s.k, .string s.n, .string s.t]

def szOne (s : S3) (l : Int) : Int := if l - s.k.size - s.n.size - s.t.size < 0 then -1 else l - s.k.size - s.n.size - s.t.size
theorem szOne_way (x : S3) (l r : Int) (h : szOne ⟨x.k, x.n, x.t⟩ l = r) (h0 : 0 ≤ l) : (r < 0 ∧ True) ∨ (0 ≤ r ∧ r ≤ l ∧ (x.k.size : Int) ≤ l ∧ (x.n.size : Int) ≤ l ∧ (x.t.size : Int) ≤ l) := by
  unfold szOne at h
  simp only at h
  split at h
  · left; exact ⟨by omega, trivial⟩
  · right; omega

set_option maxRecDepth 100000 in
set_option maxHeartbeats 400000 in
theorem szSealing_any (k n t : ByteArray) (l : Int) (w : World) (h0 : 0 ≤ l) (hl : l ≤ 1048576) (hk : k.size ≤ maxLen) (hn : n.size ≤ maxLen) (ht : t.size ≤ maxLen) :
    Calls Try.prog 23 #[.agg #[.string k, .string n, .string t], .int .i64 l] w fun e w' => e = .returned (.int .i64 (szOne ⟨k, n, t⟩ l)) ∧ Below w.heap.size w w' := by
  unfold maxLen at hk hn ht
  obtain ⟨a, ha⟩ : ∃ a, a = (k.size : Int) := ⟨_, rfl⟩
  obtain ⟨b, hb⟩ : ∃ b, b = (n.size : Int) := ⟨_, rfl⟩
  obtain ⟨c, hc⟩ : ∃ c, c = (t.size : Int) := ⟨_, rfl⟩
  have hE : szOne ⟨k, n, t⟩ l = if l - a - b - c < 0 then -1 else l - a - b - c := by subst ha hb hc; rfl
  rw [hE]
  clear hE
  by_cases h1 : l - (k.size : Int) < 0
  · have h5 : l - a - b - c < 0 := by omega
    rw [if_pos h5]
    clear h5 ha hb hc
    go_enter Try.func23, Try.ntmps23
    go_wp2
    go_ret
    exact ⟨rfl, (Below.refl _ _).alloc (Nat.le_refl _) _⟩
  · by_cases h2 : l - (k.size : Int) - (n.size : Int) < 0
    · have h5 : l - a - b - c < 0 := by omega
      rw [if_pos h5]
      clear h5 ha hb hc
      go_enter Try.func23, Try.ntmps23
      go_wp2
      go_ret
      exact ⟨rfl, (Below.refl _ _).alloc (Nat.le_refl _) _⟩
    · by_cases h3 : l - (k.size : Int) - (n.size : Int) - (t.size : Int) < 0
      · have h5 : l - a - b - c < 0 := by omega
        rw [if_pos h5]
        clear h5 ha hb hc
        go_enter Try.func23, Try.ntmps23
        go_wp2
        go_ret
        exact ⟨rfl, (Below.refl _ _).alloc (Nat.le_refl _) _⟩
      · have h5 : ¬ (l - a - b - c < 0) := by omega
        rw [if_neg h5]
        subst ha hb hc
        clear h5
        go_enter Try.func23, Try.ntmps23
        go_wp2
        go_ret
        exact ⟨rfl, (Below.refl _ _).alloc (Nat.le_refl _) _⟩

set_option maxRecDepth 100000 in
set_option maxHeartbeats 400000 in
theorem toSealing_any (k n t : ByteArray) (w : World) :
    Calls Try.prog 24 #[.agg #[.string k, .string n, .string t]] w fun e w' => e = .returned (.agg #[.string k, .string n, .string t]) ∧ Below w.heap.size w w' := by
  go_enter Try.func24, Try.ntmps24
  go_wp2
  refine bodyPost_ret (v := .agg #[.string k, .string n, .string t]) ?_ rfl ⟨rfl, (((Below.refl _ _).alloc (Nat.le_refl _) _).alloc (by simp) _).alloc (by simp; omega) _⟩
  simp [results, Try.results24, go_sem]

set_option maxRecDepth 100000 in
set_option maxHeartbeats 400000 in
theorem eqSealing_any (k n t : ByteArray) (w : World) :
    Calls Try.prog 25 #[.agg #[.string k, .string n, .string t], .agg #[.string k, .string n, .string t]] w fun e w' => e = .returned (.bool true) ∧ Below w.heap.size w w' := by
  go_enter Try.func25, Try.ntmps25
  go_wp2
  go_ret
  exact ⟨rfl, ((Below.refl _ _).alloc (Nat.le_refl _) _).alloc (by simp) _⟩

/-- A slice of sealings that came in. -/
structure SrcS (w : World) (a : Option Addr) (n : Nat) (L : List S3) : Prop where
  len : L.length = n
  cell : ∀ j, j < n → ∃ g off, a = some ⟨g, off, none⟩ ∧ g < w.heap.size ∧ w.cell? ⟨g, off + j * 3, none⟩ = some (.string (L.getD j default).k) ∧
    w.cell? ⟨g, off + j * 3 + 1, none⟩ = some (.string (L.getD j default).n) ∧ w.cell? ⟨g, off + j * 3 + 2, none⟩ = some (.string (L.getD j default).t)
theorem SrcS.later {w w' : World} {a : Option Addr} {n : Nat} {L : List S3} (h : SrcS w a n L) (hb : Below w.heap.size w w') : SrcS w' a n L :=
  ⟨h.len, fun j hj => by
    obtain ⟨g, off, e, hg, c1, c2, c3⟩ := h.cell j hj
    exact ⟨g, off, e, Nat.lt_of_lt_of_le hg hb.size, by rw [hb.cell hg]; exact c1, by rw [hb.cell hg]; exact c2, by rw [hb.cell hg]; exact c3⟩⟩

set_option maxRecDepth 100000 in
set_option maxHeartbeats 1000000 in
theorem szSealings_any (a : Option Addr) (n c : Nat) (L : List S3) (w : World) (hs : SrcS w a n L) (hn : n ≤ 9223372036854775807) (hm : ∀ j, j < n → (L.getD j default).k.size ≤ maxLen ∧ (L.getD j default).n.size ≤ maxLen ∧ (L.getD j default).t.size ≤ maxLen) :
    Calls Try.prog 13 #[.slice a n c, .int .i64 1048576] w fun e w' => ∃ r, e = .returned (.int .i64 r) ∧ (r < 0 ∨ (0 ≤ r ∧ n ≤ 1048576 ∧ ∀ j, j < n → (L.getD j default).k.size ≤ 1048576 ∧ (L.getD j default).n.size ≤ 1048576 ∧ (L.getD j default).t.size ≤ 1048576)) ∧ Below w.heap.size w w' := by
  have HS := Lib.hid hs
  have HM := Lib.hid hm
  clear hs hm
  by_cases hlt0 : (1048576 : Int) - (n : Int) < 0
  · go_enter Try.func13, Try.ntmps13
    go_wp2
    go_ret
    exact ⟨-1, rfl, .inl (by omega), Below.refl _ _⟩
  · go_enter Try.func13, Try.ntmps13
    go_wp2
    go_loopw [1, 5] (fun lv iv wr => ∃ (k : Nat) (l : Int), k ≤ n ∧ iv = .int .i64 k ∧ lv = .int .i64 l ∧ 0 ≤ l ∧ l ≤ 1048576 ∧ Hid (∀ j, j < k → (L.getD j default).k.size ≤ 1048576 ∧ (L.getD j default).n.size ≤ 1048576 ∧ (L.getD j default).t.size ≤ 1048576) ∧ Below w.heap.size w wr) (fun _ iv _ => n - (intOf iv).toNat)
    case atStart => exact ⟨0, _, Nat.zero_le _, rfl, rfl, by omega, by omega, Lib.hid (fun j hj => by omega), Below.refl _ _⟩
    case round =>
      obtain ⟨k, l, hk, rfl, rfl, h0, hl, HA, hbel⟩ := hrel
      by_cases hlt : k < n
      · obtain ⟨g, off, rfl, hg, c1, c2, c3⟩ := HS.out.cell k hlt
        have d1 := (hbel.cell (p := ⟨g, off + k * 3, none⟩) hg).trans c1
        have d2 := (hbel.cell (p := ⟨g, off + k * 3 + 1, none⟩) hg).trans c2
        have d3 := (hbel.cell (p := ⟨g, off + k * 3 + 2, none⟩) hg).trans c3
        obtain ⟨x, hx⟩ : ∃ x, L.getD k default = x := ⟨_, rfl⟩
        rw [hx] at d1 d2 d3
        clear c1 c2 c3
        go_wp2_with fail
        have hm := HM.out k hlt
        rw [hx] at hm
        refine (szSealing_any x.k x.n x.t l _ h0 hl hm.1 hm.2.1 hm.2.2).mono ?_
        rintro e w1 ⟨rfl, hb1⟩
        have hb2 : Below w.heap.size w w1 := hbel.trans (hb1.mono hbel.size)
        clear d1 d2 d3 hb1 hm
        obtain ⟨r, hr⟩ : ∃ r, szOne ⟨x.k, x.n, x.t⟩ l = r := ⟨_, rfl⟩
        rw [hr]
        rcases szOne_way x l r hr h0 with ⟨h1, _⟩ | ⟨h1, h2, h3⟩
        · go_wp2
          go_ret
          exact ⟨-1, rfl, .inl (by omega), hb2⟩
        · have HA2 : Hid (∀ j, j < k + 1 → (L.getD j default).k.size ≤ 1048576 ∧ (L.getD j default).n.size ≤ 1048576 ∧ (L.getD j default).t.size ≤ 1048576) := Lib.hid (fun j hj => by
            by_cases e : j = k
            · subst e; rw [hx]; omega
            · exact HA.out j (by omega))
          clear HA hr hx h3
          go_wp2
          go_roundw
          case rel => exact ⟨k + 1, r, by omega, by go_num, rfl, h1, by omega, HA2, hb2⟩
          case measure => (simp [intOf]; try omega)
      · obtain rfl : k = n := by omega
        go_wp2
        go_ret
        refine ⟨l, rfl, .inr ⟨h0, by omega, fun j hj => HA.out j hj⟩, hbel⟩
end Go.Proofs.Ytgpjklnlchbbbaa
