/- The cursor by which the statements draw: a byte and a number below a bound come out of it, whatever the text it reads; it writes only its own block. -/
import Derived.Test.YtmcelfiljnlmoaaRows
import Derived.WalkKit
import Derived.WalkSpells
import Derived.WalkLawsBesides
import Derived.Lib.Hide
import Derived.Deep.QuietTactic
import Derived.BigQuiet
namespace Go.Proofs.Ytmcelfiljnlmoaa
open Go.RowKit
namespace Draw

theorem and255 (y : Int) : 0 ≤ bits .and .i64 y 255 ∧ bits .and .i64 y 255 ≤ 255 := by
  have h : (BitVec.ofInt 64 y &&& BitVec.ofInt 64 255).toNat ≤ 255 := by
    rw [BitVec.toNat_and]; exact Nat.le_trans Nat.and_le_right (by decide)
  have e : bits .and .i64 y 255 = IntKind.i64.wrap ((BitVec.ofInt 64 y &&& BitVec.ofInt 64 255).toNat : Int) := rfl
  rw [e, IntWalk.i64_in _ (by omega)]
  omega

/-- The text that is drawn from: bytes, in blocks below B. -/
def Src (w : World) (B : Nat) (ad : Option Addr) (len : Nat) : Prop := ∀ i, i < len → ∃ b off z, ad = some ⟨b, off, none⟩ ∧ b < B ∧ (0 : Int) ≤ z ∧ z ≤ 255 ∧ w.cell? ⟨b, off + i, none⟩ = some (.int .u8 z)

/-- The cursor in block c. -/
def Cur (w : World) (c : Nat) (ad : Option Addr) (len cap : Nat) : Prop :=
  ∃ (i : Nat) (h : Int), i ≤ len ∧ w.heap[c]? = some (.cells #[.slice ad len cap, .int .i64 i, .int .i64 h] 108 (0, 0))

def BytePost (w : World) (c : Nat) (ad : Option Addr) (len cap : Nat) (e : Ending) (w' : World) : Prop :=
  ∃ x : Int, 0 ≤ x ∧ x ≤ 255 ∧ e = .returned (.int .i64 x) ∧ Cur w' c ad len cap ∧ w.grownBy w' (some c)

theorem grownBy_refl (w : World) (r : Option Nat) : w.grownBy w r := ⟨rfl, rfl, rfl, Nat.le_refl _, fun _ _ _ => rfl⟩
theorem grownBy_trans {a b c : World} {r : Option Nat} (h : a.grownBy b r) (k : b.grownBy c r) : a.grownBy c r :=
  ⟨k.os.trans h.os, k.tape.trans h.tape, k.output.trans h.output, Nat.le_trans h.size k.size, fun i hi hr => (k.block i (Nat.lt_of_lt_of_le hi h.size) hr).trans (h.block i hi hr)⟩

theorem grownBy_set {a w : World} {c : Nat} (h : a.grownBy w (some c)) (j : Nat) (v : Value) : a.grownBy (w.setCell ⟨c, j, none⟩ v) (some c) :=
  grownBy_trans h ⟨rfl, rfl, rfl, by simp [World.setCell], fun k hk hr => Below.heap_setCell _ _ _ _ (fun e => hr (by rw [e]))⟩
theorem grownBy_draws {a w : World} {r : Option Nat} (h : a.grownBy w r) (n : Nat) : a.grownBy (w.drewN n) r := ⟨h.os, h.tape, h.output, h.size, h.block⟩
theorem block_set {w : World} {c j : Nat} {cs : Array Value} {t : TypeId} (h : w.heap[c]? = some (.cells cs t (0, 0))) (v : Value) : (w.setCell ⟨c, j, none⟩ v).heap[c]? = some (.cells (cs.setIfInBounds j v) t (0, 0)) :=
  heap_setCell_same w c j cs t v h

set_option maxRecDepth 100000 in
set_option maxHeartbeats 1000000 in
theorem byte_any (c : Nat) (ad : Option Addr) (len cap : Nat) (w : World) (hlen : len ≤ 1048576) (hc : Cur w c ad len cap) (hs : Src w c ad len) :
    Calls Try.prog 118 #[.pointer (some ⟨c, 0, none⟩)] w (BytePost w c ad len cap) := by
  obtain ⟨i, h, hi, hb⟩ := hc
  have f0 : w.cell? ⟨c, 0, none⟩ = some (.slice ad len cap) := by simp [World.cell?, hb]
  have f1 : w.cell? ⟨c, 1, none⟩ = some (.int .i64 i) := by simp [World.cell?, hb]
  have f2 : w.cell? ⟨c, 2, none⟩ = some (.int .i64 h) := by simp [World.cell?, hb]
  have z2 : w.frozen? ⟨c, 2, none⟩ = false := by simp [World.frozen?, hb]
  have z1 : w.frozen? ⟨c, 1, none⟩ = false := by simp [World.frozen?, hb]
  have HB := Lib.hid hb
  clear hb
  by_cases hlt : i < len
  · obtain ⟨b, off, z, rfl, hbc, hz0, hz1, hz⟩ := hs i hlt
    have hz' : ∀ x, (w.setCell ⟨c, 2, none⟩ x).cell? ⟨b, off + i, none⟩ = some (.int .u8 z) := fun x => by
      rw [World.cell?_of_block (w := w) (Below.heap_setCell _ _ _ _ (by show b ≠ c; omega))]; exact hz
    go_enter Try.func118, Try.ntmps118
    go_wp2
    go_quiet (fail)
    go_wp2
    go_quiet (fail)
    go_wp2
    go_quiet (fail)
    go_wp2
    go_ret
    exact ⟨_, (and255 _).1, (and255 _).2, rfl, ⟨i + 1, _, by omega, block_set (block_set HB.out _) _⟩, grownBy_set (grownBy_draws (grownBy_set (grownBy_refl w _) 2 _) _) 1 _⟩
  · go_enter Try.func118, Try.ntmps118
    go_wp2
    go_quiet (fail)
    go_wp2
    go_quiet (fail)
    go_wp2
    go_ret
    exact ⟨_, (and255 _).1, (and255 _).2, rfl, ⟨i, _, hi, block_set HB.out _⟩, grownBy_draws (grownBy_draws (grownBy_set (grownBy_refl w _) 2 _) _) _⟩

theorem cur_lt {w : World} {c : Nat} {ad : Option Addr} {len cap : Nat} (h : Cur w c ad len cap) : c < w.heap.size := by
  obtain ⟨i, h, _, hb⟩ := h
  exact (Array.getElem?_eq_some_iff.1 hb).1
theorem src_grown {w w' : World} {c : Nat} {ad : Option Addr} {len : Nat} (hs : Src w c ad len) (hg : w.grownBy w' (some c)) (hc : c < w.heap.size) : Src w' c ad len := by
  intro i hi
  obtain ⟨b, off, z, h1, h2, h3, h4, h5⟩ := hs i hi
  exact ⟨b, off, z, h1, h2, h3, h4, by rw [World.cell?_of_block (w := w) (hg.block b (by omega) (fun e => by simp at e; omega))]; exact h5⟩

def NumPost (n : Int) (w : World) (c : Nat) (ad : Option Addr) (len cap : Nat) (e : Ending) (w' : World) : Prop :=
  ∃ x : Int, 0 ≤ x ∧ x < n ∧ e = .returned (.int .i64 x) ∧ Cur w' c ad len cap ∧ w.grownBy w' (some c)

set_option maxRecDepth 100000 in
set_option maxHeartbeats 1000000 in
theorem below_small (c : Nat) (ad : Option Addr) (len cap : Nat) (n : Int) (w : World) (hlen : len ≤ 1048576) (hn : 0 < n) (hn2 : n ≤ 256) (hc : Cur w c ad len cap) (hs : Src w c ad len) :
    Calls Try.prog 104 #[.pointer (some ⟨c, 0, none⟩), .int .i64 n] w (NumPost n w c ad len cap) := by
  have hz : (n == 0) = false := by simp; omega
  have HC := Lib.hid hc
  have HS := Lib.hid hs
  clear hc hs
  go_enter Try.func104, Try.ntmps104
  go_wp2_with fail
  refine (byte_any c ad len cap w hlen HC.out HS.out).mono ?_
  rintro e w1 ⟨x, x0, x1, rfl, hc1, hg1⟩
  have C1 := Lib.hid hc1
  have G1 := Lib.hid hg1
  clear hc1 hg1
  go_wp2
  go_ret
  exact ⟨_, Int.emod_nonneg _ (by omega), Int.emod_lt_of_pos _ hn, rfl, C1.out, G1.out⟩

set_option maxRecDepth 100000 in
set_option maxHeartbeats 1000000 in
theorem below_big (c : Nat) (ad : Option Addr) (len cap : Nat) (n : Int) (w : World) (hlen : len ≤ 1048576) (hn : 256 < n) (hn2 : n ≤ 4611686018427387904) (hc : Cur w c ad len cap) (hs : Src w c ad len) :
    Calls Try.prog 104 #[.pointer (some ⟨c, 0, none⟩), .int .i64 n] w (NumPost n w c ad len cap) := by
  have hz : (n == 0) = false := by simp; omega
  have HC := Lib.hid hc
  have HS := Lib.hid hs
  clear hc hs
  go_enter Try.func104, Try.ntmps104
  go_wp2_with fail
  refine (byte_any c ad len cap w hlen HC.out HS.out).mono ?_
  rintro e w1 ⟨x, x0, x1, rfl, hc1, hg1⟩
  have S1 := Lib.hid (src_grown HS.out hg1 (cur_lt HC.out))
  have C1 := Lib.hid hc1
  have G1 := Lib.hid hg1
  clear hc1 hg1
  go_wp2_with fail
  refine (byte_any c ad len cap w1 hlen C1.out S1.out).mono ?_
  rintro e w2 ⟨y, y0, y1, rfl, hc2, hg2⟩
  have S2 := Lib.hid (src_grown S1.out hg2 (cur_lt C1.out))
  have C2 := Lib.hid hc2
  have G2 := Lib.hid (grownBy_trans G1.out hg2)
  clear hc2 hg2
  go_wp2_with fail
  refine (byte_any c ad len cap w2 hlen C2.out S2.out).mono ?_
  rintro e w3 ⟨z, z0, z1, rfl, hc3, hg3⟩
  have S3 := Lib.hid (src_grown S2.out hg3 (cur_lt C2.out))
  have C3 := Lib.hid hc3
  have G3 := Lib.hid (grownBy_trans G2.out hg3)
  clear hc3 hg3
  go_wp2_with fail
  refine (byte_any c ad len cap w3 hlen C3.out S3.out).mono ?_
  rintro e w4 ⟨v, v0, v1, rfl, hc4, hg4⟩
  have C4 := Lib.hid hc4
  have G4 := Lib.hid (grownBy_trans G3.out hg4)
  clear hc4 hg4
  go_wp2
  go_ret
  exact ⟨_, Int.emod_nonneg _ (by omega), Int.emod_lt_of_pos _ (by omega), rfl, C4.out, G4.out⟩

/-- A drawn number is at least 0 and below the bound. -/
theorem below_any (c : Nat) (ad : Option Addr) (len cap : Nat) (n : Int) (w : World) (hlen : len ≤ 1048576) (hn : 0 < n) (hn2 : n ≤ 4611686018427387904) (hc : Cur w c ad len cap) (hs : Src w c ad len) :
    Calls Try.prog 104 #[.pointer (some ⟨c, 0, none⟩), .int .i64 n] w (NumPost n w c ad len cap) := by
  by_cases h : n ≤ 256
  · exact below_small c ad len cap n w hlen hn h hc hs
  · exact below_big c ad len cap n w hlen (by omega) hn2 hc hs

set_option maxRecDepth 100000 in
set_option maxHeartbeats 1000000 in
theorem new_any (ad : Option Addr) (len cap : Nat) (w : World) (hlen : len ≤ 1048576) (hs : Src w w.heap.size ad len) :
    Calls Try.prog 83 #[.slice ad len cap] w fun e w' => e = .returned (.pointer (some ⟨w.heap.size, 0, none⟩)) ∧ ∃ h : Int, w' = w.alloc (.cells #[.slice ad len cap, .int .i64 0, .int .i64 h] 108) := by
  have HS := Lib.hid hs
  clear hs
  go_enter Try.func83, Try.ntmps83
  go_wp2
  go_loop [3, 4] (fun hv iv => ∃ (i : Nat) (h : Int), i ≤ len ∧ hv = .int .i64 h ∧ iv = .int .i64 i) (fun _ iv => len - (intOf iv).toNat)
  case atStart => exact ⟨0, _, Nat.zero_le _, rfl, rfl⟩
  case round =>
    obtain ⟨i, h, hi, rfl, rfl⟩ := hrel
    by_cases hlt : i < len
    · by_cases h4 : i < 4000
      · obtain ⟨b, off, z, rfl, hbc, hz0, hz1, hz⟩ := HS.out i hlt
        go_wp2
        go_round
        case rel => exact ⟨i + 1, _, by omega, rfl, by go_num⟩
        case measure => (simp [intOf]; try omega)
      · go_wp2
        go_ret
        exact ⟨rfl, _, rfl⟩
    · obtain rfl : i = len := by omega
      go_wp2
      go_ret
      exact ⟨rfl, _, rfl⟩
end Draw
end Go.Proofs.Ytmcelfiljnlmoaa
