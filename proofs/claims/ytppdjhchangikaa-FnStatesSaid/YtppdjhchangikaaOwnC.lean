/- Ints that a call owns, in a slice whose capacity ends ahead of its row, or with none: compared, marked, held. -/
import Derived.Test.YtppdjhchangikaaIntsB
import Derived.Test.YtppdjhchangikaaAppIs
namespace Go.Proofs.Ytppdjhchangikaa
open Go.RowKit Go.Proofs.Ytppdjhchangikaa.Parts Go.Proofs.Ytppdjhchangikaa.Hexa

/-- The slice v has the ints L, in a row of the call's own, or none. -/
def OwnC (w : World) (B : Nat) (v : Value) (n : Nat) (xs : List Value) : Prop :=
  ∃ a c q, v = .slice a n c ∧ xs.length = n ∧ n ≤ c ∧ c ≤ maxLen ∧ (n = 0 ∨ w.ownsRow B 3 1 (.slice a n q) n xs)
section
variable {w w' : World} {B n : Nat} {v : Value} {xs : List Value}
theorem ownC_of_own (h : w.ownsRow B 3 1 v n xs) : OwnC w B v n xs := by
  have hl := own_length h
  obtain ⟨a, c, rfl, h1, h2, _⟩ := own_form h
  exact ⟨a, c, c, rfl, hl, h2, h1, .inr h⟩
theorem ownC_nil (a : Option Addr) {c : Nat} (hc : c ≤ maxLen) : OwnC w B (.slice a 0 c) 0 [] := ⟨a, c, 0, rfl, rfl, Nat.zero_le _, hc, .inl rfl⟩
theorem OwnC.below (h : OwnC w B v n xs) (hb : Below w.heap.size w w') : OwnC w' B v n xs := by
  obtain ⟨a, c, q, rfl, hl, h1, h2, h⟩ := h
  exact ⟨a, c, q, rfl, hl, h1, h2, h.imp id fun h => own_below h hb⟩
theorem OwnC.kept (h : OwnC w B v n xs) (hk : ∀ g, B ≤ g → g < w.heap.size → w'.heap[g]? = w.heap[g]?) : OwnC w' B v n xs := by
  obtain ⟨a, c, q, rfl, hl, h1, h2, h⟩ := h
  exact ⟨a, c, q, rfl, hl, h1, h2, h.imp id fun h => own_kept h fun g hg => hk g (own_block_ge h g hg) (own_block_lt h g hg)⟩
theorem OwnC.draws (h : OwnC w B v n xs) (m : Nat) : OwnC (w.drewN m) B v n xs := h
theorem OwnC.reads {a : Option Addr} {n' c : Nat} (h : OwnC w B (.slice a n' c) n xs) : Reads w a xs := by
  obtain ⟨a', c', q, e, hl, h1, h2, h⟩ := h
  cases e
  rcases h with rfl | h
  · intro j hj; omega
  · exact own_reads h
end

/-- The slice v has the cells, in a row from block B on and below T, or none. -/
def OwnT (e : TypeId) (w : World) (B T : Nat) (v : Value) (n : Nat) (xs : List Value) : Prop :=
  ∃ a c q, v = .slice a n c ∧ xs.length = n ∧ n ≤ c ∧ c ≤ maxLen ∧ (n = 0 ∨ (w.ownsRow B e 1 (.slice a n q) n xs ∧ ∀ g, (Value.slice a n q).ownBlock = some g → g < T))
section
variable {w w' : World} {e : TypeId} {B T n : Nat} {v : Value} {xs : List Value}
theorem ownT_of_own (h : w.ownsRow B e 1 v n xs) : OwnT e w B w.heap.size v n xs := by
  have hl := own_length h
  have hb := own_block_lt h
  obtain ⟨a, c, rfl, h1, h2, _⟩ := own_form h
  exact ⟨a, c, c, rfl, hl, h2, h1, .inr ⟨h, hb⟩⟩
theorem ownT_of_C (h : OwnC w B v n xs) : OwnT 3 w B w.heap.size v n xs := by
  obtain ⟨a, c, q, rfl, hl, h1, h2, h⟩ := h
  exact ⟨a, c, q, rfl, hl, h1, h2, h.imp id fun h => ⟨h, own_block_lt h⟩⟩
theorem OwnT.toC (h : OwnT 3 w B T v n xs) : OwnC w B v n xs := by
  obtain ⟨a, c, q, rfl, hl, h1, h2, h⟩ := h
  exact ⟨a, c, q, rfl, hl, h1, h2, h.imp id fun h => h.1⟩
theorem OwnT.below (h : OwnT e w B T v n xs) (hb : Below w.heap.size w w') : OwnT e w' B T v n xs := by
  obtain ⟨a, c, q, rfl, hl, h1, h2, h⟩ := h
  exact ⟨a, c, q, rfl, hl, h1, h2, h.imp id fun h => ⟨own_below h.1 hb, h.2⟩⟩
theorem OwnT.kept (h : OwnT e w B T v n xs) (hk : ∀ g, B ≤ g → g < T → w'.heap[g]? = w.heap[g]?) : OwnT e w' B T v n xs := by
  obtain ⟨a, c, q, rfl, hl, h1, h2, h⟩ := h
  exact ⟨a, c, q, rfl, hl, h1, h2, h.imp id fun h => ⟨own_kept h.1 fun g hg => hk g (own_block_ge h.1 g hg) (h.2 g hg), h.2⟩⟩
theorem OwnT.draws (h : OwnT e w B T v n xs) (m : Nat) : OwnT e (w.drewN m) B T v n xs := h
theorem OwnT.reads (h : OwnT e w B T v n xs) : ∃ a c, v = .slice a n c ∧ Reads w a xs := by
  obtain ⟨a, c, q, rfl, hl, h1, h2, h⟩ := h
  refine ⟨a, c, rfl, ?_⟩
  rcases h with rfl | h
  · intro j hj; omega
  · exact own_reads h.1
end
theorem eqT (v1 v2 : Value) (B1 T1 B2 T2 n : Nat) (P : List Int) (w : World) (hP : P.length = n) (hn : n ≤ 100000000) (h1 : OwnT 3 w B1 T1 v1 n (icells P)) (h2 : OwnT 3 w B2 T2 v2 n (icells P)) :
    Calls Try.prog 23 #[v1, v2] w fun e w' => e = .returned (.bool true) ∧ ∃ m, w' = w.drewN m := by
  obtain ⟨a1, c1, rfl, r1⟩ := h1.reads
  obtain ⟨a2, c2, rfl, r2⟩ := h2.reads
  exact eqInts_any a1 a2 n c1 c2 P w hP hn r1 r2

theorem eqC (v1 v2 : Value) (B1 B2 n : Nat) (P : List Int) (w : World) (hP : P.length = n) (hn : n ≤ 100000000) (h1 : OwnC w B1 v1 n (icells P)) (h2 : OwnC w B2 v2 n (icells P)) :
    Calls Try.prog 23 #[v1, v2] w fun e w' => e = .returned (.bool true) ∧ ∃ m, w' = w.drewN m := by
  have r1 := h1
  have r2 := h2
  obtain ⟨a1, c1, q1, rfl, _⟩ := h1
  obtain ⟨a2, c2, q2, rfl, _⟩ := h2
  exact eqInts_any a1 a2 n c1 c2 P w hP hn r1.reads r2.reads

/-- Marks written: only own blocks are written to. -/
def MarkPostC (base : Nat) (v : Value) (n k : Nat) (w : World) (e : Ending) (w' : World) : Prop :=
  ∃ ys, e = .returned (.int .i64 (k + n)) ∧ OwnC w' base v n ys ∧ MarkedI ys k n ∧ Below base w w'

set_option maxRecDepth 100000 in
set_option maxHeartbeats 1000000 in
theorem markNone_any (a : Option Addr) (c k : Nat) (w : World) :
    Calls Try.prog 26 #[.slice a 0 c, .int .i64 k] w fun e w' => e = .returned (.int .i64 k) ∧ w' = w := by
  go_enter Try.func26, Try.ntmps26
  go_wp2
  go_loopw [1, 5] (fun kv iv wr => kv = .int .i64 k ∧ iv = .int .i64 0 ∧ wr = w) (fun _ _ _ => 0)
  case atStart => exact ⟨rfl, rfl, rfl⟩
  case round =>
    obtain ⟨rfl, rfl, rfl⟩ := hrel
    go_wp2
    go_ret
    exact ⟨rfl, rfl⟩
set_option maxRecDepth 100000 in
set_option maxHeartbeats 1000000 in
theorem heldNone_any (a : Option Addr) (c k : Nat) (w : World) :
    Calls Try.prog 32 #[.slice a 0 c, .int .i64 k] w fun e w' => e = .returned (.int .i64 k) ∧ w' = w := by
  go_enter Try.func32, Try.ntmps32
  go_wp2
  go_loopw [1, 5] (fun kv iv wr => kv = .int .i64 k ∧ iv = .int .i64 0 ∧ wr = w) (fun _ _ _ => 0)
  case atStart => exact ⟨rfl, rfl, rfl⟩
  case round =>
    obtain ⟨rfl, rfl, rfl⟩ := hrel
    go_wp2
    go_ret
    exact ⟨rfl, rfl⟩

set_option maxRecDepth 100000 in
set_option maxHeartbeats 1000000 in
theorem markIntsC_any (base : Nat) (v : Value) (n k : Nat) (xs : List Value) (w : World) (hk : k + n ≤ 100000000) (hown : OwnC w base v n xs) :
    Calls Try.prog 26 #[v, .int .i64 k] w (MarkPostC base v n k w) := by
  obtain ⟨ad, c, cap, rfl, hl0, hnc, hcm, h⟩ := hown
  rcases h with rfl | hown
  · refine (markNone_any ad c k w).mono ?_
    rintro e w' ⟨rfl, rfl⟩
    exact ⟨[], ret_i64' (by omega), ⟨ad, c, cap, rfl, rfl, hnc, hcm, .inl rfl⟩, fun t ht => by omega, Below.refl _ _⟩
  have hcap : cap ≤ maxLen := by obtain ⟨_, _, e, h9, _, _⟩ := own_form hown; cases e; exact h9
  have HO := Lib.hid hown
  clear hown hl0
  have hc63 : c ≤ 9223372036854775807 := Nat.le_trans hcm (by decide)
  have HCM := Lib.hid hcm
  unfold maxLen at hcap hcm
  go_enter Try.func26, Try.ntmps26
  go_wp2
  go_loopw [1, 5] (fun kv iv wr => ∃ (j q : Nat) (ys : List Value), j ≤ n ∧ q ≤ k + n ∧ Hid (q = k + j) ∧ Hid (MarkedI ys k j) ∧ iv = .int .i64 j ∧ kv = .int .i64 q ∧ Hid (wr.ownsRow base 3 1 (.slice ad n cap) n ys) ∧ Below base w wr) (fun _ iv _ => n - (intOf iv).toNat)
  case atStart => exact ⟨0, k, xs, Nat.zero_le _, by omega, Lib.hid rfl, Lib.hid (fun t ht => by omega), rfl, rfl, HO, Below.refl _ _⟩
  case round =>
    obtain ⟨j, q, ys, hj, hq, HQ, HM, rfl, rfl, HW, hbel⟩ := hrel
    by_cases hlt : j < n
    · have hl : ys.length = n := own_length HW.out
      obtain ⟨ad', cap', hv, _, _, hr⟩ := own_form HW.out
      obtain ⟨g, hg, hc⟩ := hr j (by omega)
      have hv' : ad = ad' := by simp at hv; exact hv.1
      subst hv'
      subst hg
      have hgb : base ≤ g := own_block_ge HW.out g rfl
      have hM1 := Lib.hid (HM.out.step (by omega))
      have HQ1 : Hid ((q : Nat) = k + j) := HQ
      have hx : wr.cell? ⟨g, j, none⟩ = some (ys[j]'(by omega)) := by rw [HW.out.cellAt j (by omega)]; simp [hl, hlt]
      obtain ⟨x, hxe⟩ : ∃ x, ys[j]'(by omega) = x := ⟨_, rfl⟩
      rw [hxe] at hx
      have hfz := HW.out.frozenAt j
      have HS := Lib.hid (HW.out.stored j (.int .i64 (q : Int))).1
      have hb2 : Below base w (wr.setCell ⟨g, j, none⟩ (.int .i64 (q : Int))) := hbel.setCell hgb _
      clear hr hc hv HO hxe
      go_wp2
      clear hx hfz hl
      go_roundw
      case rel => exact ⟨j + 1, q + 1, ys.set j (.int .i64 (q : Int)), by omega, by have := HQ.out; omega, Lib.hid (by have := HQ.out; omega), by rw [HQ1.out]; exact hM1, by go_num, by go_num, HS, hb2⟩
      case measure => (simp [intOf]; try omega)
    · obtain rfl : j = n := by omega
      go_wp2
      go_ret
      exact ⟨ys, ret_i64' (by have := HQ.out; omega), ⟨ad, c, cap, rfl, own_length HW.out, hnc, HCM.out, .inr HW.out⟩, HM.out, hbel⟩

set_option maxRecDepth 100000 in
set_option maxHeartbeats 1000000 in
theorem heldIntsC_any (base : Nat) (v : Value) (n k : Nat) (ys : List Value) (w : World) (hk : k + n ≤ 100000000) (hown : OwnC w base v n ys) (hm : MarkedI ys k n) :
    Calls Try.prog 32 #[v, .int .i64 k] w fun e w' => e = .returned (.int .i64 (k + n)) ∧ w' = w := by
  obtain ⟨ad, c, cap, rfl, hl0, hnc, hcm, h⟩ := hown
  rcases h with rfl | hown
  · refine (heldNone_any ad c k w).mono ?_
    rintro e w' ⟨rfl, rfl⟩
    exact ⟨ret_i64' (by omega), rfl⟩
  have hl := own_length hown
  obtain ⟨_, _, e9, _, _, hr⟩ := own_form hown
  cases e9
  have HR := Lib.hid hr
  have HM := Lib.hid hm
  have HL := Lib.hid hl
  have hc63 : c ≤ 9223372036854775807 := Nat.le_trans hcm (by decide)
  clear hown hr hm hl hl0
  unfold maxLen at hcm
  go_enter Try.func32, Try.ntmps32
  go_wp2
  go_loopw [1, 5] (fun kv iv wr => ∃ (j q : Nat), j ≤ n ∧ q ≤ k + n ∧ Hid (q = k + j) ∧ iv = .int .i64 j ∧ kv = .int .i64 q ∧ wr = w) (fun _ iv _ => n - (intOf iv).toNat)
  case atStart => exact ⟨0, k, Nat.zero_le _, by omega, Lib.hid rfl, rfl, rfl, rfl⟩
  case round =>
    obtain ⟨j, q, hj, hq, HQ, rfl, rfl, rfl⟩ := hrel
    by_cases hlt : j < n
    · obtain ⟨g, rfl, hc⟩ := HR.out j (by have := HL.out; omega)
      have hc0 : wr.cell? ⟨g, j, none⟩ = some (.int .i64 (q : Int)) := by rw [hc, HM.out j hlt, HQ.out]
      clear hc
      go_wp2
      go_roundw
      case rel => exact ⟨j + 1, q + 1, by omega, by have := HQ.out; omega, Lib.hid (by have := HQ.out; omega), by go_num, by go_num, by first | rfl | trivial⟩
      case measure => (simp [intOf]; try omega)
    · obtain rfl : j = n := by omega
      go_wp2
      go_ret
      exact ⟨ret_i64' (by have := HQ.out; omega), rfl⟩

/-- Some ints of the call's own. -/
def GivesC (P : List Int) (w : World) (e : Ending) (w' : World) : Prop :=
  ∃ v, e = .returned v ∧ OwnC w' w.heap.size v P.length (icells P) ∧ Below w.heap.size w w'
/-- Some ints of the call's own, and whether there are any. -/
def GivesCB (P : List Int) (b : Bool) (w : World) (e : Ending) (w' : World) : Prop :=
  ∃ v, e = .returned (.tuple #[v, .bool b]) ∧ OwnC w' w.heap.size v P.length (icells P) ∧ Below w.heap.size w w'
end Go.Proofs.Ytppdjhchangikaa
