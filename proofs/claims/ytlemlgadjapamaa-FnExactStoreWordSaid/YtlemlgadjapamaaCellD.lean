/- Memories: marks written over them, and read. -/
import Derived.Test.YtlemlgadjapamaaCellC
namespace Go.Proofs.Ytlemlgadjapamaa
open Go.RowKit Go.Proofs.Ytlemlgadjapamaa.Parts Go.Proofs.Ytlemlgadjapamaa.Hexa

/-- What lies elsewhere than v's row stays. -/
def Elsewhere (v : Value) (w w' : World) : Prop :=
  ∀ (v2 : Value) (M e k n : Nat) (xs : List Value), w.ownsRow M e k v2 n xs → (∀ g, v2.ownBlock = some g → v.ownBlock ≠ some g) → w'.ownsRow M e k v2 n xs
theorem Elsewhere.of_below {v : Value} {w w' : World} (h : Below w.heap.size w w') : Elsewhere v w w' := fun _ _ _ _ _ _ ho _ => own_below ho h
theorem Elsewhere.then_below {v : Value} {w w1 w2 : World} (h : Elsewhere v w w1) (hb : Below w1.heap.size w1 w2) : Elsewhere v w w2 := fun _ _ _ _ _ _ ho hn => own_below (h _ _ _ _ _ _ ho hn) hb
theorem Elsewhere.after_below {v : Value} {w w1 w2 : World} (hb : Below w.heap.size w w1) (h : Elsewhere v w1 w2) : Elsewhere v w w2 := fun _ _ _ _ _ _ ho hn => h _ _ _ _ _ _ (own_below ho hb) hn

def MarksM (M : Nat) (v : Value) (n k : Nat) (w : World) (e : Ending) (w' : World) : Prop :=
  e = .returned (.int .i64 (k + 3 * n)) ∧ Below M w w' ∧ Elsewhere v w w' ∧ w'.ownsRow M 68 3 v n (cellsE encC (marksC k n))

set_option maxRecDepth 100000 in
set_option maxHeartbeats 1000000 in
theorem markCells_any (M : Nat) (v : Value) (n k : Nat) (xs : List Value) (w : World) (hM : M ≤ w.heap.size) (h0 : 0 < k) (hk : k + 3 * n ≤ 100000000) (hown : w.ownsRow M 68 3 v n xs) :
    Calls Try.prog 69 #[v, .int .i64 k] w (MarksM M v n k w) := by
  rcases hown.2 with ⟨rfl, rfl⟩ | ⟨g, cap, cur, rfl, hB, hg, hnc, hcm, hcs, htk⟩
  · clear hown
    go_enter Try.func69, Try.ntmps69
    go_wp2
    go_loopw [1, 5] (fun kv iv wr => kv = .int .i64 k ∧ iv = .int .i64 0 ∧ wr = w) (fun _ _ _ => 0)
    case atStart => exact ⟨rfl, rfl, rfl⟩
    case round =>
      obtain ⟨rfl, rfl, rfl⟩ := hrel
      go_wp2
      go_ret
      exact ⟨ret_i64c (by omega), Below.refl _ _, Elsewhere.of_below (Below.refl _ _), World.ownsRow_nil _ _ _ _⟩
  · have ho : w.ownsRow g 68 3 (.slice (some ⟨g, 0, none⟩) n cap) n xs := ⟨hown.1, .inr ⟨g, cap, cur, rfl, Nat.le_refl _, hg, hnc, hcm, hcs, htk⟩⟩
    refine (markCells_some g n cap k xs w h0 hk ho).mono ?_
    rintro e w' ⟨rfl, hb, hbut, hown'⟩
    refine ⟨rfl, hb.mono hB, fun v2 M2 e2 k2 n2 xs2 h2 hne => ownE_but h2 hbut (fun g2 hg2 e => hne g2 hg2 (by rw [e]; rfl)), ownE_mono hown' hB⟩

set_option maxRecDepth 100000 in
set_option maxHeartbeats 1000000 in
theorem markMemory_any (K : ByteArray) (M : Nat) (v : Value) (n k : Nat) (xs : List Value) (w : World) (hM : M ≤ w.heap.size) (h0 : 0 < k) (hk : k + 3 * n ≤ 100000000) (hown : w.ownsRow M 68 3 v n xs) :
    Calls Try.prog 34 #[.agg #[.string K, v], .int .i64 k] w (MarksM M v n k w) := by
  have HO := Lib.hid hown
  clear hown
  go_enter Try.func34, Try.ntmps34
  have hb0 : Below w.heap.size w (w.alloc (.cells #[.string K, v] 26)) := (Below.refl _ _).alloc (Nat.le_refl _) _
  go_wp2_with fail
  refine (markCells_any M v n k xs _ (by simp; omega) h0 hk (own_below HO.out hb0)).mono ?_
  rintro e w1 ⟨rfl, hb1, he1, ho1⟩
  have H1 := Lib.hid he1
  have HO1 := Lib.hid ho1
  have B1 : Hid (Below M w w1) := Lib.hid ((hb0.mono hM).trans hb1)
  clear he1 ho1 hb1
  go_wp2
  go_ret
  exact ⟨rfl, B1.out, H1.out.after_below hb0, HO1.out⟩

set_option maxRecDepth 100000 in
set_option maxHeartbeats 1000000 in
theorem heldMemory_any (K : ByteArray) (a : Option Addr) (n cap k : Nat) (w : World) (h0 : 0 < k) (hk : k + 3 * n ≤ 100000000) (hs : SrcC w a n (marksC k n)) :
    Calls Try.prog 35 #[.agg #[.string K, .slice a n cap], .int .i64 k] w fun e w' => e = .returned (.int .i64 (k + 3 * n)) ∧ Below w.heap.size w w' := by
  have HS := Lib.hid hs
  clear hs
  go_enter Try.func35, Try.ntmps35
  have hb0 : Below w.heap.size w (w.alloc (.cells #[.string K, .slice a n cap] 26)) := (Below.refl _ _).alloc (Nat.le_refl _) _
  go_wp2_with fail
  refine (heldCells_any a n cap k _ h0 hk (HS.out.later hb0)).mono ?_
  rintro e w1 ⟨rfl, hb1⟩
  have B1 : Hid (Below w.heap.size w w1) := Lib.hid (hb0.trans (hb1.mono hb0.size))
  have hn : ¬ ((k : Int) + 3 * (n : Int) < 0) := by omega
  clear hb1
  go_wp2
  go_ret
  exact ⟨rfl, B1.out⟩
end Go.Proofs.Ytlemlgadjapamaa
