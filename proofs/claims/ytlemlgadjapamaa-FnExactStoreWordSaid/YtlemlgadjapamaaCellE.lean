/- Memories: marks written over them leave every other block as it was. -/
import Derived.Test.YtlemlgadjapamaaCellD
import Derived.Test.YtlemlgadjapamaaMemNewLaw
namespace Go.Proofs.Ytlemlgadjapamaa
open Go.RowKit Go.Proofs.Ytlemlgadjapamaa.Parts Go.Proofs.Ytlemlgadjapamaa.Hexa

/-- No block is written but v's. -/
structure Apart (v : Value) (w w' : World) : Prop where
  size : w.heap.size ≤ w'.heap.size
  block : ∀ g, g < w.heap.size → v.ownBlock ≠ some g → w'.heap[g]? = w.heap[g]?
theorem Apart.two {v : Value} {w w' : World} (h : Apart v w w') {b : Nat} {x y : Value} {t : TypeId} (hT : Two w b x y t) (hne : v.ownBlock ≠ some b) : Two w' b x y t := (h.block b hT.lt hne).trans hT
theorem Apart.own {v : Value} {w w' : World} (h : Apart v w w') {v2 : Value} {M e k n : Nat} {xs : List Value} (ho : w.ownsRow M e k v2 n xs) (hne : ∀ g, v2.ownBlock = some g → v.ownBlock ≠ some g) : w'.ownsRow M e k v2 n xs := by
  refine ⟨ho.1, ho.2.imp id fun ⟨g, cap, cur, hv, hg, hh, r⟩ => ⟨g, cap, cur, hv, hg, ?_, r⟩⟩
  rw [h.block g (Array.getElem?_eq_some_iff.1 hh).1 (hne g (by rw [hv]; rfl))]; exact hh
theorem Apart.of_below {v : Value} {w w' : World} (h : Below w.heap.size w w') : Apart v w w' := ⟨h.size, fun g hg _ => h.block g hg⟩
theorem Apart.after_below {v : Value} {w w1 w2 : World} (hb : Below w.heap.size w w1) (h : Apart v w1 w2) : Apart v w w2 := ⟨Nat.le_trans hb.size h.size, fun g hg hn => (h.block g (Nat.lt_of_lt_of_le hg hb.size) hn).trans (hb.block g hg)⟩

def MarksA (M : Nat) (v : Value) (n k : Nat) (w : World) (e : Ending) (w' : World) : Prop :=
  e = .returned (.int .i64 (k + 3 * n)) ∧ Below M w w' ∧ Apart v w w' ∧ w'.ownsRow M 68 3 v n (cellsE encC (marksC k n))

set_option maxRecDepth 100000 in
set_option maxHeartbeats 1000000 in
theorem markCells_blk (M : Nat) (v : Value) (n k : Nat) (xs : List Value) (w : World) (hM : M ≤ w.heap.size) (h0 : 0 < k) (hk : k + 3 * n ≤ 100000000) (hown : w.ownsRow M 68 3 v n xs) :
    Calls Try.prog 69 #[v, .int .i64 k] w (MarksA M v n k w) := by
  rcases hown.2 with ⟨rfl, rfl⟩ | ⟨g, cap, cur, rfl, hB, hg, hnc, hcm, hcs, htk⟩
  · clear hown
    go_enter Try.func69, Try.ntmps69
    go_wp2
    go_loopw [1, 5] (fun kv iv wr => kv = .int .i64 k ∧ iv = .int .i64 0 ∧ wr = w) (fun _ _ _ => 0)
    case atStart => exact ⟨rfl, rfl, rfl⟩
    case round =>
      obtain ⟨rfl, rfl, rfl⟩ := hrel
      go_wp2
      go_ret
      exact ⟨ret_i64c (by omega), Below.refl _ _, Apart.of_below (Below.refl _ _), World.ownsRow_nil _ _ _ _⟩
  · have ho : w.ownsRow g 68 3 (.slice (some ⟨g, 0, none⟩) n cap) n xs := ⟨hown.1, .inr ⟨g, cap, cur, rfl, Nat.le_refl _, hg, hnc, hcm, hcs, htk⟩⟩
    refine (markCells_some g n cap k xs w h0 hk ho).mono ?_
    rintro e w' ⟨rfl, hb, hbut, hown'⟩
    exact ⟨rfl, hb.mono hB, ⟨hbut.size, fun g2 hg2 hn => hbut.block g2 (fun e => hn (by rw [e]; rfl)) hg2⟩, ownE_mono hown' hB⟩

set_option maxRecDepth 100000 in
set_option maxHeartbeats 1000000 in
theorem markMemory_blk (K : ByteArray) (M : Nat) (v : Value) (n k : Nat) (xs : List Value) (w : World) (hM : M ≤ w.heap.size) (h0 : 0 < k) (hk : k + 3 * n ≤ 100000000) (hown : w.ownsRow M 68 3 v n xs) :
    Calls Try.prog 34 #[.agg #[.string K, v], .int .i64 k] w (MarksA M v n k w) := by
  have HO := Lib.hid hown
  clear hown
  go_enter Try.func34, Try.ntmps34
  have hb0 : Below w.heap.size w (w.alloc (.cells #[.string K, v] 26)) := (Below.refl _ _).alloc (Nat.le_refl _) _
  go_wp2_with fail
  refine (markCells_blk M v n k xs _ (by simp; omega) h0 hk (own_below HO.out hb0)).mono ?_
  rintro e w1 ⟨rfl, hb1, he1, ho1⟩
  have H1 := Lib.hid he1
  have HO1 := Lib.hid ho1
  have B1 : Hid (Below M w w1) := Lib.hid ((hb0.mono hM).trans hb1)
  clear he1 ho1 hb1
  go_wp2
  go_ret
  exact ⟨rfl, B1.out, H1.out.after_below hb0, HO1.out⟩
end Go.Proofs.Ytlemlgadjapamaa
