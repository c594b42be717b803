/- Slices of ints that came in or that the call owns. -/
import Derived.Test.YtmcelfiljnlmoaaIntsBase
import Derived.OwnWalk
namespace Go.Proofs.Ytmcelfiljnlmoaa
open Go.RowKit Go.Proofs.Ytmcelfiljnlmoaa.Parts Go.Proofs.Ytmcelfiljnlmoaa.Hexa

theorem infoInt : (Try.prog.info? 3).map (fun i => (i.zero, i.size, i.bytes)) = some (some (.int .i64 0), 1, 8) := by kernel_rfl

/-- A slice of ints that came in. -/
structure SrcI (w : World) (a : Option Addr) (n : Nat) (zs : List Int) : Prop where
  len : zs.length = n
  cell : ∀ j, j < n → ∃ g off, a = some ⟨g, off, none⟩ ∧ g < w.heap.size ∧ w.cell? ⟨g, off + j, none⟩ = some (.int .i64 (zs.getD j 0))
theorem SrcI.later {w w' : World} {a : Option Addr} {n : Nat} {zs : List Int} (h : SrcI w a n zs) (hb : Below w.heap.size w w') : SrcI w' a n zs :=
  ⟨h.len, fun j hj => by
    obtain ⟨g, off, e, hg, hc⟩ := h.cell j hj
    exact ⟨g, off, e, Nat.lt_of_lt_of_le hg hb.size, by rw [hb.cell hg]; exact hc⟩⟩

/-- A slice at the head of its block reads as these ints. -/
structure IntsAt (w : World) (g n : Nat) (zs : List Int) : Prop where
  len : zs.length = n
  lt : g < w.heap.size
  cell : ∀ j, j < n → w.cell? ⟨g, j, none⟩ = some (.int .i64 (zs.getD j 0))
theorem IntsAt.later {w w' : World} {g n : Nat} {zs : List Int} (h : IntsAt w g n zs) (hb : Below w.heap.size w w') : IntsAt w' g n zs :=
  ⟨h.len, Nat.lt_of_lt_of_le h.lt hb.size, fun j hj => by rw [hb.cell h.lt]; exact h.cell j hj⟩
theorem own_lt {w : World} {B e : Nat} {g n cap : Nat} {xs : List Value} (h : w.ownsRow B e 1 (.slice (some ⟨g, 0, none⟩) n cap) n xs) : g < w.heap.size := by
  rcases h.2 with ⟨h', _⟩ | ⟨g', cap', cur, h', _, hg, _⟩
  · simp at h'
  · simp at h'
    rw [h'.1]
    exact (Array.getElem?_eq_some_iff.1 hg).1
theorem intsAt_of_own {w : World} {B e : Nat} {g n cap : Nat} {zs : List Int} (h : w.ownsRow B e 1 (.slice (some ⟨g, 0, none⟩) n cap) n (icells zs)) : IntsAt w g n zs := by
  have hl : zs.length = n := by have := own_length h; rwa [icells_length] at this
  refine ⟨hl, own_lt h, fun j hj => ?_⟩
  rw [h.cellAt j (by omega)]
  have hj' : j < zs.length := by omega
  simp [icells, List.getD, hj']
theorem IntsAt.reads {w : World} {g n : Nat} {zs : List Int} (h : IntsAt w g n zs) : Reads w (some ⟨g, 0, none⟩) (icells zs) := fun j hj => by
  rw [icells_length] at hj
  refine ⟨g, rfl, ?_⟩
  rw [h.cell j (by have := h.len; omega)]
  simp [icells, List.getD, hj]
theorem own_kept {w w' : World} {B e : Nat} {v : Value} {n : Nat} {xs : List Value} (h : w.ownsRow B e 1 v n xs) (hk : ∀ g, v.ownBlock = some g → w'.heap[g]? = w.heap[g]?) : w'.ownsRow B e 1 v n xs := by
  refine ⟨h.1, h.2.imp id fun ⟨g, cap, cur, hv, hg, hh, r⟩ => ⟨g, cap, cur, hv, hg, ?_, r⟩⟩
  rw [hk g (by rw [hv]; rfl)]; exact hh
theorem own_block_lt {w : World} {B e : Nat} {v : Value} {n : Nat} {xs : List Value} (h : w.ownsRow B e 1 v n xs) : ∀ g, v.ownBlock = some g → g < w.heap.size := by
  intro k hk
  rcases h.2 with ⟨rfl, _⟩ | ⟨g, cap, cur, rfl, _, hg, _⟩
  · simp [Value.ownBlock] at hk
  · simp [Value.ownBlock] at hk
    rw [← hk]
    exact (Array.getElem?_eq_some_iff.1 hg).1
end Go.Proofs.Ytmcelfiljnlmoaa
