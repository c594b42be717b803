/- Elements of the type Entry and slices of them. -/
import Derived.Test.YtcckhkihhhchbaaDoorElem
namespace Go.Proofs.YtcckhkihhhchbaaDoor
open Go.RowKit Go.Proofs.YtcckhkihhhchbaaDoor.Parts Go.Proofs.YtcckhkihhhchbaaDoor.Hexa

structure EntryR where
  f0 : Int
  f1 : ByteArray
instance : Inhabited EntryR := ⟨⟨0, ByteArray.empty⟩⟩
def encEntry : Enc EntryR := ⟨2, fun s => [.int .i64 s.f0, .string s.f1], fun _ => rfl⟩
theorem encEntry_cells (s : EntryR) : encEntry.cells s = [.int .i64 s.f0, .string s.f1] := rfl
theorem encEntry_one (s : EntryR) : ∀ v ∈ encEntry.cells s, v.oneCell' = true := by
  intro v hv
  rw [encEntry_cells] at hv
  simp only [List.mem_cons, List.not_mem_nil, or_false] at hv
  rcases hv with rfl | rfl <;> rfl
theorem cellsEntry_one : ∀ L : List EntryR, ∀ v ∈ cellsE encEntry L, v.oneCell' = true
  | [], v, hv => by cases hv
  | x :: r, v, hv => by
    rw [cellsE, List.mem_append] at hv
    rcases hv with h | h
    · exact encEntry_one x v h
    · exact cellsEntry_one r v h
theorem cellsEntry_length (L : List EntryR) : (cellsE encEntry L).length = L.length * 2 := cellsE_length encEntry L
abbrev SrcEntry (w : World) (a : Option Addr) (n : Nat) (L : List EntryR) : Prop := SrcE encEntry w a n L
theorem srcEntry_at {w : World} {a : Option Addr} {n : Nat} {L : List EntryR} (h : SrcEntry w a n L) (j : Nat) (hj : j < n) : ∃ g off, a = some ⟨g, off, none⟩ ∧ g < w.heap.size ∧ w.cell? ⟨g, off + j * 2, none⟩ = some (.int .i64 (L.getD j default).f0) ∧ w.cell? ⟨g, off + j * 2 + 1, none⟩ = some (.string (L.getD j default).f1) := by
  obtain ⟨g, off, e, hg, c⟩ := h.cell j hj
  exact ⟨g, off, e, hg, c 0 _ rfl, c 1 _ rfl⟩
/-- The same at a later world. -/
theorem srcEntry_later {w w' : World} {a : Option Addr} {n : Nat} {L : List EntryR} {B : Nat} (h : SrcEntry w a n L) (hb : Below B w w') (hB : w.heap.size ≤ B) (j : Nat) (hj : j < n) : ∃ g off, a = some ⟨g, off, none⟩ ∧ g < w.heap.size ∧ w'.cell? ⟨g, off + j * 2, none⟩ = some (.int .i64 (L.getD j default).f0) ∧ w'.cell? ⟨g, off + j * 2 + 1, none⟩ = some (.string (L.getD j default).f1) := by
  obtain ⟨g, off, e, hg, _⟩ := h.cell j hj
  obtain ⟨g', off', e', _, c0, c1⟩ := srcEntry_at (h.below hb hB) j hj
  rw [e] at e'
  cases e'
  exact ⟨g, off, e, hg, c0, c1⟩
theorem srcEntry_of_own {w : World} {B e n cap : Nat} {a : Option Addr} {L : List EntryR} (h : w.ownsRow B e 2 (.slice a n cap) n (cellsE encEntry L)) : SrcEntry w a n L := srcE_of_own (E := encEntry) h (by decide)
theorem infoEntry : (Tryd.prog.info? 41).map (fun i => (i.zero, i.size, i.bytes)) = some (some (.agg #[.int .i64 0, .string ByteArray.empty]), 2, 24) := by kernel_rfl
/-- What a slice of them holds: no text longer than b. -/
def FitEntry (L : List EntryR) (n b : Nat) : Prop := ∀ j, j < n → (L.getD j default).f1.size ≤ b
def FitTEntry (L : List EntryR) (b : Nat) : Prop := FitEntry L L.length b
end Go.Proofs.YtcckhkihhhchbaaDoor
