/- Elements of the type Rec and slices of them. -/
import Derived.Test.YtcckhkihhhchbaaDoorElem
namespace Go.Proofs.YtcckhkihhhchbaaDoor
open Go.RowKit Go.Proofs.YtcckhkihhhchbaaDoor.Parts Go.Proofs.YtcckhkihhhchbaaDoor.Hexa

structure RecR where
  f0 : Int
  f1 : Int
  f2 : ByteArray
instance : Inhabited RecR := ⟨⟨0, 0, ByteArray.empty⟩⟩
def encRec : Enc RecR := ⟨3, fun s => [.int .i64 s.f0, .int .i64 s.f1, .string s.f2], fun _ => rfl⟩
theorem encRec_cells (s : RecR) : encRec.cells s = [.int .i64 s.f0, .int .i64 s.f1, .string s.f2] := rfl
theorem encRec_one (s : RecR) : ∀ v ∈ encRec.cells s, v.oneCell' = true := by
  intro v hv
  rw [encRec_cells] at hv
  simp only [List.mem_cons, List.not_mem_nil, or_false] at hv
  rcases hv with rfl | rfl | rfl <;> rfl
theorem cellsRec_one : ∀ L : List RecR, ∀ v ∈ cellsE encRec L, v.oneCell' = true
  | [], v, hv => by cases hv
  | x :: r, v, hv => by
    rw [cellsE, List.mem_append] at hv
    rcases hv with h | h
    · exact encRec_one x v h
    · exact cellsRec_one r v h
theorem cellsRec_length (L : List RecR) : (cellsE encRec L).length = L.length * 3 := cellsE_length encRec L
abbrev SrcRec (w : World) (a : Option Addr) (n : Nat) (L : List RecR) : Prop := SrcE encRec w a n L
theorem srcRec_at {w : World} {a : Option Addr} {n : Nat} {L : List RecR} (h : SrcRec w a n L) (j : Nat) (hj : j < n) : ∃ g off, a = some ⟨g, off, none⟩ ∧ g < w.heap.size ∧ w.cell? ⟨g, off + j * 3, none⟩ = some (.int .i64 (L.getD j default).f0) ∧ w.cell? ⟨g, off + j * 3 + 1, none⟩ = some (.int .i64 (L.getD j default).f1) ∧ w.cell? ⟨g, off + j * 3 + 2, none⟩ = some (.string (L.getD j default).f2) := by
  obtain ⟨g, off, e, hg, c⟩ := h.cell j hj
  exact ⟨g, off, e, hg, c 0 _ rfl, c 1 _ rfl, c 2 _ rfl⟩
/-- The same at a later world. -/
theorem srcRec_later {w w' : World} {a : Option Addr} {n : Nat} {L : List RecR} {B : Nat} (h : SrcRec w a n L) (hb : Below B w w') (hB : w.heap.size ≤ B) (j : Nat) (hj : j < n) : ∃ g off, a = some ⟨g, off, none⟩ ∧ g < w.heap.size ∧ w'.cell? ⟨g, off + j * 3, none⟩ = some (.int .i64 (L.getD j default).f0) ∧ w'.cell? ⟨g, off + j * 3 + 1, none⟩ = some (.int .i64 (L.getD j default).f1) ∧ w'.cell? ⟨g, off + j * 3 + 2, none⟩ = some (.string (L.getD j default).f2) := by
  obtain ⟨g, off, e, hg, _⟩ := h.cell j hj
  obtain ⟨g', off', e', _, c0, c1, c2⟩ := srcRec_at (h.below hb hB) j hj
  rw [e] at e'
  cases e'
  exact ⟨g, off, e, hg, c0, c1, c2⟩
theorem srcRec_of_own {w : World} {B e n cap : Nat} {a : Option Addr} {L : List RecR} (h : w.ownsRow B e 3 (.slice a n cap) n (cellsE encRec L)) : SrcRec w a n L := srcE_of_own (E := encRec) h (by decide)
theorem infoRec : (Tryd.prog.info? 36).map (fun i => (i.zero, i.size, i.bytes)) = some (some (.agg #[.int .i64 0, .int .i64 0, .string ByteArray.empty]), 3, 32) := by kernel_rfl
/-- What a slice of them holds: no text longer than b. -/
def FitRec (L : List RecR) (n b : Nat) : Prop := ∀ j, j < n → (L.getD j default).f2.size ≤ b
def FitTRec (L : List RecR) (b : Nat) : Prop := FitRec L L.length b
end Go.Proofs.YtcckhkihhhchbaaDoor
