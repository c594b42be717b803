/- A memory's cells (line, text, flushed) and slices of them. -/
import Derived.Test.YtlemlgadjapamaaElem
namespace Go.Proofs.Ytlemlgadjapamaa
open Go.RowKit Go.Proofs.Ytlemlgadjapamaa.Parts Go.Proofs.Ytlemlgadjapamaa.Hexa

structure C3 where
  l : Int
  t : ByteArray
  f : Bool
instance : Inhabited C3 := ⟨⟨0, ByteArray.empty, false⟩⟩
def C3.val (s : C3) : Value := .agg #[.int .i64 s.l, .string s.t, .bool s.f]
def encC : Enc C3 := ⟨3, fun s => [.int .i64 s.l, .string s.t, .bool s.f], fun _ => rfl⟩
theorem encC_k : encC.k = 3 := rfl
theorem encC_cells (s : C3) : encC.cells s = [.int .i64 s.l, .string s.t, .bool s.f] := rfl
theorem encC_one (s : C3) : ∀ v ∈ encC.cells s, v.oneCell' = true := by
  intro v hv
  rw [encC_cells] at hv
  simp only [List.mem_cons, List.not_mem_nil, or_false] at hv
  rcases hv with rfl | rfl | rfl <;> rfl
theorem cellsC_one : ∀ L : List C3, ∀ v ∈ cellsE encC L, v.oneCell' = true
  | [], v, hv => by cases hv
  | x :: r, v, hv => by
    rw [cellsE, List.mem_append] at hv
    rcases hv with h | h
    · exact encC_one x v h
    · exact cellsC_one r v h
theorem cellsC_length (L : List C3) : (cellsE encC L).length = L.length * 3 := cellsE_length encC L
abbrev SrcC (w : World) (a : Option Addr) (n : Nat) (L : List C3) : Prop := SrcE encC w a n L
theorem SrcE.cells3 {w : World} {a : Option Addr} {n : Nat} {L : List C3} (h : SrcC w a n L) (j : Nat) (hj : j < n) : ∃ g off, a = some ⟨g, off, none⟩ ∧ g < w.heap.size ∧ w.cell? ⟨g, off + j * 3, none⟩ = some (.int .i64 (L.getD j default).l) ∧
    w.cell? ⟨g, off + j * 3 + 1, none⟩ = some (.string (L.getD j default).t) ∧ w.cell? ⟨g, off + j * 3 + 2, none⟩ = some (.bool (L.getD j default).f) := by
  obtain ⟨g, off, e, hg, c⟩ := h.cell j hj
  exact ⟨g, off, e, hg, c 0 _ rfl, c 1 _ rfl, c 2 _ rfl⟩
/-- The same at a later world. -/
theorem SrcE.cells3_at {w w' : World} {a : Option Addr} {n : Nat} {L : List C3} {B : Nat} (h : SrcC w a n L) (hb : Below B w w') (hB : w.heap.size ≤ B) (j : Nat) (hj : j < n) : ∃ g off, a = some ⟨g, off, none⟩ ∧ g < w.heap.size ∧ w'.cell? ⟨g, off + j * 3, none⟩ = some (.int .i64 (L.getD j default).l) ∧
    w'.cell? ⟨g, off + j * 3 + 1, none⟩ = some (.string (L.getD j default).t) ∧ w'.cell? ⟨g, off + j * 3 + 2, none⟩ = some (.bool (L.getD j default).f) := by
  obtain ⟨g, off, e, hg, _⟩ := h.cell j hj
  obtain ⟨g', off', e', _, c1, c2, c3⟩ := (h.below hb hB).cells3 j hj
  rw [e] at e'
  cases e'
  exact ⟨g, off, e, hg, c1, c2, c3⟩
theorem srcC_of_own {w : World} {B e n cap : Nat} {a : Option Addr} {L : List C3} (h : w.ownsRow B e 3 (.slice a n cap) n (cellsE encC L)) : SrcC w a n L := srcE_of_own (E := encC) h (by decide)

theorem infoCell : (Try.prog.info? 68).map (fun i => (i.zero, i.size, i.bytes)) = some (some (.agg #[.int .i64 0, .string ByteArray.empty, .bool false]), 3, 32) := by kernel_rfl
end Go.Proofs.Ytlemlgadjapamaa
