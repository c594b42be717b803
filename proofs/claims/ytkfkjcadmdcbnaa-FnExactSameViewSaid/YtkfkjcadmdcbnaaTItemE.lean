/- The type Item: how it lies in its cells. -/
import Derived.Test.YtkfkjcadmdcbnaaTree
namespace Go.Proofs.Ytkfkjcadmdcbnaa
open Go.RowKit Go.Proofs.Ytkfkjcadmdcbnaa.Parts Go.Proofs.Ytkfkjcadmdcbnaa.Hexa

structure ItemR where
  path : ByteArray
  dir : Bool
  text : ByteArray
instance : Inhabited ItemR := ⟨⟨ByteArray.empty, false, ByteArray.empty⟩⟩
def cItem : EncC ItemR := ⟨28, 3, fun x => [.val (.string x.path), .val (.bool x.dir), .val (.string x.text)], fun _ => rfl⟩
theorem infoItemD : (Try.prog.info? 28).map (fun i => (i.zero, i.size, i.bytes)) = some (some (.agg #[.string ⟨#[]⟩, .bool false, .string ⟨#[]⟩]), 3, 40) := by kernel_rfl
theorem cItem_form {w : World} {x : ItemR} {vs : List Value} (h : RdL w (cItem.cels x) vs) : vs = [.string x.path, .bool x.dir, .string x.text] := by
  obtain ⟨v0, r0, e0, h0, v1, r1, e1, h1, v2, r2, e2, h2, hend⟩ := h
  have f0 : v0 = .string x.path := h0
  have f1 : v1 = .bool x.dir := h1
  have f2 : v2 = .string x.text := h2
  have hend' : r2 = [] := hend
  rw [hend'] at e2
  rw [e2] at e1
  rw [e1] at e0
  rw [f0, f1, f2] at e0
  exact e0
theorem cItem_rd {w : World} {x : ItemR}  : RdL w (cItem.cels x) [.string x.path, .bool x.dir, .string x.text] :=
  ⟨_, _, rfl, rfl, ⟨_, _, rfl, rfl, ⟨_, _, rfl, rfl, rfl⟩⟩⟩
theorem cItem_at {w : World} {L : List ItemR} {a : Option Addr} {n c : Nat} (h : (celRow cItem L).Rd w (.slice a n c)) (j : Nat) (hj : j < n) :
    ∃ (g off : Nat), a = some ⟨g, off, none⟩ ∧ g < w.heap.size ∧ w.cell? ⟨g, off + j * 3, none⟩ = some (.string (L.getD j default).path) ∧ w.cell? ⟨g, off + j * 3 + 1, none⟩ = some (.bool (L.getD j default).dir) ∧ w.cell? ⟨g, off + j * 3 + 2, none⟩ = some (.string (L.getD j default).text) := by
  obtain ⟨g, off, vs, ha, hg, hr, hc⟩ := row_at h (by decide) j hj
  have hv := cItem_form hr
  subst hv
  exact ⟨g, off, ha, hg, hc 0 _ rfl, hc 1 _ rfl, hc 2 _ rfl⟩
theorem cItem_sz (x : ItemR) : szL (cItem.cels x) = (x.path.size + (0 + (x.text.size + 0))) := rfl
theorem cItem_cnt (x : ItemR) : cntL (cItem.cels x) = (1 + (1 + (1 + 0))) := rfl

end Go.Proofs.Ytkfkjcadmdcbnaa
