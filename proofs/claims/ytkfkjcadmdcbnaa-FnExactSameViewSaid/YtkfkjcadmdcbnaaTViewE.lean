/- The type View: how it lies in its cells. -/
import Derived.Test.YtkfkjcadmdcbnaaTree
import Derived.Test.YtkfkjcadmdcbnaaTItemE
namespace Go.Proofs.Ytkfkjcadmdcbnaa
open Go.RowKit Go.Proofs.Ytkfkjcadmdcbnaa.Parts Go.Proofs.Ytkfkjcadmdcbnaa.Hexa

structure ViewR where
  items : List ItemR
instance : Inhabited ViewR := ⟨⟨[]⟩⟩
def cView : EncC ViewR := ⟨26, 1, fun x => [celRow cItem x.items], fun _ => rfl⟩
theorem infoViewD : (Try.prog.info? 26).map (fun i => (i.zero, i.size, i.bytes)) = some (some (.agg #[.slice none 0 0]), 1, 24) := by kernel_rfl
theorem cView_form {w : World} {x : ViewR} {vs : List Value} (h : RdL w (cView.cels x) vs) : ∃ (a0 : Option Addr) (c0 : Nat), vs = [.slice a0 x.items.length c0] ∧ (celRow cItem x.items).Rd w (.slice a0 x.items.length c0) := by
  obtain ⟨v0, r0, e0, h0, hend⟩ := h
  obtain ⟨a0, n0, c0, f0, g0⟩ := row_form (E := cItem) (L := x.items) h0
  have hend' : r0 = [] := hend
  subst g0
  rw [hend'] at e0
  rw [f0] at e0
  rw [f0] at h0
  exact ⟨a0, c0, e0, h0⟩
theorem cView_rd {w : World} {x : ViewR} {a0 : Option Addr} {c0 : Nat} (h0 : (celRow cItem x.items).Rd w (.slice a0 x.items.length c0)) : RdL w (cView.cels x) [.slice a0 x.items.length c0] :=
  ⟨_, _, rfl, h0, rfl⟩
theorem cView_un {w : World} {x : ViewR} {a0 : Option Addr} {c0 : Nat} (h : RdL w (cView.cels x) [.slice a0 x.items.length c0]) : (celRow cItem x.items).Rd w (.slice a0 x.items.length c0) := by
  obtain ⟨h0, h⟩ := rd_cons h
  exact h0
theorem cView_at {w : World} {L : List ViewR} {a : Option Addr} {n c : Nat} (h : (celRow cView L).Rd w (.slice a n c)) (j : Nat) (hj : j < n) :
    ∃ (g off : Nat) (a0 : Option Addr) (c0 : Nat), a = some ⟨g, off, none⟩ ∧ g < w.heap.size ∧ w.cell? ⟨g, off + j * 1, none⟩ = some (.slice a0 (L.getD j default).items.length c0) ∧ (celRow cItem (L.getD j default).items).Rd w (.slice a0 (L.getD j default).items.length c0) := by
  obtain ⟨g, off, vs, ha, hg, hr, hc⟩ := row_at h (by decide) j hj
  obtain ⟨a0, c0, hv, h0⟩ := cView_form hr
  subst hv
  exact ⟨g, off, a0, c0, ha, hg, hc 0 _ rfl, h0⟩
theorem cView_sz (x : ViewR) : szL (cView.cels x) = ((celRow cItem x.items).sz + 0) := rfl
theorem cView_cnt (x : ViewR) : cntL (cView.cels x) = ((celRow cItem x.items).cnt + 0) := rfl

theorem view_len {x : ViewR} {N : Nat} (h : szL (cView.cels x) ≤ N) : x.items.length ≤ N := by
  rw [cView_sz] at h
  have := sz_row' cItem x.items
  omega
end Go.Proofs.Ytkfkjcadmdcbnaa
