/- Merged texts: Texts, RowCells, TextsRow. -/
import Derived.Test.YtmkchilhnmkhkabDoorPAM
import Derived.Deep.Strs
import Derived.ProofKit
namespace Go.Proofs.YtmkchilhnmkhkabDoor
open Go.RowKit Go.Proofs.YtmkchilhnmkhkabDoor.Parts Go.Proofs.YtmkchilhnmkhkabDoor.Hexa

/-- No text longer than b. -/
def FitT2 (L : List ByteArray) (n b : Nat) : Prop := ∀ j, j < n → (L.getD j default).size ≤ b
theorem infoT : (Tryd.prog.info? 9).map (fun i => (i.zero, i.size, i.bytes)) = some (some (.string ByteArray.empty), 1, 16) := by kernel_rfl


/-- What the copy returns. -/
def CopyT (n : Nat) (L : List ByteArray) (w : World) (e : Ending) (w' : World) : Prop :=
  e = .returned (.slice (some ⟨w.heap.size, 0, none⟩) n n) ∧ w'.ownsRow w.heap.size 9 1 (.slice (some ⟨w.heap.size, 0, none⟩) n n) n (scells L) ∧ Below w.heap.size w w'

end Go.Proofs.YtmkchilhnmkhkabDoor
namespace Go.Proofs.YtmkchilhnmkhkabDoor
open Go.Deep Go.ChangeShapes Go.WideShapes Go.RowKit

theorem add_at1 (a : Addr) (k : Nat) (h : a.spot = none) : a.add k = ⟨a.block, a.off + k, none⟩ := by
  obtain ⟨b, o, s⟩ := a
  simp only at h
  subst h
  unfold Addr.add
  split <;> simp_all
/-- A row of elements that came in, for whatever element. -/
theorem row_of_cells {α : Type} [Inhabited α] (E : Enc α) {W : World} {ad : Addr} {len : Nat} (h0 : 0 < E.k) (each : ∀ i, i < len → ∃ s : α, W.cells? 0 (ad.add (i * E.k)) E.k = some (E.cells s)) :
    ∃ L : List α, SrcE E W (some ad) len L ∧ (∀ i, i < len → W.cells? 0 (ad.add (i * E.k)) E.k = some (E.cells (L.getD i default))) := by
  obtain ⟨S, hS⟩ := choose_lt each
  have hget : ∀ i, i < len → ((List.range len).map S).getD i default = S i := fun i hi => by simp [List.getD, hi]
  refine ⟨(List.range len).map S, ⟨by simp, fun j hj => ?_⟩, fun i hi => by rw [hget i hi]; exact hS i hi⟩
  rw [hget j hj]
  have hj3 := (World.cells?_some (hS j hj)).2.2
  have e0 := hj3 0 h0
  have hlen := E.len (S j)
  rw [show (E.cells (S j))[0]? = some ((E.cells (S j))[0]'(by omega)) from List.getElem?_eq_getElem _] at e0
  have h00 := (World.cells?_some (hS 0 (by omega))).2.2 0 h0
  have hlen0 := E.len (S 0)
  rw [show (E.cells (S 0))[0]? = some ((E.cells (S 0))[0]'(by omega)) from List.getElem?_eq_getElem _] at h00
  have hspot : ad.spot = none := by
    have := World.cell?_spot h00
    simpa [Addr.add] using this
  simp only [add_add] at e0 hj3
  rw [add_at1 ad _ hspot] at e0
  have hb : ad.block < W.heap.size := by
    rcases Nat.lt_or_ge ad.block W.heap.size with hlt | hge
    · exact hlt
    · simp [World.cell?, Array.getElem?_eq_none hge] at e0
  refine ⟨ad.block, ad.off, by obtain ⟨b, o, s⟩ := ad; simp only at hspot; rw [hspot], hb, fun o v hv => ?_⟩
  have ho : o < E.k := by
    rcases Nat.lt_or_ge o E.k with h | h
    · exact h
    · rw [List.getElem?_eq_none (by omega)] at hv; cases hv
  have e1 := hj3 o ho
  rw [add_at1 ad _ hspot, hv] at e1
  rw [Nat.add_assoc]
  exact e1
end Go.Proofs.YtmkchilhnmkhkabDoor
namespace Go.Proofs.YtmkchilhnmkhkabDoor
open Go.Deep Go.ChangeShapes Go.WideShapes Go.RowKit

theorem cellsTextT9 : Tryd.prog.cellsOf 9 = 1 := by kernel_rfl
theorem texts_of_trod {H : Type} {enc : TypeId × Value → H} {W : World} {fuel : Nat} {a : Option Addr} {len cap : Nat} {x : DataW H × List MemPlace}
    (h : DataW.trod enc Tryd.prog W 0 (fun _ => true) true fuel 24 (Value.slice a len cap).cells.toList = some x) : ∃ L, SrcT W a len L ∧ FitT2 L len maxLen ∧ len ≤ 9223372036854775807 := by
  rcases open_slice Tryd.underlying24 h with ⟨hcs, _⟩ | ⟨ad, l, c, m, n, D, Pl, hcs, _, hl, hm, hmm, _, hx⟩
  · simp [Value.cells] at hcs
    obtain ⟨rfl, rfl, rfl⟩ := hcs
    exact ⟨[], SrcE.nil _ _ _, fun j hj => by omega, by omega⟩
  · simp [Value.cells] at hcs hmm
    obtain ⟨rfl, rfl, rfl⟩ := hcs
    subst hmm
    rw [cellsTextT9] at hx
    have each : ∀ i, i < len → ∃ s : ByteArray, W.cells? 0 (ad.add (i * encT.k)) encT.k = some (encT.cells s) ∧ s.size ≤ maxLen := fun i hi => by
      obtain ⟨cs, h1, h2⟩ := hx i (by omega)
      obtain ⟨s, e, _, z⟩ := DataW.trod_string Tryd.underlying9 h2
      subst e
      exact ⟨s, h1, z⟩
    obtain ⟨L, hL, hc⟩ := row_of_cells encT (by decide) (fun i hi => by obtain ⟨s, h1, _⟩ := each i hi; exact ⟨s, h1⟩)
    refine ⟨L, hL, fun j hj => ?_, Nat.le_trans hl (Nat.le_trans hm (by decide))⟩
    obtain ⟨s, h1, z⟩ := each j hj
    have h2 := hc j hj
    rw [h1] at h2
    have h3 := Option.some.inj h2
    simp only [encT_cells, List.cons.injEq, Value.string.injEq] at h3
    rw [← h3.1]
    exact z
end Go.Proofs.YtmkchilhnmkhkabDoor
