/- What the laws' argument reads as: a slice of sealings. -/
import Derived.Test.YtgpjklnlchbbbaaSealLaw
import Derived.Deep.Strs
import Derived.ProofKit
namespace Go.Proofs.Ytgpjklnlchbbbaa
open Go.Deep Go.ChangeShapes Go.WideShapes

theorem cellsSeal : Try.prog.cellsOf 47 = 3 := by kernel_rfl
theorem cellsText : Try.prog.cellsOf 9 = 1 := by kernel_rfl

/-- One sealing's three cells. -/
theorem seal_of_trod {H : Type} {enc : TypeId × Value → H} {W : World} {base fuel : Nat} {sp : Nat → Bool} {held : Bool} {cs : List Value} {x : DataW H × List MemPlace}
    (h : DataW.trod enc Try.prog W base sp held fuel 47 cs = some x) : ∃ s : S3, cs = [.string s.k, .string s.n, .string s.t] ∧ s.k.size ≤ maxLen ∧ s.n.size ≤ maxLen ∧ s.t.size ≤ maxLen := by
  obtain ⟨y0, y1, y2, n, _, hl, h0, h1, h2⟩ := trod_struct3 Try.underlying47 h
  rw [cellsSeal] at hl
  match cs, hl with
  | [a, b, c], _ =>
    simp only [cellsText, List.drop_zero, List.drop_succ_cons, List.take_succ_cons, List.take_zero] at h0 h1 h2
    obtain ⟨s0, e0, _, z0⟩ := DataW.trod_string Try.underlying9 h0
    obtain ⟨s1, e1, _, z1⟩ := DataW.trod_string Try.underlying9 h1
    obtain ⟨s2, e2, _, z2⟩ := DataW.trod_string Try.underlying9 h2
    exact ⟨⟨s0, s1, s2⟩, by simp at e0 e1 e2; rw [e0, e1, e2], z0, z1, z2⟩

theorem add_at (a : Addr) (k : Nat) (h : a.spot = none) : a.add k = ⟨a.block, a.off + k, none⟩ := by
  obtain ⟨b, o, s⟩ := a
  simp only at h
  subst h
  unfold Addr.add
  split <;> simp_all

/-- A slice of sealings that came in. -/
theorem seals_of_trod {H : Type} {enc : TypeId × Value → H} {W : World} {fuel : Nat} {a : Option Addr} {len cap : Nat} {x : DataW H × List MemPlace}
    (h : DataW.trod enc Try.prog W 0 (fun _ => true) true fuel 32 [.slice a len cap] = some x) : ∃ L, SrcS W a len L ∧ Fit3 L len maxLen ∧ len ≤ maxLen := by
  rcases open_slice Try.underlying32 h with ⟨hcs, _⟩ | ⟨ad, l, c, m, n, D, Pl, hcs, _, hl, hm, hmm, _, hx⟩
  · simp at hcs
    obtain ⟨rfl, rfl, rfl⟩ := hcs
    exact ⟨[], ⟨rfl, fun j hj => by omega⟩, fun j hj => by omega, by omega⟩
  · simp at hcs hmm
    obtain ⟨rfl, rfl, rfl⟩ := hcs
    subst hmm
    rw [cellsSeal] at hx
    have each : ∀ i, i < len → ∃ s : S3, W.cells? 0 (ad.add (i * 3)) 3 = some [.string s.k, .string s.n, .string s.t] ∧ s.k.size ≤ maxLen ∧ s.n.size ≤ maxLen ∧ s.t.size ≤ maxLen := fun i hi => by
      obtain ⟨cs, h1, h2⟩ := hx i (by omega)
      obtain ⟨s, rfl, z⟩ := seal_of_trod h2
      exact ⟨s, h1, z⟩
    obtain ⟨S, hS⟩ := choose_lt each
    have hget : ∀ i, i < len → ((List.range len).map S).getD i default = S i := fun i hi => by simp [List.getD, hi]
    refine ⟨(List.range len).map S, ⟨by simp, fun j hj => ?_⟩, fun j hj => by rw [hget j hj]; exact (hS j hj).2, by omega⟩
    rw [hget j hj]
    have h0 := (World.cells?_some (hS 0 (by omega)).1).2.2 0 (by omega)
    have hj3 := (World.cells?_some (hS j hj).1).2.2
    have e0 := hj3 0 (by omega)
    have e1 := hj3 1 (by omega)
    have e2 := hj3 2 (by omega)
    simp at h0
    have hspot : ad.spot = none := by
      have := World.cell?_spot h0
      simpa [Addr.add] using this
    simp only [add_add] at e0 e1 e2
    rw [add_at ad _ hspot] at e0 e1 e2
    have hb : ad.block < W.heap.size := by
      rcases Nat.lt_or_ge ad.block W.heap.size with hlt | hge
      · exact hlt
      · simp [World.cell?, Array.getElem?_eq_none hge] at e0
    refine ⟨ad.block, ad.off, by obtain ⟨b, o, s⟩ := ad; simp only at hspot; rw [hspot], hb, ?_, ?_, ?_⟩
    · simpa using e0
    · simpa [Nat.add_assoc] using e1
    · simpa [Nat.add_assoc] using e2
end Go.Proofs.Ytgpjklnlchbbbaa
