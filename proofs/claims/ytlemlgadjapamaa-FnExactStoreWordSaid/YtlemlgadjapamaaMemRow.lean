/- What the laws' argument reads as: a memory. -/
import Derived.Test.YtlemlgadjapamaaCellA
import Derived.Deep.Strs
import Derived.ProofKit
namespace Go.Proofs.Ytlemlgadjapamaa
open Go.Deep Go.ChangeShapes Go.WideShapes

theorem cellsCellT : Try.prog.cellsOf 87 = 3 := by kernel_rfl
theorem cellsMemT : Try.prog.cellsOf 46 = 2 := by kernel_rfl
theorem cellsSliceT : Try.prog.cellsOf 44 = 1 := by kernel_rfl
theorem cellsTextT : Try.prog.cellsOf 9 = 1 := by kernel_rfl
theorem cellsIntT : Try.prog.cellsOf 3 = 1 := by kernel_rfl
theorem cellsBoolT : Try.prog.cellsOf 4 = 1 := by kernel_rfl

/-- One cell's three cells. -/
theorem cell_of_trod {H : Type} {enc : TypeId × Value → H} {W : World} {base fuel : Nat} {sp : Nat → Bool} {held : Bool} {cs : List Value} {x : DataW H × List MemPlace}
    (h : DataW.trod enc Try.prog W base sp held fuel 87 cs = some x) : ∃ s : C3, cs = [.int .i64 s.l, .string s.t, .bool s.f] ∧ s.t.size ≤ maxLen := by
  obtain ⟨y0, y1, y2, n, _, hl, h0, h1, h2⟩ := trod_struct3 Try.underlying87 h
  rw [cellsCellT] at hl
  match cs, hl with
  | [a, b, c], _ =>
    simp only [cellsTextT, cellsIntT, cellsBoolT, List.drop_zero, List.drop_succ_cons, List.take_succ_cons, List.take_zero] at h0 h1 h2
    obtain ⟨s0, e0, _, _⟩ := DataW.trod_int Try.underlying3 h0
    obtain ⟨s1, e1, _, z1⟩ := DataW.trod_string Try.underlying9 h1
    obtain ⟨s2, e2, _⟩ := DataW.trod_bool Try.underlying4 h2
    exact ⟨⟨s0, s1, s2⟩, by simp at e0 e1 e2; rw [e0, e1, e2], z1⟩

theorem add_atc (a : Addr) (k : Nat) (h : a.spot = none) : a.add k = ⟨a.block, a.off + k, none⟩ := by
  obtain ⟨b, o, s⟩ := a
  simp only at h
  subst h
  unfold Addr.add
  split <;> simp_all

/-- A slice of cells that came in. -/
theorem cells_of_trod {H : Type} {enc : TypeId × Value → H} {W : World} {fuel : Nat} {a : Option Addr} {len cap : Nat} {x : DataW H × List MemPlace}
    (h : DataW.trod enc Try.prog W 0 (fun _ => true) true fuel 44 [.slice a len cap] = some x) : ∃ L, SrcC W a len L ∧ FitC L len maxLen ∧ len ≤ maxLen := by
  rcases open_slice Try.underlying44 h with ⟨hcs, _⟩ | ⟨ad, l, c, m, n, D, Pl, hcs, _, hl, hm, hmm, _, hx⟩
  · simp at hcs
    obtain ⟨rfl, rfl, rfl⟩ := hcs
    exact ⟨[], SrcE.nil _ _ _, fun j hj => by omega, by omega⟩
  · simp at hcs hmm
    obtain ⟨rfl, rfl, rfl⟩ := hcs
    subst hmm
    rw [cellsCellT] at hx
    have each : ∀ i, i < len → ∃ s : C3, W.cells? 0 (ad.add (i * 3)) 3 = some [.int .i64 s.l, .string s.t, .bool s.f] ∧ s.t.size ≤ maxLen := fun i hi => by
      obtain ⟨cs, h1, h2⟩ := hx i (by omega)
      obtain ⟨s, rfl, z⟩ := cell_of_trod h2
      exact ⟨s, h1, z⟩
    obtain ⟨S, hS⟩ := choose_lt each
    have hget : ∀ i, i < len → ((List.range len).map S).getD i default = S i := fun i hi => by simp [List.getD, hi]
    refine ⟨(List.range len).map S, ⟨by simp, fun j hj => ?_⟩, fun j hj => by rw [hget j hj]; exact (hS j hj).2, by omega⟩
    rw [hget j hj]
    have h0 := (World.cells?_some (hS 0 (by omega)).1).2.2 0 (by omega)
    have hj3 := (World.cells?_some (hS j hj).1).2.2
    have e0 := hj3 0 (by omega)
    have e1 := hj3 1 (by omega)
    have e2 := hj3 2 (by omega)
    simp at h0
    have hspot : ad.spot = none := by
      have := World.cell?_spot h0
      simpa [Addr.add] using this
    simp only [add_add] at e0 e1 e2
    rw [add_atc ad _ hspot] at e0 e1 e2
    have hb : ad.block < W.heap.size := by
      rcases Nat.lt_or_ge ad.block W.heap.size with hlt | hge
      · exact hlt
      · simp [World.cell?, Array.getElem?_eq_none hge] at e0
    refine ⟨ad.block, ad.off, by obtain ⟨b, o, s⟩ := ad; simp only at hspot; rw [hspot], hb, fun o v hv => ?_⟩
    have hk : encC.k = 3 := rfl
    rw [hk]
    match o, hv with
    | 0, hv => cases hv; simpa using e0
    | 1, hv => cases hv; simpa [Nat.add_assoc] using e1
    | 2, hv => cases hv; simpa [Nat.add_assoc] using e2
    | o + 3, hv => simp [encC] at hv

/-- A memory that came in. -/
theorem mem_of_trod {H : Type} {enc : TypeId × Value → H} {W : World} {fuel : Nat} {cs : List Value} {x : DataW H × List MemPlace}
    (h : DataW.trod enc Try.prog W 0 (fun _ => true) true fuel 46 cs = some x) : ∃ K a n c L, cs = [.string K, .slice a n c] ∧ SrcC W a n L ∧ FitC L n maxLen ∧ n ≤ maxLen ∧ K.size ≤ maxLen := by
  obtain ⟨y0, y1, n, _, hl, h0, h1⟩ := trod_struct2 Try.underlying46 h
  rw [cellsMemT] at hl
  match cs, hl with
  | [u, v], _ =>
    simp only [cellsTextT, cellsSliceT, List.drop_zero, List.drop_succ_cons, List.take_succ_cons, List.take_zero] at h0 h1
    obtain ⟨s0, e0, _, z0⟩ := DataW.trod_string Try.underlying9 h0
    obtain ⟨a, len, cap, e1⟩ : ∃ a len cap, v = .slice a len cap := by
      rcases open_slice Try.underlying44 h1 with ⟨hcs, _⟩ | ⟨ad, l, c, m, n, D, Pl, hcs, _⟩
      · simp at hcs; exact ⟨_, _, _, hcs⟩
      · simp at hcs; exact ⟨_, _, _, hcs⟩
    subst e1
    obtain ⟨L, g1, g2, g3⟩ := cells_of_trod h1
    exact ⟨s0, a, len, cap, L, by simp at e0; rw [e0], g1, g2, g3, z0⟩
end Go.Proofs.Ytlemlgadjapamaa
