/- Merged texts: RowCells, InoRow. -/
import Derived.Test.YtmkchilhnmkhkaaP15ND
import Derived.Deep.Strs
import Derived.ProofKit
import Derived.Deep.Fields
import Derived.OpenShut
namespace Go.Proofs.Ytmkchilhnmkhkaa
open Go.Deep Go.ChangeShapes Go.WideShapes Go.RowKit

theorem add_at1 (a : Addr) (k : Nat) (h : a.spot = none) : a.add k = ⟨a.block, a.off + k, none⟩ := by
  obtain ⟨b, o, s⟩ := a
  simp only at h
  subst h
  unfold Addr.add
  split <;> simp_all
/-- A row of elements that came in, for whatever element. -/
theorem row_of_cells {α : Type} [Inhabited α] (E : Enc α) {W : World} {ad : Addr} {len : Nat} (h0 : 0 < E.k) (each : ∀ i, i < len → ∃ s : α, W.cells? 0 (ad.add (i * E.k)) E.k = some (E.cells s)) :
    ∃ L : List α, SrcE E W (some ad) len L ∧ (∀ i, i < len → W.cells? 0 (ad.add (i * E.k)) E.k = some (E.cells (L.getD i default))) := by
  obtain ⟨S, hS⟩ := choose_lt each
  have hget : ∀ i, i < len → ((List.range len).map S).getD i default = S i := fun i hi => by simp [List.getD, hi]
  refine ⟨(List.range len).map S, ⟨by simp, fun j hj => ?_⟩, fun i hi => by rw [hget i hi]; exact hS i hi⟩
  rw [hget j hj]
  have hj3 := (World.cells?_some (hS j hj)).2.2
  have e0 := hj3 0 h0
  have hlen := E.len (S j)
  rw [show (E.cells (S j))[0]? = some ((E.cells (S j))[0]'(by omega)) from List.getElem?_eq_getElem _] at e0
  have h00 := (World.cells?_some (hS 0 (by omega))).2.2 0 h0
  have hlen0 := E.len (S 0)
  rw [show (E.cells (S 0))[0]? = some ((E.cells (S 0))[0]'(by omega)) from List.getElem?_eq_getElem _] at h00
  have hspot : ad.spot = none := by
    have := World.cell?_spot h00
    simpa [Addr.add] using this
  simp only [add_add] at e0 hj3
  rw [add_at1 ad _ hspot] at e0
  have hb : ad.block < W.heap.size := by
    rcases Nat.lt_or_ge ad.block W.heap.size with hlt | hge
    · exact hlt
    · simp [World.cell?, Array.getElem?_eq_none hge] at e0
  refine ⟨ad.block, ad.off, by obtain ⟨b, o, s⟩ := ad; simp only at hspot; rw [hspot], hb, fun o v hv => ?_⟩
  have ho : o < E.k := by
    rcases Nat.lt_or_ge o E.k with h | h
    · exact h
    · rw [List.getElem?_eq_none (by omega)] at hv; cases hv
  have e1 := hj3 o ho
  rw [add_at1 ad _ hspot, hv] at e1
  rw [Nat.add_assoc]
  exact e1
end Go.Proofs.Ytmkchilhnmkhkaa
namespace Go.Proofs.Ytmkchilhnmkhkaa
open Go.Deep Go.ChangeShapes Go.WideShapes Go.RowKit

set_option maxRecDepth 100000 in
theorem cellsRecT' : Try.prog.cellsOf 115 = 3 := by kernel_rfl
set_option maxRecDepth 100000 in
theorem cellsEntryT' : Try.prog.cellsOf 42 = 2 := by kernel_rfl
set_option maxRecDepth 100000 in
theorem cellsInodeT : Try.prog.cellsOf 51 = 6 := by kernel_rfl
set_option maxRecDepth 100000 in
theorem cellsRecsT : Try.prog.cellsOf 48 = 1 := by kernel_rfl
set_option maxRecDepth 100000 in
theorem cellsEntriesT : Try.prog.cellsOf 49 = 1 := by kernel_rfl
set_option maxRecDepth 100000 in
theorem cellsTextT' : Try.prog.cellsOf 9 = 1 := by kernel_rfl
set_option maxRecDepth 100000 in
theorem cellsIntT' : Try.prog.cellsOf 3 = 1 := by kernel_rfl

set_option maxRecDepth 100000 in
theorem rec_cells {H : Type} {enc : TypeId × Value → H} {W : World} {base fuel : Nat} {sp : Nat → Bool} {held : Bool} {cs : List Value} {x : DataW H × List MemPlace}
    (h : DataW.trod enc Try.prog W base sp held fuel 115 cs = some x) : ∃ s : RecR, cs = [.int .i64 s.f0, .int .i64 s.f1, .string s.f2] ∧ s.f2.size ≤ maxLen := by
  obtain ⟨y0, y1, y2, n, _, hl, h0, h1, h2⟩ := trod_struct3 Try.underlying115 h
  rw [cellsRecT'] at hl
  match cs, hl with
  | [a, b, c], _ =>
    simp only [cellsTextT', cellsIntT', List.drop_zero, List.drop_succ_cons, List.take_succ_cons, List.take_zero] at h0 h1 h2
    obtain ⟨s0, e0, _, _⟩ := DataW.trod_int Try.underlying3 h0
    obtain ⟨s1, e1, _, _⟩ := DataW.trod_int Try.underlying3 h1
    obtain ⟨s2, e2, _, z2⟩ := DataW.trod_string Try.underlying9 h2
    exact ⟨⟨s0, s1, s2⟩, by simp at e0 e1 e2; rw [e0, e1, e2], z2⟩
set_option maxRecDepth 100000 in
theorem entry_cells {H : Type} {enc : TypeId × Value → H} {W : World} {base fuel : Nat} {sp : Nat → Bool} {held : Bool} {cs : List Value} {x : DataW H × List MemPlace}
    (h : DataW.trod enc Try.prog W base sp held fuel 42 cs = some x) : ∃ s : EntryR, cs = [.int .i64 s.f0, .string s.f1] ∧ s.f1.size ≤ maxLen := by
  obtain ⟨y0, y1, n, _, hl, h0, h1⟩ := trod_struct2 Try.underlying42 h
  rw [cellsEntryT'] at hl
  match cs, hl with
  | [a, b], _ =>
    simp only [cellsTextT', cellsIntT', List.drop_zero, List.drop_succ_cons, List.take_succ_cons, List.take_zero] at h0 h1
    obtain ⟨s0, e0, _, _⟩ := DataW.trod_int Try.underlying3 h0
    obtain ⟨s1, e1, _, z1⟩ := DataW.trod_string Try.underlying9 h1
    exact ⟨⟨s0, s1⟩, by simp at e0 e1; rw [e0, e1], z1⟩
set_option maxRecDepth 100000 in
theorem recs_of_trod {H : Type} {enc : TypeId × Value → H} {W : World} {fuel : Nat} {a : Option Addr} {len cap : Nat} {x : DataW H × List MemPlace}
    (h : DataW.trod enc Try.prog W 0 (fun _ => true) true fuel 48 [.slice a len cap] = some x) : ∃ L, SrcRec W a len L ∧ FitRec L len maxLen ∧ len ≤ 9223372036854775807 := by
  rcases open_slice Try.underlying48 h with ⟨hcs, _⟩ | ⟨ad, l, c, m, n, D, Pl, hcs, _, hl, hm, hmm, _, hx⟩
  · simp at hcs
    obtain ⟨rfl, rfl, rfl⟩ := hcs
    exact ⟨[], SrcE.nil _ _ _, fun j hj => by omega, by omega⟩
  · simp at hcs hmm
    obtain ⟨rfl, rfl, rfl⟩ := hcs
    subst hmm
    rw [cellsRecT'] at hx
    have each : ∀ i, i < len → ∃ s : RecR, W.cells? 0 (ad.add (i * encRec.k)) encRec.k = some (encRec.cells s) ∧ s.f2.size ≤ maxLen := fun i hi => by
      obtain ⟨cs, h1, h2⟩ := hx i (by omega)
      obtain ⟨s, rfl, z⟩ := rec_cells h2
      exact ⟨s, h1, z⟩
    obtain ⟨L, hL, hc⟩ := row_of_cells encRec (by decide) (fun i hi => by obtain ⟨s, h1, _⟩ := each i hi; exact ⟨s, h1⟩)
    refine ⟨L, hL, fun j hj => ?_, Nat.le_trans hl (Nat.le_trans hm (by decide))⟩
    obtain ⟨s, h1, z⟩ := each j hj
    have h2 := hc j hj
    rw [h1] at h2
    have h3 := Option.some.inj h2
    simp only [encRec_cells, List.cons.injEq, Value.string.injEq] at h3
    rw [← h3.2.2.1]
    exact z
set_option maxRecDepth 100000 in
theorem entries_of_trod {H : Type} {enc : TypeId × Value → H} {W : World} {fuel : Nat} {a : Option Addr} {len cap : Nat} {x : DataW H × List MemPlace}
    (h : DataW.trod enc Try.prog W 0 (fun _ => true) true fuel 49 [.slice a len cap] = some x) : ∃ L, SrcEntry W a len L ∧ FitEntry L len maxLen ∧ len ≤ 9223372036854775807 := by
  rcases open_slice Try.underlying49 h with ⟨hcs, _⟩ | ⟨ad, l, c, m, n, D, Pl, hcs, _, hl, hm, hmm, _, hx⟩
  · simp at hcs
    obtain ⟨rfl, rfl, rfl⟩ := hcs
    exact ⟨[], SrcE.nil _ _ _, fun j hj => by omega, by omega⟩
  · simp at hcs hmm
    obtain ⟨rfl, rfl, rfl⟩ := hcs
    subst hmm
    rw [cellsEntryT'] at hx
    have each : ∀ i, i < len → ∃ s : EntryR, W.cells? 0 (ad.add (i * encEntry.k)) encEntry.k = some (encEntry.cells s) ∧ s.f1.size ≤ maxLen := fun i hi => by
      obtain ⟨cs, h1, h2⟩ := hx i (by omega)
      obtain ⟨s, rfl, z⟩ := entry_cells h2
      exact ⟨s, h1, z⟩
    obtain ⟨L, hL, hc⟩ := row_of_cells encEntry (by decide) (fun i hi => by obtain ⟨s, h1, _⟩ := each i hi; exact ⟨s, h1⟩)
    refine ⟨L, hL, fun j hj => ?_, Nat.le_trans hl (Nat.le_trans hm (by decide))⟩
    obtain ⟨s, h1, z⟩ := each j hj
    have h2 := hc j hj
    rw [h1] at h2
    have h3 := Option.some.inj h2
    simp only [encEntry_cells, List.cons.injEq, Value.string.injEq] at h3
    rw [← h3.2.1]
    exact z
set_option maxRecDepth 100000 in
/-- An inode that came in. -/
theorem ino_of_trod {H : Type} {enc : TypeId × Value → H} {W : World} {r : Reach} {b0 : Nat} {v : Value} {d : DataW H} {p : List MemPlace}
    (hv : Value.okWide Try.prog W r b0 51 v) (h : DataW.Trod enc Try.prog W 0 (fun _ => true) true 51 v d p) :
    ∃ (kd sz gn : Int) (key : ByteArray) (aR : Option Addr) (nR cR : Nat) (aE : Option Addr) (nE cE : Nat) (R : List RecR) (E : List EntryR), v = .agg #[.int .i64 kd, .int .i64 sz, .int .i64 gn, .string key, .slice aR nR cR, .slice aE nE cE]
      ∧ (-9223372036854775808 ≤ sz ∧ sz ≤ 9223372036854775807) ∧ key.size ≤ maxLen ∧ SrcRec W aR nR R ∧ FitRec R nR maxLen ∧ nR ≤ 9223372036854775807 ∧ SrcEntry W aE nE E ∧ FitEntry E nE maxLen ∧ nE ≤ 9223372036854775807 := by
  obtain ⟨cs, rfl, hsz⟩ := okWide_struct Try.underlying51 hv
  obtain ⟨l⟩ := cs
  obtain ⟨fuel, hf⟩ := h
  obtain ⟨xs, n, _, _, hl, hlen, hg⟩ := DataW.trod_struct Try.underlying51 hf
  match l, hsz.trans cellsInodeT with
  | [c0, c1, c2, c3, c4, c5], _ =>
    match xs, hlen with
    | [y0, y1, y2, y3, y4, y5], _ =>
      have g0 : DataW.trod enc Try.prog W 0 (fun _ => true) true n 3 [c0] = some y0 := by have h := hg 0 _ rfl; simpa [cellsIntT', Value.cells] using h
      have g1 : DataW.trod enc Try.prog W 0 (fun _ => true) true n 3 [c1] = some y1 := by have h := hg 1 _ rfl; simpa [cellsIntT', Value.cells] using h
      have g2 : DataW.trod enc Try.prog W 0 (fun _ => true) true n 3 [c2] = some y2 := by have h := hg 2 _ rfl; simpa [cellsIntT', Value.cells] using h
      have g3 : DataW.trod enc Try.prog W 0 (fun _ => true) true n 9 [c3] = some y3 := by have h := hg 3 _ rfl; simpa [cellsTextT', Value.cells] using h
      have g4 : DataW.trod enc Try.prog W 0 (fun _ => true) true n 48 [c4] = some y4 := by have h := hg 4 _ rfl; simpa [cellsRecsT, Value.cells] using h
      have g5 : DataW.trod enc Try.prog W 0 (fun _ => true) true n 49 [c5] = some y5 := by have h := hg 5 _ rfl; simpa [cellsEntriesT, Value.cells] using h
      obtain ⟨s0, e0, _, _⟩ := DataW.trod_int Try.underlying3 g0
      obtain ⟨s1, e1, _, w1⟩ := DataW.trod_int Try.underlying3 g1
      obtain ⟨s2, e2, _, _⟩ := DataW.trod_int Try.underlying3 g2
      obtain ⟨s3, e3, _, z3⟩ := DataW.trod_string Try.underlying9 g3
      obtain ⟨a4, n4, k4, e4⟩ : ∃ a n k, c4 = .slice a n k := by
        rcases open_slice Try.underlying48 g4 with ⟨hcs, _⟩ | ⟨ad, l, c, m, n, D, Pl, hcs, _⟩
        · simp at hcs; exact ⟨_, _, _, hcs⟩
        · simp at hcs; exact ⟨_, _, _, hcs⟩
      obtain ⟨a5, n5, k5, e5⟩ : ∃ a n k, c5 = .slice a n k := by
        rcases open_slice Try.underlying49 g5 with ⟨hcs, _⟩ | ⟨ad, l, c, m, n, D, Pl, hcs, _⟩
        · simp at hcs; exact ⟨_, _, _, hcs⟩
        · simp at hcs; exact ⟨_, _, _, hcs⟩
      subst e4 e5
      obtain ⟨R, r1, r2, r3⟩ := recs_of_trod g4
      obtain ⟨E, t1, t2, t3⟩ := entries_of_trod g5
      simp at e0 e1 e2 e3
      exact ⟨s0, s1, s2, s3, a4, n4, k4, a5, n5, k5, R, E, by rw [e0, e1, e2, e3], bounds_i64 w1, z3, r1, r2, r3, t1, t2, t3⟩
end Go.Proofs.Ytmkchilhnmkhkaa
