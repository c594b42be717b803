/- Merged texts: RowCells, RowTree, TIntR, TIntRS, TStrE, TStrR, TRecR, TRecRS, TEntryR, TEntryRS, TInoR, TInoRS, TPartR, TPartRT. -/
import Derived.Test.YtmkchilhnmkhkaaDoorP15DE
import Derived.Deep.Strs
import Derived.ProofKit
import Derived.Deep.Fields
import Derived.OpenShut
namespace Go.Proofs.YtmkchilhnmkhkaaDoor
open Go.Deep Go.ChangeShapes Go.WideShapes Go.RowKit

theorem add_at1 (a : Addr) (k : Nat) (h : a.spot = none) : a.add k = ⟨a.block, a.off + k, none⟩ := by
  obtain ⟨b, o, s⟩ := a
  simp only at h
  subst h
  unfold Addr.add
  split <;> simp_all
/-- A row of elements that came in, for whatever element. -/
theorem row_of_cells {α : Type} [Inhabited α] (E : Enc α) {W : World} {ad : Addr} {len : Nat} (h0 : 0 < E.k) (each : ∀ i, i < len → ∃ s : α, W.cells? 0 (ad.add (i * E.k)) E.k = some (E.cells s)) :
    ∃ L : List α, SrcE E W (some ad) len L ∧ (∀ i, i < len → W.cells? 0 (ad.add (i * E.k)) E.k = some (E.cells (L.getD i default))) := by
  obtain ⟨S, hS⟩ := choose_lt each
  have hget : ∀ i, i < len → ((List.range len).map S).getD i default = S i := fun i hi => by simp [List.getD, hi]
  refine ⟨(List.range len).map S, ⟨by simp, fun j hj => ?_⟩, fun i hi => by rw [hget i hi]; exact hS i hi⟩
  rw [hget j hj]
  have hj3 := (World.cells?_some (hS j hj)).2.2
  have e0 := hj3 0 h0
  have hlen := E.len (S j)
  rw [show (E.cells (S j))[0]? = some ((E.cells (S j))[0]'(by omega)) from List.getElem?_eq_getElem _] at e0
  have h00 := (World.cells?_some (hS 0 (by omega))).2.2 0 h0
  have hlen0 := E.len (S 0)
  rw [show (E.cells (S 0))[0]? = some ((E.cells (S 0))[0]'(by omega)) from List.getElem?_eq_getElem _] at h00
  have hspot : ad.spot = none := by
    have := World.cell?_spot h00
    simpa [Addr.add] using this
  simp only [add_add] at e0 hj3
  rw [add_at1 ad _ hspot] at e0
  have hb : ad.block < W.heap.size := by
    rcases Nat.lt_or_ge ad.block W.heap.size with hlt | hge
    · exact hlt
    · simp [World.cell?, Array.getElem?_eq_none hge] at e0
  refine ⟨ad.block, ad.off, by obtain ⟨b, o, s⟩ := ad; simp only at hspot; rw [hspot], hb, fun o v hv => ?_⟩
  have ho : o < E.k := by
    rcases Nat.lt_or_ge o E.k with h | h
    · exact h
    · rw [List.getElem?_eq_none (by omega)] at hv; cases hv
  have e1 := hj3 o ho
  rw [add_at1 ad _ hspot, hv] at e1
  rw [Nat.add_assoc]
  exact e1
end Go.Proofs.YtmkchilhnmkhkaaDoor
namespace Go.Proofs.YtmkchilhnmkhkaaDoor
open Go.Deep Go.ChangeShapes Go.WideShapes Go.RowKit

theorem RdL.append {w : World} : ∀ (A B : List Cel) (us vs : List Value), RdL w A us → RdL w B vs → RdL w (A ++ B) (us ++ vs)
  | [], _, _, _, h, h2 => by rw [show _ = [] from h]; exact h2
  | c :: A, B, _, vs, ⟨v, r, hv, h1, h2⟩, h => by
    rw [hv]
    exact ⟨v, r ++ vs, rfl, h1, RdL.append A B r vs h2 h⟩
theorem flat_rd {α : Type} {E : EncC α} {W : World} {S : Nat → α × List Value} : ∀ l : List Nat, (∀ i ∈ l, RdL W (E.cels (S i).1) (S i).2) → RdL W (celsE E (l.map fun i => (S i).1)) (l.flatMap fun i => (S i).2)
  | [], _ => rfl
  | i :: l, h => by
    rw [List.map_cons, List.flatMap_cons, celsE]
    exact RdL.append _ _ _ _ (h i List.mem_cons_self) (flat_rd l fun j hj => h j (List.mem_cons_of_mem _ hj))
theorem flat_ty {α : Type} {E : EncC α} {S : Nat → α × List Value} : ∀ l : List Nat, (∀ i ∈ l, TyL (E.cels (S i).1)) → TyL (celsE E (l.map fun i => (S i).1))
  | [], _ => trivial
  | i :: l, h => by
    rw [List.map_cons, celsE]
    exact (TyL_append _ _).2 ⟨h i List.mem_cons_self, flat_ty l fun j hj => h j (List.mem_cons_of_mem _ hj)⟩
theorem flat_len {f : Nat → List Value} {k : Nat} : ∀ n, (∀ i, i < n → (f i).length = k) → ((List.range n).flatMap f).length = n * k
  | 0, _ => by simp
  | n + 1, h => by
    rw [List.range_succ, List.flatMap_append, List.length_append, flat_len n (fun i hi => h i (by omega)), List.flatMap_singleton, h n (by omega), Nat.add_mul, Nat.one_mul]
theorem flat_at {f : Nat → List Value} {k : Nat} : ∀ (n j : Nat) (u : Value), (∀ i, i < n → (f i).length = k) → ((List.range n).flatMap f)[j]? = some u → ∃ i o, i < n ∧ o < k ∧ j = i * k + o ∧ (f i)[o]? = some u
  | 0, j, u, _, h => by simp at h
  | n + 1, j, u, hk, h => by
    have hl := flat_len n (fun i hi => hk i (Nat.lt_succ_of_lt hi))
    rw [List.range_succ, List.flatMap_append] at h
    by_cases hj : j < n * k
    · rw [List.getElem?_append_left (by rw [hl]; exact hj)] at h
      obtain ⟨i, o, h1, h2, h3, h4⟩ := flat_at n j u (fun i hi => hk i (by omega)) h
      exact ⟨i, o, by omega, h2, h3, h4⟩
    · rw [List.getElem?_append_right (by rw [hl]; omega), hl, List.flatMap_singleton] at h
      have ho : j - n * k < k := by
        have := (List.getElem?_eq_some_iff.1 h).1
        rwa [hk n (by omega)] at this
      exact ⟨n, j - n * k, by omega, ho, by omega, h⟩
theorem rowC_of_cells {α : Type} [Inhabited α] (E : EncC α) {W : World} {ad : Addr} {len cap : Nat} (h0 : 0 < E.k) (hl : len ≤ 9223372036854775807)
    (each : ∀ i, i < len → ∃ p : α × List Value, W.cells? 0 (ad.add (i * E.k)) E.k = some p.2 ∧ RdL W (E.cels p.1) p.2 ∧ TyL (E.cels p.1)) :
    ∃ L : List α, (celRow E L).Rd W (.slice (some ad) len cap) ∧ (celRow E L).Ty := by
  rcases Nat.eq_zero_or_pos len with rfl | hpos
  · exact ⟨[], ⟨by simp [celsE], some ad, cap, [], rfl, rfl, .inl rfl⟩, by show (0 ≤ _) ∧ True; exact ⟨by omega, trivial⟩⟩
  obtain ⟨S, hS⟩ := choose_lt each
  have hlen : ∀ i, i < len → (S i).2.length = E.k := fun i hi => by rw [RdL.length _ _ (hS i hi).2.1, E.len]
  have hat : ∀ i, i < len → ∀ o u, (S i).2[o]? = some u → W.cell? ((ad.add (i * E.k)).add o) = some u := fun i hi o u hu => by
    have hj3 := (World.cells?_some (hS i hi).1).2.2
    have ho : o < E.k := by
      have := (List.getElem?_eq_some_iff.1 hu).1
      rwa [hlen i hi] at this
    rw [hj3 o ho]
    exact hu
  have hspot : ad.spot = none := by
    have h9 := hlen 0 hpos
    have h00 := hat 0 hpos 0 ((S 0).2[0]'(by omega)) (List.getElem?_eq_getElem _)
    have := World.cell?_spot h00
    simpa [Addr.add] using this
  have hat2 : ∀ i, i < len → ∀ o u, (S i).2[o]? = some u → W.cell? ⟨ad.block, ad.off + (i * E.k + o), none⟩ = some u := fun i hi o u hu => by
    have h9 := hat i hi o u hu
    rw [add_add, add_at1 ad _ hspot] at h9
    exact h9
  have hb : ad.block < W.heap.size := by
    have h9 := hlen 0 hpos
    have h00 := hat2 0 hpos 0 ((S 0).2[0]'(by omega)) (List.getElem?_eq_getElem _)
    rcases Nat.lt_or_ge ad.block W.heap.size with hlt | hge
    · exact hlt
    · simp [World.cell?, Array.getElem?_eq_none hge] at h00
  have hml : ((List.range len).map fun i => (S i).1).length = len := by simp
  refine ⟨(List.range len).map fun i => (S i).1, ?_, ?_⟩
  · unfold celRow
    rw [hml]
    refine ⟨by rw [celsE_length, hml], some ad, cap, (List.range len).flatMap fun i => (S i).2, rfl, flat_rd _ (fun i hi => (hS i (List.mem_range.1 hi)).2.1), .inr ⟨ad.block, ad.off, ?_, hb, fun j u hu => ?_⟩⟩
    · obtain ⟨b, o, s⟩ := ad; simp only at hspot; rw [hspot]
    · obtain ⟨i, o, h1, h2, rfl, h4⟩ := flat_at len j u hlen hu
      exact hat2 i h1 o u h4
  · unfold celRow
    rw [hml]
    exact ⟨hl, flat_ty _ (fun i hi => (hS i (List.mem_range.1 hi)).2.2)⟩
end Go.Proofs.YtmkchilhnmkhkaaDoor
namespace Go.Proofs.YtmkchilhnmkhkaaDoor
open Go.Deep Go.ChangeShapes Go.WideShapes Go.RowKit

theorem cellsIntT : Tryd.prog.cellsOf 3 = 1 := by kernel_rfl
theorem Int_trod {H : Type} {enc : TypeId × Value → H} {W : World} {base fuel : Nat} {sp : Nat → Bool} {held : Bool} {cs : List Value} {x : DataW H × List MemPlace} (h : DataW.trod enc Tryd.prog W base sp held fuel 3 cs = some x) : ∃ s : Int, RdL W (cInt.cels s) cs ∧ TyL (cInt.cels s) := by
  obtain ⟨s, e, _, b⟩ := DataW.trod_int Tryd.underlying3 h
  subst e
  exact ⟨s, ⟨_, _, rfl, rfl, rfl⟩, bounds_i64 b, trivial⟩
end Go.Proofs.YtmkchilhnmkhkaaDoor
namespace Go.Proofs.YtmkchilhnmkhkaaDoor
open Go.Deep Go.ChangeShapes Go.WideShapes Go.RowKit

theorem cellsIntST : Tryd.prog.cellsOf 34 = 1 := by kernel_rfl
theorem IntS_trod {H : Type} {enc : TypeId × Value → H} {W : World} {fuel : Nat} {v : Value} {x : DataW H × List MemPlace} (h : DataW.trod enc Tryd.prog W 0 (fun _ => true) true fuel 34 [v] = some x) : ∃ L, (celRow cInt L).Rd W v ∧ (celRow cInt L).Ty := by
  rcases open_slice Tryd.underlying34 h with ⟨hcs, _⟩ | ⟨ad, l, c, m, n, D, Pl, hcs, _, hl, hm, hmm, _, hx⟩
  · simp only [List.cons.injEq, and_true] at hcs
    subst hcs
    exact ⟨[], ⟨rfl, none, 0, [], rfl, rfl, .inl rfl⟩, by show (0 ≤ _) ∧ True; exact ⟨by omega, trivial⟩⟩
  · simp only [List.cons.injEq, and_true] at hcs
    subst hcs
    simp at hmm
    rw [cellsIntT] at hx
    exact rowC_of_cells cInt (by decide) (Nat.le_trans hl (Nat.le_trans hm (by decide))) (fun i hi => by
      obtain ⟨cs, h1, h2⟩ := hx i (by omega)
      obtain ⟨s, h3, h4⟩ := Int_trod h2
      exact ⟨(s, cs), h1, h3, h4⟩)
end Go.Proofs.YtmkchilhnmkhkaaDoor
namespace Go.Proofs.YtmkchilhnmkhkaaDoor
open Go.RowKit Go.Proofs.YtmkchilhnmkhkaaDoor.Parts Go.Proofs.YtmkchilhnmkhkaaDoor.Hexa

def cStr : EncC ByteArray := ⟨9, 1, fun x => [.val (.string x)], fun _ => rfl⟩
end Go.Proofs.YtmkchilhnmkhkaaDoor
namespace Go.Proofs.YtmkchilhnmkhkaaDoor
open Go.Deep Go.ChangeShapes Go.WideShapes Go.RowKit

theorem cellsStrT : Tryd.prog.cellsOf 9 = 1 := by kernel_rfl
theorem Str_trod {H : Type} {enc : TypeId × Value → H} {W : World} {base fuel : Nat} {sp : Nat → Bool} {held : Bool} {cs : List Value} {x : DataW H × List MemPlace} (h : DataW.trod enc Tryd.prog W base sp held fuel 9 cs = some x) : ∃ s : ByteArray, RdL W (cStr.cels s) cs ∧ TyL (cStr.cels s) := by
  obtain ⟨s, e, _, b⟩ := DataW.trod_string Tryd.underlying9 h
  subst e
  exact ⟨s, ⟨_, _, rfl, rfl, rfl⟩, b, trivial⟩
end Go.Proofs.YtmkchilhnmkhkaaDoor
namespace Go.Proofs.YtmkchilhnmkhkaaDoor
open Go.Deep Go.ChangeShapes Go.WideShapes Go.RowKit

theorem cellsRecT : Tryd.prog.cellsOf 202 = 3 := by kernel_rfl
set_option maxRecDepth 100000 in
theorem Rec_trod {H : Type} {enc : TypeId × Value → H} {W : World} {fuel : Nat} {cs : List Value} {x : DataW H × List MemPlace} (h : DataW.trod enc Tryd.prog W 0 (fun _ => true) true fuel 202 cs = some x) : ∃ s : RecR, RdL W (cRec.cels s) cs ∧ TyL (cRec.cels s) := by
  obtain ⟨xs, n, _, _, hl, hlen, hg⟩ := DataW.trod_struct Tryd.underlying202 h
  have hl' : cs.length = 3 := hl.trans cellsRecT
  clear hl h
  match cs, hl' with
  | [c0, c1, c2], _ =>
    match xs, hlen with
    | [y0, y1, y2], _ =>
      have g0 : DataW.trod enc Tryd.prog W 0 (fun _ => true) true n 3 [c0] = some y0 := by have h := hg 0 _ rfl; simpa [cellsIntT, Value.cells] using h
      have g1 : DataW.trod enc Tryd.prog W 0 (fun _ => true) true n 3 [c1] = some y1 := by have h := hg 1 _ rfl; simpa [cellsIntT, Value.cells] using h
      have g2 : DataW.trod enc Tryd.prog W 0 (fun _ => true) true n 9 [c2] = some y2 := by have h := hg 2 _ rfl; simpa [cellsStrT, Value.cells] using h
      obtain ⟨s0, ⟨_, _, e0, r0, q0⟩, t0, _⟩ := Int_trod g0
      obtain ⟨s1, ⟨_, _, e1, r1, q1⟩, t1, _⟩ := Int_trod g1
      obtain ⟨s2, ⟨_, _, e2, r2, q2⟩, t2, _⟩ := Str_trod g2
      exact ⟨⟨s0, s1, s2⟩, ⟨_, _, rfl, by have h9 := List.head_eq_of_cons_eq e0; rw [h9]; exact r0, ⟨_, _, rfl, by have h9 := List.head_eq_of_cons_eq e1; rw [h9]; exact r1, ⟨_, _, rfl, by have h9 := List.head_eq_of_cons_eq e2; rw [h9]; exact r2, rfl⟩⟩⟩, t0, t1, t2, trivial⟩
end Go.Proofs.YtmkchilhnmkhkaaDoor
namespace Go.Proofs.YtmkchilhnmkhkaaDoor
open Go.Deep Go.ChangeShapes Go.WideShapes Go.RowKit

theorem cellsRecST : Tryd.prog.cellsOf 143 = 1 := by kernel_rfl
theorem RecS_trod {H : Type} {enc : TypeId × Value → H} {W : World} {fuel : Nat} {v : Value} {x : DataW H × List MemPlace} (h : DataW.trod enc Tryd.prog W 0 (fun _ => true) true fuel 143 [v] = some x) : ∃ L, (celRow cRec L).Rd W v ∧ (celRow cRec L).Ty := by
  rcases open_slice Tryd.underlying143 h with ⟨hcs, _⟩ | ⟨ad, l, c, m, n, D, Pl, hcs, _, hl, hm, hmm, _, hx⟩
  · simp only [List.cons.injEq, and_true] at hcs
    subst hcs
    exact ⟨[], ⟨rfl, none, 0, [], rfl, rfl, .inl rfl⟩, by show (0 ≤ _) ∧ True; exact ⟨by omega, trivial⟩⟩
  · simp only [List.cons.injEq, and_true] at hcs
    subst hcs
    simp at hmm
    rw [cellsRecT] at hx
    exact rowC_of_cells cRec (by decide) (Nat.le_trans hl (Nat.le_trans hm (by decide))) (fun i hi => by
      obtain ⟨cs, h1, h2⟩ := hx i (by omega)
      obtain ⟨s, h3, h4⟩ := Rec_trod h2
      exact ⟨(s, cs), h1, h3, h4⟩)
end Go.Proofs.YtmkchilhnmkhkaaDoor
namespace Go.Proofs.YtmkchilhnmkhkaaDoor
open Go.Deep Go.ChangeShapes Go.WideShapes Go.RowKit

theorem cellsEntryT : Tryd.prog.cellsOf 204 = 2 := by kernel_rfl
set_option maxRecDepth 100000 in
theorem Entry_trod {H : Type} {enc : TypeId × Value → H} {W : World} {fuel : Nat} {cs : List Value} {x : DataW H × List MemPlace} (h : DataW.trod enc Tryd.prog W 0 (fun _ => true) true fuel 204 cs = some x) : ∃ s : EntryR, RdL W (cEntry.cels s) cs ∧ TyL (cEntry.cels s) := by
  obtain ⟨xs, n, _, _, hl, hlen, hg⟩ := DataW.trod_struct Tryd.underlying204 h
  have hl' : cs.length = 2 := hl.trans cellsEntryT
  clear hl h
  match cs, hl' with
  | [c0, c1], _ =>
    match xs, hlen with
    | [y0, y1], _ =>
      have g0 : DataW.trod enc Tryd.prog W 0 (fun _ => true) true n 3 [c0] = some y0 := by have h := hg 0 _ rfl; simpa [cellsIntT, Value.cells] using h
      have g1 : DataW.trod enc Tryd.prog W 0 (fun _ => true) true n 9 [c1] = some y1 := by have h := hg 1 _ rfl; simpa [cellsStrT, Value.cells] using h
      obtain ⟨s0, ⟨_, _, e0, r0, q0⟩, t0, _⟩ := Int_trod g0
      obtain ⟨s1, ⟨_, _, e1, r1, q1⟩, t1, _⟩ := Str_trod g1
      exact ⟨⟨s0, s1⟩, ⟨_, _, rfl, by have h9 := List.head_eq_of_cons_eq e0; rw [h9]; exact r0, ⟨_, _, rfl, by have h9 := List.head_eq_of_cons_eq e1; rw [h9]; exact r1, rfl⟩⟩, t0, t1, trivial⟩
end Go.Proofs.YtmkchilhnmkhkaaDoor
namespace Go.Proofs.YtmkchilhnmkhkaaDoor
open Go.Deep Go.ChangeShapes Go.WideShapes Go.RowKit

theorem cellsEntryST : Tryd.prog.cellsOf 144 = 1 := by kernel_rfl
theorem EntryS_trod {H : Type} {enc : TypeId × Value → H} {W : World} {fuel : Nat} {v : Value} {x : DataW H × List MemPlace} (h : DataW.trod enc Tryd.prog W 0 (fun _ => true) true fuel 144 [v] = some x) : ∃ L, (celRow cEntry L).Rd W v ∧ (celRow cEntry L).Ty := by
  rcases open_slice Tryd.underlying144 h with ⟨hcs, _⟩ | ⟨ad, l, c, m, n, D, Pl, hcs, _, hl, hm, hmm, _, hx⟩
  · simp only [List.cons.injEq, and_true] at hcs
    subst hcs
    exact ⟨[], ⟨rfl, none, 0, [], rfl, rfl, .inl rfl⟩, by show (0 ≤ _) ∧ True; exact ⟨by omega, trivial⟩⟩
  · simp only [List.cons.injEq, and_true] at hcs
    subst hcs
    simp at hmm
    rw [cellsEntryT] at hx
    exact rowC_of_cells cEntry (by decide) (Nat.le_trans hl (Nat.le_trans hm (by decide))) (fun i hi => by
      obtain ⟨cs, h1, h2⟩ := hx i (by omega)
      obtain ⟨s, h3, h4⟩ := Entry_trod h2
      exact ⟨(s, cs), h1, h3, h4⟩)
end Go.Proofs.YtmkchilhnmkhkaaDoor
namespace Go.Proofs.YtmkchilhnmkhkaaDoor
open Go.Deep Go.ChangeShapes Go.WideShapes Go.RowKit

theorem cellsInoT : Tryd.prog.cellsOf 146 = 6 := by kernel_rfl
set_option maxRecDepth 100000 in
theorem Ino_trod {H : Type} {enc : TypeId × Value → H} {W : World} {fuel : Nat} {cs : List Value} {x : DataW H × List MemPlace} (h : DataW.trod enc Tryd.prog W 0 (fun _ => true) true fuel 146 cs = some x) : ∃ s : InoR, RdL W (cIno.cels s) cs ∧ TyL (cIno.cels s) := by
  obtain ⟨xs, n, _, _, hl, hlen, hg⟩ := DataW.trod_struct Tryd.underlying146 h
  have hl' : cs.length = 6 := hl.trans cellsInoT
  clear hl h
  match cs, hl' with
  | [c0, c1, c2, c3, c4, c5], _ =>
    match xs, hlen with
    | [y0, y1, y2, y3, y4, y5], _ =>
      have g0 : DataW.trod enc Tryd.prog W 0 (fun _ => true) true n 3 [c0] = some y0 := by have h := hg 0 _ rfl; simpa [cellsIntT, Value.cells] using h
      have g1 : DataW.trod enc Tryd.prog W 0 (fun _ => true) true n 3 [c1] = some y1 := by have h := hg 1 _ rfl; simpa [cellsIntT, Value.cells] using h
      have g2 : DataW.trod enc Tryd.prog W 0 (fun _ => true) true n 3 [c2] = some y2 := by have h := hg 2 _ rfl; simpa [cellsIntT, Value.cells] using h
      have g3 : DataW.trod enc Tryd.prog W 0 (fun _ => true) true n 9 [c3] = some y3 := by have h := hg 3 _ rfl; simpa [cellsStrT, Value.cells] using h
      have g4 : DataW.trod enc Tryd.prog W 0 (fun _ => true) true n 143 [c4] = some y4 := by have h := hg 4 _ rfl; simpa [cellsRecST, Value.cells] using h
      have g5 : DataW.trod enc Tryd.prog W 0 (fun _ => true) true n 144 [c5] = some y5 := by have h := hg 5 _ rfl; simpa [cellsEntryST, Value.cells] using h
      obtain ⟨s0, ⟨_, _, e0, r0, q0⟩, t0, _⟩ := Int_trod g0
      obtain ⟨s1, ⟨_, _, e1, r1, q1⟩, t1, _⟩ := Int_trod g1
      obtain ⟨s2, ⟨_, _, e2, r2, q2⟩, t2, _⟩ := Int_trod g2
      obtain ⟨s3, ⟨_, _, e3, r3, q3⟩, t3, _⟩ := Str_trod g3
      obtain ⟨s4, r4, t4⟩ := RecS_trod g4
      obtain ⟨s5, r5, t5⟩ := EntryS_trod g5
      exact ⟨⟨s0, s1, s2, s3, s4, s5⟩, ⟨_, _, rfl, by have h9 := List.head_eq_of_cons_eq e0; rw [h9]; exact r0, ⟨_, _, rfl, by have h9 := List.head_eq_of_cons_eq e1; rw [h9]; exact r1, ⟨_, _, rfl, by have h9 := List.head_eq_of_cons_eq e2; rw [h9]; exact r2, ⟨_, _, rfl, by have h9 := List.head_eq_of_cons_eq e3; rw [h9]; exact r3, ⟨_, _, rfl, r4, ⟨_, _, rfl, r5, rfl⟩⟩⟩⟩⟩⟩, t0, t1, t2, t3, t4, t5, trivial⟩
end Go.Proofs.YtmkchilhnmkhkaaDoor
namespace Go.Proofs.YtmkchilhnmkhkaaDoor
open Go.Deep Go.ChangeShapes Go.WideShapes Go.RowKit

theorem cellsInoST : Tryd.prog.cellsOf 35 = 1 := by kernel_rfl
theorem InoS_trod {H : Type} {enc : TypeId × Value → H} {W : World} {fuel : Nat} {v : Value} {x : DataW H × List MemPlace} (h : DataW.trod enc Tryd.prog W 0 (fun _ => true) true fuel 35 [v] = some x) : ∃ L, (celRow cIno L).Rd W v ∧ (celRow cIno L).Ty := by
  rcases open_slice Tryd.underlying35 h with ⟨hcs, _⟩ | ⟨ad, l, c, m, n, D, Pl, hcs, _, hl, hm, hmm, _, hx⟩
  · simp only [List.cons.injEq, and_true] at hcs
    subst hcs
    exact ⟨[], ⟨rfl, none, 0, [], rfl, rfl, .inl rfl⟩, by show (0 ≤ _) ∧ True; exact ⟨by omega, trivial⟩⟩
  · simp only [List.cons.injEq, and_true] at hcs
    subst hcs
    simp at hmm
    rw [cellsInoT] at hx
    exact rowC_of_cells cIno (by decide) (Nat.le_trans hl (Nat.le_trans hm (by decide))) (fun i hi => by
      obtain ⟨cs, h1, h2⟩ := hx i (by omega)
      obtain ⟨s, h3, h4⟩ := Ino_trod h2
      exact ⟨(s, cs), h1, h3, h4⟩)
end Go.Proofs.YtmkchilhnmkhkaaDoor
namespace Go.Proofs.YtmkchilhnmkhkaaDoor
open Go.Deep Go.ChangeShapes Go.WideShapes Go.RowKit

theorem cellsPartT : Tryd.prog.cellsOf 37 = 3 := by kernel_rfl
set_option maxRecDepth 100000 in
theorem Part_trod {H : Type} {enc : TypeId × Value → H} {W : World} {fuel : Nat} {cs : List Value} {x : DataW H × List MemPlace} (h : DataW.trod enc Tryd.prog W 0 (fun _ => true) true fuel 37 cs = some x) : ∃ s : PartR, RdL W (cPart.cels s) cs ∧ TyL (cPart.cels s) := by
  obtain ⟨xs, n, _, _, hl, hlen, hg⟩ := DataW.trod_struct Tryd.underlying37 h
  have hl' : cs.length = 3 := hl.trans cellsPartT
  clear hl h
  match cs, hl' with
  | [c0, c1, c2], _ =>
    match xs, hlen with
    | [y0, y1, y2], _ =>
      have g0 : DataW.trod enc Tryd.prog W 0 (fun _ => true) true n 3 [c0] = some y0 := by have h := hg 0 _ rfl; simpa [cellsIntT, Value.cells] using h
      have g1 : DataW.trod enc Tryd.prog W 0 (fun _ => true) true n 34 [c1] = some y1 := by have h := hg 1 _ rfl; simpa [cellsIntST, Value.cells] using h
      have g2 : DataW.trod enc Tryd.prog W 0 (fun _ => true) true n 35 [c2] = some y2 := by have h := hg 2 _ rfl; simpa [cellsInoST, Value.cells] using h
      obtain ⟨s0, ⟨_, _, e0, r0, q0⟩, t0, _⟩ := Int_trod g0
      obtain ⟨s1, r1, t1⟩ := IntS_trod g1
      obtain ⟨s2, r2, t2⟩ := InoS_trod g2
      exact ⟨⟨s0, s1, s2⟩, ⟨_, _, rfl, by have h9 := List.head_eq_of_cons_eq e0; rw [h9]; exact r0, ⟨_, _, rfl, r1, ⟨_, _, rfl, r2, rfl⟩⟩⟩, t0, t1, t2, trivial⟩
end Go.Proofs.YtmkchilhnmkhkaaDoor
namespace Go.Proofs.YtmkchilhnmkhkaaDoor
open Go.Deep Go.ChangeShapes Go.WideShapes Go.RowKit

set_option maxRecDepth 100000 in
/-- One that came in. -/
theorem Part_of_trod {H : Type} {enc : TypeId × Value → H} {W : World} {r : Reach} {b0 : Nat} {v : Value} {d : DataW H} {p : List MemPlace} (hv : Value.okWide Tryd.prog W r b0 37 v) (h : DataW.Trod enc Tryd.prog W 0 (fun _ => true) true 37 v d p) :
    ∃ (s : PartR) (a1 : Option Addr) (c1 : Nat) (a2 : Option Addr) (c2 : Nat), v = .agg #[.int .i64 s.ser, .slice a1 s.st.length c1, .slice a2 s.ino.length c2] ∧ TyL (cPart.cels s) ∧ (celRow cInt s.st).Rd W (.slice a1 s.st.length c1) ∧ (celRow cIno s.ino).Rd W (.slice a2 s.ino.length c2) := by
  obtain ⟨cs, rfl, hsz⟩ := okWide_struct Tryd.underlying37 hv
  obtain ⟨l⟩ := cs
  obtain ⟨fuel, hf⟩ := h
  obtain ⟨s, h1, h2⟩ := Part_trod hf
  obtain ⟨a1, c1, a2, c2, hv, h1x, h2x⟩ := cPart_form h1
  have hv2 : l = _ := hv
  subst hv2
  exact ⟨s, a1, c1, a2, c2, rfl, h2, h1x, h2x⟩
end Go.Proofs.YtmkchilhnmkhkaaDoor
