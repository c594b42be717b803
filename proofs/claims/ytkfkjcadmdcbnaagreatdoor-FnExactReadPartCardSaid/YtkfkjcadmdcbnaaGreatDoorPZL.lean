/- Merged texts: RowTree, TStrE, TStrR, TIntR, TBoolE, TBoolR, TCellR, TCellRS, TMemR, TMemRT, GeoRow. -/
import Derived.Test.YtkfkjcadmdcbnaaGreatDoorPZK
import Derived.Deep.Strs
import Derived.Deep.Fields
import Derived.ProofKit
import Derived.OpenShut
import Derived.Lib.SmallJoins
namespace Go.Proofs.YtkfkjcadmdcbnaaGreatDoor
open Go.Deep Go.ChangeShapes Go.WideShapes Go.RowKit

theorem RdL.append {w : World} : ∀ (A B : List Cel) (us vs : List Value), RdL w A us → RdL w B vs → RdL w (A ++ B) (us ++ vs)
  | [], _, _, _, h, h2 => by rw [show _ = [] from h]; exact h2
  | c :: A, B, _, vs, ⟨v, r, hv, h1, h2⟩, h => by
    rw [hv]
    exact ⟨v, r ++ vs, rfl, h1, RdL.append A B r vs h2 h⟩
theorem flat_rd {α : Type} {E : EncC α} {W : World} {S : Nat → α × List Value} : ∀ l : List Nat, (∀ i ∈ l, RdL W (E.cels (S i).1) (S i).2) → RdL W (celsE E (l.map fun i => (S i).1)) (l.flatMap fun i => (S i).2)
  | [], _ => rfl
  | i :: l, h => by
    rw [List.map_cons, List.flatMap_cons, celsE]
    exact RdL.append _ _ _ _ (h i List.mem_cons_self) (flat_rd l fun j hj => h j (List.mem_cons_of_mem _ hj))
theorem flat_ty {α : Type} {E : EncC α} {S : Nat → α × List Value} : ∀ l : List Nat, (∀ i ∈ l, TyL (E.cels (S i).1)) → TyL (celsE E (l.map fun i => (S i).1))
  | [], _ => trivial
  | i :: l, h => by
    rw [List.map_cons, celsE]
    exact (TyL_append _ _).2 ⟨h i List.mem_cons_self, flat_ty l fun j hj => h j (List.mem_cons_of_mem _ hj)⟩
theorem flat_len {f : Nat → List Value} {k : Nat} : ∀ n, (∀ i, i < n → (f i).length = k) → ((List.range n).flatMap f).length = n * k
  | 0, _ => by simp
  | n + 1, h => by
    rw [List.range_succ, List.flatMap_append, List.length_append, flat_len n (fun i hi => h i (by omega)), List.flatMap_singleton, h n (by omega), Nat.add_mul, Nat.one_mul]
theorem flat_at {f : Nat → List Value} {k : Nat} : ∀ (n j : Nat) (u : Value), (∀ i, i < n → (f i).length = k) → ((List.range n).flatMap f)[j]? = some u → ∃ i o, i < n ∧ o < k ∧ j = i * k + o ∧ (f i)[o]? = some u
  | 0, j, u, _, h => by simp at h
  | n + 1, j, u, hk, h => by
    have hl := flat_len n (fun i hi => hk i (Nat.lt_succ_of_lt hi))
    rw [List.range_succ, List.flatMap_append] at h
    by_cases hj : j < n * k
    · rw [List.getElem?_append_left (by rw [hl]; exact hj)] at h
      obtain ⟨i, o, h1, h2, h3, h4⟩ := flat_at n j u (fun i hi => hk i (by omega)) h
      exact ⟨i, o, by omega, h2, h3, h4⟩
    · rw [List.getElem?_append_right (by rw [hl]; omega), hl, List.flatMap_singleton] at h
      have ho : j - n * k < k := by
        have := (List.getElem?_eq_some_iff.1 h).1
        rwa [hk n (by omega)] at this
      exact ⟨n, j - n * k, by omega, ho, by omega, h⟩
theorem rowC_of_cells {α : Type} [Inhabited α] (E : EncC α) {W : World} {ad : Addr} {len cap : Nat} (h0 : 0 < E.k) (hl : len ≤ 9223372036854775807)
    (each : ∀ i, i < len → ∃ p : α × List Value, W.cells? 0 (ad.add (i * E.k)) E.k = some p.2 ∧ RdL W (E.cels p.1) p.2 ∧ TyL (E.cels p.1)) :
    ∃ L : List α, (celRow E L).Rd W (.slice (some ad) len cap) ∧ (celRow E L).Ty := by
  rcases Nat.eq_zero_or_pos len with rfl | hpos
  · exact ⟨[], ⟨by simp [celsE], some ad, cap, [], rfl, rfl, .inl rfl⟩, by show (0 ≤ _) ∧ True; exact ⟨by omega, trivial⟩⟩
  obtain ⟨S, hS⟩ := choose_lt each
  have hlen : ∀ i, i < len → (S i).2.length = E.k := fun i hi => by rw [RdL.length _ _ (hS i hi).2.1, E.len]
  have hat : ∀ i, i < len → ∀ o u, (S i).2[o]? = some u → W.cell? ((ad.add (i * E.k)).add o) = some u := fun i hi o u hu => by
    have hj3 := (World.cells?_some (hS i hi).1).2.2
    have ho : o < E.k := by
      have := (List.getElem?_eq_some_iff.1 hu).1
      rwa [hlen i hi] at this
    rw [hj3 o ho]
    exact hu
  have hspot : ad.spot = none := by
    have h9 := hlen 0 hpos
    have h00 := hat 0 hpos 0 ((S 0).2[0]'(by omega)) (List.getElem?_eq_getElem _)
    have := World.cell?_spot h00
    simpa [Addr.add] using this
  have hat2 : ∀ i, i < len → ∀ o u, (S i).2[o]? = some u → W.cell? ⟨ad.block, ad.off + (i * E.k + o), none⟩ = some u := fun i hi o u hu => by
    have h9 := hat i hi o u hu
    rw [add_add, add_at1 ad _ hspot] at h9
    exact h9
  have hb : ad.block < W.heap.size := by
    have h9 := hlen 0 hpos
    have h00 := hat2 0 hpos 0 ((S 0).2[0]'(by omega)) (List.getElem?_eq_getElem _)
    rcases Nat.lt_or_ge ad.block W.heap.size with hlt | hge
    · exact hlt
    · simp [World.cell?, Array.getElem?_eq_none hge] at h00
  have hml : ((List.range len).map fun i => (S i).1).length = len := by simp
  refine ⟨(List.range len).map fun i => (S i).1, ?_, ?_⟩
  · unfold celRow
    rw [hml]
    refine ⟨by rw [celsE_length, hml], some ad, cap, (List.range len).flatMap fun i => (S i).2, rfl, flat_rd _ (fun i hi => (hS i (List.mem_range.1 hi)).2.1), .inr ⟨ad.block, ad.off, ?_, hb, fun j u hu => ?_⟩⟩
    · obtain ⟨b, o, s⟩ := ad; simp only at hspot; rw [hspot]
    · obtain ⟨i, o, h1, h2, rfl, h4⟩ := flat_at len j u hlen hu
      exact hat2 i h1 o u h4
  · unfold celRow
    rw [hml]
    exact ⟨hl, flat_ty _ (fun i hi => (hS i (List.mem_range.1 hi)).2.2)⟩
end Go.Proofs.YtkfkjcadmdcbnaaGreatDoor
namespace Go.Proofs.YtkfkjcadmdcbnaaGreatDoor
open Go.RowKit Go.Proofs.YtkfkjcadmdcbnaaGreatDoor.Parts Go.Proofs.YtkfkjcadmdcbnaaGreatDoor.Hexa

def cStr : EncC ByteArray := ⟨9, 1, fun x => [.val (.string x)], fun _ => rfl⟩
end Go.Proofs.YtkfkjcadmdcbnaaGreatDoor
namespace Go.Proofs.YtkfkjcadmdcbnaaGreatDoor
open Go.Deep Go.ChangeShapes Go.WideShapes Go.RowKit

theorem cellsStrT : Tryz.prog.cellsOf 9 = 1 := by kernel_rfl
theorem Str_trod {H : Type} {enc : TypeId × Value → H} {W : World} {base fuel : Nat} {sp : Nat → Bool} {held : Bool} {cs : List Value} {x : DataW H × List MemPlace} (h : DataW.trod enc Tryz.prog W base sp held fuel 9 cs = some x) : ∃ s : ByteArray, RdL W (cStr.cels s) cs ∧ TyL (cStr.cels s) := by
  obtain ⟨s, e, _, b⟩ := DataW.trod_string Tryz.underlying9 h
  subst e
  exact ⟨s, ⟨_, _, rfl, rfl, rfl⟩, b, trivial⟩
end Go.Proofs.YtkfkjcadmdcbnaaGreatDoor
namespace Go.Proofs.YtkfkjcadmdcbnaaGreatDoor
open Go.Deep Go.ChangeShapes Go.WideShapes Go.RowKit

theorem cellsIntT : Tryz.prog.cellsOf 3 = 1 := by kernel_rfl
theorem Int_trod {H : Type} {enc : TypeId × Value → H} {W : World} {base fuel : Nat} {sp : Nat → Bool} {held : Bool} {cs : List Value} {x : DataW H × List MemPlace} (h : DataW.trod enc Tryz.prog W base sp held fuel 3 cs = some x) : ∃ s : Int, RdL W (cInt.cels s) cs ∧ TyL (cInt.cels s) := by
  obtain ⟨s, e, _, b⟩ := DataW.trod_int Tryz.underlying3 h
  subst e
  exact ⟨s, ⟨_, _, rfl, rfl, rfl⟩, bounds_i64 b, trivial⟩
end Go.Proofs.YtkfkjcadmdcbnaaGreatDoor
namespace Go.Proofs.YtkfkjcadmdcbnaaGreatDoor
open Go.RowKit Go.Proofs.YtkfkjcadmdcbnaaGreatDoor.Parts Go.Proofs.YtkfkjcadmdcbnaaGreatDoor.Hexa

def cBool : EncC Bool := ⟨4, 1, fun x => [.val (.bool x)], fun _ => rfl⟩
end Go.Proofs.YtkfkjcadmdcbnaaGreatDoor
namespace Go.Proofs.YtkfkjcadmdcbnaaGreatDoor
open Go.Deep Go.ChangeShapes Go.WideShapes Go.RowKit

theorem cellsBoolT : Tryz.prog.cellsOf 4 = 1 := by kernel_rfl
theorem Bool_trod {H : Type} {enc : TypeId × Value → H} {W : World} {base fuel : Nat} {sp : Nat → Bool} {held : Bool} {cs : List Value} {x : DataW H × List MemPlace} (h : DataW.trod enc Tryz.prog W base sp held fuel 4 cs = some x) : ∃ s : Bool, RdL W (cBool.cels s) cs ∧ TyL (cBool.cels s) := by
  obtain ⟨s, e, _⟩ := DataW.trod_bool Tryz.underlying4 h
  subst e
  exact ⟨s, ⟨_, _, rfl, rfl, rfl⟩, trivial, trivial⟩
end Go.Proofs.YtkfkjcadmdcbnaaGreatDoor
namespace Go.Proofs.YtkfkjcadmdcbnaaGreatDoor
open Go.Deep Go.ChangeShapes Go.WideShapes Go.RowKit

theorem cellsCellT : Tryz.prog.cellsOf 133 = 3 := by kernel_rfl
set_option maxRecDepth 100000 in
theorem Cell_trod {H : Type} {enc : TypeId × Value → H} {W : World} {fuel : Nat} {cs : List Value} {x : DataW H × List MemPlace} (h : DataW.trod enc Tryz.prog W 0 (fun _ => true) true fuel 133 cs = some x) : ∃ s : C3, RdL W (cCell.cels s) cs ∧ TyL (cCell.cels s) := by
  obtain ⟨xs, n, _, _, hl, hlen, hg⟩ := DataW.trod_struct Tryz.underlying133 h
  have hl' : cs.length = 3 := hl.trans cellsCellT
  clear hl h
  match cs, hl' with
  | [c0, c1, c2], _ =>
    match xs, hlen with
    | [y0, y1, y2], _ =>
      have g0 : DataW.trod enc Tryz.prog W 0 (fun _ => true) true n 3 [c0] = some y0 := by have h := hg 0 _ rfl; simpa [cellsIntT, Value.cells] using h
      have g1 : DataW.trod enc Tryz.prog W 0 (fun _ => true) true n 9 [c1] = some y1 := by have h := hg 1 _ rfl; simpa [cellsStrT, Value.cells] using h
      have g2 : DataW.trod enc Tryz.prog W 0 (fun _ => true) true n 4 [c2] = some y2 := by have h := hg 2 _ rfl; simpa [cellsBoolT, Value.cells] using h
      obtain ⟨s0, ⟨_, _, e0, r0, q0⟩, t0, _⟩ := Int_trod g0
      obtain ⟨s1, ⟨_, _, e1, r1, q1⟩, t1, _⟩ := Str_trod g1
      obtain ⟨s2, ⟨_, _, e2, r2, q2⟩, t2, _⟩ := Bool_trod g2
      exact ⟨⟨s0, s1, s2⟩, ⟨_, _, rfl, by have h9 := List.head_eq_of_cons_eq e0; rw [h9]; exact r0, ⟨_, _, rfl, by have h9 := List.head_eq_of_cons_eq e1; rw [h9]; exact r1, ⟨_, _, rfl, by have h9 := List.head_eq_of_cons_eq e2; rw [h9]; exact r2, rfl⟩⟩⟩, t0, t1, t2, trivial⟩
end Go.Proofs.YtkfkjcadmdcbnaaGreatDoor
namespace Go.Proofs.YtkfkjcadmdcbnaaGreatDoor
open Go.Deep Go.ChangeShapes Go.WideShapes Go.RowKit

theorem cellsCellST : Tryz.prog.cellsOf 44 = 1 := by kernel_rfl
theorem CellS_trod {H : Type} {enc : TypeId × Value → H} {W : World} {fuel : Nat} {v : Value} {x : DataW H × List MemPlace} (h : DataW.trod enc Tryz.prog W 0 (fun _ => true) true fuel 44 [v] = some x) : ∃ L, (celRow cCell L).Rd W v ∧ (celRow cCell L).Ty := by
  rcases open_slice Tryz.underlying44 h with ⟨hcs, _⟩ | ⟨ad, l, c, m, n, D, Pl, hcs, _, hl, hm, hmm, _, hx⟩
  · simp only [List.cons.injEq, and_true] at hcs
    subst hcs
    exact ⟨[], ⟨rfl, none, 0, [], rfl, rfl, .inl rfl⟩, by show (0 ≤ _) ∧ True; exact ⟨by omega, trivial⟩⟩
  · simp only [List.cons.injEq, and_true] at hcs
    subst hcs
    simp at hmm
    rw [cellsCellT] at hx
    exact rowC_of_cells cCell (by decide) (Nat.le_trans hl (Nat.le_trans hm (by decide))) (fun i hi => by
      obtain ⟨cs, h1, h2⟩ := hx i (by omega)
      obtain ⟨s, h3, h4⟩ := Cell_trod h2
      exact ⟨(s, cs), h1, h3, h4⟩)
end Go.Proofs.YtkfkjcadmdcbnaaGreatDoor
namespace Go.Proofs.YtkfkjcadmdcbnaaGreatDoor
open Go.Deep Go.ChangeShapes Go.WideShapes Go.RowKit

theorem cellsMemT : Tryz.prog.cellsOf 46 = 2 := by kernel_rfl
set_option maxRecDepth 100000 in
theorem Mem_trod {H : Type} {enc : TypeId × Value → H} {W : World} {fuel : Nat} {cs : List Value} {x : DataW H × List MemPlace} (h : DataW.trod enc Tryz.prog W 0 (fun _ => true) true fuel 46 cs = some x) : ∃ s : MemR, RdL W (cMem.cels s) cs ∧ TyL (cMem.cels s) := by
  obtain ⟨xs, n, _, _, hl, hlen, hg⟩ := DataW.trod_struct Tryz.underlying46 h
  have hl' : cs.length = 2 := hl.trans cellsMemT
  clear hl h
  match cs, hl' with
  | [c0, c1], _ =>
    match xs, hlen with
    | [y0, y1], _ =>
      have g0 : DataW.trod enc Tryz.prog W 0 (fun _ => true) true n 9 [c0] = some y0 := by have h := hg 0 _ rfl; simpa [cellsStrT, Value.cells] using h
      have g1 : DataW.trod enc Tryz.prog W 0 (fun _ => true) true n 44 [c1] = some y1 := by have h := hg 1 _ rfl; simpa [cellsCellST, Value.cells] using h
      obtain ⟨s0, ⟨_, _, e0, r0, q0⟩, t0, _⟩ := Str_trod g0
      obtain ⟨s1, r1, t1⟩ := CellS_trod g1
      exact ⟨⟨s0, s1⟩, ⟨_, _, rfl, by have h9 := List.head_eq_of_cons_eq e0; rw [h9]; exact r0, ⟨_, _, rfl, r1, rfl⟩⟩, t0, t1, trivial⟩
end Go.Proofs.YtkfkjcadmdcbnaaGreatDoor
namespace Go.Proofs.YtkfkjcadmdcbnaaGreatDoor
open Go.Deep Go.ChangeShapes Go.WideShapes Go.RowKit

set_option maxRecDepth 100000 in
/-- One that came in. -/
theorem Mem_of_trod {H : Type} {enc : TypeId × Value → H} {W : World} {r : Reach} {b0 : Nat} {v : Value} {d : DataW H} {p : List MemPlace} (hv : Value.okWide Tryz.prog W r b0 46 v) (h : DataW.Trod enc Tryz.prog W 0 (fun _ => true) true 46 v d p) :
    ∃ (s : MemR) (a1 : Option Addr) (c1 : Nat), v = .agg #[.string s.text, .slice a1 s.cells.length c1] ∧ TyL (cMem.cels s) ∧ (celRow cCell s.cells).Rd W (.slice a1 s.cells.length c1) := by
  obtain ⟨cs, rfl, hsz⟩ := okWide_struct Tryz.underlying46 hv
  obtain ⟨l⟩ := cs
  obtain ⟨fuel, hf⟩ := h
  obtain ⟨s, h1, h2⟩ := Mem_trod hf
  obtain ⟨a1, c1, hv, h1x⟩ := cMem_form h1
  have hv2 : l = _ := hv
  subst hv2
  exact ⟨s, a1, c1, rfl, h2, h1x⟩
end Go.Proofs.YtkfkjcadmdcbnaaGreatDoor
namespace Go.Proofs.YtkfkjcadmdcbnaaGreatDoor
open Go.Joins Go.ChangeShapes Go.WideShapes

theorem cellsGeoT : Tryz.prog.cellsOf 47 = 4 := by kernel_rfl
set_option maxRecDepth 100000 in
theorem geo_of_trod {H : Type} {enc : TypeId × Value → H} {W : World} {sp : Nat → Bool} {held : Bool} {r : Reach} {b0 base : Nat} {v : Value} {d : DataW H} {p : List MemPlace}
    (hv : Value.okWide Tryz.prog W r b0 47 v) (h : DataW.Trod enc Tryz.prog W base sp held 47 v d p) : ∃ T P I Q : Int, v = .agg #[.int .i64 T, .int .i64 P, .int .i64 I, .int .i64 Q] := by
  obtain ⟨v0, v1, v2, v3, y0, y1, y2, y3, n, rfl, _, _, h0, h1, h2, h3⟩ := open_agg4 Tryz.underlying47 (by kernel_rfl) cellsGeoT hv h
  obtain ⟨s0, e0, _⟩ := DataW.trod_int Tryz.underlying3 h0
  obtain ⟨s1, e1, _⟩ := DataW.trod_int Tryz.underlying3 h1
  obtain ⟨s2, e2, _⟩ := DataW.trod_int Tryz.underlying3 h2
  obtain ⟨s3, e3, _⟩ := DataW.trod_int Tryz.underlying3 h3
  simp at e0 e1 e2 e3
  exact ⟨s0, s1, s2, s3, by rw [e0, e1, e2, e3]⟩
end Go.Proofs.YtkfkjcadmdcbnaaGreatDoor
