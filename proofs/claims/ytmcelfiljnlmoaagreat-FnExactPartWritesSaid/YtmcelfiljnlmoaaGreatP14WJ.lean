/- Merged texts: TInoR, TInoRS, TPartR, TPartRT, GeoRow. -/
import Derived.Test.YtmcelfiljnlmoaaGreatP14WI
import Derived.Lib.SmallJoins
import Derived.ProofKit
namespace Go.Proofs.YtmcelfiljnlmoaaGreat
open Go.Deep Go.ChangeShapes Go.WideShapes Go.RowKit

theorem cellsInoT : Tryz.prog.cellsOf 71 = 6 := by kernel_rfl
set_option maxRecDepth 100000 in
theorem Ino_trod {H : Type} {enc : TypeId × Value → H} {W : World} {fuel : Nat} {cs : List Value} {x : DataW H × List MemPlace} (h : DataW.trod enc Tryz.prog W 0 (fun _ => true) true fuel 71 cs = some x) : ∃ s : InoR, RdL W (cIno.cels s) cs ∧ TyL (cIno.cels s) := by
  obtain ⟨xs, n, _, _, hl, hlen, hg⟩ := DataW.trod_struct Tryz.underlying71 h
  have hl' : cs.length = 6 := hl.trans cellsInoT
  clear hl h
  match cs, hl' with
  | [c0, c1, c2, c3, c4, c5], _ =>
    match xs, hlen with
    | [y0, y1, y2, y3, y4, y5], _ =>
      have g0 : DataW.trod enc Tryz.prog W 0 (fun _ => true) true n 3 [c0] = some y0 := by have h := hg 0 _ rfl; simpa [cellsIntT, Value.cells] using h
      have g1 : DataW.trod enc Tryz.prog W 0 (fun _ => true) true n 3 [c1] = some y1 := by have h := hg 1 _ rfl; simpa [cellsIntT, Value.cells] using h
      have g2 : DataW.trod enc Tryz.prog W 0 (fun _ => true) true n 3 [c2] = some y2 := by have h := hg 2 _ rfl; simpa [cellsIntT, Value.cells] using h
      have g3 : DataW.trod enc Tryz.prog W 0 (fun _ => true) true n 9 [c3] = some y3 := by have h := hg 3 _ rfl; simpa [cellsStrT, Value.cells] using h
      have g4 : DataW.trod enc Tryz.prog W 0 (fun _ => true) true n 68 [c4] = some y4 := by have h := hg 4 _ rfl; simpa [cellsRecST, Value.cells] using h
      have g5 : DataW.trod enc Tryz.prog W 0 (fun _ => true) true n 69 [c5] = some y5 := by have h := hg 5 _ rfl; simpa [cellsEntryST, Value.cells] using h
      obtain ⟨s0, ⟨_, _, e0, r0, q0⟩, t0, _⟩ := Int_trod g0
      obtain ⟨s1, ⟨_, _, e1, r1, q1⟩, t1, _⟩ := Int_trod g1
      obtain ⟨s2, ⟨_, _, e2, r2, q2⟩, t2, _⟩ := Int_trod g2
      obtain ⟨s3, ⟨_, _, e3, r3, q3⟩, t3, _⟩ := Str_trod g3
      obtain ⟨s4, r4, t4⟩ := RecS_trod g4
      obtain ⟨s5, r5, t5⟩ := EntryS_trod g5
      exact ⟨⟨s0, s1, s2, s3, s4, s5⟩, ⟨_, _, rfl, by have h9 := List.head_eq_of_cons_eq e0; rw [h9]; exact r0, ⟨_, _, rfl, by have h9 := List.head_eq_of_cons_eq e1; rw [h9]; exact r1, ⟨_, _, rfl, by have h9 := List.head_eq_of_cons_eq e2; rw [h9]; exact r2, ⟨_, _, rfl, by have h9 := List.head_eq_of_cons_eq e3; rw [h9]; exact r3, ⟨_, _, rfl, r4, ⟨_, _, rfl, r5, rfl⟩⟩⟩⟩⟩⟩, t0, t1, t2, t3, t4, t5, trivial⟩
end Go.Proofs.YtmcelfiljnlmoaaGreat
namespace Go.Proofs.YtmcelfiljnlmoaaGreat
open Go.Deep Go.ChangeShapes Go.WideShapes Go.RowKit

theorem cellsInoST : Tryz.prog.cellsOf 25 = 1 := by kernel_rfl
theorem InoS_trod {H : Type} {enc : TypeId × Value → H} {W : World} {fuel : Nat} {v : Value} {x : DataW H × List MemPlace} (h : DataW.trod enc Tryz.prog W 0 (fun _ => true) true fuel 25 [v] = some x) : ∃ L, (celRow cIno L).Rd W v ∧ (celRow cIno L).Ty := by
  rcases open_slice Tryz.underlying25 h with ⟨hcs, _⟩ | ⟨ad, l, c, m, n, D, Pl, hcs, _, hl, hm, hmm, _, hx⟩
  · simp only [List.cons.injEq, and_true] at hcs
    subst hcs
    exact ⟨[], ⟨rfl, none, 0, [], rfl, rfl, .inl rfl⟩, by show (0 ≤ _) ∧ True; exact ⟨by omega, trivial⟩⟩
  · simp only [List.cons.injEq, and_true] at hcs
    subst hcs
    simp at hmm
    rw [cellsInoT] at hx
    exact rowC_of_cells cIno (by decide) (Nat.le_trans hl (Nat.le_trans hm (by decide))) (fun i hi => by
      obtain ⟨cs, h1, h2⟩ := hx i (by omega)
      obtain ⟨s, h3, h4⟩ := Ino_trod h2
      exact ⟨(s, cs), h1, h3, h4⟩)
end Go.Proofs.YtmcelfiljnlmoaaGreat
namespace Go.Proofs.YtmcelfiljnlmoaaGreat
open Go.Deep Go.ChangeShapes Go.WideShapes Go.RowKit

theorem cellsPartT : Tryz.prog.cellsOf 27 = 3 := by kernel_rfl
set_option maxRecDepth 100000 in
theorem Part_trod {H : Type} {enc : TypeId × Value → H} {W : World} {fuel : Nat} {cs : List Value} {x : DataW H × List MemPlace} (h : DataW.trod enc Tryz.prog W 0 (fun _ => true) true fuel 27 cs = some x) : ∃ s : PartR, RdL W (cPart.cels s) cs ∧ TyL (cPart.cels s) := by
  obtain ⟨xs, n, _, _, hl, hlen, hg⟩ := DataW.trod_struct Tryz.underlying27 h
  have hl' : cs.length = 3 := hl.trans cellsPartT
  clear hl h
  match cs, hl' with
  | [c0, c1, c2], _ =>
    match xs, hlen with
    | [y0, y1, y2], _ =>
      have g0 : DataW.trod enc Tryz.prog W 0 (fun _ => true) true n 3 [c0] = some y0 := by have h := hg 0 _ rfl; simpa [cellsIntT, Value.cells] using h
      have g1 : DataW.trod enc Tryz.prog W 0 (fun _ => true) true n 24 [c1] = some y1 := by have h := hg 1 _ rfl; simpa [cellsIntST, Value.cells] using h
      have g2 : DataW.trod enc Tryz.prog W 0 (fun _ => true) true n 25 [c2] = some y2 := by have h := hg 2 _ rfl; simpa [cellsInoST, Value.cells] using h
      obtain ⟨s0, ⟨_, _, e0, r0, q0⟩, t0, _⟩ := Int_trod g0
      obtain ⟨s1, r1, t1⟩ := IntS_trod g1
      obtain ⟨s2, r2, t2⟩ := InoS_trod g2
      exact ⟨⟨s0, s1, s2⟩, ⟨_, _, rfl, by have h9 := List.head_eq_of_cons_eq e0; rw [h9]; exact r0, ⟨_, _, rfl, r1, ⟨_, _, rfl, r2, rfl⟩⟩⟩, t0, t1, t2, trivial⟩
end Go.Proofs.YtmcelfiljnlmoaaGreat
namespace Go.Proofs.YtmcelfiljnlmoaaGreat
open Go.Deep Go.ChangeShapes Go.WideShapes Go.RowKit

set_option maxRecDepth 100000 in
/-- One that came in. -/
theorem Part_of_trod {H : Type} {enc : TypeId × Value → H} {W : World} {r : Reach} {b0 : Nat} {v : Value} {d : DataW H} {p : List MemPlace} (hv : Value.okWide Tryz.prog W r b0 27 v) (h : DataW.Trod enc Tryz.prog W 0 (fun _ => true) true 27 v d p) :
    ∃ (s : PartR) (a1 : Option Addr) (c1 : Nat) (a2 : Option Addr) (c2 : Nat), v = .agg #[.int .i64 s.ser, .slice a1 s.st.length c1, .slice a2 s.ino.length c2] ∧ TyL (cPart.cels s) ∧ (celRow cInt s.st).Rd W (.slice a1 s.st.length c1) ∧ (celRow cIno s.ino).Rd W (.slice a2 s.ino.length c2) := by
  obtain ⟨cs, rfl, hsz⟩ := okWide_struct Tryz.underlying27 hv
  obtain ⟨l⟩ := cs
  obtain ⟨fuel, hf⟩ := h
  obtain ⟨s, h1, h2⟩ := Part_trod hf
  obtain ⟨a1, c1, a2, c2, hv, h1x, h2x⟩ := cPart_form h1
  have hv2 : l = _ := hv
  subst hv2
  exact ⟨s, a1, c1, a2, c2, rfl, h2, h1x, h2x⟩
end Go.Proofs.YtmcelfiljnlmoaaGreat
namespace Go.Proofs.YtmcelfiljnlmoaaGreat
open Go.Joins Go.ChangeShapes Go.WideShapes

theorem cellsGeoT : Tryz.prog.cellsOf 23 = 4 := by kernel_rfl
set_option maxRecDepth 100000 in
theorem geo_of_trod {H : Type} {enc : TypeId × Value → H} {W : World} {sp : Nat → Bool} {held : Bool} {r : Reach} {b0 base : Nat} {v : Value} {d : DataW H} {p : List MemPlace}
    (hv : Value.okWide Tryz.prog W r b0 23 v) (h : DataW.Trod enc Tryz.prog W base sp held 23 v d p) : ∃ T P I Q : Int, v = .agg #[.int .i64 T, .int .i64 P, .int .i64 I, .int .i64 Q] := by
  obtain ⟨v0, v1, v2, v3, y0, y1, y2, y3, n, rfl, _, _, h0, h1, h2, h3⟩ := open_agg4 Tryz.underlying23 (by kernel_rfl) cellsGeoT hv h
  obtain ⟨s0, e0, _⟩ := DataW.trod_int Tryz.underlying3 h0
  obtain ⟨s1, e1, _⟩ := DataW.trod_int Tryz.underlying3 h1
  obtain ⟨s2, e2, _⟩ := DataW.trod_int Tryz.underlying3 h2
  obtain ⟨s3, e3, _⟩ := DataW.trod_int Tryz.underlying3 h3
  simp at e0 e1 e2 e3
  exact ⟨s0, s1, s2, s3, by rw [e0, e1, e2, e3]⟩
end Go.Proofs.YtmcelfiljnlmoaaGreat
