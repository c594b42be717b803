/- What the laws' argument reads as: a layout, four numbers. -/
import Derived.Test.YtmcelfiljnlmoaaGeo
import Derived.Lib.SmallJoins
import Derived.ProofKit
namespace Go.Proofs.Ytmcelfiljnlmoaa
open Go.Joins Go.ChangeShapes Go.WideShapes

theorem cellsGeoT : Try.prog.cellsOf 23 = 4 := by kernel_rfl
set_option maxRecDepth 100000 in
theorem geo_of_trod {H : Type} {enc : TypeId × Value → H} {W : World} {sp : Nat → Bool} {held : Bool} {r : Reach} {b0 base : Nat} {v : Value} {d : DataW H} {p : List MemPlace}
    (hv : Value.okWide Try.prog W r b0 23 v) (h : DataW.Trod enc Try.prog W base sp held 23 v d p) : ∃ T P I Q : Int, v = .agg #[.int .i64 T, .int .i64 P, .int .i64 I, .int .i64 Q] := by
  obtain ⟨v0, v1, v2, v3, y0, y1, y2, y3, n, rfl, _, _, h0, h1, h2, h3⟩ := open_agg4 Try.underlying23 (by kernel_rfl) cellsGeoT hv h
  obtain ⟨s0, e0, _⟩ := DataW.trod_int Try.underlying3 h0
  obtain ⟨s1, e1, _⟩ := DataW.trod_int Try.underlying3 h1
  obtain ⟨s2, e2, _⟩ := DataW.trod_int Try.underlying3 h2
  obtain ⟨s3, e3, _⟩ := DataW.trod_int Try.underlying3 h3
  simp at e0 e1 e2 e3
  exact ⟨s0, s1, s2, s3, by rw [e0, e1, e2, e3]⟩
end Go.Proofs.Ytmcelfiljnlmoaa
