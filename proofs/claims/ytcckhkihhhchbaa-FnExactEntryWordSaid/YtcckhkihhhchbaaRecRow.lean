/- What the laws' arguments read as: a record, an entry. -/
import Derived.Test.YtcckhkihhhchbaaRecBase
import Derived.Test.YtcckhkihhhchbaaEntryBase
import Derived.Lib.SmallJoins
import Derived.ProofKit
namespace Go.Proofs.Ytcckhkihhhchbaa
open Go.Joins Go.ChangeShapes Go.WideShapes

theorem cellsRecT : Try.prog.cellsOf 24 = 3 := by kernel_rfl
theorem cellsEntryT : Try.prog.cellsOf 34 = 2 := by kernel_rfl
theorem rec_of_trod {H : Type} {enc : TypeId × Value → H} {W : World} {sp : Nat → Bool} {held : Bool} {r : Reach} {b0 base : Nat} {v : Value} {d : DataW H} {p : List MemPlace}
    (hv : Value.okWide Try.prog W r b0 24 v) (h : DataW.Trod enc Try.prog W base sp held 24 v d p) : ∃ (p q : Int) (m : ByteArray), v = .agg #[.int .i64 p, .int .i64 q, .string m] ∧ m.size ≤ maxLen := by
  obtain ⟨v0, v1, v2, y0, y1, y2, n, rfl, _, _, h0, h1, h2⟩ := open_agg3 Try.underlying24 (by kernel_rfl) cellsRecT hv h
  obtain ⟨s0, e0, _⟩ := DataW.trod_int Try.underlying3 h0
  obtain ⟨s1, e1, _⟩ := DataW.trod_int Try.underlying3 h1
  obtain ⟨s2, e2, _, z2⟩ := DataW.trod_string Try.underlying9 h2
  simp at e0 e1 e2
  exact ⟨s0, s1, s2, by rw [e0, e1, e2], z2⟩
theorem entry_of_trod {H : Type} {enc : TypeId × Value → H} {W : World} {sp : Nat → Bool} {held : Bool} {r : Reach} {b0 base : Nat} {v : Value} {d : DataW H} {p : List MemPlace}
    (hv : Value.okWide Try.prog W r b0 34 v) (h : DataW.Trod enc Try.prog W base sp held 34 v d p) : ∃ (p : Int) (m : ByteArray), v = .agg #[.int .i64 p, .string m] ∧ m.size ≤ maxLen := by
  obtain ⟨v0, v1, y0, y1, n, rfl, _, _, h0, h1⟩ := open_agg2 Try.underlying34 (by kernel_rfl) cellsEntryT hv h
  obtain ⟨s0, e0, _⟩ := DataW.trod_int Try.underlying3 h0
  obtain ⟨s1, e1, _, z1⟩ := DataW.trod_string Try.underlying9 h1
  simp at e0 e1
  exact ⟨s0, s1, by rw [e0, e1], z1⟩
end Go.Proofs.Ytcckhkihhhchbaa
