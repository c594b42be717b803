/- Rows of ints. -/
import Derived.Test.YtmcelfiljnlmoaaRows
import Derived.Test.YtmcelfiljnlmoaaPartsMath
import Derived.WalkKit
import Derived.WalkSpells
import Derived.WalkLawsBesides
import Derived.Lib.Hide
import Derived.Deep.QuietTactic
import Derived.BigQuiet
namespace Go.Proofs.Ytmcelfiljnlmoaa
open Go.RowKit Go.Proofs.Ytmcelfiljnlmoaa.Parts Go.Proofs.Ytmcelfiljnlmoaa.Hexa

theorem ret_i64' {a b : Int} (h : a = b) : Ending.returned (.int .i64 a) = .returned (.int .i64 b) := by rw [h]

/-- A row of ints as cells. -/
def icells (xs : List Int) : List Value := xs.map fun x => Value.int .i64 x
theorem icells_length (xs : List Int) : (icells xs).length = xs.length := by simp [icells]
theorem cell_int {w : World} {a : Addr} {P : List Int} {k : Nat} (hk : k < P.length) (h : w.cell? a = (icells P)[k]?) : w.cell? a = some (.int .i64 P[k]) := by
  rw [h]; simp [icells, hk]
end Go.Proofs.Ytmcelfiljnlmoaa
