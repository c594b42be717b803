/- The first bytes of a keyed hash; the two tables of the program. -/
import Derived.Test.YtbojcphcjggccaaDoorMarkSpec
import Derived.Test.YtbojcphcjggccaaDoorDigImpl
namespace Go.Proofs.YtbojcphcjggccaaDoor
open Go.RowKit Go.Proofs.YtbojcphcjggccaaDoor.Sha Go.Proofs.YtbojcphcjggccaaDoor.Hexa

/-- The two tables of the program. -/
def Tabs (w : World) : Prop := IsTab w 0 firstS.list ∧ IsTab w 1 keyL
theorem Tabs.below {w w' : World} (h : Tabs w) (hb : Below w.heap.size w w') : Tabs w' := ⟨h.1.below h.1.lt hb, h.2.below h.2.lt hb⟩

/-- Two texts compared, as the walk has it. -/
theorem same_text (a b : ByteArray) : (a.toList == b.toList) = decide (a = b) := by
  rw [Go.ByteArray.toList_eq, Go.ByteArray.toList_eq]
  by_cases h : a = b
  · rw [decide_eq_true h, h]; simp
  · rw [decide_eq_false h]
    refine beq_eq_false_iff_ne.2 (fun e => h (ByteArray.ext (Array.toList_inj.1 e)))

/-- The first n bytes of a keyed hash; none where n is not from 1 to 32. -/
def markB (k t : ByteArray) (n : Int) : ByteArray := if 1 ≤ n ∧ n ≤ 32 then (hmacB k t).extract 0 n.toNat else ⟨#[]⟩
theorem hmacB_size (k t : ByteArray) : (hmacB k t).size = 32 := rfl
end Go.Proofs.YtbojcphcjggccaaDoor
