/- Whether two texts agree, byte by byte. -/
import Derived.Test.YtbojcphcjggccaaDoorRows
import Derived.Test.YtbojcphcjggccaaDoorBitsMath
import Derived.WalkKit
import Derived.WalkSpells
import Derived.WalkLawsBesides
import Derived.Lib.Hide
import Derived.Deep.QuietTactic
import Derived.BigQuiet
namespace Go.Proofs.YtbojcphcjggccaaDoor
open Go.RowKit Go.Proofs.YtbojcphcjggccaaDoor.BitsM

/-- The first k bytes agree. -/
def SameTo (a b : ByteArray) (k : Nat) : Prop := ∀ j, j < k → a.data.toList[j]? = b.data.toList[j]?
theorem same_all {a b : ByteArray} (hl : a.size = b.size) : SameTo a b a.size ↔ a = b := by
  constructor
  · intro h
    apply ByteArray.ext
    apply Array.toList_inj.1
    apply List.ext_getElem?
    intro j
    by_cases hj : j < a.size
    · exact h j hj
    · have h1 : a.data.toList.length = a.size := by simp
      have h2 : b.data.toList.length = b.size := by simp
      rw [List.getElem?_eq_none (by omega), List.getElem?_eq_none (by omega)]
  · rintro rfl j _; rfl
theorem get_toList (a : ByteArray) (k : Nat) (h : k < a.size) : a.data.toList[k]? = some (a[k]'h) := by
  have h1 : k < a.data.toList.length := by simpa using h
  rw [List.getElem?_eq_getElem h1]; rfl
/-- One byte more. -/
theorem same_next {a b : ByteArray} {k y : Nat} (ha : k < a.size) (hb : k < b.size) (hy : y = 0 ↔ SameTo a b k) : (y ||| ((a[k]'ha) ^^^ (b[k]'hb)).toNat = 0) ↔ SameTo a b (k + 1) := by
  rw [Nat.or_eq_zero_iff, hy]
  have hx : ((a[k]'ha) ^^^ (b[k]'hb)).toNat = 0 ↔ a[k]'ha = b[k]'hb := by
    constructor
    · intro h
      have : (a[k]'ha) ^^^ (b[k]'hb) = 0 := by apply UInt8.toNat.inj; simpa using h
      exact UInt8.xor_eq_zero_iff.1 this
    · intro h; rw [h]; simp
  rw [hx]
  constructor
  · rintro ⟨h1, h2⟩ j hj
    by_cases e : j = k
    · subst e; rw [get_toList a j ha, get_toList b j hb, h2]
    · exact h1 j (by omega)
  · intro h
    refine ⟨fun j hj => h j (by omega), ?_⟩
    have := h k (by omega)
    rw [get_toList a k ha, get_toList b k hb] at this
    exact Option.some.inj this

end Go.Proofs.YtbojcphcjggccaaDoor
