/- Chapter 8: what its functions return. -/
import Derived.Test.YtbojcphcjggccaaDoorNonceMath
import Derived.Test.YtbojcphcjggccaaDoorMarkDef
namespace Go.Proofs.YtbojcphcjggccaaDoor
open Go.RowKit Go.Proofs.YtbojcphcjggccaaDoor.Sha Go.Proofs.YtbojcphcjggccaaDoor.Hexa Go.Proofs.YtbojcphcjggccaaDoor.Byt

theorem text_nil (x : ByteArray) (h : x.size = 0) : x = ⟨#[]⟩ := by
  apply ByteArray.ext
  exact Array.eq_empty_of_size_eq_zero h
theorem text_not (x : ByteArray) (h : 0 < x.size) : (x.toList == []) = false := by
  apply beq_eq_false_iff_ne.2
  intro e
  have h1 : x.toList.length = x.size := by rw [Go.ByteArray.toList_eq]; simp
  rw [e] at h1
  simp at h1
  omega
theorem text_not' (x : ByteArray) (h : 0 < x.size) : ([] == x.toList) = false := by
  have := text_not x h
  apply beq_eq_false_iff_ne.2
  intro e
  rw [← e] at this
  simp at this

/-- The mark of a word and a file's two numbers. -/
def madeB (s wd : ByteArray) (i g : Int) : ByteArray := if (numTextB i 1).size = 1 ∧ (numTextB g 2).size = 2 then markB s (wd ++ numTextB i 1 ++ numTextB g 2) 8 else ⟨#[]⟩
def keyWord : ByteArray := ⟨#[107, 101, 121]⟩
def wrapWord : ByteArray := ⟨#[119, 114, 97, 112]⟩
def pageWord : ByteArray := ⟨#[112, 97, 103, 101]⟩
def markWord : ByteArray := ⟨#[109, 97, 114, 107]⟩
def fileKeyB (s : ByteArray) (i g : Int) : ByteArray := madeB s keyWord i g
def wrapMaskB (s : ByteArray) (i g : Int) : ByteArray := madeB s wrapWord i g
def wrappedB (s : ByteArray) (i g : Int) : ByteArray := xorT (fileKeyB s i g) (wrapMaskB s i g)
def unwB (s : ByteArray) (i g : Int) (t : ByteArray) : Bool := decide (0 < (xorT t (wrapMaskB s i g)).size ∧ xorT t (wrapMaskB s i g) = fileKeyB s i g)
def unwT (s : ByteArray) (i g : Int) (t : ByteArray) : ByteArray := if unwB s i g t = true then xorT t (wrapMaskB s i g) else ⟨#[]⟩

theorem markB_le (k t : ByteArray) (n : Int) : (markB k t n).size ≤ 32 := by
  unfold markB
  split
  · rw [ByteArray.size_extract, hmacB_size]; omega
  · show 0 ≤ 32; omega
theorem madeB_le (s wd : ByteArray) (i g : Int) : (madeB s wd i g).size ≤ 32 := by
  unfold madeB
  split
  · exact markB_le _ _ _
  · show 0 ≤ 32; omega
theorem madeB_no (s wd : ByteArray) (i g : Int) (h : ¬ ((numTextB i 1).size = 1 ∧ (numTextB g 2).size = 2)) : madeB s wd i g = ⟨#[]⟩ := if_neg h
theorem madeB_yes (s wd : ByteArray) (i g : Int) (h : (numTextB i 1).size = 1 ∧ (numTextB g 2).size = 2) : madeB s wd i g = markB s (wd ++ numTextB i 1 ++ numTextB g 2) 8 := if_pos h
end Go.Proofs.YtbojcphcjggccaaDoor
