/- The words of a text. -/
import Derived.Test.YtppdjhchangikaaNumMath
namespace Go.Proofs.Ytppdjhchangikaa
open Go.RowKit Go.Proofs.Ytppdjhchangikaa.Hexa Go.Proofs.Ytppdjhchangikaa.Byt Go.Proofs.Ytppdjhchangikaa.BitsM Go.Proofs.Ytppdjhchangikaa.Parts

theorem infoText : (Try.prog.info? 9).map (fun i => (i.zero, i.size, i.bytes)) = some (some (.string ⟨#[]⟩), 1, 16) := by kernel_rfl
def wordsN (s : ByteArray) : Nat := (s.size + 7) / 8
/-- Word k of a text. -/
def wordAt (s : ByteArray) (k : Nat) : ByteArray := wordB (s.extract (8 * k) (min (8 * k + 8) s.size))
/-- The words of a text. -/
def wordsL (s : ByteArray) : List ByteArray := (List.range (wordsN s)).map (wordAt s)
theorem wordsL_length (s : ByteArray) : (wordsL s).length = wordsN s := by simp [wordsL]
def wordsTo (s : ByteArray) (k : Nat) : List ByteArray := (List.range k).map (wordAt s)
theorem wordsTo_next (s : ByteArray) (k : Nat) : scells (wordsTo s k) ++ [.string (wordAt s k)] = scells (wordsTo s (k + 1)) := by simp [wordsTo, scells, List.range_succ]
theorem wordsTo_all (s : ByteArray) : wordsTo s (wordsN s) = wordsL s := rfl

/-- Some slice of the call's own that holds these texts. -/
def GivesT (P : List ByteArray) (w : World) (e : Ending) (w' : World) : Prop :=
  ∃ v, e = .returned v ∧ w'.ownsRow w.heap.size 9 1 v P.length (scells P) ∧ Below w.heap.size w w'

end Go.Proofs.Ytppdjhchangikaa
