/- The round keys as texts. -/
import Derived.Test.YtepnnmckbcomjaaDoorAesText
import Derived.Test.YtepnnmckbcomjaaDoorPartsMath
import Derived.WalkKit
namespace Go.Proofs.YtepnnmckbcomjaaDoor
open Go.RowKit Go.Proofs.YtepnnmckbcomjaaDoor.Hexa Go.Proofs.YtepnnmckbcomjaaDoor.Byt Go.Proofs.YtepnnmckbcomjaaDoor.Aes Go.Proofs.YtepnnmckbcomjaaDoor.Parts

theorem infoKeys : (Tryd.prog.info? 9).map (fun i => (i.zero, i.size, i.bytes)) = some (some (.string ⟨#[]⟩), 1, 16) := by kernel_rfl
/-- Round key i of a key, and the first n of them. -/
def keyT (s : ByteArray) (i : Nat) : ByteArray := txt (keyAt s.data.toList i)
def keysTo (s : ByteArray) (n : Nat) : List ByteArray := (List.range n).map (keyT s)
theorem keysTo_length (s : ByteArray) (n : Nat) : (keysTo s n).length = n := by simp [keysTo]
theorem keyT_size (s : ByteArray) (hs : s.size = 16) (i : Nat) (hi : i < 11) : (keyT s i).size = 16 := by
  unfold keyT
  rw [txt_size]
  exact keyAt_length _ (by simpa using hs) i hi
theorem keyT_zero (s : ByteArray) (hs : s.size = 16) : keyT s 0 = s := by
  unfold keyT
  rw [keyAt_zero _ (by simpa using hs), txt_of]
theorem keyT_next (s : ByteArray) (hs : s.size = 16) (i : Nat) (hi : i < 10) : txt (afterL (keyT s i).data.toList (i + 1)) = keyT s (i + 1) := by
  unfold keyT
  rw [txt_list, ← keyAt_next _ (by simpa using hs) i hi]
theorem keysTo_next (s : ByteArray) (n : Nat) : scells (keysTo s n) ++ [.string (keyT s n)] = scells (keysTo s (n + 1)) := by simp [keysTo, scells, List.range_succ]
theorem keysTo_one (s : ByteArray) (hs : s.size = 16) : scells (keysTo s 1) = [.string s] := by
  show [Value.string (keyT s 0)] = _
  rw [keyT_zero s hs]
theorem keysTo_at (s : ByteArray) (n i : Nat) (h : i < n) : (scells (keysTo s n))[i]? = some (.string (keyT s i)) := by simp [keysTo, scells, h]
/-- Some slice of the call's own that holds these texts. -/
def GivesK (P : List ByteArray) (w : World) (e : Ending) (w' : World) : Prop :=
  ∃ v, e = .returned v ∧ w'.ownsRow w.heap.size 9 1 v P.length (scells P) ∧ Below w.heap.size w w'
end Go.Proofs.YtepnnmckbcomjaaDoor
