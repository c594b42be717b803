/- The first byte of a word, as a number. -/
import Derived.Test.YtcckhkihhhchbaaDoorNumFore
import Derived.Test.YtcckhkihhhchbaaDoorEntMath
namespace Go.Proofs.YtcckhkihhhchbaaDoor
open Go.RowKit Go.Proofs.YtcckhkihhhchbaaDoor.Parts Go.Proofs.YtcckhkihhhchbaaDoor.Hexa Go.Proofs.YtcckhkihhhchbaaDoor.Byt

theorem entry_head {s : ByteArray} (h : 1 ≤ s.size) : numAtV s 0 1 = ((s.data.toList.getD 0 0).toNat : Int) := by
  have hb := (s.data.toList.getD 0 0).toNat_lt
  refine numAt_fore s 0 1 _ (by omega) (by omega) (by omega) (by omega) ?_
  rw [show ((1 : Nat) : Int) = 1 from rfl, one_byte _ (by omega)]
  unfold cutL
  have hl : 1 ≤ s.data.toList.length := by simpa using h
  match s.data.toList, hl with
  | x :: r, _ => rfl
end Go.Proofs.YtcckhkihhhchbaaDoor
