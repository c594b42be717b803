/- Worlds behind draws. -/
import Derived.Test.YtppdjhchangikaaDrews
import Derived.Test.YtppdjhchangikaaStSpecD
namespace Go.Proofs.Ytppdjhchangikaa
open Go.RowKit Go.Proofs.Ytppdjhchangikaa.Parts Go.Proofs.Ytppdjhchangikaa.Hexa
theorem below_draws' {B : Nat} {a w : World} (h : Below B a w) (m : Nat) : Below B a (w.drewN m) := ⟨h.os, h.tape, h.output, h.size, h.block⟩
theorem own_draws' {w : World} {base e : Nat} {v : Value} {n : Nat} {xs : List Value} (h : w.ownsRow base e 1 v n xs) (m : Nat) : (w.drewN m).ownsRow base e 1 v n xs := h
theorem drewN_size (w : World) (m : Nat) : (w.drewN m).heap.size = w.heap.size := rfl
theorem firstR_len (zs : List Int) (q : Int) : (firstR zs q).length ≤ zs.length := by
  unfold firstR
  split
  · have := withSt_len zs 0 zs.length; rw [List.length_take]; omega
  · exact Nat.zero_le _
theorem stWords_len (zs : List Int) : (stWords zs).length ≤ 2 := by unfold stWords; split <;> simp
theorem rdR_len (P : List ByteArray) (p : Int) : (rdR P p).length ≤ 12 := by
  by_cases h : RdOk P p
  · rw [rdR_yes h]
    unfold listSt bytesI
    rw [List.length_map, List.length_take]
    have := h.2.2.2.1
    omega
  · rw [rdR_no h]; exact Nat.zero_le _
end Go.Proofs.Ytppdjhchangikaa
