/- A fence: what is kept, byte by byte. -/
import Derived.Test.YtlemlgadjapamaaMemMath
namespace Go.Proofs.Ytlemlgadjapamaa
open Go.RowKit Go.Proofs.Ytlemlgadjapamaa.Parts Go.Proofs.Ytlemlgadjapamaa.Hexa

theorem extract_list (K : ByteArray) (a b : Nat) : (K.extract a b).data.toList = (K.data.toList.take b).drop a := by
  rw [ByteArray.data_extract, Array.toList_extract]
  rw [List.drop_take]
theorem keepB_list (K : ByteArray) (c : C3) (xl : Nat) (h : c.l = xl) (hl : xl * 16 + 16 ≤ K.size) : (keepB K c).data.toList = K.data.toList.take (xl * 16) ++ c.t.data.toList ++ K.data.toList.drop (xl * 16 + 16) := by
  have hK : K.data.toList.length = K.size := by simp
  unfold keepB
  rw [h, show 16 * (xl : Int).toNat = xl * 16 by omega]
  simp only [ByteArray.data_append, Array.toList_append, extract_list]
  rw [List.drop_zero, List.take_of_length_le (l := K.data.toList) (i := K.size) (by omega)]
/-- What is kept behind the first k cells. -/
def keptTo (K : ByteArray) (L : List C3) (k : Nat) : ByteArray := fenceK K (L.take k)
theorem keptTo_zero (K : ByteArray) (L : List C3) : keptTo K L 0 = K := by simp [keptTo, fenceK]
theorem keptTo_all (K : ByteArray) (L : List C3) : keptTo K L L.length = fenceK K L := by simp [keptTo]
theorem keptTo_yes {K : ByteArray} {L : List C3} {k : Nat} (h : k < L.length) (hf : (L.getD k default).f = true) : keptTo K L (k + 1) = keepB (keptTo K L k) (L.getD k default) := by
  unfold keptTo; rw [take_succ h, fenceK_snoc, if_pos hf]
theorem keptTo_no {K : ByteArray} {L : List C3} {k : Nat} (h : k < L.length) (hf : (L.getD k default).f = false) : keptTo K L (k + 1) = keptTo K L k := by
  unfold keptTo; rw [take_succ h, fenceK_snoc, if_neg (by rw [hf]; simp)]
def openTo (L : List C3) (k : Nat) : List C3 := fenceL (L.take k)
theorem openTo_zero (L : List C3) : openTo L 0 = [] := by simp [openTo, fenceL]
theorem openTo_all (L : List C3) : openTo L L.length = fenceL L := by simp [openTo]
theorem openTo_yes {L : List C3} {k : Nat} (h : k < L.length) (hf : (L.getD k default).f = true) : openTo L (k + 1) = openTo L k := by
  unfold openTo; rw [take_succ h, fenceL_snoc, if_pos hf, List.append_nil]
theorem openTo_no {L : List C3} {k : Nat} (h : k < L.length) (hf : (L.getD k default).f = false) : openTo L (k + 1) = openTo L k ++ [L.getD k default] := by
  unfold openTo; rw [take_succ h, fenceL_snoc, if_neg (by rw [hf]; simp)]
theorem openTo_length (L : List C3) (k : Nat) : (openTo L k).length ≤ k := by
  unfold openTo fenceL
  exact Nat.le_trans (List.length_filter_le _ _) (by rw [List.length_take]; omega)
theorem fenceL_length (L : List C3) : (fenceL L).length ≤ L.length := by unfold fenceL; exact List.length_filter_le _ _
/-- Cells that are laid right, whatever their flags. -/
def Lies (K : ByteArray) (L : List C3) : Prop := ∀ j, j < L.length → 0 ≤ (L.getD j default).l ∧ (L.getD j default).l < (K.size / 16 : Nat) ∧ (L.getD j default).t.size = 16
theorem MemOk.lies {K : ByteArray} {L : List C3} (h : MemOk K L) : Lies K L := fun j hj => by
  have := h.2.2 j hj
  exact ⟨this.1, this.2.1, this.2.2.1⟩
theorem keptTo_size {K : ByteArray} {L : List C3} (h : Lies K L) : ∀ k, k ≤ L.length → (keptTo K L k).size = K.size
  | 0, _ => by rw [keptTo_zero]
  | k + 1, hk => by
    have ih := keptTo_size h k (by omega)
    have hc := h k (by omega)
    cases hf : (L.getD k default).f with
    | true => rw [keptTo_yes (by omega) hf, keepB_size hc.1 (by rw [ih]; exact hc.2.1) hc.2.2, ih]
    | false => rw [keptTo_no (by omega) hf, ih]
end Go.Proofs.Ytlemlgadjapamaa
