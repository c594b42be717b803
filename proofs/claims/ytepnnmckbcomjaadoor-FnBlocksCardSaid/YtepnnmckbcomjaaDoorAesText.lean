/- Texts as lists of bytes. -/
import Derived.Test.YtepnnmckbcomjaaDoorKeyMath
import Derived.Test.YtepnnmckbcomjaaDoorNumMath
namespace Go.Proofs.YtepnnmckbcomjaaDoor
open Go.RowKit Go.Proofs.YtepnnmckbcomjaaDoor.Hexa Go.Proofs.YtepnnmckbcomjaaDoor.Byt Go.Proofs.YtepnnmckbcomjaaDoor.Aes

def txt (l : List UInt8) : ByteArray := ⟨l.toArray⟩
theorem txt_list (l : List UInt8) : (txt l).data.toList = l := by simp [txt]
theorem txt_size (l : List UInt8) : (txt l).size = l.length := by show l.toArray.size = l.length; simp
theorem list_size (s : ByteArray) : s.data.toList.length = s.size := by simp
theorem txt_of (s : ByteArray) : txt s.data.toList = s := rfl
theorem text_inj {a b : ByteArray} (h : a.data.toList = b.data.toList) : a = b := ByteArray.ext (Array.toList_inj.1 h)
theorem txt_append (a b : List UInt8) : txt a ++ txt b = txt (a ++ b) := by
  apply text_inj
  rw [ByteArray.data_append, Array.toList_append, txt_list, txt_list, txt_list]
theorem txt_extract (s : ByteArray) (i j : Nat) : s.extract i j = txt ((s.data.toList.drop i).take (j - i)) := by
  apply text_inj
  rw [ByteArray.data_extract, Array.toList_extract, txt_list, List.extract_eq_take_drop]
theorem xorT_txt (a b : ByteArray) (h : a.size = b.size) : xorT a b = txt (xorB a.data.toList b.data.toList) := by
  have h1 : a.data.toList.length = a.size := by simp
  have h2 : b.data.toList.length = b.size := by simp
  unfold xorT
  rw [if_pos h]
  show (⟨(xorL a b a.size).toArray⟩ : ByteArray) = _
  unfold xorL
  rw [List.take_of_length_le (by rw [List.length_zipWith]; omega)]
  rfl
theorem word_text (s : ByteArray) (j : Nat) : s.extract (4 * j) (4 * j + 4) = txt (wordO s.data.toList j) := by
  rw [txt_extract, show 4 * j + 4 - 4 * j = 4 by omega]
  rfl
theorem xor_words (s : ByteArray) (hs : s.size = 16) (k j : Nat) (hj : j < 4) : xorT (s.extract (4 * j) (4 * j + 4)) (txt (goneW s.data.toList k j)) = txt (goneW s.data.toList k (j + 1)) := by
  have hl : s.data.toList.length = 16 := by simpa using hs
  rw [word_text, xorT_txt _ _ (by rw [txt_size, txt_size, wordO_length _ hl j hj, goneW_length _ k hl j (by omega)]), txt_list, txt_list]
  rfl
theorem step_words (l : List UInt8) (k j : Nat) : txt (goneT l k j) ++ txt (goneW l k (j + 1)) = txt (goneT l k (j + 1)) := by rw [txt_append]; rfl
theorem turn_words (s : ByteArray) (k : Nat) : turnedL (s.extract 12 16).data.toList k = goneW s.data.toList k 0 := by
  rw [txt_extract, txt_list]
  rfl
end Go.Proofs.YtepnnmckbcomjaaDoor
