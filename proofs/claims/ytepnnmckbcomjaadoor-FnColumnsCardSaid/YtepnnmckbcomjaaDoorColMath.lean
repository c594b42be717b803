/- Rows and columns as texts, time after time. -/
import Derived.Test.YtepnnmckbcomjaaDoorBlockText
import Derived.Test.YtepnnmckbcomjaaDoorAesInv
namespace Go.Proofs.YtepnnmckbcomjaaDoor
open Go.RowKit Go.Proofs.YtepnnmckbcomjaaDoor.Hexa Go.Proofs.YtepnnmckbcomjaaDoor.Byt Go.Proofs.YtepnnmckbcomjaaDoor.Aes

def shN (a : ByteArray) : Nat → ByteArray
  | 0 => a
  | n + 1 => shiftT (shN a n)
def mxN (a : ByteArray) : Nat → ByteArray
  | 0 => a
  | n + 1 => mixT (mxN a n)
theorem shN_size (a : ByteArray) (h : a.size = 16) : ∀ n, (shN a n).size = 16
  | 0 => h
  | _ + 1 => shiftT_size _
theorem mxN_size (a : ByteArray) (h : a.size = 16) : ∀ n, (mxN a n).size = 16
  | 0 => h
  | _ + 1 => mixT_size _
theorem shN_four (a : ByteArray) (h : a.size = 16) : shN a 4 = a := by
  show shiftT (shiftT (shiftT (shiftT a))) = a
  unfold shiftT
  rw [txt_list, txt_list, txt_list, shift_four (by simpa using h), txt_of]
theorem mxN_four (a : ByteArray) (h : a.size = 16) : mxN a 4 = a := by
  show mixT (mixT (mixT (mixT a))) = a
  unfold mixT
  rw [txt_list, txt_list, txt_list, mix_four (by simpa using h), txt_of]
theorem mix_linear (a b : ByteArray) (ha : a.size = 16) (hb : b.size = 16) : mixT (xorT a b) = xorT (mixT a) (mixT b) := by
  rw [xorT_txt a b (by rw [ha, hb]), xorT_txt _ _ (by rw [mixT_size, mixT_size])]
  unfold mixT
  rw [txt_list, txt_list, txt_list, mix_xor (by simpa using ha) (by simpa using hb)]
theorem xorT_sixteen (a b : ByteArray) (ha : a.size = 16) (hb : b.size = 16) : (xorT a b).size = 16 := by
  rw [xorT_txt a b (by rw [ha, hb]), txt_size]
  exact xorB_length (by simpa using ha) (by simpa using hb)
theorem boxT_nought : boxT ⟨#[0]⟩ = ⟨#[99]⟩ := by decide +kernel
theorem blockT_inj {key a b : ByteArray} (hk : key.size = 16) (ha : a.size = 16) (hb : b.size = 16) (h : blockT key a = blockT key b) : a = b := by
  have e : blockL key.data.toList a.data.toList = blockL key.data.toList b.data.toList := by
    have := congrArg (fun t => t.data.toList) h
    unfold blockT at this
    rw [txt_list, txt_list] at this
    exact this
  exact text_inj (blockL_inj (by simpa using hk) (by simpa using ha) (by simpa using hb) e)
end Go.Proofs.YtepnnmckbcomjaaDoor
