/- The state of SHA-256 as numbers; the known digest of "abc". -/
import Derived.Test.YtbojcphcjggccaaDoorBlkImpl
import Derived.Test.YtbojcphcjggccaaDoorCutImpl
import Derived.Test.YtbojcphcjggccaaDoorDigHex
import Derived.Test.YtbojcphcjggccaaDoorSimdBlk
import Derived.Test.YtbojcphcjggccaaDoorNumTSpec
namespace Go.Proofs.YtbojcphcjggccaaDoor
open Go.RowKit Go.Proofs.YtbojcphcjggccaaDoor.Sha Go.Proofs.YtbojcphcjggccaaDoor.Hexa Go.Proofs.YtbojcphcjggccaaDoor.Byt Go.Proofs.YtbojcphcjggccaaDoor.Parts Go.Proofs.YtbojcphcjggccaaDoor.Simd

theorem ints_good (S : St8) : Good (ints S) := ⟨ints_length S, fun j hj => by
  rw [ints_get S j hj]
  have := u_bd (S.list.getD j 0)
  exact ⟨by omega, by omega⟩⟩
theorem wordOf_of (x : UInt32) : wordOf (u x) = x := by
  have h := wordOf_u (z := u x) ⟨(u_bd x).1, by have := (u_bd x).2; omega⟩
  apply UInt32.toNat_inj.1
  have h2 : ((wordOf (u x)).toNat : Int) = (x.toNat : Int) := h
  omega
theorem stOf_ints (S : St8) : stOf (ints S) = S := by
  obtain ⟨a, b, c, d, e, f, g, h⟩ := S
  show (⟨wordOf (u a), wordOf (u b), wordOf (u c), wordOf (u d), wordOf (u e), wordOf (u f), wordOf (u g), wordOf (u h)⟩ : St8) = _
  simp only [wordOf_of]
theorem num_be4 (x : UInt32) : numB x.toNat 4 = ⟨(be4 x).toArray⟩ := by
  have h : numL x.toNat 4 4 = be4 x := by
    unfold numL be4
    simp [List.range_succ]
  unfold numB
  rw [h]
theorem abc_sole : soleB ⟨#[97, 98, 99]⟩ = flatB [1633837952, 0, 0, 0, 0, 0, 0, 0, 0, 0, 0, 0, 0, 0, 0, 24] := by
  have h : (soleB ⟨#[97, 98, 99]⟩).data.toList = (flatB [1633837952, 0, 0, 0, 0, 0, 0, 0, 0, 0, 0, 0, 0, 0, 0, 24]).data.toList := by decide +kernel
  exact ByteArray.ext (Array.toList_inj.1 h)
theorem abc_state : blockS firstS keyL (flatB [1633837952, 0, 0, 0, 0, 0, 0, 0, 0, 0, 0, 0, 0, 0, 0, 24]) = ⟨0xba7816bf, 0x8f01cfea, 0x414140de, 0x5dae2223, 0xb00361a3, 0x96177a9c, 0xb410ff61, 0xf20015ad⟩ :=
  blk_is _ _ 1633837952 0 0 0 0 0 0 0 0 0 0 0 0 0 0 24 (by decide +kernel)
def abcHex : ByteArray := ⟨#[98, 97, 55, 56, 49, 54, 98, 102, 56, 102, 48, 49, 99, 102, 101, 97, 52, 49, 52, 49, 52, 48, 100, 101, 53, 100, 97, 101, 50, 50, 50, 51, 98, 48, 48, 51, 54, 49, 97, 51, 57, 54, 49, 55, 55, 97, 57, 99, 98, 52, 49, 48, 102, 102, 54, 49, 102, 50, 48, 48, 49, 53, 97, 100]⟩
theorem abc_list : abcHex.toList = [98, 97, 55, 56, 49, 54, 98, 102, 56, 102, 48, 49, 99, 102, 101, 97, 52, 49, 52, 49, 52, 48, 100, 101, 53, 100, 97, 101, 50, 50, 50, 51, 98, 48, 48, 51, 54, 49, 97, 51, 57, 54, 49, 55, 55, 97, 57, 99, 98, 52, 49, 48, 102, 102, 54, 49, 102, 50, 48, 48, 49, 53, 97, 100] := by
  rw [Go.ByteArray.toList_eq]
  rfl
theorem abc_known : hexB2 ⟨#[97, 98, 99]⟩ = abcHex := by
  unfold hexB2
  rw [dig_one _ (by decide), abc_sole, abc_state]
  have h : hexL (textL ⟨0xba7816bf, 0x8f01cfea, 0x414140de, 0x5dae2223, 0xb00361a3, 0x96177a9c, 0xb410ff61, 0xf20015ad⟩) = abcHex.data.toList := by decide +kernel
  apply ByteArray.ext
  apply Array.toList_inj.1
  exact h
theorem pad_head (t : ByteArray) : (padB t).extract 0 t.size = t := by
  apply ByteArray.ext
  apply Array.toList_inj.1
  have hl : t.data.toList.length = t.size := by simp
  have e : (Pad.padL t).take t.size = t.data.toList := by
    unfold Pad.padL Pad.padK Pad.head
    rw [List.append_assoc, List.append_assoc, List.take_append_of_le_length (by omega), List.take_of_length_le (by omega)]
  have h2 : ((padB t).extract 0 t.size).data.toList = (Pad.padL t).take t.size := by
    rw [ByteArray.data_extract]
    simp [padB]
  rw [h2, e]
theorem pad_len (t : ByteArray) : (padB t).size = t.size + 9 + Pad.zer t.size := by
  show (Pad.padL t).toArray.size = _
  rw [List.size_toArray, Pad.padL_length]
  omega
end Go.Proofs.YtbojcphcjggccaaDoor
