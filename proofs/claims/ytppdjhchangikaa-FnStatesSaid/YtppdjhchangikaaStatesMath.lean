/- Page states come back from their words; the pages of the three states are all pages. -/
import Derived.Test.YtppdjhchangikaaStImplD
import Derived.Test.YtppdjhchangikaaDrewsS
namespace Go.Proofs.Ytppdjhchangikaa
open Go.RowKit Go.Proofs.Ytppdjhchangikaa.Parts Go.Proofs.Ytppdjhchangikaa.Hexa Go.Proofs.Ytppdjhchangikaa.Byt

theorem cut_both {l : List UInt8} (h : l.length = 16) : (cutSt l 0 ++ cutSt l 8).data.toList = l := by
  rw [ByteArray.data_append, Array.toList_append]
  show ((l.drop 0).take 8).toArray.toList ++ ((l.drop 8).take 8).toArray.toList = l
  simp only [List.drop_zero]
  rw [List.take_of_length_le (l := l.drop 8) (by rw [List.length_drop]; omega)]
  exact List.take_append_drop 8 l
theorem ints_back {zs : List Int} (h : StR zs zs.length) : (stT zs).map (fun b => (b.toNat : Int)) = zs := by
  apply List.ext_getElem
  · simp [stT]
  · intro j h1 h2
    have h3 := h j h2
    rw [show zs.getD j 0 = zs[j] by simp [List.getD, h2]] at h3
    simp only [stT, List.getElem_map]
    have := st_byte h3
    rw [← this, IntKind.wrap_u8]
    omega
theorem list_back {zs : List Int} (h : StOk zs zs.length) : RdOk (stWords zs) (zs.length : Int) ∧ listSt (stWords zs) (zs.length : Int) = zs := by
  have h12 : zs.length ≤ 12 := by have := h.2.2.2; omega
  have hl : (partB (stT zs) 16).length = 16 := partB_length _ _ (by rw [stT_len]; omega)
  have e : listSt (stWords zs) (zs.length : Int) = zs := by
    unfold listSt bytesI
    rw [stWords_yes h]
    show ((cutSt (partB (stT zs) 16) 0 ++ cutSt (partB (stT zs) 16) 8).data.toList.take (zs.length : Int).toNat).map (fun b => (b.toNat : Int)) = zs
    rw [cut_both hl, Int.toNat_natCast]
    unfold partB
    rw [List.take_append_of_le_length (by rw [stT_len]; exact Nat.le_refl _), List.take_of_length_le (by rw [stT_len]; exact Nat.le_refl _)]
    exact ints_back h.1
  refine ⟨⟨by rw [stWords_yes h]; rfl, ?_, ?_, h.2.2, by rw [e]⟩, e⟩
  · rw [stWords_yes h]; exact cutSt_size (by omega)
  · rw [stWords_yes h]; exact cutSt_size (by omega)
theorem three_sum {zs : List Int} {n : Nat} (h : StR zs n) : (withSt zs 0 n).length + (withSt zs 1 n).length + (withSt zs 2 n).length = n := by
  induction n with
  | zero => rfl
  | succ n ih =>
    have ih := ih (fun j hj => h j (by omega))
    have hz := h n (by omega)
    obtain h0 | h0 | h0 : zs.getD n 0 = 0 ∨ zs.getD n 0 = 1 ∨ zs.getD n 0 = 2 := by omega
    · rw [withSt_yes h0, withSt_no (s := 1) (by omega), withSt_no (s := 2) (by omega), List.length_append, List.length_singleton]; omega
    · rw [withSt_yes h0, withSt_no (s := 0) (by omega), withSt_no (s := 2) (by omega), List.length_append, List.length_singleton]; omega
    · rw [withSt_yes h0, withSt_no (s := 0) (by omega), withSt_no (s := 1) (by omega), List.length_append, List.length_singleton]; omega
theorem srcI_of_T {w : World} {B T n n' c : Nat} {a : Option Addr} {L : List Int} (h : OwnT 3 w B T (.slice a n' c) n (icells L)) : SrcI w a n L ∧ n ≤ c ∧ c ≤ 9223372036854775807 := by
  obtain ⟨a', c', q, e, hl, h1, h2, h⟩ := h
  cases e
  rw [icells_length] at hl
  refine ⟨?_, h1, Nat.le_trans h2 (by decide)⟩
  rcases h with rfl | h
  · exact ⟨hl, fun j hj => by omega⟩
  · exact srcI_of_own h.1
end Go.Proofs.Ytppdjhchangikaa
