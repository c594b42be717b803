/- What a word says as an entry. -/
import Derived.Test.YtcckhkihhhchbaaDoorRecMath
namespace Go.Proofs.YtcckhkihhhchbaaDoor
open Go.RowKit Go.Proofs.YtcckhkihhhchbaaDoor.Parts Go.Proofs.YtcckhkihhhchbaaDoor.Hexa Go.Proofs.YtcckhkihhhchbaaDoor.Byt

/-- The end of a word's text without its last zeros, at least 1. -/
def endTo (l : List UInt8) : Nat → Nat
  | 0 => 1
  | 1 => 1
  | k + 2 => if l.getD (k + 1) 0 = 0 then endTo l (k + 1) else k + 2
def endOf (s : ByteArray) : Nat := endTo s.data.toList 8
theorem endTo_one (l : List UInt8) : endTo l 1 = 1 := rfl
theorem endTo_step (l : List UInt8) (k : Nat) (h : l.getD (k + 1) 0 = 0) : endTo l (k + 2) = endTo l (k + 1) := if_pos h
theorem endTo_stop (l : List UInt8) (k : Nat) (h : ¬ l.getD (k + 1) 0 = 0) : endTo l (k + 2) = k + 2 := if_neg h
theorem endTo_bd (l : List UInt8) : ∀ k, 1 ≤ endTo l k ∧ (1 ≤ k → endTo l k ≤ k)
  | 0 => ⟨Nat.le_refl _, fun h => by omega⟩
  | 1 => ⟨Nat.le_refl _, fun _ => Nat.le_refl _⟩
  | k + 2 => by
    have h := endTo_bd l (k + 1)
    rw [endTo]
    split
    · exact ⟨h.1, fun _ => by have := h.2 (by omega); omega⟩
    · exact ⟨by omega, fun _ => Nat.le_refl _⟩
theorem endTo_zero (l : List UInt8) : ∀ k j, endTo l k ≤ j → j < k → 1 ≤ j → l.getD j 0 = 0
  | 0, j, _, h, _ => by omega
  | 1, j, _, h, h1 => by omega
  | k + 2, j, he, hj, h1 => by
    by_cases hz : l.getD (k + 1) 0 = 0
    · rw [endTo_step l k hz] at he
      by_cases e : j = k + 1
      · subst e; exact hz
      · exact endTo_zero l (k + 1) j he (by omega) h1
    · rw [endTo_stop l k hz] at he; omega
def entryOf (s : ByteArray) : EntryR := ⟨((s.data.toList.getD 0 0).toNat : Int), s.extract 1 (endOf s)⟩
def entryReadB (s : ByteArray) : Bool := decide (s.size = 8 ∧ EntryOk (entryOf s))
def entryReadR (s : ByteArray) : EntryR := if s.size = 8 ∧ EntryOk (entryOf s) then entryOf s else ⟨0, ⟨#[]⟩⟩
theorem one_byte (b : UInt8) (_h : 0 ≤ (b.toNat : Int)) : (numTextB (b.toNat : Int) 1).data.toList = [b] := by
  have hb := b.toNat_lt
  unfold numTextB
  rw [if_pos ⟨by omega, by omega, by simp; omega⟩]
  simp [numB, numL]
theorem longB_list (n : Nat) : (longB n 0).data.toList = List.replicate n 0 := by
  unfold longB
  simp
set_option maxRecDepth 100000 in
theorem entry_back {s : ByteArray} (h8 : s.size = 8) (h : EntryOk (entryOf s)) : entryWordB (entryOf s) = s := by
  rw [entryWordB_yes h]
  have hl : s.data.toList.length = 8 := by simpa using h8
  have hE := endTo_bd s.data.toList 8
  have hE8 := hE.2 (by omega)
  have hz := endTo_zero s.data.toList 8
  obtain ⟨E, hEe⟩ : ∃ E, endTo s.data.toList 8 = E := ⟨_, rfl⟩
  have h1 := one_byte (s.data.toList.getD 0 0) (by omega)
  have hA : (numTextB ((s.data.toList.getD 0 0).toNat : Int) 1).size = 1 := by
    have : (numTextB ((s.data.toList.getD 0 0).toNat : Int) 1).data.toList.length = 1 := by rw [h1]; rfl
    simpa using this
  have hM : (s.extract 1 E).size = E - 1 := by rw [ByteArray.size_extract]; rw [hEe] at hE8; omega
  rw [hEe] at hE hE8 hz
  have hx : (s.extract 1 E).data.toList = (s.data.toList.drop 1).take (E - 1) := by
    have h2 := cut_extract s 1 (E - 1)
    rw [show 1 + (E - 1) = E by have := hE.1; omega] at h2
    exact h2
  have hsz : (numTextB ((s.data.toList.getD 0 0).toNat : Int) 1 ++ s.extract 1 E).size = E := by rw [ByteArray.size_append, hA, hM]; omega
  unfold entryOf endOf wordB
  rw [hEe]
  simp only
  rw [if_pos (by rw [hsz]; omega), hsz]
  apply ByteArray.ext
  apply Array.toList_inj.1
  simp only [ByteArray.data_append, Array.toList_append]
  rw [h1, hx, longB_list]
  apply List.ext_getElem?
  intro j
  by_cases hj0 : j = 0
  · subst hj0
    simp [List.getD, hl]
  have hl1 : (([s.data.toList.getD 0 0] : List UInt8) ++ (s.data.toList.drop 1).take (E - 1)).length = E := by rw [List.length_append, List.length_take, List.length_drop, hl]; simp; omega
  by_cases hj1 : j < E
  · rw [List.append_assoc, List.getElem?_append_right (by simp; omega), List.getElem?_append_left (by simp [hl]; omega)]
    rw [List.getElem?_take, if_pos (by simp; omega), List.getElem?_drop]
    congr 1; simp; omega
  · by_cases hj8 : j < 8
    · rw [List.getElem?_append_right (by rw [hl1]; omega), List.getElem?_replicate, if_pos (by rw [hl1]; omega)]
      have hv := hz j (by omega) hj8 (by omega)
      have hjl : j < s.data.toList.length := by omega
      have h3 : s.data.toList.getD j 0 = s.data.toList[j] := by simp only [List.getD, List.getElem?_eq_getElem hjl, Option.getD_some]
      rw [List.getElem?_eq_getElem hjl, ← h3, hv]
    · rw [List.getElem?_eq_none (by rw [List.length_append, hl1, List.length_replicate]; omega), List.getElem?_eq_none (by omega)]
end Go.Proofs.YtcckhkihhhchbaaDoor
