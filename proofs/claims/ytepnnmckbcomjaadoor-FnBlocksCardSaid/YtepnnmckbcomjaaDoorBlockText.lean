/- A block's text, round by round. -/
import Derived.Test.YtepnnmckbcomjaaDoorKeysText
namespace Go.Proofs.YtepnnmckbcomjaaDoor
open Go.RowKit Go.Proofs.YtepnnmckbcomjaaDoor.Hexa Go.Proofs.YtepnnmckbcomjaaDoor.Byt Go.Proofs.YtepnnmckbcomjaaDoor.Aes Go.Proofs.YtepnnmckbcomjaaDoor.Parts

def boxT (s : ByteArray) : ByteArray := txt (boxL s.data.toList)
def shiftT (s : ByteArray) : ByteArray := txt (shiftL s.data.toList)
def mixT (s : ByteArray) : ByteArray := txt (mixL s.data.toList)
theorem boxT_size (s : ByteArray) : (boxT s).size = s.size := by unfold boxT; rw [txt_size, boxL_length]; simp
theorem shiftT_size (s : ByteArray) : (shiftT s).size = 16 := by unfold shiftT; rw [txt_size, shiftL_length]
theorem mixT_size (s : ByteArray) : (mixT s).size = 16 := by unfold mixT; rw [txt_size, mixL_length]
/-- A block behind its first n rounds. -/
def stT (key s : ByteArray) (n : Nat) : ByteArray := txt (roundsL (keyAt key.data.toList) s.data.toList n)
theorem stT_size (key s : ByteArray) (hk : key.size = 16) (hs : s.size = 16) (n : Nat) (hn : n < 11) : (stT key s n).size = 16 := by
  unfold stT
  rw [txt_size]
  exact roundsL_length _ _ (fun i hi => keyAt_length _ (by simpa using hk) i hi) (by simpa using hs) n hn
theorem stT_zero (key s : ByteArray) (hk : key.size = 16) (hs : s.size = 16) : xorT s (keyT key 0) = stT key s 0 := by
  rw [xorT_txt _ _ (by rw [hs, keyT_size key hk 0 (by omega)])]
  unfold stT keyT
  rw [txt_list]
  rfl
/-- The steps of a round, one after another: boxes, rows, columns. -/
def stepT (s : ByteArray) : Nat → ByteArray
  | 0 => s
  | 1 => boxT s
  | 2 => shiftT (boxT s)
  | _ => mixT (shiftT (boxT s))
def stepsN (k : Nat) : Nat := if k = 10 then 2 else 3
theorem stT_next (key s : ByteArray) (hk : key.size = 16) (n : Nat) (hn : n < 10) : xorT (stepT (stT key s n) (stepsN (n + 1))) (keyT key (n + 1)) = stT key s (n + 1) := by
  have hsz : (stepT (stT key s n) (stepsN (n + 1))).size = 16 := by
    unfold stepsN
    split
    · exact shiftT_size _
    · exact mixT_size _
  rw [xorT_txt _ _ (by rw [hsz, keyT_size key hk (n + 1) (by omega)])]
  have e : (stepT (stT key s n) (stepsN (n + 1))).data.toList = if n + 1 < 10 then mixL (shiftL (boxL (roundsL (keyAt key.data.toList) s.data.toList n))) else shiftL (boxL (roundsL (keyAt key.data.toList) s.data.toList n)) := by
    unfold stepsN
    by_cases h : n + 1 = 10
    · rw [if_pos h, if_neg (by omega)]
      show (txt _).data.toList = _
      rw [txt_list]
      show shiftL (txt _).data.toList = _
      rw [txt_list]
      show shiftL (boxL (txt _).data.toList) = _
      rw [txt_list]
    · rw [if_neg h, if_pos (by omega)]
      show (txt _).data.toList = _
      rw [txt_list]
      show mixL (txt _).data.toList = _
      rw [txt_list]
      show mixL (shiftL (txt _).data.toList) = _
      rw [txt_list]
      show mixL (shiftL (boxL (txt _).data.toList)) = _
      rw [txt_list]
  rw [e]
  unfold stT keyT
  rw [txt_list]
  rfl
/-- What BlockText returns. -/
def blockT (key s : ByteArray) : ByteArray := txt (blockL key.data.toList s.data.toList)
theorem blockT_eq (key s : ByteArray) : stT key s 10 = blockT key s := rfl
theorem blockT_size (key s : ByteArray) (hk : key.size = 16) (hs : s.size = 16) : (blockT key s).size = 16 := stT_size key s hk hs 10 (by omega)
/-- A slice of texts reads on, where nothing below is written. -/
theorem reads_below {w w' : World} {ad : Option Addr} {P : List ByteArray} (h : Reads w ad (scells P)) (hb : Below w.heap.size w w') : Reads w' ad (scells P) := by
  intro j hj
  obtain ⟨g, hg, hc⟩ := h j hj
  refine ⟨g, hg, ?_⟩
  have hlt : g < w.heap.size := by
    rcases Nat.lt_or_ge g w.heap.size with h1 | h1
    · exact h1
    · rw [List.getElem?_eq_getElem hj] at hc
      simp [World.cell?, Array.getElem?_eq_none h1] at hc
  rw [hb.cell (by exact hlt)]
  exact hc
theorem reads_key {w : World} {ad : Option Addr} {s : ByteArray} (h : Reads w ad (scells (keysTo s 11))) (i : Nat) (hi : i < 11) : ∃ g, ad = some ⟨g, 0, none⟩ ∧ w.cell? ⟨g, i, none⟩ = some (.string (keyT s i)) := by
  obtain ⟨g, hg, hc⟩ := h i (by simp [scells, keysTo_length]; omega)
  exact ⟨g, hg, by rw [hc]; exact keysTo_at s 11 i hi⟩
end Go.Proofs.YtepnnmckbcomjaaDoor
