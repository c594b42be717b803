/- Plain facts for FnFigures: the digits of a text are read back; a number brought between two. -/
import Derived.Test.YtlnfbddamlhifaaDoorUnhexMath
namespace Go.Proofs.YtlnfbddamlhifaaDoor.Hexa

theorem valI_nib_all : ∀ n : Fin 16, valI (nib n.val) = (n.val : Int) := by decide
theorem valI_nib (n : Nat) (h : n < 16) : valI (nib n) = (n : Int) := valI_nib_all ⟨n, h⟩

def hexText (t : ByteArray) : ByteArray := ⟨(hexL t.data.toList).toArray⟩
theorem hexText_size (t : ByteArray) : (hexText t).size = 2 * t.size := by
  show (hexL t.data.toList).toArray.size = _
  simp [hexL_length]

theorem hex_at : ∀ (l : List UInt8) (j : Nat) (h : j < l.length), (hexL l).getD (2 * j) 0 = nib (l[j].toNat / 16) ∧ (hexL l).getD (2 * j + 1) 0 = nib (l[j].toNat % 16)
  | c :: r, 0, _ => ⟨rfl, rfl⟩
  | c :: r, j + 1, h => by
    have := hex_at r j (by simpa using h)
    have e : hexL (c :: r) = nib (c.toNat / 16) :: nib (c.toNat % 16) :: hexL r := rfl
    rw [e, show 2 * (j + 1) = 2 * j + 1 + 1 by omega, show 2 * j + 1 + 1 + 1 = (2 * j + 1) + 1 + 1 by omega]
    simp only [List.getD_cons_succ, List.getElem_cons_succ]
    exact this

theorem byteAt_hex (t : ByteArray) (j : Nat) (h : j < t.size) : byteAt (hexText t) (2 * j) = nib (t[j].toNat / 16) ∧ byteAt (hexText t) (2 * j + 1) = nib (t[j].toNat % 16) :=
  hex_at t.data.toList j (by simpa using h)

theorem hex_good (t : ByteArray) : goodTo (hexText t) (hexText t).size := by
  intro i hi
  rw [hexText_size] at hi
  have hb := (t[i / 2]'(by omega)).toNat_lt
  obtain ⟨h1, h2⟩ := byteAt_hex t (i / 2) (by omega)
  rcases (show i = 2 * (i / 2) ∨ i = 2 * (i / 2) + 1 by omega) with e | e
  · rw [e, h1, valI_nib _ (by omega)]; omega
  · rw [e, h2, valI_nib _ (by omega)]; omega

theorem pairs_hex (t : ByteArray) : pairsL (hexText t) t.size = t.data.toList := by
  apply List.ext_getElem
  · rw [pairsL_length]; simp
  · intro j h1 h2
    have hj : j < t.size := by rw [pairsL_length] at h1; exact h1
    have hb := t[j].toNat_lt
    obtain ⟨e1, e2⟩ := byteAt_hex t j hj
    have e : pairB (byteAt (hexText t) (2 * j)) (byteAt (hexText t) (2 * j + 1)) = (t[j].toNat : Int) := by
      unfold pairB
      rw [e1, e2, valI_nib _ (by omega), valI_nib _ (by omega)]; omega
    simp only [pairsL, pairsI, List.getElem_map, List.getElem_range, e]
    simp
    rfl

theorem unhex_hex (t : ByteArray) : unhexText (hexText t) = t ∧ unhexOk (hexText t) = true := by
  obtain ⟨h1, h2⟩ := unhex_good (hex_good t)
  refine ⟨?_, h2⟩
  rw [h1, hexText_size, show 2 * t.size / 2 = t.size by omega, pairs_hex]

def brI (n l m : Int) : Int := if n < l then l else if m < n then m else n
theorem brI_bd (n l m : Int) (h : l ≤ m) : l ≤ brI n l m ∧ brI n l m ≤ m := by
  unfold brI; split
  · omega
  · split <;> omega
theorem brI_in (n l m : Int) (h : l ≤ n) (h' : n ≤ m) : brI n l m = n := by unfold brI; rw [if_neg (by omega), if_neg (by omega)]
end Go.Proofs.YtlnfbddamlhifaaDoor.Hexa
