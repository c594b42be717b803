/- FnPlaces: the values that the program's places have. -/
import Derived.Test.YtmcelfiljnlmoaaPlcV
import Derived.Test.YtmcelfiljnlmoaaPartV
namespace Go.Proofs.Ytmcelfiljnlmoaa
open Go.RowKit Go.Proofs.Ytmcelfiljnlmoaa.Plc

section
variable {T P I Q t : Int}
theorem words_bd (h : GeoR T P I Q) : 46 ≤ wordsOf P I ∧ wordsOf P I ≤ 134 := by
  obtain ⟨g1, g2, g3, g4, g5, g6, g7, g8⟩ := h
  unfold wordsOf; omega
theorem commit_at (h : GeoR T P I Q) (ht : 0 ≤ t ∧ t ≤ T - 1) : placeV T P I Q t 0 = t * wordsOf P I := by rw [placeV_yes ⟨h, ht⟩]; omega
theorem serial_at (h : GeoR T P I Q) (ht : 0 ≤ t ∧ t ≤ T - 1) : placeV T P I Q t 2 = t * wordsOf P I + 2 := placeV_yes ⟨h, ht⟩
theorem journal_at (h : GeoR T P I Q) (ht : 0 ≤ t ∧ t ≤ T - 1) {k : Nat} (hk : k < 32) : jourV T P I Q t ((k : Int) / 2) = t * wordsOf P I + (4 + 2 * ((k : Int) / 2)) := by
  unfold jourV
  rw [if_pos (by omega), placeV_yes ⟨h, ht⟩]
theorem inode_at (h : GeoR T P I Q) (ht : 0 ≤ t ∧ t ≤ T - 1) {k : Nat} (hk : (k : Int) < 8 * I) : inodV T P I Q t ((k : Int) / 8) = t * wordsOf P I + (38 + 8 * ((k : Int) / 8)) := by
  unfold inodV
  rw [if_pos ⟨h, by omega⟩, placeV_yes ⟨h, ht⟩]
theorem page_at (h : GeoR T P I Q) (ht : 0 ≤ t ∧ t ≤ T - 1) {k : Nat} (hk : (k : Int) < 4 * P) : pageV T P I Q t ((k : Int) / 4) = t * wordsOf P I + (38 + 8 * I + 4 * ((k : Int) / 4)) := by
  unfold pageV
  rw [if_pos ⟨h, by omega⟩, placeV_yes ⟨h, ht⟩]
theorem pl_last {i p : Nat} : pl (34 + 8 * i + 4 * p) = 38 + 8 * i + 4 * p := by
  have := pl_later (8 * i + 4 * p)
  rw [show 34 + 8 * i + 4 * p = 34 + (8 * i + 4 * p) by omega, this]; omega
/-- Whose the j-th place is, and its kind. -/
theorem part_at (h : GeoR T P I Q) (ht : 0 ≤ t ∧ t ≤ T - 1) {j : Nat} (hj : (pl j : Int) < wordsOf P I) : partT T P I Q (t * wordsOf P I + pl j) = t ∧ partK T P I Q (t * wordsOf P I + pl j) = kd I j := by
  have hw := words_bd h
  have h0 := mul_nonneg' (t := t) (W := wordsOf P I) ht.1 (by omega)
  have h1 := mul_le (t := t) (T := T) (W := wordsOf P I) (by omega) (by omega)
  have hc : GeoR T P I Q ∧ 0 ≤ t * wordsOf P I + (pl j : Int) ∧ t * wordsOf P I + (pl j : Int) ≤ T * wordsOf P I - 1 := ⟨h, by omega, by omega⟩
  refine ⟨?_, ?_⟩
  · unfold partT; rw [if_pos hc]; exact at_div hj
  · unfold partK; rw [if_pos hc, at_mod hj]; exact kindZ_pl I j
end
end Go.Proofs.Ytmcelfiljnlmoaa
