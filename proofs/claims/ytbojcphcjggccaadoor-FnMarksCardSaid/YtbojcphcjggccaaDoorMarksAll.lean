/- All drawn texts and keys: the keyed hashes of a text and of the text with one byte more differ. -/
import Derived.Test.YtbojcphcjggccaaDoorMarksKeys
import Derived.Test.YtbojcphcjggccaaDoorMarksOk0
import Derived.Test.YtbojcphcjggccaaDoorMarksOk1
import Derived.Test.YtbojcphcjggccaaDoorMarksOk2
import Derived.Test.YtbojcphcjggccaaDoorMarksOk3
import Derived.Test.YtbojcphcjggccaaDoorMarksDrawn
namespace Go.Proofs.YtbojcphcjggccaaDoor
open Go.Proofs.YtbojcphcjggccaaDoor.Sha Go.Proofs.YtbojcphcjggccaaDoor.Hexa Go.Proofs.YtbojcphcjggccaaDoor.Byt Go.Proofs.YtbojcphcjggccaaDoor.Simd

theorem marks_all (q d : Nat) (hq : q < 4) (hd : d < 7) : marksOk q 10 (10 * d) = true := by
  have go : ∀ {q j : Nat}, marksOk q 10 j = true → ∀ {d : Nat}, j = 10 * d → marksOk q 10 (10 * d) = true := fun h _ e => e ▸ h
  rcases q with _ | _ | _ | _ | q
  · rcases d with _ | _ | _ | _ | _ | _ | _ | d
    · exact go mok_0_0 rfl
    · exact go mok_0_10 rfl
    · exact go mok_0_20 rfl
    · exact go mok_0_30 rfl
    · exact go mok_0_40 rfl
    · exact go mok_0_50 rfl
    · exact go mok_0_60 rfl
    · omega
  · rcases d with _ | _ | _ | _ | _ | _ | _ | d
    · exact go mok_1_0 rfl
    · exact go mok_1_10 rfl
    · exact go mok_1_20 rfl
    · exact go mok_1_30 rfl
    · exact go mok_1_40 rfl
    · exact go mok_1_50 rfl
    · exact go mok_1_60 rfl
    · omega
  · rcases d with _ | _ | _ | _ | _ | _ | _ | d
    · exact go mok_2_0 rfl
    · exact go mok_2_10 rfl
    · exact go mok_2_20 rfl
    · exact go mok_2_30 rfl
    · exact go mok_2_40 rfl
    · exact go mok_2_50 rfl
    · exact go mok_2_60 rfl
    · omega
  · rcases d with _ | _ | _ | _ | _ | _ | _ | d
    · exact go mok_3_0 rfl
    · exact go mok_3_10 rfl
    · exact go mok_3_20 rfl
    · exact go mok_3_30 rfl
    · exact go mok_3_40 rfl
    · exact go mok_3_50 rfl
    · exact go mok_3_60 rfl
    · omega
  · omega
theorem key_index (n : Nat) (hn : n ∈ keyNs) : ∃ k, k < 8 ∧ keyNs.getD k 101 = n := by
  simp only [keyNs, List.mem_cons, List.not_mem_nil, or_false] at hn
  rcases hn with rfl | rfl | rfl | rfl | rfl | rfl | rfl | rfl
  · exact ⟨0, by omega, rfl⟩
  · exact ⟨1, by omega, rfl⟩
  · exact ⟨2, by omega, rfl⟩
  · exact ⟨3, by omega, rfl⟩
  · exact ⟨4, by omega, rfl⟩
  · exact ⟨5, by omega, rfl⟩
  · exact ⟨6, by omega, rfl⟩
  · exact ⟨7, by omega, rfl⟩
theorem marks_ne {k t : ByteArray} (hk : Draw.KeyD k) (ht : Draw.TextD t) : hmacB k t ≠ hmacB k (t ++ ⟨#[97]⟩) := by
  obtain ⟨n, b, hn, hb, rfl⟩ := hk
  obtain ⟨q, j, hq, hj, rfl⟩ := ht
  obtain ⟨i, hi, rfl⟩ := key_index n hn
  have hl := Draw.drawT_length q j hq hj
  have h := marks_say q 10 (10 * (j / 10)) (marks_all q (j / 10) hq (by omega)) (j % 10) (by omega) i b hi hb
  rw [show 10 * (j / 10) + j % 10 = j by omega] at h
  have e : (⟨(drawT q j).toArray⟩ : ByteArray) ++ ⟨#[97]⟩ = ⟨(drawT q j ++ [97]).toArray⟩ := by
    apply ByteArray.ext
    rw [ByteArray.data_append]
    apply Array.toList_inj.1
    rw [Array.toList_append]
  rw [e]
  exact h (by omega)
end Go.Proofs.YtbojcphcjggccaaDoor
