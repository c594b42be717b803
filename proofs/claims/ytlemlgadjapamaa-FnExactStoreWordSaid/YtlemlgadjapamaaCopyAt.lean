/- 'copy(b[o:], s)' into bytes that the call owns. -/
import Derived.Test.YtlemlgadjapamaaMade
namespace Go.Proofs.Ytlemlgadjapamaa
open Go.RowKit Go.Lib Go.Proofs.Ytlemlgadjapamaa.Hexa Go.Proofs.Ytlemlgadjapamaa.Byt

theorem bcells_take (l : List UInt8) (n : Nat) : bcells (l.take n) = (bcells l).take n := by simp [bcells]
theorem bcells_drop (l : List UInt8) (n : Nat) : bcells (l.drop n) = (bcells l).drop n := by simp [bcells]

theorem bytes_copy_at {P : Program} {t e u ty : TypeId} {i : TypeInfo} (ht : P.underlying t = some (.slice e)) (hi : P.info? e = some i) (hs1 : i.size = 1)
    {w : World} {B g c n : Nat} {l : List UInt8} (hn : l.length = n) (h : Bytes w B e (.slice (some ⟨g, 0, none⟩) n c) l) (s : ByteArray) (o d dc : Nat) (hs : o + s.size ≤ n) (hd : s.size ≤ d) :
    ∃ w', (Builtin.copy_ #[t, u] ty #[.slice (some ⟨g, o, none⟩) d dc, .string s]).run P w = .ok (goInt s.size) w' ∧ Bytes w' B e (.slice (some ⟨g, 0, none⟩) n c) (l.take o ++ s.data.toList ++ l.drop (o + s.size)) ∧ w.grownBy w' (some g) := by
  subst hn
  have hsl : s.data.toList.length = s.size := by simp
  rcases h with ⟨h, _⟩ | ⟨g', cap, cur, fz, hv, hb, hg, hfz, hlc, hm, hcs, htk⟩
  · cases h
  · simp at hv
    obtain ⟨rfl, rfl⟩ := hv
    have hst := Byt.run_store P g o e fz (strCells s) 0 cur w hg hfz (by rw [strCells_length]; omega) (strCells_oneCell s)
    have hf := run_firstCells_string (P := P) w 1 s
    have hln : (l.take o ++ s.data.toList ++ l.drop (o + s.size)).length = l.length := by rw [List.length_append, List.length_append, List.length_drop, List.length_take, hsl]; omega
    simp only [Nat.add_zero, strCells_length] at hst
    have hsz : (List.take o cur.toList ++ strCells s ++ List.drop (o + s.size) cur.toList).length = cur.size := by
      rw [List.length_append, List.length_append, List.length_drop, List.length_take, strCells_length, Array.length_toList]; omega
    refine ⟨w.setRow g (List.take o cur.toList ++ strCells s ++ List.drop (o + s.size) cur.toList).toArray, ?_, .inr ⟨g, c, (List.take o cur.toList ++ strCells s ++ List.drop (o + s.size) cur.toList).toArray, fz, by rw [hln], hb, setRow_heap w g cur _ e fz hg, ?_, by rw [hln]; exact hlc, hm, ?_, ?_⟩, ⟨rfl, rfl, rfl, by simp, fun k _ hk => setRow_other _ _ _ _ (fun he => hk (by rw [he]))⟩⟩
    · simp [Builtin.copy_, run_underlying ht, Builtin.lenOf, sizeOf, typeInfo, hi, hs1, Nat.min_eq_left hd, hf, hst]
    · have hz : (List.take o cur.toList ++ strCells s ++ List.drop (o + s.size) cur.toList).toArray.size = cur.size := by rw [List.size_toArray, hsz]
      rw [hz]; exact hfz
    · rw [List.size_toArray, hsz]; exact hcs
    · rw [hln]
      have e1 : strCells s = bcells s.data.toList := rfl
      have t1 : cur.toList.take o = bcells (l.take o) := by rw [bcells_take, ← htk, List.take_take, Nat.min_eq_left (by omega)]
      have t2 : (cur.toList.drop (o + s.size)).take (l.length - (o + s.size)) = bcells (l.drop (o + s.size)) := by rw [← List.drop_take, htk, bcells_drop]
      have l1 : (bcells (l.take o)).length = o := by rw [bcells_length, List.length_take]; omega
      have l2 : (bcells s.data.toList).length = s.size := by rw [bcells_length, hsl]
      simp only [e1, t1, bcells_append]
      have hAB : (bcells (l.take o) ++ bcells s.data.toList).length = o + s.size := by rw [List.length_append, l1, l2]
      rw [List.take_append, hAB, t2, List.take_of_length_le (by rw [hAB]; omega)]
end Go.Proofs.Ytlemlgadjapamaa
