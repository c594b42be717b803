/- Bytes that a call has made: zeros at first, then written one after another, or copied from a text. -/
import Derived.Test.YtmcelfiljnlmoaaNumMath
import Derived.Laws.MakeOwn
import Derived.Lib.AppendStr
namespace Go.Proofs.Ytmcelfiljnlmoaa
open Go.RowKit Go.Lib Go.Proofs.Ytmcelfiljnlmoaa.Hexa Go.Proofs.Ytmcelfiljnlmoaa.Byt

theorem made_zero (n : Nat) : (madeCells (Value.int .u8 0).cells (n * 1)).toList = bcells (List.replicate n 0) := by
  apply List.ext_getElem?
  intro j
  have hcl : (Value.int .u8 0).cells = #[Value.int .u8 0] := rfl
  by_cases hj : j < n
  · simp [madeCells, hj, hcl, Nat.mod_one, bcells]
  · rw [List.getElem?_eq_none (by simp [madeCells]; omega), List.getElem?_eq_none (by simp [bcells]; omega)]

/-- The bytes A, and zeros up to n. -/
def partB (A : List UInt8) (n : Nat) : List UInt8 := A ++ List.replicate (n - A.length) 0
theorem partB_length (A : List UInt8) (n : Nat) (h : A.length ≤ n) : (partB A n).length = n := by simp [partB]; omega
theorem partB_nil (n : Nat) : partB [] n = List.replicate n 0 := by simp [partB]
theorem partB_full (A : List UInt8) (n : Nat) (h : A.length = n) : partB A n = A := by simp [partB, h]
theorem partB_set (A : List UInt8) (n : Nat) (x : UInt8) (h : A.length < n) : (partB A n).set A.length x = partB (A ++ [x]) n := by
  obtain ⟨m, hm⟩ : ∃ m, n - A.length = m + 1 := ⟨n - A.length - 1, by omega⟩
  have h2 : n - (A ++ [x]).length = m := by simp; omega
  unfold partB
  rw [h2, hm, List.replicate_succ, List.set_append_right _ _ (Nat.le_refl _), Nat.sub_self, List.set_cons_zero, List.append_assoc]
  rfl
theorem part_start {w : World} {B e g n : Nat} (h : w.ownsRow B e 1 (.slice (some ⟨g, 0, none⟩) n n) n (madeCells (Value.int .u8 0).cells (n * 1)).toList) :
    Bytes w B e (.slice (some ⟨g, 0, none⟩) n n) (partB [] n) := by
  rw [made_zero] at h
  rw [partB_nil]
  refine bytes_of_own ?_
  rw [List.length_replicate]
  exact h
/-- The next byte written. -/
theorem part_next {w : World} {B e g n : Nat} {A : List UInt8} (h : Bytes w B e (.slice (some ⟨g, 0, none⟩) n n) (partB A n)) (x : UInt8) (hl : A.length < n) :
    Bytes (w.setCell ⟨g, A.length, none⟩ (.int .u8 x.toNat)) B e (.slice (some ⟨g, 0, none⟩) n n) (partB (A ++ [x]) n) := by
  have hp := partB_length A n (by omega)
  have h' : Bytes w B e (.slice (some ⟨g, 0, none⟩) (partB A n).length n) (partB A n) := by rw [hp]; exact h
  have hs := bytes_set h' A.length x
  rw [partB_set A n x hl, hp] at hs
  exact hs
theorem part_at {w : World} {B e g n : Nat} {A : List UInt8} (h : Bytes w B e (.slice (some ⟨g, 0, none⟩) n n) (partB A n)) (hl : A.length < n) :
    (∃ v, w.cell? ⟨g, A.length, none⟩ = some v) ∧ w.frozen? ⟨g, A.length, none⟩ = false ∧ B ≤ g := by
  have hp := partB_length A n (by omega)
  have h' : Bytes w B e (.slice (some ⟨g, 0, none⟩) (partB A n).length n) (partB A n) := by rw [hp]; exact h
  obtain ⟨h1, h2, h3⟩ := bytes_at h' A.length (by omega)
  exact ⟨⟨_, h1⟩, h2, h3⟩

/-- 'copy(b, s)'. -/
theorem bytes_copy {P : Program} {t e u ty : TypeId} {i : TypeInfo} (ht : P.underlying t = some (.slice e)) (hi : P.info? e = some i) (hs1 : i.size = 1)
    {w : World} {B g c n : Nat} {l : List UInt8} (hn : l.length = n) (h : Bytes w B e (.slice (some ⟨g, 0, none⟩) n c) l) (s : ByteArray) (hs : s.size ≤ n) :
    ∃ w', (Builtin.copy_ #[t, u] ty #[.slice (some ⟨g, 0, none⟩) n c, .string s]).run P w = .ok (goInt s.size) w' ∧ Bytes w' B e (.slice (some ⟨g, 0, none⟩) n c) (s.data.toList ++ l.drop s.size) ∧ Below B w w' := by
  subst hn
  have hsl : s.data.toList.length = s.size := by simp
  rcases h with ⟨h, _⟩ | ⟨g', cap, cur, fz, hv, hb, hg, hfz, hlc, hm, hcs, htk⟩
  · cases h
  · simp at hv
    obtain ⟨rfl, rfl⟩ := hv
    have hst := Byt.run_store P g 0 e fz (strCells s) 0 cur w hg hfz (by rw [strCells_length]; omega) (strCells_oneCell s)
    have hf := run_firstCells_string (P := P) w 1 s
    have hln : (s.data.toList ++ l.drop s.size).length = l.length := by rw [List.length_append, List.length_drop, hsl]; omega
    simp only [Nat.add_zero, Nat.zero_add, strCells_length] at hst
    refine ⟨w.setRow g (List.take 0 cur.toList ++ strCells s ++ List.drop s.size cur.toList).toArray, ?_, .inr ⟨g, c, (List.take 0 cur.toList ++ strCells s ++ List.drop s.size cur.toList).toArray, fz, by rw [hln], hb, setRow_heap w g cur _ e fz hg, ?_, by rw [hln]; exact hlc, hm, ?_, ?_⟩, Byt.below_setRow w hb _⟩
    · simp [Builtin.copy_, run_underlying ht, Builtin.lenOf, sizeOf, typeInfo, hi, hs1, Nat.min_eq_left hs, hf, hst]
    · have hz : (List.take 0 cur.toList ++ strCells s ++ List.drop s.size cur.toList).toArray.size = cur.size := by simp [strCells_length]; omega
      rw [hz]; exact hfz
    · simp [strCells_length]; omega
    · rw [hln]
      have e1 : strCells s = bcells s.data.toList := rfl
      simp only [List.take_zero, List.nil_append, e1, bcells_append]
      have e2 : l.length = (bcells s.data.toList).length + (l.length - s.size) := by rw [bcells_length, hsl]; omega
      have e3 : bcells (l.drop s.size) = (bcells l).drop s.size := by simp [bcells]
      rw [e2, List.take_length_add_append, e3, ← htk, List.drop_take]

theorem wpList_copy_text {P : Program} {w : World} {ops : Array Oper} {rest : List Oper} {o : Oper} {a : Act} {Q : Exit → Act → World → Prop} (hgd : o.guard = none) (d s : Operand) (dT sT : TypeId)
    (ho : o.op = .call { callee := .builtin .copy, args := #[d, s], argTypes := #[dT, sT] }) (v0 v1 r : Value) (w' : World) (hd : a.eval d = v0) (hs : a.eval s = v1)
    (hrun : (Builtin.copy_ #[dT, sT] o.type #[v0, v1]).run P w = .ok r w') (h : wpList P ops Q rest (a.put o.dst r) w') : wpList P ops Q (o :: rest) a w := by
  refine wpList_plain hgd fun K hK => ?_
  unfold Oper.wp
  simp [execOp, ho, resolve, invoke, builtin, hd, hs, hrun, Result.andThen]
  exact hK _ _ h
end Go.Proofs.Ytmcelfiljnlmoaa
