/- A copy of elements of several cells; an element laid into a row. -/
import Derived.Test.YtlemlgadjapamaaAppC
import Derived.Lib.AppendZerosOnto
import Derived.Lib.Overlaps
import Derived.StillTailTactics
namespace Go.Proofs.Ytlemlgadjapamaa
open Go.RowKit Go.Proofs.Ytlemlgadjapamaa.Parts Go.Proofs.Ytlemlgadjapamaa.Hexa

theorem run_copy_rowK {P : Program} (w : World) (dT sT ty elem : TypeId) (i : TypeInfo) (k : Nat) (g o dLen dCap : Nat) (a : Addr) (sLen sCap : Nat) (cur : Array Value) (t : TypeId) (cs : List Value) (m : Nat)
    (hu : P.underlying dT = some (.slice elem)) (hi : P.info? elem = some i) (hk : i.size = k)
    (hg : w.heap[g]? = some (.cells cur t (0, 0))) (hm : m = Nat.min sLen dLen) (hn : cs.length = m * k)
    (hsrc : ∀ j v, cs[j]? = some v → w.cell? (a.add j) = some v) (hfit : o + cs.length ≤ cur.size) (h1 : ∀ v ∈ cs, v.oneCell' = true) :
    (Builtin.copy_ #[dT, sT] ty #[.slice (some ⟨g, o, none⟩) dLen dCap, .slice (some a) sLen sCap]).run P w =
      .ok (goInt m) (w.setRow g (cur.toList.take o ++ cs ++ cur.toList.drop (o + cs.length)).toArray) := by
  have hf := run_firstCells_some (P := P) w k m a sLen sCap cs hn hsrc
  have hst := run_storeCells_at P g o t cs 0 cur w hg (by simpa using hfit) h1
  simp [Builtin.copy_, run_underlying hu, Builtin.lenOf, sizeOf, typeInfo, hi, hk, ← hm, hf, hst]

theorem wpList_copyK {P : Program} {w : World} {ops : Array Oper} {rest : List Oper} {o : Oper} {a : Act} {Q : Exit → Act → World → Prop} (hgd : o.guard = none) (d s : Operand) (dT sT : TypeId)
    (ho : o.op = .call { callee := .builtin .copy, args := #[d, s], argTypes := #[dT, sT] }) (v0 v1 r : Value) (w' : World) (hd : a.eval d = v0) (hs : a.eval s = v1)
    (hrun : (Builtin.copy_ #[dT, sT] o.type #[v0, v1]).run P w = .ok r w') (h : wpList P ops Q rest (a.put o.dst r) w') : wpList P ops Q (o :: rest) a w := by
  refine wpList_plain hgd fun K hK => ?_
  unfold Oper.wp
  simp [execOp, ho, resolve, invoke, builtin, hd, hs, hrun, Result.andThen]
  exact hK _ _ h

theorem lay_shift {c A X D r : List Value} (hc : c = A ++ D ++ r) (hX : X.length = 3) (hr : 3 ≤ r.length) :
    ∃ r', (((c.take (A.length + 3) ++ D ++ c.drop (A.length + 3 + D.length)).take A.length ++ X) ++ (c.take (A.length + 3) ++ D ++ c.drop (A.length + 3 + D.length)).drop (A.length + 3)) = A ++ X ++ D ++ r' := by
  have hl : c.length = A.length + D.length + r.length := by rw [hc]; simp; omega
  have h1 : (c.take (A.length + 3)).length = A.length + 3 := by rw [List.length_take]; omega
  have h2 : (c.take (A.length + 3) ++ D ++ c.drop (A.length + 3 + D.length)).take A.length = A := by
    rw [List.append_assoc, List.take_append_of_le_length (by omega), List.take_take, Nat.min_eq_left (by omega), hc, List.append_assoc, List.take_left]
  have h3 : (c.take (A.length + 3) ++ D ++ c.drop (A.length + 3 + D.length)).drop (A.length + 3) = D ++ c.drop (A.length + 3 + D.length) := by
    rw [List.append_assoc]
    have := List.drop_left (l₁ := c.take (A.length + 3)) (l₂ := D ++ c.drop (A.length + 3 + D.length))
    rwa [h1] at this
  exact ⟨_, by rw [h2, h3, ← List.append_assoc]⟩
theorem lay_grow {c A X D r : List Value} (hc : c = A ++ r) (hX : X.length = 3) (hr : 3 + D.length ≤ r.length) :
    ∃ r', ((((c.take A.length ++ X) ++ c.drop (A.length + 3)).take (A.length + 3) ++ D) ++ ((c.take A.length ++ X) ++ c.drop (A.length + 3)).drop (A.length + 3 + D.length)) = A ++ X ++ D ++ r' := by
  have h0 : c.take A.length = A := by rw [hc, List.take_left]
  have h1 : (A ++ X).length = A.length + 3 := by simp [hX]
  have h2 : ((A ++ X) ++ c.drop (A.length + 3)).take (A.length + 3) = A ++ X := by rw [← h1, List.take_left]
  exact ⟨_, by rw [h0, h2]⟩

/-- A row that the call owns, taken apart. -/
theorem own_parts {w : World} {M g n cap : Nat} {L : List C3} (h : w.ownsRow M 68 3 (.slice (some ⟨g, 0, none⟩) n cap) n (cellsE encC L)) :
    ∃ cur r, M ≤ g ∧ w.heap[g]? = some (.cells cur 68 (0, 0)) ∧ n ≤ cap ∧ cap ≤ maxLen ∧ cur.size = cap * 3 ∧ cur.toList = cellsE encC L ++ r ∧ r.length = (cap - n) * 3 := by
  rcases h.2 with ⟨h', _⟩ | ⟨g', cap', cur, h', hb, hg, hnc, hcm, hcs, htk⟩
  · simp at h'
  · simp only [Value.slice.injEq, Option.some.injEq, Addr.mk.injEq, and_true, true_and] at h'
    obtain ⟨rfl, rfl⟩ := h'
    have e : cur.toList = cellsE encC L ++ cur.toList.drop (n * 3) := by rw [← htk, List.take_append_drop]
    refine ⟨cur, cur.toList.drop (n * 3), hb, hg, hnc, hcm, hcs, e, ?_⟩
    rw [List.length_drop, Array.length_toList, hcs, Nat.sub_mul]
/-- .. and put together. -/
theorem own_whole {w : World} {M g n cap : Nat} {L : List C3} {c : List Value} {r : List Value} (hb : M ≤ g) (hg : w.heap[g]? = some (.cells c.toArray 68 (0, 0))) (hn : L.length = n) (hnc : n ≤ cap) (hcm : cap ≤ maxLen) (hl : c.length = cap * 3) (hc : c = cellsE encC L ++ r) :
    w.ownsRow M 68 3 (.slice (some ⟨g, 0, none⟩) n cap) n (cellsE encC L) := by
  refine ⟨by rw [cellsC_length, hn], .inr ⟨g, cap, _, rfl, hb, hg, hnc, hcm, by rw [List.size_toArray]; exact hl, ?_⟩⟩
  have h1 : (cellsE encC L).length = n * 3 := by rw [cellsC_length, hn]
  rw [hc, ← h1]
  simp
theorem cells_ins (L : List C3) (p : Nat) (x : C3) : cellsE encC (L.take p ++ x :: L.drop p) = cellsE encC (L.take p) ++ encC.cells x ++ cellsE encC (L.drop p) := by
  rw [cellsE_append, cellsE, List.append_assoc]
theorem zero_len (k : Nat) : (Builtin.zeroCells (Value.agg #[.int .i64 0, .string ByteArray.empty, .bool false]).cells k).size = k * 3 := by
  rw [size_zeroCells]; rfl
end Go.Proofs.Ytlemlgadjapamaa
