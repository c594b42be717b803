/- Merged texts: Bytes, BitsMath, LongMath, RangeSpec, NameSpec, Says, TextEq, PathBase, TextBase, Texts, JoinMath, VwMath, PathSpec, JoinSpec, PathSpecB, MarkAt, AppE, AppT1, TStrE, TStrX, VwKidsS. -/
import Derived.Test.YtkfkjcadmdcbnaaDoorPKA
import Derived.Test.YtkfkjcadmdcbnaaDoorRows
import Derived.Lib.AppendStr
import Derived.Lib.AppendZerosOnto
import Derived.Laws.CopyRow
import Derived.Below
import Derived.Laws.Bits64b
import Derived.IntWalk
import Derived.WalkKit
import Derived.WalkSpells
import Derived.WalkLawsBesides
import Derived.Deep.RegionLaw
import Derived.Deep.AppendLies
import Derived.Lib.Hide
import Derived.RowKit3
import Derived.Maps.AppendAt
import Derived.Lib.AppendZeros
import Derived.Lib.SliceRun
namespace Go.Proofs.YtkfkjcadmdcbnaaDoor.Byt
open Go.RowKit Go.Proofs.YtkfkjcadmdcbnaaDoor.Hexa Go.Lib

/-- Cells stored into a row whose frozen range lies behind its end. -/
theorem run_store (P : Program) (g o : Nat) (t : TypeId) (fz : Nat × Nat) : ∀ (vs : List Value) (i : Nat) (cur : Array Value) (w : World), w.heap[g]? = some (.cells cur t fz) → (fz = (0, 0) ∨ cur.size ≤ fz.1) → o + i + vs.length ≤ cur.size → (∀ v ∈ vs, v.oneCell' = true) →
    (storeCells ⟨g, o, none⟩ vs i).run P w = .ok () (w.setRow g (cur.toList.take (o + i) ++ vs ++ cur.toList.drop (o + i + vs.length)).toArray)
  | [], i, cur, w, hg, _, _, _ => by
    simp only [storeCells, List.append_nil, List.length_nil, Nat.add_zero, List.take_append_drop, Array.toArray_toList]
    rw [setRow_self w g cur t fz hg]
    rfl
  | v :: rest, i, cur, w, hg, hfz, hl, h1 => by
    have hi : o + i < cur.size := by simp at hl; omega
    have hadd : (⟨g, o, none⟩ : Addr).add i = ⟨g, o + i, none⟩ := by unfold Addr.add; split <;> simp_all
    have hcell : w.cell? ⟨g, o + i, none⟩ = some cur[o + i] := by simp [World.cell?, hg, hi]
    have hfro : w.frozen? ⟨g, o + i, none⟩ = false := by
      obtain ⟨lo, hi'⟩ := fz
      simp only [World.frozen?, hg, Bool.and_eq_false_iff, decide_eq_false_iff_not]
      rcases hfz with h | h
      · right; cases h; omega
      · left; simp only at h; omega
    have hst : (store ((⟨g, o, none⟩ : Addr).add i) v).run P w = .ok () (w.setRow g (cur.setIfInBounds (o + i) v)) := by
      rw [hadd, Go.run_store P w _ v _ (h1 v (by simp)), hcell]
      simp [hfro, setCell_eq_setRow w g (o + i) cur t fz v hg]
    have ih := run_store P g o t fz rest (i + 1) (cur.setIfInBounds (o + i) v) (w.setRow g (cur.setIfInBounds (o + i) v)) (setRow_heap w g cur _ t _ hg) (by simpa using hfz) (by simp at hl ⊢; omega) (fun x hx => h1 x (by simp [hx]))
    simp only [storeCells, Sem.run_bind, hst, Result.andThen_ok, ih, setRow_setRow]
    congr 3
    have e := list_seg_step cur.toList (o + i) v rest (by simp at hl ⊢; omega)
    simpa [Array.toList_setIfInBounds, Nat.add_assoc] using e

theorem bcells_length (l : List UInt8) : (bcells l).length = l.length := by simp [bcells]
theorem bcells_append (l m : List UInt8) : bcells (l ++ m) = bcells l ++ bcells m := by simp [bcells]
theorem bcells_one (l : List UInt8) : ∀ u ∈ bcells l, u.oneCell' = true := by
  intro u hu
  simp only [bcells, List.mem_map] at hu
  obtain ⟨b, _, rfl⟩ := hu
  rfl

/-- The value v holds the bytes l, in a row from block B on. -/
def Bytes (w : World) (B : Nat) (e : TypeId) (v : Value) (l : List UInt8) : Prop :=
  (v = .slice none 0 0 ∧ l = []) ∨
  ∃ g cap cur fz, v = .slice (some ⟨g, 0, none⟩) l.length cap ∧ B ≤ g ∧ w.heap[g]? = some (.cells cur e fz) ∧ (fz = (0, 0) ∨ cur.size ≤ fz.1) ∧ l.length ≤ cap ∧ cap ≤ maxLen ∧ cur.size = cap ∧ cur.toList.take l.length = bcells l

theorem bytes_room {w : World} {B : Nat} {e : TypeId} {g cap : Nat} {cur : Array Value} {fz : Nat × Nat} {l : List UInt8} (hb : B ≤ g) (hg : w.heap[g]? = some (.cells cur e fz)) (hfz : fz = (0, 0) ∨ cur.size ≤ fz.1) (hm : cap ≤ maxLen) (hs : cur.size = cap) (ht : cur.toList.take l.length = bcells l)
    (news : List UInt8) (hroom : l.length + news.length ≤ cap) :
    Bytes (w.setRow g (cur.toList.take l.length ++ bcells news ++ cur.toList.drop (l.length + news.length)).toArray) B e (.slice (some ⟨g, 0, none⟩) (l.length + news.length) cap) (l ++ news) := by
  have hsz : (cur.toList.take l.length ++ bcells news ++ cur.toList.drop (l.length + news.length)).toArray.size = cur.size := by
    simp only [List.size_toArray, List.length_append, List.length_take, List.length_drop, Array.length_toList, bcells_length]
    omega
  refine .inr ⟨g, cap, _, fz, by simp, hb, setRow_heap w g cur _ e _ hg, ?_, by simpa using hroom, hm, by rw [hsz, hs], ?_⟩
  · rw [hsz]; exact hfz
  · rw [ht, bcells_append]
    have : (l ++ news).length = (bcells l ++ bcells news).length := by simp [bcells]
    rw [this]
    exact List.take_left

theorem bytes_grown (w : World) {B : Nat} {e : TypeId} (l news : List UInt8) (cap : Nat) (hB : B ≤ w.heap.size) (hc : l.length + news.length ≤ cap) (hm : cap ≤ maxLen) (rest : Array Value) (hr : rest.size = cap - (l.length + news.length)) :
    Bytes (w.drew.alloc (.cells ((bcells l).toArray ++ (bcells news).toArray ++ rest) e)) B e (.slice (some ⟨w.heap.size, 0, none⟩) (l.length + news.length) cap) (l ++ news) := by
  refine .inr ⟨w.heap.size, cap, _, (0, 0), by simp, hB, heap_alloc_new w.drew _, .inl rfl, by simpa using hc, hm, ?_, ?_⟩
  · simp [bcells, hr]; omega
  · have : (l ++ news).length = (bcells l ++ bcells news).length := by simp [bcells]
    rw [this, bcells_append]
    simp only [Array.toList_append, List.append_assoc]
    rw [← List.append_assoc]
    exact List.take_left

theorem bytes_cells {w : World} {g _cap : Nat} {cur : Array Value} {e : TypeId} {fz : Nat × Nat} {l : List UInt8} (hg : w.heap[g]? = some (.cells cur e fz)) (ht : cur.toList.take l.length = bcells l) :
    ∀ j u, (bcells l)[j]? = some u → w.cell? ((⟨g, 0, none⟩ : Addr).add j) = some u := by
  intro j u hu
  have hadd : (⟨g, 0, none⟩ : Addr).add j = ⟨g, j, none⟩ := by unfold Addr.add; split <;> simp_all
  rw [hadd]
  rw [← ht, List.getElem?_take] at hu
  split at hu
  · simp only [World.cell?, hg]; simpa using hu
  · cases hu

theorem zeros_cells (n : Nat) : Builtin.zeroCells (Value.int .u8 0).cells n = (bcells (List.replicate n 0)).toArray := by
  simp only [Builtin.zeroCells, Value.cells, bcells]
  apply Array.ext
  · simp
  · intro i h1 h2
    simp [Nat.mod_one]

section
variable {P : Program} {t e : TypeId} {i : TypeInfo} (ht : P.underlying t = some (.slice e)) (hi : P.info? e = some i) (hz : i.zero = some (.int .u8 0)) (hs1 : i.size = 1) (hb1 : i.bytes = 1)
include ht hi hz hs1 hb1

/-- What an append yields: the bytes, and nothing below B is written. -/
def Out (P : Program) (args : Array TypeId) (ty : TypeId) (vs : Array Value) (w : World) (B : Nat) (e : TypeId) (l : List UInt8) : Prop :=
  ∃ v' w', (Builtin.append_ args ty vs).run P w = .ok v' w' ∧ Bytes w' B e v' l ∧ Below B w w'

omit ht hi hz hs1 hb1 in
theorem below_setRow (w : World) {B g : Nat} (h : B ≤ g) (cs : Array Value) : Below B w (w.setRow g cs) := ⟨rfl, rfl, rfl, by simp, fun k hk => setRow_other _ _ _ _ (by omega)⟩
omit ht hi hz hs1 hb1 in
theorem below_grown (w : World) {B : Nat} (h : B ≤ w.heap.size) (o : Obj) : Below B w (w.drew.alloc o) := ((Below.refl _ _).drew).alloc (by simpa using h) o

theorem append_cells (w : World) {B : Nat} {v : Value} {l : List UInt8} (h : Bytes w B e v l) (hB : B ≤ w.heap.size) (ty : TypeId) (ad : Addr) (c : Nat) (news : List UInt8) (hn : ∀ j u, (bcells news)[j]? = some u → w.cell? (ad.add j) = some u) (hl : l.length + news.length ≤ 1000000000) :
    Out P #[t, t] ty #[v, .slice (some ad) news.length c] w B e (l ++ news) := by
  rcases h with ⟨rfl, rfl⟩ | ⟨g, cap, cur, fz, rfl, hb, hg, hfz, hlc, hm, hcs, htk⟩
  · obtain ⟨v', w', r1, r2, r3, r4⟩ := run_append_own (P := P) w B t ty e i (.int .u8 0) 1 1 ht hi hz hs1 hb1 rfl (by decide) (.slice none 0 0) 0 [] ⟨rfl, .inl ⟨rfl, rfl⟩⟩ ad news.length c (bcells news) (by simp [bcells]) hn (bcells_one _) (by simp at hl; unfold maxLen; omega) (by simp at hl; omega) hB
    refine ⟨v', w', r1, ?_, (Below.refl _ _).grown r3 hB (fun k h => by cases h)⟩
    rcases r2.2 with ⟨rfl, hn0⟩ | ⟨g, cap, cur, rfl, h1, h2, h3, h4, h5, h6⟩
    · left
      refine ⟨rfl, List.eq_nil_of_length_eq_zero (by simpa using hn0)⟩
    · right
      simp at h3 h5 h6
      exact ⟨g, cap, cur, (0, 0), by simp, h1, h2, .inl rfl, by simpa using h3, h4, h5, by simpa using h6⟩
  · by_cases hroom : l.length + news.length ≤ cap
    · have hf := run_firstCells_some (P := P) w 1 news.length ad news.length c (bcells news) (by simp [bcells]) hn
      have hst := run_store P g l.length e fz (bcells news) 0 cur w hg hfz (by simp [bcells]; omega) (bcells_one _)
      simp only [Nat.add_zero, bcells_length] at hst
      refine ⟨_, _, ?_, bytes_room hb hg hfz hm hcs htk news hroom, below_setRow w hb _⟩
      simp [Builtin.append_, run_underlying ht, sizeOf, typeInfo, hi, hs1, Builtin.lenOf, hroom, hf, Addr.add_lit, hst]
    · have hr := run_append_grow (P := P) w t ty e i (.int .u8 0) ht hi hz ⟨g, 0, none⟩ l.length cap (bcells l) (by simp [bcells, hs1]) (bytes_cells (_cap := cap) hg htk) ad news.length c (bcells news) (by simp [bcells, hs1]) hn (by omega) (by omega) (growslice_fits (by omega) (by rw [hb1]; omega))
      have hge := grownCap_ge w (l.length + news.length) cap e
      have hcm := grownCap_le_maxLen w (l.length + news.length) cap e (by unfold maxLen; omega)
      refine ⟨_, _, hr, bytes_grown w l news _ hB hge hcm _ ?_, below_grown w hB _⟩
      simp [Builtin.zeroCells, Value.cells]

theorem append_text {u : TypeId} (hu : P.underlying u = some .string) (w : World) {B : Nat} {v : Value} {l : List UInt8} (h : Bytes w B e v l) (hB : B ≤ w.heap.size) (ty : TypeId) (s : ByteArray) (hl : l.length + s.size ≤ 1000000000) :
    Out P #[t, u] ty #[v, .string s] w B e (l ++ s.data.toList) := by
  have hls : s.data.toList.length = s.size := by simp
  rcases h with ⟨rfl, rfl⟩ | ⟨g, cap, cur, fz, rfl, hb, hg, hfz, hlc, hm, hcs, htk⟩
  · obtain ⟨v', w', r1, r2, r3, r4⟩ := run_append_own_string (P := P) w B t u ty e i ht hu hi hz hs1 hb1 (.slice none 0 0) 0 [] ⟨rfl, .inl ⟨rfl, rfl⟩⟩ s (by simp at hl; unfold maxLen; omega) (by simp at hl; omega) hB
    refine ⟨v', w', r1, ?_, (Below.refl _ _).grown r3 hB (fun k h => by cases h)⟩
    rcases r2.2 with ⟨rfl, hn0⟩ | ⟨g, cap, cur, rfl, h1, h2, h3, h4, h5, h6⟩
    · left
      refine ⟨rfl, List.eq_nil_of_length_eq_zero (by simp at hn0 ⊢; simpa using hn0)⟩
    · right
      simp at h3 h5 h6
      exact ⟨g, cap, cur, (0, 0), by simp, h1, h2, .inl rfl, by simpa using h3, h4, h5, by simpa [bcells, strCells] using h6⟩
  · by_cases hroom : l.length + s.size ≤ cap
    · have hf := run_firstCells_string (P := P) w 1 s
      have hst := run_store P g l.length e fz (strCells s) 0 cur w hg hfz (by simp [strCells_length]; omega) (strCells_oneCell s)
      simp only [Nat.add_zero, strCells_length] at hst
      have hbr := bytes_room hb hg hfz hm hcs htk s.data.toList (by rw [hls]; exact hroom)
      rw [hls] at hbr
      refine ⟨_, _, ?_, hbr, below_setRow w hb _⟩
      simp [Builtin.append_, run_underlying ht, run_underlying hu, sizeOf, typeInfo, hi, hs1, Builtin.lenOf, hroom, hf, Addr.add_lit, hst]
      rfl
    · have hr := run_append_grow_string (P := P) w t u ty e i (.int .u8 0) ht hu hi hz ⟨g, 0, none⟩ l.length cap (bcells l) (by simp [bcells, hs1]) (bytes_cells (_cap := cap) hg htk) s (by omega) (by omega) (growslice_fits (by omega) (by rw [hb1]; omega))
      have hge := grownCap_ge w (l.length + s.size) cap e
      have hcm := grownCap_le_maxLen w (l.length + s.size) cap e (by unfold maxLen; omega)
      have hbg := bytes_grown w (e := e) l s.data.toList _ hB (by rw [hls]; exact hge) hcm (Builtin.zeroCells (Value.int .u8 0).cells (grownCap w (l.length + s.size) cap e - (l.length + s.size))) (by simp [Builtin.zeroCells, Value.cells])
      rw [hls] at hbg
      exact ⟨_, _, hr, hbg, below_grown w hB _⟩

theorem append_zeros {u : TypeId} {kn kq : IntKind} (hu : P.underlying u = some (.int kn)) (w : World) {B : Nat} {v : Value} {l : List UInt8} (h : Bytes w B e v l) (hB : B ≤ w.heap.size) (hv : v ≠ .slice none 0 0) (ty : TypeId) (k : Nat) (hl : l.length + k ≤ 1000000000) :
    Out P #[t, u] ty #[v, .int kq k] w B e (l ++ List.replicate k 0) := by
  have hls : (List.replicate k (0 : UInt8)).length = k := by simp
  rcases h with ⟨rfl, rfl⟩ | ⟨g, cap, cur, fz, rfl, hb, hg, hfz, hlc, hm, hcs, htk⟩
  · exact absurd rfl hv
  · by_cases hroom : l.length + k ≤ cap
    · have hst := run_store P g l.length e fz (bcells (List.replicate k 0)) 0 cur w hg hfz (by simp [bcells]; omega) (bcells_one _)
      simp only [Nat.add_zero, bcells_length, hls] at hst
      have hbr := bytes_room hb hg hfz hm hcs htk (List.replicate k 0) (by rw [hls]; exact hroom)
      rw [hls] at hbr
      refine ⟨_, _, ?_, hbr, below_setRow w hb _⟩
      have hw : IntKind.i64.wrap (k : Int) = k := by rw [IntKind.wrap_i64]; omega
      have hneg : ¬ ((k : Int) < 0) := by omega
      have h48i : ¬ (281474976710656 < (k : Int)) := by omega
      by_cases hk : k = 0
      · subst hk
        simp at hst hroom
        have hw0 : IntKind.i64.wrap 0 = 0 := rfl
        simp [bcells] at hst
        simp [Builtin.append_, run_underlying ht, run_underlying hu, sizeOf, typeInfo, zeroValue, hi, hs1, hb1, hz, asInt, asIntOf, hw0, hroom, Addr.add_lit, hst, bcells]
      · simp [Builtin.append_, run_underlying ht, run_underlying hu, sizeOf, typeInfo, zeroValue, hi, hs1, hb1, hz, asInt, asIntOf, hw, hneg, h48i, hk, hroom, Addr.add_lit, zeros_cells, hst]
    · have hk : 0 < k := by omega
      have hfo := run_firstCells_some (P := P) w.drew i.size l.length ⟨g, 0, none⟩ l.length cap (bcells l) (by simp [bcells, hs1]) (by simpa using bytes_cells (_cap := cap) hg htk)
      have hr := run_append_grow_zeros (P := P) w t u ty e i (.int .u8 0) kq kn ht hu hi hz (some ⟨g, 0, none⟩) l.length cap (bcells l) hfo k hk (by omega) (by omega) (by omega) (by rw [hb1]; omega) (growslice_fits (by omega) (by rw [hb1]; omega))
      have hge := grownCap_ge w (l.length + k) cap e
      have hcm := grownCap_le_maxLen w (l.length + k) cap e (by unfold maxLen; omega)
      have hbg := bytes_grown w (e := e) l (List.replicate k 0) _ hB (by rw [hls]; exact hge) hcm (Builtin.zeroCells (Value.int .u8 0).cells (grownCap w (l.length + k) cap e - (l.length + k))) (by simp [Builtin.zeroCells, Value.cells])
      rw [hls] at hbg
      rw [zeros_cells k] at hr
      exact ⟨_, _, hr, hbg, below_grown w hB _⟩
end

theorem bytes_alloc {w : World} {B : Nat} {e : TypeId} {v : Value} {l : List UInt8} (h : Bytes w B e v l) (o : Obj) : Bytes (w.alloc o) B e v l := by
  rcases h with h | ⟨g, cap, cur, fz, rfl, hb, hg, r⟩
  · exact .inl h
  · refine .inr ⟨g, cap, cur, fz, rfl, hb, ?_, r⟩
    rw [Below.heap_alloc _ _ _ (Array.getElem?_eq_some_iff.1 hg).1]; exact hg

/-- The slice that '[]byte(s)' makes. -/
theorem bytes_conv (w : World) (e : TypeId) (s : ByteArray) (B : Nat) (hB : B ≤ w.heap.size) (hs : s.size ≤ 1000000000) :
    Bytes (w.drew.alloc (.cells (bytesRow s (grownCap w s.size 0 e)) e ((bytesRow s (grownCap w s.size 0 e)).size, (bytesRow s (grownCap w s.size 0 e)).size + 1))) B e (.slice (some ⟨w.heap.size, 0, none⟩) s.size (grownCap w s.size 0 e)) s.data.toList := by
  have hge := grownCap_ge w s.size 0 e
  have hcm := grownCap_le_maxLen w s.size 0 e (by unfold maxLen; omega)
  have hds : s.data.size = s.size := rfl
  refine .inr ⟨w.heap.size, _, _, _, by simp, hB, heap_alloc_new w.drew _, .inr (Nat.le_refl _), by simpa using hge, hcm, ?_, ?_⟩
  · simp [bytesRow]; omega
  · simp only [bytesRow, Array.toList_append]
    have : s.data.toList.length = (s.data.map (fun b => Value.int .u8 b.toNat)).toList.length := by simp
    rw [this, List.take_left]
    simp [bcells]

/-- 'string(b)'. -/
theorem bytes_string {P : Program} {w : World} {B e : Nat} {v : Value} {l : List UInt8} (src dst : TypeId)
    (hs : P.underlying src = some (.slice e)) (he : P.underlying e = some (.int .u8)) (hd : P.underlying dst = some .string)
    (h : Bytes w B e v l) : (convert src dst v).run P w = .ok (.string ⟨l.toArray⟩) w := by
  rcases h with ⟨rfl, rfl⟩ | ⟨g, cap, cur, fz, rfl, _, hg, _, _, _, _, htk⟩
  · exact run_convert_bytes_nil w src e hs he 0 0 dst hd
  · refine run_convert_bytes_back w src dst e _ cap l hs he hd fun j hj => ?_
    exact bytes_cells (_cap := cap) hg htk j _ (by simp [bcells, hj])

theorem bytes_of_own {w : World} {B e : Nat} {v : Value} {l : List UInt8} (h : w.ownsRow B e 1 v l.length (bcells l)) : Bytes w B e v l := by
  rcases h.2 with ⟨rfl, hn0⟩ | ⟨g, cap, cur, rfl, h1, h2, h3, h4, h5, h6⟩
  · exact .inl ⟨rfl, List.eq_nil_of_length_eq_zero hn0⟩
  · simp at h5 h6
    exact .inr ⟨g, cap, cur, (0, 0), rfl, h1, h2, .inl rfl, h3, h4, h5, h6⟩

theorem bytes_len {w : World} {B e : Nat} {v : Value} {l : List UInt8} (h : Bytes w B e v l) : ∃ a c, v = .slice a l.length c := by
  rcases h with ⟨rfl, rfl⟩ | ⟨g, cap, cur, fz, rfl, _⟩
  · exact ⟨none, 0, rfl⟩
  · exact ⟨_, _, rfl⟩

/-- The operation, for the walk. -/
theorem wpList_append_out {P : Program} {ops : Array Oper} {rest : List Oper} {o : Oper} {a : Act} {w : World} {Q : Exit → Act → World → Prop} (hgd : o.guard = none) (s x : Operand) (t tn : TypeId)
    (ho : o.op = .call { callee := .builtin .append, args := #[s, x], argTypes := #[t, tn] }) (vs vx : Value) (hs : a.eval s = vs) (hx : a.eval x = vx) {B : Nat} {e : TypeId} {l : List UInt8}
    (hr : Out P #[t, tn] o.type #[vs, vx] w B e l) (h : ∀ v' w', Bytes w' B e v' l → Below B w w' → wpList P ops Q rest (a.put o.dst v') w') : wpList P ops Q (o :: rest) a w := by
  obtain ⟨v', w', r, h1, h2⟩ := hr
  exact Lib.wpList_append_run w hgd s x t tn ho vs vx hs hx v' w' r (h v' w' h1 h2)
end Go.Proofs.YtkfkjcadmdcbnaaDoor.Byt
namespace Go.Proofs.YtkfkjcadmdcbnaaDoor.BitsM
open Go.RowKit

theorem bv8 (a : UInt8) : BitVec.ofInt 8 (a.toNat : Int) = a.toBitVec := by
  apply BitVec.eq_of_toNat_eq
  have := a.toNat_lt
  rw [BitVec.ofInt_natCast, BitVec.toNat_ofNat]
  exact Nat.mod_eq_of_lt (by simpa using this)
theorem wrap8 (b : BitVec 8) : IntKind.u8.wrap (b.toNat : Int) = ((⟨b⟩ : UInt8).toNat : Int) := by
  have := b.isLt
  rw [IntKind.wrap_u8]
  show (b.toNat : Int) % 256 = (b.toNat : Int)
  omega
theorem xor8 (a b : UInt8) : bits .xor .u8 (a.toNat : Int) (b.toNat : Int) = ((a ^^^ b).toNat : Int) := by
  show IntKind.u8.wrap ((BitVec.ofInt 8 (a.toNat : Int) ^^^ BitVec.ofInt 8 (b.toNat : Int)).toNat : Int) = _
  rw [bv8, bv8, wrap8]; rfl
theorem or8 (a b : UInt8) : bits .or .u8 (a.toNat : Int) (b.toNat : Int) = ((a ||| b).toNat : Int) := by
  show IntKind.u8.wrap ((BitVec.ofInt 8 (a.toNat : Int) ||| BitVec.ofInt 8 (b.toNat : Int)).toNat : Int) = _
  rw [bv8, bv8, wrap8]; rfl
theorem and8 (a b : UInt8) : bits .and .u8 (a.toNat : Int) (b.toNat : Int) = ((a &&& b).toNat : Int) := by
  show IntKind.u8.wrap ((BitVec.ofInt 8 (a.toNat : Int) &&& BitVec.ofInt 8 (b.toNat : Int)).toNat : Int) = _
  rw [bv8, bv8, wrap8]; rfl

theorem bv64 (a : Nat) (_h : a < 9223372036854775808) : BitVec.ofInt 64 (a : Int) = BitVec.ofNat 64 a := by
  rw [BitVec.ofInt_natCast]
theorem wrap64 (n : Nat) (h : n < 9223372036854775808) : IntKind.i64.wrap (n : Int) = (n : Int) := IntWalk.i64_in _ (by omega)
theorem or64 (a b : Nat) (ha : a < 9223372036854775808) (hb : b < 9223372036854775808) : bits .or .i64 (a : Int) (b : Int) = ((a ||| b : Nat) : Int) := by
  show IntKind.i64.wrap ((BitVec.ofInt 64 (a : Int) ||| BitVec.ofInt 64 (b : Int)).toNat : Int) = _
  have h := Nat.or_lt_two_pow (n := 63) ha hb
  rw [bv64 a ha, bv64 b hb, BitVec.toNat_or, BitVec.toNat_ofNat, BitVec.toNat_ofNat, Nat.mod_eq_of_lt (by omega), Nat.mod_eq_of_lt (by omega), wrap64 _ h]
theorem xor64 (a b : Nat) (ha : a < 9223372036854775808) (hb : b < 9223372036854775808) : bits .xor .i64 (a : Int) (b : Int) = ((a ^^^ b : Nat) : Int) := by
  show IntKind.i64.wrap ((BitVec.ofInt 64 (a : Int) ^^^ BitVec.ofInt 64 (b : Int)).toNat : Int) = _
  have h := Nat.xor_lt_two_pow (n := 63) ha hb
  rw [bv64 a ha, bv64 b hb, BitVec.toNat_xor, BitVec.toNat_ofNat, BitVec.toNat_ofNat, Nat.mod_eq_of_lt (by omega), Nat.mod_eq_of_lt (by omega), wrap64 _ h]
theorem and64 (a b : Nat) (ha : a < 9223372036854775808) (hb : b < 9223372036854775808) : bits .and .i64 (a : Int) (b : Int) = ((a &&& b : Nat) : Int) := by
  show IntKind.i64.wrap ((BitVec.ofInt 64 (a : Int) &&& BitVec.ofInt 64 (b : Int)).toNat : Int) = _
  have h := Nat.and_lt_two_pow (n := 63) a hb
  rw [bv64 a ha, bv64 b hb, BitVec.toNat_and, BitVec.toNat_ofNat, BitVec.toNat_ofNat, Nat.mod_eq_of_lt (by omega), Nat.mod_eq_of_lt (by omega), wrap64 _ h]
end Go.Proofs.YtkfkjcadmdcbnaaDoor.BitsM
namespace Go.Proofs.YtkfkjcadmdcbnaaDoor
open Go.RowKit Go.Proofs.YtkfkjcadmdcbnaaDoor.Hexa Go.Proofs.YtkfkjcadmdcbnaaDoor.Byt Go.Proofs.YtkfkjcadmdcbnaaDoor.BitsM

theorem infoByte : (Tryd.prog.info? 5).map (fun i => (i.zero, i.size, i.bytes)) = some (some (.int .u8 0), 1, 1) := by kernel_rfl
/-- One byte appended, in the block of the walk's own one-cell slice. -/
theorem outB (w : World) {B : Nat} {v : Value} {l : List UInt8} (h : Bytes w B 5 v l) (hB : B ≤ w.heap.size) (ty : TypeId) (c : UInt8) (x : Int) (hx : x = c.toNat) (hl : l.length ≤ 100000000) :
    Out Tryd.prog #[69, 69] ty #[v, .slice (some ⟨w.heap.size, 0, none⟩) 1 1] (w.alloc (.cells #[.int .u8 x] 5)) B 5 (l ++ [c]) := by
  obtain ⟨i0, hi, hz0, hz1, hz2⟩ := info_parts infoByte
  subst hx
  refine append_cells Tryd.underlying69 hi hz0 hz1 hz2 _ (bytes_alloc h _) (by simp; omega) ty ⟨w.heap.size, 0, none⟩ 1 [c] ?_ (by simp; omega)
  exact World.news_of_block (heap_alloc_new _ _)

/-- One byte n times. -/
def longB (n : Nat) (x : UInt8) : ByteArray := ⟨(List.replicate n x).toArray⟩
theorem longB_size (n : Nat) (x : UInt8) : (longB n x).size = n := by show (List.replicate n x).toArray.size = n; simp

theorem bytes_set {w : World} {B e g c : Nat} {l : List UInt8} (h : Bytes w B e (.slice (some ⟨g, 0, none⟩) l.length c) l) (k : Nat) (x : UInt8) :
    Bytes (w.setCell ⟨g, k, none⟩ (.int .u8 x.toNat)) B e (.slice (some ⟨g, 0, none⟩) l.length c) (l.set k x) := by
  rcases h with ⟨h, _⟩ | ⟨g', cap, cur, fz, hv, hb, hg, hfz, hlc, hm, hcs, htk⟩
  · cases h
  · simp at hv
    obtain ⟨rfl, rfl⟩ := hv
    rw [setCell_eq_setRow w g k cur e fz _ hg]
    refine .inr ⟨g, c, _, fz, by simp, hb, setRow_heap w g cur _ e fz hg, by simpa using hfz, by simpa using hlc, hm, by simpa using hcs, ?_⟩
    rw [Array.toList_setIfInBounds, List.length_set, List.take_set, htk]
    simp [bcells, List.map_set]
theorem bytes_at {w : World} {B e g c : Nat} {l : List UInt8} (h : Bytes w B e (.slice (some ⟨g, 0, none⟩) l.length c) l) (k : Nat) (hk : k < l.length) :
    w.cell? ⟨g, k, none⟩ = some (.int .u8 (l[k]).toNat) ∧ w.frozen? ⟨g, k, none⟩ = false ∧ B ≤ g := by
  rcases h with ⟨h, _⟩ | ⟨g', cap, cur, fz, hv, hb, hg, hfz, hlc, hm, hcs, htk⟩
  · cases h
  · simp at hv
    obtain ⟨rfl, rfl⟩ := hv
    refine ⟨?_, ?_, hb⟩
    · have := bytes_cells (_cap := c) hg htk k (.int .u8 (l[k]).toNat) (by simp [bcells, hk])
      have hadd : (⟨g, 0, none⟩ : Addr).add k = ⟨g, k, none⟩ := by unfold Addr.add; split <;> simp_all
      rwa [hadd] at this
    · obtain ⟨lo, hi'⟩ := fz
      simp only [World.frozen?, hg, Bool.and_eq_false_iff, decide_eq_false_iff_not]
      rcases hfz with h | h
      · right; cases h; omega
      · left; simp only at h; omega

end Go.Proofs.YtkfkjcadmdcbnaaDoor
namespace Go.Proofs.YtkfkjcadmdcbnaaDoor
open Go.RowKit Go.Proofs.YtkfkjcadmdcbnaaDoor.Hexa Go.Proofs.YtkfkjcadmdcbnaaDoor.Byt Go.Proofs.YtkfkjcadmdcbnaaDoor.BitsM

set_option maxRecDepth 100000 in
set_option maxHeartbeats 400000 in
theorem range_any (n a b : Int) (w : World) : Calls Tryd.prog 51 #[.int .i64 n, .int .i64 a, .int .i64 b] w fun e w' => e = .returned (.bool (decide (a ≤ n ∧ n ≤ b))) ∧ w' = w := by
  by_cases h1 : a ≤ n <;> by_cases h2 : n ≤ b
  all_goals
    go_enter Tryd.func51, Tryd.ntmps51
    go_wp2
    all_goals go_ret
    all_goals exact ⟨by simp [h1, h2], rfl⟩
theorem range_yes {n a b : Int} (w : World) (h : a ≤ n ∧ n ≤ b) : Calls Tryd.prog 51 #[.int .i64 n, .int .i64 a, .int .i64 b] w fun e w' => e = .returned (.bool true) ∧ w' = w :=
  (range_any n a b w).mono fun _ _ ⟨he, hw⟩ => ⟨by rw [he, decide_eq_true h], hw⟩
theorem range_no {n a b : Int} (w : World) (h : ¬ (a ≤ n ∧ n ≤ b)) : Calls Tryd.prog 51 #[.int .i64 n, .int .i64 a, .int .i64 b] w fun e w' => e = .returned (.bool false) ∧ w' = w :=
  (range_any n a b w).mono fun _ _ ⟨he, hw⟩ => ⟨by rw [he, decide_eq_false h], hw⟩
end Go.Proofs.YtkfkjcadmdcbnaaDoor
namespace Go.Proofs.YtkfkjcadmdcbnaaDoor
open Go.RowKit

theorem name_all {s : ByteArray} (hl : 1 ≤ s.size ∧ s.size ≤ 7) (h : ∀ j (hj : j < s.size), NameC s[j]) : NameR s := by
  refine ⟨hl, fun b hb => ?_⟩
  obtain ⟨j, hj, rfl⟩ := List.getElem_of_mem hb
  exact h j (by simpa using hj)
theorem name_at {s : ByteArray} (h : NameR s) (j : Nat) (hj : j < s.size) : NameC s[j] := by
  refine h.2 _ ?_
  have hj' : j < s.data.toList.length := by simpa using hj
  exact List.getElem_mem hj'


end Go.Proofs.YtkfkjcadmdcbnaaDoor
namespace Go.Proofs.YtkfkjcadmdcbnaaDoor
open Go.RowKit
def SaysB (b : Bool) (w : World) (e : Ending) (w' : World) : Prop := e = .returned (.bool b) ∧ Below w.heap.size w w'
def SaysT (s : ByteArray) (w : World) (e : Ending) (w' : World) : Prop := e = .returned (.string s) ∧ Below w.heap.size w w'
def SaysI (n : Int) (w : World) (e : Ending) (w' : World) : Prop := e = .returned (.int .i64 n) ∧ Below w.heap.size w w'
theorem ret_boolv {a b : Bool} (h : a = b) : Ending.returned (.bool a) = .returned (.bool b) := by rw [h]
end Go.Proofs.YtkfkjcadmdcbnaaDoor
namespace Go.Proofs.YtkfkjcadmdcbnaaDoor
open Go.RowKit

theorem text_full (x : ByteArray) (h : 0 < x.size) : (x.toList == []) = false := by
  apply beq_eq_false_iff_ne.2
  intro e
  have h1 : x.toList.length = x.size := by rw [Go.ByteArray.toList_eq]; simp
  rw [e] at h1
  simp at h1
  omega
theorem text_full' (x : ByteArray) (h : 0 < x.size) : ([] == x.toList) = false := by
  have h1 := text_full x h
  apply beq_eq_false_iff_ne.2
  intro e
  rw [← e] at h1
  simp at h1
theorem text_ne {x y : ByteArray} (h : ¬ x = y) : ¬ (x.toList = y.toList) := by
  intro e
  apply h
  rw [Go.ByteArray.toList_eq, Go.ByteArray.toList_eq] at e
  cases x; cases y
  simp at e
  rw [e]
theorem text_neB {x y : ByteArray} (h : ¬ x = y) : (x.toList == y.toList) = false := beq_eq_false_iff_ne.2 (text_ne h)
end Go.Proofs.YtkfkjcadmdcbnaaDoor
namespace Go.Proofs.YtkfkjcadmdcbnaaDoor
open Go.RowKit Go.Proofs.YtkfkjcadmdcbnaaDoor.Parts

/-- Some slice of the call's own that holds these texts, and a number. -/
def GivesTI (P : List ByteArray) (c : Int) (w : World) (e : Ending) (w' : World) : Prop :=
  ∃ v, e = .returned (.tuple #[v, .int .i64 c]) ∧ w'.ownsRow w.heap.size 9 1 v P.length (scells P) ∧ Below w.heap.size w w'
theorem below_drawsP {B : Nat} {a w : World} (h : Below B a w) (m : Nat) : Below B a (w.drewN m) := ⟨h.os, h.tape, h.output, h.size, h.block⟩
theorem own_drawsP {w : World} {base e : Nat} {v : Value} {n : Nat} {xs : List Value} (h : w.ownsRow base e 1 v n xs) (m : Nat) : (w.drewN m).ownsRow base e 1 v n xs := h
theorem slash_list : (⟨#[47]⟩ : ByteArray).toList = [47] := by rw [Go.ByteArray.toList_eq]
theorem gives_none {s : ByteArray} {c : Int} {w w' : World} {v : Value} (h : pathCode s = c) (hc : c ≠ 0 ∨ s.size = 1) (hown : w'.ownsRow w.heap.size 9 1 v 0 []) (hb : Below w.heap.size w w') : GivesTI (pathNames s) (pathCode s) w (.returned (.tuple #[v, .int .i64 c])) w' := by
  have hp : pathNames s = [] := by
    unfold pathNames
    rw [if_neg]
    rw [h]
    intro hh
    rcases hc with hc | hc
    · exact hc hh.1
    · exact hh.2 hc
  exact ⟨v, by rw [h], by rw [hp]; exact hown, hb⟩
theorem gives_some {s : ByteArray} {P : List (List UInt8)} {w w' : World} {v : Value} {n : Nat} (hp : cutP s = P) (h0 : pathCode s = 0) (h1 : s.size ≠ 1) (hn : n = P.length) (hown : w'.ownsRow w.heap.size 9 1 v n (scells (P.map bytesOf))) (hb : Below w.heap.size w w') : GivesTI (pathNames s) (pathCode s) w (.returned (.tuple #[v, .int .i64 0])) w' := by
  have hq : pathNames s = P.map bytesOf := by
    unfold pathNames
    rw [if_pos ⟨h0, h1⟩, hp]
  exact ⟨v, by rw [h0], by rw [hq, List.length_map, ← hn]; exact hown, hb⟩
end Go.Proofs.YtkfkjcadmdcbnaaDoor
namespace Go.Proofs.YtkfkjcadmdcbnaaDoor
open Go.RowKit Go.Proofs.YtkfkjcadmdcbnaaDoor.Parts Go.Proofs.YtkfkjcadmdcbnaaDoor.Hexa

def encT : Enc ByteArray := ⟨1, fun s => [.string s], fun _ => rfl⟩
theorem encT_cells (s : ByteArray) : encT.cells s = [.string s] := rfl
theorem cellsT_eq : ∀ L : List ByteArray, cellsE encT L = scells L
  | [] => rfl
  | x :: r => by rw [cellsE, cellsT_eq r]; rfl
abbrev SrcT (w : World) (a : Option Addr) (n : Nat) (L : List ByteArray) : Prop := SrcE encT w a n L
theorem srcT_at {w : World} {a : Option Addr} {n : Nat} {L : List ByteArray} (h : SrcT w a n L) (j : Nat) (hj : j < n) : ∃ g off, a = some ⟨g, off, none⟩ ∧ g < w.heap.size ∧ w.cell? ⟨g, off + j, none⟩ = some (.string (L.getD j default)) := by
  obtain ⟨g, off, e, hg, c⟩ := h.cell j hj
  refine ⟨g, off, e, hg, ?_⟩
  have h9 := c 0 _ rfl
  rw [show off + j * encT.k + 0 = off + j from by show off + j * 1 + 0 = off + j; omega] at h9
  exact h9
theorem srcT_of_own {w : World} {B e n cap : Nat} {a : Option Addr} {L : List ByteArray} (h : w.ownsRow B e 1 (.slice a n cap) n (scells L)) : SrcT w a n L := srcE_of_own (E := encT) (by rw [cellsT_eq]; exact h) (by decide)
theorem srcT_later {w w' : World} {a : Option Addr} {n : Nat} {L : List ByteArray} {B : Nat} (h : SrcT w a n L) (hb : Below B w w') (hB : w.heap.size ≤ B) (j : Nat) (hj : j < n) : ∃ g off, a = some ⟨g, off, none⟩ ∧ g < w.heap.size ∧ w'.cell? ⟨g, off + j, none⟩ = some (.string (L.getD j default)) := by
  obtain ⟨g, off, e, hg, _⟩ := srcT_at h j hj
  obtain ⟨g', off', e', _, c⟩ := srcT_at (h.below hb hB) j hj
  rw [e] at e'
  cases e'
  exact ⟨g, off, e, hg, c⟩
theorem texts_eq {P Q : List ByteArray} {n : Nat} (hP : P.length = n) (hQ : Q.length = n) (h : ∀ j, j < n → P.getD j default = Q.getD j default) : P = Q := by
  apply List.ext_getElem (by omega)
  intro i h1 h2
  have h9 := h i (by omega)
  simpa [List.getD, h1, h2] using h9
end Go.Proofs.YtkfkjcadmdcbnaaDoor
namespace Go.Proofs.YtkfkjcadmdcbnaaDoor
open Go.RowKit Go.Proofs.YtkfkjcadmdcbnaaDoor.Parts Go.Proofs.YtkfkjcadmdcbnaaDoor.Hexa

/-- No text longer than b. -/
def FitT2 (L : List ByteArray) (n b : Nat) : Prop := ∀ j, j < n → (L.getD j default).size ≤ b
theorem infoT : (Tryd.prog.info? 9).map (fun i => (i.zero, i.size, i.bytes)) = some (some (.string ByteArray.empty), 1, 16) := by kernel_rfl


/-- What the copy returns. -/
def CopyT (n : Nat) (L : List ByteArray) (w : World) (e : Ending) (w' : World) : Prop :=
  e = .returned (.slice (some ⟨w.heap.size, 0, none⟩) n n) ∧ w'.ownsRow w.heap.size 9 1 (.slice (some ⟨w.heap.size, 0, none⟩) n n) n (scells L) ∧ Below w.heap.size w w'

end Go.Proofs.YtkfkjcadmdcbnaaDoor
namespace Go.Proofs.YtkfkjcadmdcbnaaDoor
open Go.RowKit Go.Proofs.YtkfkjcadmdcbnaaDoor.Parts Go.Proofs.YtkfkjcadmdcbnaaDoor.Hexa

def slashB : ByteArray := ⟨#[47]⟩
/-- The first k names, a slash ahead of each. -/
def joinTo (L : List ByteArray) : Nat → ByteArray
  | 0 => ⟨#[]⟩
  | k + 1 => joinTo L k ++ slashB ++ L.getD k default
def joinB (L : List ByteArray) : ByteArray := if L.length = 0 then slashB else joinTo L L.length
theorem joinTo_next (L : List ByteArray) (k : Nat) : joinTo L (k + 1) = joinTo L k ++ slashB ++ L.getD k default := rfl
theorem joinTo_size (L : List ByteArray) (m : Nat) : ∀ k, (∀ j, j < k → (L.getD j default).size ≤ m) → (joinTo L k).size ≤ k * (m + 1)
  | 0, _ => by simp [joinTo, ByteArray.size]
  | k + 1, h => by
    have h1 := joinTo_size L m k (fun j hj => h j (by omega))
    have h2 := h k (by omega)
    rw [joinTo_next, ByteArray.size_append, ByteArray.size_append, show slashB.size = 1 from rfl, Nat.add_mul, Nat.one_mul]
    omega
def parentB (s : ByteArray) : ByteArray := if (pathNames s).length = 0 then ⟨#[]⟩ else joinB ((pathNames s).take ((pathNames s).length - 1))
def lastB (s : ByteArray) : ByteArray := if (pathNames s).length = 0 then ⟨#[]⟩ else (pathNames s).getD ((pathNames s).length - 1) default
def underB (s t : ByteArray) : Bool := decide (pathCode s = 0 ∧ pathCode t = 0 ∧ (pathNames t).length < (pathNames s).length ∧ (pathNames s).take (pathNames t).length = pathNames t)
theorem names_none {s : ByteArray} (h : pathCode s ≠ 0) : (pathNames s).length = 0 := by
  unfold pathNames
  rw [if_neg (fun hh => h hh.1)]
  rfl
theorem srcT_take {w : World} {a : Option Addr} {n k : Nat} {L : List ByteArray} (h : SrcT w a n L) (hk : k ≤ n) : SrcT w a k (L.take k) := by
  refine ⟨by rw [List.length_take, h.len]; omega, fun j hj => ?_⟩
  obtain ⟨g, off, e, hg, c⟩ := h.cell j (by omega)
  refine ⟨g, off, e, hg, ?_⟩
  have e9 : (L.take k).getD j default = L.getD j default := by
    simp only [List.getD, List.getElem?_take]
    rw [if_pos hj]
  rw [e9]
  exact c
/-- Every name of a path is short. -/
theorem names_size (s : ByteArray) (j : Nat) (hj : j < (pathNames s).length) : ((pathNames s).getD j default).size ≤ 60 := by
  unfold pathNames at hj ⊢
  split at hj
  · rename_i h
    rw [if_pos h]
    have h1 : ¬ 60 < s.size := fun hh => by have := h.1; rw [pathCode, if_pos (.inl hh)] at this; omega
    rw [List.length_map] at hj
    have h3 : (tailL s).length ≤ s.size := by unfold tailL; rw [List.length_drop, Lib.size_eq]; omega
    have h2 := cutGo_mem (tailL s) [] ((cutP s)[j]) (List.getElem_mem hj)
    have e : ((cutP s).map bytesOf).getD j default = bytesOf (cutP s)[j] := by simp [List.getD, hj]
    rw [e, bytesOf_size]
    simp at h2
    omega
  · simp at hj
end Go.Proofs.YtkfkjcadmdcbnaaDoor
namespace Go.Proofs.YtkfkjcadmdcbnaaDoor
open Go.RowKit Go.Proofs.YtkfkjcadmdcbnaaDoor.Parts Go.Proofs.YtkfkjcadmdcbnaaDoor.Hexa

/-! The children of a directory. -/
def kidsR (L : List ItemR) (f : ByteArray) : List ByteArray := if f.size = 0 then [] else (L.filter fun x => decide (parentB x.path = f)).map fun x => lastB x.path
theorem kids_none {L : List ItemR} {f : ByteArray} (h : f.size = 0) : kidsR L f = [] := if_pos h
theorem kids_nil (f : ByteArray) : kidsR [] f = [] := by unfold kidsR; split <;> rfl
theorem kids_yes {L : List ItemR} {f : ByteArray} {k : Nat} (hf : f.size ≠ 0) (hk : k < L.length) (h : parentB (L.getD k default).path = f) : kidsR (L.take (k + 1)) f = kidsR (L.take k) f ++ [lastB (L.getD k default).path] := by
  unfold kidsR
  rw [if_neg hf, if_neg hf, List.take_succ_eq_append_getElem hk, List.filter_append, List.map_append]
  have e : L[k] = L.getD k default := by simp [List.getD, hk]
  rw [e, List.filter_cons, decide_eq_true h]
  rfl
theorem kids_no {L : List ItemR} {f : ByteArray} {k : Nat} (hk : k < L.length) (h : parentB (L.getD k default).path ≠ f) : kidsR (L.take (k + 1)) f = kidsR (L.take k) f := by
  unfold kidsR
  split
  · rfl
  · rw [List.take_succ_eq_append_getElem hk, List.filter_append, List.map_append]
    have e : L[k] = L.getD k default := by simp [List.getD, hk]
    rw [e, List.filter_cons, decide_eq_false h]
    simp
theorem kids_len (L : List ItemR) (f : ByteArray) : (kidsR L f).length ≤ L.length := by
  unfold kidsR
  split
  · exact Nat.zero_le _
  · rw [List.length_map]; exact List.length_filter_le _ _

end Go.Proofs.YtkfkjcadmdcbnaaDoor
namespace Go.Proofs.YtkfkjcadmdcbnaaDoor
open Go.RowKit Go.Proofs.YtkfkjcadmdcbnaaDoor.Parts Go.Proofs.YtkfkjcadmdcbnaaDoor.Hexa

theorem infoPth : (Tryd.prog.info? 9).map (fun i => (i.zero, i.size, i.bytes)) = some (some (.string ⟨#[]⟩), 1, 16) := by kernel_rfl
theorem scells_map_next (P : List (List UInt8)) (p : List UInt8) : scells ((P ++ [p]).map bytesOf) = scells (P.map bytesOf) ++ [.string (bytesOf p)] := by simp [scells]
theorem own_mono15 {w : World} {B B' e : Nat} {v : Value} {n : Nat} {xs : List Value} (h : w.ownsRow B e 1 v n xs) (hb : B' ≤ B) : w.ownsRow B' e 1 v n xs := by
  refine ⟨h.1, ?_⟩
  rcases h.2 with h2 | ⟨g, cap, cur, h1, h2, h3⟩
  · exact .inl h2
  · exact .inr ⟨g, cap, cur, h1, Nat.le_trans hb h2, h3⟩
theorem lit_none (w : World) : (w.alloc (.cells #[] 9)).ownsRow w.heap.size 9 1 (.slice (some ⟨w.heap.size, 0, none⟩) 0 0) 0 [] := World.ownsRow_lit w #[] 0 (Nat.le_refl _) (by decide) rfl

set_option maxRecDepth 100000 in
set_option maxHeartbeats 4000000 in
theorem specSplit_any (s : ByteArray) (w : World) (hs : s.size ≤ 2000000) :
    Calls Tryd.prog 45 #[.string s] w (GivesTI (pathNames s) (pathCode s) w) := by
  obtain ⟨i0, hi, hz0, hz1, hz2⟩ := info_parts infoPth
  have N0 := Lib.hid (lit_none w)
  have B0 := Lib.hid ((Below.refl w.heap.size w).alloc (Nat.le_refl _) (.cells #[] 9))
  by_cases h60 : (60 : Int) < (s.size : Int)
  · have HC := Lib.hid (code_long (s := s) (by omega))
    go_enter Tryd.func45, Tryd.ntmps45
    go_wp2
    go_ret2
    exact gives_none HC.out (.inl (by decide)) N0.out B0.out
  by_cases h0 : (s.size : Int) = 0
  · obtain rfl : s = ByteArray.empty := by
      obtain ⟨⟨l⟩⟩ := s
      cases l with
      | nil => rfl
      | cons a b => simp [ByteArray.size] at h0; omega
    have HC : Hid (pathCode ByteArray.empty = 1) := Lib.hid rfl
    clear h0 h60 hs
    go_enter Tryd.func45, Tryd.ntmps45
    go_wp2
    go_ret2
    exact gives_none HC.out (.inl (by decide)) N0.out B0.out
  have hpos : 0 < s.size := by omega
  have e0 : ((s.size : Int) == 0) = false := beq_eq_false_iff_ne.2 h0
  by_cases hh : (s[0].toNat : Int) = 47
  case neg =>
    have HC := Lib.hid (code_head (headOk_no hpos hh))
    have e47 : ((s[0].toNat : Int) != 47) = true := by simpa [bne] using hh
    go_enter Tryd.func45, Tryd.ntmps45
    go_wp2
    go_ret2
    exact gives_none HC.out (.inl (by decide)) N0.out B0.out
  have HH := Lib.hid (headOk_yes hpos hh)
  have e47 : ((s[0].toNat : Int) != 47) = false := by simpa [bne] using hh
  by_cases h1 : s.size = 1
  · have HC := Lib.hid (code_root HH.out h1)
    have H1 := Lib.hid h1
    obtain rfl := root_text HH.out h1
    clear h1 hh h0 h60 hpos e0 e47
    go_enter Tryd.func45, Tryd.ntmps45
    go_wp2
    go_ret2
    exact gives_none HC.out (.inr H1.out) N0.out B0.out
  have hne : ¬ s = ⟨#[47]⟩ := fun h => h1 (by rw [h]; rfl)
  have i1 : (s.toList == [47]) = false := by rw [← slash_list]; exact text_neB hne
  go_enter Tryd.func45, Tryd.ntmps45
  go_wp2
  obtain ⟨W1, hW1⟩ : ∃ x, x = w.alloc (.cells #[] 9) := ⟨_, rfl⟩
  have LW : Hid (W1.heap.size = w.heap.size + 1) := Lib.hid (by rw [hW1]; simp)
  rw [← hW1] at N0 B0 ⊢
  clear hW1 hh i1 hne e0 e47
  have P0 := Lib.hid (lit_none W1)
  have C0 := Lib.hid ((Below.refl W1.heap.size W1).alloc (Nat.le_refl _) (.cells #[] 9))
  rw [← LW.out]
  go_loopw [5, 6, 7, 8] (fun ov lv bv iv wr => ∃ (i b : Nat) (P : List (List UInt8)) (lg : Bool), 1 ≤ b ∧ b ≤ i ∧ i ≤ s.size + 1 ∧ P.length ≤ i ∧ Hid (i ≤ s.size → cutP s = P ++ cutGo (seg s b i) (s.data.toList.drop i)) ∧ Hid (s.size < i → cutP s = P) ∧ Hid (okP P = true) ∧
      Hid (i ≤ s.size → ∀ j (hj : j < s.size), b ≤ j → j < i → NameC s[j]) ∧ Hid (longP P = lg) ∧ iv = .int .i64 i ∧ bv = .int .i64 b ∧ lv = .bool lg ∧ Hid (wr.ownsRow W1.heap.size 9 1 ov P.length (scells (P.map bytesOf))) ∧ Hid (Below W1.heap.size W1 wr))
    (fun _ _ _ iv _ => s.size + 1 - (intOf iv).toNat)
  case atStart => exact ⟨1, 1, [], false, Nat.le_refl _, Nat.le_refl _, by omega, by simp, Lib.hid (fun _ => cut_start s), Lib.hid (fun h => by omega), Lib.hid rfl, Lib.hid (fun _ j hj h1 h2 => by omega), Lib.hid rfl, rfl, rfl, rfl, P0, C0⟩
  case round =>
    clear P0 C0
    obtain ⟨i, b, P, lg, h1b, hbi, hin, hPi, H1, H2, H3, H4, H5, rfl, rfl, rfl, HO, HB⟩ := hrel
    have hbel := HB.out
    have HW : Hid (W1.heap.size ≤ wr.heap.size) := Lib.hid hbel.size
    have NB : Hid (wr.ownsRow w.heap.size 9 1 (.slice (some ⟨w.heap.size, 0, none⟩) 0 0) 0 []) := Lib.hid (own_below N0.out hbel)
    have BB : Hid (Below w.heap.size w wr) := Lib.hid (B0.out.trans (hbel.mono B0.out.size))
    clear hbel
    by_cases hle : i ≤ s.size
    · have E := Lib.hid (H1.out hle)
      have HN := Lib.hid (H4.out hle)
      clear H1 H2 H4
      by_cases hlt : i < s.size
      · obtain ⟨y, hy⟩ : ∃ y, s[i]'hlt = y := ⟨_, rfl⟩
        have hy255 := y.toNat_lt
        have HY := Lib.hid hy
        by_cases c47 : (y.toNat : Int) = 47
        · have Y47 : Hid (s[i]'hlt = 47) := Lib.hid (by rw [hy]; exact is47 c47)
          by_cases hb : b = i
          · subst hb
            have HC : Hid (pathCode s = 1) := Lib.hid (code_bad (by omega) HH.out h1 (cut_empty E.out hlt Y47.out))
            go_wp2
            go_ret2
            exact gives_none HC.out (.inl (by decide)) NB.out BB.out
          · have HE := Lib.hid (cut_slash E.out hlt Y47.out)
            have HK : Hid (okP (P ++ [seg s b i]) = true) := Lib.hid (by
              rw [okP_append, H3.out, okP_one (fun h => by have := seg_len s b i hbi hle; rw [h] at this; simp at this; omega) (seg_name hle HN.out)]; rfl)
            clear E HN
            have HG0 : Hid (longP (P ++ [seg s b i]) = (lg || decide (7 < i - b))) := Lib.hid (by rw [longP_append, longP_one, H5.out, seg_len s b i hbi (by omega)])
            clear H3 H5
            cases lg with
            | true =>
              have HG : Hid (longP (P ++ [seg s b i]) = true) := Lib.hid (by rw [HG0.out]; rfl)
              clear HG0
              have hown := HO.out
              have hbel := HB.out
              go_wp2_with (first | (at_builtin; refine wpList_append_own _ rfl (.tmp 70) (.tmp 75) 26 rfl W1.heap.size 9 i0 (.string ⟨#[]⟩) 1 16 Tryd.underlying26 hi hz0 hz1 hz2 rfl (by decide) _ _ _ rfl (hown.alloc _) ⟨wr.heap.size, 0, none⟩ 1 1 [.string (s.extract b i)] rfl rfl (World.news_of_block (heap_alloc_new _ _)) (by simp [Value.oneCell']) (by unfold maxLen; omega) (by omega) (by have := HW.out; simp; omega) ?_; intro v1 w1 hown1 hgrow1 hn1))
              have hb1 : Hid (Below W1.heap.size W1 w1) := Lib.hid ((hbel.alloc hbel.size _).grown hgrow1 (by have := HW.out; simp; omega) (own_block_ge hown))
              have HO1 : Hid (w1.ownsRow W1.heap.size 9 1 v1 (P ++ [seg s b i]).length (scells ((P ++ [seg s b i]).map bytesOf))) := Lib.hid (by rw [scells_map_next, seg_bytes, List.length_append]; exact hown1)
              clear hown hbel hown1 hgrow1 hn1 HO HB
              go_wp2
              go_roundw
              case rel => exact ⟨i + 1, i + 1, P ++ [seg s b i], true, by omega, Nat.le_refl _, by omega, by rw [List.length_append]; simp; omega, Lib.hid (fun _ => HE.out), Lib.hid (fun h => by omega), HK, Lib.hid (fun _ j hj h1 h2 => by omega), HG, by go_num, by go_num, rfl, HO1, hb1⟩
              case measure => (simp [intOf]; try omega)
            | false =>
              by_cases h7 : 7 < i - b
              · have h8 : ((7 : Int) < (i : Int) - (b : Int)) := by omega
                have HG : Hid (longP (P ++ [seg s b i]) = true) := Lib.hid (by rw [HG0.out, Bool.false_or]; exact decide_eq_true h7)
                clear HG0
                have hown := HO.out
                have hbel := HB.out
                go_wp2_with (first | (at_builtin; refine wpList_append_own _ rfl (.tmp 70) (.tmp 75) 26 rfl W1.heap.size 9 i0 (.string ⟨#[]⟩) 1 16 Tryd.underlying26 hi hz0 hz1 hz2 rfl (by decide) _ _ _ rfl (hown.alloc _) ⟨wr.heap.size, 0, none⟩ 1 1 [.string (s.extract b i)] rfl rfl (World.news_of_block (heap_alloc_new _ _)) (by simp [Value.oneCell']) (by unfold maxLen; omega) (by omega) (by have := HW.out; simp; omega) ?_; intro v1 w1 hown1 hgrow1 hn1))
                have hb1 : Hid (Below W1.heap.size W1 w1) := Lib.hid ((hbel.alloc hbel.size _).grown hgrow1 (by have := HW.out; simp; omega) (own_block_ge hown))
                have HO1 : Hid (w1.ownsRow W1.heap.size 9 1 v1 (P ++ [seg s b i]).length (scells ((P ++ [seg s b i]).map bytesOf))) := Lib.hid (by rw [scells_map_next, seg_bytes, List.length_append]; exact hown1)
                clear hown hbel hown1 hgrow1 hn1 HO HB
                go_wp2
                go_roundw
                case rel => exact ⟨i + 1, i + 1, P ++ [seg s b i], true, by omega, Nat.le_refl _, by omega, by rw [List.length_append]; simp; omega, Lib.hid (fun _ => HE.out), Lib.hid (fun h => by omega), HK, Lib.hid (fun _ j hj h1 h2 => by omega), HG, by go_num, by go_num, rfl, HO1, hb1⟩
                case measure => (simp [intOf]; try omega)
              · have h8 : ¬ ((7 : Int) < (i : Int) - (b : Int)) := by omega
                have HG : Hid (longP (P ++ [seg s b i]) = false) := Lib.hid (by rw [HG0.out, Bool.false_or]; exact decide_eq_false h7)
                clear HG0
                have hown := HO.out
                have hbel := HB.out
                go_wp2_with (first | (at_builtin; refine wpList_append_own _ rfl (.tmp 70) (.tmp 75) 26 rfl W1.heap.size 9 i0 (.string ⟨#[]⟩) 1 16 Tryd.underlying26 hi hz0 hz1 hz2 rfl (by decide) _ _ _ rfl (hown.alloc _) ⟨wr.heap.size, 0, none⟩ 1 1 [.string (s.extract b i)] rfl rfl (World.news_of_block (heap_alloc_new _ _)) (by simp [Value.oneCell']) (by unfold maxLen; omega) (by omega) (by have := HW.out; simp; omega) ?_; intro v1 w1 hown1 hgrow1 hn1))
                have hb1 : Hid (Below W1.heap.size W1 w1) := Lib.hid ((hbel.alloc hbel.size _).grown hgrow1 (by have := HW.out; simp; omega) (own_block_ge hown))
                have HO1 : Hid (w1.ownsRow W1.heap.size 9 1 v1 (P ++ [seg s b i]).length (scells ((P ++ [seg s b i]).map bytesOf))) := Lib.hid (by rw [scells_map_next, seg_bytes, List.length_append]; exact hown1)
                clear hown hbel hown1 hgrow1 hn1 HO HB
                go_wp2
                go_roundw
                case rel => exact ⟨i + 1, i + 1, P ++ [seg s b i], false, by omega, Nat.le_refl _, by omega, by rw [List.length_append]; simp; omega, Lib.hid (fun _ => HE.out), Lib.hid (fun h => by omega), HK, Lib.hid (fun _ j hj h1 h2 => by omega), HG, by go_num, by go_num, rfl, HO1, hb1⟩
                case measure => (simp [intOf]; try omega)
        · have Y47 : Hid (¬ s[i]'hlt = 47) := Lib.hid (by rw [hy]; exact not47 c47)
          by_cases hn : NameC y
          · have HE := Lib.hid (cut_byte E.out hbi hlt Y47.out)
            have HN2 : Hid (∀ j (hj : j < s.size), b ≤ j → j < i + 1 → NameC s[j]) := Lib.hid (fun j hj h1 h2 => by
              by_cases e : j = i
              · subst e; rw [HY.out]; exact hn
              · exact HN.out j hj h1 (by omega))
            by_cases h1 : 97 ≤ (y.toNat : Int) ∧ (y.toNat : Int) ≤ 122
            · have HR := Lib.hid h1
              clear h1 hn E HN
              go_wp2_with ((with_reducible refine (range_yes _ HR.out).mono ?_); rintro e w1 ⟨rfl, rfl⟩)
              go_roundw
              case rel => exact ⟨i + 1, b, P, lg, h1b, by omega, by omega, by omega, Lib.hid (fun _ => HE.out), Lib.hid (fun h => by omega), H3, Lib.hid (fun _ => HN2.out), H5, by go_num, rfl, rfl, HO, HB⟩
              case measure => (simp [intOf]; try omega)
            · have h2 : 48 ≤ (y.toNat : Int) ∧ (y.toNat : Int) ≤ 57 := by
                rcases hn with h | h
                · exact absurd ⟨by omega, by omega⟩ h1
                · omega
              have HR := Lib.hid h1
              have HR2 := Lib.hid h2
              clear h1 h2 hn E HN
              go_wp2_with (first | ((with_reducible refine (range_no _ HR.out).mono ?_); rintro e w1 ⟨rfl, rfl⟩) | ((with_reducible refine (range_yes _ HR2.out).mono ?_); rintro e w1 ⟨rfl, rfl⟩))
              go_roundw
              case rel => exact ⟨i + 1, b, P, lg, h1b, by omega, by omega, by omega, Lib.hid (fun _ => HE.out), Lib.hid (fun h => by omega), H3, Lib.hid (fun _ => HN2.out), H5, by go_num, rfl, rfl, HO, HB⟩
              case measure => (simp [intOf]; try omega)
          · have HC : Hid (pathCode s = 1) := Lib.hid (code_bad (by omega) HH.out h1 (cut_bad E.out hlt Y47.out (by rw [hy]; exact hn)))
            have HR : Hid (¬ (97 ≤ (y.toNat : Int) ∧ (y.toNat : Int) ≤ 122)) := Lib.hid (fun h => hn (.inl (by omega)))
            have HR2 : Hid (¬ (48 ≤ (y.toNat : Int) ∧ (y.toNat : Int) ≤ 57)) := Lib.hid (fun h => hn (.inr (by omega)))
            clear hn E HN
            go_wp2_with (first | ((with_reducible refine (range_no _ HR.out).mono ?_); rintro e w1 ⟨rfl, rfl⟩) | ((with_reducible refine (range_no _ HR2.out).mono ?_); rintro e w1 ⟨rfl, rfl⟩))
            go_ret2
            exact gives_none HC.out (.inl (by decide)) NB.out BB.out
      · obtain rfl : i = s.size := by omega
        by_cases hb : b = s.size
        · subst hb
          have HC : Hid (pathCode s = 1) := Lib.hid (code_bad (by omega) HH.out h1 (cut_end_bad E.out))
          go_wp2
          go_ret2
          exact gives_none HC.out (.inl (by decide)) NB.out BB.out
        · have HE := Lib.hid (cut_end E.out)
          have HK : Hid (okP (P ++ [seg s b s.size]) = true) := Lib.hid (by
            rw [okP_append, H3.out, okP_one (fun h => by have := seg_len s b s.size hbi (Nat.le_refl _); rw [h] at this; simp at this; omega) (seg_name (Nat.le_refl _) HN.out)]; rfl)
          clear E HN
          have HG0 : Hid (longP (P ++ [seg s b s.size]) = (lg || decide (7 < s.size - b))) := Lib.hid (by rw [longP_append, longP_one, H5.out, seg_len s b s.size hbi (by omega)])
          clear H3 H5
          cases lg with
          | true =>
            have HG : Hid (longP (P ++ [seg s b s.size]) = true) := Lib.hid (by rw [HG0.out]; rfl)
            clear HG0
            have hown := HO.out
            have hbel := HB.out
            go_wp2_with (first | (at_builtin; refine wpList_append_own _ rfl (.tmp 70) (.tmp 75) 26 rfl W1.heap.size 9 i0 (.string ⟨#[]⟩) 1 16 Tryd.underlying26 hi hz0 hz1 hz2 rfl (by decide) _ _ _ rfl (hown.alloc _) ⟨wr.heap.size, 0, none⟩ 1 1 [.string (s.extract b s.size)] rfl rfl (World.news_of_block (heap_alloc_new _ _)) (by simp [Value.oneCell']) (by unfold maxLen; omega) (by omega) (by have := HW.out; simp; omega) ?_; intro v1 w1 hown1 hgrow1 hn1))
            have hb1 : Hid (Below W1.heap.size W1 w1) := Lib.hid ((hbel.alloc hbel.size _).grown hgrow1 (by have := HW.out; simp; omega) (own_block_ge hown))
            have HO1 : Hid (w1.ownsRow W1.heap.size 9 1 v1 (P ++ [seg s b s.size]).length (scells ((P ++ [seg s b s.size]).map bytesOf))) := Lib.hid (by rw [scells_map_next, seg_bytes, List.length_append]; exact hown1)
            clear hown hbel hown1 hgrow1 hn1 HO HB
            go_wp2
            go_roundw
            case rel => exact ⟨s.size + 1, s.size + 1, P ++ [seg s b s.size], true, by omega, Nat.le_refl _, by omega, by rw [List.length_append]; simp; omega, Lib.hid (fun h => by omega), Lib.hid (fun _ => HE.out), HK, Lib.hid (fun h => by omega), HG, by go_num, by go_num, rfl, HO1, hb1⟩
            case measure => (simp [intOf]; try omega)
          | false =>
            by_cases h7 : 7 < s.size - b
            · have h8 : ((7 : Int) < (s.size : Int) - (b : Int)) := by omega
              have HG : Hid (longP (P ++ [seg s b s.size]) = true) := Lib.hid (by rw [HG0.out, Bool.false_or]; exact decide_eq_true h7)
              clear HG0
              have hown := HO.out
              have hbel := HB.out
              go_wp2_with (first | (at_builtin; refine wpList_append_own _ rfl (.tmp 70) (.tmp 75) 26 rfl W1.heap.size 9 i0 (.string ⟨#[]⟩) 1 16 Tryd.underlying26 hi hz0 hz1 hz2 rfl (by decide) _ _ _ rfl (hown.alloc _) ⟨wr.heap.size, 0, none⟩ 1 1 [.string (s.extract b s.size)] rfl rfl (World.news_of_block (heap_alloc_new _ _)) (by simp [Value.oneCell']) (by unfold maxLen; omega) (by omega) (by have := HW.out; simp; omega) ?_; intro v1 w1 hown1 hgrow1 hn1))
              have hb1 : Hid (Below W1.heap.size W1 w1) := Lib.hid ((hbel.alloc hbel.size _).grown hgrow1 (by have := HW.out; simp; omega) (own_block_ge hown))
              have HO1 : Hid (w1.ownsRow W1.heap.size 9 1 v1 (P ++ [seg s b s.size]).length (scells ((P ++ [seg s b s.size]).map bytesOf))) := Lib.hid (by rw [scells_map_next, seg_bytes, List.length_append]; exact hown1)
              clear hown hbel hown1 hgrow1 hn1 HO HB
              go_wp2
              go_roundw
              case rel => exact ⟨s.size + 1, s.size + 1, P ++ [seg s b s.size], true, by omega, Nat.le_refl _, by omega, by rw [List.length_append]; simp; omega, Lib.hid (fun h => by omega), Lib.hid (fun _ => HE.out), HK, Lib.hid (fun h => by omega), HG, by go_num, by go_num, rfl, HO1, hb1⟩
              case measure => (simp [intOf]; try omega)
            · have h8 : ¬ ((7 : Int) < (s.size : Int) - (b : Int)) := by omega
              have HG : Hid (longP (P ++ [seg s b s.size]) = false) := Lib.hid (by rw [HG0.out, Bool.false_or]; exact decide_eq_false h7)
              clear HG0
              have hown := HO.out
              have hbel := HB.out
              go_wp2_with (first | (at_builtin; refine wpList_append_own _ rfl (.tmp 70) (.tmp 75) 26 rfl W1.heap.size 9 i0 (.string ⟨#[]⟩) 1 16 Tryd.underlying26 hi hz0 hz1 hz2 rfl (by decide) _ _ _ rfl (hown.alloc _) ⟨wr.heap.size, 0, none⟩ 1 1 [.string (s.extract b s.size)] rfl rfl (World.news_of_block (heap_alloc_new _ _)) (by simp [Value.oneCell']) (by unfold maxLen; omega) (by omega) (by have := HW.out; simp; omega) ?_; intro v1 w1 hown1 hgrow1 hn1))
              have hb1 : Hid (Below W1.heap.size W1 w1) := Lib.hid ((hbel.alloc hbel.size _).grown hgrow1 (by have := HW.out; simp; omega) (own_block_ge hown))
              have HO1 : Hid (w1.ownsRow W1.heap.size 9 1 v1 (P ++ [seg s b s.size]).length (scells ((P ++ [seg s b s.size]).map bytesOf))) := Lib.hid (by rw [scells_map_next, seg_bytes, List.length_append]; exact hown1)
              clear hown hbel hown1 hgrow1 hn1 HO HB
              go_wp2
              go_roundw
              case rel => exact ⟨s.size + 1, s.size + 1, P ++ [seg s b s.size], false, by omega, Nat.le_refl _, by omega, by rw [List.length_append]; simp; omega, Lib.hid (fun h => by omega), Lib.hid (fun _ => HE.out), HK, Lib.hid (fun h => by omega), HG, by go_num, by go_num, rfl, HO1, hb1⟩
              case measure => (simp [intOf]; try omega)
    · have E := Lib.hid (H2.out (by omega))
      have HK : Hid (okP (cutP s) = true) := Lib.hid (by rw [E.out]; exact H3.out)
      cases lg with
      | true =>
        have HC : Hid (pathCode s = 2) := Lib.hid (code_name (by omega) HH.out h1 HK.out (by rw [E.out]; exact H5.out))
        go_wp2
        go_ret2
        exact gives_none HC.out (.inl (by decide)) NB.out BB.out
      | false =>
        have HC : Hid (pathCode s = 0) := Lib.hid (code_ok (by omega) HH.out h1 HK.out (by rw [E.out]; exact H5.out))
        have hown := HO.out
        obtain ⟨ad, cap, rfl, hcap, hnc, hr⟩ := own_form hown
        clear hr
        go_wp2
        go_ret2
        exact gives_some E.out HC.out h1 rfl (own_mono15 hown B0.out.size) BB.out
end Go.Proofs.YtkfkjcadmdcbnaaDoor
namespace Go.Proofs.YtkfkjcadmdcbnaaDoor
open Go.RowKit Go.Proofs.YtkfkjcadmdcbnaaDoor.Parts Go.Proofs.YtkfkjcadmdcbnaaDoor.Hexa

set_option maxRecDepth 100000 in
set_option maxHeartbeats 1000000 in
theorem specJoin_any (a : Option Addr) (n c : Nat) (L : List ByteArray) (w : World) (hs : SrcT w a n L) (hn : n ≤ 2000000) (hm : ∀ j, j < n → (L.getD j default).size ≤ 2000000) :
    Calls Tryd.prog 46 #[.slice a n c] w (SaysT (joinB L) w) := by
  have HS := Lib.hid hs
  have HL := Lib.hid hs.len
  have HM := Lib.hid hm
  have HT : Hid (∀ k, k ≤ n → (joinTo L k).size ≤ 4000002000000) := Lib.hid (fun k hk => Nat.le_trans (joinTo_size L 2000000 k (fun j hj => hm j (by omega))) (Nat.le_trans (Nat.mul_le_mul_right _ (Nat.le_trans hk hn)) (by decide)))
  clear hs hm
  by_cases h0 : n = 0
  · subst h0
    have HJ : Hid (joinB L = ⟨#[47]⟩) := Lib.hid (by unfold joinB; rw [if_pos HL.out]; rfl)
    go_enter Tryd.func46, Tryd.ntmps46
    go_wp2
    go_ret
    exact ⟨by rw [HJ.out]; rfl, Below.refl _ _⟩
  · have HJ : Hid (joinB L = joinTo L n) := Lib.hid (by unfold joinB; rw [HL.out, if_neg h0])
    go_enter Tryd.func46, Tryd.ntmps46
    go_wp2
    go_loopw [3, 4] (fun sv kv wr => ∃ (k : Nat) (x : ByteArray), k ≤ n ∧ kv = .int .i64 k ∧ sv = .string x ∧ Hid (x = joinTo L k) ∧ x.size ≤ 4000002000000 ∧ w = wr) (fun _ kv _ => n - (intOf kv).toNat)
    case atStart => exact ⟨0, _, Nat.zero_le _, rfl, rfl, Lib.hid rfl, by decide, rfl⟩
    case round =>
      obtain ⟨k, x, hk, rfl, rfl, HX, hx, rfl⟩ := hrel
      by_cases hlt : k < n
      · obtain ⟨g, off, rfl, hg, d0⟩ := srcT_at HS.out k hlt
        obtain ⟨y, hy⟩ : ∃ y, L.getD k default = y := ⟨_, rfl⟩
        rw [hy] at d0
        have hy2 : y.size ≤ 2000000 := by rw [← hy]; exact HM.out k hlt
        have HN : Hid (x ++ (⟨#[47]⟩ : ByteArray) ++ y = joinTo L (k + 1)) := Lib.hid (by rw [joinTo_next, HX.out, hy]; rfl)
        have HZ : Hid ((x ++ (⟨#[47]⟩ : ByteArray) ++ y).size ≤ 4000002000000) := Lib.hid (by rw [HN.out]; exact HT.out (k + 1) (by omega))
        clear hy
        go_wp2
        go_roundw
        case rel => exact ⟨k + 1, _, by omega, by go_num, rfl, HN, HZ.out, by first | rfl | trivial⟩
        case measure => (simp [intOf]; try omega)
      · obtain rfl : k = n := by omega
        go_wp2
        go_ret
        exact ⟨by rw [HJ.out, ← HX.out]; rfl, Below.refl _ _⟩
end Go.Proofs.YtkfkjcadmdcbnaaDoor
namespace Go.Proofs.YtkfkjcadmdcbnaaDoor
open Go.RowKit Go.Proofs.YtkfkjcadmdcbnaaDoor.Parts Go.Proofs.YtkfkjcadmdcbnaaDoor.Hexa

set_option maxRecDepth 100000 in
set_option maxHeartbeats 1000000 in
theorem specParent_any (s : ByteArray) (w : World) (hs : s.size ≤ 2000000) :
    Calls Tryd.prog 22 #[.string s] w (SaysT (parentB s) w) := by
  obtain ⟨L, hL⟩ : ∃ L, pathNames s = L := ⟨_, rfl⟩
  obtain ⟨q, hq⟩ : ∃ q, pathCode s = q := ⟨_, rfl⟩
  have HQ := Lib.hid hq
  have HL := Lib.hid hL
  have HN : Hid (q ≠ 0 → L.length = 0) := Lib.hid (fun h => by rw [← hL]; exact names_none (by rw [hq]; exact h))
  have HM : Hid (∀ j, j < L.length → (L.getD j default).size ≤ 60) := Lib.hid (fun j hj => by have := names_size s j (by rw [hL]; exact hj); rw [hL] at this; exact this)
  have hl : L.length ≤ 61 := by rw [← hL]; exact names_len s
  clear hL hq
  go_enter Tryd.func22, Tryd.ntmps22
  go_wp2_with fail
  refine (specSplit_any s _ hs).mono ?_
  rw [HQ.out, HL.out]
  rintro e w1 ⟨v, rfl, ho, hb⟩
  obtain ⟨ad, cap, rfl, hcap, hnc, hr⟩ := own_form ho
  have HO := Lib.hid ho
  have HB := Lib.hid hb
  unfold maxLen at hcap
  clear ho hb hr
  by_cases h0 : L.length = 0
  · have HJ : Hid (parentB s = ⟨#[]⟩) := Lib.hid (by unfold parentB; rw [HL.out, if_pos h0])
    by_cases hz : q = 0
    · subst hz
      go_wp2
      go_ret
      exact ⟨by rw [HJ.out]; rfl, HB.out⟩
    · go_wp2
      go_ret
      exact ⟨by rw [HJ.out]; rfl, HB.out⟩
  · have hz : q = 0 := by
      by_cases h : q = 0
      · exact h
      · exact absurd (HN.out h) h0
    subst hz
    have HJ : Hid (parentB s = joinB (L.take (L.length - 1))) := Lib.hid (by unfold parentB; rw [HL.out, if_neg h0])
    obtain ⟨m, hm⟩ : ∃ m, L.length = m + 1 := ⟨L.length - 1, by omega⟩
    have HT : Hid (SrcT w1 ad m (L.take m)) := Lib.hid (srcT_take (srcT_of_own HO.out) (by omega))
    have HT2 : Hid (∀ j, j < m → ((L.take m).getD j default).size ≤ 2000000) := Lib.hid (fun j hj => by
      have h9 := HM.out j (by omega)
      have e9 : (L.take m).getD j default = L.getD j default := by
        simp only [List.getD, List.getElem?_take]
        rw [if_pos hj]
      rw [e9]; omega)
    have HJ2 : Hid (parentB s = joinB (L.take m)) := Lib.hid (by rw [HJ.out, hm]; rfl)
    rw [hm] at hnc hl h0 ⊢
    clear HJ HN HM
    go_wp2_with fail
    refine (specJoin_any ad m cap (L.take m) _ HT.out (by omega) HT2.out).mono ?_
    rw [← HJ2.out]
    rintro e w2 ⟨rfl, hb2⟩
    have B2 : Below w.heap.size w w2 := HB.out.trans (hb2.mono HB.out.size)
    clear hb2
    go_wp2
    go_ret
    exact ⟨rfl, B2⟩
set_option maxRecDepth 100000 in
set_option maxHeartbeats 1000000 in
theorem specLast_any (s : ByteArray) (w : World) (hs : s.size ≤ 2000000) :
    Calls Tryd.prog 23 #[.string s] w (SaysT (lastB s) w) := by
  obtain ⟨L, hL⟩ : ∃ L, pathNames s = L := ⟨_, rfl⟩
  obtain ⟨q, hq⟩ : ∃ q, pathCode s = q := ⟨_, rfl⟩
  have HQ := Lib.hid hq
  have HL := Lib.hid hL
  have HN : Hid (q ≠ 0 → L.length = 0) := Lib.hid (fun h => by rw [← hL]; exact names_none (by rw [hq]; exact h))
  have hl : L.length ≤ 61 := by rw [← hL]; exact names_len s
  clear hL hq
  go_enter Tryd.func23, Tryd.ntmps23
  go_wp2_with fail
  refine (specSplit_any s _ hs).mono ?_
  rw [HQ.out, HL.out]
  rintro e w1 ⟨v, rfl, ho, hb⟩
  obtain ⟨ad, cap, rfl, hcap, hnc, hr⟩ := own_form ho
  have HO := Lib.hid ho
  have HB := Lib.hid hb
  unfold maxLen at hcap
  clear ho hb hr
  by_cases h0 : L.length = 0
  · have HJ : Hid (lastB s = ⟨#[]⟩) := Lib.hid (by unfold lastB; rw [HL.out, if_pos h0])
    by_cases hz : q = 0
    · subst hz
      go_wp2
      go_ret
      exact ⟨by rw [HJ.out]; rfl, HB.out⟩
    · go_wp2
      go_ret
      exact ⟨by rw [HJ.out]; rfl, HB.out⟩
  · have hz : q = 0 := by
      by_cases h : q = 0
      · exact h
      · exact absurd (HN.out h) h0
    subst hz
    obtain ⟨m, hm⟩ : ∃ m, L.length = m + 1 := ⟨L.length - 1, by omega⟩
    have HJ : Hid (lastB s = L.getD m default) := Lib.hid (by unfold lastB; rw [HL.out, if_neg h0, hm]; rfl)
    obtain ⟨g, off, rfl, hg, d0⟩ := srcT_at (srcT_of_own HO.out) m (by omega)
    rw [← HJ.out] at d0
    rw [hm] at hnc hl h0 ⊢
    clear HN
    go_wp2
    go_ret
    exact ⟨rfl, HB.out⟩
end Go.Proofs.YtkfkjcadmdcbnaaDoor
namespace Go.Proofs.YtkfkjcadmdcbnaaDoor
open Go.RowKit Go.Proofs.YtkfkjcadmdcbnaaDoor.Parts Go.Proofs.YtkfkjcadmdcbnaaDoor.Hexa

theorem ret_i64m {a b : Int} (h : a = b) : Ending.returned (.int .i64 a) = .returned (.int .i64 b) := by rw [h]
theorem markText_n (i : Int) (k : Nat) (w : World) (h : i = k) (h0 : 0 < k) (hk : k ≤ 100000000) :
    Calls Tryd.prog 29 #[.int .i64 i] w fun e w' => e = .returned (.string (markT k)) ∧ Below w.heap.size w w' := by
  subst h; exact markText_any k w h0 hk
end Go.Proofs.YtkfkjcadmdcbnaaDoor
namespace Go.Proofs.YtkfkjcadmdcbnaaDoor
open Go.RowKit Go.Proofs.YtkfkjcadmdcbnaaDoor.Parts Go.Proofs.YtkfkjcadmdcbnaaDoor.Hexa

theorem SrcE.news {α : Type} [Inhabited α] {E : Enc α} {w : World} {p : Addr} {n : Nat} {L : List α} (h : SrcE E w (some p) n L) (hk0 : 0 < E.k) : ∀ j u, (cellsE E L)[j]? = some u → w.cell? (p.add j) = some u := by
  intro j u hu
  have hj : j < L.length * E.k := by
    rcases Nat.lt_or_ge j (L.length * E.k) with h | h
    · exact h
    · rw [List.getElem?_eq_none (by rw [cellsE_length]; exact h)] at hu; cases hu
  have hd : j = j / E.k * E.k + j % E.k := by rw [Nat.mul_comm]; exact (Nat.div_add_mod j E.k).symm
  have hq : j / E.k < L.length := (Nat.div_lt_iff_lt_mul hk0).2 hj
  have hr := Nat.mod_lt j hk0
  rw [hd, cellsE_at E L _ _ hq hr] at hu
  obtain ⟨g, off, e, _, c⟩ := h.cell (j / E.k) (by rw [← h.len]; exact hq)
  cases e
  have := c _ _ hu
  rw [Nat.add_assoc, ← hd] at this
  rw [Addr.add_lit]; exact this

/-- What an append gives: a slice that owns the cells, in the row that it had or in a new one. -/
def AppE (P : Program) (args : Array TypeId) (ty : TypeId) (vs : Array Value) (w : World) (B e k n : Nat) (xs : List Value) (v : Value) : Prop :=
  ∃ v' w', (Builtin.append_ args ty vs).run P w = .ok v' w' ∧ w'.ownsRow B e k v' n xs ∧ w.grownBy w' v.ownBlock ∧ (v'.ownBlock = v.ownBlock ∨ v'.ownBlock = some w.heap.size)

theorem run_append_nothing {P : Program} (w : World) (base : Nat) (t ty e : TypeId) (i : TypeInfo) (size : Nat) (ht : P.underlying t = some (.slice e)) (hi : P.info? e = some i)
    (v : Value) (n c : Nat) (xs : List Value) (hown : w.ownsRow base e size v n xs) :
    (Builtin.append_ #[t, t] ty #[v, .slice none 0 c]).run P w = .ok v w := by
  rcases hown.2 with ⟨rfl, rfl⟩ | ⟨g, cap, cur, rfl, _, _, hnc, _⟩
  · simp [Builtin.append_, run_underlying ht, sizeOf, typeInfo, hi, Builtin.lenOf, Builtin.firstCells]
  · simp [Builtin.append_, run_underlying ht, sizeOf, typeInfo, hi, Builtin.lenOf, Builtin.firstCells, hnc, storeCells]

theorem wpList_appE {P : Program} {ops : Array Oper} {rest : List Oper} {o : Oper} {a : Act} {w : World} {Q : Exit → Act → World → Prop} (hgd : o.guard = none) (s x : Operand) (t tn : TypeId)
    (ho : o.op = .call { callee := .builtin .append, args := #[s, x], argTypes := #[t, tn] }) (vs vx : Value) (hs : a.eval s = vs) (hx : a.eval x = vx) {B e k n : Nat} {xs : List Value}
    (hr : AppE P #[t, tn] o.type #[vs, vx] w B e k n xs vs) (h : ∀ v' w', w'.ownsRow B e k v' n xs → w.grownBy w' vs.ownBlock → (v'.ownBlock = vs.ownBlock ∨ v'.ownBlock = some w.heap.size) → wpList P ops Q rest (a.put o.dst v') w') : wpList P ops Q (o :: rest) a w := by
  obtain ⟨v', w', r, h1, h2, h3⟩ := hr
  exact Lib.wpList_append_run w hgd s x t tn ho vs vx hs hx v' w' r (h v' w' h1 h2 h3)
/-- At a step of a region that draws its order. -/
theorem step_appE {P : Program} {ops : Array Oper} {o : Oper} {a : Act} {w : World} {K : Act → World → Prop} {Q : Exit → Act → World → Prop} {E : Prop} (hgd : o.guard = none) (s x : Operand) (t tn : TypeId)
    (ho : o.op = .call { callee := .builtin .append, args := #[s, x], argTypes := #[t, tn] }) (vs vx : Value) (hs : a.eval s = vs) (hx : a.eval x = vx) {B e k n : Nat} {xs : List Value}
    (hr : AppE P #[t, tn] o.type #[vs, vx] w B e k n xs vs) (h : ∀ v' w', w'.ownsRow B e k v' n xs → w.grownBy w' vs.ownBlock → (v'.ownBlock = vs.ownBlock ∨ v'.ownBlock = some w.heap.size) → K (a.put o.dst v') w') :
    if Region.wanted o (yielded ops a.tmps) = true then Oper.wp P o a w K Q else E := by
  obtain ⟨v', w', r, h1, h2, h3⟩ := hr
  rw [if_pos (by simp [Region.wanted, hgd])]
  exact Lib.wp_append_run w s x t tn ho vs vx hs hx v' w' r (h v' w' h1 h2 h3)

end Go.Proofs.YtkfkjcadmdcbnaaDoor
namespace Go.Proofs.YtkfkjcadmdcbnaaDoor
open Go.RowKit Go.Proofs.YtkfkjcadmdcbnaaDoor.Parts Go.Proofs.YtkfkjcadmdcbnaaDoor.Hexa

theorem infoApT1 : (Tryd.prog.info? 9).map (fun i => (i.zero, i.size, i.bytes)) = some (some (.string ⟨#[]⟩), 1, 16) := by kernel_rfl
theorem appT1 (w : World) (ty : TypeId) (B : Nat) (v : Value) (n : Nat) (L : List ByteArray) (hown : w.ownsRow B 9 1 v n (scells L)) (hB : B ≤ w.heap.size) (s : ByteArray) (hn : n ≤ 10000000) :
    AppE Tryd.prog #[26, 26] ty #[v, .slice (some ⟨w.heap.size, 0, none⟩) 1 1] (w.alloc (.cells #[.string s] 9)) B 9 1 (n + 1) (scells (L ++ [s])) v := by
  obtain ⟨i0, hi, hz0, hz1, hz2⟩ := info_parts infoApT1
  rw [show scells (L ++ [s]) = scells L ++ [.string s] by simp [scells]]
  obtain ⟨v', w', hr, h2, h3, _, h5⟩ := run_append_own_at (P := Tryd.prog) (w := w.alloc (.cells #[.string s] 9)) B 26 ty 9 i0 _ 1 16 Tryd.underlying26 hi hz0 hz1 hz2 rfl (by decide) v n _ (own_below hown ((Below.refl _ _).alloc (Nat.le_refl _) _)) ⟨w.heap.size, 0, none⟩ 1 1 [.string s] rfl (World.news_of_block (heap_alloc_new _ _)) (by intro v hv; rw [List.mem_singleton] at hv; subst hv; rfl) (by unfold maxLen; omega) (by omega) (by simp; omega)
  exact ⟨v', w', hr, h2, h3, h5⟩
end Go.Proofs.YtkfkjcadmdcbnaaDoor
namespace Go.Proofs.YtkfkjcadmdcbnaaDoor
open Go.RowKit Go.Proofs.YtkfkjcadmdcbnaaDoor.Parts Go.Proofs.YtkfkjcadmdcbnaaDoor.Hexa

def cStr : EncC ByteArray := ⟨9, 1, fun x => [.val (.string x)], fun _ => rfl⟩
end Go.Proofs.YtkfkjcadmdcbnaaDoor
namespace Go.Proofs.YtkfkjcadmdcbnaaDoor
open Go.RowKit Go.Proofs.YtkfkjcadmdcbnaaDoor.Parts Go.Proofs.YtkfkjcadmdcbnaaDoor.Hexa

theorem scells_length (P : List ByteArray) : (scells P).length = P.length := by simp [scells]
theorem cStr_at {w : World} {L : List ByteArray} {a : Option Addr} {n c : Nat} (h : (celRow cStr L).Rd w (.slice a n c)) (j : Nat) (hj : j < n) :
    ∃ (g off : Nat), a = some ⟨g, off, none⟩ ∧ g < w.heap.size ∧ w.cell? ⟨g, off + j, none⟩ = some (.string (L.getD j default)) := by
  obtain ⟨g, off, vs, ha, hg, hr, hc⟩ := row_at h (by decide) j hj
  obtain ⟨v, r, rfl, h0, h1⟩ := hr
  have h0' : v = .string (L.getD j default) := h0
  have h9 := hc 0 v rfl
  rw [h0', show off + j * cStr.k + 0 = off + j from by show off + j * 1 + 0 = _; omega] at h9
  exact ⟨g, off, ha, hg, h9⟩
theorem srcT_of_rd {w : World} {L : List ByteArray} {a : Option Addr} {n c : Nat} (h : (celRow cStr L).Rd w (.slice a n c)) : SrcT w a n L := by
  obtain ⟨_, _, _, hv, hn⟩ := row_form h
  cases hv
  refine ⟨hn, fun j hj => ?_⟩
  obtain ⟨g, off, ha, hg, q0⟩ := cStr_at h j hj
  refine ⟨g, off, ha, hg, fun o v hv => ?_⟩
  match o, hv with
  | 0, hv =>
    cases hv
    rw [show off + j * encT.k + 0 = off + j from by show off + j * 1 + 0 = off + j; omega]
    exact q0
theorem rd_of_srcT {w : World} {L : List ByteArray} {a : Option Addr} {n c : Nat} (h : SrcT w a n L) : (celRow cStr L).Rd w (.slice a n c) := by
  have hl := h.len
  subst hl
  refine ⟨by rw [celsE_length], a, c, scells L, rfl, ?_, ?_⟩
  · clear h
    induction L with
    | nil => exact rfl
    | cons x r ih => exact ⟨_, _, rfl, rfl, ih⟩
  · by_cases h0 : L.length = 0
    · exact .inl h0
    · obtain ⟨g, off, ha, hg, _⟩ := srcT_at h 0 (by omega)
      refine .inr ⟨g, off, ha, hg, fun j u hu => ?_⟩
      have hj : j < L.length := by
        rcases Nat.lt_or_ge j L.length with h9 | h9
        · exact h9
        · rw [List.getElem?_eq_none (by rw [scells_length]; exact h9)] at hu; cases hu
      obtain ⟨g2, off2, ha2, _, hc⟩ := srcT_at h j hj
      rw [ha] at ha2
      cases ha2
      rw [hc]
      simp only [scells, List.getElem?_map] at hu
      rw [List.getElem?_eq_getElem hj] at hu
      simp only [Option.map_some, Option.some.injEq] at hu
      rw [← hu]
      simp [List.getD, hj]
theorem own_texts {w : World} : ∀ L : List ByteArray, OwnL w (celsE cStr L) [] (scells L)
  | [] => ⟨rfl, rfl⟩
  | x :: r => ⟨.string x, scells r, [], [], rfl, rfl, ⟨rfl, rfl⟩, own_texts r⟩
theorem obj_texts {w : World} {B n lo hi : Nat} {v : Value} {L : List ByteArray} (h : w.ownsRow B 9 1 v n (scells L)) (h1 : lo ≤ B) (h2 : w.heap.size ≤ hi) : Obj1 w lo hi (celRow cStr L) v := by
  have hl : L.length = n := by have := h.1; rw [scells_length] at this; omega
  unfold celRow
  rw [hl]
  exact obj_of_row h (by rw [celsE_length, hl]) (own_texts L) List.nodup_nil (fun _ hg => by cases hg) (fun g hg => by have := h.lt g hg; exact ⟨by simp, by omega, by omega⟩)

theorem cStr_sz (x : ByteArray) : szL (cStr.cels x) = x.size + 0 := rfl
theorem szStrs_cons (x : ByteArray) (L : List ByteArray) : (celRow cStr (x :: L)).sz = 1 + x.size + (celRow cStr L).sz := by
  show (x :: L).length + szL (celsE cStr (x :: L)) = 1 + x.size + (L.length + szL (celsE cStr L))
  rw [celsE, szL_append, cStr_sz, List.length_cons]
  omega
theorem cntStrs_eq (L : List ByteArray) : (celRow cStr L).cnt = L.length := by
  have h1 : ∀ M : List ByteArray, cntL (celsE cStr M) = M.length := by
    intro M
    induction M with
    | nil => rfl
    | cons x r ih =>
      rw [celsE, cntL_append, ih, List.length_cons]
      show 1 + 0 + r.length = _
      omega
  exact h1 L
end Go.Proofs.YtkfkjcadmdcbnaaDoor
namespace Go.Proofs.YtkfkjcadmdcbnaaDoor
open Go.RowKit Go.Proofs.YtkfkjcadmdcbnaaDoor.Parts Go.Proofs.YtkfkjcadmdcbnaaDoor.Hexa

/-- What a call gives that returns texts of its own. -/
def GivesK (P : List ByteArray) (w : World) (e : Ending) (w' : World) : Prop :=
  ∃ v, e = .returned v ∧ w'.ownsRow w.heap.size 9 1 v P.length (scells P) ∧ Below w.heap.size w w'
theorem GivesK.post {P : List ByteArray} {w : World} {e : Ending} {w' : World} (h : GivesK P w e w') : ToPost (celRow cStr P) w e w' := by
  obtain ⟨v, he, ho, hb⟩ := h
  exact ⟨v, he, obj_texts ho (Nat.le_refl _) (Nat.le_refl _), hb⟩
theorem kidsR_upto (L : List ItemR) (f : ByteArray) (k : Nat) : (kidsR (L.take k) f).length ≤ L.length := Nat.le_trans (kids_len _ _) (by rw [List.length_take]; omega)
set_option maxRecDepth 100000 in
set_option maxHeartbeats 4000000 in
theorem specKids_any (a : Option Addr) (c : Nat) (L : List ItemR) (f : ByteArray) (w : World) (h : (celRow cItem L).Rd w (.slice a L.length c)) (hz : (celRow cItem L).sz ≤ 2000000) :
    Calls Tryd.prog 7 #[.agg #[.slice a L.length c], .string f] w (GivesK (kidsR L f) w) := by
  have B0 := Lib.hid (below_bk w (.cells #[.slice a L.length c] 30))
  have T0 := Lib.hid (Bk.alloc w #[.slice a L.length c] 30)
  have HS := Lib.hid h
  rw [sz_row'] at hz
  have hn : L.length ≤ 2000000 := by omega
  have HZ : Hid (szL (celsE cItem L) ≤ 2000000) := Lib.hid (by omega)
  clear h hz
  go_enter Tryd.func7, Tryd.ntmps7
  go_wp2
  go_loopw [5, 6] (fun ov jv wr => ∃ j : Nat, j ≤ L.length ∧ jv = .int .i64 j ∧ Hid (wr.ownsRow (w.heap.size + 1) 9 1 ov (kidsR (L.take j) f).length (scells (kidsR (L.take j) f))) ∧ Hid (Below w.heap.size w wr) ∧ Hid (Bk wr w.heap.size #[.slice a L.length c] 30)) (fun _ jv _ => L.length - (intOf jv).toNat)
  case atStart => exact ⟨0, Nat.zero_le _, rfl, Lib.hid (by rw [List.take_zero, kids_nil]; have h9 := World.ownsRow_lit (base := w.heap.size + 1) (e := 9) (size := 1) (w.alloc (.cells #[.slice a L.length c] 30)) #[] 0 T0.out.lt (by decide) rfl; simpa [scells] using h9), Lib.hid (B0.out.alloc B0.out.size _), Lib.hid (T0.out.later (below_bk _ _))⟩
  case round =>
    clear T0 B0
    obtain ⟨j, hj, rfl, HO, HB, HT⟩ := hrel
    have t0 := HT.out.cell (j := 0) rfl
    by_cases hjt : j < L.length
    · obtain ⟨g, off, rfl, hg, d0, d1, d2⟩ := cItem_at (Cel.Rd.later HB.out _ _ HS.out) j hjt
      have HZJ := Lib.hid (Nat.le_trans (szL_at cItem L j hjt) HZ.out)
      rw [cItem_sz] at HZJ
      have D0 := Lib.hid (fun w' (hw : Below wr.heap.size wr w') => (hw.cell (p := ⟨g, off + j * 3, none⟩) hg).trans d0)
      have KY := Lib.hid (fun (h1 : f.size ≠ 0) (h2 : parentB (L.getD j default).path = f) => kids_yes h1 hjt h2)
      have KN := Lib.hid (fun (h2 : parentB (L.getD j default).path ≠ f) => kids_no hjt h2)
      have KU := Lib.hid (kidsR_upto L f j)
      obtain ⟨M, hM⟩ : ∃ M, kidsR (L.take j) f = M := ⟨_, rfl⟩
      obtain ⟨x, hx⟩ : ∃ x, L.getD j default = x := ⟨_, rfl⟩
      rw [hx] at d0 d1 d2 HZJ KY KN D0
      rw [hM] at HO KY KN KU
      have hps : x.path.size ≤ 2000000 := by have := HZJ.out; omega
      have HM := Lib.hid hM
      clear hx hM
      have hml : M.length ≤ 2000000 := by have := KU.out; omega
      obtain ⟨pp, hpp⟩ : ∃ q, parentB x.path = q := ⟨_, rfl⟩
      rw [hpp] at KY KN
      have HP := Lib.hid hpp
      clear hpp
      have HB1 := HB
      have HO1 := HO
      clear HB HO
      go_wp2_with fail
      clear d0 d1 d2 t0
      refine (specParent_any x.path _ hps).mono ?_
      rw [HP.out]
      rintro e w2 ⟨rfl, hb⟩
      have HB2 : Hid (Below w.heap.size w w2) := Lib.hid (HB1.out.trans (hb.mono HB1.out.size))
      have HO2 := Lib.hid (own_below HO1.out hb)
      have Q0 := Lib.hid (D0.out w2 hb)
      have HT2 := Lib.hid (HT.out.later hb)
      clear hb HB1 HO1 HT
      by_cases hq : pp = f
      case neg =>
        have HO3 : Hid (w2.ownsRow (w.heap.size + 1) 9 1 u5 (kidsR (L.take (j + 1)) f).length (scells (kidsR (L.take (j + 1)) f))) := Lib.hid (by rw [KN.out hq]; exact HO2.out)
        have i1 := text_neB hq
        have i3 := text_ne hq
        clear HO2 KY KN hq
        go_wp2
        go_roundw
        case rel => exact ⟨j + 1, by omega, by go_num, HO3, HB2, HT2⟩
        case measure => (simp [intOf]; try omega)
      by_cases hf0 : f.size = 0
      case pos =>
        have hf : f = ⟨#[]⟩ := by
          cases f with | mk f => cases f with | mk l => cases l with
          | nil => rfl
          | cons x r => simp [ByteArray.size] at hf0
        have HO3 : Hid (w2.ownsRow (w.heap.size + 1) 9 1 u5 (kidsR (L.take (j + 1)) f).length (scells (kidsR (L.take (j + 1)) f))) := Lib.hid (by rw [kids_none hf0]; have h9 := HO2.out; rw [← HM.out, kids_none hf0] at h9; exact h9)
        have e1 : (f.toList == []) = true := by rw [hf, Go.ByteArray.toList_eq]; rfl
        have e2 : ([] == f.toList) = true := by rw [hf, Go.ByteArray.toList_eq]; rfl
        have e3 : f.toList = [] := by rw [hf, Go.ByteArray.toList_eq]
        subst hq
        clear HO2 KY KN hf hf0 HM KU HP
        go_wp2
        go_roundw
        case rel => exact ⟨j + 1, by omega, by go_num, HO3, HB2, HT2⟩
        case measure => (simp [intOf]; try omega)
      have hfl : 0 < f.size := by omega
      have e1 := text_full f hfl
      have e2 := text_full' f hfl
      have HF := Lib.hid hf0
      subst hq
      have KK := Lib.hid (KY.out HF.out rfl)
      have t0 := HT2.out.cell (j := 0) rfl
      have q0 := Q0.out
      clear KY KN
      go_wp2_with fail
      clear q0 t0 e1 e2 hf0 hfl
      refine (specLast_any x.path _ hps).mono ?_
      rintro e w3 ⟨rfl, hb⟩
      have HB3 : Hid (Below w.heap.size w w3) := Lib.hid (HB2.out.trans (hb.mono HB2.out.size))
      have HAP := Lib.hid (fun ty => appT1 w3 ty (w.heap.size + 1) _ M.length M (own_below HO2.out hb) (HT2.out.later hb).lt (lastB x.path) (by omega))
      have HT3 := Lib.hid (HT2.out.later hb)
      obtain ⟨y, hy⟩ : ∃ y, lastB x.path = y := ⟨_, rfl⟩
      rw [hy] at HAP KK ⊢
      have HOQ := Lib.hid (fun q (hq : u5.ownBlock = some q) => (HO2.out.lt q hq))
      have HNB : Hid (u5.ownBlock ≠ some w.heap.size) := Lib.hid (fun e => by have := (HO2.out.lt _ e).1; omega)
      clear hb HO2 hy
      go_wp2_with (at_builtin; refine wpList_appE rfl _ _ _ _ rfl _ _ rfl rfl (HAP.out _) ?_; intro v4 w4 hown4 hgrow4 hat4)
      have HO4 : Hid (w4.ownsRow (w.heap.size + 1) 9 1 v4 (kidsR (L.take (j + 1)) pp).length (scells (kidsR (L.take (j + 1)) pp))) := Lib.hid (by rw [KK.out, List.length_append]; exact hown4)
      have hba := below_bk w3 (.cells #[.string y] 9)
      have HB4 : Hid (Below w.heap.size w w4) := Lib.hid ((HB3.out.trans (hba.mono HB3.out.size)).grown hgrow4 (Nat.le_trans HB3.out.size hba.size) (fun q hq => (by have := (HOQ.out q hq).1; omega)))
      have HT4 := Lib.hid ((HT3.out.later hba).grown hgrow4 (fun e => HNB.out e))
      clear hown4 hgrow4 hat4 hba HAP KK
      go_wp2
      go_roundw
      case rel => exact ⟨j + 1, by omega, by go_num, HO4, HB4, HT4⟩
      case measure => (simp [intOf]; try omega)
    · obtain rfl : j = L.length := by omega
      rw [List.take_length] at HO
      go_wp2
      go_ret
      exact ⟨_, rfl, ownE_mono HO.out (by omega), HB.out⟩
end Go.Proofs.YtkfkjcadmdcbnaaDoor
