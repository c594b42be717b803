/- Merged texts: Bytes, BitsMath, LongMath, NumMath, NumBack, RecBase, EntryBase, RecMath, InoMath, TRecE, TEntryE, TInoE, TPartE, TIntZS, TRecZ, TRecZS, TEntryZ, TEntryZS, TInoZ, TInoZS, TPartZ, ToInts, TIntCS, TRecC, TRecCS, TEntryC, TEntryCS. -/
import Derived.Test.YtmkchilhnmkhkabP15BA
import Derived.Test.YtmkchilhnmkhkabRows
import Derived.Lib.AppendStr
import Derived.Lib.AppendZerosOnto
import Derived.Laws.CopyRow
import Derived.Below
import Derived.Laws.Bits64b
import Derived.IntWalk
import Derived.WalkKit
import Derived.WalkSpells
import Derived.WalkLawsBesides
import Derived.Deep.RegionLaw
import Derived.Deep.AppendLies
import Derived.Lib.Hide
import Derived.Deep.QuietTactic
import Derived.BigQuiet
namespace Go.Proofs.Ytmkchilhnmkhkab.Byt
open Go.RowKit Go.Proofs.Ytmkchilhnmkhkab.Hexa Go.Lib

/-- Cells stored into a row whose frozen range lies behind its end. -/
theorem run_store (P : Program) (g o : Nat) (t : TypeId) (fz : Nat × Nat) : ∀ (vs : List Value) (i : Nat) (cur : Array Value) (w : World), w.heap[g]? = some (.cells cur t fz) → (fz = (0, 0) ∨ cur.size ≤ fz.1) → o + i + vs.length ≤ cur.size → (∀ v ∈ vs, v.oneCell' = true) →
    (storeCells ⟨g, o, none⟩ vs i).run P w = .ok () (w.setRow g (cur.toList.take (o + i) ++ vs ++ cur.toList.drop (o + i + vs.length)).toArray)
  | [], i, cur, w, hg, _, _, _ => by
    simp only [storeCells, List.append_nil, List.length_nil, Nat.add_zero, List.take_append_drop, Array.toArray_toList]
    rw [setRow_self w g cur t fz hg]
    rfl
  | v :: rest, i, cur, w, hg, hfz, hl, h1 => by
    have hi : o + i < cur.size := by simp at hl; omega
    have hadd : (⟨g, o, none⟩ : Addr).add i = ⟨g, o + i, none⟩ := by unfold Addr.add; split <;> simp_all
    have hcell : w.cell? ⟨g, o + i, none⟩ = some cur[o + i] := by simp [World.cell?, hg, hi]
    have hfro : w.frozen? ⟨g, o + i, none⟩ = false := by
      obtain ⟨lo, hi'⟩ := fz
      simp only [World.frozen?, hg, Bool.and_eq_false_iff, decide_eq_false_iff_not]
      rcases hfz with h | h
      · right; cases h; omega
      · left; simp only at h; omega
    have hst : (store ((⟨g, o, none⟩ : Addr).add i) v).run P w = .ok () (w.setRow g (cur.setIfInBounds (o + i) v)) := by
      rw [hadd, Go.run_store P w _ v _ (h1 v (by simp)), hcell]
      simp [hfro, setCell_eq_setRow w g (o + i) cur t fz v hg]
    have ih := run_store P g o t fz rest (i + 1) (cur.setIfInBounds (o + i) v) (w.setRow g (cur.setIfInBounds (o + i) v)) (setRow_heap w g cur _ t _ hg) (by simpa using hfz) (by simp at hl ⊢; omega) (fun x hx => h1 x (by simp [hx]))
    simp only [storeCells, Sem.run_bind, hst, Result.andThen_ok, ih, setRow_setRow]
    congr 3
    have e := list_seg_step cur.toList (o + i) v rest (by simp at hl ⊢; omega)
    simpa [Array.toList_setIfInBounds, Nat.add_assoc] using e

theorem bcells_length (l : List UInt8) : (bcells l).length = l.length := by simp [bcells]
theorem bcells_append (l m : List UInt8) : bcells (l ++ m) = bcells l ++ bcells m := by simp [bcells]
theorem bcells_one (l : List UInt8) : ∀ u ∈ bcells l, u.oneCell' = true := by
  intro u hu
  simp only [bcells, List.mem_map] at hu
  obtain ⟨b, _, rfl⟩ := hu
  rfl

/-- The value v holds the bytes l, in a row from block B on. -/
def Bytes (w : World) (B : Nat) (e : TypeId) (v : Value) (l : List UInt8) : Prop :=
  (v = .slice none 0 0 ∧ l = []) ∨
  ∃ g cap cur fz, v = .slice (some ⟨g, 0, none⟩) l.length cap ∧ B ≤ g ∧ w.heap[g]? = some (.cells cur e fz) ∧ (fz = (0, 0) ∨ cur.size ≤ fz.1) ∧ l.length ≤ cap ∧ cap ≤ maxLen ∧ cur.size = cap ∧ cur.toList.take l.length = bcells l

theorem bytes_room {w : World} {B : Nat} {e : TypeId} {g cap : Nat} {cur : Array Value} {fz : Nat × Nat} {l : List UInt8} (hb : B ≤ g) (hg : w.heap[g]? = some (.cells cur e fz)) (hfz : fz = (0, 0) ∨ cur.size ≤ fz.1) (hm : cap ≤ maxLen) (hs : cur.size = cap) (ht : cur.toList.take l.length = bcells l)
    (news : List UInt8) (hroom : l.length + news.length ≤ cap) :
    Bytes (w.setRow g (cur.toList.take l.length ++ bcells news ++ cur.toList.drop (l.length + news.length)).toArray) B e (.slice (some ⟨g, 0, none⟩) (l.length + news.length) cap) (l ++ news) := by
  have hsz : (cur.toList.take l.length ++ bcells news ++ cur.toList.drop (l.length + news.length)).toArray.size = cur.size := by
    simp only [List.size_toArray, List.length_append, List.length_take, List.length_drop, Array.length_toList, bcells_length]
    omega
  refine .inr ⟨g, cap, _, fz, by simp, hb, setRow_heap w g cur _ e _ hg, ?_, by simpa using hroom, hm, by rw [hsz, hs], ?_⟩
  · rw [hsz]; exact hfz
  · rw [ht, bcells_append]
    have : (l ++ news).length = (bcells l ++ bcells news).length := by simp [bcells]
    rw [this]
    exact List.take_left

theorem bytes_grown (w : World) {B : Nat} {e : TypeId} (l news : List UInt8) (cap : Nat) (hB : B ≤ w.heap.size) (hc : l.length + news.length ≤ cap) (hm : cap ≤ maxLen) (rest : Array Value) (hr : rest.size = cap - (l.length + news.length)) :
    Bytes (w.drew.alloc (.cells ((bcells l).toArray ++ (bcells news).toArray ++ rest) e)) B e (.slice (some ⟨w.heap.size, 0, none⟩) (l.length + news.length) cap) (l ++ news) := by
  refine .inr ⟨w.heap.size, cap, _, (0, 0), by simp, hB, heap_alloc_new w.drew _, .inl rfl, by simpa using hc, hm, ?_, ?_⟩
  · simp [bcells, hr]; omega
  · have : (l ++ news).length = (bcells l ++ bcells news).length := by simp [bcells]
    rw [this, bcells_append]
    simp only [Array.toList_append, List.append_assoc]
    rw [← List.append_assoc]
    exact List.take_left

theorem bytes_cells {w : World} {g _cap : Nat} {cur : Array Value} {e : TypeId} {fz : Nat × Nat} {l : List UInt8} (hg : w.heap[g]? = some (.cells cur e fz)) (ht : cur.toList.take l.length = bcells l) :
    ∀ j u, (bcells l)[j]? = some u → w.cell? ((⟨g, 0, none⟩ : Addr).add j) = some u := by
  intro j u hu
  have hadd : (⟨g, 0, none⟩ : Addr).add j = ⟨g, j, none⟩ := by unfold Addr.add; split <;> simp_all
  rw [hadd]
  rw [← ht, List.getElem?_take] at hu
  split at hu
  · simp only [World.cell?, hg]; simpa using hu
  · cases hu

theorem zeros_cells (n : Nat) : Builtin.zeroCells (Value.int .u8 0).cells n = (bcells (List.replicate n 0)).toArray := by
  simp only [Builtin.zeroCells, Value.cells, bcells]
  apply Array.ext
  · simp
  · intro i h1 h2
    simp [Nat.mod_one]

section
variable {P : Program} {t e : TypeId} {i : TypeInfo} (ht : P.underlying t = some (.slice e)) (hi : P.info? e = some i) (hz : i.zero = some (.int .u8 0)) (hs1 : i.size = 1) (hb1 : i.bytes = 1)
include ht hi hz hs1 hb1

/-- What an append yields: the bytes, and nothing below B is written. -/
def Out (P : Program) (args : Array TypeId) (ty : TypeId) (vs : Array Value) (w : World) (B : Nat) (e : TypeId) (l : List UInt8) : Prop :=
  ∃ v' w', (Builtin.append_ args ty vs).run P w = .ok v' w' ∧ Bytes w' B e v' l ∧ Below B w w'

omit ht hi hz hs1 hb1 in
theorem below_setRow (w : World) {B g : Nat} (h : B ≤ g) (cs : Array Value) : Below B w (w.setRow g cs) := ⟨rfl, rfl, rfl, by simp, fun k hk => setRow_other _ _ _ _ (by omega)⟩
omit ht hi hz hs1 hb1 in
theorem below_grown (w : World) {B : Nat} (h : B ≤ w.heap.size) (o : Obj) : Below B w (w.drew.alloc o) := ((Below.refl _ _).drew).alloc (by simpa using h) o

theorem append_cells (w : World) {B : Nat} {v : Value} {l : List UInt8} (h : Bytes w B e v l) (hB : B ≤ w.heap.size) (ty : TypeId) (ad : Addr) (c : Nat) (news : List UInt8) (hn : ∀ j u, (bcells news)[j]? = some u → w.cell? (ad.add j) = some u) (hl : l.length + news.length ≤ 1000000000) :
    Out P #[t, t] ty #[v, .slice (some ad) news.length c] w B e (l ++ news) := by
  rcases h with ⟨rfl, rfl⟩ | ⟨g, cap, cur, fz, rfl, hb, hg, hfz, hlc, hm, hcs, htk⟩
  · obtain ⟨v', w', r1, r2, r3, r4⟩ := run_append_own (P := P) w B t ty e i (.int .u8 0) 1 1 ht hi hz hs1 hb1 rfl (by decide) (.slice none 0 0) 0 [] ⟨rfl, .inl ⟨rfl, rfl⟩⟩ ad news.length c (bcells news) (by simp [bcells]) hn (bcells_one _) (by simp at hl; unfold maxLen; omega) (by simp at hl; omega) hB
    refine ⟨v', w', r1, ?_, (Below.refl _ _).grown r3 hB (fun k h => by cases h)⟩
    rcases r2.2 with ⟨rfl, hn0⟩ | ⟨g, cap, cur, rfl, h1, h2, h3, h4, h5, h6⟩
    · left
      refine ⟨rfl, List.eq_nil_of_length_eq_zero (by simpa using hn0)⟩
    · right
      simp at h3 h5 h6
      exact ⟨g, cap, cur, (0, 0), by simp, h1, h2, .inl rfl, by simpa using h3, h4, h5, by simpa using h6⟩
  · by_cases hroom : l.length + news.length ≤ cap
    · have hf := run_firstCells_some (P := P) w 1 news.length ad news.length c (bcells news) (by simp [bcells]) hn
      have hst := run_store P g l.length e fz (bcells news) 0 cur w hg hfz (by simp [bcells]; omega) (bcells_one _)
      simp only [Nat.add_zero, bcells_length] at hst
      refine ⟨_, _, ?_, bytes_room hb hg hfz hm hcs htk news hroom, below_setRow w hb _⟩
      simp [Builtin.append_, run_underlying ht, sizeOf, typeInfo, hi, hs1, Builtin.lenOf, hroom, hf, Addr.add_lit, hst]
    · have hr := run_append_grow (P := P) w t ty e i (.int .u8 0) ht hi hz ⟨g, 0, none⟩ l.length cap (bcells l) (by simp [bcells, hs1]) (bytes_cells (_cap := cap) hg htk) ad news.length c (bcells news) (by simp [bcells, hs1]) hn (by omega) (by omega) (growslice_fits (by omega) (by rw [hb1]; omega))
      have hge := grownCap_ge w (l.length + news.length) cap e
      have hcm := grownCap_le_maxLen w (l.length + news.length) cap e (by unfold maxLen; omega)
      refine ⟨_, _, hr, bytes_grown w l news _ hB hge hcm _ ?_, below_grown w hB _⟩
      simp [Builtin.zeroCells, Value.cells]

theorem append_text {u : TypeId} (hu : P.underlying u = some .string) (w : World) {B : Nat} {v : Value} {l : List UInt8} (h : Bytes w B e v l) (hB : B ≤ w.heap.size) (ty : TypeId) (s : ByteArray) (hl : l.length + s.size ≤ 1000000000) :
    Out P #[t, u] ty #[v, .string s] w B e (l ++ s.data.toList) := by
  have hls : s.data.toList.length = s.size := by simp
  rcases h with ⟨rfl, rfl⟩ | ⟨g, cap, cur, fz, rfl, hb, hg, hfz, hlc, hm, hcs, htk⟩
  · obtain ⟨v', w', r1, r2, r3, r4⟩ := run_append_own_string (P := P) w B t u ty e i ht hu hi hz hs1 hb1 (.slice none 0 0) 0 [] ⟨rfl, .inl ⟨rfl, rfl⟩⟩ s (by simp at hl; unfold maxLen; omega) (by simp at hl; omega) hB
    refine ⟨v', w', r1, ?_, (Below.refl _ _).grown r3 hB (fun k h => by cases h)⟩
    rcases r2.2 with ⟨rfl, hn0⟩ | ⟨g, cap, cur, rfl, h1, h2, h3, h4, h5, h6⟩
    · left
      refine ⟨rfl, List.eq_nil_of_length_eq_zero (by simp at hn0 ⊢; simpa using hn0)⟩
    · right
      simp at h3 h5 h6
      exact ⟨g, cap, cur, (0, 0), by simp, h1, h2, .inl rfl, by simpa using h3, h4, h5, by simpa [bcells, strCells] using h6⟩
  · by_cases hroom : l.length + s.size ≤ cap
    · have hf := run_firstCells_string (P := P) w 1 s
      have hst := run_store P g l.length e fz (strCells s) 0 cur w hg hfz (by simp [strCells_length]; omega) (strCells_oneCell s)
      simp only [Nat.add_zero, strCells_length] at hst
      have hbr := bytes_room hb hg hfz hm hcs htk s.data.toList (by rw [hls]; exact hroom)
      rw [hls] at hbr
      refine ⟨_, _, ?_, hbr, below_setRow w hb _⟩
      simp [Builtin.append_, run_underlying ht, run_underlying hu, sizeOf, typeInfo, hi, hs1, Builtin.lenOf, hroom, hf, Addr.add_lit, hst]
      rfl
    · have hr := run_append_grow_string (P := P) w t u ty e i (.int .u8 0) ht hu hi hz ⟨g, 0, none⟩ l.length cap (bcells l) (by simp [bcells, hs1]) (bytes_cells (_cap := cap) hg htk) s (by omega) (by omega) (growslice_fits (by omega) (by rw [hb1]; omega))
      have hge := grownCap_ge w (l.length + s.size) cap e
      have hcm := grownCap_le_maxLen w (l.length + s.size) cap e (by unfold maxLen; omega)
      have hbg := bytes_grown w (e := e) l s.data.toList _ hB (by rw [hls]; exact hge) hcm (Builtin.zeroCells (Value.int .u8 0).cells (grownCap w (l.length + s.size) cap e - (l.length + s.size))) (by simp [Builtin.zeroCells, Value.cells])
      rw [hls] at hbg
      exact ⟨_, _, hr, hbg, below_grown w hB _⟩

theorem append_zeros {u : TypeId} {kn kq : IntKind} (hu : P.underlying u = some (.int kn)) (w : World) {B : Nat} {v : Value} {l : List UInt8} (h : Bytes w B e v l) (hB : B ≤ w.heap.size) (hv : v ≠ .slice none 0 0) (ty : TypeId) (k : Nat) (hl : l.length + k ≤ 1000000000) :
    Out P #[t, u] ty #[v, .int kq k] w B e (l ++ List.replicate k 0) := by
  have hls : (List.replicate k (0 : UInt8)).length = k := by simp
  rcases h with ⟨rfl, rfl⟩ | ⟨g, cap, cur, fz, rfl, hb, hg, hfz, hlc, hm, hcs, htk⟩
  · exact absurd rfl hv
  · by_cases hroom : l.length + k ≤ cap
    · have hst := run_store P g l.length e fz (bcells (List.replicate k 0)) 0 cur w hg hfz (by simp [bcells]; omega) (bcells_one _)
      simp only [Nat.add_zero, bcells_length, hls] at hst
      have hbr := bytes_room hb hg hfz hm hcs htk (List.replicate k 0) (by rw [hls]; exact hroom)
      rw [hls] at hbr
      refine ⟨_, _, ?_, hbr, below_setRow w hb _⟩
      have hw : IntKind.i64.wrap (k : Int) = k := by rw [IntKind.wrap_i64]; omega
      have hneg : ¬ ((k : Int) < 0) := by omega
      have h48i : ¬ (281474976710656 < (k : Int)) := by omega
      by_cases hk : k = 0
      · subst hk
        simp at hst hroom
        have hw0 : IntKind.i64.wrap 0 = 0 := rfl
        simp [bcells] at hst
        simp [Builtin.append_, run_underlying ht, run_underlying hu, sizeOf, typeInfo, zeroValue, hi, hs1, hb1, hz, asInt, asIntOf, hw0, hroom, Addr.add_lit, hst, bcells]
      · simp [Builtin.append_, run_underlying ht, run_underlying hu, sizeOf, typeInfo, zeroValue, hi, hs1, hb1, hz, asInt, asIntOf, hw, hneg, h48i, hk, hroom, Addr.add_lit, zeros_cells, hst]
    · have hk : 0 < k := by omega
      have hfo := run_firstCells_some (P := P) w.drew i.size l.length ⟨g, 0, none⟩ l.length cap (bcells l) (by simp [bcells, hs1]) (by simpa using bytes_cells (_cap := cap) hg htk)
      have hr := run_append_grow_zeros (P := P) w t u ty e i (.int .u8 0) kq kn ht hu hi hz (some ⟨g, 0, none⟩) l.length cap (bcells l) hfo k hk (by omega) (by omega) (by omega) (by rw [hb1]; omega) (growslice_fits (by omega) (by rw [hb1]; omega))
      have hge := grownCap_ge w (l.length + k) cap e
      have hcm := grownCap_le_maxLen w (l.length + k) cap e (by unfold maxLen; omega)
      have hbg := bytes_grown w (e := e) l (List.replicate k 0) _ hB (by rw [hls]; exact hge) hcm (Builtin.zeroCells (Value.int .u8 0).cells (grownCap w (l.length + k) cap e - (l.length + k))) (by simp [Builtin.zeroCells, Value.cells])
      rw [hls] at hbg
      rw [zeros_cells k] at hr
      exact ⟨_, _, hr, hbg, below_grown w hB _⟩
end

theorem bytes_alloc {w : World} {B : Nat} {e : TypeId} {v : Value} {l : List UInt8} (h : Bytes w B e v l) (o : Obj) : Bytes (w.alloc o) B e v l := by
  rcases h with h | ⟨g, cap, cur, fz, rfl, hb, hg, r⟩
  · exact .inl h
  · refine .inr ⟨g, cap, cur, fz, rfl, hb, ?_, r⟩
    rw [Below.heap_alloc _ _ _ (Array.getElem?_eq_some_iff.1 hg).1]; exact hg

/-- The slice that '[]byte(s)' makes. -/
theorem bytes_conv (w : World) (e : TypeId) (s : ByteArray) (B : Nat) (hB : B ≤ w.heap.size) (hs : s.size ≤ 1000000000) :
    Bytes (w.drew.alloc (.cells (bytesRow s (grownCap w s.size 0 e)) e ((bytesRow s (grownCap w s.size 0 e)).size, (bytesRow s (grownCap w s.size 0 e)).size + 1))) B e (.slice (some ⟨w.heap.size, 0, none⟩) s.size (grownCap w s.size 0 e)) s.data.toList := by
  have hge := grownCap_ge w s.size 0 e
  have hcm := grownCap_le_maxLen w s.size 0 e (by unfold maxLen; omega)
  have hds : s.data.size = s.size := rfl
  refine .inr ⟨w.heap.size, _, _, _, by simp, hB, heap_alloc_new w.drew _, .inr (Nat.le_refl _), by simpa using hge, hcm, ?_, ?_⟩
  · simp [bytesRow]; omega
  · simp only [bytesRow, Array.toList_append]
    have : s.data.toList.length = (s.data.map (fun b => Value.int .u8 b.toNat)).toList.length := by simp
    rw [this, List.take_left]
    simp [bcells]

/-- 'string(b)'. -/
theorem bytes_string {P : Program} {w : World} {B e : Nat} {v : Value} {l : List UInt8} (src dst : TypeId)
    (hs : P.underlying src = some (.slice e)) (he : P.underlying e = some (.int .u8)) (hd : P.underlying dst = some .string)
    (h : Bytes w B e v l) : (convert src dst v).run P w = .ok (.string ⟨l.toArray⟩) w := by
  rcases h with ⟨rfl, rfl⟩ | ⟨g, cap, cur, fz, rfl, _, hg, _, _, _, _, htk⟩
  · exact run_convert_bytes_nil w src e hs he 0 0 dst hd
  · refine run_convert_bytes_back w src dst e _ cap l hs he hd fun j hj => ?_
    exact bytes_cells (_cap := cap) hg htk j _ (by simp [bcells, hj])

theorem bytes_of_own {w : World} {B e : Nat} {v : Value} {l : List UInt8} (h : w.ownsRow B e 1 v l.length (bcells l)) : Bytes w B e v l := by
  rcases h.2 with ⟨rfl, hn0⟩ | ⟨g, cap, cur, rfl, h1, h2, h3, h4, h5, h6⟩
  · exact .inl ⟨rfl, List.eq_nil_of_length_eq_zero hn0⟩
  · simp at h5 h6
    exact .inr ⟨g, cap, cur, (0, 0), rfl, h1, h2, .inl rfl, h3, h4, h5, h6⟩

theorem bytes_len {w : World} {B e : Nat} {v : Value} {l : List UInt8} (h : Bytes w B e v l) : ∃ a c, v = .slice a l.length c := by
  rcases h with ⟨rfl, rfl⟩ | ⟨g, cap, cur, fz, rfl, _⟩
  · exact ⟨none, 0, rfl⟩
  · exact ⟨_, _, rfl⟩

/-- The operation, for the walk. -/
theorem wpList_append_out {P : Program} {ops : Array Oper} {rest : List Oper} {o : Oper} {a : Act} {w : World} {Q : Exit → Act → World → Prop} (hgd : o.guard = none) (s x : Operand) (t tn : TypeId)
    (ho : o.op = .call { callee := .builtin .append, args := #[s, x], argTypes := #[t, tn] }) (vs vx : Value) (hs : a.eval s = vs) (hx : a.eval x = vx) {B : Nat} {e : TypeId} {l : List UInt8}
    (hr : Out P #[t, tn] o.type #[vs, vx] w B e l) (h : ∀ v' w', Bytes w' B e v' l → Below B w w' → wpList P ops Q rest (a.put o.dst v') w') : wpList P ops Q (o :: rest) a w := by
  obtain ⟨v', w', r, h1, h2⟩ := hr
  exact Lib.wpList_append_run w hgd s x t tn ho vs vx hs hx v' w' r (h v' w' h1 h2)
end Go.Proofs.Ytmkchilhnmkhkab.Byt
namespace Go.Proofs.Ytmkchilhnmkhkab.BitsM
open Go.RowKit

theorem bv8 (a : UInt8) : BitVec.ofInt 8 (a.toNat : Int) = a.toBitVec := by
  apply BitVec.eq_of_toNat_eq
  have := a.toNat_lt
  rw [BitVec.ofInt_natCast, BitVec.toNat_ofNat]
  exact Nat.mod_eq_of_lt (by simpa using this)
theorem wrap8 (b : BitVec 8) : IntKind.u8.wrap (b.toNat : Int) = ((⟨b⟩ : UInt8).toNat : Int) := by
  have := b.isLt
  rw [IntKind.wrap_u8]
  show (b.toNat : Int) % 256 = (b.toNat : Int)
  omega
theorem xor8 (a b : UInt8) : bits .xor .u8 (a.toNat : Int) (b.toNat : Int) = ((a ^^^ b).toNat : Int) := by
  show IntKind.u8.wrap ((BitVec.ofInt 8 (a.toNat : Int) ^^^ BitVec.ofInt 8 (b.toNat : Int)).toNat : Int) = _
  rw [bv8, bv8, wrap8]; rfl
theorem or8 (a b : UInt8) : bits .or .u8 (a.toNat : Int) (b.toNat : Int) = ((a ||| b).toNat : Int) := by
  show IntKind.u8.wrap ((BitVec.ofInt 8 (a.toNat : Int) ||| BitVec.ofInt 8 (b.toNat : Int)).toNat : Int) = _
  rw [bv8, bv8, wrap8]; rfl
theorem and8 (a b : UInt8) : bits .and .u8 (a.toNat : Int) (b.toNat : Int) = ((a &&& b).toNat : Int) := by
  show IntKind.u8.wrap ((BitVec.ofInt 8 (a.toNat : Int) &&& BitVec.ofInt 8 (b.toNat : Int)).toNat : Int) = _
  rw [bv8, bv8, wrap8]; rfl

theorem bv64 (a : Nat) (_h : a < 9223372036854775808) : BitVec.ofInt 64 (a : Int) = BitVec.ofNat 64 a := by
  rw [BitVec.ofInt_natCast]
theorem wrap64 (n : Nat) (h : n < 9223372036854775808) : IntKind.i64.wrap (n : Int) = (n : Int) := IntWalk.i64_in _ (by omega)
theorem or64 (a b : Nat) (ha : a < 9223372036854775808) (hb : b < 9223372036854775808) : bits .or .i64 (a : Int) (b : Int) = ((a ||| b : Nat) : Int) := by
  show IntKind.i64.wrap ((BitVec.ofInt 64 (a : Int) ||| BitVec.ofInt 64 (b : Int)).toNat : Int) = _
  have h := Nat.or_lt_two_pow (n := 63) ha hb
  rw [bv64 a ha, bv64 b hb, BitVec.toNat_or, BitVec.toNat_ofNat, BitVec.toNat_ofNat, Nat.mod_eq_of_lt (by omega), Nat.mod_eq_of_lt (by omega), wrap64 _ h]
theorem xor64 (a b : Nat) (ha : a < 9223372036854775808) (hb : b < 9223372036854775808) : bits .xor .i64 (a : Int) (b : Int) = ((a ^^^ b : Nat) : Int) := by
  show IntKind.i64.wrap ((BitVec.ofInt 64 (a : Int) ^^^ BitVec.ofInt 64 (b : Int)).toNat : Int) = _
  have h := Nat.xor_lt_two_pow (n := 63) ha hb
  rw [bv64 a ha, bv64 b hb, BitVec.toNat_xor, BitVec.toNat_ofNat, BitVec.toNat_ofNat, Nat.mod_eq_of_lt (by omega), Nat.mod_eq_of_lt (by omega), wrap64 _ h]
theorem and64 (a b : Nat) (ha : a < 9223372036854775808) (hb : b < 9223372036854775808) : bits .and .i64 (a : Int) (b : Int) = ((a &&& b : Nat) : Int) := by
  show IntKind.i64.wrap ((BitVec.ofInt 64 (a : Int) &&& BitVec.ofInt 64 (b : Int)).toNat : Int) = _
  have h := Nat.and_lt_two_pow (n := 63) a hb
  rw [bv64 a ha, bv64 b hb, BitVec.toNat_and, BitVec.toNat_ofNat, BitVec.toNat_ofNat, Nat.mod_eq_of_lt (by omega), Nat.mod_eq_of_lt (by omega), wrap64 _ h]
end Go.Proofs.Ytmkchilhnmkhkab.BitsM
namespace Go.Proofs.Ytmkchilhnmkhkab
open Go.RowKit Go.Proofs.Ytmkchilhnmkhkab.Hexa Go.Proofs.Ytmkchilhnmkhkab.Byt Go.Proofs.Ytmkchilhnmkhkab.BitsM

theorem infoByte : (Try.prog.info? 5).map (fun i => (i.zero, i.size, i.bytes)) = some (some (.int .u8 0), 1, 1) := by kernel_rfl
/-- One byte appended, in the block of the walk's own one-cell slice. -/
theorem outB (w : World) {B : Nat} {v : Value} {l : List UInt8} (h : Bytes w B 5 v l) (hB : B ≤ w.heap.size) (ty : TypeId) (c : UInt8) (x : Int) (hx : x = c.toNat) (hl : l.length ≤ 100000000) :
    Out Try.prog #[103, 103] ty #[v, .slice (some ⟨w.heap.size, 0, none⟩) 1 1] (w.alloc (.cells #[.int .u8 x] 5)) B 5 (l ++ [c]) := by
  obtain ⟨i0, hi, hz0, hz1, hz2⟩ := info_parts infoByte
  subst hx
  refine append_cells Try.underlying103 hi hz0 hz1 hz2 _ (bytes_alloc h _) (by simp; omega) ty ⟨w.heap.size, 0, none⟩ 1 [c] ?_ (by simp; omega)
  exact World.news_of_block (heap_alloc_new _ _)

/-- One byte n times. -/
def longB (n : Nat) (x : UInt8) : ByteArray := ⟨(List.replicate n x).toArray⟩
theorem longB_size (n : Nat) (x : UInt8) : (longB n x).size = n := by show (List.replicate n x).toArray.size = n; simp

theorem bytes_set {w : World} {B e g c : Nat} {l : List UInt8} (h : Bytes w B e (.slice (some ⟨g, 0, none⟩) l.length c) l) (k : Nat) (x : UInt8) :
    Bytes (w.setCell ⟨g, k, none⟩ (.int .u8 x.toNat)) B e (.slice (some ⟨g, 0, none⟩) l.length c) (l.set k x) := by
  rcases h with ⟨h, _⟩ | ⟨g', cap, cur, fz, hv, hb, hg, hfz, hlc, hm, hcs, htk⟩
  · cases h
  · simp at hv
    obtain ⟨rfl, rfl⟩ := hv
    rw [setCell_eq_setRow w g k cur e fz _ hg]
    refine .inr ⟨g, c, _, fz, by simp, hb, setRow_heap w g cur _ e fz hg, by simpa using hfz, by simpa using hlc, hm, by simpa using hcs, ?_⟩
    rw [Array.toList_setIfInBounds, List.length_set, List.take_set, htk]
    simp [bcells, List.map_set]
theorem bytes_at {w : World} {B e g c : Nat} {l : List UInt8} (h : Bytes w B e (.slice (some ⟨g, 0, none⟩) l.length c) l) (k : Nat) (hk : k < l.length) :
    w.cell? ⟨g, k, none⟩ = some (.int .u8 (l[k]).toNat) ∧ w.frozen? ⟨g, k, none⟩ = false ∧ B ≤ g := by
  rcases h with ⟨h, _⟩ | ⟨g', cap, cur, fz, hv, hb, hg, hfz, hlc, hm, hcs, htk⟩
  · cases h
  · simp at hv
    obtain ⟨rfl, rfl⟩ := hv
    refine ⟨?_, ?_, hb⟩
    · have := bytes_cells (_cap := c) hg htk k (.int .u8 (l[k]).toNat) (by simp [bcells, hk])
      have hadd : (⟨g, 0, none⟩ : Addr).add k = ⟨g, k, none⟩ := by unfold Addr.add; split <;> simp_all
      rwa [hadd] at this
    · obtain ⟨lo, hi'⟩ := fz
      simp only [World.frozen?, hg, Bool.and_eq_false_iff, decide_eq_false_iff_not]
      rcases hfz with h | h
      · right; cases h; omega
      · left; simp only at h; omega

end Go.Proofs.Ytmkchilhnmkhkab
namespace Go.Proofs.Ytmkchilhnmkhkab
open Go.RowKit Go.Proofs.Ytmkchilhnmkhkab.Hexa Go.Proofs.Ytmkchilhnmkhkab.Byt Go.Proofs.Ytmkchilhnmkhkab.BitsM Go.Proofs.Ytmkchilhnmkhkab.Parts

/-- n zero bytes; none where n is not from 0 to 20000. -/
def zeroB (n : Int) : ByteArray := if 0 ≤ n ∧ n ≤ 20000 then longB n.toNat 0 else ⟨#[]⟩
/-- A text with zero bytes behind it, eight in all; none for a longer one. -/
def wordB (s : ByteArray) : ByteArray := if s.size ≤ 8 then s ++ longB (8 - s.size) 0 else ⟨#[]⟩
theorem zeroB_of (s : ByteArray) (h : s.size ≤ 8) : zeroB (8 - (s.size : Int)) = longB (8 - s.size) 0 := by
  unfold zeroB
  rw [if_pos (by omega), show (8 - (s.size : Int)).toNat = 8 - s.size by omega]
/-- Two texts of one length combined, the first k bytes of them. -/
def xorL (a b : ByteArray) (k : Nat) : List UInt8 := (List.zipWith (· ^^^ ·) a.data.toList b.data.toList).take k
def xorT (a b : ByteArray) : ByteArray := if a.size = b.size then ⟨(xorL a b a.size).toArray⟩ else ⟨#[]⟩
theorem xorL_length (a b : ByteArray) (hl : a.size = b.size) (k : Nat) (hk : k ≤ a.size) : (xorL a b k).length = k := by
  have h1 : a.data.toList.length = a.size := by simp
  have h2 : b.data.toList.length = b.size := by simp
  unfold xorL
  rw [List.length_take, List.length_zipWith]
  omega
theorem xorL_next (a b : ByteArray) (k : Nat) (ha : k < a.size) (hb : k < b.size) : bcells (xorL a b k) ++ [.int .u8 (((a[k]'ha) ^^^ (b[k]'hb)).toNat : Int)] = bcells (xorL a b (k + 1)) := by
  have h1 : k < a.data.toList.length := by simpa using ha
  have h2 : k < b.data.toList.length := by simpa using hb
  have e : (List.zipWith (· ^^^ ·) a.data.toList b.data.toList)[k]'(by rw [List.length_zipWith]; omega) = (a[k]'ha) ^^^ (b[k]'hb) := by rw [List.getElem_zipWith]; rfl
  unfold xorL
  rw [List.take_succ_eq_append_getElem (by rw [List.length_zipWith]; omega), e]
  simp [bcells]
/-- The first j of the k bytes of a number. -/
def numL (m k j : Nat) : List UInt8 := (List.range j).map fun t => UInt8.ofNat (m / 256 ^ (k - 1 - t))
def numB (m k : Nat) : ByteArray := ⟨(numL m k k).toArray⟩
theorem numL_length (m k j : Nat) : (numL m k j).length = j := by simp [numL]
theorem numL_next (m k j : Nat) : numL m k j ++ [UInt8.ofNat (m / 256 ^ (k - 1 - j))] = numL m k (j + 1) := by simp [numL, List.range_succ]
/-- The number has room in width bytes. -/
def NumFits (n width : Int) : Prop := 0 ≤ n ∧ (1 ≤ width ∧ width ≤ 7) ∧ n < 256 ^ width.toNat
theorem shift_zero {m k : Nat} (h : m < 256 ^ k) : (m : Int) / 2 ^ (8 * k) = 0 := by
  have e : (2 : Int) ^ (8 * k) = ((256 ^ k : Nat) : Int) := by rw [show (256 : Nat) ^ k = 2 ^ (8 * k) by rw [Nat.pow_mul]]; simp
  rw [e, ← Int.natCast_ediv, Nat.div_eq_of_lt h]; rfl
theorem shift_pos {m k : Nat} (h : 256 ^ k ≤ m) : 0 < (m : Int) / 2 ^ (8 * k) := by
  have e : (2 : Int) ^ (8 * k) = ((256 ^ k : Nat) : Int) := by rw [show (256 : Nat) ^ k = 2 ^ (8 * k) by rw [Nat.pow_mul]]; simp
  have hp : 0 < 256 ^ k := Nat.pow_pos (by omega)
  have := Nat.div_pos h hp
  rw [e, ← Int.natCast_ediv]; omega
theorem num_byte (m e : Nat) : (m : Int) / 2 ^ (8 * e) % 256 = ((UInt8.ofNat (m / 256 ^ e)).toNat : Int) := by
  rw [UInt8.toNat_ofNat', show (256 : Nat) ^ e = 2 ^ (8 * e) by rw [Nat.pow_mul]]
  have : (2 : Int) ^ (8 * e) = ((2 ^ (8 * e) : Nat) : Int) := by simp
  rw [this, ← Int.natCast_ediv]
  rfl
/-- The number that bytes say, the greatest first. -/
def numV (l : List UInt8) : Nat := l.foldl (fun n b => 256 * n + b.toNat) 0
theorem numV_snoc (l : List UInt8) (b : UInt8) : numV (l ++ [b]) = 256 * numV l + b.toNat := by simp [numV]
theorem fold_lt : ∀ (l : List UInt8) (acc : Nat), l.foldl (fun n b => 256 * n + b.toNat) acc < (acc + 1) * 256 ^ l.length
  | [], acc => by simp
  | b :: l, acc => by
    have h := fold_lt l (256 * acc + b.toNat)
    have hb := b.toNat_lt
    have h2 : (256 * acc + b.toNat + 1) * 256 ^ l.length ≤ (acc + 1) * 256 * 256 ^ l.length := Nat.mul_le_mul_right _ (by omega)
    rw [List.foldl_cons, List.length_cons, Nat.pow_succ, Nat.mul_comm (256 ^ l.length) 256, ← Nat.mul_assoc]
    omega
theorem numV_lt (l : List UInt8) : numV l < 256 ^ l.length := by
  have := fold_lt l 0
  simpa [numV] using this
/-- The bytes from offset a on, k of them. -/
def cutL (s : ByteArray) (a k : Nat) : List UInt8 := (s.data.toList.drop a).take k
theorem cutL_length (s : ByteArray) (a k : Nat) (h : a + k ≤ s.size) : (cutL s a k).length = k := by
  have : s.data.toList.length = s.size := by simp
  unfold cutL
  rw [List.length_take, List.length_drop]
  omega
theorem cutL_next (s : ByteArray) (a k : Nat) (h : a + k < s.size) : cutL s a k ++ [s[a + k]'h] = cutL s a (k + 1) := by
  have hl : s.data.toList.length = s.size := by simp
  unfold cutL
  rw [List.take_succ_eq_append_getElem (by rw [List.length_drop]; omega), List.getElem_drop]
  rfl
/-- These bytes exist. -/
def NumThere (s : ByteArray) (a width : Int) : Prop := (1 ≤ width ∧ width ≤ 7) ∧ (0 ≤ a ∧ a ≤ (s.size : Int) - width)
theorem ret_pair {a b : Int} {v : Value} (h : a = b) : Ending.returned (.tuple #[.int .i64 a, v]) = .returned (.tuple #[.int .i64 b, v]) := by rw [h]
/-- The number in its bytes; none where it has no room. -/
def numTextB (n width : Int) : ByteArray := if 0 ≤ n ∧ (1 ≤ width ∧ width ≤ 7) ∧ n < 256 ^ width.toNat then numB n.toNat width.toNat else ⟨#[]⟩
/-- The number at an offset, and whether it is there. -/
def numAtV (s : ByteArray) (a width : Int) : Int := if (1 ≤ width ∧ width ≤ 7) ∧ (0 ≤ a ∧ a ≤ (s.size : Int) - width) then (numV (cutL s a.toNat width.toNat) : Int) else 0
def numAtB (s : ByteArray) (a width : Int) : Bool := decide ((1 ≤ width ∧ width ≤ 7) ∧ (0 ≤ a ∧ a ≤ (s.size : Int) - width))
end Go.Proofs.Ytmkchilhnmkhkab
namespace Go.Proofs.Ytmkchilhnmkhkab
open Go.RowKit Go.Proofs.Ytmkchilhnmkhkab.Hexa Go.Proofs.Ytmkchilhnmkhkab.Byt

theorem numV_take (l : List UInt8) (i : Nat) (h : i < l.length) : numV (l.take (i + 1)) = 256 * numV (l.take i) + (l[i]'h).toNat := by
  rw [List.take_succ_eq_append_getElem h, numV_snoc]
theorem numV_div (l : List UInt8) : ∀ d i : Nat, i + d = l.length → numV l / 256 ^ d = numV (l.take i)
  | 0, i, h => by rw [List.take_of_length_le (by omega)]; simp
  | d + 1, i, h => by
    have h1 := numV_div l d (i + 1) (by omega)
    have h2 := numV_take l i (by omega)
    have hb := (l[i]'(by omega)).toNat_lt
    rw [Nat.pow_succ, ← Nat.div_div_eq_div_mul, h1, h2]
    omega
theorem numL_back (l : List UInt8) (k : Nat) (hk : l.length = k) : numL (numV l) k k = l := by
  subst hk
  apply List.ext_getElem
  · simp [numL_length]
  · intro j h1 h2
    have hd := numV_div l (l.length - 1 - j) (j + 1) (by omega)
    have ht := numV_take l j h2
    have e : (numL (numV l) l.length l.length)[j] = UInt8.ofNat (numV l / 256 ^ (l.length - 1 - j)) := by simp [numL]
    rw [e, hd, ht]
    apply UInt8.toNat_inj.1
    rw [UInt8.toNat_ofNat']
    have hb := (l[j]'h2).toNat_lt
    omega
theorem pow_cast {m k : Nat} (h : m < 256 ^ k) : (m : Int) < (256 : Int) ^ k := by
  have h2 := Int.ofNat_lt.2 h
  rw [Int.natCast_pow] at h2
  exact h2
/-- The number that a cut of a text says, written again. -/
theorem numText_back (s : ByteArray) (a k : Nat) (hk : 1 ≤ k ∧ k ≤ 7) (h : a + k ≤ s.size) : (numTextB (numAtV s a k) k).data.toList = cutL s a k := by
  have hl := cutL_length s a k h
  have hv : numAtV s a k = (numV (cutL s a k) : Int) := by
    unfold numAtV
    rw [if_pos ⟨by omega, by omega⟩]
    simp
  have hlt := numV_lt (cutL s a k)
  rw [hl] at hlt
  have hI := pow_cast hlt
  unfold numTextB
  rw [hv, if_pos ⟨by omega, by omega, by rw [Int.toNat_natCast]; exact hI⟩]
  simp only [Int.toNat_natCast, numB]
  exact numL_back _ _ hl
theorem numAtV_nat (s : ByteArray) (a k : Nat) (hk : 1 ≤ k ∧ k ≤ 7) (h : a + k ≤ s.size) : numAtV s a k = (numV (cutL s a k) : Int) := by
  unfold numAtV
  rw [if_pos ⟨by omega, by omega⟩]
  simp
theorem numAtV_lt (s : ByteArray) (a k : Nat) (hk : 1 ≤ k ∧ k ≤ 7) (h : a + k ≤ s.size) : 0 ≤ numAtV s a k ∧ numAtV s a k < 256 ^ k := by
  have hl := cutL_length s a k h
  have hlt := numV_lt (cutL s a k)
  rw [hl] at hlt
  rw [numAtV_nat s a k hk h]
  exact ⟨by omega, pow_cast hlt⟩
end Go.Proofs.Ytmkchilhnmkhkab
namespace Go.Proofs.Ytmkchilhnmkhkab
open Go.RowKit Go.Proofs.Ytmkchilhnmkhkab.Parts Go.Proofs.Ytmkchilhnmkhkab.Hexa

structure RecR where
  f0 : Int
  f1 : Int
  f2 : ByteArray
instance : Inhabited RecR := ⟨⟨0, 0, ByteArray.empty⟩⟩
def encRec : Enc RecR := ⟨3, fun s => [.int .i64 s.f0, .int .i64 s.f1, .string s.f2], fun _ => rfl⟩
theorem encRec_cells (s : RecR) : encRec.cells s = [.int .i64 s.f0, .int .i64 s.f1, .string s.f2] := rfl
theorem encRec_one (s : RecR) : ∀ v ∈ encRec.cells s, v.oneCell' = true := by
  intro v hv
  rw [encRec_cells] at hv
  simp only [List.mem_cons, List.not_mem_nil, or_false] at hv
  rcases hv with rfl | rfl | rfl <;> rfl
theorem cellsRec_one : ∀ L : List RecR, ∀ v ∈ cellsE encRec L, v.oneCell' = true
  | [], v, hv => by cases hv
  | x :: r, v, hv => by
    rw [cellsE, List.mem_append] at hv
    rcases hv with h | h
    · exact encRec_one x v h
    · exact cellsRec_one r v h
theorem cellsRec_length (L : List RecR) : (cellsE encRec L).length = L.length * 3 := cellsE_length encRec L
abbrev SrcRec (w : World) (a : Option Addr) (n : Nat) (L : List RecR) : Prop := SrcE encRec w a n L
theorem srcRec_at {w : World} {a : Option Addr} {n : Nat} {L : List RecR} (h : SrcRec w a n L) (j : Nat) (hj : j < n) : ∃ g off, a = some ⟨g, off, none⟩ ∧ g < w.heap.size ∧ w.cell? ⟨g, off + j * 3, none⟩ = some (.int .i64 (L.getD j default).f0) ∧ w.cell? ⟨g, off + j * 3 + 1, none⟩ = some (.int .i64 (L.getD j default).f1) ∧ w.cell? ⟨g, off + j * 3 + 2, none⟩ = some (.string (L.getD j default).f2) := by
  obtain ⟨g, off, e, hg, c⟩ := h.cell j hj
  exact ⟨g, off, e, hg, c 0 _ rfl, c 1 _ rfl, c 2 _ rfl⟩
/-- The same at a later world. -/
theorem srcRec_later {w w' : World} {a : Option Addr} {n : Nat} {L : List RecR} {B : Nat} (h : SrcRec w a n L) (hb : Below B w w') (hB : w.heap.size ≤ B) (j : Nat) (hj : j < n) : ∃ g off, a = some ⟨g, off, none⟩ ∧ g < w.heap.size ∧ w'.cell? ⟨g, off + j * 3, none⟩ = some (.int .i64 (L.getD j default).f0) ∧ w'.cell? ⟨g, off + j * 3 + 1, none⟩ = some (.int .i64 (L.getD j default).f1) ∧ w'.cell? ⟨g, off + j * 3 + 2, none⟩ = some (.string (L.getD j default).f2) := by
  obtain ⟨g, off, e, hg, _⟩ := h.cell j hj
  obtain ⟨g', off', e', _, c0, c1, c2⟩ := srcRec_at (h.below hb hB) j hj
  rw [e] at e'
  cases e'
  exact ⟨g, off, e, hg, c0, c1, c2⟩
theorem srcRec_of_own {w : World} {B e n cap : Nat} {a : Option Addr} {L : List RecR} (h : w.ownsRow B e 3 (.slice a n cap) n (cellsE encRec L)) : SrcRec w a n L := srcE_of_own (E := encRec) h (by decide)
theorem infoRec : (Try.prog.info? 70).map (fun i => (i.zero, i.size, i.bytes)) = some (some (.agg #[.int .i64 0, .int .i64 0, .string ByteArray.empty]), 3, 32) := by kernel_rfl
/-- What a slice of them holds: no text longer than b. -/
def FitRec (L : List RecR) (n b : Nat) : Prop := ∀ j, j < n → (L.getD j default).f2.size ≤ b
def FitTRec (L : List RecR) (b : Nat) : Prop := FitRec L L.length b
end Go.Proofs.Ytmkchilhnmkhkab
namespace Go.Proofs.Ytmkchilhnmkhkab
open Go.RowKit Go.Proofs.Ytmkchilhnmkhkab.Parts Go.Proofs.Ytmkchilhnmkhkab.Hexa

structure EntryR where
  f0 : Int
  f1 : ByteArray
instance : Inhabited EntryR := ⟨⟨0, ByteArray.empty⟩⟩
def encEntry : Enc EntryR := ⟨2, fun s => [.int .i64 s.f0, .string s.f1], fun _ => rfl⟩
theorem encEntry_cells (s : EntryR) : encEntry.cells s = [.int .i64 s.f0, .string s.f1] := rfl
theorem encEntry_one (s : EntryR) : ∀ v ∈ encEntry.cells s, v.oneCell' = true := by
  intro v hv
  rw [encEntry_cells] at hv
  simp only [List.mem_cons, List.not_mem_nil, or_false] at hv
  rcases hv with rfl | rfl <;> rfl
theorem cellsEntry_one : ∀ L : List EntryR, ∀ v ∈ cellsE encEntry L, v.oneCell' = true
  | [], v, hv => by cases hv
  | x :: r, v, hv => by
    rw [cellsE, List.mem_append] at hv
    rcases hv with h | h
    · exact encEntry_one x v h
    · exact cellsEntry_one r v h
theorem cellsEntry_length (L : List EntryR) : (cellsE encEntry L).length = L.length * 2 := cellsE_length encEntry L
abbrev SrcEntry (w : World) (a : Option Addr) (n : Nat) (L : List EntryR) : Prop := SrcE encEntry w a n L
theorem srcEntry_at {w : World} {a : Option Addr} {n : Nat} {L : List EntryR} (h : SrcEntry w a n L) (j : Nat) (hj : j < n) : ∃ g off, a = some ⟨g, off, none⟩ ∧ g < w.heap.size ∧ w.cell? ⟨g, off + j * 2, none⟩ = some (.int .i64 (L.getD j default).f0) ∧ w.cell? ⟨g, off + j * 2 + 1, none⟩ = some (.string (L.getD j default).f1) := by
  obtain ⟨g, off, e, hg, c⟩ := h.cell j hj
  exact ⟨g, off, e, hg, c 0 _ rfl, c 1 _ rfl⟩
/-- The same at a later world. -/
theorem srcEntry_later {w w' : World} {a : Option Addr} {n : Nat} {L : List EntryR} {B : Nat} (h : SrcEntry w a n L) (hb : Below B w w') (hB : w.heap.size ≤ B) (j : Nat) (hj : j < n) : ∃ g off, a = some ⟨g, off, none⟩ ∧ g < w.heap.size ∧ w'.cell? ⟨g, off + j * 2, none⟩ = some (.int .i64 (L.getD j default).f0) ∧ w'.cell? ⟨g, off + j * 2 + 1, none⟩ = some (.string (L.getD j default).f1) := by
  obtain ⟨g, off, e, hg, _⟩ := h.cell j hj
  obtain ⟨g', off', e', _, c0, c1⟩ := srcEntry_at (h.below hb hB) j hj
  rw [e] at e'
  cases e'
  exact ⟨g, off, e, hg, c0, c1⟩
theorem srcEntry_of_own {w : World} {B e n cap : Nat} {a : Option Addr} {L : List EntryR} (h : w.ownsRow B e 2 (.slice a n cap) n (cellsE encEntry L)) : SrcEntry w a n L := srcE_of_own (E := encEntry) h (by decide)
theorem infoEntry : (Try.prog.info? 57).map (fun i => (i.zero, i.size, i.bytes)) = some (some (.agg #[.int .i64 0, .string ByteArray.empty]), 2, 24) := by kernel_rfl
/-- What a slice of them holds: no text longer than b. -/
def FitEntry (L : List EntryR) (n b : Nat) : Prop := ∀ j, j < n → (L.getD j default).f1.size ≤ b
def FitTEntry (L : List EntryR) (b : Nat) : Prop := FitEntry L L.length b
end Go.Proofs.Ytmkchilhnmkhkab
namespace Go.Proofs.Ytmkchilhnmkhkab
open Go.RowKit Go.Proofs.Ytmkchilhnmkhkab.Parts Go.Proofs.Ytmkchilhnmkhkab.Hexa Go.Proofs.Ytmkchilhnmkhkab.Byt

def NameC (b : UInt8) : Prop := (97 ≤ b.toNat ∧ b.toNat ≤ 122) ∨ (48 ≤ b.toNat ∧ b.toNat ≤ 57)
instance (b : UInt8) : Decidable (NameC b) := by unfold NameC; infer_instance
def NameR (s : ByteArray) : Prop := (1 ≤ s.size ∧ s.size ≤ 7) ∧ ∀ b ∈ s.data.toList, NameC b
instance (s : ByteArray) : Decidable (NameR s) := by unfold NameR; infer_instance
def nameB (s : ByteArray) : Bool := decide (NameR s)
theorem nameB_yes {s : ByteArray} (h : NameR s) : nameB s = true := decide_eq_true h
theorem nameB_no {s : ByteArray} (h : ¬ NameR s) : nameB s = false := decide_eq_false h

def RecOk (r : RecR) : Prop := (1 ≤ r.f0 ∧ r.f0 ≤ 12) ∧ (1 ≤ r.f1 ∧ r.f1 ≤ 16777215) ∧ r.f2.size = 4
instance (r : RecR) : Decidable (RecOk r) := by unfold RecOk; infer_instance
def recWordB (r : RecR) : ByteArray := if RecOk r then numTextB r.f0 1 ++ numTextB r.f1 3 ++ r.f2 else ⟨#[]⟩
theorem recWordB_yes {r : RecR} (h : RecOk r) : recWordB r = numTextB r.f0 1 ++ numTextB r.f1 3 ++ r.f2 := if_pos h
theorem recWordB_no {r : RecR} (h : ¬ RecOk r) : recWordB r = ⟨#[]⟩ := if_neg h
def recOf (s : ByteArray) : RecR := ⟨numAtV s 0 1, numAtV s 1 3, s.extract 4 8⟩
def recReadB (s : ByteArray) : Bool := decide (s.size = 8 ∧ RecOk (recOf s))
def recReadR (s : ByteArray) : RecR := if s.size = 8 ∧ RecOk (recOf s) then recOf s else ⟨0, 0, ⟨#[]⟩⟩

def EntryOk (e : EntryR) : Prop := (1 ≤ e.f0 ∧ e.f0 ≤ 5) ∧ NameR e.f1
instance (e : EntryR) : Decidable (EntryOk e) := by unfold EntryOk; infer_instance
def entryWordB (e : EntryR) : ByteArray := if EntryOk e then wordB (numTextB e.f0 1 ++ e.f1) else ⟨#[]⟩
theorem entryWordB_yes {e : EntryR} (h : EntryOk e) : entryWordB e = wordB (numTextB e.f0 1 ++ e.f1) := if_pos h
theorem entryWordB_no {e : EntryR} (h : ¬ EntryOk e) : entryWordB e = ⟨#[]⟩ := if_neg h
def pagesZ (n : Int) : Int := if n ≤ 0 then 0 else (n - 1) / 32 + 1

theorem numText_size {n : Int} {k : Nat} (hk : 1 ≤ k ∧ k ≤ 7) (h0 : 0 ≤ n) (h1 : n < 256 ^ k) : (numTextB n k).size = k := by
  have e : numTextB n k = numB n.toNat k := by
    unfold numTextB
    rw [if_pos ⟨h0, by omega, by simpa using h1⟩]
    simp
  rw [e]
  show (numL n.toNat k k).toArray.size = k
  simp [numL_length]
theorem recWord_size {r : RecR} (h : RecOk r) : (recWordB r).size = 8 := by
  obtain ⟨⟨h0, h1⟩, ⟨h2, h3⟩, h4⟩ := h
  rw [recWordB_yes ⟨⟨h0, h1⟩, ⟨h2, h3⟩, h4⟩]
  have e1 : (numTextB r.f0 1).size = 1 := numText_size (k := 1) (by omega) (by omega) (by omega)
  have e2 : (numTextB r.f1 3).size = 3 := numText_size (k := 3) (by omega) (by omega) (by omega)
  rw [ByteArray.size_append, ByteArray.size_append, h4, e1, e2]
theorem recWord_empty {r : RecR} : recWordB r = ⟨#[]⟩ ↔ ¬ RecOk r := by
  refine ⟨fun h hr => ?_, recWordB_no⟩
  have := recWord_size hr
  rw [h] at this
  exact absurd this (by decide)
theorem cut_extract (s : ByteArray) (a k : Nat) : (s.extract a (a + k)).data.toList = cutL s a k := by
  unfold cutL
  simp [List.take_drop]
theorem rec_back {s : ByteArray} (h8 : s.size = 8) (h : RecOk (recOf s)) : recWordB (recOf s) = s := by
  rw [recWordB_yes h]
  have e1 := numText_back s 0 1 (by omega) (by omega)
  have e2 := numText_back s 1 3 (by omega) (by omega)
  have e3 : (s.extract 4 8).data.toList = cutL s 4 4 := cut_extract s 4 4
  have hl : s.data.toList.length = 8 := by simpa using h8
  cases s with
  | mk d =>
    apply ByteArray.ext
    apply Array.toList_inj.1
    simp only [ByteArray.data_append, Array.toList_append, recOf]
    rw [show ((0 : Int)) = ((0 : Nat) : Int) from rfl, show ((1 : Int)) = ((1 : Nat) : Int) from rfl, show ((3 : Int)) = ((3 : Nat) : Int) from rfl, e1, e2, e3]
    unfold cutL
    simp only at hl ⊢
    match d.toList, hl with
    | [b0, b1, b2, b3, b4, b5, b6, b7], _ => rfl
end Go.Proofs.Ytmkchilhnmkhkab
namespace Go.Proofs.Ytmkchilhnmkhkab
open Go.RowKit Go.Proofs.Ytmkchilhnmkhkab.Parts Go.Proofs.Ytmkchilhnmkhkab.Hexa Go.Proofs.Ytmkchilhnmkhkab.Byt

structure InoR where
  kd : Int
  sz : Int
  gn : Int
  key : ByteArray
  R : List RecR
  E : List EntryR
def textLt (a b : ByteArray) : Bool := Op.bytesLess a.toList b.toList
def RecsOk (R : List RecR) (m : Nat) : Prop := ∀ j, j < m → RecOk (R.getD j default) ∧ ∀ k, k < j → (R.getD k default).f0 ≠ (R.getD j default).f0
def EntsOk (E : List EntryR) (m : Nat) : Prop := ∀ j, j < m → EntryOk (E.getD j default) ∧ (0 < j → textLt (E.getD (j - 1) default).f1 (E.getD j default).f1 = true)
def FreeOk (n : InoR) : Prop := n.sz = 0 ∧ n.key.size = 0 ∧ n.R.length = 0 ∧ n.E.length = 0
def FileOk (n : InoR) : Prop := (0 ≤ n.sz ∧ n.sz ≤ 128) ∧ n.key.size = 8 ∧ (n.R.length : Int) = pagesZ n.sz ∧ n.E.length = 0 ∧ RecsOk n.R n.R.length
def DirOk (n : InoR) : Prop := n.sz = 0 ∧ n.key.size = 0 ∧ n.R.length = 0 ∧ n.E.length ≤ 6 ∧ EntsOk n.E n.E.length
def InoOk (n : InoR) : Prop := (0 ≤ n.gn ∧ n.gn ≤ 65535) ∧ ((n.kd = 0 ∧ FreeOk n) ∨ (n.kd = 1 ∧ FileOk n) ∨ (n.kd = 2 ∧ DirOk n))
noncomputable def inoB (n : InoR) : Bool := @decide (InoOk n) (Classical.propDecidable _)
theorem inoB_yes {n : InoR} (h : InoOk n) : inoB n = true := by unfold inoB; exact @decide_eq_true _ (Classical.propDecidable _) h
theorem inoB_no {n : InoR} (h : ¬ InoOk n) : inoB n = false := by unfold inoB; exact @decide_eq_false _ (Classical.propDecidable _) h
theorem recsOk_step {R : List RecR} {m : Nat} (h : RecsOk R m) (h1 : RecOk (R.getD m default)) (h2 : ∀ k, k < m → (R.getD k default).f0 ≠ (R.getD m default).f0) : RecsOk R (m + 1) := fun j hj => by
  by_cases e : j = m
  · subst e; exact ⟨h1, h2⟩
  · exact h j (by omega)
theorem entsOk_step {E : List EntryR} {m : Nat} (h : EntsOk E m) (h1 : EntryOk (E.getD m default)) (h2 : 0 < m → textLt (E.getD (m - 1) default).f1 (E.getD m default).f1 = true) : EntsOk E (m + 1) := fun j hj => by
  by_cases e : j = m
  · subst e; exact ⟨h1, h2⟩
  · exact h j (by omega)

/-- The words of an inode. -/
def headB (n : InoR) : ByteArray := wordB (numTextB n.kd 1 ++ numTextB n.sz 2 ++ numTextB n.gn 2)
def zero8 : ByteArray := zeroB 8
def wordsI (n : InoR) : List ByteArray := [headB n, wordB n.key] ++ n.R.map recWordB ++ n.E.map entryWordB
noncomputable def inoWordsB (n : InoR) : List ByteArray := if inoB n = true then wordsI n ++ List.replicate (8 - (wordsI n).length) zero8 else []
theorem wordsI_le {n : InoR} (h : InoOk n) : (wordsI n).length ≤ 8 := by
  unfold wordsI
  simp only [List.length_append, List.length_map, List.length_cons, List.length_nil]
  obtain ⟨_, ⟨_, h0⟩ | ⟨_, h0⟩ | ⟨_, h0⟩⟩ := h
  · obtain ⟨_, _, h1, h2⟩ := h0; omega
  · obtain ⟨h1, _, h2, h3, _⟩ := h0
    have : pagesZ n.sz ≤ 4 := by unfold pagesZ; split <;> omega
    omega
  · obtain ⟨_, _, h1, h2, _⟩ := h0; omega
theorem entryWord_size {r : EntryR} (h : EntryOk r) : (entryWordB r).size = 8 := by
  obtain ⟨⟨h0, h1⟩, h2⟩ := h
  rw [entryWordB_yes ⟨⟨h0, h1⟩, h2⟩]
  have e1 : (numTextB r.f0 1).size = 1 := numText_size (k := 1) (by omega) (by omega) (by omega)
  have e2 : (numTextB r.f0 1 ++ r.f1).size ≤ 8 := by rw [ByteArray.size_append, e1]; have := h2.1.2; omega
  unfold wordB
  rw [if_pos e2, ByteArray.size_append, longB_size]
  omega
end Go.Proofs.Ytmkchilhnmkhkab
namespace Go.Proofs.Ytmkchilhnmkhkab
open Go.RowKit Go.Proofs.Ytmkchilhnmkhkab.Parts Go.Proofs.Ytmkchilhnmkhkab.Hexa

def cRec : EncC RecR := ⟨70, 3, fun x => [.val (.int .i64 x.f0), .val (.int .i64 x.f1), .val (.string x.f2)], fun _ => rfl⟩
theorem infoRecD : (Try.prog.info? 70).map (fun i => (i.zero, i.size, i.bytes)) = some (some (.agg #[.int .i64 0, .int .i64 0, .string ⟨#[]⟩]), 3, 32) := by kernel_rfl
theorem cRec_form {w : World} {x : RecR} {vs : List Value} (h : RdL w (cRec.cels x) vs) : vs = [.int .i64 x.f0, .int .i64 x.f1, .string x.f2] := by
  obtain ⟨v0, r0, e0, h0, v1, r1, e1, h1, v2, r2, e2, h2, hend⟩ := h
  have f0 : v0 = .int .i64 x.f0 := h0
  have f1 : v1 = .int .i64 x.f1 := h1
  have f2 : v2 = .string x.f2 := h2
  have hend' : r2 = [] := hend
  rw [hend'] at e2
  rw [e2] at e1
  rw [e1] at e0
  rw [f0, f1, f2] at e0
  exact e0
theorem cRec_rd {w : World} {x : RecR}  : RdL w (cRec.cels x) [.int .i64 x.f0, .int .i64 x.f1, .string x.f2] :=
  ⟨_, _, rfl, rfl, ⟨_, _, rfl, rfl, ⟨_, _, rfl, rfl, rfl⟩⟩⟩
theorem cRec_at {w : World} {L : List RecR} {a : Option Addr} {n c : Nat} (h : (celRow cRec L).Rd w (.slice a n c)) (j : Nat) (hj : j < n) :
    ∃ (g off : Nat), a = some ⟨g, off, none⟩ ∧ g < w.heap.size ∧ w.cell? ⟨g, off + j * 3, none⟩ = some (.int .i64 (L.getD j default).f0) ∧ w.cell? ⟨g, off + j * 3 + 1, none⟩ = some (.int .i64 (L.getD j default).f1) ∧ w.cell? ⟨g, off + j * 3 + 2, none⟩ = some (.string (L.getD j default).f2) := by
  obtain ⟨g, off, vs, ha, hg, hr, hc⟩ := row_at h (by decide) j hj
  have hv := cRec_form hr
  subst hv
  exact ⟨g, off, ha, hg, hc 0 _ rfl, hc 1 _ rfl, hc 2 _ rfl⟩
theorem cRec_sz (x : RecR) : szL (cRec.cels x) = (0 + (0 + (x.f2.size + 0))) := rfl
theorem cRec_cnt (x : RecR) : cntL (cRec.cels x) = (1 + (1 + (1 + 0))) := rfl

end Go.Proofs.Ytmkchilhnmkhkab
namespace Go.Proofs.Ytmkchilhnmkhkab
open Go.RowKit Go.Proofs.Ytmkchilhnmkhkab.Parts Go.Proofs.Ytmkchilhnmkhkab.Hexa

def cEntry : EncC EntryR := ⟨57, 2, fun x => [.val (.int .i64 x.f0), .val (.string x.f1)], fun _ => rfl⟩
theorem infoEntryD : (Try.prog.info? 57).map (fun i => (i.zero, i.size, i.bytes)) = some (some (.agg #[.int .i64 0, .string ⟨#[]⟩]), 2, 24) := by kernel_rfl
theorem cEntry_form {w : World} {x : EntryR} {vs : List Value} (h : RdL w (cEntry.cels x) vs) : vs = [.int .i64 x.f0, .string x.f1] := by
  obtain ⟨v0, r0, e0, h0, v1, r1, e1, h1, hend⟩ := h
  have f0 : v0 = .int .i64 x.f0 := h0
  have f1 : v1 = .string x.f1 := h1
  have hend' : r1 = [] := hend
  rw [hend'] at e1
  rw [e1] at e0
  rw [f0, f1] at e0
  exact e0
theorem cEntry_rd {w : World} {x : EntryR}  : RdL w (cEntry.cels x) [.int .i64 x.f0, .string x.f1] :=
  ⟨_, _, rfl, rfl, ⟨_, _, rfl, rfl, rfl⟩⟩
theorem cEntry_at {w : World} {L : List EntryR} {a : Option Addr} {n c : Nat} (h : (celRow cEntry L).Rd w (.slice a n c)) (j : Nat) (hj : j < n) :
    ∃ (g off : Nat), a = some ⟨g, off, none⟩ ∧ g < w.heap.size ∧ w.cell? ⟨g, off + j * 2, none⟩ = some (.int .i64 (L.getD j default).f0) ∧ w.cell? ⟨g, off + j * 2 + 1, none⟩ = some (.string (L.getD j default).f1) := by
  obtain ⟨g, off, vs, ha, hg, hr, hc⟩ := row_at h (by decide) j hj
  have hv := cEntry_form hr
  subst hv
  exact ⟨g, off, ha, hg, hc 0 _ rfl, hc 1 _ rfl⟩
theorem cEntry_sz (x : EntryR) : szL (cEntry.cels x) = (0 + (x.f1.size + 0)) := rfl
theorem cEntry_cnt (x : EntryR) : cntL (cEntry.cels x) = (1 + (1 + 0)) := rfl

end Go.Proofs.Ytmkchilhnmkhkab
namespace Go.Proofs.Ytmkchilhnmkhkab
open Go.RowKit Go.Proofs.Ytmkchilhnmkhkab.Parts Go.Proofs.Ytmkchilhnmkhkab.Hexa

instance : Inhabited InoR := ⟨⟨0, 0, 0, ByteArray.empty, [], []⟩⟩
def cIno : EncC InoR := ⟨54, 6, fun x => [.val (.int .i64 x.kd), .val (.int .i64 x.sz), .val (.int .i64 x.gn), .val (.string x.key), celRow cRec x.R, celRow cEntry x.E], fun _ => rfl⟩
theorem infoInoD : (Try.prog.info? 54).map (fun i => (i.zero, i.size, i.bytes)) = some (some (.agg #[.int .i64 0, .int .i64 0, .int .i64 0, .string ⟨#[]⟩, .slice none 0 0, .slice none 0 0]), 6, 88) := by kernel_rfl
theorem cIno_form {w : World} {x : InoR} {vs : List Value} (h : RdL w (cIno.cels x) vs) : ∃ (a4 : Option Addr) (c4 : Nat) (a5 : Option Addr) (c5 : Nat), vs = [.int .i64 x.kd, .int .i64 x.sz, .int .i64 x.gn, .string x.key, .slice a4 x.R.length c4, .slice a5 x.E.length c5] ∧ (celRow cRec x.R).Rd w (.slice a4 x.R.length c4) ∧ (celRow cEntry x.E).Rd w (.slice a5 x.E.length c5) := by
  obtain ⟨v0, r0, e0, h0, v1, r1, e1, h1, v2, r2, e2, h2, v3, r3, e3, h3, v4, r4, e4, h4, v5, r5, e5, h5, hend⟩ := h
  have f0 : v0 = .int .i64 x.kd := h0
  have f1 : v1 = .int .i64 x.sz := h1
  have f2 : v2 = .int .i64 x.gn := h2
  have f3 : v3 = .string x.key := h3
  obtain ⟨a4, n4, c4, f4, g4⟩ := row_form (E := cRec) (L := x.R) h4
  obtain ⟨a5, n5, c5, f5, g5⟩ := row_form (E := cEntry) (L := x.E) h5
  have hend' : r5 = [] := hend
  subst g4 g5
  rw [hend'] at e5
  rw [e5] at e4
  rw [e4] at e3
  rw [e3] at e2
  rw [e2] at e1
  rw [e1] at e0
  rw [f0, f1, f2, f3, f4, f5] at e0
  rw [f4] at h4
  rw [f5] at h5
  exact ⟨a4, c4, a5, c5, e0, h4, h5⟩
theorem cIno_rd {w : World} {x : InoR} {a4 : Option Addr} {c4 : Nat} {a5 : Option Addr} {c5 : Nat} (h4 : (celRow cRec x.R).Rd w (.slice a4 x.R.length c4)) (h5 : (celRow cEntry x.E).Rd w (.slice a5 x.E.length c5)) : RdL w (cIno.cels x) [.int .i64 x.kd, .int .i64 x.sz, .int .i64 x.gn, .string x.key, .slice a4 x.R.length c4, .slice a5 x.E.length c5] :=
  ⟨_, _, rfl, rfl, ⟨_, _, rfl, rfl, ⟨_, _, rfl, rfl, ⟨_, _, rfl, rfl, ⟨_, _, rfl, h4, ⟨_, _, rfl, h5, rfl⟩⟩⟩⟩⟩⟩
theorem cIno_un {w : World} {x : InoR} {a4 : Option Addr} {c4 : Nat} {a5 : Option Addr} {c5 : Nat} (h : RdL w (cIno.cels x) [.int .i64 x.kd, .int .i64 x.sz, .int .i64 x.gn, .string x.key, .slice a4 x.R.length c4, .slice a5 x.E.length c5]) : (celRow cRec x.R).Rd w (.slice a4 x.R.length c4) ∧ (celRow cEntry x.E).Rd w (.slice a5 x.E.length c5) := by
  replace h := (rd_cons h).2
  replace h := (rd_cons h).2
  replace h := (rd_cons h).2
  replace h := (rd_cons h).2
  obtain ⟨h4, h⟩ := rd_cons h
  obtain ⟨h5, h⟩ := rd_cons h
  exact ⟨h4, h5⟩
theorem cIno_at {w : World} {L : List InoR} {a : Option Addr} {n c : Nat} (h : (celRow cIno L).Rd w (.slice a n c)) (j : Nat) (hj : j < n) :
    ∃ (g off : Nat) (a4 : Option Addr) (c4 : Nat) (a5 : Option Addr) (c5 : Nat), a = some ⟨g, off, none⟩ ∧ g < w.heap.size ∧ w.cell? ⟨g, off + j * 6, none⟩ = some (.int .i64 (L.getD j default).kd) ∧ w.cell? ⟨g, off + j * 6 + 1, none⟩ = some (.int .i64 (L.getD j default).sz) ∧ w.cell? ⟨g, off + j * 6 + 2, none⟩ = some (.int .i64 (L.getD j default).gn) ∧ w.cell? ⟨g, off + j * 6 + 3, none⟩ = some (.string (L.getD j default).key) ∧ w.cell? ⟨g, off + j * 6 + 4, none⟩ = some (.slice a4 (L.getD j default).R.length c4) ∧ w.cell? ⟨g, off + j * 6 + 5, none⟩ = some (.slice a5 (L.getD j default).E.length c5) ∧ (celRow cRec (L.getD j default).R).Rd w (.slice a4 (L.getD j default).R.length c4) ∧ (celRow cEntry (L.getD j default).E).Rd w (.slice a5 (L.getD j default).E.length c5) := by
  obtain ⟨g, off, vs, ha, hg, hr, hc⟩ := row_at h (by decide) j hj
  obtain ⟨a4, c4, a5, c5, hv, h4, h5⟩ := cIno_form hr
  subst hv
  exact ⟨g, off, a4, c4, a5, c5, ha, hg, hc 0 _ rfl, hc 1 _ rfl, hc 2 _ rfl, hc 3 _ rfl, hc 4 _ rfl, hc 5 _ rfl, h4, h5⟩
theorem cIno_sz (x : InoR) : szL (cIno.cels x) = (0 + (0 + (0 + (x.key.size + ((celRow cRec x.R).sz + ((celRow cEntry x.E).sz + 0)))))) := rfl
theorem cIno_cnt (x : InoR) : cntL (cIno.cels x) = (1 + (1 + (1 + (1 + ((celRow cRec x.R).cnt + ((celRow cEntry x.E).cnt + 0)))))) := rfl

end Go.Proofs.Ytmkchilhnmkhkab
namespace Go.Proofs.Ytmkchilhnmkhkab
open Go.RowKit Go.Proofs.Ytmkchilhnmkhkab.Parts Go.Proofs.Ytmkchilhnmkhkab.Hexa

structure PartR where
  ser : Int
  st : List Int
  ino : List InoR
instance : Inhabited PartR := ⟨⟨0, [], []⟩⟩
def cPart : EncC PartR := ⟨30, 3, fun x => [.val (.int .i64 x.ser), celRow cInt x.st, celRow cIno x.ino], fun _ => rfl⟩
theorem infoPartD : (Try.prog.info? 30).map (fun i => (i.zero, i.size, i.bytes)) = some (some (.agg #[.int .i64 0, .slice none 0 0, .slice none 0 0]), 3, 56) := by kernel_rfl
theorem cPart_form {w : World} {x : PartR} {vs : List Value} (h : RdL w (cPart.cels x) vs) : ∃ (a1 : Option Addr) (c1 : Nat) (a2 : Option Addr) (c2 : Nat), vs = [.int .i64 x.ser, .slice a1 x.st.length c1, .slice a2 x.ino.length c2] ∧ (celRow cInt x.st).Rd w (.slice a1 x.st.length c1) ∧ (celRow cIno x.ino).Rd w (.slice a2 x.ino.length c2) := by
  obtain ⟨v0, r0, e0, h0, v1, r1, e1, h1, v2, r2, e2, h2, hend⟩ := h
  have f0 : v0 = .int .i64 x.ser := h0
  obtain ⟨a1, n1, c1, f1, g1⟩ := row_form (E := cInt) (L := x.st) h1
  obtain ⟨a2, n2, c2, f2, g2⟩ := row_form (E := cIno) (L := x.ino) h2
  have hend' : r2 = [] := hend
  subst g1 g2
  rw [hend'] at e2
  rw [e2] at e1
  rw [e1] at e0
  rw [f0, f1, f2] at e0
  rw [f1] at h1
  rw [f2] at h2
  exact ⟨a1, c1, a2, c2, e0, h1, h2⟩
theorem cPart_rd {w : World} {x : PartR} {a1 : Option Addr} {c1 : Nat} {a2 : Option Addr} {c2 : Nat} (h1 : (celRow cInt x.st).Rd w (.slice a1 x.st.length c1)) (h2 : (celRow cIno x.ino).Rd w (.slice a2 x.ino.length c2)) : RdL w (cPart.cels x) [.int .i64 x.ser, .slice a1 x.st.length c1, .slice a2 x.ino.length c2] :=
  ⟨_, _, rfl, rfl, ⟨_, _, rfl, h1, ⟨_, _, rfl, h2, rfl⟩⟩⟩
theorem cPart_un {w : World} {x : PartR} {a1 : Option Addr} {c1 : Nat} {a2 : Option Addr} {c2 : Nat} (h : RdL w (cPart.cels x) [.int .i64 x.ser, .slice a1 x.st.length c1, .slice a2 x.ino.length c2]) : (celRow cInt x.st).Rd w (.slice a1 x.st.length c1) ∧ (celRow cIno x.ino).Rd w (.slice a2 x.ino.length c2) := by
  replace h := (rd_cons h).2
  obtain ⟨h1, h⟩ := rd_cons h
  obtain ⟨h2, h⟩ := rd_cons h
  exact ⟨h1, h2⟩
theorem cPart_at {w : World} {L : List PartR} {a : Option Addr} {n c : Nat} (h : (celRow cPart L).Rd w (.slice a n c)) (j : Nat) (hj : j < n) :
    ∃ (g off : Nat) (a1 : Option Addr) (c1 : Nat) (a2 : Option Addr) (c2 : Nat), a = some ⟨g, off, none⟩ ∧ g < w.heap.size ∧ w.cell? ⟨g, off + j * 3, none⟩ = some (.int .i64 (L.getD j default).ser) ∧ w.cell? ⟨g, off + j * 3 + 1, none⟩ = some (.slice a1 (L.getD j default).st.length c1) ∧ w.cell? ⟨g, off + j * 3 + 2, none⟩ = some (.slice a2 (L.getD j default).ino.length c2) ∧ (celRow cInt (L.getD j default).st).Rd w (.slice a1 (L.getD j default).st.length c1) ∧ (celRow cIno (L.getD j default).ino).Rd w (.slice a2 (L.getD j default).ino.length c2) := by
  obtain ⟨g, off, vs, ha, hg, hr, hc⟩ := row_at h (by decide) j hj
  obtain ⟨a1, c1, a2, c2, hv, h1, h2⟩ := cPart_form hr
  subst hv
  exact ⟨g, off, a1, c1, a2, c2, ha, hg, hc 0 _ rfl, hc 1 _ rfl, hc 2 _ rfl, h1, h2⟩
theorem cPart_sz (x : PartR) : szL (cPart.cels x) = (0 + ((celRow cInt x.st).sz + ((celRow cIno x.ino).sz + 0))) := rfl
theorem cPart_cnt (x : PartR) : cntL (cPart.cels x) = (1 + ((celRow cInt x.st).cnt + ((celRow cIno x.ino).cnt + 0))) := rfl

end Go.Proofs.Ytmkchilhnmkhkab
namespace Go.Proofs.Ytmkchilhnmkhkab
open Go.RowKit Go.Proofs.Ytmkchilhnmkhkab.Parts Go.Proofs.Ytmkchilhnmkhkab.Hexa

set_option maxRecDepth 100000 in
set_option maxHeartbeats 1000000 in
theorem szIntS_any (v : Value) (L : List Int) (l0 : Int) (w : World) (hl0 : 0 ≤ l0) (hl1 : l0 ≤ 1048576) (hs : (celRow cInt L).Rd w v) (ht : (celRow cInt L).Ty) :
    Calls Try.prog 13 #[v, .int .i64 l0] w (SzPost ((celRow cInt L).sz) l0 w) := by
  obtain ⟨a, n, c, rfl, hn⟩ := row_form hs
  have hn0 : n ≤ 9223372036854775807 := by rw [← hn]; exact ht.1
  have hz : (celRow cInt L).sz = n := by
    have h1 : ∀ M : List Int, szL (celsE cInt M) = 0 := by
      intro M
      induction M with
      | nil => rfl
      | cons x r ih => rw [celsE, szL_append, ih]; rfl
    show L.length + szL (celsE cInt L) = n
    have := h1 L
    omega
  clear hs ht hn
  by_cases hlt0 : l0 - (n : Int) < 0
  · go_enter Try.func13, Try.ntmps13
    go_wp2
    go_ret
    exact ⟨-1, rfl, .inl (by omega), Below.refl _ _⟩
  · go_enter Try.func13, Try.ntmps13
    go_wp2
    go_ret
    refine ⟨_, rfl, .inr ⟨by omega, ?_⟩, Below.refl _ _⟩
    first | omega | (rw [hz]; omega)
end Go.Proofs.Ytmkchilhnmkhkab
namespace Go.Proofs.Ytmkchilhnmkhkab
open Go.RowKit Go.Proofs.Ytmkchilhnmkhkab.Parts Go.Proofs.Ytmkchilhnmkhkab.Hexa

set_option maxRecDepth 100000 in
set_option maxHeartbeats 1000000 in
theorem szRec_st (x : RecR) (l : Int) (w : World) (l0 : 0 ≤ l) (l1 : l ≤ 1048576) (ht : TyL (cRec.cels x)) :
    Calls Try.prog 60 #[.agg #[.int .i64 x.f0, .int .i64 x.f1, .string x.f2], .int .i64 l] w (SzPost (szL (cRec.cels x)) l w) := by
  have hz := cRec_sz x
  obtain ⟨t0, t1, t2, _⟩ := ht
  have k2 : x.f2.size ≤ 9223372036854775807 := Nat.le_trans t2 (by decide)
  clear t0 t1 t2
  have B0 := Lib.hid (below_bk w (.cells #[.int .i64 x.f0, .int .i64 x.f1, .string x.f2] 95))
  have T0 := Lib.hid (Bk.alloc w #[.int .i64 x.f0, .int .i64 x.f1, .string x.f2] 95)
  by_cases b2 : l - (x.f2.size : Int) < 0
  · go_enter Try.func60, Try.ntmps60
    go_wp2
    go_ret
    exact ⟨-1, rfl, .inl (by omega), B0.out⟩
  go_enter Try.func60, Try.ntmps60
  go_wp2
  go_ret
  refine ⟨_, rfl, .inr ⟨by omega, ?_⟩, B0.out⟩
  first | omega | (rw [hz]; omega)

end Go.Proofs.Ytmkchilhnmkhkab
namespace Go.Proofs.Ytmkchilhnmkhkab
open Go.RowKit Go.Proofs.Ytmkchilhnmkhkab.Parts Go.Proofs.Ytmkchilhnmkhkab.Hexa

set_option maxRecDepth 100000 in
set_option maxHeartbeats 1000000 in
theorem szRecS_any (v : Value) (L : List RecR) (l0 : Int) (w : World) (hl0 : 0 ≤ l0) (hl1 : l0 ≤ 1048576) (hs : (celRow cRec L).Rd w v) (ht : (celRow cRec L).Ty) :
    Calls Try.prog 47 #[v, .int .i64 l0] w (SzPost ((celRow cRec L).sz) l0 w) := by
  obtain ⟨a, n, c, rfl, hn⟩ := row_form hs
  have HS := Lib.hid hs
  have HT : Hid (TyL (celsE cRec L)) := Lib.hid ht.2
  have hn0 : n ≤ 9223372036854775807 := by rw [← hn]; exact ht.1
  have HZ : Hid ((celRow cRec L).sz = n + szL (celsE cRec L)) := Lib.hid (by rw [← hn]; rfl)
  have HN := Lib.hid hn
  clear hs ht hn
  by_cases hlt0 : l0 - (n : Int) < 0
  · go_enter Try.func47, Try.ntmps47
    go_wp2
    go_ret
    exact ⟨-1, rfl, .inl (by omega), Below.refl _ _⟩
  · go_enter Try.func47, Try.ntmps47
    go_wp2
    go_loopw [1, 5] (fun lv iv wr => ∃ (k : Nat) (l : Int), k ≤ n ∧ iv = .int .i64 k ∧ lv = .int .i64 l ∧ 0 ≤ l ∧ l ≤ l0 ∧ Hid (l + (n : Int) + (szL (celsE cRec (L.take k)) : Int) = l0) ∧ Below w.heap.size w wr) (fun _ iv _ => n - (intOf iv).toNat)
    case atStart => exact ⟨0, _, Nat.zero_le _, rfl, rfl, by omega, by omega, Lib.hid (by simp only [List.take_zero, celsE, szL]; omega), Below.refl _ _⟩
    case round =>
      obtain ⟨k, l, hk, rfl, rfl, h0, hl, HA, hbel⟩ := hrel
      by_cases hlt : k < n
      · have HX := Lib.hid (TyL_at cRec L k HT.out (by rw [HN.out]; exact hlt))
        have HQ := Lib.hid (szL_next cRec (L := L) (j := k) (by rw [HN.out]; exact hlt))
        obtain ⟨g, off, rfl, hg, d0, d1, d2⟩ := cRec_at (Cel.Rd.later hbel _ _ HS.out) k hlt
        obtain ⟨x, hx⟩ : ∃ x, L.getD k default = x := ⟨_, rfl⟩
        rw [hx] at d0 d1 d2  HX HQ
        clear hx
        go_wp2_with fail
        refine (szRec_st x l _ h0 (by omega) HX.out).mono ?_
        rintro e w1 ⟨r, rfl, hr, hb1⟩
        have hb2 : Below w.heap.size w w1 := hbel.trans (hb1.mono hbel.size)
        clear d0 d1 d2  hb1
        rcases hr with h1 | ⟨h1, h2⟩
        · go_wp2
          go_ret
          exact ⟨-1, rfl, .inl (by omega), hb2⟩
        · have HA2 : Hid (r + (n : Int) + (szL (celsE cRec (L.take (k + 1))) : Int) = l0) := Lib.hid (by have h3 := HQ.out; have h4 := HA.out; omega)
          have hr2 : r ≤ l0 := by omega
          clear HA HQ h2
          go_wp2
          go_roundw
          case rel => exact ⟨k + 1, r, by omega, by go_num, rfl, h1, hr2, HA2, hb2⟩
          case measure => (simp [intOf]; try omega)
      · obtain rfl : k = n := by omega
        go_wp2
        go_ret
        refine ⟨l, rfl, .inr ⟨h0, ?_⟩, hbel⟩
        have h9 := HA.out
        rw [List.take_of_length_le (by rw [HN.out]; omega)] at h9
        rw [HZ.out]
        omega

end Go.Proofs.Ytmkchilhnmkhkab
namespace Go.Proofs.Ytmkchilhnmkhkab
open Go.RowKit Go.Proofs.Ytmkchilhnmkhkab.Parts Go.Proofs.Ytmkchilhnmkhkab.Hexa

set_option maxRecDepth 100000 in
set_option maxHeartbeats 1000000 in
theorem szEntry_st (x : EntryR) (l : Int) (w : World) (l0 : 0 ≤ l) (l1 : l ≤ 1048576) (ht : TyL (cEntry.cels x)) :
    Calls Try.prog 61 #[.agg #[.int .i64 x.f0, .string x.f1], .int .i64 l] w (SzPost (szL (cEntry.cels x)) l w) := by
  have hz := cEntry_sz x
  obtain ⟨t0, t1, _⟩ := ht
  have k1 : x.f1.size ≤ 9223372036854775807 := Nat.le_trans t1 (by decide)
  clear t0 t1
  have B0 := Lib.hid (below_bk w (.cells #[.int .i64 x.f0, .string x.f1] 97))
  have T0 := Lib.hid (Bk.alloc w #[.int .i64 x.f0, .string x.f1] 97)
  by_cases b1 : l - (x.f1.size : Int) < 0
  · go_enter Try.func61, Try.ntmps61
    go_wp2
    go_ret
    exact ⟨-1, rfl, .inl (by omega), B0.out⟩
  go_enter Try.func61, Try.ntmps61
  go_wp2
  go_ret
  refine ⟨_, rfl, .inr ⟨by omega, ?_⟩, B0.out⟩
  first | omega | (rw [hz]; omega)

end Go.Proofs.Ytmkchilhnmkhkab
namespace Go.Proofs.Ytmkchilhnmkhkab
open Go.RowKit Go.Proofs.Ytmkchilhnmkhkab.Parts Go.Proofs.Ytmkchilhnmkhkab.Hexa

set_option maxRecDepth 100000 in
set_option maxHeartbeats 1000000 in
theorem szEntryS_any (v : Value) (L : List EntryR) (l0 : Int) (w : World) (hl0 : 0 ≤ l0) (hl1 : l0 ≤ 1048576) (hs : (celRow cEntry L).Rd w v) (ht : (celRow cEntry L).Ty) :
    Calls Try.prog 48 #[v, .int .i64 l0] w (SzPost ((celRow cEntry L).sz) l0 w) := by
  obtain ⟨a, n, c, rfl, hn⟩ := row_form hs
  have HS := Lib.hid hs
  have HT : Hid (TyL (celsE cEntry L)) := Lib.hid ht.2
  have hn0 : n ≤ 9223372036854775807 := by rw [← hn]; exact ht.1
  have HZ : Hid ((celRow cEntry L).sz = n + szL (celsE cEntry L)) := Lib.hid (by rw [← hn]; rfl)
  have HN := Lib.hid hn
  clear hs ht hn
  by_cases hlt0 : l0 - (n : Int) < 0
  · go_enter Try.func48, Try.ntmps48
    go_wp2
    go_ret
    exact ⟨-1, rfl, .inl (by omega), Below.refl _ _⟩
  · go_enter Try.func48, Try.ntmps48
    go_wp2
    go_loopw [1, 5] (fun lv iv wr => ∃ (k : Nat) (l : Int), k ≤ n ∧ iv = .int .i64 k ∧ lv = .int .i64 l ∧ 0 ≤ l ∧ l ≤ l0 ∧ Hid (l + (n : Int) + (szL (celsE cEntry (L.take k)) : Int) = l0) ∧ Below w.heap.size w wr) (fun _ iv _ => n - (intOf iv).toNat)
    case atStart => exact ⟨0, _, Nat.zero_le _, rfl, rfl, by omega, by omega, Lib.hid (by simp only [List.take_zero, celsE, szL]; omega), Below.refl _ _⟩
    case round =>
      obtain ⟨k, l, hk, rfl, rfl, h0, hl, HA, hbel⟩ := hrel
      by_cases hlt : k < n
      · have HX := Lib.hid (TyL_at cEntry L k HT.out (by rw [HN.out]; exact hlt))
        have HQ := Lib.hid (szL_next cEntry (L := L) (j := k) (by rw [HN.out]; exact hlt))
        obtain ⟨g, off, rfl, hg, d0, d1⟩ := cEntry_at (Cel.Rd.later hbel _ _ HS.out) k hlt
        obtain ⟨x, hx⟩ : ∃ x, L.getD k default = x := ⟨_, rfl⟩
        rw [hx] at d0 d1  HX HQ
        clear hx
        go_wp2_with fail
        refine (szEntry_st x l _ h0 (by omega) HX.out).mono ?_
        rintro e w1 ⟨r, rfl, hr, hb1⟩
        have hb2 : Below w.heap.size w w1 := hbel.trans (hb1.mono hbel.size)
        clear d0 d1  hb1
        rcases hr with h1 | ⟨h1, h2⟩
        · go_wp2
          go_ret
          exact ⟨-1, rfl, .inl (by omega), hb2⟩
        · have HA2 : Hid (r + (n : Int) + (szL (celsE cEntry (L.take (k + 1))) : Int) = l0) := Lib.hid (by have h3 := HQ.out; have h4 := HA.out; omega)
          have hr2 : r ≤ l0 := by omega
          clear HA HQ h2
          go_wp2
          go_roundw
          case rel => exact ⟨k + 1, r, by omega, by go_num, rfl, h1, hr2, HA2, hb2⟩
          case measure => (simp [intOf]; try omega)
      · obtain rfl : k = n := by omega
        go_wp2
        go_ret
        refine ⟨l, rfl, .inr ⟨h0, ?_⟩, hbel⟩
        have h9 := HA.out
        rw [List.take_of_length_le (by rw [HN.out]; omega)] at h9
        rw [HZ.out]
        omega

end Go.Proofs.Ytmkchilhnmkhkab
namespace Go.Proofs.Ytmkchilhnmkhkab
open Go.RowKit Go.Proofs.Ytmkchilhnmkhkab.Parts Go.Proofs.Ytmkchilhnmkhkab.Hexa

set_option maxRecDepth 100000 in
set_option maxHeartbeats 1000000 in
theorem szIno_st (x : InoR) (a4 : Option Addr) (c4 : Nat) (a5 : Option Addr) (c5 : Nat) (l : Int) (w : World) (l0 : 0 ≤ l) (l1 : l ≤ 1048576) (h4 : (celRow cRec x.R).Rd w (.slice a4 x.R.length c4)) (h5 : (celRow cEntry x.E).Rd w (.slice a5 x.E.length c5)) (ht : TyL (cIno.cels x)) :
    Calls Try.prog 35 #[.agg #[.int .i64 x.kd, .int .i64 x.sz, .int .i64 x.gn, .string x.key, .slice a4 x.R.length c4, .slice a5 x.E.length c5], .int .i64 l] w (SzPost (szL (cIno.cels x)) l w) := by
  have hz := cIno_sz x
  obtain ⟨t0, t1, t2, t3, t4, t5, _⟩ := ht
  have k3 : x.key.size ≤ 9223372036854775807 := Nat.le_trans t3 (by decide)
  clear t0 t1 t2 t3
  have HS4 := Lib.hid h4
  have HT4 := Lib.hid t4
  have HS5 := Lib.hid h5
  have HT5 := Lib.hid t5
  clear h4 t4 h5 t5
  have B0 := Lib.hid (below_bk w (.cells #[.int .i64 x.kd, .int .i64 x.sz, .int .i64 x.gn, .string x.key, .slice a4 x.R.length c4, .slice a5 x.E.length c5] 64))
  have T0 := Lib.hid (Bk.alloc w #[.int .i64 x.kd, .int .i64 x.sz, .int .i64 x.gn, .string x.key, .slice a4 x.R.length c4, .slice a5 x.E.length c5] 64)
  by_cases b3 : l - (x.key.size : Int) < 0
  · go_enter Try.func35, Try.ntmps35
    go_wp2
    go_ret
    exact ⟨-1, rfl, .inl (by omega), B0.out⟩
  obtain ⟨m0, hm0⟩ : ∃ m : Int, l - (x.key.size : Int) = m := ⟨_, rfl⟩
  have g0 : 0 ≤ m0 := by omega
  have g1 : m0 ≤ 1048576 := by omega
  have HM0 := Lib.hid hm0
  clear b3 k3
  have HZ := Lib.hid hz
  clear hz
  go_enter Try.func35, Try.ntmps35
  go_wp2_with fail
  clear hm0
  refine (szRecS_any _ x.R m0 _ g0 g1 (Cel.Rd.later B0.out _ _ HS4.out) HT4.out).mono ?_
  rintro e w1 ⟨m1, rfl, hr, hb⟩
  have B1 : Hid (Below w.heap.size w w1) := Lib.hid (B0.out.trans (hb.mono B0.out.size))
  have T1 := Lib.hid (T0.out.later hb)
  have d5 := T1.out.cell (j := 5) rfl
  clear hb
  rcases hr with hr | ⟨p0, p1⟩
  · go_wp2
    go_ret
    exact ⟨-1, rfl, .inl (by omega), B1.out⟩
  have HM1 := Lib.hid p1
  have g10 := p0
  have g11 : m1 ≤ 1048576 := by omega
  have q1 : ¬ (m1 < 0) := by omega
  clear p0 p1
  go_wp2_with fail
  refine (szEntryS_any _ x.E m1 _ g10 g11 (Cel.Rd.later B1.out _ _ HS5.out) HT5.out).mono ?_
  rintro e w2 ⟨m2, rfl, hr, hb⟩
  have B2 : Hid (Below w.heap.size w w2) := Lib.hid (B1.out.trans (hb.mono B1.out.size))
  have T2 := Lib.hid (T1.out.later hb)
  clear hb
  rcases hr with hr | ⟨p0, p1⟩
  · go_wp2
    go_ret
    exact ⟨-1, rfl, .inl (by omega), B2.out⟩
  have HM2 := Lib.hid p1
  have g20 := p0
  have g21 : m2 ≤ 1048576 := by omega
  have q2 : ¬ (m2 < 0) := by omega
  clear p0 p1
  go_wp2
  go_ret
  exact ⟨m2, rfl, .inr ⟨g20, by have := HZ.out; have := HM0.out; have := HM1.out; have := HM2.out; omega⟩, B2.out⟩

end Go.Proofs.Ytmkchilhnmkhkab
namespace Go.Proofs.Ytmkchilhnmkhkab
open Go.RowKit Go.Proofs.Ytmkchilhnmkhkab.Parts Go.Proofs.Ytmkchilhnmkhkab.Hexa

set_option maxRecDepth 100000 in
set_option maxHeartbeats 1000000 in
theorem szInoS_any (v : Value) (L : List InoR) (l0 : Int) (w : World) (hl0 : 0 ≤ l0) (hl1 : l0 ≤ 1048576) (hs : (celRow cIno L).Rd w v) (ht : (celRow cIno L).Ty) :
    Calls Try.prog 14 #[v, .int .i64 l0] w (SzPost ((celRow cIno L).sz) l0 w) := by
  obtain ⟨a, n, c, rfl, hn⟩ := row_form hs
  have HS := Lib.hid hs
  have HT : Hid (TyL (celsE cIno L)) := Lib.hid ht.2
  have hn0 : n ≤ 9223372036854775807 := by rw [← hn]; exact ht.1
  have HZ : Hid ((celRow cIno L).sz = n + szL (celsE cIno L)) := Lib.hid (by rw [← hn]; rfl)
  have HN := Lib.hid hn
  clear hs ht hn
  by_cases hlt0 : l0 - (n : Int) < 0
  · go_enter Try.func14, Try.ntmps14
    go_wp2
    go_ret
    exact ⟨-1, rfl, .inl (by omega), Below.refl _ _⟩
  · go_enter Try.func14, Try.ntmps14
    go_wp2
    go_loopw [1, 5] (fun lv iv wr => ∃ (k : Nat) (l : Int), k ≤ n ∧ iv = .int .i64 k ∧ lv = .int .i64 l ∧ 0 ≤ l ∧ l ≤ l0 ∧ Hid (l + (n : Int) + (szL (celsE cIno (L.take k)) : Int) = l0) ∧ Below w.heap.size w wr) (fun _ iv _ => n - (intOf iv).toNat)
    case atStart => exact ⟨0, _, Nat.zero_le _, rfl, rfl, by omega, by omega, Lib.hid (by simp only [List.take_zero, celsE, szL]; omega), Below.refl _ _⟩
    case round =>
      obtain ⟨k, l, hk, rfl, rfl, h0, hl, HA, hbel⟩ := hrel
      by_cases hlt : k < n
      · have HX := Lib.hid (TyL_at cIno L k HT.out (by rw [HN.out]; exact hlt))
        have HQ := Lib.hid (szL_next cIno (L := L) (j := k) (by rw [HN.out]; exact hlt))
        obtain ⟨g, off, a4, c4, a5, c5, rfl, hg, d0, d1, d2, d3, d4, d5, r4, r5⟩ := cIno_at (Cel.Rd.later hbel _ _ HS.out) k hlt
        obtain ⟨x, hx⟩ : ∃ x, L.getD k default = x := ⟨_, rfl⟩
        rw [hx] at d0 d1 d2 d3 d4 d5 r4 r5 HX HQ
        clear hx
        go_wp2_with fail
        refine (szIno_st x a4 c4 a5 c5 l _ h0 (by omega) r4 r5 HX.out).mono ?_
        rintro e w1 ⟨r, rfl, hr, hb1⟩
        have hb2 : Below w.heap.size w w1 := hbel.trans (hb1.mono hbel.size)
        clear d0 d1 d2 d3 d4 d5 r4 r5 hb1
        rcases hr with h1 | ⟨h1, h2⟩
        · go_wp2
          go_ret
          exact ⟨-1, rfl, .inl (by omega), hb2⟩
        · have HA2 : Hid (r + (n : Int) + (szL (celsE cIno (L.take (k + 1))) : Int) = l0) := Lib.hid (by have h3 := HQ.out; have h4 := HA.out; omega)
          have hr2 : r ≤ l0 := by omega
          clear HA HQ h2
          go_wp2
          go_roundw
          case rel => exact ⟨k + 1, r, by omega, by go_num, rfl, h1, hr2, HA2, hb2⟩
          case measure => (simp [intOf]; try omega)
      · obtain rfl : k = n := by omega
        go_wp2
        go_ret
        refine ⟨l, rfl, .inr ⟨h0, ?_⟩, hbel⟩
        have h9 := HA.out
        rw [List.take_of_length_le (by rw [HN.out]; omega)] at h9
        rw [HZ.out]
        omega

end Go.Proofs.Ytmkchilhnmkhkab
namespace Go.Proofs.Ytmkchilhnmkhkab
open Go.RowKit Go.Proofs.Ytmkchilhnmkhkab.Parts Go.Proofs.Ytmkchilhnmkhkab.Hexa

set_option maxRecDepth 100000 in
set_option maxHeartbeats 1000000 in
theorem szPart_st (x : PartR) (a1 : Option Addr) (c1 : Nat) (a2 : Option Addr) (c2 : Nat) (l : Int) (w : World) (l0 : 0 ≤ l) (l1 : l ≤ 1048576) (h1 : (celRow cInt x.st).Rd w (.slice a1 x.st.length c1)) (h2 : (celRow cIno x.ino).Rd w (.slice a2 x.ino.length c2)) (ht : TyL (cPart.cels x)) :
    Calls Try.prog 5 #[.agg #[.int .i64 x.ser, .slice a1 x.st.length c1, .slice a2 x.ino.length c2], .int .i64 l] w (SzPost (szL (cPart.cels x)) l w) := by
  have hz := cPart_sz x
  obtain ⟨t0, t1, t2, _⟩ := ht
  clear t0
  have HS1 := Lib.hid h1
  have HT1 := Lib.hid t1
  have HS2 := Lib.hid h2
  have HT2 := Lib.hid t2
  clear h1 t1 h2 t2
  have B0 := Lib.hid (below_bk w (.cells #[.int .i64 x.ser, .slice a1 x.st.length c1, .slice a2 x.ino.length c2] 25))
  have T0 := Lib.hid (Bk.alloc w #[.int .i64 x.ser, .slice a1 x.st.length c1, .slice a2 x.ino.length c2] 25)
  obtain ⟨m0, hm0⟩ : ∃ m : Int, l = m := ⟨_, rfl⟩
  subst hm0
  have hm0 : l = l := rfl
  have g0 := l0
  have g1 := l1
  have HM0 : Hid (l = l) := Lib.hid hm0
  have HZ := Lib.hid hz
  clear hz
  go_enter Try.func5, Try.ntmps5
  go_wp2_with fail
  refine (szIntS_any _ x.st l _ g0 g1 (Cel.Rd.later B0.out _ _ HS1.out) HT1.out).mono ?_
  rintro e w1 ⟨m1, rfl, hr, hb⟩
  have B1 : Hid (Below w.heap.size w w1) := Lib.hid (B0.out.trans (hb.mono B0.out.size))
  have T1 := Lib.hid (T0.out.later hb)
  have d2 := T1.out.cell (j := 2) rfl
  clear hb
  rcases hr with hr | ⟨p0, p1⟩
  · go_wp2
    go_ret
    exact ⟨-1, rfl, .inl (by omega), B1.out⟩
  have HM1 := Lib.hid p1
  have g10 := p0
  have g11 : m1 ≤ 1048576 := by omega
  have q1 : ¬ (m1 < 0) := by omega
  clear p0 p1
  go_wp2_with fail
  refine (szInoS_any _ x.ino m1 _ g10 g11 (Cel.Rd.later B1.out _ _ HS2.out) HT2.out).mono ?_
  rintro e w2 ⟨m2, rfl, hr, hb⟩
  have B2 : Hid (Below w.heap.size w w2) := Lib.hid (B1.out.trans (hb.mono B1.out.size))
  have T2 := Lib.hid (T1.out.later hb)
  clear hb
  rcases hr with hr | ⟨p0, p1⟩
  · go_wp2
    go_ret
    exact ⟨-1, rfl, .inl (by omega), B2.out⟩
  have HM2 := Lib.hid p1
  have g20 := p0
  have g21 : m2 ≤ 1048576 := by omega
  have q2 : ¬ (m2 < 0) := by omega
  clear p0 p1
  go_wp2
  go_ret
  exact ⟨m2, rfl, .inr ⟨g20, by have := HZ.out; have := HM0.out; have := HM1.out; have := HM2.out; omega⟩, B2.out⟩

end Go.Proofs.Ytmkchilhnmkhkab
namespace Go.Proofs.Ytmkchilhnmkhkab
open Go.RowKit Go.Proofs.Ytmkchilhnmkhkab.Parts Go.Proofs.Ytmkchilhnmkhkab.Hexa

/-- What the copy returns. -/
def CopyPost (n : Nat) (zs : List Int) (w : World) (e : Ending) (w' : World) : Prop :=
  e = .returned (.slice (some ⟨w.heap.size, 0, none⟩) n n) ∧ w'.ownsRow w.heap.size 3 1 (.slice (some ⟨w.heap.size, 0, none⟩) n n) n (icells zs) ∧ Below w.heap.size w w'

set_option maxRecDepth 100000 in
set_option maxHeartbeats 1000000 in
theorem toInts_any (a : Option Addr) (n c : Nat) (zs : List Int) (w : World) (hs : SrcI w a n zs) (hn : n ≤ 10000000) :
    Calls Try.prog 16 #[.slice a n c] w (CopyPost n zs w) := by
  obtain ⟨i0, hi, hz0, hz1, hz2⟩ := info_parts infoInt
  have HS := Lib.hid hs
  clear hs
  go_enter Try.func16, Try.ntmps16
  go_wp2_with (at_make; refine wpList_make_full _ rfl _ _ 22 rfl w.heap.size 3 i0 (.int .i64 0) 1 Try.underlying22 hi hz0 hz1 .i64 .i64 _ _ n rfl rfl rfl rfl (by rw [hz2]; omega) (by unfold maxLen; omega) (Nat.le_refl _) ?_; intro w0 hown0 hgrow0)
  have hg0 : Below w.heap.size w w0 := (Below.refl _ _).grown hgrow0 (Nat.le_refl _) (fun k h => by cases h)
  have HO0 := Lib.hid hown0
  clear hown0 hgrow0
  go_loopw [4] (fun iv wr => ∃ (k : Nat) (xs : List Value), k ≤ n ∧ iv = .int .i64 k ∧ Hid (wr.ownsRow w.heap.size 3 1 (.slice (some ⟨w.heap.size, 0, none⟩) n n) n xs) ∧ Hid (∀ j, j < k → xs[j]? = (icells zs)[j]?) ∧ Below w.heap.size w wr)
    (fun iv _ => n - (intOf iv).toNat)
  case atStart => exact ⟨0, _, Nat.zero_le _, rfl, HO0, Lib.hid (fun j hj => by omega), hg0⟩
  case round =>
    clear HO0 hg0
    obtain ⟨k, xs, hk, rfl, HW, HX, hbel⟩ := hrel
    have hxl : Hid (xs.length = n) := Lib.hid (own_length HW.out)
    by_cases hlt : k < n
    · obtain ⟨g, off, rfl, hgl, hc⟩ := HS.out.cell k hlt
      have hc0 : wr.cell? ⟨g, off + k, none⟩ = some (.int .i64 (zs.getD k 0)) := by rw [hbel.cell hgl]; exact hc
      have HE : Hid ((icells zs)[k]? = some (.int .i64 (zs.getD k 0))) := Lib.hid (by
        have hk' : k < zs.length := by have := HS.out.len; omega
        simp [icells, List.getD, hk'])
      obtain ⟨z, hz⟩ : ∃ z, zs.getD k 0 = z := ⟨_, rfl⟩
      rw [hz] at hc0 HE
      have c3 : ∃ v, wr.cell? ⟨w.heap.size, k, none⟩ = some v := ⟨xs[k]'(by have := hxl.out; omega), by rw [HW.out.cellAt k (by omega)]; simp [hxl.out, hlt]⟩
      obtain ⟨v3, c3⟩ := c3
      have z3 := HW.out.frozenAt k
      have O1 := Lib.hid (HW.out.stored k (.int .i64 z)).1
      have hb1 : Below w.heap.size w (wr.setCell ⟨w.heap.size, k, none⟩ (.int .i64 z)) := hbel.setCell (Nat.le_refl _) _
      have X1 : Hid (∀ j, j < k + 1 → (xs.set k (.int .i64 z))[j]? = (icells zs)[j]?) := Lib.hid (fun j hj => by
        by_cases e : j = k
        · subst e; rw [List.getElem?_set_self (by have := hxl.out; omega), HE.out]
        · rw [List.getElem?_set_ne (by omega)]; exact HX.out j (by omega))
      clear hc hz
      go_wp2
      go_roundw
      case rel => exact ⟨k + 1, _, by omega, by go_num, O1, X1, hb1⟩
      case measure => (simp [intOf]; try omega)
    · obtain rfl : k = n := by omega
      have hfin : xs = icells zs := by
        apply List.ext_getElem?
        intro j
        by_cases hj : j < k
        · exact HX.out j hj
        · rw [List.getElem?_eq_none (by have := hxl.out; omega), List.getElem?_eq_none (by rw [icells_length]; have := HS.out.len; omega)]
      have ho := HW.out
      rw [hfin] at ho
      have HO := Lib.hid ho
      clear ho hfin
      go_wp2
      go_ret
      exact ⟨rfl, HO.out, hbel⟩

end Go.Proofs.Ytmkchilhnmkhkab
namespace Go.Proofs.Ytmkchilhnmkhkab
open Go.RowKit Go.Proofs.Ytmkchilhnmkhkab.Parts Go.Proofs.Ytmkchilhnmkhkab.Hexa

theorem toIntS_any (v : Value) (L : List Int) (w : World) (hs : (celRow cInt L).Rd w v) (hz : (celRow cInt L).sz ≤ 1048576) :
    Calls Try.prog 16 #[v] w (ToPost (celRow cInt L) w) := by
  obtain ⟨a, n, c, rfl, hn⟩ := row_form hs
  rw [szInts_eq, hn] at hz
  refine (toInts_any a n c L w (srcI_of_rd hs) (by omega)).mono ?_
  rintro e w' ⟨rfl, ho, hb⟩
  exact ⟨_, rfl, obj_ints ho (Nat.le_refl _) (Nat.le_refl _), hb⟩
end Go.Proofs.Ytmkchilhnmkhkab
namespace Go.Proofs.Ytmkchilhnmkhkab
open Go.RowKit Go.Proofs.Ytmkchilhnmkhkab.Parts Go.Proofs.Ytmkchilhnmkhkab.Hexa

set_option maxRecDepth 100000 in
set_option maxHeartbeats 1000000 in
theorem toRec_st (x : RecR) (w : World) (_ : szL (cRec.cels x) ≤ 1048576) :
    Calls Try.prog 62 #[.agg #[.int .i64 x.f0, .int .i64 x.f1, .string x.f2]] w (ToPostS (cRec.cels x) w) := by
  go_enter Try.func62, Try.ntmps62
  go_wp2
  refine bodyPost_ret (v := .agg #[.int .i64 x.f0, .int .i64 x.f1, .string x.f2]) ?_ rfl ⟨_, rfl, (((Objs.nil _ _ _).val _).val _).val _, (((Below.refl _ _).alloc (Nat.le_refl _) _).alloc (by simp) _).alloc (by simp; omega) _⟩
  simp [results, Try.results62, go_sem]

end Go.Proofs.Ytmkchilhnmkhkab
namespace Go.Proofs.Ytmkchilhnmkhkab
open Go.RowKit Go.Proofs.Ytmkchilhnmkhkab.Parts Go.Proofs.Ytmkchilhnmkhkab.Hexa

set_option maxRecDepth 100000 in
set_option maxHeartbeats 1000000 in
theorem toRecS_any (v : Value) (L : List RecR) (w : World) (hs : (celRow cRec L).Rd w v) (hz : (celRow cRec L).sz ≤ 1048576) :
    Calls Try.prog 49 #[v] w (ToPost (celRow cRec L) w) := by
  obtain ⟨i0, hi, hz0, hz1, hz2⟩ := info_parts infoRecD
  obtain ⟨a, n, c, rfl, hn⟩ := row_form hs
  have HS := Lib.hid hs
  have hz' : n + szL (celsE cRec L) ≤ 1048576 := by rw [← hn]; exact hz
  have hn1 : n ≤ 1048576 := by omega
  have HZ : Hid (szL (celsE cRec L) ≤ 1048576) := Lib.hid (by omega)
  have HN := Lib.hid hn
  clear hs hz hz' hn
  go_enter Try.func49, Try.ntmps49
  go_wp2_with (at_make; refine wpList_make_full _ rfl _ _ 51 rfl w.heap.size 70 i0 _ 3 Try.underlying51 hi hz0 hz1 .i64 .i64 _ _ n rfl rfl rfl rfl (by rw [hz2]; omega) (by unfold maxLen; omega) (Nat.le_refl _) ?_; intro w0 hown0 hgrow0)
  have hg0 : Below w.heap.size w w0 := (Below.refl _ _).grown hgrow0 (Nat.le_refl _) (fun k h => by cases h)
  have HO0 : Hid (Part2 cRec L w0 w.heap.size n 0) := Lib.hid (Part2.start hown0)
  clear hown0 hgrow0
  go_loopw [4] (fun iv wr => ∃ (k : Nat), k ≤ n ∧ iv = .int .i64 k ∧ Hid (Part2 cRec L wr w.heap.size n k) ∧ Below w.heap.size w wr)
    (fun iv _ => n - (intOf iv).toNat)
  case atStart => exact ⟨0, Nat.zero_le _, rfl, HO0, hg0⟩
  case round =>
    clear HO0 hg0
    obtain ⟨k, hk, rfl, HW, hbel⟩ := hrel
    by_cases hlt : k < n
    · have HX : Hid (szL (cRec.cels (L.getD k default)) ≤ 1048576) := Lib.hid (Nat.le_trans (szL_at cRec L k (by rw [HN.out]; exact hlt)) HZ.out)
      obtain ⟨g, off, rfl, hg, d0, d1, d2⟩ := cRec_at (Cel.Rd.later hbel _ _ HS.out) k hlt
      have HV : Hid (∀ (w1 : World) (hi : Nat) (vs : List Value), Below wr.heap.size wr w1 → Objs w1 wr.heap.size hi (cRec.cels (L.getD k default)) vs → Part2 cRec L (w1.setCells w.heap.size (k * 3) vs) w.heap.size n (k + 1)) :=
        Lib.hid (fun w1 hi vs hb ho => HW.out.next HN.out hlt hb ho)
      obtain ⟨x, hx⟩ : ∃ x, L.getD k default = x := ⟨_, rfl⟩
      rw [hx] at d0 d1 d2  HX HV
      clear hx
      go_wp2_with fail
      refine (toRec_st x _ HX.out).mono ?_
      rintro e w1 ⟨vs, rfl, ho, hb1⟩
      have hbx : Below w.heap.size w w1 := hbel.trans (hb1.mono hbel.size)
      have O1 := Lib.hid (HV.out w1 _ vs hb1 ho)
      obtain rfl := cRec_form ho.rd
      obtain ⟨xs, G, hrow, _, _, _⟩ := (HW.out.later hb1).ex
      have HW1 := Lib.hid hrow
      clear hrow
      obtain ⟨v0, e0⟩ := ownE_cell HW1.out (j := k * 3) (by show k * 3 < n * 3; omega)
      obtain ⟨v1, e1⟩ := ownE_cell HW1.out (j := k * 3 + 1) (by show k * 3 + 1 < n * 3; omega)
      obtain ⟨v2, e2⟩ := ownE_cell HW1.out (j := k * 3 + 2) (by show k * 3 + 2 < n * 3; omega)
      have z0 := HW1.out.frozenAt (k * 3)
      have z1 := HW1.out.frozenAt (k * 3 + 1)
      have z2 := HW1.out.frozenAt (k * 3 + 2)
      have hb2 := Lib.hid (below_sets (Nat.le_refl w.heap.size) [.int .i64 x.f0, .int .i64 x.f1, .string x.f2] (k * 3) hbx)
      clear d0 d1 d2  hb1 hbx ho HW
      go_wp2
      go_roundw
      case rel => exact ⟨k + 1, by omega, by go_num, O1, hb2.out⟩
      case measure => (simp [intOf]; try omega)
    · obtain rfl : k = n := by omega
      have HO := Lib.hid (HW.out.done HN.out)
      go_wp2
      go_ret
      exact ⟨_, rfl, HO.out, hbel⟩

end Go.Proofs.Ytmkchilhnmkhkab
namespace Go.Proofs.Ytmkchilhnmkhkab
open Go.RowKit Go.Proofs.Ytmkchilhnmkhkab.Parts Go.Proofs.Ytmkchilhnmkhkab.Hexa

set_option maxRecDepth 100000 in
set_option maxHeartbeats 1000000 in
theorem toEntry_st (x : EntryR) (w : World) (_ : szL (cEntry.cels x) ≤ 1048576) :
    Calls Try.prog 63 #[.agg #[.int .i64 x.f0, .string x.f1]] w (ToPostS (cEntry.cels x) w) := by
  go_enter Try.func63, Try.ntmps63
  go_wp2
  refine bodyPost_ret (v := .agg #[.int .i64 x.f0, .string x.f1]) ?_ rfl ⟨_, rfl, ((Objs.nil _ _ _).val _).val _, (((Below.refl _ _).alloc (Nat.le_refl _) _).alloc (by simp) _).alloc (by simp; omega) _⟩
  simp [results, Try.results63, go_sem]

end Go.Proofs.Ytmkchilhnmkhkab
namespace Go.Proofs.Ytmkchilhnmkhkab
open Go.RowKit Go.Proofs.Ytmkchilhnmkhkab.Parts Go.Proofs.Ytmkchilhnmkhkab.Hexa

set_option maxRecDepth 100000 in
set_option maxHeartbeats 1000000 in
theorem toEntryS_any (v : Value) (L : List EntryR) (w : World) (hs : (celRow cEntry L).Rd w v) (hz : (celRow cEntry L).sz ≤ 1048576) :
    Calls Try.prog 50 #[v] w (ToPost (celRow cEntry L) w) := by
  obtain ⟨i0, hi, hz0, hz1, hz2⟩ := info_parts infoEntryD
  obtain ⟨a, n, c, rfl, hn⟩ := row_form hs
  have HS := Lib.hid hs
  have hz' : n + szL (celsE cEntry L) ≤ 1048576 := by rw [← hn]; exact hz
  have hn1 : n ≤ 1048576 := by omega
  have HZ : Hid (szL (celsE cEntry L) ≤ 1048576) := Lib.hid (by omega)
  have HN := Lib.hid hn
  clear hs hz hz' hn
  go_enter Try.func50, Try.ntmps50
  go_wp2_with (at_make; refine wpList_make_full _ rfl _ _ 52 rfl w.heap.size 57 i0 _ 2 Try.underlying52 hi hz0 hz1 .i64 .i64 _ _ n rfl rfl rfl rfl (by rw [hz2]; omega) (by unfold maxLen; omega) (Nat.le_refl _) ?_; intro w0 hown0 hgrow0)
  have hg0 : Below w.heap.size w w0 := (Below.refl _ _).grown hgrow0 (Nat.le_refl _) (fun k h => by cases h)
  have HO0 : Hid (Part2 cEntry L w0 w.heap.size n 0) := Lib.hid (Part2.start hown0)
  clear hown0 hgrow0
  go_loopw [4] (fun iv wr => ∃ (k : Nat), k ≤ n ∧ iv = .int .i64 k ∧ Hid (Part2 cEntry L wr w.heap.size n k) ∧ Below w.heap.size w wr)
    (fun iv _ => n - (intOf iv).toNat)
  case atStart => exact ⟨0, Nat.zero_le _, rfl, HO0, hg0⟩
  case round =>
    clear HO0 hg0
    obtain ⟨k, hk, rfl, HW, hbel⟩ := hrel
    by_cases hlt : k < n
    · have HX : Hid (szL (cEntry.cels (L.getD k default)) ≤ 1048576) := Lib.hid (Nat.le_trans (szL_at cEntry L k (by rw [HN.out]; exact hlt)) HZ.out)
      obtain ⟨g, off, rfl, hg, d0, d1⟩ := cEntry_at (Cel.Rd.later hbel _ _ HS.out) k hlt
      have HV : Hid (∀ (w1 : World) (hi : Nat) (vs : List Value), Below wr.heap.size wr w1 → Objs w1 wr.heap.size hi (cEntry.cels (L.getD k default)) vs → Part2 cEntry L (w1.setCells w.heap.size (k * 2) vs) w.heap.size n (k + 1)) :=
        Lib.hid (fun w1 hi vs hb ho => HW.out.next HN.out hlt hb ho)
      obtain ⟨x, hx⟩ : ∃ x, L.getD k default = x := ⟨_, rfl⟩
      rw [hx] at d0 d1  HX HV
      clear hx
      go_wp2_with fail
      refine (toEntry_st x _ HX.out).mono ?_
      rintro e w1 ⟨vs, rfl, ho, hb1⟩
      have hbx : Below w.heap.size w w1 := hbel.trans (hb1.mono hbel.size)
      have O1 := Lib.hid (HV.out w1 _ vs hb1 ho)
      obtain rfl := cEntry_form ho.rd
      obtain ⟨xs, G, hrow, _, _, _⟩ := (HW.out.later hb1).ex
      have HW1 := Lib.hid hrow
      clear hrow
      obtain ⟨v0, e0⟩ := ownE_cell HW1.out (j := k * 2) (by show k * 2 < n * 2; omega)
      obtain ⟨v1, e1⟩ := ownE_cell HW1.out (j := k * 2 + 1) (by show k * 2 + 1 < n * 2; omega)
      have z0 := HW1.out.frozenAt (k * 2)
      have z1 := HW1.out.frozenAt (k * 2 + 1)
      have hb2 := Lib.hid (below_sets (Nat.le_refl w.heap.size) [.int .i64 x.f0, .string x.f1] (k * 2) hbx)
      clear d0 d1  hb1 hbx ho HW
      go_wp2
      go_roundw
      case rel => exact ⟨k + 1, by omega, by go_num, O1, hb2.out⟩
      case measure => (simp [intOf]; try omega)
    · obtain rfl : k = n := by omega
      have HO := Lib.hid (HW.out.done HN.out)
      go_wp2
      go_ret
      exact ⟨_, rfl, HO.out, hbel⟩

end Go.Proofs.Ytmkchilhnmkhkab
