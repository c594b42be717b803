/- A slice of bytes that a call owns, carried from append to append, whether or not its block bears the mark of a converted string. -/
import Derived.Test.YtmcelfiljnlmoaaRows
import Derived.Test.YtmcelfiljnlmoaaHexMath
import Derived.Lib.AppendStr
import Derived.Lib.AppendZerosOnto
import Derived.Laws.CopyRow
import Derived.Below
namespace Go.Proofs.Ytmcelfiljnlmoaa.Byt
open Go.RowKit Go.Proofs.Ytmcelfiljnlmoaa.Hexa Go.Lib

/-- Cells stored into a row whose frozen range lies behind its end. -/
theorem run_store (P : Program) (g o : Nat) (t : TypeId) (fz : Nat × Nat) : ∀ (vs : List Value) (i : Nat) (cur : Array Value) (w : World), w.heap[g]? = some (.cells cur t fz) → (fz = (0, 0) ∨ cur.size ≤ fz.1) → o + i + vs.length ≤ cur.size → (∀ v ∈ vs, v.oneCell' = true) →
    (storeCells ⟨g, o, none⟩ vs i).run P w = .ok () (w.setRow g (cur.toList.take (o + i) ++ vs ++ cur.toList.drop (o + i + vs.length)).toArray)
  | [], i, cur, w, hg, _, _, _ => by
    simp only [storeCells, List.append_nil, List.length_nil, Nat.add_zero, List.take_append_drop, Array.toArray_toList]
    rw [setRow_self w g cur t fz hg]
    rfl
  | v :: rest, i, cur, w, hg, hfz, hl, h1 => by
    have hi : o + i < cur.size := by simp at hl; omega
    have hadd : (⟨g, o, none⟩ : Addr).add i = ⟨g, o + i, none⟩ := by unfold Addr.add; split <;> simp_all
    have hcell : w.cell? ⟨g, o + i, none⟩ = some cur[o + i] := by simp [World.cell?, hg, hi]
    have hfro : w.frozen? ⟨g, o + i, none⟩ = false := by
      obtain ⟨lo, hi'⟩ := fz
      simp only [World.frozen?, hg, Bool.and_eq_false_iff, decide_eq_false_iff_not]
      rcases hfz with h | h
      · right; cases h; omega
      · left; simp only at h; omega
    have hst : (store ((⟨g, o, none⟩ : Addr).add i) v).run P w = .ok () (w.setRow g (cur.setIfInBounds (o + i) v)) := by
      rw [hadd, Go.run_store P w _ v _ (h1 v (by simp)), hcell]
      simp [hfro, setCell_eq_setRow w g (o + i) cur t fz v hg]
    have ih := run_store P g o t fz rest (i + 1) (cur.setIfInBounds (o + i) v) (w.setRow g (cur.setIfInBounds (o + i) v)) (setRow_heap w g cur _ t _ hg) (by simpa using hfz) (by simp at hl ⊢; omega) (fun x hx => h1 x (by simp [hx]))
    simp only [storeCells, Sem.run_bind, hst, Result.andThen_ok, ih, setRow_setRow]
    congr 3
    have e := list_seg_step cur.toList (o + i) v rest (by simp at hl ⊢; omega)
    simpa [Array.toList_setIfInBounds, Nat.add_assoc] using e

theorem bcells_length (l : List UInt8) : (bcells l).length = l.length := by simp [bcells]
theorem bcells_append (l m : List UInt8) : bcells (l ++ m) = bcells l ++ bcells m := by simp [bcells]
theorem bcells_one (l : List UInt8) : ∀ u ∈ bcells l, u.oneCell' = true := by
  intro u hu
  simp only [bcells, List.mem_map] at hu
  obtain ⟨b, _, rfl⟩ := hu
  rfl

/-- The value v holds the bytes l, in a row from block B on. -/
def Bytes (w : World) (B : Nat) (e : TypeId) (v : Value) (l : List UInt8) : Prop :=
  (v = .slice none 0 0 ∧ l = []) ∨
  ∃ g cap cur fz, v = .slice (some ⟨g, 0, none⟩) l.length cap ∧ B ≤ g ∧ w.heap[g]? = some (.cells cur e fz) ∧ (fz = (0, 0) ∨ cur.size ≤ fz.1) ∧ l.length ≤ cap ∧ cap ≤ maxLen ∧ cur.size = cap ∧ cur.toList.take l.length = bcells l

theorem bytes_room {w : World} {B : Nat} {e : TypeId} {g cap : Nat} {cur : Array Value} {fz : Nat × Nat} {l : List UInt8} (hb : B ≤ g) (hg : w.heap[g]? = some (.cells cur e fz)) (hfz : fz = (0, 0) ∨ cur.size ≤ fz.1) (hm : cap ≤ maxLen) (hs : cur.size = cap) (ht : cur.toList.take l.length = bcells l)
    (news : List UInt8) (hroom : l.length + news.length ≤ cap) :
    Bytes (w.setRow g (cur.toList.take l.length ++ bcells news ++ cur.toList.drop (l.length + news.length)).toArray) B e (.slice (some ⟨g, 0, none⟩) (l.length + news.length) cap) (l ++ news) := by
  have hsz : (cur.toList.take l.length ++ bcells news ++ cur.toList.drop (l.length + news.length)).toArray.size = cur.size := by
    simp only [List.size_toArray, List.length_append, List.length_take, List.length_drop, Array.length_toList, bcells_length]
    omega
  refine .inr ⟨g, cap, _, fz, by simp, hb, setRow_heap w g cur _ e _ hg, ?_, by simpa using hroom, hm, by rw [hsz, hs], ?_⟩
  · rw [hsz]; exact hfz
  · rw [ht, bcells_append]
    have : (l ++ news).length = (bcells l ++ bcells news).length := by simp [bcells]
    rw [this]
    exact List.take_left

theorem bytes_grown (w : World) {B : Nat} {e : TypeId} (l news : List UInt8) (cap : Nat) (hB : B ≤ w.heap.size) (hc : l.length + news.length ≤ cap) (hm : cap ≤ maxLen) (rest : Array Value) (hr : rest.size = cap - (l.length + news.length)) :
    Bytes (w.drew.alloc (.cells ((bcells l).toArray ++ (bcells news).toArray ++ rest) e)) B e (.slice (some ⟨w.heap.size, 0, none⟩) (l.length + news.length) cap) (l ++ news) := by
  refine .inr ⟨w.heap.size, cap, _, (0, 0), by simp, hB, heap_alloc_new w.drew _, .inl rfl, by simpa using hc, hm, ?_, ?_⟩
  · simp [bcells, hr]; omega
  · have : (l ++ news).length = (bcells l ++ bcells news).length := by simp [bcells]
    rw [this, bcells_append]
    simp only [Array.toList_append, List.append_assoc]
    rw [← List.append_assoc]
    exact List.take_left

theorem bytes_cells {w : World} {g _cap : Nat} {cur : Array Value} {e : TypeId} {fz : Nat × Nat} {l : List UInt8} (hg : w.heap[g]? = some (.cells cur e fz)) (ht : cur.toList.take l.length = bcells l) :
    ∀ j u, (bcells l)[j]? = some u → w.cell? ((⟨g, 0, none⟩ : Addr).add j) = some u := by
  intro j u hu
  have hadd : (⟨g, 0, none⟩ : Addr).add j = ⟨g, j, none⟩ := by unfold Addr.add; split <;> simp_all
  rw [hadd]
  rw [← ht, List.getElem?_take] at hu
  split at hu
  · simp only [World.cell?, hg]; simpa using hu
  · cases hu

theorem zeros_cells (n : Nat) : Builtin.zeroCells (Value.int .u8 0).cells n = (bcells (List.replicate n 0)).toArray := by
  simp only [Builtin.zeroCells, Value.cells, bcells]
  apply Array.ext
  · simp
  · intro i h1 h2
    simp [Nat.mod_one]

section
variable {P : Program} {t e : TypeId} {i : TypeInfo} (ht : P.underlying t = some (.slice e)) (hi : P.info? e = some i) (hz : i.zero = some (.int .u8 0)) (hs1 : i.size = 1) (hb1 : i.bytes = 1)
include ht hi hz hs1 hb1

/-- What an append yields: the bytes, and nothing below B is written. -/
def Out (P : Program) (args : Array TypeId) (ty : TypeId) (vs : Array Value) (w : World) (B : Nat) (e : TypeId) (l : List UInt8) : Prop :=
  ∃ v' w', (Builtin.append_ args ty vs).run P w = .ok v' w' ∧ Bytes w' B e v' l ∧ Below B w w'

omit ht hi hz hs1 hb1 in
theorem below_setRow (w : World) {B g : Nat} (h : B ≤ g) (cs : Array Value) : Below B w (w.setRow g cs) := ⟨rfl, rfl, rfl, by simp, fun k hk => setRow_other _ _ _ _ (by omega)⟩
omit ht hi hz hs1 hb1 in
theorem below_grown (w : World) {B : Nat} (h : B ≤ w.heap.size) (o : Obj) : Below B w (w.drew.alloc o) := ((Below.refl _ _).drew).alloc (by simpa using h) o

theorem append_cells (w : World) {B : Nat} {v : Value} {l : List UInt8} (h : Bytes w B e v l) (hB : B ≤ w.heap.size) (ty : TypeId) (ad : Addr) (c : Nat) (news : List UInt8) (hn : ∀ j u, (bcells news)[j]? = some u → w.cell? (ad.add j) = some u) (hl : l.length + news.length ≤ 1000000000) :
    Out P #[t, t] ty #[v, .slice (some ad) news.length c] w B e (l ++ news) := by
  rcases h with ⟨rfl, rfl⟩ | ⟨g, cap, cur, fz, rfl, hb, hg, hfz, hlc, hm, hcs, htk⟩
  · obtain ⟨v', w', r1, r2, r3, r4⟩ := run_append_own (P := P) w B t ty e i (.int .u8 0) 1 1 ht hi hz hs1 hb1 rfl (by decide) (.slice none 0 0) 0 [] ⟨rfl, .inl ⟨rfl, rfl⟩⟩ ad news.length c (bcells news) (by simp [bcells]) hn (bcells_one _) (by simp at hl; unfold maxLen; omega) (by simp at hl; omega) hB
    refine ⟨v', w', r1, ?_, (Below.refl _ _).grown r3 hB (fun k h => by cases h)⟩
    rcases r2.2 with ⟨rfl, hn0⟩ | ⟨g, cap, cur, rfl, h1, h2, h3, h4, h5, h6⟩
    · left
      refine ⟨rfl, List.eq_nil_of_length_eq_zero (by simpa using hn0)⟩
    · right
      simp at h3 h5 h6
      exact ⟨g, cap, cur, (0, 0), by simp, h1, h2, .inl rfl, by simpa using h3, h4, h5, by simpa using h6⟩
  · by_cases hroom : l.length + news.length ≤ cap
    · have hf := run_firstCells_some (P := P) w 1 news.length ad news.length c (bcells news) (by simp [bcells]) hn
      have hst := run_store P g l.length e fz (bcells news) 0 cur w hg hfz (by simp [bcells]; omega) (bcells_one _)
      simp only [Nat.add_zero, bcells_length] at hst
      refine ⟨_, _, ?_, bytes_room hb hg hfz hm hcs htk news hroom, below_setRow w hb _⟩
      simp [Builtin.append_, run_underlying ht, sizeOf, typeInfo, hi, hs1, Builtin.lenOf, hroom, hf, Addr.add_lit, hst]
    · have hr := run_append_grow (P := P) w t ty e i (.int .u8 0) ht hi hz ⟨g, 0, none⟩ l.length cap (bcells l) (by simp [bcells, hs1]) (bytes_cells (_cap := cap) hg htk) ad news.length c (bcells news) (by simp [bcells, hs1]) hn (by omega) (by omega) (growslice_fits (by omega) (by rw [hb1]; omega))
      have hge := grownCap_ge w (l.length + news.length) cap e
      have hcm := grownCap_le_maxLen w (l.length + news.length) cap e (by unfold maxLen; omega)
      refine ⟨_, _, hr, bytes_grown w l news _ hB hge hcm _ ?_, below_grown w hB _⟩
      simp [Builtin.zeroCells, Value.cells]

theorem append_text {u : TypeId} (hu : P.underlying u = some .string) (w : World) {B : Nat} {v : Value} {l : List UInt8} (h : Bytes w B e v l) (hB : B ≤ w.heap.size) (ty : TypeId) (s : ByteArray) (hl : l.length + s.size ≤ 1000000000) :
    Out P #[t, u] ty #[v, .string s] w B e (l ++ s.data.toList) := by
  have hls : s.data.toList.length = s.size := by simp
  rcases h with ⟨rfl, rfl⟩ | ⟨g, cap, cur, fz, rfl, hb, hg, hfz, hlc, hm, hcs, htk⟩
  · obtain ⟨v', w', r1, r2, r3, r4⟩ := run_append_own_string (P := P) w B t u ty e i ht hu hi hz hs1 hb1 (.slice none 0 0) 0 [] ⟨rfl, .inl ⟨rfl, rfl⟩⟩ s (by simp at hl; unfold maxLen; omega) (by simp at hl; omega) hB
    refine ⟨v', w', r1, ?_, (Below.refl _ _).grown r3 hB (fun k h => by cases h)⟩
    rcases r2.2 with ⟨rfl, hn0⟩ | ⟨g, cap, cur, rfl, h1, h2, h3, h4, h5, h6⟩
    · left
      refine ⟨rfl, List.eq_nil_of_length_eq_zero (by simp at hn0 ⊢; simpa using hn0)⟩
    · right
      simp at h3 h5 h6
      exact ⟨g, cap, cur, (0, 0), by simp, h1, h2, .inl rfl, by simpa using h3, h4, h5, by simpa [bcells, strCells] using h6⟩
  · by_cases hroom : l.length + s.size ≤ cap
    · have hf := run_firstCells_string (P := P) w 1 s
      have hst := run_store P g l.length e fz (strCells s) 0 cur w hg hfz (by simp [strCells_length]; omega) (strCells_oneCell s)
      simp only [Nat.add_zero, strCells_length] at hst
      have hbr := bytes_room hb hg hfz hm hcs htk s.data.toList (by rw [hls]; exact hroom)
      rw [hls] at hbr
      refine ⟨_, _, ?_, hbr, below_setRow w hb _⟩
      simp [Builtin.append_, run_underlying ht, run_underlying hu, sizeOf, typeInfo, hi, hs1, Builtin.lenOf, hroom, hf, Addr.add_lit, hst]
      rfl
    · have hr := run_append_grow_string (P := P) w t u ty e i (.int .u8 0) ht hu hi hz ⟨g, 0, none⟩ l.length cap (bcells l) (by simp [bcells, hs1]) (bytes_cells (_cap := cap) hg htk) s (by omega) (by omega) (growslice_fits (by omega) (by rw [hb1]; omega))
      have hge := grownCap_ge w (l.length + s.size) cap e
      have hcm := grownCap_le_maxLen w (l.length + s.size) cap e (by unfold maxLen; omega)
      have hbg := bytes_grown w (e := e) l s.data.toList _ hB (by rw [hls]; exact hge) hcm (Builtin.zeroCells (Value.int .u8 0).cells (grownCap w (l.length + s.size) cap e - (l.length + s.size))) (by simp [Builtin.zeroCells, Value.cells])
      rw [hls] at hbg
      exact ⟨_, _, hr, hbg, below_grown w hB _⟩

theorem append_zeros {u : TypeId} {kn kq : IntKind} (hu : P.underlying u = some (.int kn)) (w : World) {B : Nat} {v : Value} {l : List UInt8} (h : Bytes w B e v l) (hB : B ≤ w.heap.size) (hv : v ≠ .slice none 0 0) (ty : TypeId) (k : Nat) (hl : l.length + k ≤ 1000000000) :
    Out P #[t, u] ty #[v, .int kq k] w B e (l ++ List.replicate k 0) := by
  have hls : (List.replicate k (0 : UInt8)).length = k := by simp
  rcases h with ⟨rfl, rfl⟩ | ⟨g, cap, cur, fz, rfl, hb, hg, hfz, hlc, hm, hcs, htk⟩
  · exact absurd rfl hv
  · by_cases hroom : l.length + k ≤ cap
    · have hst := run_store P g l.length e fz (bcells (List.replicate k 0)) 0 cur w hg hfz (by simp [bcells]; omega) (bcells_one _)
      simp only [Nat.add_zero, bcells_length, hls] at hst
      have hbr := bytes_room hb hg hfz hm hcs htk (List.replicate k 0) (by rw [hls]; exact hroom)
      rw [hls] at hbr
      refine ⟨_, _, ?_, hbr, below_setRow w hb _⟩
      have hw : IntKind.i64.wrap (k : Int) = k := by rw [IntKind.wrap_i64]; omega
      have hneg : ¬ ((k : Int) < 0) := by omega
      have h48i : ¬ (281474976710656 < (k : Int)) := by omega
      by_cases hk : k = 0
      · subst hk
        simp at hst hroom
        have hw0 : IntKind.i64.wrap 0 = 0 := rfl
        simp [bcells] at hst
        simp [Builtin.append_, run_underlying ht, run_underlying hu, sizeOf, typeInfo, zeroValue, hi, hs1, hb1, hz, asInt, asIntOf, hw0, hroom, Addr.add_lit, hst, bcells]
      · simp [Builtin.append_, run_underlying ht, run_underlying hu, sizeOf, typeInfo, zeroValue, hi, hs1, hb1, hz, asInt, asIntOf, hw, hneg, h48i, hk, hroom, Addr.add_lit, zeros_cells, hst]
    · have hk : 0 < k := by omega
      have hfo := run_firstCells_some (P := P) w.drew i.size l.length ⟨g, 0, none⟩ l.length cap (bcells l) (by simp [bcells, hs1]) (by simpa using bytes_cells (_cap := cap) hg htk)
      have hr := run_append_grow_zeros (P := P) w t u ty e i (.int .u8 0) kq kn ht hu hi hz (some ⟨g, 0, none⟩) l.length cap (bcells l) hfo k hk (by omega) (by omega) (by omega) (by rw [hb1]; omega) (growslice_fits (by omega) (by rw [hb1]; omega))
      have hge := grownCap_ge w (l.length + k) cap e
      have hcm := grownCap_le_maxLen w (l.length + k) cap e (by unfold maxLen; omega)
      have hbg := bytes_grown w (e := e) l (List.replicate k 0) _ hB (by rw [hls]; exact hge) hcm (Builtin.zeroCells (Value.int .u8 0).cells (grownCap w (l.length + k) cap e - (l.length + k))) (by simp [Builtin.zeroCells, Value.cells])
      rw [hls] at hbg
      rw [zeros_cells k] at hr
      exact ⟨_, _, hr, hbg, below_grown w hB _⟩
end

theorem bytes_alloc {w : World} {B : Nat} {e : TypeId} {v : Value} {l : List UInt8} (h : Bytes w B e v l) (o : Obj) : Bytes (w.alloc o) B e v l := by
  rcases h with h | ⟨g, cap, cur, fz, rfl, hb, hg, r⟩
  · exact .inl h
  · refine .inr ⟨g, cap, cur, fz, rfl, hb, ?_, r⟩
    rw [Below.heap_alloc _ _ _ (Array.getElem?_eq_some_iff.1 hg).1]; exact hg

/-- The slice that '[]byte(s)' makes. -/
theorem bytes_conv (w : World) (e : TypeId) (s : ByteArray) (B : Nat) (hB : B ≤ w.heap.size) (hs : s.size ≤ 1000000000) :
    Bytes (w.drew.alloc (.cells (bytesRow s (grownCap w s.size 0 e)) e ((bytesRow s (grownCap w s.size 0 e)).size, (bytesRow s (grownCap w s.size 0 e)).size + 1))) B e (.slice (some ⟨w.heap.size, 0, none⟩) s.size (grownCap w s.size 0 e)) s.data.toList := by
  have hge := grownCap_ge w s.size 0 e
  have hcm := grownCap_le_maxLen w s.size 0 e (by unfold maxLen; omega)
  have hds : s.data.size = s.size := rfl
  refine .inr ⟨w.heap.size, _, _, _, by simp, hB, heap_alloc_new w.drew _, .inr (Nat.le_refl _), by simpa using hge, hcm, ?_, ?_⟩
  · simp [bytesRow]; omega
  · simp only [bytesRow, Array.toList_append]
    have : s.data.toList.length = (s.data.map (fun b => Value.int .u8 b.toNat)).toList.length := by simp
    rw [this, List.take_left]
    simp [bcells]

/-- 'string(b)'. -/
theorem bytes_string {P : Program} {w : World} {B e : Nat} {v : Value} {l : List UInt8} (src dst : TypeId)
    (hs : P.underlying src = some (.slice e)) (he : P.underlying e = some (.int .u8)) (hd : P.underlying dst = some .string)
    (h : Bytes w B e v l) : (convert src dst v).run P w = .ok (.string ⟨l.toArray⟩) w := by
  rcases h with ⟨rfl, rfl⟩ | ⟨g, cap, cur, fz, rfl, _, hg, _, _, _, _, htk⟩
  · exact run_convert_bytes_nil w src e hs he 0 0 dst hd
  · refine run_convert_bytes_back w src dst e _ cap l hs he hd fun j hj => ?_
    exact bytes_cells (_cap := cap) hg htk j _ (by simp [bcells, hj])

theorem bytes_of_own {w : World} {B e : Nat} {v : Value} {l : List UInt8} (h : w.ownsRow B e 1 v l.length (bcells l)) : Bytes w B e v l := by
  rcases h.2 with ⟨rfl, hn0⟩ | ⟨g, cap, cur, rfl, h1, h2, h3, h4, h5, h6⟩
  · exact .inl ⟨rfl, List.eq_nil_of_length_eq_zero hn0⟩
  · simp at h5 h6
    exact .inr ⟨g, cap, cur, (0, 0), rfl, h1, h2, .inl rfl, h3, h4, h5, h6⟩

theorem bytes_len {w : World} {B e : Nat} {v : Value} {l : List UInt8} (h : Bytes w B e v l) : ∃ a c, v = .slice a l.length c := by
  rcases h with ⟨rfl, rfl⟩ | ⟨g, cap, cur, fz, rfl, _⟩
  · exact ⟨none, 0, rfl⟩
  · exact ⟨_, _, rfl⟩

/-- The operation, for the walk. -/
theorem wpList_append_out {P : Program} {ops : Array Oper} {rest : List Oper} {o : Oper} {a : Act} {w : World} {Q : Exit → Act → World → Prop} (hgd : o.guard = none) (s x : Operand) (t tn : TypeId)
    (ho : o.op = .call { callee := .builtin .append, args := #[s, x], argTypes := #[t, tn] }) (vs vx : Value) (hs : a.eval s = vs) (hx : a.eval x = vx) {B : Nat} {e : TypeId} {l : List UInt8}
    (hr : Out P #[t, tn] o.type #[vs, vx] w B e l) (h : ∀ v' w', Bytes w' B e v' l → Below B w w' → wpList P ops Q rest (a.put o.dst v') w') : wpList P ops Q (o :: rest) a w := by
  obtain ⟨v', w', r, h1, h2⟩ := hr
  exact Lib.wpList_append_run w hgd s x t tn ho vs vx hs hx v' w' r (h v' w' h1 h2)
end Go.Proofs.Ytmcelfiljnlmoaa.Byt
