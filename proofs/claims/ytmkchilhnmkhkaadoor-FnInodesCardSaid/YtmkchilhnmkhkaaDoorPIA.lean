/- Merged texts: HexMath, Bytes, BitsMath, LongMath, PartsMath, NumMath, NumBack, Elem. -/
import Derived.Laws.BytesArg
import Derived.Laws.IdiomStrings
import Derived.OwnWalk
import Derived.Test.YtmkchilhnmkhkaaDoorRows
import Derived.Lib.AppendStr
import Derived.Lib.AppendZerosOnto
import Derived.Laws.CopyRow
import Derived.Below
import Derived.Laws.Bits64b
import Derived.IntWalk
import Derived.WalkKit
import Derived.WalkSpells
import Derived.WalkLawsBesides
import Derived.Deep.RegionLaw
import Derived.Deep.AppendLies
import Derived.Lib.Hide
import Derived.Laws.Strings
import Derived.Deep.QuietTactic
import Derived.BigQuiet
import Derived.Lib.Overlaps
import Derived.OneCell
import Derived.Deep.RegionHeld3
namespace Go.Proofs.YtmkchilhnmkhkaaDoor.Hexa


/-- The digit of a number below 16. -/
def nib (n : Nat) : UInt8 := if n < 10 then UInt8.ofNat (48 + n) else UInt8.ofNat (87 + n)
def hexB (c : UInt8) : List UInt8 := [nib (c.toNat / 16), nib (c.toNat % 16)]
def hexL (l : List UInt8) : List UInt8 := l.flatMap hexB

theorem nib_toNat (n : Nat) (h : n < 16) : (nib n).toNat = if n < 10 then 48 + n else 87 + n := by
  unfold nib; split <;> simp <;> omega

theorem hexL_length (l : List UInt8) : (hexL l).length = 2 * l.length := by
  induction l with
  | nil => rfl
  | cons c l ih => simp [hexL, hexB] at *; omega

theorem hexL_snoc (l : List UInt8) (c : UInt8) : hexL (l ++ [c]) = hexL l ++ hexB c := by simp [hexL]

theorem take_snoc (s : ByteArray) (k : Nat) (h : k < s.size) : s.data.toList.take (k + 1) = s.data.toList.take k ++ [s[k]] := by
  rw [List.take_succ_eq_append_getElem (by simpa using h)]; rfl

theorem hexL_take (s : ByteArray) (k : Nat) (h : k < s.size) : hexL (s.data.toList.take (k + 1)) = hexL (s.data.toList.take k) ++ hexB s[k] := by
  rw [take_snoc s k h, hexL_snoc]

theorem hexL_take_length (s : ByteArray) (k : Nat) (h : k ≤ s.size) : (hexL (s.data.toList.take k)).length = 2 * k := by
  have hs : k ≤ s.data.size := h
  rw [hexL_length]; simp; omega

/-- The cells of a row of bytes. -/
def bcells (l : List UInt8) : List Value := l.map fun b => Value.int .u8 b.toNat

/-- 'string(b)' of a slice that the call owns. -/
theorem own_string {P : Program} {w : World} {base e : Nat} {v : Value} {n : Nat} {l : List UInt8} (src dst : TypeId)
    (hs : P.underlying src = some (.slice e)) (he : P.underlying e = some (.int .u8)) (hd : P.underlying dst = some .string)
    (h : w.ownsRow base e 1 v n (bcells l)) : (convert src dst v).run P w = .ok (.string ⟨l.toArray⟩) w := by
  have hl := h.1
  simp [bcells] at hl
  rcases h.2 with ⟨rfl, rfl⟩ | ⟨g, cap, cur, rfl, _, hg, _, _, hcs, htk⟩
  · have : l = [] := by cases l <;> simp_all
    subst this
    exact run_convert_bytes_nil w src e hs he 0 0 dst hd
  · subst hl
    refine run_convert_bytes_back w src dst e _ cap l hs he hd fun j hj => ?_
    have := h.cellAt j (by omega)
    have e : (⟨g, 0, none⟩ : Addr).add j = ⟨g, j, none⟩ := by unfold Addr.add; split <;> simp_all
    rw [e]
    simpa [bcells, hj] using this

theorem own_block_ge {w : World} {base e size : Nat} {v : Value} {n : Nat} {xs : List Value} (h : w.ownsRow base e size v n xs) : ∀ k, v.ownBlock = some k → base ≤ k := by
  intro k hk
  rcases h.2 with ⟨rfl, _⟩ | ⟨g, cap, cur, rfl, hg, _⟩
  · simp [Value.ownBlock] at hk
  · simp [Value.ownBlock] at hk; omega

def figI (x : Int) : Int := (nib x.toNat).toNat

theorem digit_nat : ∀ (n : Fin 16), (((ByteArray.mk #[48, 49, 50, 51, 52, 53, 54, 55, 56, 57, 97, 98, 99, 100, 101, 102])[n.val]'(by show n.val < 16; exact n.isLt)).toNat) = (nib n.val).toNat := by decide

theorem and15_all : ∀ n : Fin 256, bits .and .u8 ((n.val : Nat) : Int) 15 = ((n.val % 16 : Nat) : Int) := by decide +kernel

theorem and15 (b : UInt8) : bits .and .u8 (b.toNat : Int) 15 = (b.toNat : Int) % 16 := by
  have := and15_all ⟨b.toNat, b.toNat_lt⟩
  rw [this]; simp

/-- The digit that the table of the program holds. -/
theorem digit_at (x : Int) (h0 : 0 ≤ x) (h1 : x < 16) (h : x.toNat < (ByteArray.mk #[48, 49, 50, 51, 52, 53, 54, 55, 56, 57, 97, 98, 99, 100, 101, 102]).size) :
    ((((ByteArray.mk #[48, 49, 50, 51, 52, 53, 54, 55, 56, 57, 97, 98, 99, 100, 101, 102])[x.toNat]'h).toNat : Nat) : Int) = figI x := by
  have := digit_nat ⟨x.toNat, by omega⟩
  unfold figI
  rw [← this]

/-- What one round of Hex appends. -/
theorem hex_round (s : ByteArray) (k : Nat) (h : k < s.size) :
    bcells (hexL (s.data.toList.take k)) ++ [.int .u8 (figI (s[k].toNat / 16)), .int .u8 (figI (s[k].toNat % 16))] = bcells (hexL (s.data.toList.take (k + 1))) := by
  have e1 : ((s[k].toNat : Int) / 16).toNat = s[k].toNat / 16 := by omega
  have e2 : ((s[k].toNat : Int) % 16).toNat = s[k].toNat % 16 := by omega
  rw [hexL_take s k h]
  simp [bcells, hexB, figI, e1, e2]

theorem own_length {w : World} {base e : Nat} {v : Value} {n : Nat} {xs : List Value} (h : w.ownsRow base e 1 v n xs) : xs.length = n := by simpa using h.1
end Go.Proofs.YtmkchilhnmkhkaaDoor.Hexa
namespace Go.Proofs.YtmkchilhnmkhkaaDoor.Byt
open Go.RowKit Go.Proofs.YtmkchilhnmkhkaaDoor.Hexa Go.Lib

/-- Cells stored into a row whose frozen range lies behind its end. -/
theorem run_store (P : Program) (g o : Nat) (t : TypeId) (fz : Nat × Nat) : ∀ (vs : List Value) (i : Nat) (cur : Array Value) (w : World), w.heap[g]? = some (.cells cur t fz) → (fz = (0, 0) ∨ cur.size ≤ fz.1) → o + i + vs.length ≤ cur.size → (∀ v ∈ vs, v.oneCell' = true) →
    (storeCells ⟨g, o, none⟩ vs i).run P w = .ok () (w.setRow g (cur.toList.take (o + i) ++ vs ++ cur.toList.drop (o + i + vs.length)).toArray)
  | [], i, cur, w, hg, _, _, _ => by
    simp only [storeCells, List.append_nil, List.length_nil, Nat.add_zero, List.take_append_drop, Array.toArray_toList]
    rw [setRow_self w g cur t fz hg]
    rfl
  | v :: rest, i, cur, w, hg, hfz, hl, h1 => by
    have hi : o + i < cur.size := by simp at hl; omega
    have hadd : (⟨g, o, none⟩ : Addr).add i = ⟨g, o + i, none⟩ := by unfold Addr.add; split <;> simp_all
    have hcell : w.cell? ⟨g, o + i, none⟩ = some cur[o + i] := by simp [World.cell?, hg, hi]
    have hfro : w.frozen? ⟨g, o + i, none⟩ = false := by
      obtain ⟨lo, hi'⟩ := fz
      simp only [World.frozen?, hg, Bool.and_eq_false_iff, decide_eq_false_iff_not]
      rcases hfz with h | h
      · right; cases h; omega
      · left; simp only at h; omega
    have hst : (store ((⟨g, o, none⟩ : Addr).add i) v).run P w = .ok () (w.setRow g (cur.setIfInBounds (o + i) v)) := by
      rw [hadd, Go.run_store P w _ v _ (h1 v (by simp)), hcell]
      simp [hfro, setCell_eq_setRow w g (o + i) cur t fz v hg]
    have ih := run_store P g o t fz rest (i + 1) (cur.setIfInBounds (o + i) v) (w.setRow g (cur.setIfInBounds (o + i) v)) (setRow_heap w g cur _ t _ hg) (by simpa using hfz) (by simp at hl ⊢; omega) (fun x hx => h1 x (by simp [hx]))
    simp only [storeCells, Sem.run_bind, hst, Result.andThen_ok, ih, setRow_setRow]
    congr 3
    have e := list_seg_step cur.toList (o + i) v rest (by simp at hl ⊢; omega)
    simpa [Array.toList_setIfInBounds, Nat.add_assoc] using e

theorem bcells_length (l : List UInt8) : (bcells l).length = l.length := by simp [bcells]
theorem bcells_append (l m : List UInt8) : bcells (l ++ m) = bcells l ++ bcells m := by simp [bcells]
theorem bcells_one (l : List UInt8) : ∀ u ∈ bcells l, u.oneCell' = true := by
  intro u hu
  simp only [bcells, List.mem_map] at hu
  obtain ⟨b, _, rfl⟩ := hu
  rfl

/-- The value v holds the bytes l, in a row from block B on. -/
def Bytes (w : World) (B : Nat) (e : TypeId) (v : Value) (l : List UInt8) : Prop :=
  (v = .slice none 0 0 ∧ l = []) ∨
  ∃ g cap cur fz, v = .slice (some ⟨g, 0, none⟩) l.length cap ∧ B ≤ g ∧ w.heap[g]? = some (.cells cur e fz) ∧ (fz = (0, 0) ∨ cur.size ≤ fz.1) ∧ l.length ≤ cap ∧ cap ≤ maxLen ∧ cur.size = cap ∧ cur.toList.take l.length = bcells l

theorem bytes_room {w : World} {B : Nat} {e : TypeId} {g cap : Nat} {cur : Array Value} {fz : Nat × Nat} {l : List UInt8} (hb : B ≤ g) (hg : w.heap[g]? = some (.cells cur e fz)) (hfz : fz = (0, 0) ∨ cur.size ≤ fz.1) (hm : cap ≤ maxLen) (hs : cur.size = cap) (ht : cur.toList.take l.length = bcells l)
    (news : List UInt8) (hroom : l.length + news.length ≤ cap) :
    Bytes (w.setRow g (cur.toList.take l.length ++ bcells news ++ cur.toList.drop (l.length + news.length)).toArray) B e (.slice (some ⟨g, 0, none⟩) (l.length + news.length) cap) (l ++ news) := by
  have hsz : (cur.toList.take l.length ++ bcells news ++ cur.toList.drop (l.length + news.length)).toArray.size = cur.size := by
    simp only [List.size_toArray, List.length_append, List.length_take, List.length_drop, Array.length_toList, bcells_length]
    omega
  refine .inr ⟨g, cap, _, fz, by simp, hb, setRow_heap w g cur _ e _ hg, ?_, by simpa using hroom, hm, by rw [hsz, hs], ?_⟩
  · rw [hsz]; exact hfz
  · rw [ht, bcells_append]
    have : (l ++ news).length = (bcells l ++ bcells news).length := by simp [bcells]
    rw [this]
    exact List.take_left

theorem bytes_grown (w : World) {B : Nat} {e : TypeId} (l news : List UInt8) (cap : Nat) (hB : B ≤ w.heap.size) (hc : l.length + news.length ≤ cap) (hm : cap ≤ maxLen) (rest : Array Value) (hr : rest.size = cap - (l.length + news.length)) :
    Bytes (w.drew.alloc (.cells ((bcells l).toArray ++ (bcells news).toArray ++ rest) e)) B e (.slice (some ⟨w.heap.size, 0, none⟩) (l.length + news.length) cap) (l ++ news) := by
  refine .inr ⟨w.heap.size, cap, _, (0, 0), by simp, hB, heap_alloc_new w.drew _, .inl rfl, by simpa using hc, hm, ?_, ?_⟩
  · simp [bcells, hr]; omega
  · have : (l ++ news).length = (bcells l ++ bcells news).length := by simp [bcells]
    rw [this, bcells_append]
    simp only [Array.toList_append, List.append_assoc]
    rw [← List.append_assoc]
    exact List.take_left

theorem bytes_cells {w : World} {g _cap : Nat} {cur : Array Value} {e : TypeId} {fz : Nat × Nat} {l : List UInt8} (hg : w.heap[g]? = some (.cells cur e fz)) (ht : cur.toList.take l.length = bcells l) :
    ∀ j u, (bcells l)[j]? = some u → w.cell? ((⟨g, 0, none⟩ : Addr).add j) = some u := by
  intro j u hu
  have hadd : (⟨g, 0, none⟩ : Addr).add j = ⟨g, j, none⟩ := by unfold Addr.add; split <;> simp_all
  rw [hadd]
  rw [← ht, List.getElem?_take] at hu
  split at hu
  · simp only [World.cell?, hg]; simpa using hu
  · cases hu

theorem zeros_cells (n : Nat) : Builtin.zeroCells (Value.int .u8 0).cells n = (bcells (List.replicate n 0)).toArray := by
  simp only [Builtin.zeroCells, Value.cells, bcells]
  apply Array.ext
  · simp
  · intro i h1 h2
    simp [Nat.mod_one]

section
variable {P : Program} {t e : TypeId} {i : TypeInfo} (ht : P.underlying t = some (.slice e)) (hi : P.info? e = some i) (hz : i.zero = some (.int .u8 0)) (hs1 : i.size = 1) (hb1 : i.bytes = 1)
include ht hi hz hs1 hb1

/-- What an append yields: the bytes, and nothing below B is written. -/
def Out (P : Program) (args : Array TypeId) (ty : TypeId) (vs : Array Value) (w : World) (B : Nat) (e : TypeId) (l : List UInt8) : Prop :=
  ∃ v' w', (Builtin.append_ args ty vs).run P w = .ok v' w' ∧ Bytes w' B e v' l ∧ Below B w w'

omit ht hi hz hs1 hb1 in
theorem below_setRow (w : World) {B g : Nat} (h : B ≤ g) (cs : Array Value) : Below B w (w.setRow g cs) := ⟨rfl, rfl, rfl, by simp, fun k hk => setRow_other _ _ _ _ (by omega)⟩
omit ht hi hz hs1 hb1 in
theorem below_grown (w : World) {B : Nat} (h : B ≤ w.heap.size) (o : Obj) : Below B w (w.drew.alloc o) := ((Below.refl _ _).drew).alloc (by simpa using h) o

theorem append_cells (w : World) {B : Nat} {v : Value} {l : List UInt8} (h : Bytes w B e v l) (hB : B ≤ w.heap.size) (ty : TypeId) (ad : Addr) (c : Nat) (news : List UInt8) (hn : ∀ j u, (bcells news)[j]? = some u → w.cell? (ad.add j) = some u) (hl : l.length + news.length ≤ 1000000000) :
    Out P #[t, t] ty #[v, .slice (some ad) news.length c] w B e (l ++ news) := by
  rcases h with ⟨rfl, rfl⟩ | ⟨g, cap, cur, fz, rfl, hb, hg, hfz, hlc, hm, hcs, htk⟩
  · obtain ⟨v', w', r1, r2, r3, r4⟩ := run_append_own (P := P) w B t ty e i (.int .u8 0) 1 1 ht hi hz hs1 hb1 rfl (by decide) (.slice none 0 0) 0 [] ⟨rfl, .inl ⟨rfl, rfl⟩⟩ ad news.length c (bcells news) (by simp [bcells]) hn (bcells_one _) (by simp at hl; unfold maxLen; omega) (by simp at hl; omega) hB
    refine ⟨v', w', r1, ?_, (Below.refl _ _).grown r3 hB (fun k h => by cases h)⟩
    rcases r2.2 with ⟨rfl, hn0⟩ | ⟨g, cap, cur, rfl, h1, h2, h3, h4, h5, h6⟩
    · left
      refine ⟨rfl, List.eq_nil_of_length_eq_zero (by simpa using hn0)⟩
    · right
      simp at h3 h5 h6
      exact ⟨g, cap, cur, (0, 0), by simp, h1, h2, .inl rfl, by simpa using h3, h4, h5, by simpa using h6⟩
  · by_cases hroom : l.length + news.length ≤ cap
    · have hf := run_firstCells_some (P := P) w 1 news.length ad news.length c (bcells news) (by simp [bcells]) hn
      have hst := run_store P g l.length e fz (bcells news) 0 cur w hg hfz (by simp [bcells]; omega) (bcells_one _)
      simp only [Nat.add_zero, bcells_length] at hst
      refine ⟨_, _, ?_, bytes_room hb hg hfz hm hcs htk news hroom, below_setRow w hb _⟩
      simp [Builtin.append_, run_underlying ht, sizeOf, typeInfo, hi, hs1, Builtin.lenOf, hroom, hf, Addr.add_lit, hst]
    · have hr := run_append_grow (P := P) w t ty e i (.int .u8 0) ht hi hz ⟨g, 0, none⟩ l.length cap (bcells l) (by simp [bcells, hs1]) (bytes_cells (_cap := cap) hg htk) ad news.length c (bcells news) (by simp [bcells, hs1]) hn (by omega) (by omega) (growslice_fits (by omega) (by rw [hb1]; omega))
      have hge := grownCap_ge w (l.length + news.length) cap e
      have hcm := grownCap_le_maxLen w (l.length + news.length) cap e (by unfold maxLen; omega)
      refine ⟨_, _, hr, bytes_grown w l news _ hB hge hcm _ ?_, below_grown w hB _⟩
      simp [Builtin.zeroCells, Value.cells]

theorem append_text {u : TypeId} (hu : P.underlying u = some .string) (w : World) {B : Nat} {v : Value} {l : List UInt8} (h : Bytes w B e v l) (hB : B ≤ w.heap.size) (ty : TypeId) (s : ByteArray) (hl : l.length + s.size ≤ 1000000000) :
    Out P #[t, u] ty #[v, .string s] w B e (l ++ s.data.toList) := by
  have hls : s.data.toList.length = s.size := by simp
  rcases h with ⟨rfl, rfl⟩ | ⟨g, cap, cur, fz, rfl, hb, hg, hfz, hlc, hm, hcs, htk⟩
  · obtain ⟨v', w', r1, r2, r3, r4⟩ := run_append_own_string (P := P) w B t u ty e i ht hu hi hz hs1 hb1 (.slice none 0 0) 0 [] ⟨rfl, .inl ⟨rfl, rfl⟩⟩ s (by simp at hl; unfold maxLen; omega) (by simp at hl; omega) hB
    refine ⟨v', w', r1, ?_, (Below.refl _ _).grown r3 hB (fun k h => by cases h)⟩
    rcases r2.2 with ⟨rfl, hn0⟩ | ⟨g, cap, cur, rfl, h1, h2, h3, h4, h5, h6⟩
    · left
      refine ⟨rfl, List.eq_nil_of_length_eq_zero (by simp at hn0 ⊢; simpa using hn0)⟩
    · right
      simp at h3 h5 h6
      exact ⟨g, cap, cur, (0, 0), by simp, h1, h2, .inl rfl, by simpa using h3, h4, h5, by simpa [bcells, strCells] using h6⟩
  · by_cases hroom : l.length + s.size ≤ cap
    · have hf := run_firstCells_string (P := P) w 1 s
      have hst := run_store P g l.length e fz (strCells s) 0 cur w hg hfz (by simp [strCells_length]; omega) (strCells_oneCell s)
      simp only [Nat.add_zero, strCells_length] at hst
      have hbr := bytes_room hb hg hfz hm hcs htk s.data.toList (by rw [hls]; exact hroom)
      rw [hls] at hbr
      refine ⟨_, _, ?_, hbr, below_setRow w hb _⟩
      simp [Builtin.append_, run_underlying ht, run_underlying hu, sizeOf, typeInfo, hi, hs1, Builtin.lenOf, hroom, hf, Addr.add_lit, hst]
      rfl
    · have hr := run_append_grow_string (P := P) w t u ty e i (.int .u8 0) ht hu hi hz ⟨g, 0, none⟩ l.length cap (bcells l) (by simp [bcells, hs1]) (bytes_cells (_cap := cap) hg htk) s (by omega) (by omega) (growslice_fits (by omega) (by rw [hb1]; omega))
      have hge := grownCap_ge w (l.length + s.size) cap e
      have hcm := grownCap_le_maxLen w (l.length + s.size) cap e (by unfold maxLen; omega)
      have hbg := bytes_grown w (e := e) l s.data.toList _ hB (by rw [hls]; exact hge) hcm (Builtin.zeroCells (Value.int .u8 0).cells (grownCap w (l.length + s.size) cap e - (l.length + s.size))) (by simp [Builtin.zeroCells, Value.cells])
      rw [hls] at hbg
      exact ⟨_, _, hr, hbg, below_grown w hB _⟩

theorem append_zeros {u : TypeId} {kn kq : IntKind} (hu : P.underlying u = some (.int kn)) (w : World) {B : Nat} {v : Value} {l : List UInt8} (h : Bytes w B e v l) (hB : B ≤ w.heap.size) (hv : v ≠ .slice none 0 0) (ty : TypeId) (k : Nat) (hl : l.length + k ≤ 1000000000) :
    Out P #[t, u] ty #[v, .int kq k] w B e (l ++ List.replicate k 0) := by
  have hls : (List.replicate k (0 : UInt8)).length = k := by simp
  rcases h with ⟨rfl, rfl⟩ | ⟨g, cap, cur, fz, rfl, hb, hg, hfz, hlc, hm, hcs, htk⟩
  · exact absurd rfl hv
  · by_cases hroom : l.length + k ≤ cap
    · have hst := run_store P g l.length e fz (bcells (List.replicate k 0)) 0 cur w hg hfz (by simp [bcells]; omega) (bcells_one _)
      simp only [Nat.add_zero, bcells_length, hls] at hst
      have hbr := bytes_room hb hg hfz hm hcs htk (List.replicate k 0) (by rw [hls]; exact hroom)
      rw [hls] at hbr
      refine ⟨_, _, ?_, hbr, below_setRow w hb _⟩
      have hw : IntKind.i64.wrap (k : Int) = k := by rw [IntKind.wrap_i64]; omega
      have hneg : ¬ ((k : Int) < 0) := by omega
      have h48i : ¬ (281474976710656 < (k : Int)) := by omega
      by_cases hk : k = 0
      · subst hk
        simp at hst hroom
        have hw0 : IntKind.i64.wrap 0 = 0 := rfl
        simp [bcells] at hst
        simp [Builtin.append_, run_underlying ht, run_underlying hu, sizeOf, typeInfo, zeroValue, hi, hs1, hb1, hz, asInt, asIntOf, hw0, hroom, Addr.add_lit, hst, bcells]
      · simp [Builtin.append_, run_underlying ht, run_underlying hu, sizeOf, typeInfo, zeroValue, hi, hs1, hb1, hz, asInt, asIntOf, hw, hneg, h48i, hk, hroom, Addr.add_lit, zeros_cells, hst]
    · have hk : 0 < k := by omega
      have hfo := run_firstCells_some (P := P) w.drew i.size l.length ⟨g, 0, none⟩ l.length cap (bcells l) (by simp [bcells, hs1]) (by simpa using bytes_cells (_cap := cap) hg htk)
      have hr := run_append_grow_zeros (P := P) w t u ty e i (.int .u8 0) kq kn ht hu hi hz (some ⟨g, 0, none⟩) l.length cap (bcells l) hfo k hk (by omega) (by omega) (by omega) (by rw [hb1]; omega) (growslice_fits (by omega) (by rw [hb1]; omega))
      have hge := grownCap_ge w (l.length + k) cap e
      have hcm := grownCap_le_maxLen w (l.length + k) cap e (by unfold maxLen; omega)
      have hbg := bytes_grown w (e := e) l (List.replicate k 0) _ hB (by rw [hls]; exact hge) hcm (Builtin.zeroCells (Value.int .u8 0).cells (grownCap w (l.length + k) cap e - (l.length + k))) (by simp [Builtin.zeroCells, Value.cells])
      rw [hls] at hbg
      rw [zeros_cells k] at hr
      exact ⟨_, _, hr, hbg, below_grown w hB _⟩
end

theorem bytes_alloc {w : World} {B : Nat} {e : TypeId} {v : Value} {l : List UInt8} (h : Bytes w B e v l) (o : Obj) : Bytes (w.alloc o) B e v l := by
  rcases h with h | ⟨g, cap, cur, fz, rfl, hb, hg, r⟩
  · exact .inl h
  · refine .inr ⟨g, cap, cur, fz, rfl, hb, ?_, r⟩
    rw [Below.heap_alloc _ _ _ (Array.getElem?_eq_some_iff.1 hg).1]; exact hg

/-- The slice that '[]byte(s)' makes. -/
theorem bytes_conv (w : World) (e : TypeId) (s : ByteArray) (B : Nat) (hB : B ≤ w.heap.size) (hs : s.size ≤ 1000000000) :
    Bytes (w.drew.alloc (.cells (bytesRow s (grownCap w s.size 0 e)) e ((bytesRow s (grownCap w s.size 0 e)).size, (bytesRow s (grownCap w s.size 0 e)).size + 1))) B e (.slice (some ⟨w.heap.size, 0, none⟩) s.size (grownCap w s.size 0 e)) s.data.toList := by
  have hge := grownCap_ge w s.size 0 e
  have hcm := grownCap_le_maxLen w s.size 0 e (by unfold maxLen; omega)
  have hds : s.data.size = s.size := rfl
  refine .inr ⟨w.heap.size, _, _, _, by simp, hB, heap_alloc_new w.drew _, .inr (Nat.le_refl _), by simpa using hge, hcm, ?_, ?_⟩
  · simp [bytesRow]; omega
  · simp only [bytesRow, Array.toList_append]
    have : s.data.toList.length = (s.data.map (fun b => Value.int .u8 b.toNat)).toList.length := by simp
    rw [this, List.take_left]
    simp [bcells]

/-- 'string(b)'. -/
theorem bytes_string {P : Program} {w : World} {B e : Nat} {v : Value} {l : List UInt8} (src dst : TypeId)
    (hs : P.underlying src = some (.slice e)) (he : P.underlying e = some (.int .u8)) (hd : P.underlying dst = some .string)
    (h : Bytes w B e v l) : (convert src dst v).run P w = .ok (.string ⟨l.toArray⟩) w := by
  rcases h with ⟨rfl, rfl⟩ | ⟨g, cap, cur, fz, rfl, _, hg, _, _, _, _, htk⟩
  · exact run_convert_bytes_nil w src e hs he 0 0 dst hd
  · refine run_convert_bytes_back w src dst e _ cap l hs he hd fun j hj => ?_
    exact bytes_cells (_cap := cap) hg htk j _ (by simp [bcells, hj])

theorem bytes_of_own {w : World} {B e : Nat} {v : Value} {l : List UInt8} (h : w.ownsRow B e 1 v l.length (bcells l)) : Bytes w B e v l := by
  rcases h.2 with ⟨rfl, hn0⟩ | ⟨g, cap, cur, rfl, h1, h2, h3, h4, h5, h6⟩
  · exact .inl ⟨rfl, List.eq_nil_of_length_eq_zero hn0⟩
  · simp at h5 h6
    exact .inr ⟨g, cap, cur, (0, 0), rfl, h1, h2, .inl rfl, h3, h4, h5, h6⟩

theorem bytes_len {w : World} {B e : Nat} {v : Value} {l : List UInt8} (h : Bytes w B e v l) : ∃ a c, v = .slice a l.length c := by
  rcases h with ⟨rfl, rfl⟩ | ⟨g, cap, cur, fz, rfl, _⟩
  · exact ⟨none, 0, rfl⟩
  · exact ⟨_, _, rfl⟩

/-- The operation, for the walk. -/
theorem wpList_append_out {P : Program} {ops : Array Oper} {rest : List Oper} {o : Oper} {a : Act} {w : World} {Q : Exit → Act → World → Prop} (hgd : o.guard = none) (s x : Operand) (t tn : TypeId)
    (ho : o.op = .call { callee := .builtin .append, args := #[s, x], argTypes := #[t, tn] }) (vs vx : Value) (hs : a.eval s = vs) (hx : a.eval x = vx) {B : Nat} {e : TypeId} {l : List UInt8}
    (hr : Out P #[t, tn] o.type #[vs, vx] w B e l) (h : ∀ v' w', Bytes w' B e v' l → Below B w w' → wpList P ops Q rest (a.put o.dst v') w') : wpList P ops Q (o :: rest) a w := by
  obtain ⟨v', w', r, h1, h2⟩ := hr
  exact Lib.wpList_append_run w hgd s x t tn ho vs vx hs hx v' w' r (h v' w' h1 h2)
end Go.Proofs.YtmkchilhnmkhkaaDoor.Byt
namespace Go.Proofs.YtmkchilhnmkhkaaDoor.BitsM
open Go.RowKit

theorem bv8 (a : UInt8) : BitVec.ofInt 8 (a.toNat : Int) = a.toBitVec := by
  apply BitVec.eq_of_toNat_eq
  have := a.toNat_lt
  rw [BitVec.ofInt_natCast, BitVec.toNat_ofNat]
  exact Nat.mod_eq_of_lt (by simpa using this)
theorem wrap8 (b : BitVec 8) : IntKind.u8.wrap (b.toNat : Int) = ((⟨b⟩ : UInt8).toNat : Int) := by
  have := b.isLt
  rw [IntKind.wrap_u8]
  show (b.toNat : Int) % 256 = (b.toNat : Int)
  omega
theorem xor8 (a b : UInt8) : bits .xor .u8 (a.toNat : Int) (b.toNat : Int) = ((a ^^^ b).toNat : Int) := by
  show IntKind.u8.wrap ((BitVec.ofInt 8 (a.toNat : Int) ^^^ BitVec.ofInt 8 (b.toNat : Int)).toNat : Int) = _
  rw [bv8, bv8, wrap8]; rfl
theorem or8 (a b : UInt8) : bits .or .u8 (a.toNat : Int) (b.toNat : Int) = ((a ||| b).toNat : Int) := by
  show IntKind.u8.wrap ((BitVec.ofInt 8 (a.toNat : Int) ||| BitVec.ofInt 8 (b.toNat : Int)).toNat : Int) = _
  rw [bv8, bv8, wrap8]; rfl
theorem and8 (a b : UInt8) : bits .and .u8 (a.toNat : Int) (b.toNat : Int) = ((a &&& b).toNat : Int) := by
  show IntKind.u8.wrap ((BitVec.ofInt 8 (a.toNat : Int) &&& BitVec.ofInt 8 (b.toNat : Int)).toNat : Int) = _
  rw [bv8, bv8, wrap8]; rfl

theorem bv64 (a : Nat) (_h : a < 9223372036854775808) : BitVec.ofInt 64 (a : Int) = BitVec.ofNat 64 a := by
  rw [BitVec.ofInt_natCast]
theorem wrap64 (n : Nat) (h : n < 9223372036854775808) : IntKind.i64.wrap (n : Int) = (n : Int) := IntWalk.i64_in _ (by omega)
theorem or64 (a b : Nat) (ha : a < 9223372036854775808) (hb : b < 9223372036854775808) : bits .or .i64 (a : Int) (b : Int) = ((a ||| b : Nat) : Int) := by
  show IntKind.i64.wrap ((BitVec.ofInt 64 (a : Int) ||| BitVec.ofInt 64 (b : Int)).toNat : Int) = _
  have h := Nat.or_lt_two_pow (n := 63) ha hb
  rw [bv64 a ha, bv64 b hb, BitVec.toNat_or, BitVec.toNat_ofNat, BitVec.toNat_ofNat, Nat.mod_eq_of_lt (by omega), Nat.mod_eq_of_lt (by omega), wrap64 _ h]
theorem xor64 (a b : Nat) (ha : a < 9223372036854775808) (hb : b < 9223372036854775808) : bits .xor .i64 (a : Int) (b : Int) = ((a ^^^ b : Nat) : Int) := by
  show IntKind.i64.wrap ((BitVec.ofInt 64 (a : Int) ^^^ BitVec.ofInt 64 (b : Int)).toNat : Int) = _
  have h := Nat.xor_lt_two_pow (n := 63) ha hb
  rw [bv64 a ha, bv64 b hb, BitVec.toNat_xor, BitVec.toNat_ofNat, BitVec.toNat_ofNat, Nat.mod_eq_of_lt (by omega), Nat.mod_eq_of_lt (by omega), wrap64 _ h]
theorem and64 (a b : Nat) (ha : a < 9223372036854775808) (hb : b < 9223372036854775808) : bits .and .i64 (a : Int) (b : Int) = ((a &&& b : Nat) : Int) := by
  show IntKind.i64.wrap ((BitVec.ofInt 64 (a : Int) &&& BitVec.ofInt 64 (b : Int)).toNat : Int) = _
  have h := Nat.and_lt_two_pow (n := 63) a hb
  rw [bv64 a ha, bv64 b hb, BitVec.toNat_and, BitVec.toNat_ofNat, BitVec.toNat_ofNat, Nat.mod_eq_of_lt (by omega), Nat.mod_eq_of_lt (by omega), wrap64 _ h]
end Go.Proofs.YtmkchilhnmkhkaaDoor.BitsM
namespace Go.Proofs.YtmkchilhnmkhkaaDoor
open Go.RowKit Go.Proofs.YtmkchilhnmkhkaaDoor.Hexa Go.Proofs.YtmkchilhnmkhkaaDoor.Byt Go.Proofs.YtmkchilhnmkhkaaDoor.BitsM

theorem infoByte : (Tryd.prog.info? 5).map (fun i => (i.zero, i.size, i.bytes)) = some (some (.int .u8 0), 1, 1) := by kernel_rfl
/-- One byte appended, in the block of the walk's own one-cell slice. -/
theorem outB (w : World) {B : Nat} {v : Value} {l : List UInt8} (h : Bytes w B 5 v l) (hB : B ≤ w.heap.size) (ty : TypeId) (c : UInt8) (x : Int) (hx : x = c.toNat) (hl : l.length ≤ 100000000) :
    Out Tryd.prog #[22, 22] ty #[v, .slice (some ⟨w.heap.size, 0, none⟩) 1 1] (w.alloc (.cells #[.int .u8 x] 5)) B 5 (l ++ [c]) := by
  obtain ⟨i0, hi, hz0, hz1, hz2⟩ := info_parts infoByte
  subst hx
  refine append_cells Tryd.underlying22 hi hz0 hz1 hz2 _ (bytes_alloc h _) (by simp; omega) ty ⟨w.heap.size, 0, none⟩ 1 [c] ?_ (by simp; omega)
  exact World.news_of_block (heap_alloc_new _ _)

/-- One byte n times. -/
def longB (n : Nat) (x : UInt8) : ByteArray := ⟨(List.replicate n x).toArray⟩
theorem longB_size (n : Nat) (x : UInt8) : (longB n x).size = n := by show (List.replicate n x).toArray.size = n; simp

theorem bytes_set {w : World} {B e g c : Nat} {l : List UInt8} (h : Bytes w B e (.slice (some ⟨g, 0, none⟩) l.length c) l) (k : Nat) (x : UInt8) :
    Bytes (w.setCell ⟨g, k, none⟩ (.int .u8 x.toNat)) B e (.slice (some ⟨g, 0, none⟩) l.length c) (l.set k x) := by
  rcases h with ⟨h, _⟩ | ⟨g', cap, cur, fz, hv, hb, hg, hfz, hlc, hm, hcs, htk⟩
  · cases h
  · simp at hv
    obtain ⟨rfl, rfl⟩ := hv
    rw [setCell_eq_setRow w g k cur e fz _ hg]
    refine .inr ⟨g, c, _, fz, by simp, hb, setRow_heap w g cur _ e fz hg, by simpa using hfz, by simpa using hlc, hm, by simpa using hcs, ?_⟩
    rw [Array.toList_setIfInBounds, List.length_set, List.take_set, htk]
    simp [bcells, List.map_set]
theorem bytes_at {w : World} {B e g c : Nat} {l : List UInt8} (h : Bytes w B e (.slice (some ⟨g, 0, none⟩) l.length c) l) (k : Nat) (hk : k < l.length) :
    w.cell? ⟨g, k, none⟩ = some (.int .u8 (l[k]).toNat) ∧ w.frozen? ⟨g, k, none⟩ = false ∧ B ≤ g := by
  rcases h with ⟨h, _⟩ | ⟨g', cap, cur, fz, hv, hb, hg, hfz, hlc, hm, hcs, htk⟩
  · cases h
  · simp at hv
    obtain ⟨rfl, rfl⟩ := hv
    refine ⟨?_, ?_, hb⟩
    · have := bytes_cells (_cap := c) hg htk k (.int .u8 (l[k]).toNat) (by simp [bcells, hk])
      have hadd : (⟨g, 0, none⟩ : Addr).add k = ⟨g, k, none⟩ := by unfold Addr.add; split <;> simp_all
      rwa [hadd] at this
    · obtain ⟨lo, hi'⟩ := fz
      simp only [World.frozen?, hg, Bool.and_eq_false_iff, decide_eq_false_iff_not]
      rcases hfz with h | h
      · right; cases h; omega
      · left; simp only at h; omega

end Go.Proofs.YtmkchilhnmkhkaaDoor
namespace Go.Proofs.YtmkchilhnmkhkaaDoor.Parts
open Go.RowKit

/-- A field is added where the run is not empty. -/
def put (P : List ByteArray) (s : ByteArray) (b i : Nat) : List ByteArray := if b < i then P ++ [s.extract b i] else P

/-- Behind the first i bytes: where the open run begins, and the fields so far. -/
def st (s : ByteArray) : Nat → Nat × List ByteArray
  | 0 => (0, [])
  | i + 1 => if s.data.toList.getD i 0 = 32 then (i + 1, put (st s i).2 s (st s i).1 i) else st s i

theorem st_le (s : ByteArray) : ∀ i, (st s i).1 ≤ i
  | 0 => Nat.le_refl _
  | i + 1 => by
    have := st_le s i
    simp only [st]; split
    · exact Nat.le_refl _
    · omega

theorem put_length (P : List ByteArray) (s : ByteArray) (b i : Nat) : (put P s b i).length ≤ P.length + 1 := by
  unfold put; split <;> simp

theorem st_length (s : ByteArray) : ∀ i, (st s i).2.length ≤ i
  | 0 => Nat.le_refl _
  | i + 1 => by
    have := st_length s i
    have h2 := put_length (st s i).2 s (st s i).1 i
    simp only [st]; split
    · simp only; omega
    · omega

theorem getD_eq (s : ByteArray) (i : Nat) (h : i < s.size) : s.data.toList.getD i 0 = s[i] := by
  have h' : i < s.data.toList.length := by simpa using h
  simp [List.getD, List.getElem?_eq_getElem h']; rfl

theorem st_space (s : ByteArray) (i : Nat) (h : i < s.size) (e : (s[i].toNat : Int) = 32) : st s (i + 1) = (i + 1, put (st s i).2 s (st s i).1 i) := by
  have : s[i] = 32 := by apply UInt8.toNat_inj.1; simp; omega
  simp only [st]; rw [if_pos (by rw [getD_eq s i h, this])]
theorem st_other (s : ByteArray) (i : Nat) (h : i < s.size) (e : (s[i].toNat : Int) ≠ 32) : st s (i + 1) = st s i := by
  have : s[i] ≠ 32 := fun h => e (by rw [h]; rfl)
  simp only [st]; rw [if_neg (by rw [getD_eq s i h]; exact this)]

/-- Every byte up to place n may stand in a line. -/
def okTo (s : ByteArray) (n : Nat) : Prop := ∀ j (h : j < s.size), j < n → (32 : Int) ≤ s[j].toNat ∧ (s[j].toNat : Int) ≤ 126

theorem okTo_step {s : ByteArray} {i : Nat} (g : okTo s i) (h : i < s.size) (h1 : (32 : Int) ≤ s[i].toNat) (h2 : (s[i].toNat : Int) ≤ 126) : okTo s (i + 1) := by
  intro j hj hi
  by_cases e : j < i
  · exact g j hj e
  · have : j = i := by omega
    subst this; exact ⟨h1, h2⟩

def fin (s : ByteArray) : List ByteArray := put (st s s.size).2 s (st s s.size).1 s.size

open Classical in
/-- What PartsOf returns for a line of at most 600 bytes. -/
noncomputable def parts (s : ByteArray) : List ByteArray := if okTo s s.size ∧ (fin s).length ≤ 12 then fin s else []
open Classical in
noncomputable def partsOk (s : ByteArray) : Bool := if okTo s s.size ∧ (fin s).length ≤ 12 then true else false

theorem parts_yes {s : ByteArray} (h : okTo s s.size) (h2 : (fin s).length ≤ 12) : parts s = fin s ∧ partsOk s = true := by simp [parts, partsOk, h, h2]
theorem parts_many {s : ByteArray} (h2 : 12 < (fin s).length) : parts s = [] ∧ partsOk s = false := by
  have : ¬ (fin s).length ≤ 12 := by omega
  simp [parts, partsOk, this]
theorem parts_bad {s : ByteArray} (i : Nat) (h : i < s.size) (hb : (s[i].toNat : Int) < 32 ∨ (126 : Int) < s[i].toNat) : parts s = [] ∧ partsOk s = false := by
  have : ¬ okTo s s.size := fun g => by have := g i h h; omega
  simp [parts, partsOk, this]
theorem parts_le (s : ByteArray) : (parts s).length ≤ 12 := by
  unfold parts; split
  · rename_i h; exact h.2
  · simp

/-- What one more space, or the end of the line, makes of the fields. -/
theorem put_yes {P : List ByteArray} {s : ByteArray} {b i : Nat} (h : b < i) : put P s b i = P ++ [s.extract b i] := by unfold put; rw [if_pos h]
theorem put_no {P : List ByteArray} {s : ByteArray} {b i : Nat} (h : ¬ b < i) : put P s b i = P := by unfold put; rw [if_neg h]

/-- The relation behind a space at place i. -/
theorem rel_space {s : ByteArray} {i b : Nat} {P : List ByteArray} (h : i < s.size) (e : (s[i].toNat : Int) = 32) (H1 : i ≤ s.size → b = (st s i).1 ∧ P = (st s i).2) :
    (i + 1 ≤ s.size → i + 1 = (st s (i + 1)).1 ∧ put P s b i = (st s (i + 1)).2) ∧ (s.size < i + 1 → put P s b i = fin s) := by
  obtain ⟨rfl, rfl⟩ := H1 (by omega)
  rw [st_space s i h e]
  exact ⟨fun _ => ⟨rfl, rfl⟩, fun _ => by omega⟩
/-- The relation behind the end. -/
theorem rel_end {s : ByteArray} {b : Nat} {P : List ByteArray} (H1 : s.size ≤ s.size → b = (st s s.size).1 ∧ P = (st s s.size).2) :
    (s.size + 1 ≤ s.size → s.size + 1 = (st s (s.size + 1)).1 ∧ put P s b s.size = (st s (s.size + 1)).2) ∧ (s.size < s.size + 1 → put P s b s.size = fin s) := by
  obtain ⟨rfl, rfl⟩ := H1 (Nat.le_refl _)
  exact ⟨fun h => by omega, fun _ => rfl⟩
/-- The relation behind another byte. -/
theorem rel_other {s : ByteArray} {i b : Nat} {P : List ByteArray} (h : i < s.size) (e : (s[i].toNat : Int) ≠ 32) (H1 : i ≤ s.size → b = (st s i).1 ∧ P = (st s i).2) :
    (i + 1 ≤ s.size → b = (st s (i + 1)).1 ∧ P = (st s (i + 1)).2) ∧ (s.size < i + 1 → P = fin s) := by
  rw [st_other s i h e]
  exact ⟨fun _ => H1 (by omega), fun _ => by omega⟩
theorem okTo_end {s : ByteArray} (h : okTo s s.size) : okTo s (s.size + 1) := fun j hj _ => h j hj hj

theorem ext_size (s : ByteArray) (b i : Nat) : (s.extract b i).size ≤ s.size := by simp [ByteArray.size_extract]; omega

/-- The fields with one more run, if it is not empty. -/
def addRun (P : List ByteArray) (r : ByteArray) : List ByteArray := if r.toList.isEmpty then P else P ++ [r]
theorem isEmpty_iff (r : ByteArray) : r.toList.isEmpty = true ↔ r.size = 0 := by
  rw [List.isEmpty_iff, ← List.length_eq_zero_iff, ByteArray.toList_eq]; simp
theorem addRun_eq (P : List ByteArray) (s : ByteArray) (b i : Nat) (h : i ≤ s.size) : addRun P (s.extract b i) = put P s b i := by
  unfold addRun put
  by_cases hb : b < i
  · rw [if_pos hb, if_neg]
    rw [isEmpty_iff, ByteArray.size_extract]; omega
  · rw [if_neg hb, if_pos]
    rw [isEmpty_iff, ByteArray.size_extract]; omega

def scells (P : List ByteArray) : List Value := P.map Value.string

theorem own_below {B : Nat} {e : TypeId} {k : Nat} {v : Value} {n : Nat} {xs : List Value} {w w' : World} (h : w.ownsRow B e k v n xs) (hb : Below w.heap.size w w') : w'.ownsRow B e k v n xs := by
  obtain ⟨h1, h2⟩ := h
  refine ⟨h1, ?_⟩
  rcases h2 with h2 | ⟨g, cap, cur, hv, hg, hh, r⟩
  · exact Or.inl h2
  · have hlt : g < w.heap.size := (Array.getElem?_eq_some_iff.1 hh).1
    exact Or.inr ⟨g, cap, cur, hv, hg, by rw [hb.block g hlt]; exact hh, r⟩

/-- The slice at the address reads as these texts. -/
def Reads (w : World) (ad : Option Addr) (xs : List Value) : Prop := ∀ j, j < xs.length → ∃ g, ad = some ⟨g, 0, none⟩ ∧ w.cell? ⟨g, j, none⟩ = xs[j]?

theorem own_form {w : World} {base e : Nat} {v : Value} {n : Nat} {xs : List Value} (h : w.ownsRow base e 1 v n xs) : ∃ ad cap, v = .slice ad n cap ∧ cap ≤ maxLen ∧ n ≤ cap ∧ Reads w ad xs := by
  have hl : xs.length = n := by simpa using h.1
  rcases h.2 with ⟨rfl, rfl⟩ | ⟨g, cap, cur, rfl, hg, hh, hn, hc, _⟩
  · refine ⟨none, 0, rfl, by decide, Nat.le_refl _, fun j hj => ?_⟩
    omega
  · exact ⟨_, cap, rfl, hc, hn, fun j hj => ⟨g, rfl, h.cellAt j (by omega)⟩⟩

theorem own_reads {w : World} {base e : Nat} {ad : Option Addr} {n cap : Nat} {xs : List Value} (h : w.ownsRow base e 1 (.slice ad n cap) n xs) : Reads w ad xs := by
  obtain ⟨ad', cap', hv, _, _, hr⟩ := own_form h
  simp at hv
  obtain ⟨rfl, _⟩ := hv
  exact hr

/-- The decimal digits of a number; none for 0. -/
def digs (k : Nat) : List UInt8 := if _h : k = 0 then [] else digs (k / 10) ++ [UInt8.ofNat (48 + k % 10)]
termination_by k
decreasing_by omega

theorem digs_zero : digs 0 = [] := by rw [digs]; simp
theorem digs_step (k : Nat) (h : 0 < k) : digs k = digs (k / 10) ++ [UInt8.ofNat (48 + k % 10)] := by rw [digs]; simp; omega
theorem digs_len (k : Nat) : (digs k).length ≤ k := by
  induction k using Nat.strongRecOn with
  | _ k ih =>
    by_cases h : k = 0
    · subst h; rw [digs_zero]; simp
    · rw [digs_step k (by omega)]
      have := ih (k / 10) (by omega)
      simp; omega
def markT (k : Nat) : ByteArray := ⟨(109 :: digs k).toArray⟩

theorem one_byte (c : UInt8) : ∃ cs : ByteArray, cs.size = 1 ∧ cs.data.toList = [c] ∧ cs = ⟨[c].toArray⟩ := ⟨⟨[c].toArray⟩, rfl, rfl, rfl⟩
theorem data_append (a b : ByteArray) : (a ++ b).data.toList = a.data.toList ++ b.data.toList := by simp
theorem digs_round {k j : Nat} {t cs : ByteArray} (hj : 0 < j) (h : digs j ++ t.data.toList = digs k) (hc : cs.data.toList = [UInt8.ofNat (48 + j % 10)]) : digs (j / 10) ++ (cs ++ t).data.toList = digs k := by
  rw [data_append, hc, ← h, digs_step j hj, List.append_assoc]
theorem digs_size {k j : Nat} {t : ByteArray} (h : digs j ++ t.data.toList = digs k) : t.size ≤ k := by
  have := digs_len k
  rw [← h, List.length_append] at this
  simp at this; omega
theorem mark_end {k : Nat} {t : ByteArray} (h : digs 0 ++ t.data.toList = digs k) : (⟨#[109]⟩ : ByteArray) ++ t = markT k := by
  rw [digs_zero, List.nil_append] at h
  apply ByteArray.ext
  apply Array.toList_inj.1
  rw [data_append, h]; rfl
end Go.Proofs.YtmkchilhnmkhkaaDoor.Parts
namespace Go.Proofs.YtmkchilhnmkhkaaDoor
open Go.RowKit Go.Proofs.YtmkchilhnmkhkaaDoor.Hexa Go.Proofs.YtmkchilhnmkhkaaDoor.Byt Go.Proofs.YtmkchilhnmkhkaaDoor.BitsM Go.Proofs.YtmkchilhnmkhkaaDoor.Parts

/-- n zero bytes; none where n is not from 0 to 20000. -/
def zeroB (n : Int) : ByteArray := if 0 ≤ n ∧ n ≤ 20000 then longB n.toNat 0 else ⟨#[]⟩
/-- A text with zero bytes behind it, eight in all; none for a longer one. -/
def wordB (s : ByteArray) : ByteArray := if s.size ≤ 8 then s ++ longB (8 - s.size) 0 else ⟨#[]⟩
theorem zeroB_of (s : ByteArray) (h : s.size ≤ 8) : zeroB (8 - (s.size : Int)) = longB (8 - s.size) 0 := by
  unfold zeroB
  rw [if_pos (by omega), show (8 - (s.size : Int)).toNat = 8 - s.size by omega]
/-- Two texts of one length combined, the first k bytes of them. -/
def xorL (a b : ByteArray) (k : Nat) : List UInt8 := (List.zipWith (· ^^^ ·) a.data.toList b.data.toList).take k
def xorT (a b : ByteArray) : ByteArray := if a.size = b.size then ⟨(xorL a b a.size).toArray⟩ else ⟨#[]⟩
theorem xorL_length (a b : ByteArray) (hl : a.size = b.size) (k : Nat) (hk : k ≤ a.size) : (xorL a b k).length = k := by
  have h1 : a.data.toList.length = a.size := by simp
  have h2 : b.data.toList.length = b.size := by simp
  unfold xorL
  rw [List.length_take, List.length_zipWith]
  omega
theorem xorL_next (a b : ByteArray) (k : Nat) (ha : k < a.size) (hb : k < b.size) : bcells (xorL a b k) ++ [.int .u8 (((a[k]'ha) ^^^ (b[k]'hb)).toNat : Int)] = bcells (xorL a b (k + 1)) := by
  have h1 : k < a.data.toList.length := by simpa using ha
  have h2 : k < b.data.toList.length := by simpa using hb
  have e : (List.zipWith (· ^^^ ·) a.data.toList b.data.toList)[k]'(by rw [List.length_zipWith]; omega) = (a[k]'ha) ^^^ (b[k]'hb) := by rw [List.getElem_zipWith]; rfl
  unfold xorL
  rw [List.take_succ_eq_append_getElem (by rw [List.length_zipWith]; omega), e]
  simp [bcells]
/-- The first j of the k bytes of a number. -/
def numL (m k j : Nat) : List UInt8 := (List.range j).map fun t => UInt8.ofNat (m / 256 ^ (k - 1 - t))
def numB (m k : Nat) : ByteArray := ⟨(numL m k k).toArray⟩
theorem numL_length (m k j : Nat) : (numL m k j).length = j := by simp [numL]
theorem numL_next (m k j : Nat) : numL m k j ++ [UInt8.ofNat (m / 256 ^ (k - 1 - j))] = numL m k (j + 1) := by simp [numL, List.range_succ]
/-- The number has room in width bytes. -/
def NumFits (n width : Int) : Prop := 0 ≤ n ∧ (1 ≤ width ∧ width ≤ 7) ∧ n < 256 ^ width.toNat
theorem shift_zero {m k : Nat} (h : m < 256 ^ k) : (m : Int) / 2 ^ (8 * k) = 0 := by
  have e : (2 : Int) ^ (8 * k) = ((256 ^ k : Nat) : Int) := by rw [show (256 : Nat) ^ k = 2 ^ (8 * k) by rw [Nat.pow_mul]]; simp
  rw [e, ← Int.natCast_ediv, Nat.div_eq_of_lt h]; rfl
theorem shift_pos {m k : Nat} (h : 256 ^ k ≤ m) : 0 < (m : Int) / 2 ^ (8 * k) := by
  have e : (2 : Int) ^ (8 * k) = ((256 ^ k : Nat) : Int) := by rw [show (256 : Nat) ^ k = 2 ^ (8 * k) by rw [Nat.pow_mul]]; simp
  have hp : 0 < 256 ^ k := Nat.pow_pos (by omega)
  have := Nat.div_pos h hp
  rw [e, ← Int.natCast_ediv]; omega
theorem num_byte (m e : Nat) : (m : Int) / 2 ^ (8 * e) % 256 = ((UInt8.ofNat (m / 256 ^ e)).toNat : Int) := by
  rw [UInt8.toNat_ofNat', show (256 : Nat) ^ e = 2 ^ (8 * e) by rw [Nat.pow_mul]]
  have : (2 : Int) ^ (8 * e) = ((2 ^ (8 * e) : Nat) : Int) := by simp
  rw [this, ← Int.natCast_ediv]
  rfl
/-- The number that bytes say, the greatest first. -/
def numV (l : List UInt8) : Nat := l.foldl (fun n b => 256 * n + b.toNat) 0
theorem numV_snoc (l : List UInt8) (b : UInt8) : numV (l ++ [b]) = 256 * numV l + b.toNat := by simp [numV]
theorem fold_lt : ∀ (l : List UInt8) (acc : Nat), l.foldl (fun n b => 256 * n + b.toNat) acc < (acc + 1) * 256 ^ l.length
  | [], acc => by simp
  | b :: l, acc => by
    have h := fold_lt l (256 * acc + b.toNat)
    have hb := b.toNat_lt
    have h2 : (256 * acc + b.toNat + 1) * 256 ^ l.length ≤ (acc + 1) * 256 * 256 ^ l.length := Nat.mul_le_mul_right _ (by omega)
    rw [List.foldl_cons, List.length_cons, Nat.pow_succ, Nat.mul_comm (256 ^ l.length) 256, ← Nat.mul_assoc]
    omega
theorem numV_lt (l : List UInt8) : numV l < 256 ^ l.length := by
  have := fold_lt l 0
  simpa [numV] using this
/-- The bytes from offset a on, k of them. -/
def cutL (s : ByteArray) (a k : Nat) : List UInt8 := (s.data.toList.drop a).take k
theorem cutL_length (s : ByteArray) (a k : Nat) (h : a + k ≤ s.size) : (cutL s a k).length = k := by
  have : s.data.toList.length = s.size := by simp
  unfold cutL
  rw [List.length_take, List.length_drop]
  omega
theorem cutL_next (s : ByteArray) (a k : Nat) (h : a + k < s.size) : cutL s a k ++ [s[a + k]'h] = cutL s a (k + 1) := by
  have hl : s.data.toList.length = s.size := by simp
  unfold cutL
  rw [List.take_succ_eq_append_getElem (by rw [List.length_drop]; omega), List.getElem_drop]
  rfl
/-- These bytes exist. -/
def NumThere (s : ByteArray) (a width : Int) : Prop := (1 ≤ width ∧ width ≤ 7) ∧ (0 ≤ a ∧ a ≤ (s.size : Int) - width)
theorem ret_pair {a b : Int} {v : Value} (h : a = b) : Ending.returned (.tuple #[.int .i64 a, v]) = .returned (.tuple #[.int .i64 b, v]) := by rw [h]
/-- The number in its bytes; none where it has no room. -/
def numTextB (n width : Int) : ByteArray := if 0 ≤ n ∧ (1 ≤ width ∧ width ≤ 7) ∧ n < 256 ^ width.toNat then numB n.toNat width.toNat else ⟨#[]⟩
/-- The number at an offset, and whether it is there. -/
def numAtV (s : ByteArray) (a width : Int) : Int := if (1 ≤ width ∧ width ≤ 7) ∧ (0 ≤ a ∧ a ≤ (s.size : Int) - width) then (numV (cutL s a.toNat width.toNat) : Int) else 0
def numAtB (s : ByteArray) (a width : Int) : Bool := decide ((1 ≤ width ∧ width ≤ 7) ∧ (0 ≤ a ∧ a ≤ (s.size : Int) - width))
end Go.Proofs.YtmkchilhnmkhkaaDoor
namespace Go.Proofs.YtmkchilhnmkhkaaDoor
open Go.RowKit Go.Proofs.YtmkchilhnmkhkaaDoor.Hexa Go.Proofs.YtmkchilhnmkhkaaDoor.Byt

theorem numV_take (l : List UInt8) (i : Nat) (h : i < l.length) : numV (l.take (i + 1)) = 256 * numV (l.take i) + (l[i]'h).toNat := by
  rw [List.take_succ_eq_append_getElem h, numV_snoc]
theorem numV_div (l : List UInt8) : ∀ d i : Nat, i + d = l.length → numV l / 256 ^ d = numV (l.take i)
  | 0, i, h => by rw [List.take_of_length_le (by omega)]; simp
  | d + 1, i, h => by
    have h1 := numV_div l d (i + 1) (by omega)
    have h2 := numV_take l i (by omega)
    have hb := (l[i]'(by omega)).toNat_lt
    rw [Nat.pow_succ, ← Nat.div_div_eq_div_mul, h1, h2]
    omega
theorem numL_back (l : List UInt8) (k : Nat) (hk : l.length = k) : numL (numV l) k k = l := by
  subst hk
  apply List.ext_getElem
  · simp [numL_length]
  · intro j h1 h2
    have hd := numV_div l (l.length - 1 - j) (j + 1) (by omega)
    have ht := numV_take l j h2
    have e : (numL (numV l) l.length l.length)[j] = UInt8.ofNat (numV l / 256 ^ (l.length - 1 - j)) := by simp [numL]
    rw [e, hd, ht]
    apply UInt8.toNat_inj.1
    rw [UInt8.toNat_ofNat']
    have hb := (l[j]'h2).toNat_lt
    omega
theorem pow_cast {m k : Nat} (h : m < 256 ^ k) : (m : Int) < (256 : Int) ^ k := by
  have h2 := Int.ofNat_lt.2 h
  rw [Int.natCast_pow] at h2
  exact h2
/-- The number that a cut of a text says, written again. -/
theorem numText_back (s : ByteArray) (a k : Nat) (hk : 1 ≤ k ∧ k ≤ 7) (h : a + k ≤ s.size) : (numTextB (numAtV s a k) k).data.toList = cutL s a k := by
  have hl := cutL_length s a k h
  have hv : numAtV s a k = (numV (cutL s a k) : Int) := by
    unfold numAtV
    rw [if_pos ⟨by omega, by omega⟩]
    simp
  have hlt := numV_lt (cutL s a k)
  rw [hl] at hlt
  have hI := pow_cast hlt
  unfold numTextB
  rw [hv, if_pos ⟨by omega, by omega, by rw [Int.toNat_natCast]; exact hI⟩]
  simp only [Int.toNat_natCast, numB]
  exact numL_back _ _ hl
theorem numAtV_nat (s : ByteArray) (a k : Nat) (hk : 1 ≤ k ∧ k ≤ 7) (h : a + k ≤ s.size) : numAtV s a k = (numV (cutL s a k) : Int) := by
  unfold numAtV
  rw [if_pos ⟨by omega, by omega⟩]
  simp
theorem numAtV_lt (s : ByteArray) (a k : Nat) (hk : 1 ≤ k ∧ k ≤ 7) (h : a + k ≤ s.size) : 0 ≤ numAtV s a k ∧ numAtV s a k < 256 ^ k := by
  have hl := cutL_length s a k h
  have hlt := numV_lt (cutL s a k)
  rw [hl] at hlt
  rw [numAtV_nat s a k hk h]
  exact ⟨by omega, pow_cast hlt⟩
end Go.Proofs.YtmkchilhnmkhkaaDoor
namespace Go.Proofs.YtmkchilhnmkhkaaDoor
open Go.RowKit Go.Proofs.YtmkchilhnmkhkaaDoor.Parts Go.Proofs.YtmkchilhnmkhkaaDoor.Hexa

/-- How an element lies in its cells. -/
structure Enc (α : Type) where
  k : Nat
  cells : α → List Value
  len : ∀ x, (cells x).length = k

def cellsE {α : Type} (E : Enc α) : List α → List Value
  | [] => []
  | x :: r => E.cells x ++ cellsE E r
theorem cellsE_length {α : Type} (E : Enc α) : ∀ L : List α, (cellsE E L).length = L.length * E.k
  | [] => by simp [cellsE]
  | x :: r => by simp [cellsE, E.len, cellsE_length E r, Nat.add_mul]; omega
theorem cellsE_append {α : Type} (E : Enc α) : ∀ L M : List α, cellsE E (L ++ M) = cellsE E L ++ cellsE E M
  | [], M => rfl
  | x :: r, M => by simp [cellsE, cellsE_append E r M]
theorem cellsE_one {α : Type} (E : Enc α) (x : α) : cellsE E [x] = E.cells x := by simp [cellsE]
theorem cellsE_at {α : Type} [Inhabited α] (E : Enc α) : ∀ (L : List α) (j o : Nat), j < L.length → o < E.k → (cellsE E L)[j * E.k + o]? = (E.cells (L.getD j default))[o]?
  | x :: r, 0, o, _, ho => by
    rw [cellsE, Nat.zero_mul, Nat.zero_add, List.getElem?_append_left (by rw [E.len]; exact ho)]; rfl
  | x :: r, j + 1, o, h, ho => by
    rw [cellsE, List.getElem?_append_right (by rw [E.len, Nat.add_mul]; omega), E.len, show (j + 1) * E.k + o - E.k = j * E.k + o by rw [Nat.add_mul]; omega]
    exact cellsE_at E r j o (by simpa using h) ho
theorem cellsE_take {α : Type} (E : Enc α) : ∀ (L : List α) (j : Nat), (cellsE E L).take (j * E.k) = cellsE E (L.take j)
  | [], j => by simp [cellsE]
  | x :: r, 0 => by simp [cellsE]
  | x :: r, j + 1 => by
    rw [cellsE, List.take_append, List.take_of_length_le (by rw [E.len, Nat.add_mul]; omega), E.len, show (j + 1) * E.k - E.k = j * E.k by rw [Nat.add_mul]; omega, cellsE_take E r j]
    rfl
theorem cellsE_drop {α : Type} (E : Enc α) : ∀ (L : List α) (j : Nat), (cellsE E L).drop (j * E.k) = cellsE E (L.drop j)
  | [], j => by simp [cellsE]
  | x :: r, 0 => by simp [cellsE]
  | x :: r, j + 1 => by
    rw [cellsE, List.drop_append, List.drop_of_length_le (by rw [E.len, Nat.add_mul]; omega), E.len, show (j + 1) * E.k - E.k = j * E.k by rw [Nat.add_mul]; omega, cellsE_drop E r j]
    rfl

/-- Cells written one behind the other. -/
def setsL : List Value → Nat → List Value → List Value
  | xs, _, [] => xs
  | xs, o, v :: r => setsL (xs.set o v) (o + 1) r
theorem setsL_length : ∀ (vs xs : List Value) (o : Nat), (setsL xs o vs).length = xs.length
  | [], xs, o => rfl
  | v :: r, xs, o => by rw [setsL, setsL_length r]; simp
theorem setsL_out : ∀ (vs xs : List Value) (o j : Nat), (j < o ∨ o + vs.length ≤ j) → (setsL xs o vs)[j]? = xs[j]?
  | [], xs, o, j, _ => rfl
  | v :: r, xs, o, j, h => by
    simp only [List.length_cons] at h
    rw [setsL, setsL_out r _ _ _ (by omega), List.getElem?_set_ne (by omega)]
theorem setsL_in : ∀ (vs xs : List Value) (o j : Nat), j < vs.length → o + vs.length ≤ xs.length → (setsL xs o vs)[o + j]? = vs[j]?
  | v :: r, xs, o, 0, _, h => by
    simp only [List.length_cons] at h
    rw [setsL, setsL_out r _ _ _ (by omega)]
    show (xs.set o v)[o]? = some v
    rw [List.getElem?_set_self (by omega)]
  | v :: r, xs, o, j + 1, hj, h => by
    simp only [List.length_cons] at h hj
    rw [setsL, show o + (j + 1) = (o + 1) + j by omega, setsL_in r _ _ j (by omega) (by simp; omega)]
    rfl
/-- The first elements are right; one more is written. -/
theorem cellsE_step {α : Type} [Inhabited α] (E : Enc α) {L : List α} {xs : List Value} {k : Nat} (hk : k < L.length) (hl : xs.length = L.length * E.k) (h : ∀ j, j < k * E.k → xs[j]? = (cellsE E L)[j]?) :
    ∀ j, j < (k + 1) * E.k → (setsL xs (k * E.k) (E.cells (L.getD k default)))[j]? = (cellsE E L)[j]? := by
  intro j hj
  have hm : (k + 1) * E.k ≤ L.length * E.k := Nat.mul_le_mul_right _ hk
  rw [Nat.add_mul] at hj hm
  by_cases h0 : j < k * E.k
  · rw [setsL_out _ _ _ _ (.inl h0)]; exact h j h0
  · obtain ⟨o, rfl⟩ : ∃ o, j = k * E.k + o := ⟨j - k * E.k, by omega⟩
    rw [setsL_in _ _ _ _ (by rw [E.len]; omega) (by rw [E.len]; omega), cellsE_at E L k o hk (by omega)]
theorem cellsE_all {α : Type} (E : Enc α) {L : List α} {xs : List Value} (hl : xs.length = L.length * E.k) (h : ∀ j, j < L.length * E.k → xs[j]? = (cellsE E L)[j]?) : xs = cellsE E L := by
  apply List.ext_getElem?
  intro j
  by_cases hj : j < L.length * E.k
  · exact h j hj
  · rw [List.getElem?_eq_none (by omega), List.getElem?_eq_none (by rw [cellsE_length]; omega)]
theorem getD_set {α : Type} [Inhabited α] (L : List α) (k j : Nat) (x : α) (hk : k < L.length) : (L.set k x).getD j default = if j = k then x else L.getD j default := by
  by_cases h : j = k
  · subst h; simp [List.getD, hk]
  · rw [if_neg h]; simp only [List.getD]; rw [List.getElem?_set_ne (fun e => h e.symm)]
/-- One element is written over another. -/
theorem cellsE_set {α : Type} [Inhabited α] (E : Enc α) (L : List α) (k : Nat) (x : α) (hk : k < L.length) : setsL (cellsE E L) (k * E.k) (E.cells x) = cellsE E (L.set k x) := by
  have hm : (k + 1) * E.k ≤ L.length * E.k := Nat.mul_le_mul_right _ hk
  rw [Nat.add_mul] at hm
  refine cellsE_all E (by rw [setsL_length, cellsE_length]; simp) (fun j hj => ?_)
  simp only [List.length_set] at hj
  by_cases hj0 : k * E.k ≤ j ∧ j < k * E.k + E.k
  · obtain ⟨o, rfl⟩ : ∃ o, j = k * E.k + o := ⟨j - k * E.k, by omega⟩
    rw [setsL_in _ _ _ _ (by rw [E.len]; omega) (by rw [E.len, cellsE_length]; omega), cellsE_at E _ k o (by simpa using hk) (by omega), getD_set _ _ _ _ hk, if_pos rfl]
  · rw [setsL_out _ _ _ _ (by rw [E.len]; omega)]
    have hk0 : 0 < E.k := by
      rcases Nat.eq_zero_or_pos E.k with h | h
      · rw [h] at hj; omega
      · exact h
    have hd : j = j / E.k * E.k + j % E.k := by rw [Nat.mul_comm]; exact (Nat.div_add_mod j E.k).symm
    have hq : j / E.k < L.length := (Nat.div_lt_iff_lt_mul hk0).2 hj
    have hne : j / E.k ≠ k := fun e => by
      rw [e] at hd
      have := Nat.mod_lt j hk0
      omega
    rw [hd, cellsE_at E _ _ _ hq (Nat.mod_lt _ hk0), cellsE_at E _ _ _ (by simpa using hq) (Nat.mod_lt _ hk0), getD_set _ _ _ _ hk, if_neg hne]

/-- A slice of elements that can be read. -/
structure SrcE {α : Type} [Inhabited α] (E : Enc α) (w : World) (a : Option Addr) (n : Nat) (L : List α) : Prop where
  len : L.length = n
  cell : ∀ j, j < n → ∃ g off, a = some ⟨g, off, none⟩ ∧ g < w.heap.size ∧ ∀ o v, (E.cells (L.getD j default))[o]? = some v → w.cell? ⟨g, off + j * E.k + o, none⟩ = some v
theorem SrcE.below {α : Type} [Inhabited α] {E : Enc α} {w w' : World} {a : Option Addr} {n : Nat} {L : List α} {B : Nat} (h : SrcE E w a n L) (hb : Below B w w') (hB : w.heap.size ≤ B) : SrcE E w' a n L :=
  ⟨h.len, fun j hj => by
    obtain ⟨g, off, e, hg, c⟩ := h.cell j hj
    exact ⟨g, off, e, Nat.lt_of_lt_of_le hg hb.size, fun o v hv => by rw [hb.cell (p := ⟨g, off + j * E.k + o, none⟩) (Nat.lt_of_lt_of_le hg hB)]; exact c o v hv⟩⟩
theorem SrcE.later {α : Type} [Inhabited α] {E : Enc α} {w w' : World} {a : Option Addr} {n : Nat} {L : List α} (h : SrcE E w a n L) (hb : Below w.heap.size w w') : SrcE E w' a n L := h.below hb (Nat.le_refl _)
theorem SrcE.drew {α : Type} [Inhabited α] {E : Enc α} {w : World} {a : Option Addr} {n : Nat} {L : List α} (h : SrcE E w a n L) : SrcE E w.drew a n L := ⟨h.len, h.cell⟩
theorem SrcE.nil {α : Type} [Inhabited α] (E : Enc α) (w : World) (a : Option Addr) : SrcE E w a 0 [] := ⟨rfl, fun j hj => by omega⟩

theorem ownE_lt {w : World} {B e k g n cap : Nat} {xs : List Value} (h : w.ownsRow B e k (.slice (some ⟨g, 0, none⟩) n cap) n xs) : g < w.heap.size := (h.lt g rfl).2
/-- A slice that the call owns, as one that can be read. -/
theorem srcE_of_own {α : Type} [Inhabited α] {E : Enc α} {w : World} {B e n cap : Nat} {a : Option Addr} {L : List α} (h : w.ownsRow B e E.k (.slice a n cap) n (cellsE E L)) (hk0 : 0 < E.k) : SrcE E w a n L := by
  have hl : L.length = n := by have h1 := h.1; rw [cellsE_length] at h1; exact Nat.eq_of_mul_eq_mul_right hk0 h1
  refine ⟨hl, fun j hj => ?_⟩
  rcases h.2 with ⟨h', h0⟩ | ⟨g', cap', cur, h', _, hg, _⟩
  · omega
  · simp only [Value.slice.injEq] at h'
    obtain ⟨rfl, _, rfl⟩ := h'
    refine ⟨g', 0, rfl, ownE_lt h, fun o v hv => ?_⟩
    have ho : o < E.k := by
      rcases Nat.lt_or_ge o E.k with h | h
      · exact h
      · rw [List.getElem?_eq_none (by rw [E.len]; exact h)] at hv; cases hv
    have hm : (j + 1) * E.k ≤ n * E.k := Nat.mul_le_mul_right _ hj
    rw [Nat.add_mul] at hm
    rw [Nat.zero_add, h.cellAt _ (by omega), cellsE_at E L j o (by omega) ho]
    exact hv
theorem ownE_mono {w : World} {B B' e k n : Nat} {v : Value} {xs : List Value} (h : w.ownsRow B e k v n xs) (hb : B' ≤ B) : w.ownsRow B' e k v n xs :=
  ⟨h.1, h.2.imp id fun ⟨g, cap, cur, hv, hg, r⟩ => ⟨g, cap, cur, hv, Nat.le_trans hb hg, r⟩⟩
/-- The form of what the call owns. -/
theorem ownE_form {w : World} {B e k n : Nat} {v : Value} {xs : List Value} (h : w.ownsRow B e k v n xs) : ∃ a cap, v = .slice a n cap ∧ n ≤ cap ∧ cap ≤ maxLen ∧ (∀ p, a = some p → ∃ g, p = ⟨g, 0, none⟩ ∧ B ≤ g ∧ g < w.heap.size) := by
  rcases h.2 with ⟨rfl, rfl⟩ | ⟨g', cap', cur, rfl, hB, hg, hn, hc, _⟩
  · exact ⟨none, 0, rfl, Nat.le_refl _, by decide, fun p hp => by cases hp⟩
  · exact ⟨_, _, rfl, hn, hc, fun p hp => by cases hp; exact ⟨g', rfl, hB, lt_of_block hg⟩⟩
/-- Cells of the call's own row written. -/
theorem own_sets {B e k g n cap : Nat} : ∀ (vs : List Value) {w : World} {xs : List Value} (o : Nat), w.ownsRow B e k (.slice (some ⟨g, 0, none⟩) n cap) n xs → (w.setCells g o vs).ownsRow B e k (.slice (some ⟨g, 0, none⟩) n cap) n (setsL xs o vs)
  | [], _, _, _, h => h
  | v :: r, _, _, o, h => own_sets r (o + 1) (h.stored o v).1
theorem below_sets {B g : Nat} (hg : B ≤ g) : ∀ (vs : List Value) {w w' : World} (o : Nat), Below B w w' → Below B w (w'.setCells g o vs)
  | [], _, _, _, h => h
  | v :: r, _, _, o, h => below_sets hg r (o + 1) (h.setCell (p := ⟨g, o, none⟩) hg v)
theorem ownE_cell {w : World} {B e k g n cap : Nat} {xs : List Value} (h : w.ownsRow B e k (.slice (some ⟨g, 0, none⟩) n cap) n xs) {j : Nat} (hj : j < n * k) : ∃ v, w.cell? ⟨g, j, none⟩ = some v := by
  rw [h.cellAt j hj]
  exact ⟨xs[j]'(by rw [h.1]; exact hj), List.getElem?_eq_getElem _⟩

/-- No block is written but one; what was there stays. -/
structure ButE (B : Nat) (w w' : World) : Prop where
  size : w.heap.size ≤ w'.heap.size
  block : ∀ g, g ≠ B → g < w.heap.size → w'.heap[g]? = w.heap[g]?
theorem ButE.refl (B : Nat) (w : World) : ButE B w w := ⟨Nat.le_refl _, fun _ _ _ => rfl⟩
theorem ButE.then_below {B : Nat} {w w1 w2 : World} (h : ButE B w w1) (hb : Below w1.heap.size w1 w2) : ButE B w w2 :=
  ⟨Nat.le_trans h.size hb.size, fun g h1 h2 => by rw [hb.block g (Nat.lt_of_lt_of_le h2 h.size)]; exact h.block g h1 h2⟩
theorem ButE.then_set {B : Nat} {w w1 : World} (h : ButE B w w1) (o : Nat) (v : Value) : ButE B w (w1.setCell ⟨B, o, none⟩ v) :=
  ⟨Nat.le_trans h.size (by simp), fun g h1 h2 => by rw [Below.heap_setCell _ _ _ _ (by simpa using h1)]; exact h.block g h1 h2⟩
theorem ButE.drew {B : Nat} {w w1 : World} (h : ButE B w w1) : ButE B w w1.drew := ⟨h.size, h.block⟩
/-- What lies elsewhere stays. -/
theorem ownE_but {w w' : World} {M B e k : Nat} {v : Value} {n : Nat} {xs : List Value} (h : w.ownsRow B e k v n xs) (hb : ButE M w w') (hne : ∀ g, v.ownBlock = some g → g ≠ M) : w'.ownsRow B e k v n xs := by
  refine ⟨h.1, h.2.imp id fun ⟨g, cap, cur, hv, hg, hh, r⟩ => ⟨g, cap, cur, hv, hg, ?_, r⟩⟩
  rw [hb.block g (hne g (by rw [hv]; rfl)) (Array.getElem?_eq_some_iff.1 hh).1]; exact hh
theorem ownE_left {w w' : World} {M B e k : Nat} {v : Value} {n : Nat} {xs : List Value} (h : w.ownsRow B e k v n xs) (hb : Below M w w') (hne : ∀ g, v.ownBlock = some g → g < M) : w'.ownsRow B e k v n xs := by
  refine ⟨h.1, h.2.imp id fun ⟨g, cap, cur, hv, hg, hh, r⟩ => ⟨g, cap, cur, hv, hg, ?_, r⟩⟩
  rw [hb.block g (hne g (by rw [hv]; rfl))]; exact hh
theorem SrcE.but {α : Type} [Inhabited α] {E : Enc α} {w w' : World} {a : Option Addr} {n : Nat} {L : List α} {B : Nat} (h : SrcE E w a n L) (hb : ButE B w w') (hB : ∀ p, a = some p → p.block ≠ B) : SrcE E w' a n L :=
  ⟨h.len, fun j hj => by
    obtain ⟨g, off, e, hg, c⟩ := h.cell j hj
    refine ⟨g, off, e, Nat.lt_of_lt_of_le hg hb.size, fun o v hv => ?_⟩
    rw [← c o v hv]
    exact World.cell?_of_block (w := w) (hb.block g (hB _ e) hg)⟩
end Go.Proofs.YtmkchilhnmkhkaaDoor
