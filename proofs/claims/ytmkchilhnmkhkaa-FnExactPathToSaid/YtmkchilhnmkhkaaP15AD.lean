/- Merged texts: LnkMath, NameIn, PathToMath, Says, Geo, DepSpec, AppE, AppTs, PathToSpec, DepImpl, RevImpl, IdxI, PathToImpl, PathToLaw, RowCells, RowTree, TIntR, TIntRS, TStrE, TStrR, TRecR, TRecRS, TEntryR, TEntryRS, TInoR, TInoRS, TPartR. -/
import Derived.Test.YtmkchilhnmkhkaaP15AC
import Derived.Test.YtmkchilhnmkhkaaRows
import Derived.Below
import Derived.RowKit3
import Derived.WalkKit
import Derived.WalkSpells
import Derived.WalkLawsBesides
import Derived.IntWalk
import Derived.Lib.Hide
import Derived.OwnWalk
import Derived.OneCell
import Derived.Deep.QuietTactic
import Derived.Deep.RegionWith
import Derived.BigQuiet
import Derived.Maps.AppendAt
import Derived.Lib.AppendZeros
import Derived.Lib.SliceRun
import Derived.Deep.AppendLies
import Derived.Deep.LoopGhost
import Derived.Test.YtmkchilhnmkhkaaShelfV
import Derived.Deep.Strs
import Derived.ProofKit
import Derived.Deep.Fields
import Derived.OpenShut
namespace Go.Proofs.Ytmkchilhnmkhkaa

def dirE (n : InoR) : List EntryR := if n.kd = 2 then n.E else []
def entsOf (L : List InoR) : List EntryR := L.flatMap dirE
def cntI (M : List EntryR) (i : Int) : Nat := M.countP (fun e => e.f0 == i)
def hasI (M : List EntryR) (i : Int) : Bool := M.any (fun e => e.f0 == i)
def filR (n : InoR) : List RecR := if n.kd = 1 then n.R else []
def recsOf (L : List InoR) : List RecR := L.flatMap filR
def cntP (M : List RecR) (pg : Int) : Nat := M.countP (fun r => r.f0 == pg + 1)

theorem take_next {α : Type} [Inhabited α] {M : List α} {j : Nat} (hj : j < M.length) : M.take (j + 1) = M.take j ++ [M.getD j default] := by
  rw [List.take_succ_eq_append_getElem hj]
  simp [List.getD, hj]
theorem entsOf_next {L : List InoR} {k : Nat} (hk : k < L.length) : entsOf (L.take (k + 1)) = entsOf (L.take k) ++ dirE (L.getD k default) := by
  unfold entsOf
  rw [take_next hk, List.flatMap_append, List.flatMap_singleton]
theorem recsOf_next {L : List InoR} {k : Nat} (hk : k < L.length) : recsOf (L.take (k + 1)) = recsOf (L.take k) ++ filR (L.getD k default) := by
  unfold recsOf
  rw [take_next hk, List.flatMap_append, List.flatMap_singleton]
theorem cntI_append (A B : List EntryR) (i : Int) : cntI (A ++ B) i = cntI A i + cntI B i := List.countP_append
theorem cntP_append (A B : List RecR) (i : Int) : cntP (A ++ B) i = cntP A i + cntP B i := List.countP_append
theorem cntI_nil (i : Int) : cntI [] i = 0 := rfl
theorem cntP_nil (i : Int) : cntP [] i = 0 := rfl
theorem cntI_yes {M : List EntryR} {j : Nat} {i : Int} (hj : j < M.length) (h : (M.getD j default).f0 = i) : cntI (M.take (j + 1)) i = cntI (M.take j) i + 1 := by
  rw [take_next hj, cntI_append]
  generalize M.getD j default = e at h ⊢
  simp [cntI, h]
theorem cntI_no {M : List EntryR} {j : Nat} {i : Int} (hj : j < M.length) (h : ¬ (M.getD j default).f0 = i) : cntI (M.take (j + 1)) i = cntI (M.take j) i := by
  rw [take_next hj, cntI_append]
  generalize M.getD j default = e at h ⊢
  simp [cntI, h]
theorem cntP_yes {M : List RecR} {j : Nat} {i : Int} (hj : j < M.length) (h : (M.getD j default).f0 = i + 1) : cntP (M.take (j + 1)) i = cntP (M.take j) i + 1 := by
  rw [take_next hj, cntP_append]
  generalize M.getD j default = e at h ⊢
  simp [cntP, h]
theorem cntP_no {M : List RecR} {j : Nat} {i : Int} (hj : j < M.length) (h : ¬ (M.getD j default).f0 = i + 1) : cntP (M.take (j + 1)) i = cntP (M.take j) i := by
  rw [take_next hj, cntP_append]
  generalize M.getD j default = e at h ⊢
  simp [cntP, h]
theorem cntI_le (M : List EntryR) (i : Int) : cntI M i ≤ M.length := List.countP_le_length
theorem cntP_le (M : List RecR) (i : Int) : cntP M i ≤ M.length := List.countP_le_length
theorem hasI_next {M : List EntryR} {j : Nat} {i : Int} (hj : j < M.length) : hasI (M.take (j + 1)) i = (hasI (M.take j) i || ((M.getD j default).f0 == i)) := by
  rw [take_next hj]
  simp [hasI]
theorem hasI_take {M : List EntryR} {j : Nat} {i : Int} (h : hasI (M.take j) i = true) : hasI M i = true := by
  rw [← List.take_append_drop j M]
  unfold hasI at h ⊢
  rw [List.any_append, h]
  rfl
theorem sz_row {α : Type} (E : EncC α) (L : List α) : (celRow E L).sz = L.length + szL (celsE E L) := rfl
theorem len_sz {α : Type} (E : EncC α) (L : List α) : L.length ≤ (celRow E L).sz := by rw [sz_row]; omega
theorem ents_len : ∀ L : List InoR, (entsOf L).length ≤ szL (celsE cIno L)
  | [] => Nat.zero_le _
  | n :: r => by
    have h1 := ents_len r
    have h2 := len_sz cEntry n.E
    have h3 := cIno_sz n
    unfold entsOf at h1 ⊢
    rw [List.flatMap_cons, List.length_append, celsE, szL_append, h3]
    have h4 : (dirE n).length ≤ n.E.length := by unfold dirE; split <;> simp
    omega
theorem recs_len : ∀ L : List InoR, (recsOf L).length ≤ szL (celsE cIno L)
  | [] => Nat.zero_le _
  | n :: r => by
    have h1 := recs_len r
    have h2 := len_sz cRec n.R
    have h3 := cIno_sz n
    unfold recsOf at h1 ⊢
    rw [List.flatMap_cons, List.length_append, celsE, szL_append, h3]
    have h4 : (filR n).length ≤ n.R.length := by unfold filR; split <;> simp
    omega
theorem ents_take (L : List InoR) (k : Nat) : (entsOf (L.take k)).length ≤ szL (celsE cIno L) := Nat.le_trans (ents_len _) (szL_take cIno L k)
theorem recs_take (L : List InoR) (k : Nat) : (recsOf (L.take k)).length ≤ szL (celsE cIno L) := Nat.le_trans (recs_len _) (szL_take cIno L k)

/-- The first directory with an entry of inode i, from number k on. -/
def aboveGo : List InoR → Int → Nat → Int
  | [], _, _ => -1
  | n :: r, i, k => if hasI (dirE n) i = true then (k : Int) else aboveGo r i (k + 1)
def aboveZ (L : List InoR) (i : Int) : Int := aboveGo L i 0
theorem aboveGo_none : ∀ (L : List InoR) (i : Int) (k : Nat), (∀ j, j < L.length → hasI (dirE (L.getD j default)) i = false) → aboveGo L i k = -1
  | [], _, _, _ => rfl
  | n :: r, i, k, h => by
    have h0 := h 0 (by simp)
    simp only [List.getD_cons_zero] at h0
    rw [aboveGo, h0, if_neg (by simp), aboveGo_none r i (k + 1) (fun j hj => by have := h (j + 1) (by simpa using hj); simpa using this)]
theorem aboveGo_some : ∀ (L : List InoR) (i : Int) (k q : Nat), q < L.length → (∀ j, j < q → hasI (dirE (L.getD j default)) i = false) → hasI (dirE (L.getD q default)) i = true → aboveGo L i k = ((k + q : Nat) : Int)
  | n :: r, i, k, 0, _, _, h1 => by
    simp only [List.getD_cons_zero] at h1
    rw [aboveGo, if_pos h1, Nat.add_zero]
  | n :: r, i, k, q + 1, hq, h, h1 => by
    have h0 := h 0 (by omega)
    simp only [List.getD_cons_zero] at h0
    rw [aboveGo, h0, if_neg (by simp), aboveGo_some r i (k + 1) q (by simpa using hq) (fun j hj => by have := h (j + 1) (by omega); simpa using this) (by simpa using h1)]
    congr 1
    omega
theorem above_none {L : List InoR} {i : Int} (h : ∀ j, j < L.length → hasI (dirE (L.getD j default)) i = false) : aboveZ L i = -1 := aboveGo_none L i 0 h
theorem above_some {L : List InoR} {i : Int} {q : Nat} (hq : q < L.length) (h : ∀ j, j < q → hasI (dirE (L.getD j default)) i = false) (h1 : hasI (dirE (L.getD q default)) i = true) : aboveZ L i = (q : Int) := by
  have := aboveGo_some L i 0 q hq h h1
  rw [Nat.zero_add] at this
  exact this
theorem above_cases (L : List InoR) (i : Int) : aboveZ L i = -1 ∨ ∃ q, q < L.length ∧ aboveZ L i = (q : Int) := by
  have key : ∀ (L : List InoR) (k : Nat), aboveGo L i k = -1 ∨ ∃ q, q < L.length ∧ aboveGo L i k = ((k + q : Nat) : Int) := by
    intro L
    induction L with
    | nil => intro k; exact .inl rfl
    | cons n r ih =>
      intro k
      by_cases h : hasI (dirE n) i = true
      · exact .inr ⟨0, by simp, by rw [aboveGo, if_pos h, Nat.add_zero]⟩
      · rcases ih (k + 1) with h1 | ⟨q, h1, h2⟩
        · exact .inl (by rw [aboveGo, if_neg h, h1])
        · exact .inr ⟨q + 1, by simpa using h1, by rw [aboveGo, if_neg h, h2]; congr 1; omega⟩
  rcases key L 0 with h | ⟨q, h1, h2⟩
  · exact .inl h
  · exact .inr ⟨q, h1, by rw [Nat.zero_add] at h2; exact h2⟩
/-- The way up, at most f steps from here, n of them gone. -/
def depthGo (L : List InoR) : Nat → Nat → Int → Int
  | 0, _, _ => -1
  | f + 1, n, i => if i = 0 then (n : Int) else if aboveZ L i < 0 then -1 else depthGo L f (n + 1) (aboveZ L i)
def depthZ (L : List InoR) (i : Int) : Int := depthGo L (L.length + 1) 0 i
theorem dirE_no {n : InoR} (h : ¬ n.kd = 2) : dirE n = [] := if_neg h
theorem dirE_yes {n : InoR} (h : n.kd = 2) : dirE n = n.E := if_pos h
theorem filR_no {n : InoR} (h : ¬ n.kd = 1) : filR n = [] := if_neg h
theorem filR_yes {n : InoR} (h : n.kd = 1) : filR n = n.R := if_pos h
end Go.Proofs.Ytmkchilhnmkhkaa
namespace Go.Proofs.Ytmkchilhnmkhkaa

/-- The name in the first entry of inode i. -/
def nameIn (M : List EntryR) (i : Int) : ByteArray := ((M.find? (fun e => e.f0 == i)).getD default).f1
theorem nameIn_at : ∀ {M : List EntryR} {i : Int} {j : Nat}, j < M.length → hasI (M.take j) i = false → (M.getD j default).f0 = i → nameIn M i = (M.getD j default).f1
  | e :: r, i, 0, _, _, h1 => by
    simp only [List.getD_cons_zero] at h1 ⊢
    unfold nameIn
    rw [List.find?_cons, show (e.f0 == i) = true by simpa using h1]
    rfl
  | e :: r, i, j + 1, hj, h, h1 => by
    unfold hasI at h
    rw [List.take_succ_cons, List.any_cons, Bool.or_eq_false_iff] at h
    have ih := nameIn_at (M := r) (i := i) (j := j) (by simpa using hj) h.2 (by simpa using h1)
    have h2 : nameIn (e :: r) i = nameIn r i := by
      unfold nameIn
      rw [List.find?_cons, h.1]
    rw [h2, ih]
    simp
end Go.Proofs.Ytmkchilhnmkhkaa
namespace Go.Proofs.Ytmkchilhnmkhkaa

def nameUp (L : List InoR) (i : Int) : ByteArray := nameIn (L.getD (aboveZ L i).toNat default).E i
/-- d steps lead from inode i to inode 0. -/
def Way (L : List InoR) : Nat → Int → Prop
  | 0, i => i = 0
  | d + 1, i => i ≠ 0 ∧ 0 ≤ aboveZ L i ∧ Way L d (aboveZ L i)
def ups (L : List InoR) : Nat → Int → List ByteArray
  | 0, _ => []
  | d + 1, i => nameUp L i :: ups L d (aboveZ L i)
theorem ups_len (L : List InoR) : ∀ d i, (ups L d i).length = d
  | 0, _ => rfl
  | d + 1, i => by rw [ups, List.length_cons, ups_len]
theorem way_of_depth (L : List InoR) : ∀ (f n : Nat) (i r : Int), depthGo L f n i = r → 0 ≤ r → ∃ d : Nat, d < f ∧ r = ((n + d : Nat) : Int) ∧ Way L d i
  | 0, n, i, r, h, h0 => by rw [depthGo] at h; omega
  | f + 1, n, i, r, h, h0 => by
    rw [depthGo] at h
    by_cases hi : i = 0
    · rw [if_pos hi] at h
      exact ⟨0, by omega, by omega, hi⟩
    · rw [if_neg hi] at h
      by_cases ha : aboveZ L i < 0
      · rw [if_pos ha] at h; omega
      · rw [if_neg ha] at h
        obtain ⟨d, h1, h2, h3⟩ := way_of_depth L f (n + 1) _ r h h0
        exact ⟨d + 1, by omega, by omega, hi, by omega, h3⟩
theorem depthGo_cases (L : List InoR) : ∀ (f n : Nat) (i : Int), depthGo L f n i = -1 ∨ 0 ≤ depthGo L f n i
  | 0, _, _ => .inl rfl
  | f + 1, n, i => by
    rw [depthGo]
    by_cases hi : i = 0
    · rw [if_pos hi]; exact .inr (by omega)
    · rw [if_neg hi]
      by_cases ha : aboveZ L i < 0
      · rw [if_pos ha]; exact .inl rfl
      · rw [if_neg ha]; exact depthGo_cases L f (n + 1) _
theorem depth_cases (L : List InoR) (i : Int) : depthZ L i = -1 ∨ 0 ≤ depthZ L i := depthGo_cases L _ 0 i
theorem above_has (L : List InoR) (i : Int) (h : 0 ≤ aboveZ L i) : ∃ q : Nat, q < L.length ∧ aboveZ L i = (q : Int) ∧ (L.getD q default).kd = 2 ∧ hasI (L.getD q default).E i = true := by
  have key : ∀ (L : List InoR) (k : Nat), 0 ≤ aboveGo L i k → ∃ q, q < L.length ∧ aboveGo L i k = ((k + q : Nat) : Int) ∧ hasI (dirE (L.getD q default)) i = true := by
    intro L
    induction L with
    | nil => intro k h; rw [aboveGo] at h; omega
    | cons n r ih =>
      intro k h
      by_cases hh : hasI (dirE n) i = true
      · exact ⟨0, by simp, by rw [aboveGo, if_pos hh, Nat.add_zero], by simpa using hh⟩
      · rw [aboveGo, if_neg hh] at h
        obtain ⟨q, h1, h2, h3⟩ := ih (k + 1) h
        exact ⟨q + 1, by simpa using h1, by rw [aboveGo, if_neg hh, h2]; congr 1; omega, by simpa using h3⟩
  obtain ⟨q, h1, h2, h3⟩ := key L 0 h
  have hk : (L.getD q default).kd = 2 := by
    by_cases hk : (L.getD q default).kd = 2
    · exact hk
    · rw [dirE_no hk] at h3; cases h3
  refine ⟨q, h1, ?_, hk, ?_⟩
  · rw [Nat.zero_add] at h2; exact h2
  · rw [dirE_yes hk] at h3; exact h3
def pathToB (L : List InoR) (i : Int) : ByteArray := if 0 ≤ i ∧ i < (L.length : Int) ∧ 0 ≤ depthZ L i then joinB (ups L (depthZ L i).toNat i).reverse else ⟨#[]⟩
theorem depth_way {L : List InoR} {i : Int} (h : 0 ≤ depthZ L i) : ∃ d : Nat, d ≤ L.length ∧ depthZ L i = (d : Int) ∧ Way L d i := by
  obtain ⟨d, h1, h2, h3⟩ := way_of_depth L _ 0 i _ rfl h
  exact ⟨d, by omega, by have : depthZ L i = ((0 + d : Nat) : Int) := h2; rw [Nat.zero_add] at this; exact this, h3⟩
theorem nameIn_size {M : List EntryR} {i : Int} {m : Nat} (h : ∀ j, j < M.length → (M.getD j default).f1.size ≤ m) : (nameIn M i).size ≤ m := by
  unfold nameIn
  cases hf : M.find? (fun e => e.f0 == i) with
  | none => exact Nat.le_trans (by decide) (Nat.zero_le m)
  | some e =>
    have h1 := List.mem_of_find?_eq_some hf
    obtain ⟨j, hj, rfl⟩ := List.mem_iff_getElem.1 h1
    have := h j hj
    simpa [List.getD, hj] using this
theorem entry_size {L : List InoR} {q j : Nat} {z : Nat} (hq : q < L.length) (hj : j < (L.getD q default).E.length) (h : szL (celsE cIno L) ≤ z) : ((L.getD q default).E.getD j default).f1.size ≤ z := by
  have h3 := szL_at cIno L q hq
  rw [cIno_sz] at h3
  have h4 := szL_at cEntry (L.getD q default).E j hj
  rw [cEntry_sz] at h4
  have h5 := sz_row cEntry (L.getD q default).E
  omega
theorem ups_size {L : List InoR} {z : Nat} (h : szL (celsE cIno L) ≤ z) : ∀ (d : Nat) (i : Int), Way L d i → ∀ x ∈ ups L d i, x.size ≤ z
  | 0, _, _, x, hx => by cases hx
  | d + 1, i, hw, x, hx => by
    rw [ups] at hx
    rcases List.mem_cons.1 hx with rfl | hx
    · obtain ⟨q, hq, he, _, _⟩ := above_has L i hw.2.1
      unfold nameUp
      rw [he]
      exact nameIn_size (fun j hj => entry_size hq hj h)
    · exact ups_size h d _ hw.2.2 x hx
end Go.Proofs.Ytmkchilhnmkhkaa
namespace Go.Proofs.Ytmkchilhnmkhkaa
open Go.RowKit
def SaysB (b : Bool) (w : World) (e : Ending) (w' : World) : Prop := e = .returned (.bool b) ∧ Below w.heap.size w w'
end Go.Proofs.Ytmkchilhnmkhkaa
namespace Go.Proofs.Ytmkchilhnmkhkaa
open Go.RowKit

/-- A block of four cells. -/
def Four (w : World) (b : Nat) (T P I Q : Int) (t : TypeId) : Prop := w.heap[b]? = some (.cells #[.int .i64 T, .int .i64 P, .int .i64 I, .int .i64 Q] t (0, 0))
theorem Four.lt {w : World} {b : Nat} {T P I Q : Int} {t : TypeId} (h : Four w b T P I Q t) : b < w.heap.size := (Array.getElem?_eq_some_iff.1 h).1
theorem Four.later {w w' : World} {b : Nat} {T P I Q : Int} {t : TypeId} (h : Four w b T P I Q t) (hb : Below w.heap.size w w') : Four w' b T P I Q t := (hb.block b h.lt).trans h
theorem Four.alloc (w : World) (T P I Q : Int) (t : TypeId) : Four (w.alloc (.cells #[.int .i64 T, .int .i64 P, .int .i64 I, .int .i64 Q] t)) w.heap.size T P I Q t := heap_alloc_new w _
theorem Four.c0 {w : World} {b : Nat} {T P I Q : Int} {t : TypeId} (h : Four w b T P I Q t) : w.cell? ⟨b, 0, none⟩ = some (.int .i64 T) := by unfold Four at h; simp [World.cell?, h]
theorem Four.c1 {w : World} {b : Nat} {T P I Q : Int} {t : TypeId} (h : Four w b T P I Q t) : w.cell? ⟨b, 1, none⟩ = some (.int .i64 P) := by unfold Four at h; simp [World.cell?, h]
theorem Four.c2 {w : World} {b : Nat} {T P I Q : Int} {t : TypeId} (h : Four w b T P I Q t) : w.cell? ⟨b, 2, none⟩ = some (.int .i64 I) := by unfold Four at h; simp [World.cell?, h]
theorem Four.c3 {w : World} {b : Nat} {T P I Q : Int} {t : TypeId} (h : Four w b T P I Q t) : w.cell? ⟨b, 3, none⟩ = some (.int .i64 Q) := by unfold Four at h; simp [World.cell?, h]
theorem Four.fr {w : World} {b o : Nat} {T P I Q : Int} {t : TypeId} (h : Four w b T P I Q t) : w.frozen? ⟨b, o, none⟩ = false := by unfold Four at h; simp [World.frozen?, h]
theorem Four.drew {w : World} {b : Nat} {T P I Q : Int} {t : TypeId} (h : Four w b T P I Q t) : Four w.drew b T P I Q t := h
theorem Four.setOther' {w : World} {b c o : Nat} {T P I Q : Int} {t : TypeId} {v : Value} (h : Four w b T P I Q t) (hne : b ≠ c) : Four (w.setCell ⟨c, o, none⟩ v) b T P I Q t := (Below.heap_setCell _ _ _ _ hne).trans h
theorem below_al (w : World) (o : Obj) : Below w.heap.size w (w.alloc o) := (Below.refl _ _).alloc (Nat.le_refl _) _

/-- Whether a layout is valid. -/
def GeoR (T P I Q : Int) : Prop := 1 ≤ T ∧ T ≤ 3 ∧ 5 ≤ P ∧ P ≤ 12 ∧ 2 ≤ I ∧ I ≤ 6 ∧ 1 ≤ Q ∧ Q ≤ P - 4
instance (T P I Q : Int) : Decidable (GeoR T P I Q) := by unfold GeoR; infer_instance
def SaysI (n : Int) (w : World) (e : Ending) (w' : World) : Prop := e = .returned (.int .i64 n) ∧ Below w.heap.size w w'
theorem geo_cases {T P I Q : Int} (h : ¬ GeoR T P I Q) : (¬ (1 ≤ T ∧ T ≤ 3)) ∨ ((1 ≤ T ∧ T ≤ 3) ∧ ¬ (5 ≤ P ∧ P ≤ 12)) ∨ ((1 ≤ T ∧ T ≤ 3) ∧ (5 ≤ P ∧ P ≤ 12) ∧ ¬ (2 ≤ I ∧ I ≤ 6)) ∨ ((1 ≤ T ∧ T ≤ 3) ∧ (5 ≤ P ∧ P ≤ 12) ∧ (2 ≤ I ∧ I ≤ 6) ∧ ¬ (1 ≤ Q ∧ Q ≤ P - 4)) := by
  unfold GeoR at h; omega
theorem within_cases (n a b : Int) : (a ≤ n ∧ n ≤ b) ∨ n < a ∨ (a ≤ n ∧ b < n) := by omega

/-- The words of a part. -/
def wordsOf (P I : Int) : Int := 38 + 8 * I + 4 * P
end Go.Proofs.Ytmkchilhnmkhkaa
namespace Go.Proofs.Ytmkchilhnmkhkaa
open Go.RowKit Go.Proofs.Ytmkchilhnmkhkaa.Parts Go.Proofs.Ytmkchilhnmkhkaa.Hexa

set_option maxRecDepth 100000 in
set_option maxHeartbeats 2000000 in
theorem specAbove_any (p : PartR) (a1 : Option Addr) (c1 : Nat) (a2 : Option Addr) (c2 : Nat) (i : Int) (w : World) (h2 : (celRow cIno p.ino).Rd w (.slice a2 p.ino.length c2)) (hz : szL (cPart.cels p) ≤ 100000000) :
    Calls Try.prog 40 #[.agg #[.int .i64 p.ser, .slice a1 p.st.length c1, .slice a2 p.ino.length c2], .int .i64 i] w (SaysI (aboveZ p.ino i) w) := by
  have B0 := Lib.hid (below_bk w (.cells #[.int .i64 p.ser, .slice a1 p.st.length c1, .slice a2 p.ino.length c2] 36))
  have T0 := Lib.hid (Bk.alloc w #[.int .i64 p.ser, .slice a1 p.st.length c1, .slice a2 p.ino.length c2] 36)
  have HS := Lib.hid (Cel.Rd.later B0.out _ _ h2)
  rw [cPart_sz] at hz
  have hz1 : p.ino.length + szL (celsE cIno p.ino) ≤ 100000000 := by have := sz_row cIno p.ino; omega
  have HE : Hid (∀ k, (entsOf (p.ino.take k)).length ≤ 100000000) := Lib.hid (fun k => by have := ents_take p.ino k; omega)
  have hn : p.ino.length ≤ 100000000 := by omega
  have HY : Hid (∀ k, k < p.ino.length → (p.ino.getD k default).E.length ≤ 100000000) := Lib.hid (fun k hk => by
    have h3 := szL_at cIno p.ino k hk
    rw [cIno_sz] at h3
    have := len_sz cEntry (p.ino.getD k default).E
    omega)
  clear h2 hz hz1
  obtain ⟨W0, hW0⟩ : ∃ x, x = w.alloc (.cells #[.int .i64 p.ser, .slice a1 p.st.length c1, .slice a2 p.ino.length c2] 36) := ⟨_, rfl⟩
  rw [← hW0] at B0 T0 HS
  have HW0 := Lib.hid hW0
  clear hW0
  have c2' := T0.out.cell (j := 2) rfl
  go_enter Try.func40, Try.ntmps40
  go_wp2
  rw [← HW0.out]
  go_loopw [5] (fun kv wr => ∃ (k : Nat), k ≤ p.ino.length ∧ kv = .int .i64 k ∧ Hid (∀ j, j < k → hasI (dirE (p.ino.getD j default)) i = false) ∧ W0 = wr) (fun kv _ => p.ino.length - (intOf kv).toNat)
  case atStart => exact ⟨0, Nat.zero_le _, rfl, Lib.hid (fun j hj => by omega), rfl⟩
  case round =>
    obtain ⟨k, hk, rfl, HM, rfl⟩ := hrel
    by_cases hlt : k < p.ino.length
    · have hy := HY.out k hlt
      have HA : Hid (hasI (dirE (p.ino.getD k default)) i = true → aboveZ p.ino i = (k : Int)) := Lib.hid (fun h => above_some hlt HM.out h)
      have HB : Hid (hasI (dirE (p.ino.getD k default)) i = false → ∀ j, j < k + 1 → hasI (dirE (p.ino.getD j default)) i = false) := Lib.hid (fun h j hj => by
        by_cases e : j = k
        · rw [e]; exact h
        · exact HM.out j (by omega))
      obtain ⟨g, off, a4, c4, a5, c5, rfl, hg, d0, d1, d2, d3, d4, d5, r4, r5⟩ := cIno_at HS.out k hlt
      obtain ⟨x, hx⟩ : ∃ x, p.ino.getD k default = x := ⟨_, rfl⟩
      rw [hx] at d0 d5 r5 hy HA HB
      clear hx d1 d2 d3 d4 r4
      have R5 := Lib.hid r5
      clear r5
      go_wp2
      go_loopw [6] (fun jv wr => ∃ (j : Nat), j ≤ x.E.length ∧ jv = .int .i64 j ∧ Hid (hasI (x.E.take j) i = false) ∧ (x.kd = 2 ∨ j = 0) ∧ W0 = wr) (fun jv _ => x.E.length - (intOf jv).toNat)
      case atStart => exact ⟨0, Nat.zero_le _, rfl, Lib.hid rfl, .inr rfl, rfl⟩
      case round =>
        obtain ⟨j, hj, rfl, HM', hor, rfl⟩ := hrel
        by_cases hjt : j < x.E.length
        · by_cases hkd : x.kd = 2
          · rw [hkd] at d0
            obtain ⟨ge, oe, rfl, hge, q0, q1⟩ := cEntry_at R5.out j hjt
            have HN := Lib.hid (hasI_next (i := i) hjt)
            obtain ⟨ev, hev⟩ : ∃ e, (x.E.getD j default).f0 = e := ⟨_, rfl⟩
            rw [hev] at q0 HN
            clear q1 hev
            by_cases hq : ev = i
            · have HC : Hid (aboveZ p.ino i = (k : Int)) := Lib.hid (HA.out (by rw [dirE_yes hkd]; exact hasI_take (j := j + 1) (by rw [HN.out, hq]; simp)))
              go_wp2
              go_ret
              exact ⟨ret_i64m HC.out.symm, B0.out⟩
            · have HC : Hid (hasI (x.E.take (j + 1)) i = false) := Lib.hid (by rw [HN.out, HM'.out]; simpa using hq)
              go_wp2
              go_roundw
              case rel => exact ⟨j + 1, by omega, by go_num, HC, by simp [hkd], by first | rfl | trivial⟩
              case measure => (simp [intOf]; try omega)
          · have HC := Lib.hid (HB.out (by rw [dirE_no hkd]; rfl))
            go_wp2
            go_roundw
            case rel => exact ⟨k + 1, by omega, by go_num, HC, by first | rfl | trivial⟩
            case measure => (simp [intOf]; try omega)
        · obtain rfl : j = x.E.length := by omega
          have HC := Lib.hid (HB.out (by
            have h9 := HM'.out
            rw [List.take_length] at h9
            by_cases hkd : x.kd = 2
            · rw [dirE_yes hkd]; exact h9
            · rw [dirE_no hkd]; rfl))
          go_wp2
          go_roundw
          case rel => exact ⟨k + 1, by omega, by go_num, HC, by first | rfl | trivial⟩
          case measure => (simp [intOf]; try omega)
    · obtain rfl : k = p.ino.length := by omega
      have HC := Lib.hid (above_none HM.out)
      go_wp2
      go_ret
      exact ⟨ret_i64m HC.out.symm, B0.out⟩

set_option maxRecDepth 100000 in
set_option maxHeartbeats 2000000 in
theorem specDepth_any (p : PartR) (a1 : Option Addr) (c1 : Nat) (a2 : Option Addr) (c2 : Nat) (i : Int) (w : World) (h2 : (celRow cIno p.ino).Rd w (.slice a2 p.ino.length c2)) (hz : szL (cPart.cels p) ≤ 100000000) :
    Calls Try.prog 39 #[.agg #[.int .i64 p.ser, .slice a1 p.st.length c1, .slice a2 p.ino.length c2], .int .i64 i] w (SaysI (depthZ p.ino i) w) := by
  have B0 := Lib.hid (below_bk w (.cells #[.int .i64 p.ser, .slice a1 p.st.length c1, .slice a2 p.ino.length c2] 36))
  have T0 := Lib.hid (Bk.alloc w #[.int .i64 p.ser, .slice a1 p.st.length c1, .slice a2 p.ino.length c2] 36)
  have HS := Lib.hid h2
  have HZ := Lib.hid hz
  rw [cPart_sz] at hz
  have hn : p.ino.length ≤ 100000000 := by have := sz_row cIno p.ino; omega
  clear h2 hz
  obtain ⟨d, hd⟩ : ∃ d, depthZ p.ino i = d := ⟨_, rfl⟩
  rw [hd]
  have HD : Hid (depthGo p.ino (p.ino.length + 1) 0 i = d) := Lib.hid hd
  clear hd
  go_enter Try.func39, Try.ntmps39
  go_wp2
  go_loopw [1, 5] (fun iv nv wr => ∃ (n : Nat) (z : Int), n ≤ p.ino.length + 1 ∧ nv = .int .i64 n ∧ iv = .int .i64 z ∧ Hid (depthGo p.ino (p.ino.length + 1 - n) n z = d) ∧ Below w.heap.size w wr ∧ Hid (Bk wr w.heap.size #[.int .i64 p.ser, .slice a1 p.st.length c1, .slice a2 p.ino.length c2] 36)) (fun _ nv _ => p.ino.length + 1 - (intOf nv).toNat)
  case atStart => exact ⟨0, i, Nat.zero_le _, rfl, rfl, HD, B0.out, T0⟩
  case round =>
    clear HD T0
    obtain ⟨n, z, hnn, rfl, rfl, HG, hbel, HT⟩ := hrel
    have t0 := HT.out.cell (j := 0) rfl
    have t1 := HT.out.cell (j := 1) rfl
    have t2 := HT.out.cell (j := 2) rfl
    by_cases hlt : n ≤ p.ino.length
    · have HG2 : Hid ((if z = 0 then (n : Int) else if aboveZ p.ino z < 0 then -1 else depthGo p.ino (p.ino.length + 1 - (n + 1)) (n + 1) (aboveZ p.ino z)) = d) := Lib.hid (by
        have h9 := HG.out
        rw [show p.ino.length + 1 - n = (p.ino.length + 1 - (n + 1)) + 1 by omega, depthGo] at h9
        exact h9)
      clear HG
      by_cases hz0 : z = 0
      · have HE : Hid ((n : Int) = d) := Lib.hid (by have h9 := HG2.out; rw [if_pos hz0] at h9; exact h9)
        subst hz0
        go_wp2
        go_ret
        exact ⟨ret_i64m HE.out, hbel⟩
      · go_wp2_with fail
        refine (specAbove_any p a1 c1 a2 c2 z _ (Cel.Rd.later hbel _ _ HS.out) HZ.out).mono ?_
        rintro e w1 ⟨rfl, hb⟩
        have HT1 := Lib.hid (HT.out.later hb)
        have hb2 : Below w.heap.size w w1 := hbel.trans (hb.mono hbel.size)
        obtain ⟨q, hq⟩ : ∃ q, aboveZ p.ino z = q := ⟨_, rfl⟩
        have HG3 := HG2.out
        rw [if_neg hz0, hq] at HG3
        rw [hq]
        have HG4 := Lib.hid HG3
        clear HG3 hb hq HG2 t0 t1 t2
        by_cases hq0 : q < 0
        · have HE : Hid (-1 = d) := Lib.hid (by have h9 := HG4.out; rw [if_pos hq0] at h9; exact h9)
          go_wp2
          go_ret
          exact ⟨ret_i64m HE.out, hb2⟩
        · have HE : Hid (depthGo p.ino (p.ino.length + 1 - (n + 1)) (n + 1) q = d) := Lib.hid (by have h9 := HG4.out; rw [if_neg hq0] at h9; exact h9)
          go_wp2
          go_roundw
          case rel => exact ⟨n + 1, q, by omega, by go_num, rfl, HE, hb2, HT1⟩
          case measure => (simp [intOf]; try omega)
    · obtain rfl : n = p.ino.length + 1 := by omega
      have HE : Hid (-1 = d) := Lib.hid (by have h9 := HG.out; rw [Nat.sub_self] at h9; exact h9)
      go_wp2
      go_ret
      exact ⟨ret_i64m HE.out, hbel⟩
end Go.Proofs.Ytmkchilhnmkhkaa
namespace Go.Proofs.Ytmkchilhnmkhkaa
open Go.RowKit Go.Proofs.Ytmkchilhnmkhkaa.Parts Go.Proofs.Ytmkchilhnmkhkaa.Hexa

theorem SrcE.news {α : Type} [Inhabited α] {E : Enc α} {w : World} {p : Addr} {n : Nat} {L : List α} (h : SrcE E w (some p) n L) (hk0 : 0 < E.k) : ∀ j u, (cellsE E L)[j]? = some u → w.cell? (p.add j) = some u := by
  intro j u hu
  have hj : j < L.length * E.k := by
    rcases Nat.lt_or_ge j (L.length * E.k) with h | h
    · exact h
    · rw [List.getElem?_eq_none (by rw [cellsE_length]; exact h)] at hu; cases hu
  have hd : j = j / E.k * E.k + j % E.k := by rw [Nat.mul_comm]; exact (Nat.div_add_mod j E.k).symm
  have hq : j / E.k < L.length := (Nat.div_lt_iff_lt_mul hk0).2 hj
  have hr := Nat.mod_lt j hk0
  rw [hd, cellsE_at E L _ _ hq hr] at hu
  obtain ⟨g, off, e, _, c⟩ := h.cell (j / E.k) (by rw [← h.len]; exact hq)
  cases e
  have := c _ _ hu
  rw [Nat.add_assoc, ← hd] at this
  rw [Addr.add_lit]; exact this

/-- What an append gives: a slice that owns the cells, in the row that it had or in a new one. -/
def AppE (P : Program) (args : Array TypeId) (ty : TypeId) (vs : Array Value) (w : World) (B e k n : Nat) (xs : List Value) (v : Value) : Prop :=
  ∃ v' w', (Builtin.append_ args ty vs).run P w = .ok v' w' ∧ w'.ownsRow B e k v' n xs ∧ w.grownBy w' v.ownBlock ∧ (v'.ownBlock = v.ownBlock ∨ v'.ownBlock = some w.heap.size)

theorem run_append_nothing {P : Program} (w : World) (base : Nat) (t ty e : TypeId) (i : TypeInfo) (size : Nat) (ht : P.underlying t = some (.slice e)) (hi : P.info? e = some i)
    (v : Value) (n c : Nat) (xs : List Value) (hown : w.ownsRow base e size v n xs) :
    (Builtin.append_ #[t, t] ty #[v, .slice none 0 c]).run P w = .ok v w := by
  rcases hown.2 with ⟨rfl, rfl⟩ | ⟨g, cap, cur, rfl, _, _, hnc, _⟩
  · simp [Builtin.append_, run_underlying ht, sizeOf, typeInfo, hi, Builtin.lenOf, Builtin.firstCells]
  · simp [Builtin.append_, run_underlying ht, sizeOf, typeInfo, hi, Builtin.lenOf, Builtin.firstCells, hnc, storeCells]

theorem wpList_appE {P : Program} {ops : Array Oper} {rest : List Oper} {o : Oper} {a : Act} {w : World} {Q : Exit → Act → World → Prop} (hgd : o.guard = none) (s x : Operand) (t tn : TypeId)
    (ho : o.op = .call { callee := .builtin .append, args := #[s, x], argTypes := #[t, tn] }) (vs vx : Value) (hs : a.eval s = vs) (hx : a.eval x = vx) {B e k n : Nat} {xs : List Value}
    (hr : AppE P #[t, tn] o.type #[vs, vx] w B e k n xs vs) (h : ∀ v' w', w'.ownsRow B e k v' n xs → w.grownBy w' vs.ownBlock → (v'.ownBlock = vs.ownBlock ∨ v'.ownBlock = some w.heap.size) → wpList P ops Q rest (a.put o.dst v') w') : wpList P ops Q (o :: rest) a w := by
  obtain ⟨v', w', r, h1, h2, h3⟩ := hr
  exact Lib.wpList_append_run w hgd s x t tn ho vs vx hs hx v' w' r (h v' w' h1 h2 h3)
/-- At a step of a region that draws its order. -/
theorem step_appE {P : Program} {ops : Array Oper} {o : Oper} {a : Act} {w : World} {K : Act → World → Prop} {Q : Exit → Act → World → Prop} {E : Prop} (hgd : o.guard = none) (s x : Operand) (t tn : TypeId)
    (ho : o.op = .call { callee := .builtin .append, args := #[s, x], argTypes := #[t, tn] }) (vs vx : Value) (hs : a.eval s = vs) (hx : a.eval x = vx) {B e k n : Nat} {xs : List Value}
    (hr : AppE P #[t, tn] o.type #[vs, vx] w B e k n xs vs) (h : ∀ v' w', w'.ownsRow B e k v' n xs → w.grownBy w' vs.ownBlock → (v'.ownBlock = vs.ownBlock ∨ v'.ownBlock = some w.heap.size) → K (a.put o.dst v') w') :
    if Region.wanted o (yielded ops a.tmps) = true then Oper.wp P o a w K Q else E := by
  obtain ⟨v', w', r, h1, h2, h3⟩ := hr
  rw [if_pos (by simp [Region.wanted, hgd])]
  exact Lib.wp_append_run w s x t tn ho vs vx hs hx v' w' r (h v' w' h1 h2 h3)

end Go.Proofs.Ytmkchilhnmkhkaa
namespace Go.Proofs.Ytmkchilhnmkhkaa
open Go.RowKit Go.Proofs.Ytmkchilhnmkhkaa.Parts Go.Proofs.Ytmkchilhnmkhkaa.Hexa

theorem infoApT : (Try.prog.info? 9).map (fun i => (i.zero, i.size, i.bytes)) = some (some (.string ⟨#[]⟩), 1, 16) := by kernel_rfl
theorem scells_len (L : List ByteArray) : (scells L).length = L.length := by simp [scells]
theorem appTs (w : World) (ty : TypeId) (B : Nat) (v : Value) (n : Nat) (L : List ByteArray) (hown : w.ownsRow B 9 1 v n (scells L)) (hB : B ≤ w.heap.size) (a : Option Addr) (m c : Nat) (M : List ByteArray) (hs : SrcT w a m M) (hnm : n + m ≤ 100000000) :
    AppE Try.prog #[22, 22] ty #[v, .slice a m c] w B 9 1 (n + m) (scells (L ++ M)) v := by
  obtain ⟨i0, hi, hz0, hz1, hz2⟩ := info_parts infoApT
  rw [show scells (L ++ M) = scells L ++ scells M by simp [scells]]
  cases a with
  | none =>
    have hm0 : m = 0 := by
      rcases Nat.eq_zero_or_pos m with h | h
      · exact h
      · obtain ⟨g, off, e, _⟩ := hs.cell 0 h; cases e
    subst hm0
    have hM : M = [] := List.length_eq_zero_iff.1 hs.len
    subst hM
    exact ⟨v, w, run_append_nothing w B _ ty _ i0 1 Try.underlying22 hi v n c _ hown, by simpa [scells] using hown, ⟨rfl, rfl, rfl, Nat.le_refl _, fun _ _ _ => rfl⟩, .inl rfl⟩
  | some p =>
    obtain ⟨v', w', hr, h2, h3, _, h5⟩ := run_append_own_at (P := Try.prog) w B 22 ty 9 i0 _ 1 16 Try.underlying22 hi hz0 hz1 hz2 rfl (by decide) v n _ hown p m c (scells M) (by rw [scells_len, hs.len]; omega) (by rw [← cellsT_eq]; exact SrcE.news hs (by decide)) (by simp [scells, Value.oneCell']) (by unfold maxLen; omega) (by omega) hB
    exact ⟨v', w', hr, h2, h3, h5⟩
end Go.Proofs.Ytmkchilhnmkhkaa
namespace Go.Proofs.Ytmkchilhnmkhkaa
open Go.RowKit Go.Proofs.Ytmkchilhnmkhkaa.Parts Go.Proofs.Ytmkchilhnmkhkaa.Hexa

set_option maxRecDepth 100000 in
set_option maxHeartbeats 4000000 in
theorem specPathTo_any (p : PartR) (a1 : Option Addr) (c1 : Nat) (a2 : Option Addr) (c2 : Nat) (i : Int) (w : World) (h2 : (celRow cIno p.ino).Rd w (.slice a2 p.ino.length c2)) (hz : szL (cPart.cels p) ≤ 1048576) :
    Calls Try.prog 15 #[.agg #[.int .i64 p.ser, .slice a1 p.st.length c1, .slice a2 p.ino.length c2], .int .i64 i] w (SaysT (pathToB p.ino i) w) := by
  have B0 := Lib.hid (below_bk w (.cells #[.int .i64 p.ser, .slice a1 p.st.length c1, .slice a2 p.ino.length c2] 36))
  have T0 := Lib.hid (Bk.alloc w #[.int .i64 p.ser, .slice a1 p.st.length c1, .slice a2 p.ino.length c2] 36)
  have HS := Lib.hid h2
  have HZ : Hid (szL (cPart.cels p) ≤ 100000000) := Lib.hid (by omega)
  rw [cPart_sz] at hz
  have hn : p.ino.length ≤ 1048576 := by have := sz_row cIno p.ino; omega
  have hzi : szL (celsE cIno p.ino) ≤ 1048576 := by have := sz_row cIno p.ino; omega
  have HY : Hid (∀ k, k < p.ino.length → (p.ino.getD k default).E.length ≤ 100000000) := Lib.hid (fun k hk => by
    have h3 := szL_at cIno p.ino k hk
    rw [cIno_sz] at h3
    have := len_sz cEntry (p.ino.getD k default).E
    omega)
  have HUS := Lib.hid (fun (d : Nat) (j : Int) (h : Way p.ino d j) => ups_size hzi d j h)
  clear h2 hz hzi
  have t2 := T0.out.cell (j := 2) rfl
  by_cases hin : 0 ≤ i ∧ i ≤ (p.ino.length : Int) - 1
  case neg =>
    have HR : Hid (pathToB p.ino i = ⟨#[]⟩) := Lib.hid (by unfold pathToB; rw [if_neg (fun h => hin ⟨h.1, by omega⟩)])
    have HIN := Lib.hid hin
    clear hin
    go_enter Try.func15, Try.ntmps15
    go_wp2_with ((with_reducible refine (range_no _ HIN.out).mono ?_); rintro e w9 ⟨rfl, rfl⟩)
    go_ret
    exact ⟨by rw [HR.out]; rfl, B0.out⟩
  have HIN := Lib.hid hin
  obtain ⟨dz, hdz⟩ : ∃ z, depthZ p.ino i = z := ⟨_, rfl⟩
  have HDZ := Lib.hid hdz
  have T1 := T0
  go_enter Try.func15, Try.ntmps15
  have t0 := T0.out.cell (j := 0) rfl
  have t1 := T0.out.cell (j := 1) rfl
  go_wp2_with (first
    | ((with_reducible refine (range_yes _ HIN.out).mono ?_); rintro e w9 ⟨rfl, rfl⟩)
    | fail)
  refine (specDepth_any p a1 c1 a2 c2 i _ (Cel.Rd.later B0.out _ _ HS.out) HZ.out).mono ?_
  rw [HDZ.out]
  rintro e w1 ⟨rfl, hb⟩
  have HT := Lib.hid (T0.out.later hb)
  have HB : Hid (Below w.heap.size w w1) := Lib.hid (B0.out.trans (hb.mono B0.out.size))
  clear hb T0 T1 B0 t0 t1 t2
  by_cases hneg : dz < 0
  · have HR : Hid (pathToB p.ino i = ⟨#[]⟩) := Lib.hid (by unfold pathToB; rw [if_neg (fun h => by rw [hdz] at h; omega)])
    go_wp2
    go_ret
    exact ⟨by rw [HR.out]; rfl, HB.out⟩
  obtain ⟨d0, hd0, hd1, hway⟩ := depth_way (L := p.ino) (i := i) (by rw [hdz]; omega)
  obtain ⟨R, hRR⟩ : ∃ R, (ups p.ino d0 i).reverse = R := ⟨_, rfl⟩
  have HR : Hid (pathToB p.ino i = joinB R) := Lib.hid (by
    unfold pathToB
    rw [if_pos ⟨hin.1, by omega, by rw [hdz]; omega⟩, hd1, ← hRR]
    rfl)
  have HRM : Hid (∀ j, j < R.length → (R.getD j default).size ≤ 2000000) := Lib.hid (fun j hj => by
    have h9 := HUS.out d0 i hway (R.getD j default) (by
      rw [← List.mem_reverse, hRR]
      simp [List.getD, hj])
    omega)
  have HRL : Hid (R.length = d0) := Lib.hid (by rw [← hRR, List.length_reverse, ups_len])
  have HW : Hid (Way p.ino d0 i) := Lib.hid hway
  have HU : Hid ((ups p.ino d0 i).reverse ++ [] = R) := Lib.hid (by rw [List.append_nil]; exact hRR)
  have hd0' : d0 ≤ 1048576 := by omega
  have hg0 : decide (dz < 0) = false := decide_eq_false hneg
  clear hway hRR hd1 hdz HDZ hin HIN
  go_wp2
  clear hg0
  have P0 : Hid ((w1.alloc (.cells #[] 9)).ownsRow (w.heap.size + 1) 9 1 (.slice (some ⟨w1.heap.size, 0, none⟩) 0 0) ([] : List ByteArray).length (scells [])) := Lib.hid (World.ownsRow_lit w1 #[] 0 HT.out.lt (by decide) rfl)
  have HB1 : Hid (Below w.heap.size w (w1.alloc (.cells #[] 9))) := Lib.hid (HB.out.alloc HB.out.size _)
  have HT1 : Hid (Bk (w1.alloc (.cells #[] 9)) w.heap.size #[.int .i64 p.ser, .slice a1 p.st.length c1, .slice a2 p.ino.length c2] 36) := Lib.hid (HT.out.later ((Below.refl _ _).alloc (Nat.le_refl _) _))
  go_loopg [1, 5] d0 (fun k iv nv wr => ∃ (d : Nat) (z : Int) (A : List ByteArray), d ≤ k ∧ A.length + d = d0 ∧ iv = .int .i64 z ∧ Hid (Way p.ino d z) ∧ Hid ((ups p.ino d z).reverse ++ A = R) ∧ Hid (wr.ownsRow (w.heap.size + 1) 9 1 nv A.length (scells A)) ∧ Hid (Below w.heap.size w wr) ∧ Hid (Bk wr w.heap.size #[.int .i64 p.ser, .slice a1 p.st.length c1, .slice a2 p.ino.length c2] 36))
  case atStart => exact ⟨d0, i, [], Nat.le_refl _, by simp, rfl, HW, HU, P0, HB1, HT1⟩
  case round =>
    clear HW HU P0 HB1 HT1 HB HT
    obtain ⟨d, z, A, hdk, hAd, rfl, HW, HU, HO, HB, HT⟩ := hrel
    have t0 := HT.out.cell (j := 0) rfl
    have t1 := HT.out.cell (j := 1) rfl
    have t2 := HT.out.cell (j := 2) rfl
    obtain ⟨ad, cap, rfl, hcap, hnc, hr⟩ := own_form HO.out
    clear hr
    unfold maxLen at hcap
    cases d with
    | zero =>
      have hz : z = 0 := HW.out
      subst hz
      have HA : Hid (A = R) := Lib.hid (by have := HU.out; rw [ups, List.reverse_nil, List.nil_append] at this; exact this)
      have HSA : Hid (SrcT wr ad A.length R) := Lib.hid (by have := srcT_of_own HO.out; rw [← HA.out]; exact this)
      have HRM2 : Hid (∀ j, j < A.length → (R.getD j default).size ≤ 2000000) := Lib.hid (fun j hj => HRM.out j (by rw [← HA.out]; exact hj))
      go_wp2_with fail
      refine (specJoin_any ad A.length cap R _ HSA.out (by omega) HRM2.out).mono ?_
      rw [← HR.out]
      rintro e w5 ⟨rfl, hb5⟩
      have HB5 : Below w.heap.size w w5 := HB.out.trans (hb5.mono HB.out.size)
      clear hb5 t0 t1 t2
      go_wp2
      go_ret
      exact ⟨rfl, HB5⟩
    | succ d =>
      have hz : ¬ z = 0 := HW.out.1
      obtain ⟨q, hq, hqz, hkd, hhas⟩ := above_has p.ino z HW.out.2.1
      have HW2 : Hid (Way p.ino d (q : Int)) := Lib.hid (by have := HW.out.2.2; rw [hqz] at this; exact this)
      have HU2 : Hid ((ups p.ino d (q : Int)).reverse ++ ([nameIn (p.ino.getD q default).E z] ++ A) = R) := Lib.hid (by
        have h9 := HU.out
        rw [ups, List.reverse_cons, List.append_assoc, hqz] at h9
        unfold nameUp at h9
        rw [hqz] at h9
        exact h9)
      have HQZ := Lib.hid hqz
      clear HW HU hqz
      go_wp2_with fail
      refine (specAbove_any p a1 c1 a2 c2 z _ (Cel.Rd.later HB.out _ _ HS.out) HZ.out).mono ?_
      rw [HQZ.out]
      rintro e w5 ⟨rfl, hb5⟩
      have HB5 : Hid (Below w.heap.size w w5) := Lib.hid (HB.out.trans (hb5.mono HB.out.size))
      have HT5 := Lib.hid (HT.out.later hb5)
      have HO5 := Lib.hid (own_below HO.out hb5)
      clear hb5 t0 t1 t2 HO HB HT
      have t2 := HT5.out.cell (j := 2) rfl
      have hy := HY.out q hq
      obtain ⟨g, off, a4, c4, a5, c5, rfl, hg, e0, e1, e2, e3, e4, e5, r4, r5⟩ := cIno_at (Cel.Rd.later HB5.out _ _ HS.out) q hq
      obtain ⟨x, hx⟩ : ∃ x, p.ino.getD q default = x := ⟨_, rfl⟩
      rw [hx] at e5 r5 hy hhas
      have HX := Lib.hid hx
      have R5 := Lib.hid r5
      have HH := Lib.hid hhas
      clear hx e0 e1 e2 e3 e4 r4 r5 hhas hkd
      go_wp2
      go_loopw [5, 7] (fun nv jv wr => ∃ (j : Nat), j ≤ x.E.length ∧ jv = .int .i64 j ∧ nv = .slice ad A.length cap ∧ Hid (hasI (x.E.take j) z = false) ∧ w5 = wr) (fun _ jv _ => x.E.length - (intOf jv).toNat)
      case atStart => exact ⟨0, Nat.zero_le _, rfl, rfl, Lib.hid rfl, rfl⟩
      case round =>
        obtain ⟨j, hj, rfl, rfl, HM, rfl⟩ := hrel
        by_cases hjt : j < x.E.length
        · obtain ⟨ge, oe, rfl, hge, q0, q1⟩ := cEntry_at R5.out j hjt
          have HN := Lib.hid (hasI_next (i := z) hjt)
          obtain ⟨ev, hev⟩ : ∃ e, x.E.getD j default = e := ⟨_, rfl⟩
          rw [hev] at q0 q1 HN
          have HEV := Lib.hid hev
          clear hev
          by_cases hqe : ev.f0 = z
          · have HNm : Hid (nameIn (p.ino.getD q default).E z = ev.f1) := Lib.hid (by rw [HX.out, nameIn_at hjt HM.out (by rw [HEV.out]; exact hqe), HEV.out])
            have L1 : Hid ((w5.alloc (.cells #[.string ev.f1] 9)).ownsRow (w.heap.size + 1) 9 1 (.slice (some ⟨w5.heap.size, 0, none⟩) 1 1) 1 (scells [ev.f1])) := Lib.hid (World.ownsRow_lit w5 #[.string ev.f1] 1 HT5.out.lt (by decide) rfl)
            have HBA : Hid (Below w.heap.size w (w5.alloc (.cells #[.string ev.f1] 9))) := Lib.hid (HB5.out.alloc HB5.out.size _)
            have HSA : Hid (SrcT (w5.alloc (.cells #[.string ev.f1] 9)) ad A.length A) := Lib.hid (srcT_of_own (own_below HO5.out ((Below.refl _ _).alloc (Nat.le_refl _) _)))
            have HTA := Lib.hid (HT5.out.later ((Below.refl _ _).alloc (Nat.le_refl _) (.cells #[.string ev.f1] 9)))
            have hr : AppE Try.prog #[22, 22] 22 #[.slice (some ⟨w5.heap.size, 0, none⟩) 1 1, .slice ad A.length cap] (w5.alloc (.cells #[.string ev.f1] 9)) (w.heap.size + 1) 9 1 (1 + A.length) (scells ([ev.f1] ++ A)) (.slice (some ⟨w5.heap.size, 0, none⟩) 1 1) :=
              appTs _ _ _ _ 1 [ev.f1] L1.out (by have := HT5.out.lt; simp; omega) ad A.length cap A HSA.out (by omega)
            subst hqe
            go_wp2_with (at_builtin; refine wpList_appE rfl _ _ _ _ rfl _ _ rfl rfl hr ?_; clear hr; intro v' w6 h1 h2 h3)
            have HB6 : Hid (Below w.heap.size w w6) := Lib.hid (HBA.out.grown h2 (by have := HT5.out.lt; simp; omega) (fun k hk => by cases hk; exact HB5.out.size))
            have HT6 := Lib.hid (HTA.out.grown h2 (fun e => by have h9 : w5.heap.size = w.heap.size := Option.some.inj e; have := HT5.out.lt; omega))
            have HO6 : Hid (w6.ownsRow (w.heap.size + 1) 9 1 v' ([ev.f1] ++ A).length (scells ([ev.f1] ++ A))) := Lib.hid (by rw [List.length_append]; exact h1)
            have HU3 : Hid ((ups p.ino d (q : Int)).reverse ++ ([ev.f1] ++ A) = R) := Lib.hid (by rw [← HNm.out]; exact HU2.out)
            clear h1 h2 h3
            go_wp2
            go_roundg d
            case measure => omega
            case rel => exact ⟨d, (q : Int), [ev.f1] ++ A, Nat.le_refl _, by rw [List.length_append]; simp; omega, rfl, HW2, HU3, HO6, HB6, HT6⟩
          · have HC : Hid (hasI (x.E.take (j + 1)) z = false) := Lib.hid (by rw [HN.out, HM.out]; simpa using hqe)
            go_wp2
            go_roundw
            case rel => exact ⟨j + 1, by omega, by go_num, rfl, HC, by first | rfl | trivial⟩
            case measure => (simp [intOf]; try omega)
        · exfalso
          have h9 := HM.out
          rw [List.take_of_length_le (by omega), HH.out] at h9
          cases h9
end Go.Proofs.Ytmkchilhnmkhkaa
namespace Go.Proofs.Ytmkchilhnmkhkaa
open Go.RowKit Go.Proofs.Ytmkchilhnmkhkaa.Parts Go.Proofs.Ytmkchilhnmkhkaa.Hexa

/-- What linkTo tells. -/
def SaysLink (L : List InoR) (i : Int) (w : World) (e : Ending) (w' : World) : Prop :=
  ((aboveZ L i = -1 ∧ e = .returned (.tuple #[.int .i64 0, .string ⟨#[]⟩, .bool false])) ∨ ∃ q : Nat, q < L.length ∧ aboveZ L i = (q : Int) ∧ e = .returned (.tuple #[.int .i64 q, .string (nameIn (L.getD q default).E i), .bool true])) ∧ Below w.heap.size w w'
set_option maxRecDepth 100000 in
set_option maxHeartbeats 2000000 in
theorem implLink_any (p : PartR) (a1 : Option Addr) (c1 : Nat) (a2 : Option Addr) (c2 : Nat) (i : Int) (w : World) (h2 : (celRow cIno p.ino).Rd w (.slice a2 p.ino.length c2)) (hz : szL (cPart.cels p) ≤ 100000000) :
    Calls Try.prog 45 #[.agg #[.int .i64 p.ser, .slice a1 p.st.length c1, .slice a2 p.ino.length c2], .int .i64 i] w (SaysLink p.ino i w) := by
  have B0 := Lib.hid (below_bk w (.cells #[.int .i64 p.ser, .slice a1 p.st.length c1, .slice a2 p.ino.length c2] 36))
  have T0 := Lib.hid (Bk.alloc w #[.int .i64 p.ser, .slice a1 p.st.length c1, .slice a2 p.ino.length c2] 36)
  have HS := Lib.hid h2
  rw [cPart_sz] at hz
  have hn : p.ino.length ≤ 100000000 := by have := sz_row cIno p.ino; omega
  have HY : Hid (∀ k, k < p.ino.length → (p.ino.getD k default).E.length ≤ 100000000) := Lib.hid (fun k hk => by
    have h3 := szL_at cIno p.ino k hk
    rw [cIno_sz] at h3
    have := len_sz cEntry (p.ino.getD k default).E
    have := sz_row cIno p.ino
    omega)
  clear h2 hz
  have t2 := T0.out.cell (j := 2) rfl
  go_enter Try.func45, Try.ntmps45
  go_wp2
  clear t2
  go_loopw [14] (fun kv wr => ∃ (k : Nat), k ≤ p.ino.length ∧ kv = .int .i64 k ∧ Hid (∀ j, j < k → hasI (dirE (p.ino.getD j default)) i = false) ∧ Hid (Below w.heap.size w wr)) (fun kv _ => p.ino.length - (intOf kv).toNat)
  case atStart => exact ⟨0, Nat.zero_le _, rfl, Lib.hid (fun j hj => by omega), B0⟩
  case round =>
    clear B0 T0
    obtain ⟨k, hk, rfl, HM, HB0⟩ := hrel
    by_cases hlt : k < p.ino.length
    · have hy := HY.out k hlt
      have HA : Hid (hasI (dirE (p.ino.getD k default)) i = true → aboveZ p.ino i = (k : Int)) := Lib.hid (fun h => above_some hlt HM.out h)
      have HB : Hid (hasI (dirE (p.ino.getD k default)) i = false → ∀ j, j < k + 1 → hasI (dirE (p.ino.getD j default)) i = false) := Lib.hid (fun h j hj => by
        by_cases e : j = k
        · rw [e]; exact h
        · exact HM.out j (by omega))
      obtain ⟨g, off, a4, c4, a5, c5, rfl, hg, d0, d1, d2, d3, d4, d5, r4, r5⟩ := cIno_at (Cel.Rd.later HB0.out _ _ HS.out) k hlt
      obtain ⟨x, hx⟩ : ∃ x, p.ino.getD k default = x := ⟨_, rfl⟩
      rw [hx] at d0 d1 d2 d3 d4 d5 r5 hy HA HB
      have HX := Lib.hid hx
      obtain ⟨kd, hkd0⟩ : ∃ y, x.kd = y := ⟨_, rfl⟩
      rw [hkd0] at d0
      have HK0 := Lib.hid hkd0
      clear hkd0 hx r4
      have hbx := below_bk wr (.cells #[.int .i64 kd, .int .i64 x.sz, .int .i64 x.gn, .string x.key, .slice a4 x.R.length c4, .slice a5 x.E.length c5] 57)
      have T2 := Lib.hid (Bk.alloc wr #[.int .i64 kd, .int .i64 x.sz, .int .i64 x.gn, .string x.key, .slice a4 x.R.length c4, .slice a5 x.E.length c5] 57)
      have R5 := Lib.hid (Cel.Rd.later hbx _ _ r5)
      have B2 : Hid (Below w.heap.size w (wr.alloc (.cells #[.int .i64 kd, .int .i64 x.sz, .int .i64 x.gn, .string x.key, .slice a4 x.R.length c4, .slice a5 x.E.length c5] 57))) := Lib.hid (HB0.out.trans (hbx.mono HB0.out.size))
      clear hbx r5
      have t0 := T2.out.cell (j := 0) rfl
      have t5 := T2.out.cell (j := 5) rfl
      by_cases hkd : kd = 2
      · subst hkd
        have HD : Hid (dirE x = x.E) := Lib.hid (dirE_yes HK0.out)
        go_wp2
        clear t0 t5 d0 d1 d2 d3 d4 d5
        obtain ⟨W2, hW2⟩ : ∃ y, y = wr.alloc (.cells #[.int .i64 2, .int .i64 x.sz, .int .i64 x.gn, .string x.key, .slice a4 x.R.length c4, .slice a5 x.E.length c5] 57) := ⟨_, rfl⟩
        rw [← hW2] at B2 R5 ⊢
        clear hW2 T2
        go_loopw [25] (fun jv wq => ∃ (j : Nat), j ≤ x.E.length ∧ jv = .int .i64 j ∧ Hid (hasI (x.E.take j) i = false) ∧ Hid (Below w.heap.size w wq) ∧ Hid (Below W2.heap.size W2 wq)) (fun jv _ => x.E.length - (intOf jv).toNat)
        case atStart => exact ⟨0, Nat.zero_le _, rfl, Lib.hid rfl, B2, Lib.hid (Below.refl _ _)⟩
        case round =>
          clear HM HB0 B2
          obtain ⟨j, hj, rfl, HM', HB1, HB2⟩ := hrel
          by_cases hjt : j < x.E.length
          · obtain ⟨ge, oe, rfl, hge, q0, q1⟩ := cEntry_at (Cel.Rd.later HB2.out _ _ R5.out) j hjt
            have HN := Lib.hid (hasI_next (i := i) hjt)
            obtain ⟨ev, hev⟩ : ∃ e, x.E.getD j default = e := ⟨_, rfl⟩
            rw [hev] at q0 q1 HN
            have HEV := Lib.hid hev
            clear hev
            have HB3 : Hid (Below w.heap.size w (wr.alloc (.cells #[.int .i64 ev.f0, .string ev.f1] 45))) := Lib.hid (HB1.out.alloc HB1.out.size _)
            have HB4 : Hid (Below W2.heap.size W2 (wr.alloc (.cells #[.int .i64 ev.f0, .string ev.f1] 45))) := Lib.hid (HB2.out.alloc HB2.out.size _)
            by_cases hq : ev.f0 = i
            · have HC : Hid (aboveZ p.ino i = (k : Int)) := Lib.hid (HA.out (by rw [HD.out]; exact hasI_take (j := j + 1) (by rw [HN.out, hq]; simp)))
              have HNm : Hid (nameIn (p.ino.getD k default).E i = ev.f1) := Lib.hid (by rw [HX.out, nameIn_at hjt HM'.out (by rw [HEV.out]; exact hq), HEV.out])
              subst hq
              go_wp2
              go_region
              all_goals
                go_wp2
                refine bodyPost_ret (v := .tuple #[.int .i64 k, .string ev.f1, .bool true]) ?_ rfl ⟨.inr ⟨k, hlt, HC.out, by rw [HNm.out]⟩, by first | exact HB3.out | exact HB3.out.drew⟩
                simp [results, Try.results45, go_sem]
            · have HC : Hid (hasI (x.E.take (j + 1)) i = false) := Lib.hid (by rw [HN.out, HM'.out]; simpa using hq)
              go_wp2
              go_roundw
              case rel => exact ⟨j + 1, by omega, by go_num, HC, HB3, HB4⟩
              case measure => (simp [intOf]; try omega)
          · obtain rfl : j = x.E.length := by omega
            have HC := Lib.hid (HB.out (by have h9 := HM'.out; rw [List.take_length] at h9; rw [HD.out]; exact h9))
            go_wp2
            go_roundw
            case rel => exact ⟨k + 1, by omega, by go_num, HC, HB1⟩
            case measure => (simp [intOf]; try omega)
      · have HC := Lib.hid (HB.out (by rw [dirE_no (by rw [HK0.out]; exact hkd)]; rfl))
        go_wp2
        go_roundw
        case rel => exact ⟨k + 1, by omega, by go_num, HC, B2⟩
        case measure => (simp [intOf]; try omega)
    · obtain rfl : k = p.ino.length := by omega
      have HC := Lib.hid (above_none HM.out)
      go_wp2
      refine bodyPost_ret (v := .tuple #[.int .i64 0, .string ⟨#[]⟩, .bool false]) ?_ rfl ⟨.inl ⟨HC.out, rfl⟩, HB0.out⟩
      simp [results, Try.results45, go_sem]

set_option maxRecDepth 100000 in
set_option maxHeartbeats 2000000 in
theorem implDepth_any (p : PartR) (a1 : Option Addr) (c1 : Nat) (a2 : Option Addr) (c2 : Nat) (i : Int) (w : World) (h2 : (celRow cIno p.ino).Rd w (.slice a2 p.ino.length c2)) (hz : szL (cPart.cels p) ≤ 100000000) :
    Calls Try.prog 44 #[.agg #[.int .i64 p.ser, .slice a1 p.st.length c1, .slice a2 p.ino.length c2], .int .i64 i] w (SaysI (depthZ p.ino i) w) := by
  have B0 := Lib.hid (below_bk w (.cells #[.int .i64 p.ser, .slice a1 p.st.length c1, .slice a2 p.ino.length c2] 36))
  have T0 := Lib.hid (Bk.alloc w #[.int .i64 p.ser, .slice a1 p.st.length c1, .slice a2 p.ino.length c2] 36)
  have HS := Lib.hid h2
  have HZ := Lib.hid hz
  rw [cPart_sz] at hz
  have hn : p.ino.length ≤ 100000000 := by have := sz_row cIno p.ino; omega
  clear h2 hz
  obtain ⟨d, hd⟩ : ∃ d, depthZ p.ino i = d := ⟨_, rfl⟩
  rw [hd]
  have HD : Hid (depthGo p.ino (p.ino.length + 1) 0 i = d) := Lib.hid hd
  clear hd
  have t2 := T0.out.cell (j := 2) rfl
  go_enter Try.func44, Try.ntmps44
  go_wp2
  clear t2
  go_loopw [1, 13] (fun iv nv wr => ∃ (n : Nat) (z : Int), n ≤ p.ino.length + 1 ∧ nv = .int .i64 n ∧ iv = .int .i64 z ∧ Hid (depthGo p.ino (p.ino.length + 1 - n) n z = d) ∧ Below w.heap.size w wr ∧ Hid (Bk wr w.heap.size #[.int .i64 p.ser, .slice a1 p.st.length c1, .slice a2 p.ino.length c2] 36)) (fun _ nv _ => p.ino.length + 1 - (intOf nv).toNat)
  case atStart => exact ⟨0, i, Nat.zero_le _, rfl, rfl, HD, B0.out, T0⟩
  case round =>
    clear HD T0
    obtain ⟨n, z, hnn, rfl, rfl, HG, hbel, HT⟩ := hrel
    have t0 := HT.out.cell (j := 0) rfl
    have t1 := HT.out.cell (j := 1) rfl
    have t2 := HT.out.cell (j := 2) rfl
    by_cases hlt : n < p.ino.length + 1
    · have hd0 : decide ((n : Int) < (p.ino.length : Int) + 1) = true := decide_eq_true (by omega)
      have HG2 : Hid ((if z = 0 then (n : Int) else if aboveZ p.ino z < 0 then -1 else depthGo p.ino (p.ino.length + 1 - (n + 1)) (n + 1) (aboveZ p.ino z)) = d) := Lib.hid (by
        have h9 := HG.out
        rw [show p.ino.length + 1 - n = (p.ino.length + 1 - (n + 1)) + 1 by omega, depthGo] at h9
        exact h9)
      clear HG
      by_cases hz0 : z = 0
      · have HE : Hid ((n : Int) = d) := Lib.hid (by have h9 := HG2.out; rw [if_pos hz0] at h9; exact h9)
        subst hz0
        go_wp2
        go_ret
        exact ⟨ret_i64m HE.out, hbel⟩
      · go_wp2_with fail
        refine (implLink_any p a1 c1 a2 c2 z _ (Cel.Rd.later hbel _ _ HS.out) HZ.out).mono ?_
        rintro e w1 ⟨⟨hq, rfl⟩ | ⟨q, hql, hq, rfl⟩, hb⟩
        · have hb2 : Below w.heap.size w w1 := hbel.trans (hb.mono hbel.size)
          have HE : Hid (-1 = d) := Lib.hid (by have h9 := HG2.out; rw [if_neg hz0, hq, if_pos (by omega)] at h9; exact h9)
          clear hb hq t0 t1 t2
          go_wp2
          go_ret
          exact ⟨ret_i64m HE.out, hb2⟩
        · have hb2 : Below w.heap.size w w1 := hbel.trans (hb.mono hbel.size)
          have HT1 := Lib.hid (HT.out.later hb)
          have HE : Hid (depthGo p.ino (p.ino.length + 1 - (n + 1)) (n + 1) (q : Int) = d) := Lib.hid (by have h9 := HG2.out; rw [if_neg hz0, hq, if_neg (by omega)] at h9; exact h9)
          clear hb hq t0 t1 t2
          go_wp2
          go_roundw
          case rel => exact ⟨n + 1, (q : Int), by omega, by go_num, rfl, HE, hb2, HT1⟩
          case measure => (simp [intOf]; try omega)
    · obtain rfl : n = p.ino.length + 1 := by omega
      have HE : Hid (-1 = d) := Lib.hid (by have h9 := HG.out; rw [Nat.sub_self] at h9; exact h9)
      go_wp2
      go_ret
      exact ⟨ret_i64m HE.out, hbel⟩
end Go.Proofs.Ytmkchilhnmkhkaa
namespace Go.Proofs.Ytmkchilhnmkhkaa
open Go.RowKit Go.Proofs.Ytmkchilhnmkhkaa.Parts Go.Proofs.Ytmkchilhnmkhkaa.Hexa

theorem own_setCells {B e : Nat} {g n cap : Nat} : ∀ (vs : List Value) (o : Nat) (w : World) (xs : List Value), w.ownsRow B e 1 (.slice (some ⟨g, 0, none⟩) n cap) n xs → xs.length = n → o + vs.length = n →
    (w.setCells g o vs).ownsRow B e 1 (.slice (some ⟨g, 0, none⟩) n cap) n (xs.take o ++ vs)
  | [], o, w, xs, h, hx, ho => by
    simp only [List.length_nil, Nat.add_zero] at ho
    rw [List.append_nil, List.take_of_length_le (by omega)]
    exact h
  | u :: r, o, w, xs, h, hx, ho => by
    simp only [List.length_cons] at ho
    have h1 := (h.stored o u).1
    have h2 := own_setCells r (o + 1) _ _ h1 (by rw [List.length_set]; exact hx) (by omega)
    have e9 : (xs.set o u).take (o + 1) ++ r = xs.take o ++ u :: r := by
      rw [List.take_succ_eq_append_getElem (by rw [List.length_set]; omega), List.getElem_set_self, List.take_set, List.set_eq_of_length_le (by rw [List.length_take]; omega), List.append_assoc]
      rfl
    rw [e9] at h2
    exact h2
theorem below_setCells {B : Nat} {a : World} (g : Nat) (hg : B ≤ g) : ∀ (vs : List Value) (o : Nat) (w : World), Below B a w → Below B a (w.setCells g o vs)
  | [], _, _, h => h
  | u :: r, o, _, h => below_setCells g hg r (o + 1) _ (h.setCell (p := ⟨g, o, none⟩) hg u)
theorem below_drawsR {B : Nat} {a w : World} (h : Below B a w) (m : Nat) : Below B a (w.drewN m) := ⟨h.os, h.tape, h.output, h.size, h.block⟩
set_option maxRecDepth 100000 in
set_option maxHeartbeats 1000000 in
theorem implRev_any (B : Nat) (v : Value) (n : Nat) (L : List ByteArray) (w : World) (hown : w.ownsRow B 9 1 v n (scells L)) (hl : L.length = n) (hn : n ≤ 100000000) :
    Calls Try.prog 46 #[v] w fun e w' => e = .returned (.tuple #[]) ∧ w'.ownsRow B 9 1 v n (scells L.reverse) ∧ Below B w w' := by
  rcases hown.2 with ⟨rfl, rfl⟩ | ⟨g, cap, cur, rfl, hg, _⟩
  · have hL : L = [] := List.length_eq_zero_iff.1 hl
    subst hL
    refine (Try.slices_Reverse_string_empty none 0 w).mono ?_
    rintro e w' ⟨he, hw⟩
    subst hw
    exact ⟨he, hown, Below.refl _ _⟩
  · subst hl
    refine (Try.slices_Reverse_string_cells g 0 L.length cap (fun i => L.getD i default) w (by omega) (fun i hi => ?_) (fun j _ => ?_)).mono ?_
    · rw [Nat.zero_add, hown.cellAt i (by omega)]
      simp [scells, List.getD, hi]
    · exact hown.frozenAt _
    · rintro e w' ⟨he, q, hw⟩
      subst hw
      have e1 : (Lib.strsOf (fun i => L.getD i default) L.length).reverse.map encStr = scells L.reverse := by
        have e2 : Lib.strsOf (fun i => L.getD i default) L.length = L.map (·.data.toList) := by
          unfold Lib.strsOf
          apply List.ext_getElem (by simp)
          intro i h1 h2
          simp at h1
          simp [List.getD, h1]
        rw [e2, ← List.map_reverse, List.map_map]
        unfold scells
        refine List.map_congr_left (fun x _ => ?_)
        obtain ⟨⟨x⟩⟩ := x
        rfl
      rw [e1]
      have h0 : (w.drewN q).ownsRow B 9 1 (.slice (some ⟨g, 0, none⟩) L.length cap) L.length (scells L) := hown
      have h1 := own_setCells (scells L.reverse) 0 _ _ h0 (by simp [scells]) (by simp [scells])
      rw [List.take_zero, List.nil_append] at h1
      exact ⟨he, h1, below_setCells g hg _ _ _ (below_drawsR (Below.refl _ _) q)⟩
end Go.Proofs.Ytmkchilhnmkhkaa
namespace Go.Proofs.Ytmkchilhnmkhkaa
open Go.RowKit

set_option maxRecDepth 100000 in
set_option maxHeartbeats 400000 in
theorem implIdx_any (n b : Int) (w : World) : Calls Try.prog 43 #[.int .i64 n, .int .i64 b] w fun e w' => e = .returned (.bool (decide (0 ≤ n ∧ n < b))) ∧ w' = w := by
  by_cases h1 : 0 ≤ n <;> by_cases h2 : n < b
  all_goals
    go_enter Try.func43, Try.ntmps43
    go_wp2
    all_goals go_ret
    all_goals exact ⟨by simp [h1, h2], rfl⟩
theorem implIdx_yes {n b : Int} (w : World) (h : 0 ≤ n ∧ n < b) : Calls Try.prog 43 #[.int .i64 n, .int .i64 b] w fun e w' => e = .returned (.bool true) ∧ w' = w :=
  (implIdx_any n b w).mono fun _ _ ⟨he, hw⟩ => ⟨by rw [he, decide_eq_true h], hw⟩
theorem implIdx_no {n b : Int} (w : World) (h : ¬ (0 ≤ n ∧ n < b)) : Calls Try.prog 43 #[.int .i64 n, .int .i64 b] w fun e w' => e = .returned (.bool false) ∧ w' = w :=
  (implIdx_any n b w).mono fun _ _ ⟨he, hw⟩ => ⟨by rw [he, decide_eq_false h], hw⟩
end Go.Proofs.Ytmkchilhnmkhkaa
namespace Go.Proofs.Ytmkchilhnmkhkaa
open Go.RowKit Go.Proofs.Ytmkchilhnmkhkaa.Parts Go.Proofs.Ytmkchilhnmkhkaa.Hexa

set_option maxRecDepth 100000 in
set_option maxHeartbeats 4000000 in
theorem implPathTo_any (p : PartR) (a1 : Option Addr) (c1 : Nat) (a2 : Option Addr) (c2 : Nat) (i : Int) (w : World) (h2 : (celRow cIno p.ino).Rd w (.slice a2 p.ino.length c2)) (hz : szL (cPart.cels p) ≤ 1048576) :
    Calls Try.prog 17 #[.agg #[.int .i64 p.ser, .slice a1 p.st.length c1, .slice a2 p.ino.length c2], .int .i64 i] w (SaysT (pathToB p.ino i) w) := by
  have B0 := Lib.hid (below_bk w (.cells #[.int .i64 p.ser, .slice a1 p.st.length c1, .slice a2 p.ino.length c2] 36))
  have T0 := Lib.hid (Bk.alloc w #[.int .i64 p.ser, .slice a1 p.st.length c1, .slice a2 p.ino.length c2] 36)
  have HS := Lib.hid h2
  have HZ : Hid (szL (cPart.cels p) ≤ 100000000) := Lib.hid (by omega)
  rw [cPart_sz] at hz
  have hn : p.ino.length ≤ 1048576 := by have := sz_row cIno p.ino; omega
  have hzi : szL (celsE cIno p.ino) ≤ 1048576 := by have := sz_row cIno p.ino; omega
  have HUS := Lib.hid (fun (d : Nat) (j : Int) (h : Way p.ino d j) => ups_size hzi d j h)
  clear h2 hz hzi
  have t2 := T0.out.cell (j := 2) rfl
  by_cases hin : 0 ≤ i ∧ i < (p.ino.length : Int)
  case neg =>
    have HR : Hid (pathToB p.ino i = ⟨#[]⟩) := Lib.hid (by unfold pathToB; rw [if_neg (fun h => hin ⟨h.1, h.2.1⟩)])
    have HIN := Lib.hid hin
    clear hin
    go_enter Try.func17, Try.ntmps17
    go_wp2_with ((with_reducible refine (implIdx_no _ HIN.out).mono ?_); rintro e w9 ⟨rfl, rfl⟩)
    go_ret
    exact ⟨by rw [HR.out]; rfl, B0.out⟩
  have HIN := Lib.hid hin
  obtain ⟨dz, hdz⟩ : ∃ z, depthZ p.ino i = z := ⟨_, rfl⟩
  have HDZ := Lib.hid hdz
  have t0 := T0.out.cell (j := 0) rfl
  have t1 := T0.out.cell (j := 1) rfl
  go_enter Try.func17, Try.ntmps17
  go_wp2_with (first
    | ((with_reducible refine (implIdx_yes _ HIN.out).mono ?_); rintro e w9 ⟨rfl, rfl⟩)
    | fail)
  refine (implDepth_any p a1 c1 a2 c2 i _ (Cel.Rd.later B0.out _ _ HS.out) HZ.out).mono ?_
  rw [HDZ.out]
  rintro e w1 ⟨rfl, hb⟩
  have HT := Lib.hid (T0.out.later hb)
  have HB : Hid (Below w.heap.size w w1) := Lib.hid (B0.out.trans (hb.mono B0.out.size))
  clear hb T0 B0 t0 t1 t2
  by_cases hneg : dz < 0
  · have hm1 : dz = -1 := by
      rw [← hdz]
      rcases depth_cases p.ino i with h | h
      · exact h
      · rw [hdz] at h; omega
    have HR : Hid (pathToB p.ino i = ⟨#[]⟩) := Lib.hid (by unfold pathToB; rw [if_neg (fun h => by rw [hdz] at h; omega)])
    subst hm1
    go_wp2
    go_ret
    exact ⟨by rw [HR.out]; rfl, HB.out⟩
  obtain ⟨d0, hd0, hd1, hway⟩ := depth_way (L := p.ino) (i := i) (by rw [hdz]; omega)
  obtain ⟨R, hRR⟩ : ∃ R, ups p.ino d0 i = R := ⟨_, rfl⟩
  have HR : Hid (pathToB p.ino i = joinB R.reverse) := Lib.hid (by
    unfold pathToB
    rw [if_pos ⟨hin.1, hin.2, by rw [hdz]; omega⟩, hd1, ← hRR]
    rfl)
  have HRM : Hid (∀ j, j < R.reverse.length → (R.reverse.getD j default).size ≤ 2000000) := Lib.hid (fun j hj => by
    have h9 := HUS.out d0 i hway (R.reverse.getD j default) (by
      rw [hRR, ← List.mem_reverse]
      simp only [List.getD, hj, List.getElem?_eq_getElem, Option.getD_some]
      exact List.getElem_mem hj)
    omega)
  have HRL : Hid (R.length = d0) := Lib.hid (by rw [← hRR, ups_len])
  have HW : Hid (Way p.ino d0 i) := Lib.hid hway
  have HU : Hid ([] ++ ups p.ino d0 i = R) := Lib.hid (by rw [List.nil_append]; exact hRR)
  have hd0' : d0 ≤ 1048576 := by omega
  have hg0 : (dz == -1) = false := beq_eq_false_iff_ne.2 (by omega)
  have hg1 : ¬ dz = -1 := by omega
  clear hway hRR hd1 hdz HDZ hin HIN
  go_wp2
  clear hg0 hg1
  have P0 : Hid (w1.ownsRow (w.heap.size + 1) 9 1 (.slice none 0 0) ([] : List ByteArray).length (scells [])) := Lib.hid (World.ownsRow_nil _ _ _ _)
  go_loopg [1, 5] d0 (fun k iv nv wr => ∃ (d : Nat) (z : Int) (A : List ByteArray), d ≤ k ∧ A.length + d = d0 ∧ iv = .int .i64 z ∧ Hid (Way p.ino d z) ∧ Hid (A ++ ups p.ino d z = R) ∧ Hid (wr.ownsRow (w.heap.size + 1) 9 1 nv A.length (scells A)) ∧ Hid (Below w.heap.size w wr) ∧ Hid (Bk wr w.heap.size #[.int .i64 p.ser, .slice a1 p.st.length c1, .slice a2 p.ino.length c2] 36))
  case atStart => exact ⟨d0, i, [], Nat.le_refl _, by simp, rfl, HW, HU, P0, HB, HT⟩
  case round =>
    clear HW HU P0 HB HT
    obtain ⟨d, z, A, hdk, hAd, rfl, HW, HU, HO, HB, HT⟩ := hrel
    have t0 := HT.out.cell (j := 0) rfl
    have t1 := HT.out.cell (j := 1) rfl
    have t2 := HT.out.cell (j := 2) rfl
    cases d with
    | zero =>
      have hz : z = 0 := HW.out
      subst hz
      have HA : Hid (A = R) := Lib.hid (by have := HU.out; rw [ups, List.append_nil] at this; exact this)
      have HRM2 : Hid (∀ j, j < A.length → (R.reverse.getD j default).size ≤ 2000000) := Lib.hid (fun j hj => HRM.out j (by rw [List.length_reverse, ← HA.out]; exact hj))
      go_wp2_with fail
      refine (implRev_any (w.heap.size + 1) u5 A.length A wr HO.out rfl (by omega)).mono ?_
      rintro e w5 ⟨rfl, ho5, hb5⟩
      obtain ⟨ad, cap, rfl, hcap, hnc, hr⟩ := own_form ho5
      have HSA : Hid (SrcT w5 ad A.length R.reverse) := Lib.hid (by have := srcT_of_own ho5; rw [HA.out] at this ⊢; exact this)
      have HB5 : Hid (Below w.heap.size w w5) := Lib.hid (HB.out.trans (hb5.mono (Nat.le_succ _)))
      unfold maxLen at hcap
      clear ho5 hb5 hr t0 t1 t2
      go_wp2_with fail
      refine (implJoin_any ad A.length cap R.reverse _ HSA.out (by omega) hnc HRM2.out).mono ?_
      rw [← HR.out]
      rintro e w6 ⟨rfl, hb6⟩
      have HB6 : Below w.heap.size w w6 := HB5.out.trans (hb6.mono HB5.out.size)
      clear hb6
      go_wp2
      go_ret
      exact ⟨rfl, HB6⟩
    | succ d =>
      have hz : ¬ z = 0 := HW.out.1
      obtain ⟨q, hq, hqz, hkd, hhas⟩ := above_has p.ino z HW.out.2.1
      have HW2 : Hid (Way p.ino d (q : Int)) := Lib.hid (by have := HW.out.2.2; rw [hqz] at this; exact this)
      have HU2 : Hid ((A ++ [nameIn (p.ino.getD q default).E z]) ++ ups p.ino d (q : Int) = R) := Lib.hid (by
        have h9 := HU.out
        rw [ups, hqz] at h9
        unfold nameUp at h9
        rw [hqz] at h9
        rw [List.append_assoc]
        exact h9)
      have HQZ := Lib.hid hqz
      clear HW HU hqz hkd hhas
      go_wp2_with fail
      refine (implLink_any p a1 c1 a2 c2 z _ (Cel.Rd.later HB.out _ _ HS.out) HZ.out).mono ?_
      rintro e w5 ⟨⟨h9, _⟩ | ⟨q', hq', h9, rfl⟩, hb5⟩
      · rw [HQZ.out] at h9; omega
      obtain rfl : q' = q := by rw [HQZ.out] at h9; omega
      obtain ⟨nm, hnm⟩ : ∃ y, nameIn (p.ino.getD q' default).E z = y := ⟨_, rfl⟩
      rw [hnm] at HU2
      rw [hnm]
      have HB5 : Hid (Below w.heap.size w w5) := Lib.hid (HB.out.trans (hb5.mono HB.out.size))
      have HT5 := Lib.hid (HT.out.later hb5)
      have HO5 := Lib.hid (own_below HO.out hb5)
      clear hb5 t0 t1 t2 HO HB HT h9 hnm hq'
      have HOA : Hid ((w5.alloc (.cells #[.string nm] 9)).ownsRow (w.heap.size + 1) 9 1 u5 A.length (scells A)) := Lib.hid (own_below HO5.out ((Below.refl _ _).alloc (Nat.le_refl _) _))
      have HBA : Hid (Below w.heap.size w (w5.alloc (.cells #[.string nm] 9))) := Lib.hid (HB5.out.alloc HB5.out.size _)
      have HTA := Lib.hid (HT5.out.later ((Below.refl _ _).alloc (Nat.le_refl _) (.cells #[.string nm] 9)))
      have HSA : Hid (SrcT (w5.alloc (.cells #[.string nm] 9)) (some ⟨w5.heap.size, 0, none⟩) 1 [nm]) := Lib.hid (srcT_of_own (B := w5.heap.size) (e := 9) (cap := 1) (World.ownsRow_lit w5 #[.string nm] 1 (Nat.le_refl _) (by decide) rfl))
      have hr : AppE Try.prog #[22, 22] 22 #[u5, .slice (some ⟨w5.heap.size, 0, none⟩) 1 1] (w5.alloc (.cells #[.string nm] 9)) (w.heap.size + 1) 9 1 (A.length + 1) (scells (A ++ [nm])) u5 :=
        appTs _ _ _ _ A.length A HOA.out (by have := HT5.out.lt; simp; omega) _ 1 1 [nm] HSA.out (by omega)
      go_wp2_with (at_builtin; refine wpList_appE rfl _ _ _ _ rfl _ _ rfl rfl hr ?_; clear hr; intro v' w6 h1 h2 h3)
      have HB6 : Hid (Below w.heap.size w w6) := Lib.hid (HBA.out.grown h2 (by have := HT5.out.lt; simp; omega) (fun k hk => Nat.le_of_succ_le (own_block_ge HOA.out k hk)))
      have HT6 := Lib.hid (HTA.out.grown h2 (fun e => by have h9 := own_block_ge HOA.out _ e; omega))
      have HO6 : Hid (w6.ownsRow (w.heap.size + 1) 9 1 v' (A ++ [nm]).length (scells (A ++ [nm]))) := Lib.hid (by rw [List.length_append]; exact h1)
      clear h1 h2 h3
      go_wp2
      go_roundg d
      case measure => omega
      case rel => exact ⟨d, (q' : Int), A ++ [nm], Nat.le_refl _, by rw [List.length_append]; simp; omega, rfl, HW2, HU2, HO6, HB6, HT6⟩
end Go.Proofs.Ytmkchilhnmkhkaa
namespace Go.Proofs.Ytmkchilhnmkhkaa
open Go.RowKit Go.Proofs.Ytmkchilhnmkhkaa.Parts Go.Proofs.Ytmkchilhnmkhkaa.Hexa Go.Proofs.Ytmkchilhnmkhkaa.Byt

set_option maxRecDepth 100000 in
set_option maxHeartbeats 4000000 in
theorem pathTo_law (p : PartR) (a1_p : Option Addr) (c1_p : Nat) (a2_p : Option Addr) (c2_p : Nat) (q : Int) (w : World) (ht_p : TyL (cPart.cels p)) (h1_p : (celRow cInt p.st).Rd w (.slice a1_p p.st.length c1_p)) (h2_p : (celRow cIno p.ino).Rd w (.slice a2_p p.ino.length c2_p)) :
    Calls Try.prog 4 #[.agg #[.int .i64 p.ser, .slice a1_p p.st.length c1_p, .slice a2_p p.ino.length c2_p], .int .i64 q] w fun e w' => e = .returned (.bool true) ∧ Below w.heap.size w w' := by
  have HT_p := Lib.hid ht_p
  clear ht_p
  have HS1_p := Lib.hid h1_p
  clear h1_p
  have HS2_p := Lib.hid h2_p
  clear h2_p
  obtain ⟨rv, hrv⟩ : ∃ d, pathToB p.ino q = d := ⟨_, rfl⟩
  have HRV := Lib.hid hrv
  clear hrv
  have Xp_0 := Lib.hid (Bk.alloc w #[.int .i64 p.ser, .slice a1_p p.st.length c1_p, .slice a2_p p.ino.length c2_p] 31)
  have BW_0 := Lib.hid (below_bk w (.cells #[.int .i64 p.ser, .slice a1_p p.st.length c1_p, .slice a2_p p.ino.length c2_p] 31))
  go_enter Try.func4, Try.ntmps4
  have dp0 := Xp_0.out.cell (j := 0) rfl
  have dp1 := Xp_0.out.cell (j := 1) rfl
  have dp2 := Xp_0.out.cell (j := 2) rfl
  go_wp2_with fail
  obtain ⟨V0, hV⟩ : ∃ y, y = (w.alloc (.cells #[.int .i64 p.ser, .slice a1_p p.st.length c1_p, .slice a2_p p.ino.length c2_p] 31)) := ⟨_, rfl⟩
  clear dp0 dp1 dp2
  rw [← hV] at Xp_0 BW_0 ⊢
  have SZ_V0 : Hid (w.heap.size + 1 ≤ V0.heap.size) := Lib.hid (by rw [hV]; simp)
  clear hV
  refine (szPart_st p a1_p c1_p a2_p c2_p 1048576 _ (by decide) (by decide) (Cel.Rd.later BW_0.out _ _ HS1_p.out) (Cel.Rd.later BW_0.out _ _ HS2_p.out) HT_p.out).mono ?_
  rintro e w1 ⟨l_p, rfl, hr, hb⟩
  have Xp_1 := Lib.hid (Xp_0.out.later hb)
  have BW_1 : Hid (Below w.heap.size w w1) := Lib.hid (BW_0.out.trans (hb.mono BW_0.out.size))
  have SZ_w1 : Hid (V0.heap.size ≤ w1.heap.size) := Lib.hid hb.size
  clear hb Xp_0 BW_0
  rcases hr with hr | ⟨hl0, hl1⟩
  · go_wp2
    go_ret
    exact ⟨rfl, BW_1.out⟩
  have HZ_p : Hid (szL (cPart.cels p) ≤ 1048576) := Lib.hid (by omega)
  have HZB_p : Hid (szL (cPart.cels p) ≤ 100000000) := Lib.hid (by omega)
  have hq_p : ¬ (l_p < 0) := by omega
  have hp_p : l_p ≤ 1048576 := by omega
  clear hl1
  have dp0 := Xp_1.out.cell (j := 0) rfl
  have dp1 := Xp_1.out.cell (j := 1) rfl
  have dp2 := Xp_1.out.cell (j := 2) rfl
  go_wp2_with fail
  clear dp0 dp1 dp2
  refine (toPart_st p a1_p c1_p a2_p c2_p _ (Cel.Rd.later BW_1.out _ _ HS1_p.out) (Cel.Rd.later BW_1.out _ _ HS2_p.out) HZ_p.out).mono ?_
  rintro e w2 ⟨vs, rfl, ho, hb⟩
  have Xp_2 := Lib.hid (Xp_1.out.later hb)
  have BW_2 : Hid (Below w.heap.size w w2) := Lib.hid (BW_1.out.trans (hb.mono BW_1.out.size))
  have SZ_w2 : Hid (w1.heap.size ≤ w2.heap.size) := Lib.hid hb.size
  clear hb Xp_1 BW_1
  obtain ⟨a1_y, c1_y, a2_y, c2_y, rfl, _, _⟩ := cPart_form ho.rd
  have Oy_2x := Lib.hid ho
  clear ho
  have dp0 := Xp_2.out.cell (j := 0) rfl
  have dp1 := Xp_2.out.cell (j := 1) rfl
  have dp2 := Xp_2.out.cell (j := 2) rfl
  go_wp2_with fail
  clear dp0 dp1 dp2
  refine (specPathTo_any p a1_y c1_y a2_y c2_y q _ (cPart_un Oy_2x.out.rd).2 HZ_p.out).mono ?_
  rw [HRV.out]
  rintro e w3 ⟨rfl, hb⟩
  have Xp_3 := Lib.hid (Xp_2.out.later hb)
  have Oy_3 := Lib.hid (Oy_2x.out.later hb)
  have BW_3 : Hid (Below w.heap.size w w3) := Lib.hid (BW_2.out.trans (hb.mono BW_2.out.size))
  have SZ_w3 : Hid (w2.heap.size ≤ w3.heap.size) := Lib.hid hb.size
  clear hb Xp_2 Oy_2x BW_2
  clear Oy_3
  have dp0 := Xp_3.out.cell (j := 0) rfl
  have dp1 := Xp_3.out.cell (j := 1) rfl
  have dp2 := Xp_3.out.cell (j := 2) rfl
  go_wp2_with fail
  clear dp0 dp1 dp2
  refine (toPart_st p a1_p c1_p a2_p c2_p _ (Cel.Rd.later BW_3.out _ _ HS1_p.out) (Cel.Rd.later BW_3.out _ _ HS2_p.out) HZ_p.out).mono ?_
  rintro e w4 ⟨vs, rfl, ho, hb⟩
  have Xp_4 := Lib.hid (Xp_3.out.later hb)
  have BW_4 : Hid (Below w.heap.size w w4) := Lib.hid (BW_3.out.trans (hb.mono BW_3.out.size))
  have SZ_w4 : Hid (w3.heap.size ≤ w4.heap.size) := Lib.hid hb.size
  clear hb Xp_3 BW_3
  obtain ⟨a1_x, c1_x, a2_x, c2_x, rfl, _, _⟩ := cPart_form ho.rd
  have Ox_4x := Lib.hid ho
  clear ho
  have hba := below_bk w4 (.cells #[.int .i64 p.ser, .slice a1_x p.st.length c1_x, .slice a2_x p.ino.length c2_x] 36)
  have Xp_5 := Lib.hid (Xp_4.out.later hba)
  have Ox_5 := Lib.hid (Ox_4x.out.later hba)
  have BW_5 : Hid (Below w.heap.size w (w4.alloc (.cells #[.int .i64 p.ser, .slice a1_x p.st.length c1_x, .slice a2_x p.ino.length c2_x] 36))) := Lib.hid (BW_4.out.trans (hba.mono BW_4.out.size))
  have Xx_5 := Lib.hid (Bk.alloc w4 #[.int .i64 p.ser, .slice a1_x p.st.length c1_x, .slice a2_x p.ino.length c2_x] 36)
  clear hba Xp_4 Ox_4x BW_4
  have dp0 := Xp_5.out.cell (j := 0) rfl
  have dp1 := Xp_5.out.cell (j := 1) rfl
  have dp2 := Xp_5.out.cell (j := 2) rfl
  have dx0 := Xx_5.out.cell (j := 0) rfl
  have dx1 := Xx_5.out.cell (j := 1) rfl
  have dx2 := Xx_5.out.cell (j := 2) rfl
  go_wp2_with fail
  obtain ⟨V4, hV⟩ : ∃ y, y = (w4.alloc (.cells #[.int .i64 p.ser, .slice a1_x p.st.length c1_x, .slice a2_x p.ino.length c2_x] 36)) := ⟨_, rfl⟩
  clear dp0 dp1 dp2 dx0 dx1 dx2
  rw [← hV] at Xp_5 Xx_5 Ox_5 BW_5 ⊢
  have SZ_V4 : Hid (w4.heap.size + 1 ≤ V4.heap.size) := Lib.hid (by rw [hV]; simp)
  clear hV
  refine (implPathTo_any p a1_x c1_x a2_x c2_x q _ (cPart_un Ox_5.out.rd).2 HZ_p.out).mono ?_
  rw [HRV.out]
  rintro e w5 ⟨rfl, hb⟩
  have Xp_6 := Lib.hid (Xp_5.out.later hb)
  have Xx_6 := Lib.hid (Xx_5.out.later hb)
  have Ox_6 := Lib.hid (Ox_5.out.later hb)
  have BW_6 : Hid (Below w.heap.size w w5) := Lib.hid (BW_5.out.trans (hb.mono BW_5.out.size))
  have SZ_w5 : Hid (V4.heap.size ≤ w5.heap.size) := Lib.hid hb.size
  clear hb Xp_5 Xx_5 Ox_5 BW_5
  go_wp2
  have XD := Lib.hid Xx_6.out.drew
  have AD := Lib.hid Xp_6.out.drew
  have BD := Lib.hid BW_6.out.drew
  have OD : Hid (Objs w5.drew w3.heap.size w4.heap.size _ _) := Lib.hid (Ox_6.out.later (Below.refl _ _).drew)
  go_region_held3 (fun w' => w'.cell? ⟨w4.heap.size, 0, none⟩ = some (.int .i64 p.ser) ∧ w'.cell? ⟨w4.heap.size, 1, none⟩ = some (.slice a1_x p.st.length c1_x) ∧ w'.cell? ⟨w4.heap.size, 2, none⟩ = some (.slice a2_x p.ino.length c2_x) ∧ w'.cell? ⟨w.heap.size, 0, none⟩ = some (.int .i64 p.ser) ∧ w'.cell? ⟨w.heap.size, 1, none⟩ = some (.slice a1_p p.st.length c1_p) ∧ w'.cell? ⟨w.heap.size, 2, none⟩ = some (.slice a2_p p.ino.length c2_p))
    (first
      | exact ⟨XD.out.cell rfl, XD.out.cell rfl, XD.out.cell rfl, AD.out.cell rfl, AD.out.cell rfl, AD.out.cell rfl⟩
      | exact ⟨XE.out.cell rfl, XE.out.cell rfl, XE.out.cell rfl, AE.out.cell rfl, AE.out.cell rfl, AE.out.cell rfl⟩
      | exact ⟨XF.out.cell rfl, XF.out.cell rfl, XF.out.cell rfl, AF.out.cell rfl, AF.out.cell rfl, AF.out.cell rfl⟩
      | go_keep)
    (first
      | (go_at_call 16; (with_reducible refine (toPart_st p a1_p c1_p a2_p c2_p _ (Cel.Rd.later BD.out _ _ HS1_p.out) (Cel.Rd.later BD.out _ _ HS2_p.out) HZ_p.out).mono ?_); rintro e wa7 ⟨vs, rfl, ho, hb⟩; obtain ⟨a1_z9, c1_z9, a2_z9, c2_z9, rfl, q1, q2⟩ := cPart_form ho.rd; have XE := Lib.hid (XD.out.later hb); have AE := Lib.hid (AD.out.later hb); have OE := Lib.hid (OD.out.later hb); have BE : Hid (Below w.heap.size w wa7) := Lib.hid (BD.out.trans (hb.mono BD.out.size)); have SZ_wa7 : Hid (w5.heap.size ≤ wa7.heap.size) := Lib.hid hb.size; clear hb ho)
      | (go_at_call 18; (with_reducible refine (eqPart_st p a1_x c1_x a2_x c2_x a1_z9 c1_z9 a2_z9 c2_z9 _ (cPart_un OE.out.rd).1 (cPart_un OE.out.rd).2 q1 q2 HZB_p.out).mono ?_); rintro e wb7 ⟨rfl, hb⟩; have XF := Lib.hid (XE.out.later hb); have AF := Lib.hid (AE.out.later hb); have OF := Lib.hid (OE.out.later hb); have BF : Hid (Below w.heap.size w wb7) := Lib.hid (BE.out.trans (hb.mono BE.out.size)); have SZ_wb7 : Hid (wa7.heap.size ≤ wb7.heap.size) := Lib.hid hb.size; clear hb))
  have Xx_7 := XF
  have Xp_7 := AF
  have BW_7 := BF
  have Ox_7 := OF
  clear Xp_6 Xx_6 Ox_6 BW_6 XD XE XF AD AE AF BD BE BF OD OE OF
  go_wp2
  go_ret
  exact ⟨rfl, BW_7.out⟩
end Go.Proofs.Ytmkchilhnmkhkaa
namespace Go.Proofs.Ytmkchilhnmkhkaa
open Go.Deep Go.ChangeShapes Go.WideShapes Go.RowKit

theorem add_at1 (a : Addr) (k : Nat) (h : a.spot = none) : a.add k = ⟨a.block, a.off + k, none⟩ := by
  obtain ⟨b, o, s⟩ := a
  simp only at h
  subst h
  unfold Addr.add
  split <;> simp_all
/-- A row of elements that came in, for whatever element. -/
theorem row_of_cells {α : Type} [Inhabited α] (E : Enc α) {W : World} {ad : Addr} {len : Nat} (h0 : 0 < E.k) (each : ∀ i, i < len → ∃ s : α, W.cells? 0 (ad.add (i * E.k)) E.k = some (E.cells s)) :
    ∃ L : List α, SrcE E W (some ad) len L ∧ (∀ i, i < len → W.cells? 0 (ad.add (i * E.k)) E.k = some (E.cells (L.getD i default))) := by
  obtain ⟨S, hS⟩ := choose_lt each
  have hget : ∀ i, i < len → ((List.range len).map S).getD i default = S i := fun i hi => by simp [List.getD, hi]
  refine ⟨(List.range len).map S, ⟨by simp, fun j hj => ?_⟩, fun i hi => by rw [hget i hi]; exact hS i hi⟩
  rw [hget j hj]
  have hj3 := (World.cells?_some (hS j hj)).2.2
  have e0 := hj3 0 h0
  have hlen := E.len (S j)
  rw [show (E.cells (S j))[0]? = some ((E.cells (S j))[0]'(by omega)) from List.getElem?_eq_getElem _] at e0
  have h00 := (World.cells?_some (hS 0 (by omega))).2.2 0 h0
  have hlen0 := E.len (S 0)
  rw [show (E.cells (S 0))[0]? = some ((E.cells (S 0))[0]'(by omega)) from List.getElem?_eq_getElem _] at h00
  have hspot : ad.spot = none := by
    have := World.cell?_spot h00
    simpa [Addr.add] using this
  simp only [add_add] at e0 hj3
  rw [add_at1 ad _ hspot] at e0
  have hb : ad.block < W.heap.size := by
    rcases Nat.lt_or_ge ad.block W.heap.size with hlt | hge
    · exact hlt
    · simp [World.cell?, Array.getElem?_eq_none hge] at e0
  refine ⟨ad.block, ad.off, by obtain ⟨b, o, s⟩ := ad; simp only at hspot; rw [hspot], hb, fun o v hv => ?_⟩
  have ho : o < E.k := by
    rcases Nat.lt_or_ge o E.k with h | h
    · exact h
    · rw [List.getElem?_eq_none (by omega)] at hv; cases hv
  have e1 := hj3 o ho
  rw [add_at1 ad _ hspot, hv] at e1
  rw [Nat.add_assoc]
  exact e1
end Go.Proofs.Ytmkchilhnmkhkaa
namespace Go.Proofs.Ytmkchilhnmkhkaa
open Go.Deep Go.ChangeShapes Go.WideShapes Go.RowKit

theorem RdL.append {w : World} : ∀ (A B : List Cel) (us vs : List Value), RdL w A us → RdL w B vs → RdL w (A ++ B) (us ++ vs)
  | [], _, _, _, h, h2 => by rw [show _ = [] from h]; exact h2
  | c :: A, B, _, vs, ⟨v, r, hv, h1, h2⟩, h => by
    rw [hv]
    exact ⟨v, r ++ vs, rfl, h1, RdL.append A B r vs h2 h⟩
theorem flat_rd {α : Type} {E : EncC α} {W : World} {S : Nat → α × List Value} : ∀ l : List Nat, (∀ i ∈ l, RdL W (E.cels (S i).1) (S i).2) → RdL W (celsE E (l.map fun i => (S i).1)) (l.flatMap fun i => (S i).2)
  | [], _ => rfl
  | i :: l, h => by
    rw [List.map_cons, List.flatMap_cons, celsE]
    exact RdL.append _ _ _ _ (h i List.mem_cons_self) (flat_rd l fun j hj => h j (List.mem_cons_of_mem _ hj))
theorem flat_ty {α : Type} {E : EncC α} {S : Nat → α × List Value} : ∀ l : List Nat, (∀ i ∈ l, TyL (E.cels (S i).1)) → TyL (celsE E (l.map fun i => (S i).1))
  | [], _ => trivial
  | i :: l, h => by
    rw [List.map_cons, celsE]
    exact (TyL_append _ _).2 ⟨h i List.mem_cons_self, flat_ty l fun j hj => h j (List.mem_cons_of_mem _ hj)⟩
theorem flat_len {f : Nat → List Value} {k : Nat} : ∀ n, (∀ i, i < n → (f i).length = k) → ((List.range n).flatMap f).length = n * k
  | 0, _ => by simp
  | n + 1, h => by
    rw [List.range_succ, List.flatMap_append, List.length_append, flat_len n (fun i hi => h i (by omega)), List.flatMap_singleton, h n (by omega), Nat.add_mul, Nat.one_mul]
theorem flat_at {f : Nat → List Value} {k : Nat} : ∀ (n j : Nat) (u : Value), (∀ i, i < n → (f i).length = k) → ((List.range n).flatMap f)[j]? = some u → ∃ i o, i < n ∧ o < k ∧ j = i * k + o ∧ (f i)[o]? = some u
  | 0, j, u, _, h => by simp at h
  | n + 1, j, u, hk, h => by
    have hl := flat_len n (fun i hi => hk i (Nat.lt_succ_of_lt hi))
    rw [List.range_succ, List.flatMap_append] at h
    by_cases hj : j < n * k
    · rw [List.getElem?_append_left (by rw [hl]; exact hj)] at h
      obtain ⟨i, o, h1, h2, h3, h4⟩ := flat_at n j u (fun i hi => hk i (by omega)) h
      exact ⟨i, o, by omega, h2, h3, h4⟩
    · rw [List.getElem?_append_right (by rw [hl]; omega), hl, List.flatMap_singleton] at h
      have ho : j - n * k < k := by
        have := (List.getElem?_eq_some_iff.1 h).1
        rwa [hk n (by omega)] at this
      exact ⟨n, j - n * k, by omega, ho, by omega, h⟩
theorem rowC_of_cells {α : Type} [Inhabited α] (E : EncC α) {W : World} {ad : Addr} {len cap : Nat} (h0 : 0 < E.k) (hl : len ≤ 9223372036854775807)
    (each : ∀ i, i < len → ∃ p : α × List Value, W.cells? 0 (ad.add (i * E.k)) E.k = some p.2 ∧ RdL W (E.cels p.1) p.2 ∧ TyL (E.cels p.1)) :
    ∃ L : List α, (celRow E L).Rd W (.slice (some ad) len cap) ∧ (celRow E L).Ty := by
  rcases Nat.eq_zero_or_pos len with rfl | hpos
  · exact ⟨[], ⟨by simp [celsE], some ad, cap, [], rfl, rfl, .inl rfl⟩, by show (0 ≤ _) ∧ True; exact ⟨by omega, trivial⟩⟩
  obtain ⟨S, hS⟩ := choose_lt each
  have hlen : ∀ i, i < len → (S i).2.length = E.k := fun i hi => by rw [RdL.length _ _ (hS i hi).2.1, E.len]
  have hat : ∀ i, i < len → ∀ o u, (S i).2[o]? = some u → W.cell? ((ad.add (i * E.k)).add o) = some u := fun i hi o u hu => by
    have hj3 := (World.cells?_some (hS i hi).1).2.2
    have ho : o < E.k := by
      have := (List.getElem?_eq_some_iff.1 hu).1
      rwa [hlen i hi] at this
    rw [hj3 o ho]
    exact hu
  have hspot : ad.spot = none := by
    have h9 := hlen 0 hpos
    have h00 := hat 0 hpos 0 ((S 0).2[0]'(by omega)) (List.getElem?_eq_getElem _)
    have := World.cell?_spot h00
    simpa [Addr.add] using this
  have hat2 : ∀ i, i < len → ∀ o u, (S i).2[o]? = some u → W.cell? ⟨ad.block, ad.off + (i * E.k + o), none⟩ = some u := fun i hi o u hu => by
    have h9 := hat i hi o u hu
    rw [add_add, add_at1 ad _ hspot] at h9
    exact h9
  have hb : ad.block < W.heap.size := by
    have h9 := hlen 0 hpos
    have h00 := hat2 0 hpos 0 ((S 0).2[0]'(by omega)) (List.getElem?_eq_getElem _)
    rcases Nat.lt_or_ge ad.block W.heap.size with hlt | hge
    · exact hlt
    · simp [World.cell?, Array.getElem?_eq_none hge] at h00
  have hml : ((List.range len).map fun i => (S i).1).length = len := by simp
  refine ⟨(List.range len).map fun i => (S i).1, ?_, ?_⟩
  · unfold celRow
    rw [hml]
    refine ⟨by rw [celsE_length, hml], some ad, cap, (List.range len).flatMap fun i => (S i).2, rfl, flat_rd _ (fun i hi => (hS i (List.mem_range.1 hi)).2.1), .inr ⟨ad.block, ad.off, ?_, hb, fun j u hu => ?_⟩⟩
    · obtain ⟨b, o, s⟩ := ad; simp only at hspot; rw [hspot]
    · obtain ⟨i, o, h1, h2, rfl, h4⟩ := flat_at len j u hlen hu
      exact hat2 i h1 o u h4
  · unfold celRow
    rw [hml]
    exact ⟨hl, flat_ty _ (fun i hi => (hS i (List.mem_range.1 hi)).2.2)⟩
end Go.Proofs.Ytmkchilhnmkhkaa
namespace Go.Proofs.Ytmkchilhnmkhkaa
open Go.Deep Go.ChangeShapes Go.WideShapes Go.RowKit

theorem cellsIntT : Try.prog.cellsOf 3 = 1 := by kernel_rfl
theorem Int_trod {H : Type} {enc : TypeId × Value → H} {W : World} {base fuel : Nat} {sp : Nat → Bool} {held : Bool} {cs : List Value} {x : DataW H × List MemPlace} (h : DataW.trod enc Try.prog W base sp held fuel 3 cs = some x) : ∃ s : Int, RdL W (cInt.cels s) cs ∧ TyL (cInt.cels s) := by
  obtain ⟨s, e, _, b⟩ := DataW.trod_int Try.underlying3 h
  subst e
  exact ⟨s, ⟨_, _, rfl, rfl, rfl⟩, bounds_i64 b, trivial⟩
end Go.Proofs.Ytmkchilhnmkhkaa
namespace Go.Proofs.Ytmkchilhnmkhkaa
open Go.Deep Go.ChangeShapes Go.WideShapes Go.RowKit

theorem cellsIntST : Try.prog.cellsOf 28 = 1 := by kernel_rfl
theorem IntS_trod {H : Type} {enc : TypeId × Value → H} {W : World} {fuel : Nat} {v : Value} {x : DataW H × List MemPlace} (h : DataW.trod enc Try.prog W 0 (fun _ => true) true fuel 28 [v] = some x) : ∃ L, (celRow cInt L).Rd W v ∧ (celRow cInt L).Ty := by
  rcases open_slice Try.underlying28 h with ⟨hcs, _⟩ | ⟨ad, l, c, m, n, D, Pl, hcs, _, hl, hm, hmm, _, hx⟩
  · simp only [List.cons.injEq, and_true] at hcs
    subst hcs
    exact ⟨[], ⟨rfl, none, 0, [], rfl, rfl, .inl rfl⟩, by show (0 ≤ _) ∧ True; exact ⟨by omega, trivial⟩⟩
  · simp only [List.cons.injEq, and_true] at hcs
    subst hcs
    simp at hmm
    rw [cellsIntT] at hx
    exact rowC_of_cells cInt (by decide) (Nat.le_trans hl (Nat.le_trans hm (by decide))) (fun i hi => by
      obtain ⟨cs, h1, h2⟩ := hx i (by omega)
      obtain ⟨s, h3, h4⟩ := Int_trod h2
      exact ⟨(s, cs), h1, h3, h4⟩)
end Go.Proofs.Ytmkchilhnmkhkaa
namespace Go.Proofs.Ytmkchilhnmkhkaa
open Go.RowKit Go.Proofs.Ytmkchilhnmkhkaa.Parts Go.Proofs.Ytmkchilhnmkhkaa.Hexa

def cStr : EncC ByteArray := ⟨9, 1, fun x => [.val (.string x)], fun _ => rfl⟩
end Go.Proofs.Ytmkchilhnmkhkaa
namespace Go.Proofs.Ytmkchilhnmkhkaa
open Go.Deep Go.ChangeShapes Go.WideShapes Go.RowKit

theorem cellsStrT : Try.prog.cellsOf 9 = 1 := by kernel_rfl
theorem Str_trod {H : Type} {enc : TypeId × Value → H} {W : World} {base fuel : Nat} {sp : Nat → Bool} {held : Bool} {cs : List Value} {x : DataW H × List MemPlace} (h : DataW.trod enc Try.prog W base sp held fuel 9 cs = some x) : ∃ s : ByteArray, RdL W (cStr.cels s) cs ∧ TyL (cStr.cels s) := by
  obtain ⟨s, e, _, b⟩ := DataW.trod_string Try.underlying9 h
  subst e
  exact ⟨s, ⟨_, _, rfl, rfl, rfl⟩, b, trivial⟩
end Go.Proofs.Ytmkchilhnmkhkaa
namespace Go.Proofs.Ytmkchilhnmkhkaa
open Go.Deep Go.ChangeShapes Go.WideShapes Go.RowKit

theorem cellsRecT : Try.prog.cellsOf 115 = 3 := by kernel_rfl
set_option maxRecDepth 100000 in
theorem Rec_trod {H : Type} {enc : TypeId × Value → H} {W : World} {fuel : Nat} {cs : List Value} {x : DataW H × List MemPlace} (h : DataW.trod enc Try.prog W 0 (fun _ => true) true fuel 115 cs = some x) : ∃ s : RecR, RdL W (cRec.cels s) cs ∧ TyL (cRec.cels s) := by
  obtain ⟨xs, n, _, _, hl, hlen, hg⟩ := DataW.trod_struct Try.underlying115 h
  have hl' : cs.length = 3 := hl.trans cellsRecT
  clear hl h
  match cs, hl' with
  | [c0, c1, c2], _ =>
    match xs, hlen with
    | [y0, y1, y2], _ =>
      have g0 : DataW.trod enc Try.prog W 0 (fun _ => true) true n 3 [c0] = some y0 := by have h := hg 0 _ rfl; simpa [cellsIntT, Value.cells] using h
      have g1 : DataW.trod enc Try.prog W 0 (fun _ => true) true n 3 [c1] = some y1 := by have h := hg 1 _ rfl; simpa [cellsIntT, Value.cells] using h
      have g2 : DataW.trod enc Try.prog W 0 (fun _ => true) true n 9 [c2] = some y2 := by have h := hg 2 _ rfl; simpa [cellsStrT, Value.cells] using h
      obtain ⟨s0, ⟨_, _, e0, r0, q0⟩, t0, _⟩ := Int_trod g0
      obtain ⟨s1, ⟨_, _, e1, r1, q1⟩, t1, _⟩ := Int_trod g1
      obtain ⟨s2, ⟨_, _, e2, r2, q2⟩, t2, _⟩ := Str_trod g2
      exact ⟨⟨s0, s1, s2⟩, ⟨_, _, rfl, by have h9 := List.head_eq_of_cons_eq e0; rw [h9]; exact r0, ⟨_, _, rfl, by have h9 := List.head_eq_of_cons_eq e1; rw [h9]; exact r1, ⟨_, _, rfl, by have h9 := List.head_eq_of_cons_eq e2; rw [h9]; exact r2, rfl⟩⟩⟩, t0, t1, t2, trivial⟩
end Go.Proofs.Ytmkchilhnmkhkaa
namespace Go.Proofs.Ytmkchilhnmkhkaa
open Go.Deep Go.ChangeShapes Go.WideShapes Go.RowKit

theorem cellsRecST : Try.prog.cellsOf 48 = 1 := by kernel_rfl
theorem RecS_trod {H : Type} {enc : TypeId × Value → H} {W : World} {fuel : Nat} {v : Value} {x : DataW H × List MemPlace} (h : DataW.trod enc Try.prog W 0 (fun _ => true) true fuel 48 [v] = some x) : ∃ L, (celRow cRec L).Rd W v ∧ (celRow cRec L).Ty := by
  rcases open_slice Try.underlying48 h with ⟨hcs, _⟩ | ⟨ad, l, c, m, n, D, Pl, hcs, _, hl, hm, hmm, _, hx⟩
  · simp only [List.cons.injEq, and_true] at hcs
    subst hcs
    exact ⟨[], ⟨rfl, none, 0, [], rfl, rfl, .inl rfl⟩, by show (0 ≤ _) ∧ True; exact ⟨by omega, trivial⟩⟩
  · simp only [List.cons.injEq, and_true] at hcs
    subst hcs
    simp at hmm
    rw [cellsRecT] at hx
    exact rowC_of_cells cRec (by decide) (Nat.le_trans hl (Nat.le_trans hm (by decide))) (fun i hi => by
      obtain ⟨cs, h1, h2⟩ := hx i (by omega)
      obtain ⟨s, h3, h4⟩ := Rec_trod h2
      exact ⟨(s, cs), h1, h3, h4⟩)
end Go.Proofs.Ytmkchilhnmkhkaa
namespace Go.Proofs.Ytmkchilhnmkhkaa
open Go.Deep Go.ChangeShapes Go.WideShapes Go.RowKit

theorem cellsEntryT : Try.prog.cellsOf 42 = 2 := by kernel_rfl
set_option maxRecDepth 100000 in
theorem Entry_trod {H : Type} {enc : TypeId × Value → H} {W : World} {fuel : Nat} {cs : List Value} {x : DataW H × List MemPlace} (h : DataW.trod enc Try.prog W 0 (fun _ => true) true fuel 42 cs = some x) : ∃ s : EntryR, RdL W (cEntry.cels s) cs ∧ TyL (cEntry.cels s) := by
  obtain ⟨xs, n, _, _, hl, hlen, hg⟩ := DataW.trod_struct Try.underlying42 h
  have hl' : cs.length = 2 := hl.trans cellsEntryT
  clear hl h
  match cs, hl' with
  | [c0, c1], _ =>
    match xs, hlen with
    | [y0, y1], _ =>
      have g0 : DataW.trod enc Try.prog W 0 (fun _ => true) true n 3 [c0] = some y0 := by have h := hg 0 _ rfl; simpa [cellsIntT, Value.cells] using h
      have g1 : DataW.trod enc Try.prog W 0 (fun _ => true) true n 9 [c1] = some y1 := by have h := hg 1 _ rfl; simpa [cellsStrT, Value.cells] using h
      obtain ⟨s0, ⟨_, _, e0, r0, q0⟩, t0, _⟩ := Int_trod g0
      obtain ⟨s1, ⟨_, _, e1, r1, q1⟩, t1, _⟩ := Str_trod g1
      exact ⟨⟨s0, s1⟩, ⟨_, _, rfl, by have h9 := List.head_eq_of_cons_eq e0; rw [h9]; exact r0, ⟨_, _, rfl, by have h9 := List.head_eq_of_cons_eq e1; rw [h9]; exact r1, rfl⟩⟩, t0, t1, trivial⟩
end Go.Proofs.Ytmkchilhnmkhkaa
namespace Go.Proofs.Ytmkchilhnmkhkaa
open Go.Deep Go.ChangeShapes Go.WideShapes Go.RowKit

theorem cellsEntryST : Try.prog.cellsOf 49 = 1 := by kernel_rfl
theorem EntryS_trod {H : Type} {enc : TypeId × Value → H} {W : World} {fuel : Nat} {v : Value} {x : DataW H × List MemPlace} (h : DataW.trod enc Try.prog W 0 (fun _ => true) true fuel 49 [v] = some x) : ∃ L, (celRow cEntry L).Rd W v ∧ (celRow cEntry L).Ty := by
  rcases open_slice Try.underlying49 h with ⟨hcs, _⟩ | ⟨ad, l, c, m, n, D, Pl, hcs, _, hl, hm, hmm, _, hx⟩
  · simp only [List.cons.injEq, and_true] at hcs
    subst hcs
    exact ⟨[], ⟨rfl, none, 0, [], rfl, rfl, .inl rfl⟩, by show (0 ≤ _) ∧ True; exact ⟨by omega, trivial⟩⟩
  · simp only [List.cons.injEq, and_true] at hcs
    subst hcs
    simp at hmm
    rw [cellsEntryT] at hx
    exact rowC_of_cells cEntry (by decide) (Nat.le_trans hl (Nat.le_trans hm (by decide))) (fun i hi => by
      obtain ⟨cs, h1, h2⟩ := hx i (by omega)
      obtain ⟨s, h3, h4⟩ := Entry_trod h2
      exact ⟨(s, cs), h1, h3, h4⟩)
end Go.Proofs.Ytmkchilhnmkhkaa
namespace Go.Proofs.Ytmkchilhnmkhkaa
open Go.Deep Go.ChangeShapes Go.WideShapes Go.RowKit

theorem cellsInoT : Try.prog.cellsOf 51 = 6 := by kernel_rfl
set_option maxRecDepth 100000 in
theorem Ino_trod {H : Type} {enc : TypeId × Value → H} {W : World} {fuel : Nat} {cs : List Value} {x : DataW H × List MemPlace} (h : DataW.trod enc Try.prog W 0 (fun _ => true) true fuel 51 cs = some x) : ∃ s : InoR, RdL W (cIno.cels s) cs ∧ TyL (cIno.cels s) := by
  obtain ⟨xs, n, _, _, hl, hlen, hg⟩ := DataW.trod_struct Try.underlying51 h
  have hl' : cs.length = 6 := hl.trans cellsInoT
  clear hl h
  match cs, hl' with
  | [c0, c1, c2, c3, c4, c5], _ =>
    match xs, hlen with
    | [y0, y1, y2, y3, y4, y5], _ =>
      have g0 : DataW.trod enc Try.prog W 0 (fun _ => true) true n 3 [c0] = some y0 := by have h := hg 0 _ rfl; simpa [cellsIntT, Value.cells] using h
      have g1 : DataW.trod enc Try.prog W 0 (fun _ => true) true n 3 [c1] = some y1 := by have h := hg 1 _ rfl; simpa [cellsIntT, Value.cells] using h
      have g2 : DataW.trod enc Try.prog W 0 (fun _ => true) true n 3 [c2] = some y2 := by have h := hg 2 _ rfl; simpa [cellsIntT, Value.cells] using h
      have g3 : DataW.trod enc Try.prog W 0 (fun _ => true) true n 9 [c3] = some y3 := by have h := hg 3 _ rfl; simpa [cellsStrT, Value.cells] using h
      have g4 : DataW.trod enc Try.prog W 0 (fun _ => true) true n 48 [c4] = some y4 := by have h := hg 4 _ rfl; simpa [cellsRecST, Value.cells] using h
      have g5 : DataW.trod enc Try.prog W 0 (fun _ => true) true n 49 [c5] = some y5 := by have h := hg 5 _ rfl; simpa [cellsEntryST, Value.cells] using h
      obtain ⟨s0, ⟨_, _, e0, r0, q0⟩, t0, _⟩ := Int_trod g0
      obtain ⟨s1, ⟨_, _, e1, r1, q1⟩, t1, _⟩ := Int_trod g1
      obtain ⟨s2, ⟨_, _, e2, r2, q2⟩, t2, _⟩ := Int_trod g2
      obtain ⟨s3, ⟨_, _, e3, r3, q3⟩, t3, _⟩ := Str_trod g3
      obtain ⟨s4, r4, t4⟩ := RecS_trod g4
      obtain ⟨s5, r5, t5⟩ := EntryS_trod g5
      exact ⟨⟨s0, s1, s2, s3, s4, s5⟩, ⟨_, _, rfl, by have h9 := List.head_eq_of_cons_eq e0; rw [h9]; exact r0, ⟨_, _, rfl, by have h9 := List.head_eq_of_cons_eq e1; rw [h9]; exact r1, ⟨_, _, rfl, by have h9 := List.head_eq_of_cons_eq e2; rw [h9]; exact r2, ⟨_, _, rfl, by have h9 := List.head_eq_of_cons_eq e3; rw [h9]; exact r3, ⟨_, _, rfl, r4, ⟨_, _, rfl, r5, rfl⟩⟩⟩⟩⟩⟩, t0, t1, t2, t3, t4, t5, trivial⟩
end Go.Proofs.Ytmkchilhnmkhkaa
namespace Go.Proofs.Ytmkchilhnmkhkaa
open Go.Deep Go.ChangeShapes Go.WideShapes Go.RowKit

theorem cellsInoST : Try.prog.cellsOf 29 = 1 := by kernel_rfl
theorem InoS_trod {H : Type} {enc : TypeId × Value → H} {W : World} {fuel : Nat} {v : Value} {x : DataW H × List MemPlace} (h : DataW.trod enc Try.prog W 0 (fun _ => true) true fuel 29 [v] = some x) : ∃ L, (celRow cIno L).Rd W v ∧ (celRow cIno L).Ty := by
  rcases open_slice Try.underlying29 h with ⟨hcs, _⟩ | ⟨ad, l, c, m, n, D, Pl, hcs, _, hl, hm, hmm, _, hx⟩
  · simp only [List.cons.injEq, and_true] at hcs
    subst hcs
    exact ⟨[], ⟨rfl, none, 0, [], rfl, rfl, .inl rfl⟩, by show (0 ≤ _) ∧ True; exact ⟨by omega, trivial⟩⟩
  · simp only [List.cons.injEq, and_true] at hcs
    subst hcs
    simp at hmm
    rw [cellsInoT] at hx
    exact rowC_of_cells cIno (by decide) (Nat.le_trans hl (Nat.le_trans hm (by decide))) (fun i hi => by
      obtain ⟨cs, h1, h2⟩ := hx i (by omega)
      obtain ⟨s, h3, h4⟩ := Ino_trod h2
      exact ⟨(s, cs), h1, h3, h4⟩)
end Go.Proofs.Ytmkchilhnmkhkaa
namespace Go.Proofs.Ytmkchilhnmkhkaa
open Go.Deep Go.ChangeShapes Go.WideShapes Go.RowKit

theorem cellsPartT : Try.prog.cellsOf 31 = 3 := by kernel_rfl
set_option maxRecDepth 100000 in
theorem Part_trod {H : Type} {enc : TypeId × Value → H} {W : World} {fuel : Nat} {cs : List Value} {x : DataW H × List MemPlace} (h : DataW.trod enc Try.prog W 0 (fun _ => true) true fuel 31 cs = some x) : ∃ s : PartR, RdL W (cPart.cels s) cs ∧ TyL (cPart.cels s) := by
  obtain ⟨xs, n, _, _, hl, hlen, hg⟩ := DataW.trod_struct Try.underlying31 h
  have hl' : cs.length = 3 := hl.trans cellsPartT
  clear hl h
  match cs, hl' with
  | [c0, c1, c2], _ =>
    match xs, hlen with
    | [y0, y1, y2], _ =>
      have g0 : DataW.trod enc Try.prog W 0 (fun _ => true) true n 3 [c0] = some y0 := by have h := hg 0 _ rfl; simpa [cellsIntT, Value.cells] using h
      have g1 : DataW.trod enc Try.prog W 0 (fun _ => true) true n 28 [c1] = some y1 := by have h := hg 1 _ rfl; simpa [cellsIntST, Value.cells] using h
      have g2 : DataW.trod enc Try.prog W 0 (fun _ => true) true n 29 [c2] = some y2 := by have h := hg 2 _ rfl; simpa [cellsInoST, Value.cells] using h
      obtain ⟨s0, ⟨_, _, e0, r0, q0⟩, t0, _⟩ := Int_trod g0
      obtain ⟨s1, r1, t1⟩ := IntS_trod g1
      obtain ⟨s2, r2, t2⟩ := InoS_trod g2
      exact ⟨⟨s0, s1, s2⟩, ⟨_, _, rfl, by have h9 := List.head_eq_of_cons_eq e0; rw [h9]; exact r0, ⟨_, _, rfl, r1, ⟨_, _, rfl, r2, rfl⟩⟩⟩, t0, t1, t2, trivial⟩
end Go.Proofs.Ytmkchilhnmkhkaa
