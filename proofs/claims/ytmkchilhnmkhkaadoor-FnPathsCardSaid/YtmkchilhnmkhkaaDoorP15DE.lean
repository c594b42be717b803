/- Merged texts: LnkMath, FindMath, Geo, FindSpec, IdxI, FindImpl, FindInodeLaw, PathBack, Draw, DrawLem, PickText, Draw15, SameTexts12, Grown, PathsLaw. -/
import Derived.Test.YtmkchilhnmkhkaaDoorP15DD
import Derived.Test.YtmkchilhnmkhkaaDoorRows
import Derived.WalkKit
import Derived.WalkSpells
import Derived.WalkLawsBesides
import Derived.RowKit3
import Derived.IntWalk
import Derived.Below
import Derived.Lib.Hide
import Derived.OwnWalk
import Derived.OneCell
import Derived.Deep.QuietTactic
import Derived.Deep.RegionWith
import Derived.BigQuiet
import Derived.Deep.AppendLies
namespace Go.Proofs.YtmkchilhnmkhkaaDoor

def dirE (n : InoR) : List EntryR := if n.kd = 2 then n.E else []
def entsOf (L : List InoR) : List EntryR := L.flatMap dirE
def cntI (M : List EntryR) (i : Int) : Nat := M.countP (fun e => e.f0 == i)
def hasI (M : List EntryR) (i : Int) : Bool := M.any (fun e => e.f0 == i)
def filR (n : InoR) : List RecR := if n.kd = 1 then n.R else []
def recsOf (L : List InoR) : List RecR := L.flatMap filR
def cntP (M : List RecR) (pg : Int) : Nat := M.countP (fun r => r.f0 == pg + 1)

theorem take_next {α : Type} [Inhabited α] {M : List α} {j : Nat} (hj : j < M.length) : M.take (j + 1) = M.take j ++ [M.getD j default] := by
  rw [List.take_succ_eq_append_getElem hj]
  simp [List.getD, hj]
theorem entsOf_next {L : List InoR} {k : Nat} (hk : k < L.length) : entsOf (L.take (k + 1)) = entsOf (L.take k) ++ dirE (L.getD k default) := by
  unfold entsOf
  rw [take_next hk, List.flatMap_append, List.flatMap_singleton]
theorem recsOf_next {L : List InoR} {k : Nat} (hk : k < L.length) : recsOf (L.take (k + 1)) = recsOf (L.take k) ++ filR (L.getD k default) := by
  unfold recsOf
  rw [take_next hk, List.flatMap_append, List.flatMap_singleton]
theorem cntI_append (A B : List EntryR) (i : Int) : cntI (A ++ B) i = cntI A i + cntI B i := List.countP_append
theorem cntP_append (A B : List RecR) (i : Int) : cntP (A ++ B) i = cntP A i + cntP B i := List.countP_append
theorem cntI_nil (i : Int) : cntI [] i = 0 := rfl
theorem cntP_nil (i : Int) : cntP [] i = 0 := rfl
theorem cntI_yes {M : List EntryR} {j : Nat} {i : Int} (hj : j < M.length) (h : (M.getD j default).f0 = i) : cntI (M.take (j + 1)) i = cntI (M.take j) i + 1 := by
  rw [take_next hj, cntI_append]
  generalize M.getD j default = e at h ⊢
  simp [cntI, h]
theorem cntI_no {M : List EntryR} {j : Nat} {i : Int} (hj : j < M.length) (h : ¬ (M.getD j default).f0 = i) : cntI (M.take (j + 1)) i = cntI (M.take j) i := by
  rw [take_next hj, cntI_append]
  generalize M.getD j default = e at h ⊢
  simp [cntI, h]
theorem cntP_yes {M : List RecR} {j : Nat} {i : Int} (hj : j < M.length) (h : (M.getD j default).f0 = i + 1) : cntP (M.take (j + 1)) i = cntP (M.take j) i + 1 := by
  rw [take_next hj, cntP_append]
  generalize M.getD j default = e at h ⊢
  simp [cntP, h]
theorem cntP_no {M : List RecR} {j : Nat} {i : Int} (hj : j < M.length) (h : ¬ (M.getD j default).f0 = i + 1) : cntP (M.take (j + 1)) i = cntP (M.take j) i := by
  rw [take_next hj, cntP_append]
  generalize M.getD j default = e at h ⊢
  simp [cntP, h]
theorem cntI_le (M : List EntryR) (i : Int) : cntI M i ≤ M.length := List.countP_le_length
theorem cntP_le (M : List RecR) (i : Int) : cntP M i ≤ M.length := List.countP_le_length
theorem hasI_next {M : List EntryR} {j : Nat} {i : Int} (hj : j < M.length) : hasI (M.take (j + 1)) i = (hasI (M.take j) i || ((M.getD j default).f0 == i)) := by
  rw [take_next hj]
  simp [hasI]
theorem hasI_take {M : List EntryR} {j : Nat} {i : Int} (h : hasI (M.take j) i = true) : hasI M i = true := by
  rw [← List.take_append_drop j M]
  unfold hasI at h ⊢
  rw [List.any_append, h]
  rfl
theorem sz_row {α : Type} (E : EncC α) (L : List α) : (celRow E L).sz = L.length + szL (celsE E L) := rfl
theorem len_sz {α : Type} (E : EncC α) (L : List α) : L.length ≤ (celRow E L).sz := by rw [sz_row]; omega
theorem ents_len : ∀ L : List InoR, (entsOf L).length ≤ szL (celsE cIno L)
  | [] => Nat.zero_le _
  | n :: r => by
    have h1 := ents_len r
    have h2 := len_sz cEntry n.E
    have h3 := cIno_sz n
    unfold entsOf at h1 ⊢
    rw [List.flatMap_cons, List.length_append, celsE, szL_append, h3]
    have h4 : (dirE n).length ≤ n.E.length := by unfold dirE; split <;> simp
    omega
theorem recs_len : ∀ L : List InoR, (recsOf L).length ≤ szL (celsE cIno L)
  | [] => Nat.zero_le _
  | n :: r => by
    have h1 := recs_len r
    have h2 := len_sz cRec n.R
    have h3 := cIno_sz n
    unfold recsOf at h1 ⊢
    rw [List.flatMap_cons, List.length_append, celsE, szL_append, h3]
    have h4 : (filR n).length ≤ n.R.length := by unfold filR; split <;> simp
    omega
theorem ents_take (L : List InoR) (k : Nat) : (entsOf (L.take k)).length ≤ szL (celsE cIno L) := Nat.le_trans (ents_len _) (szL_take cIno L k)
theorem recs_take (L : List InoR) (k : Nat) : (recsOf (L.take k)).length ≤ szL (celsE cIno L) := Nat.le_trans (recs_len _) (szL_take cIno L k)

/-- The first directory with an entry of inode i, from number k on. -/
def aboveGo : List InoR → Int → Nat → Int
  | [], _, _ => -1
  | n :: r, i, k => if hasI (dirE n) i = true then (k : Int) else aboveGo r i (k + 1)
def aboveZ (L : List InoR) (i : Int) : Int := aboveGo L i 0
theorem aboveGo_none : ∀ (L : List InoR) (i : Int) (k : Nat), (∀ j, j < L.length → hasI (dirE (L.getD j default)) i = false) → aboveGo L i k = -1
  | [], _, _, _ => rfl
  | n :: r, i, k, h => by
    have h0 := h 0 (by simp)
    simp only [List.getD_cons_zero] at h0
    rw [aboveGo, h0, if_neg (by simp), aboveGo_none r i (k + 1) (fun j hj => by have := h (j + 1) (by simpa using hj); simpa using this)]
theorem aboveGo_some : ∀ (L : List InoR) (i : Int) (k q : Nat), q < L.length → (∀ j, j < q → hasI (dirE (L.getD j default)) i = false) → hasI (dirE (L.getD q default)) i = true → aboveGo L i k = ((k + q : Nat) : Int)
  | n :: r, i, k, 0, _, _, h1 => by
    simp only [List.getD_cons_zero] at h1
    rw [aboveGo, if_pos h1, Nat.add_zero]
  | n :: r, i, k, q + 1, hq, h, h1 => by
    have h0 := h 0 (by omega)
    simp only [List.getD_cons_zero] at h0
    rw [aboveGo, h0, if_neg (by simp), aboveGo_some r i (k + 1) q (by simpa using hq) (fun j hj => by have := h (j + 1) (by omega); simpa using this) (by simpa using h1)]
    congr 1
    omega
theorem above_none {L : List InoR} {i : Int} (h : ∀ j, j < L.length → hasI (dirE (L.getD j default)) i = false) : aboveZ L i = -1 := aboveGo_none L i 0 h
theorem above_some {L : List InoR} {i : Int} {q : Nat} (hq : q < L.length) (h : ∀ j, j < q → hasI (dirE (L.getD j default)) i = false) (h1 : hasI (dirE (L.getD q default)) i = true) : aboveZ L i = (q : Int) := by
  have := aboveGo_some L i 0 q hq h h1
  rw [Nat.zero_add] at this
  exact this
theorem above_cases (L : List InoR) (i : Int) : aboveZ L i = -1 ∨ ∃ q, q < L.length ∧ aboveZ L i = (q : Int) := by
  have key : ∀ (L : List InoR) (k : Nat), aboveGo L i k = -1 ∨ ∃ q, q < L.length ∧ aboveGo L i k = ((k + q : Nat) : Int) := by
    intro L
    induction L with
    | nil => intro k; exact .inl rfl
    | cons n r ih =>
      intro k
      by_cases h : hasI (dirE n) i = true
      · exact .inr ⟨0, by simp, by rw [aboveGo, if_pos h, Nat.add_zero]⟩
      · rcases ih (k + 1) with h1 | ⟨q, h1, h2⟩
        · exact .inl (by rw [aboveGo, if_neg h, h1])
        · exact .inr ⟨q + 1, by simpa using h1, by rw [aboveGo, if_neg h, h2]; congr 1; omega⟩
  rcases key L 0 with h | ⟨q, h1, h2⟩
  · exact .inl h
  · exact .inr ⟨q, h1, by rw [Nat.zero_add] at h2; exact h2⟩
/-- The way up, at most f steps from here, n of them gone. -/
def depthGo (L : List InoR) : Nat → Nat → Int → Int
  | 0, _, _ => -1
  | f + 1, n, i => if i = 0 then (n : Int) else if aboveZ L i < 0 then -1 else depthGo L f (n + 1) (aboveZ L i)
def depthZ (L : List InoR) (i : Int) : Int := depthGo L (L.length + 1) 0 i
theorem dirE_no {n : InoR} (h : ¬ n.kd = 2) : dirE n = [] := if_neg h
theorem dirE_yes {n : InoR} (h : n.kd = 2) : dirE n = n.E := if_pos h
theorem filR_no {n : InoR} (h : ¬ n.kd = 1) : filR n = [] := if_neg h
theorem filR_yes {n : InoR} (h : n.kd = 1) : filR n = n.R := if_pos h
end Go.Proofs.YtmkchilhnmkhkaaDoor
namespace Go.Proofs.YtmkchilhnmkhkaaDoor

/-- The inode of the first entry with the name, or -1. -/
def childIn (M : List EntryR) (nm : ByteArray) : Int :=
  match M.find? (fun e => decide (e.f1 = nm)) with
  | some e => e.f0
  | none => -1
theorem child_none {M : List EntryR} {nm : ByteArray} (h : ∀ j, j < M.length → (M.getD j default).f1 ≠ nm) : childIn M nm = -1 := by
  have h1 : M.find? (fun e => decide (e.f1 = nm)) = none := List.find?_eq_none.2 (fun e he => by
    obtain ⟨j, hj, rfl⟩ := List.mem_iff_getElem.1 he
    have := h j hj
    simpa [List.getD, hj] using this)
  unfold childIn
  rw [h1]
theorem child_some : ∀ {M : List EntryR} {nm : ByteArray} {j : Nat}, j < M.length → (∀ i, i < j → (M.getD i default).f1 ≠ nm) → (M.getD j default).f1 = nm → childIn M nm = (M.getD j default).f0
  | e :: r, nm, 0, _, _, h1 => by
    simp only [List.getD_cons_zero] at h1 ⊢
    unfold childIn
    rw [List.find?_cons, decide_eq_true h1]
  | e :: r, nm, j + 1, hj, h, h1 => by
    have h0 := h 0 (by omega)
    simp only [List.getD_cons_zero] at h0
    have ih := child_some (M := r) (nm := nm) (j := j) (by simpa using hj) (fun i hi => by have := h (i + 1) (by omega); simpa using this) (by simpa using h1)
    have h2 : childIn (e :: r) nm = childIn r nm := by
      unfold childIn
      rw [List.find?_cons, decide_eq_false h0]
    rw [h2, ih]
    simp
/-- Down from inode i by these names. -/
def walkZ (L : List InoR) : List ByteArray → Nat → Int
  | [], i => (i : Int)
  | nm :: r, i => if 0 ≤ childIn (dirE (L.getD i default)) nm ∧ childIn (dirE (L.getD i default)) nm < (L.length : Int) then walkZ L r (childIn (dirE (L.getD i default)) nm).toNat else -1
def findZ15 (L : List InoR) (s : ByteArray) : Int := if pathCode s ≠ 0 ∨ L.length = 0 then -1 else walkZ L (pathNames s) 0
theorem drop_name {N : List ByteArray} {k : Nat} (h : k < N.length) : N.drop k = N.getD k default :: N.drop (k + 1) := by
  rw [List.drop_eq_getElem_cons h]
  simp [List.getD, h]
theorem walk_yes {L : List InoR} {N : List ByteArray} {k i : Nat} {d : Int} {q : Nat} (hk : k < N.length) (h : walkZ L (N.drop k) i = d) (hq : childIn (dirE (L.getD i default)) (N.getD k default) = (q : Int)) (hl : q < L.length) : walkZ L (N.drop (k + 1)) q = d := by
  rw [drop_name hk, walkZ, hq, if_pos ⟨by omega, by omega⟩] at h
  exact h
theorem walk_no {L : List InoR} {N : List ByteArray} {k i : Nat} {d : Int} {z : Int} (hk : k < N.length) (h : walkZ L (N.drop k) i = d) (hq : childIn (dirE (L.getD i default)) (N.getD k default) = z) (hl : ¬ (0 ≤ z ∧ z < (L.length : Int))) : d = -1 := by
  rw [drop_name hk, walkZ, hq, if_neg hl] at h
  exact h.symm
theorem walk_end {L : List InoR} {N : List ByteArray} {i : Nat} {d : Int} (h : walkZ L (N.drop N.length) i = d) : (i : Int) = d := by
  rw [List.drop_length] at h
  exact h
end Go.Proofs.YtmkchilhnmkhkaaDoor
namespace Go.Proofs.YtmkchilhnmkhkaaDoor
open Go.RowKit

/-- A block of four cells. -/
def Four (w : World) (b : Nat) (T P I Q : Int) (t : TypeId) : Prop := w.heap[b]? = some (.cells #[.int .i64 T, .int .i64 P, .int .i64 I, .int .i64 Q] t (0, 0))
theorem Four.lt {w : World} {b : Nat} {T P I Q : Int} {t : TypeId} (h : Four w b T P I Q t) : b < w.heap.size := (Array.getElem?_eq_some_iff.1 h).1
theorem Four.later {w w' : World} {b : Nat} {T P I Q : Int} {t : TypeId} (h : Four w b T P I Q t) (hb : Below w.heap.size w w') : Four w' b T P I Q t := (hb.block b h.lt).trans h
theorem Four.alloc (w : World) (T P I Q : Int) (t : TypeId) : Four (w.alloc (.cells #[.int .i64 T, .int .i64 P, .int .i64 I, .int .i64 Q] t)) w.heap.size T P I Q t := heap_alloc_new w _
theorem Four.c0 {w : World} {b : Nat} {T P I Q : Int} {t : TypeId} (h : Four w b T P I Q t) : w.cell? ⟨b, 0, none⟩ = some (.int .i64 T) := by unfold Four at h; simp [World.cell?, h]
theorem Four.c1 {w : World} {b : Nat} {T P I Q : Int} {t : TypeId} (h : Four w b T P I Q t) : w.cell? ⟨b, 1, none⟩ = some (.int .i64 P) := by unfold Four at h; simp [World.cell?, h]
theorem Four.c2 {w : World} {b : Nat} {T P I Q : Int} {t : TypeId} (h : Four w b T P I Q t) : w.cell? ⟨b, 2, none⟩ = some (.int .i64 I) := by unfold Four at h; simp [World.cell?, h]
theorem Four.c3 {w : World} {b : Nat} {T P I Q : Int} {t : TypeId} (h : Four w b T P I Q t) : w.cell? ⟨b, 3, none⟩ = some (.int .i64 Q) := by unfold Four at h; simp [World.cell?, h]
theorem Four.fr {w : World} {b o : Nat} {T P I Q : Int} {t : TypeId} (h : Four w b T P I Q t) : w.frozen? ⟨b, o, none⟩ = false := by unfold Four at h; simp [World.frozen?, h]
theorem Four.drew {w : World} {b : Nat} {T P I Q : Int} {t : TypeId} (h : Four w b T P I Q t) : Four w.drew b T P I Q t := h
theorem Four.setOther' {w : World} {b c o : Nat} {T P I Q : Int} {t : TypeId} {v : Value} (h : Four w b T P I Q t) (hne : b ≠ c) : Four (w.setCell ⟨c, o, none⟩ v) b T P I Q t := (Below.heap_setCell _ _ _ _ hne).trans h
theorem below_al (w : World) (o : Obj) : Below w.heap.size w (w.alloc o) := (Below.refl _ _).alloc (Nat.le_refl _) _

/-- Whether a layout is valid. -/
def GeoR (T P I Q : Int) : Prop := 1 ≤ T ∧ T ≤ 3 ∧ 5 ≤ P ∧ P ≤ 12 ∧ 2 ≤ I ∧ I ≤ 6 ∧ 1 ≤ Q ∧ Q ≤ P - 4
instance (T P I Q : Int) : Decidable (GeoR T P I Q) := by unfold GeoR; infer_instance
def SaysI (n : Int) (w : World) (e : Ending) (w' : World) : Prop := e = .returned (.int .i64 n) ∧ Below w.heap.size w w'
theorem geo_cases {T P I Q : Int} (h : ¬ GeoR T P I Q) : (¬ (1 ≤ T ∧ T ≤ 3)) ∨ ((1 ≤ T ∧ T ≤ 3) ∧ ¬ (5 ≤ P ∧ P ≤ 12)) ∨ ((1 ≤ T ∧ T ≤ 3) ∧ (5 ≤ P ∧ P ≤ 12) ∧ ¬ (2 ≤ I ∧ I ≤ 6)) ∨ ((1 ≤ T ∧ T ≤ 3) ∧ (5 ≤ P ∧ P ≤ 12) ∧ (2 ≤ I ∧ I ≤ 6) ∧ ¬ (1 ≤ Q ∧ Q ≤ P - 4)) := by
  unfold GeoR at h; omega
theorem within_cases (n a b : Int) : (a ≤ n ∧ n ≤ b) ∨ n < a ∨ (a ≤ n ∧ b < n) := by omega

/-- The words of a part. -/
def wordsOf (P I : Int) : Int := 38 + 8 * I + 4 * P
end Go.Proofs.YtmkchilhnmkhkaaDoor
namespace Go.Proofs.YtmkchilhnmkhkaaDoor
open Go.RowKit Go.Proofs.YtmkchilhnmkhkaaDoor.Parts Go.Proofs.YtmkchilhnmkhkaaDoor.Hexa

set_option maxRecDepth 100000 in
set_option maxHeartbeats 4000000 in
theorem specFind_any (p : PartR) (a1 : Option Addr) (c1 : Nat) (a2 : Option Addr) (c2 : Nat) (s : ByteArray) (w : World) (h2 : (celRow cIno p.ino).Rd w (.slice a2 p.ino.length c2)) (hz : szL (cPart.cels p) ≤ 100000000) (hs : s.size ≤ 2000000) :
    Calls Tryd.prog 28 #[.agg #[.int .i64 p.ser, .slice a1 p.st.length c1, .slice a2 p.ino.length c2], .string s] w (SaysI (findZ15 p.ino s) w) := by
  have B0 := Lib.hid (below_bk w (.cells #[.int .i64 p.ser, .slice a1 p.st.length c1, .slice a2 p.ino.length c2] 42))
  have T0 := Lib.hid (Bk.alloc w #[.int .i64 p.ser, .slice a1 p.st.length c1, .slice a2 p.ino.length c2] 42)
  have HS := Lib.hid h2
  rw [cPart_sz] at hz
  have hn : p.ino.length ≤ 100000000 := by have := sz_row cIno p.ino; omega
  have HY : Hid (∀ k, k < p.ino.length → (p.ino.getD k default).E.length ≤ 100000000) := Lib.hid (fun k hk => by
    have h3 := szL_at cIno p.ino k hk
    rw [cIno_sz] at h3
    have := len_sz cEntry (p.ino.getD k default).E
    have := sz_row cIno p.ino
    omega)
  clear h2 hz
  obtain ⟨L, hL⟩ : ∃ L, pathNames s = L := ⟨_, rfl⟩
  obtain ⟨q, hq⟩ : ∃ q, pathCode s = q := ⟨_, rfl⟩
  obtain ⟨d, hd⟩ : ∃ d, findZ15 p.ino s = d := ⟨_, rfl⟩
  have hl : L.length ≤ 61 := by rw [← hL]; exact names_len s
  have HQ := Lib.hid hq
  have HL := Lib.hid hL
  have HD : Hid ((if q ≠ 0 ∨ p.ino.length = 0 then -1 else walkZ p.ino L 0) = d) := Lib.hid (by rw [← hd, ← hq, ← hL]; rfl)
  rw [hd]
  clear hL hq hd
  go_enter Tryd.func28, Tryd.ntmps28
  go_wp2_with fail
  refine (specSplit_any s _ hs).mono ?_
  rw [HQ.out, HL.out]
  rintro e w1 ⟨v, rfl, ho, hb⟩
  obtain ⟨ad, cap, rfl, hcap, hnc, hr⟩ := own_form ho
  have HN : Hid (SrcT w1 ad L.length L) := Lib.hid (srcT_of_own ho)
  have HT := Lib.hid (T0.out.later hb)
  have HB : Hid (Below w.heap.size w w1) := Lib.hid (B0.out.trans (hb.mono B0.out.size))
  unfold maxLen at hcap
  clear ho hb hr T0 B0
  by_cases c1' : q = 0
  case neg =>
    have HE : Hid (-1 = d) := Lib.hid (by have := HD.out; rw [if_pos (.inl c1')] at this; exact this)
    have t2 := HT.out.cell (j := 2) rfl
    go_wp2
    go_ret
    exact ⟨ret_i64m HE.out, HB.out⟩
  subst c1'
  by_cases c2' : p.ino.length = 0
  · have HE : Hid (-1 = d) := Lib.hid (by have := HD.out; rw [if_pos (.inr c2')] at this; exact this)
    have t2 := HT.out.cell (j := 2) rfl
    rw [c2'] at t2
    go_wp2
    go_ret
    exact ⟨ret_i64m HE.out, HB.out⟩
  have HW : Hid (walkZ p.ino (L.drop 0) 0 = d) := Lib.hid (by have := HD.out; rw [if_neg (fun h => h.elim (fun h => h rfl) c2')] at this; exact this)
  have t2 := HT.out.cell (j := 2) rfl
  have e0 : ((p.ino.length : Int) == 0) = false := beq_eq_false_iff_ne.2 (by omega)
  go_wp2
  clear t2 HD e0
  go_loopw [7, 8] (fun iv kv wr => ∃ (k i : Nat), k ≤ L.length ∧ i < p.ino.length ∧ kv = .int .i64 k ∧ iv = .int .i64 i ∧ Hid (walkZ p.ino (L.drop k) i = d) ∧ Hid (Below w.heap.size w wr) ∧ Hid (Bk wr w.heap.size #[.int .i64 p.ser, .slice a1 p.st.length c1, .slice a2 p.ino.length c2] 42) ∧ Hid (SrcT wr ad L.length L)) (fun _ kv _ => L.length - (intOf kv).toNat)
  case atStart => exact ⟨0, 0, Nat.zero_le _, by omega, rfl, rfl, HW, HB, HT, HN⟩
  case round =>
    clear HW HB HT HN
    obtain ⟨k, i, hk, hi, rfl, rfl, HW, HB, HT, HN⟩ := hrel
    have t2 := HT.out.cell (j := 2) rfl
    by_cases hlt : k < L.length
    · obtain ⟨x, hx⟩ : ∃ x, p.ino.getD i default = x := ⟨_, rfl⟩
      obtain ⟨nm, hnm⟩ : ∃ y, L.getD k default = y := ⟨_, rfl⟩
      have hy := HY.out i hi
      rw [hx] at hy
      obtain ⟨zc, hzc⟩ : ∃ z, childIn (dirE x) nm = z := ⟨_, rfl⟩
      have HZ := Lib.hid hzc
      have HX := Lib.hid hx
      have HNM := Lib.hid hnm
      have HYes : Hid (∀ r : Nat, zc = (r : Int) → r < p.ino.length → walkZ p.ino (L.drop (k + 1)) r = d) := Lib.hid (fun r h1 h2 => walk_yes hlt HW.out (by rw [hx, hnm, hzc, h1]) h2)
      have HNo : Hid (¬ (0 ≤ zc ∧ zc < (p.ino.length : Int)) → -1 = d) := Lib.hid (fun h => (walk_no hlt HW.out (by rw [hx, hnm]; exact hzc) h).symm)
      clear hzc hx hnm HW
      go_wp2
      clear t2
      go_loopw [9, 10, 11] (fun zv fv jv wr => ∃ (j : Nat) (z : Int) (f : Bool), j ≤ x.E.length ∧ jv = .int .i64 j ∧ zv = .int .i64 z ∧ fv = .bool f ∧ Hid (f = false → z = -1 ∧ ∀ r, r < j → (x.E.getD r default).f1 ≠ nm) ∧ Hid (f = true → z = zc) ∧ (x.kd = 2 ∨ (j = 0 ∧ f = false)) ∧ Hid (Below w.heap.size w wr) ∧ Hid (Bk wr w.heap.size #[.int .i64 p.ser, .slice a1 p.st.length c1, .slice a2 p.ino.length c2] 42) ∧ Hid (SrcT wr ad L.length L)) (fun _ _ jv _ => x.E.length - (intOf jv).toNat)
      case atStart => exact ⟨0, -1, false, Nat.zero_le _, rfl, rfl, rfl, Lib.hid (fun _ => ⟨rfl, fun r hr => by omega⟩), Lib.hid (fun h => by cases h), .inr ⟨rfl, rfl⟩, HB, HT, HN⟩
      case round =>
        clear HB HT HN
        obtain ⟨j, z, f, hj, rfl, rfl, rfl, HF, HTr, hor, HB, HT, HN⟩ := hrel
        have t2 := HT.out.cell (j := 2) rfl
        obtain ⟨g, off, a4, c4, a5, c5, rfl, hg, d0, d1, d2, d3, d4, d5, r4, r5⟩ := cIno_at (Cel.Rd.later HB.out _ _ HS.out) i hi
        rw [HX.out] at d0 d5 r5
        have R5 := Lib.hid r5
        clear d1 d2 d3 d4 r4 r5
        by_cases hstop : j < x.E.length ∧ x.kd = 2 ∧ f = false
        · obtain ⟨hjt, hkd, rfl⟩ := hstop
          rw [hkd] at d0
          obtain ⟨ge, oe, rfl, hge, q0, q1⟩ := cEntry_at R5.out j hjt
          obtain ⟨gn, on, rfl, hgn, e0⟩ := srcT_at HN.out k hlt
          rw [HNM.out] at e0
          obtain ⟨ev, hev⟩ : ∃ e, x.E.getD j default = e := ⟨_, rfl⟩
          rw [hev] at q0 q1
          have HEV := Lib.hid hev
          clear hev
          have HB2 : Hid (Below w.heap.size w wr.drew) := Lib.hid HB.out.drew
          have HT2 := Lib.hid HT.out.drew
          have HN2 : Hid (SrcT wr.drew (some ⟨gn, on, none⟩) L.length L) := Lib.hid (HN.out.later (Below.refl _ _).drew)
          by_cases hq : ev.f1 = nm
          · have HZ2 : Hid (ev.f0 = zc) := Lib.hid (by
              rw [← HZ.out, dirE_yes hkd, child_some hjt (HF.out rfl).2 (by rw [HEV.out]; exact hq), HEV.out])
            subst hq
            go_wp2
            go_region
            all_goals
              go_wp2
              go_roundw
              case rel => exact ⟨j + 1, ev.f0, true, by omega, by go_num, rfl, rfl, Lib.hid (fun h => by cases h), Lib.hid (fun _ => HZ2.out), .inl hkd, HB2, HT2, HN2⟩
              case measure => (simp [intOf]; try omega)
          · have HF2 : Hid (z = -1 ∧ ∀ r, r < j + 1 → (x.E.getD r default).f1 ≠ nm) := Lib.hid (⟨(HF.out rfl).1, fun r hr => by
              by_cases e : r = j
              · subst e; rw [HEV.out]; exact hq
              · exact (HF.out rfl).2 r (by omega)⟩)
            have i1 := text_neB hq
            have i3 := text_ne hq
            clear HF
            go_wp2
            go_region
            all_goals
              go_wp2
              go_roundw
              case rel => exact ⟨j + 1, z, false, by omega, by go_num, rfl, rfl, Lib.hid (fun _ => HF2.out), Lib.hid (fun h => by cases h), .inl hkd, HB2, HT2, HN2⟩
              case measure => (simp [intOf]; try omega)
        · have hzz : z = zc := by
            cases f with
            | true => exact HTr.out rfl
            | false =>
              obtain ⟨h1, h2⟩ := HF.out rfl
              rw [h1, ← HZ.out]
              by_cases hkd : x.kd = 2
              · have hjE : j = x.E.length := by
                  by_cases h : j < x.E.length
                  · exact absurd ⟨h, hkd, rfl⟩ hstop
                  · omega
                rw [dirE_yes hkd, child_none (fun r hr => h2 r (by omega))]
              · rw [dirE_no hkd]; rfl
          subst hzz
          by_cases hjt : j < x.E.length
          · by_cases hkd : x.kd = 2
            · have hf : f = true := by
                cases f with
                | true => rfl
                | false => exact absurd ⟨hjt, hkd, rfl⟩ hstop
              subst hf
              rw [hkd] at d0
              clear hstop HF HTr
              by_cases hin : 0 ≤ z ∧ z ≤ (p.ino.length : Int) - 1
              · obtain ⟨r, rfl⟩ : ∃ r : Nat, z = (r : Int) := ⟨z.toNat, by omega⟩
                have HWn : Hid (walkZ p.ino (L.drop (k + 1)) r = d) := Lib.hid (HYes.out r rfl (by omega))
                have HIN := Lib.hid hin
                have hr9 : r < p.ino.length := by omega
                clear hin HYes HNo
                go_wp2_with ((with_reducible refine (range_yes _ HIN.out).mono ?_); rintro e w9 ⟨rfl, rfl⟩)
                go_roundw
                case rel => exact ⟨k + 1, r, by omega, hr9, by go_num, rfl, HWn, HB, HT, HN⟩
                case measure => (simp [intOf]; try omega)
              · have HE : Hid (-1 = d) := Lib.hid (HNo.out (fun h => hin ⟨h.1, by omega⟩))
                have HIN := Lib.hid hin
                clear hin HYes HNo
                go_wp2_with ((with_reducible refine (range_no _ HIN.out).mono ?_); rintro e w9 ⟨rfl, rfl⟩)
                go_ret
                exact ⟨ret_i64m HE.out, HB.out⟩
            · clear hstop HF HTr
              by_cases hin : 0 ≤ z ∧ z ≤ (p.ino.length : Int) - 1
              · obtain ⟨r, rfl⟩ : ∃ r : Nat, z = (r : Int) := ⟨z.toNat, by omega⟩
                have HWn : Hid (walkZ p.ino (L.drop (k + 1)) r = d) := Lib.hid (HYes.out r rfl (by omega))
                have HIN := Lib.hid hin
                have hr9 : r < p.ino.length := by omega
                clear hin HYes HNo
                go_wp2_with ((with_reducible refine (range_yes _ HIN.out).mono ?_); rintro e w9 ⟨rfl, rfl⟩)
                go_roundw
                case rel => exact ⟨k + 1, r, by omega, hr9, by go_num, rfl, HWn, HB, HT, HN⟩
                case measure => (simp [intOf]; try omega)
              · have HE : Hid (-1 = d) := Lib.hid (HNo.out (fun h => hin ⟨h.1, by omega⟩))
                have HIN := Lib.hid hin
                clear hin HYes HNo
                go_wp2_with ((with_reducible refine (range_no _ HIN.out).mono ?_); rintro e w9 ⟨rfl, rfl⟩)
                go_ret
                exact ⟨ret_i64m HE.out, HB.out⟩
          · obtain rfl : j = x.E.length := by omega
            clear hstop HF HTr
            by_cases hin : 0 ≤ z ∧ z ≤ (p.ino.length : Int) - 1
            · obtain ⟨r, rfl⟩ : ∃ r : Nat, z = (r : Int) := ⟨z.toNat, by omega⟩
              have HWn : Hid (walkZ p.ino (L.drop (k + 1)) r = d) := Lib.hid (HYes.out r rfl (by omega))
              have HIN := Lib.hid hin
              have hr9 : r < p.ino.length := by omega
              clear hin HYes HNo
              go_wp2_with ((with_reducible refine (range_yes _ HIN.out).mono ?_); rintro e w9 ⟨rfl, rfl⟩)
              go_roundw
              case rel => exact ⟨k + 1, r, by omega, hr9, by go_num, rfl, HWn, HB, HT, HN⟩
              case measure => (simp [intOf]; try omega)
            · have HE : Hid (-1 = d) := Lib.hid (HNo.out (fun h => hin ⟨h.1, by omega⟩))
              have HIN := Lib.hid hin
              clear hin HYes HNo
              go_wp2_with ((with_reducible refine (range_no _ HIN.out).mono ?_); rintro e w9 ⟨rfl, rfl⟩)
              go_ret
              exact ⟨ret_i64m HE.out, HB.out⟩
    · obtain rfl : k = L.length := by omega
      have HE := Lib.hid (walk_end HW.out)
      go_wp2
      go_ret
      exact ⟨ret_i64m HE.out, HB.out⟩
end Go.Proofs.YtmkchilhnmkhkaaDoor
namespace Go.Proofs.YtmkchilhnmkhkaaDoor
open Go.RowKit

set_option maxRecDepth 100000 in
set_option maxHeartbeats 400000 in
theorem implIdx_any (n b : Int) (w : World) : Calls Tryd.prog 66 #[.int .i64 n, .int .i64 b] w fun e w' => e = .returned (.bool (decide (0 ≤ n ∧ n < b))) ∧ w' = w := by
  by_cases h1 : 0 ≤ n <;> by_cases h2 : n < b
  all_goals
    go_enter Tryd.func66, Tryd.ntmps66
    go_wp2
    all_goals go_ret
    all_goals exact ⟨by simp [h1, h2], rfl⟩
theorem implIdx_yes {n b : Int} (w : World) (h : 0 ≤ n ∧ n < b) : Calls Tryd.prog 66 #[.int .i64 n, .int .i64 b] w fun e w' => e = .returned (.bool true) ∧ w' = w :=
  (implIdx_any n b w).mono fun _ _ ⟨he, hw⟩ => ⟨by rw [he, decide_eq_true h], hw⟩
theorem implIdx_no {n b : Int} (w : World) (h : ¬ (0 ≤ n ∧ n < b)) : Calls Tryd.prog 66 #[.int .i64 n, .int .i64 b] w fun e w' => e = .returned (.bool false) ∧ w' = w :=
  (implIdx_any n b w).mono fun _ _ ⟨he, hw⟩ => ⟨by rw [he, decide_eq_false h], hw⟩
end Go.Proofs.YtmkchilhnmkhkaaDoor
namespace Go.Proofs.YtmkchilhnmkhkaaDoor
open Go.RowKit Go.Proofs.YtmkchilhnmkhkaaDoor.Parts Go.Proofs.YtmkchilhnmkhkaaDoor.Hexa

set_option maxRecDepth 100000 in
set_option maxHeartbeats 2000000 in
theorem implChild_any (x : InoR) (a4 : Option Addr) (n4 c4 : Nat) (a5 : Option Addr) (c5 : Nat) (nm : ByteArray) (w : World) (h5 : (celRow cEntry x.E).Rd w (.slice a5 x.E.length c5)) (hl : x.E.length ≤ 100000000) :
    Calls Tryd.prog 65 #[.agg #[.int .i64 x.kd, .int .i64 x.sz, .int .i64 x.gn, .string x.key, .slice a4 n4 c4, .slice a5 x.E.length c5], .string nm] w (SaysI (childIn (dirE x) nm) w) := by
  have B0 := Lib.hid (below_bk w (.cells #[.int .i64 x.kd, .int .i64 x.sz, .int .i64 x.gn, .string x.key, .slice a4 n4 c4, .slice a5 x.E.length c5] 54))
  have T0 := Lib.hid (Bk.alloc w #[.int .i64 x.kd, .int .i64 x.sz, .int .i64 x.gn, .string x.key, .slice a4 n4 c4, .slice a5 x.E.length c5] 54)
  have HS := Lib.hid h5
  clear h5
  obtain ⟨kd, hkd0⟩ : ∃ y, x.kd = y := ⟨_, rfl⟩
  have HK := Lib.hid hkd0
  rw [hkd0] at B0 T0 ⊢
  clear hkd0
  have t0 := T0.out.cell (j := 0) rfl
  have t5 := T0.out.cell (j := 5) rfl
  by_cases hkd : kd = 2
  · subst hkd
    have HD : Hid (dirE x = x.E) := Lib.hid (dirE_yes HK.out)
    obtain ⟨z, hz⟩ : ∃ z, childIn (dirE x) nm = z := ⟨_, rfl⟩
    rw [hz]
    have HZ : Hid (childIn x.E nm = z) := Lib.hid (by rw [← hz, HD.out])
    clear hz
    go_enter Tryd.func65, Tryd.ntmps65
    go_wp2
    clear t0 t5
    go_loopw [13] (fun jv wr => ∃ j : Nat, j ≤ x.E.length ∧ jv = .int .i64 j ∧ Hid (∀ r, r < j → (x.E.getD r default).f1 ≠ nm) ∧ Hid (Below w.heap.size w wr)) (fun jv _ => x.E.length - (intOf jv).toNat)
    case atStart => exact ⟨0, Nat.zero_le _, rfl, Lib.hid (fun r hr => by omega), B0⟩
    case round =>
      clear T0 B0
      obtain ⟨j, hj, rfl, HA, HB⟩ := hrel
      by_cases hjt : j < x.E.length
      · obtain ⟨ge, oe, rfl, hge, q0, q1⟩ := cEntry_at (Cel.Rd.later HB.out _ _ HS.out) j hjt
        obtain ⟨ev, hev⟩ : ∃ e, x.E.getD j default = e := ⟨_, rfl⟩
        rw [hev] at q0 q1
        have HEV := Lib.hid hev
        clear hev
        have HB2 : Hid (Below w.heap.size w (wr.alloc (.cells #[.int .i64 ev.f0, .string ev.f1] 47))) := Lib.hid (HB.out.alloc HB.out.size _)
        by_cases hq : ev.f1 = nm
        · have HZ2 : Hid (ev.f0 = z) := Lib.hid (by rw [← HZ.out, child_some hjt HA.out (by rw [HEV.out]; exact hq), HEV.out])
          subst hq
          go_wp2
          go_ret
          exact ⟨ret_i64m HZ2.out, HB2.out⟩
        · have HA2 : Hid (∀ r, r < j + 1 → (x.E.getD r default).f1 ≠ nm) := Lib.hid (fun r hr => by
            by_cases e : r = j
            · subst e; rw [HEV.out]; exact hq
            · exact HA.out r (by omega))
          have i1 := text_neB hq
          have i3 := text_ne hq
          clear HA
          go_wp2
          go_roundw
          case rel => exact ⟨j + 1, by omega, by go_num, HA2, HB2⟩
          case measure => (simp [intOf]; try omega)
      · obtain rfl : j = x.E.length := by omega
        have HE : Hid (-1 = z) := Lib.hid (by rw [← HZ.out, child_none HA.out])
        go_wp2
        go_ret
        exact ⟨ret_i64m HE.out, HB.out⟩
  · have HE : Hid (-1 = childIn (dirE x) nm) := Lib.hid (by rw [dirE_no (by rw [HK.out]; exact hkd)]; rfl)
    go_enter Tryd.func65, Tryd.ntmps65
    go_wp2
    go_ret
    exact ⟨ret_i64m HE.out, B0.out⟩

set_option maxRecDepth 100000 in
set_option maxHeartbeats 4000000 in
theorem implFind_any15 (p : PartR) (a1 : Option Addr) (c1 : Nat) (a2 : Option Addr) (c2 : Nat) (s : ByteArray) (w : World) (h2 : (celRow cIno p.ino).Rd w (.slice a2 p.ino.length c2)) (hz : szL (cPart.cels p) ≤ 100000000) (hs : s.size ≤ 2000000) (hE : ErrIs w) :
    Calls Tryd.prog 30 #[.agg #[.int .i64 p.ser, .slice a1 p.st.length c1, .slice a2 p.ino.length c2], .string s] w (SaysI (findZ15 p.ino s) w) := by
  have B0 := Lib.hid (below_bk w (.cells #[.int .i64 p.ser, .slice a1 p.st.length c1, .slice a2 p.ino.length c2] 42))
  have T0 := Lib.hid (Bk.alloc w #[.int .i64 p.ser, .slice a1 p.st.length c1, .slice a2 p.ino.length c2] 42)
  have HE0 : Hid (ErrIs (w.alloc (.cells #[.int .i64 p.ser, .slice a1 p.st.length c1, .slice a2 p.ino.length c2] 42))) := Lib.hid (hE.later rfl B0.out)
  have HS := Lib.hid h2
  rw [cPart_sz] at hz
  have hn : p.ino.length ≤ 100000000 := by have := sz_row cIno p.ino; omega
  have HY : Hid (∀ k, k < p.ino.length → (p.ino.getD k default).E.length ≤ 100000000) := Lib.hid (fun k hk => by
    have h3 := szL_at cIno p.ino k hk
    rw [cIno_sz] at h3
    have := len_sz cEntry (p.ino.getD k default).E
    have := sz_row cIno p.ino
    omega)
  clear h2 hz hE
  obtain ⟨L, hL⟩ : ∃ L, pathNames s = L := ⟨_, rfl⟩
  obtain ⟨q, hq⟩ : ∃ q, pathCode s = q := ⟨_, rfl⟩
  obtain ⟨d, hd⟩ : ∃ d, findZ15 p.ino s = d := ⟨_, rfl⟩
  have hl : L.length ≤ 61 := by rw [← hL]; exact names_len s
  have HQ := Lib.hid hq
  have HL := Lib.hid hL
  have HD : Hid ((if q ≠ 0 ∨ p.ino.length = 0 then -1 else walkZ p.ino L 0) = d) := Lib.hid (by rw [← hd, ← hq, ← hL]; rfl)
  rw [hd]
  clear hL hq hd
  go_enter Tryd.func30, Tryd.ntmps30
  go_wp2_with fail
  refine (implSplit_any s _ hs HE0.out).mono ?_
  rw [HQ.out, HL.out]
  rintro e w1 ⟨v, rfl, ho, hb⟩
  obtain ⟨ad, cap, rfl, hcap, hnc, hr⟩ := own_form ho
  have HN : Hid (SrcT w1 ad L.length L) := Lib.hid (srcT_of_own ho)
  have HT := Lib.hid (T0.out.later hb)
  have HB : Hid (Below w.heap.size w w1) := Lib.hid (B0.out.trans (hb.mono B0.out.size))
  unfold maxLen at hcap
  clear ho hb hr T0 B0 HE0
  by_cases c1' : q = 0
  case neg =>
    have HE : Hid (-1 = d) := Lib.hid (by have := HD.out; rw [if_pos (.inl c1')] at this; exact this)
    have t2 := HT.out.cell (j := 2) rfl
    go_wp2
    go_ret
    exact ⟨ret_i64m HE.out, HB.out⟩
  subst c1'
  by_cases c2' : p.ino.length = 0
  · have HE : Hid (-1 = d) := Lib.hid (by have := HD.out; rw [if_pos (.inr c2')] at this; exact this)
    have t2 := HT.out.cell (j := 2) rfl
    rw [c2'] at t2
    go_wp2
    go_ret
    exact ⟨ret_i64m HE.out, HB.out⟩
  have HW : Hid (walkZ p.ino (L.drop 0) 0 = d) := Lib.hid (by have := HD.out; rw [if_neg (fun h => h.elim (fun h => h rfl) c2')] at this; exact this)
  have t2 := HT.out.cell (j := 2) rfl
  have e0 : ((p.ino.length : Int) == 0) = false := beq_eq_false_iff_ne.2 (by omega)
  go_wp2
  clear t2 HD e0
  go_loopw [7, 25] (fun iv kv wr => ∃ (k i : Nat), k ≤ L.length ∧ i < p.ino.length ∧ kv = .int .i64 k ∧ iv = .int .i64 i ∧ Hid (walkZ p.ino (L.drop k) i = d) ∧ Hid (Below w.heap.size w wr) ∧ Hid (Bk wr w.heap.size #[.int .i64 p.ser, .slice a1 p.st.length c1, .slice a2 p.ino.length c2] 42) ∧ Hid (SrcT wr ad L.length L)) (fun _ kv _ => L.length - (intOf kv).toNat)
  case atStart => exact ⟨0, 0, Nat.zero_le _, by omega, rfl, rfl, HW, HB, HT, HN⟩
  case round =>
    clear HW HB HT HN
    obtain ⟨k, i, hk, hi, rfl, rfl, HW, HB, HT, HN⟩ := hrel
    have t2 := HT.out.cell (j := 2) rfl
    by_cases hlt : k < L.length
    · obtain ⟨gn, on, rfl, hgn, e0⟩ := srcT_at HN.out k hlt
      obtain ⟨nm, hnm⟩ : ∃ y, L.getD k default = y := ⟨_, rfl⟩
      rw [hnm] at e0
      obtain ⟨g, off, a4, c4, a5, c5, rfl, hg, d0, d1, d2, d3, d4, d5, r4, r5⟩ := cIno_at (Cel.Rd.later HB.out _ _ HS.out) i hi
      obtain ⟨x, hx⟩ : ∃ x, p.ino.getD i default = x := ⟨_, rfl⟩
      have hy := HY.out i hi
      rw [hx] at hy d0 d1 d2 d3 d4 d5 r5
      obtain ⟨z, hzc⟩ : ∃ z, childIn (dirE x) nm = z := ⟨_, rfl⟩
      have HZ := Lib.hid hzc
      have HYes : Hid (∀ r : Nat, z = (r : Int) → r < p.ino.length → walkZ p.ino (L.drop (k + 1)) r = d) := Lib.hid (fun r h1 h2 => walk_yes hlt HW.out (by rw [hx, hnm, hzc, h1]) h2)
      have HNo : Hid (¬ (0 ≤ z ∧ z < (p.ino.length : Int)) → -1 = d) := Lib.hid (fun h => (walk_no hlt HW.out (by rw [hx, hnm]; exact hzc) h).symm)
      have R5 := Lib.hid r5
      clear hzc hx hnm HW r4 r5
      go_wp2_with fail
      refine (implChild_any x a4 _ c4 a5 c5 nm _ R5.out hy).mono ?_
      rw [HZ.out]
      rintro e w2 ⟨rfl, hb⟩
      have HB2 : Hid (Below w.heap.size w w2) := Lib.hid (HB.out.trans (hb.mono HB.out.size))
      have HT2 := Lib.hid (HT.out.later hb)
      have HN2 : Hid (SrcT w2 (some ⟨gn, on, none⟩) L.length L) := Lib.hid (HN.out.later hb)
      have t2 := HT2.out.cell (j := 2) rfl
      clear hb d0 d1 d2 d3 d4 d5 e0
      by_cases hin : 0 ≤ z ∧ z < (p.ino.length : Int)
      · obtain ⟨r, rfl⟩ : ∃ r : Nat, z = (r : Int) := ⟨z.toNat, by omega⟩
        have HWn : Hid (walkZ p.ino (L.drop (k + 1)) r = d) := Lib.hid (HYes.out r rfl (by omega))
        have HIN := Lib.hid hin
        have hr9 : r < p.ino.length := by omega
        clear hin HYes HNo
        go_wp2_with ((with_reducible refine (implIdx_yes _ HIN.out).mono ?_); rintro e w9 ⟨rfl, rfl⟩)
        go_roundw
        case rel => exact ⟨k + 1, r, by omega, hr9, by go_num, rfl, HWn, HB2, HT2, HN2⟩
        case measure => (simp [intOf]; try omega)
      · have HE : Hid (-1 = d) := Lib.hid (HNo.out hin)
        have HIN := Lib.hid hin
        clear hin HYes HNo
        go_wp2_with ((with_reducible refine (implIdx_no _ HIN.out).mono ?_); rintro e w9 ⟨rfl, rfl⟩)
        go_ret
        exact ⟨ret_i64m HE.out, HB2.out⟩
    · obtain rfl : k = L.length := by omega
      have HE := Lib.hid (walk_end HW.out)
      go_wp2
      go_ret
      exact ⟨ret_i64m HE.out, HB.out⟩
end Go.Proofs.YtmkchilhnmkhkaaDoor
namespace Go.Proofs.YtmkchilhnmkhkaaDoor
open Go.RowKit Go.Proofs.YtmkchilhnmkhkaaDoor.Parts Go.Proofs.YtmkchilhnmkhkaaDoor.Hexa Go.Proofs.YtmkchilhnmkhkaaDoor.Byt

set_option maxRecDepth 100000 in
set_option maxHeartbeats 4000000 in
theorem findInode_law (p : PartR) (a1_p : Option Addr) (c1_p : Nat) (a2_p : Option Addr) (c2_p : Nat) (q : ByteArray) (w : World) (ht_p : TyL (cPart.cels p)) (h1_p : (celRow cInt p.st).Rd w (.slice a1_p p.st.length c1_p)) (h2_p : (celRow cIno p.ino).Rd w (.slice a2_p p.ino.length c2_p)) (hq : q.size ≤ 1048576) (hE : ErrIs w) :
    Calls Tryd.prog 8 #[.agg #[.int .i64 p.ser, .slice a1_p p.st.length c1_p, .slice a2_p p.ino.length c2_p], .string q] w fun e w' => e = .returned (.bool true) ∧ Below w.heap.size w w' := by
  have HT_p := Lib.hid ht_p
  clear ht_p
  have HS1_p := Lib.hid h1_p
  clear h1_p
  have HS2_p := Lib.hid h2_p
  clear h2_p
  have HE := Lib.hid hE
  clear hE
  obtain ⟨rv, hrv⟩ : ∃ d, findZ15 p.ino q = d := ⟨_, rfl⟩
  have HRV := Lib.hid hrv
  clear hrv
  have Xp_0 := Lib.hid (Bk.alloc w #[.int .i64 p.ser, .slice a1_p p.st.length c1_p, .slice a2_p p.ino.length c2_p] 37)
  have BW_0 := Lib.hid (below_bk w (.cells #[.int .i64 p.ser, .slice a1_p p.st.length c1_p, .slice a2_p p.ino.length c2_p] 37))
  go_enter Tryd.func8, Tryd.ntmps8
  have dp0 := Xp_0.out.cell (j := 0) rfl
  have dp1 := Xp_0.out.cell (j := 1) rfl
  have dp2 := Xp_0.out.cell (j := 2) rfl
  go_wp2_with fail
  obtain ⟨V0, hV⟩ : ∃ y, y = (w.alloc (.cells #[.int .i64 p.ser, .slice a1_p p.st.length c1_p, .slice a2_p p.ino.length c2_p] 37)) := ⟨_, rfl⟩
  clear dp0 dp1 dp2
  rw [← hV] at Xp_0 BW_0 ⊢
  have SZ_V0 : Hid (w.heap.size + 1 ≤ V0.heap.size) := Lib.hid (by rw [hV]; simp)
  clear hV
  refine (szPart_st p a1_p c1_p a2_p c2_p 1048576 _ (by decide) (by decide) (Cel.Rd.later BW_0.out _ _ HS1_p.out) (Cel.Rd.later BW_0.out _ _ HS2_p.out) HT_p.out).mono ?_
  rintro e w1 ⟨l_p, rfl, hr, hb⟩
  have Xp_1 := Lib.hid (Xp_0.out.later hb)
  have BW_1 : Hid (Below w.heap.size w w1) := Lib.hid (BW_0.out.trans (hb.mono BW_0.out.size))
  have SZ_w1 : Hid (V0.heap.size ≤ w1.heap.size) := Lib.hid hb.size
  clear hb Xp_0 BW_0
  rcases hr with hr | ⟨hl0, hl1⟩
  · go_wp2
    go_ret
    exact ⟨rfl, BW_1.out⟩
  have HZ_p : Hid (szL (cPart.cels p) ≤ 1048576) := Lib.hid (by omega)
  have HZB_p : Hid (szL (cPart.cels p) ≤ 100000000) := Lib.hid (by omega)
  have hq_p : ¬ (l_p < 0) := by omega
  have hp_p : l_p ≤ 1048576 := by omega
  clear hl1
  have dp0 := Xp_1.out.cell (j := 0) rfl
  have dp1 := Xp_1.out.cell (j := 1) rfl
  have dp2 := Xp_1.out.cell (j := 2) rfl
  go_wp2_with fail
  clear dp0 dp1 dp2
  refine (toPart_st p a1_p c1_p a2_p c2_p _ (Cel.Rd.later BW_1.out _ _ HS1_p.out) (Cel.Rd.later BW_1.out _ _ HS2_p.out) HZ_p.out).mono ?_
  rintro e w2 ⟨vs, rfl, ho, hb⟩
  have Xp_2 := Lib.hid (Xp_1.out.later hb)
  have BW_2 : Hid (Below w.heap.size w w2) := Lib.hid (BW_1.out.trans (hb.mono BW_1.out.size))
  have SZ_w2 : Hid (w1.heap.size ≤ w2.heap.size) := Lib.hid hb.size
  clear hb Xp_1 BW_1
  obtain ⟨a1_y, c1_y, a2_y, c2_y, rfl, _, _⟩ := cPart_form ho.rd
  have Oy_2x := Lib.hid ho
  clear ho
  have dp0 := Xp_2.out.cell (j := 0) rfl
  have dp1 := Xp_2.out.cell (j := 1) rfl
  have dp2 := Xp_2.out.cell (j := 2) rfl
  go_wp2_with fail
  clear dp0 dp1 dp2
  refine (specFind_any p a1_y c1_y a2_y c2_y q _ (cPart_un Oy_2x.out.rd).2 HZB_p.out (by omega)).mono ?_
  rw [HRV.out]
  rintro e w3 ⟨rfl, hb⟩
  have Xp_3 := Lib.hid (Xp_2.out.later hb)
  have Oy_3 := Lib.hid (Oy_2x.out.later hb)
  have BW_3 : Hid (Below w.heap.size w w3) := Lib.hid (BW_2.out.trans (hb.mono BW_2.out.size))
  have SZ_w3 : Hid (w2.heap.size ≤ w3.heap.size) := Lib.hid hb.size
  clear hb Xp_2 Oy_2x BW_2
  clear Oy_3
  have dp0 := Xp_3.out.cell (j := 0) rfl
  have dp1 := Xp_3.out.cell (j := 1) rfl
  have dp2 := Xp_3.out.cell (j := 2) rfl
  go_wp2_with fail
  clear dp0 dp1 dp2
  refine (toPart_st p a1_p c1_p a2_p c2_p _ (Cel.Rd.later BW_3.out _ _ HS1_p.out) (Cel.Rd.later BW_3.out _ _ HS2_p.out) HZ_p.out).mono ?_
  rintro e w4 ⟨vs, rfl, ho, hb⟩
  have Xp_4 := Lib.hid (Xp_3.out.later hb)
  have BW_4 : Hid (Below w.heap.size w w4) := Lib.hid (BW_3.out.trans (hb.mono BW_3.out.size))
  have SZ_w4 : Hid (w3.heap.size ≤ w4.heap.size) := Lib.hid hb.size
  clear hb Xp_3 BW_3
  obtain ⟨a1_x, c1_x, a2_x, c2_x, rfl, _, _⟩ := cPart_form ho.rd
  have Ox_4x := Lib.hid ho
  clear ho
  have hba := below_bk w4 (.cells #[.int .i64 p.ser, .slice a1_x p.st.length c1_x, .slice a2_x p.ino.length c2_x] 42)
  have Xp_5 := Lib.hid (Xp_4.out.later hba)
  have Ox_5 := Lib.hid (Ox_4x.out.later hba)
  have BW_5 : Hid (Below w.heap.size w (w4.alloc (.cells #[.int .i64 p.ser, .slice a1_x p.st.length c1_x, .slice a2_x p.ino.length c2_x] 42))) := Lib.hid (BW_4.out.trans (hba.mono BW_4.out.size))
  have Xx_5 := Lib.hid (Bk.alloc w4 #[.int .i64 p.ser, .slice a1_x p.st.length c1_x, .slice a2_x p.ino.length c2_x] 42)
  clear hba Xp_4 Ox_4x BW_4
  have dp0 := Xp_5.out.cell (j := 0) rfl
  have dp1 := Xp_5.out.cell (j := 1) rfl
  have dp2 := Xp_5.out.cell (j := 2) rfl
  have dx0 := Xx_5.out.cell (j := 0) rfl
  have dx1 := Xx_5.out.cell (j := 1) rfl
  have dx2 := Xx_5.out.cell (j := 2) rfl
  go_wp2_with fail
  obtain ⟨V4, hV⟩ : ∃ y, y = (w4.alloc (.cells #[.int .i64 p.ser, .slice a1_x p.st.length c1_x, .slice a2_x p.ino.length c2_x] 42)) := ⟨_, rfl⟩
  clear dp0 dp1 dp2 dx0 dx1 dx2
  rw [← hV] at Xp_5 Xx_5 Ox_5 BW_5 ⊢
  have SZ_V4 : Hid (w4.heap.size + 1 ≤ V4.heap.size) := Lib.hid (by rw [hV]; simp)
  clear hV
  refine (implFind_any15 p a1_x c1_x a2_x c2_x q _ (cPart_un Ox_5.out.rd).2 HZB_p.out (by omega) (HE.out.later rfl BW_5.out)).mono ?_
  rw [HRV.out]
  rintro e w5 ⟨rfl, hb⟩
  have Xp_6 := Lib.hid (Xp_5.out.later hb)
  have Xx_6 := Lib.hid (Xx_5.out.later hb)
  have Ox_6 := Lib.hid (Ox_5.out.later hb)
  have BW_6 : Hid (Below w.heap.size w w5) := Lib.hid (BW_5.out.trans (hb.mono BW_5.out.size))
  have SZ_w5 : Hid (V4.heap.size ≤ w5.heap.size) := Lib.hid hb.size
  clear hb Xp_5 Xx_5 Ox_5 BW_5
  go_wp2
  have XD := Lib.hid Xx_6.out.drew
  have AD := Lib.hid Xp_6.out.drew
  have BD := Lib.hid BW_6.out.drew
  have OD : Hid (Objs w5.drew w3.heap.size w4.heap.size _ _) := Lib.hid (Ox_6.out.later (Below.refl _ _).drew)
  go_region_held3 (fun w' => w'.cell? ⟨w4.heap.size, 0, none⟩ = some (.int .i64 p.ser) ∧ w'.cell? ⟨w4.heap.size, 1, none⟩ = some (.slice a1_x p.st.length c1_x) ∧ w'.cell? ⟨w4.heap.size, 2, none⟩ = some (.slice a2_x p.ino.length c2_x) ∧ w'.cell? ⟨w.heap.size, 0, none⟩ = some (.int .i64 p.ser) ∧ w'.cell? ⟨w.heap.size, 1, none⟩ = some (.slice a1_p p.st.length c1_p) ∧ w'.cell? ⟨w.heap.size, 2, none⟩ = some (.slice a2_p p.ino.length c2_p))
    (first
      | exact ⟨XD.out.cell rfl, XD.out.cell rfl, XD.out.cell rfl, AD.out.cell rfl, AD.out.cell rfl, AD.out.cell rfl⟩
      | exact ⟨XE.out.cell rfl, XE.out.cell rfl, XE.out.cell rfl, AE.out.cell rfl, AE.out.cell rfl, AE.out.cell rfl⟩
      | exact ⟨XF.out.cell rfl, XF.out.cell rfl, XF.out.cell rfl, AF.out.cell rfl, AF.out.cell rfl, AF.out.cell rfl⟩
      | go_keep)
    (first
      | (go_at_call 29; (with_reducible refine (toPart_st p a1_p c1_p a2_p c2_p _ (Cel.Rd.later BD.out _ _ HS1_p.out) (Cel.Rd.later BD.out _ _ HS2_p.out) HZ_p.out).mono ?_); rintro e wa7 ⟨vs, rfl, ho, hb⟩; obtain ⟨a1_z9, c1_z9, a2_z9, c2_z9, rfl, q1, q2⟩ := cPart_form ho.rd; have XE := Lib.hid (XD.out.later hb); have AE := Lib.hid (AD.out.later hb); have OE := Lib.hid (OD.out.later hb); have BE : Hid (Below w.heap.size w wa7) := Lib.hid (BD.out.trans (hb.mono BD.out.size)); have SZ_wa7 : Hid (w5.heap.size ≤ wa7.heap.size) := Lib.hid hb.size; clear hb ho)
      | (go_at_call 31; (with_reducible refine (eqPart_st p a1_x c1_x a2_x c2_x a1_z9 c1_z9 a2_z9 c2_z9 _ (cPart_un OE.out.rd).1 (cPart_un OE.out.rd).2 q1 q2 HZB_p.out).mono ?_); rintro e wb7 ⟨rfl, hb⟩; have XF := Lib.hid (XE.out.later hb); have AF := Lib.hid (AE.out.later hb); have OF := Lib.hid (OE.out.later hb); have BF : Hid (Below w.heap.size w wb7) := Lib.hid (BE.out.trans (hb.mono BE.out.size)); have SZ_wb7 : Hid (wa7.heap.size ≤ wb7.heap.size) := Lib.hid hb.size; clear hb))
  have Xx_7 := XF
  have Xp_7 := AF
  have BW_7 := BF
  have Ox_7 := OF
  clear Xp_6 Xx_6 Ox_6 BW_6 XD XE XF AD AE AF BD BE BF OD OE OF
  go_wp2
  go_ret
  exact ⟨rfl, BW_7.out⟩
set_option maxRecDepth 100000 in
set_option maxHeartbeats 1000000 in
theorem findInode_law_all (p : PartR) (a1_p : Option Addr) (c1_p : Nat) (a2_p : Option Addr) (c2_p : Nat) (q : ByteArray) (w : World) (ht_p : TyL (cPart.cels p)) (h1_p : (celRow cInt p.st).Rd w (.slice a1_p p.st.length c1_p)) (h2_p : (celRow cIno p.ino).Rd w (.slice a2_p p.ino.length c2_p)) (hE : ErrIs w) :
    Calls Tryd.prog 8 #[.agg #[.int .i64 p.ser, .slice a1_p p.st.length c1_p, .slice a2_p p.ino.length c2_p], .string q] w fun e w' => e = .returned (.bool true) ∧ Below w.heap.size w w' := by
  by_cases hq : q.size ≤ 1048576
  · exact findInode_law p a1_p c1_p a2_p c2_p q w ht_p h1_p h2_p hq hE
  · have hn : 1048576 < q.size := by omega
    go_enter Tryd.func8, Tryd.ntmps8
    go_wp2
    go_ret
    exact ⟨rfl, below_bk w _⟩
end Go.Proofs.YtmkchilhnmkhkaaDoor
namespace Go.Proofs.YtmkchilhnmkhkaaDoor

/-- No slash in it. -/
def plainL (p : List UInt8) : Prop := ∀ b ∈ p, ¬ b = 47
theorem plain_of_name {p : List UInt8} (h : nameL p = true) : plainL p := by
  intro b hb e
  have h2 := ((nameL_iff p).1 h).2 b hb
  subst e
  revert h2
  decide
theorem cutGo_plain : ∀ (p cur : List UInt8), plainL p → cutGo cur p = [cur ++ p]
  | [], cur, _ => by rw [cutGo, List.append_nil]
  | b :: r, cur, h => by
    rw [cutGo_byte _ _ (h b (by simp)), cutGo_plain r (cur ++ [b]) (fun x hx => h x (by simp [hx])), List.append_assoc]
    rfl
theorem cutGo_slash_at : ∀ (p cur r : List UInt8), plainL p → cutGo cur (p ++ 47 :: r) = (cur ++ p) :: cutGo [] r
  | [], cur, r, _ => by rw [List.nil_append, cutGo_slash, List.append_nil]
  | b :: q, cur, r, h => by
    rw [List.cons_append, cutGo_byte _ _ (h b (by simp)), cutGo_slash_at q (cur ++ [b]) r (fun x hx => h x (by simp [hx])), List.append_assoc]
    rfl
/-- A slash ahead of each. -/
def slashed (P : List (List UInt8)) : List UInt8 := P.flatMap (fun p => 47 :: p)
theorem slashed_cut : ∀ (l cur : List UInt8), slashed (cutGo cur l) = 47 :: (cur ++ l)
  | [], cur => by simp [cutGo, slashed]
  | b :: r, cur => by
    by_cases h : b = 47
    · subst h
      have h9 := slashed_cut r []
      unfold slashed at h9 ⊢
      rw [cutGo_slash, List.flatMap_cons, h9]
      simp
    · rw [cutGo_byte _ _ h, slashed_cut r (cur ++ [b]), List.append_assoc]
      rfl
theorem cut_slashed : ∀ (P : List (List UInt8)), (∀ p ∈ P, plainL p) → P ≠ [] → cutGo [] ((slashed P).drop 1) = P
  | [], _, h => absurd rfl h
  | [p], h, _ => by
    have e : (slashed [p]).drop 1 = p := by simp [slashed]
    rw [e, cutGo_plain p [] (h p (by simp)), List.nil_append]
  | p :: q :: r, h, _ => by
    have ih := cut_slashed (q :: r) (fun x hx => h x (by simp [hx])) (by simp)
    have e : (slashed (p :: q :: r)).drop 1 = p ++ 47 :: (slashed (q :: r)).drop 1 := by simp [slashed]
    rw [e, cutGo_slash_at p [] _ (h p (by simp)), List.nil_append, ih]
theorem joinTo_data (P : List (List UInt8)) : ∀ k, k ≤ P.length → (joinTo (P.map bytesOf) k).data.toList = slashed (P.take k)
  | 0, _ => rfl
  | k + 1, h => by
    have h1 := joinTo_data P k (by omega)
    rw [joinTo_next, List.take_succ_eq_append_getElem (by omega)]
    unfold slashed at h1 ⊢
    rw [List.flatMap_append, ← h1]
    simp [slashB, List.getD, show k < P.length by omega, bytesOf]
theorem joinB_data {P : List (List UInt8)} (h : P ≠ []) : (joinB (P.map bytesOf)).data.toList = slashed P := by
  unfold joinB
  rw [List.length_map, if_neg (fun e => h (List.length_eq_zero_iff.1 e)), joinTo_data P P.length (Nat.le_refl _), List.take_length]
theorem bytes_ext {a b : ByteArray} (h : a.data.toList = b.data.toList) : a = b := by
  obtain ⟨⟨a⟩⟩ := a
  obtain ⟨⟨b⟩⟩ := b
  simp only at h
  rw [h]
theorem slashed_head {P : List (List UInt8)} (h : P ≠ []) : (slashed P).head? = some 47 := by
  cases P with
  | nil => exact absurd rfl h
  | cons p r => simp [slashed]
theorem slashed_len (P : List (List UInt8)) (k : Nat) : (slashed (P.take k)).length ≤ (slashed P).length := by
  have h : slashed P = slashed (P.take k) ++ slashed (P.drop k) := by
    unfold slashed
    rw [← List.flatMap_append, List.take_append_drop]
  rw [h, List.length_append]
  omega

/-- A valid path with names. -/
structure PathIs (s : ByteArray) (P : List (List UInt8)) : Prop where
  code : pathCode s = 0
  names : pathNames s = P.map bytesOf
  ok : ∀ p ∈ P, nameL p = true
  short : ∀ p ∈ P, ¬ 7 < p.length
  ne : P ≠ []
  data : s.data.toList = slashed P
  size : s.size ≤ 60
theorem head_data {s : ByteArray} (h : headOk s = true) : s.data.toList = 47 :: tailL s := by
  unfold headOk at h
  unfold tailL
  cases hs : s.data.toList with
  | nil => rw [hs] at h; cases h
  | cons a r =>
    rw [hs] at h
    have : a = 47 := by simpa using h
    subst this
    rfl
theorem path_is {s : ByteArray} (h : pathCode s = 0) (h1 : s.size ≠ 1) : PathIs s (cutP s) := by
  have hl : ¬ (60 < s.size ∨ headOk s = false) := fun hh => by rw [pathCode, if_pos hh] at h; omega
  have hk : okP (cutP s) = true := by
    cases hq : okP (cutP s) with
    | true => rfl
    | false => rw [pathCode, if_neg hl, if_neg h1, if_pos hq] at h; omega
  have hg : longP (cutP s) = false := by
    cases hq : longP (cutP s) with
    | false => rfl
    | true => rw [pathCode, if_neg hl, if_neg h1, if_neg (by rw [hk]; simp), if_pos hq] at h; omega
  have hh : headOk s = true := by
    cases hq : headOk s with
    | true => rfl
    | false => exact absurd (.inr hq) hl
  have hd := head_data hh
  refine ⟨h, by unfold pathNames; rw [if_pos ⟨h, h1⟩], fun p hp => (List.all_eq_true.1 hk) p hp, fun p hp hn => ?_, ?_, ?_, by omega⟩
  · have := (List.any_eq_false.1 hg) p hp
    exact this (decide_eq_true hn)
  · obtain ⟨t, Q, hq⟩ := cutGo_first (tailL s) []
    unfold cutP
    rw [hq]
    simp
  · have := slashed_cut (tailL s) []
    rw [List.nil_append] at this
    unfold cutP
    rw [this, hd]
/-- The path of fewer names is valid, with just these names. -/
theorem path_of {s : ByteArray} {P : List (List UInt8)} (h : PathIs s P) (k : Nat) : pathCode (joinB ((P.take k).map bytesOf)) = 0 ∧ pathNames (joinB ((P.take k).map bytesOf)) = (P.take k).map bytesOf := by
  by_cases hq : P.take k = []
  · rw [hq]
    exact ⟨by decide, by decide⟩
  · obtain ⟨t, ht⟩ : ∃ t, joinB ((P.take k).map bytesOf) = t := ⟨_, rfl⟩
    have hd : t.data.toList = slashed (P.take k) := by rw [← ht]; exact joinB_data hq
    have hm : ∀ p ∈ P.take k, nameL p = true := fun p hp => h.ok p (List.mem_of_mem_take hp)
    have hs : t.size ≤ 60 := by
      have h1 := slashed_len P k
      have h2 := h.size
      rw [Lib.size_eq, h.data] at h2
      rw [Lib.size_eq, hd]
      omega
    have hh : headOk t = true := by unfold headOk; rw [hd, slashed_head hq]; rfl
    have hc : cutP t = P.take k := by
      unfold cutP tailL
      rw [hd]
      exact cut_slashed _ (fun p hp => plain_of_name (hm p hp)) hq
    have h1 : t.size ≠ 1 := by
      intro e
      have h3 := cutGo_len (tailL t) []
      cases hp : P.take k with
      | nil => exact hq hp
      | cons p r =>
        have h4 := ((nameL_iff p).1 (hm p (by rw [hp]; simp))).1
        rw [Lib.size_eq, hd, hp] at e
        have h5 : (slashed (p :: r)).length = 1 + p.length + (slashed r).length := by simp [slashed]; omega
        have h6 : 0 < p.length := by
          cases p with
          | nil => exact absurd rfl h4
          | cons _ _ => simp
        omega
    have hk : okP (cutP t) = true := by rw [hc]; exact List.all_eq_true.2 hm
    have hg : longP (cutP t) = false := by
      rw [hc]
      refine List.any_eq_false.2 (fun p hp => ?_)
      have := h.short p (List.mem_of_mem_take hp)
      simpa using this
    have hcode := code_ok hs hh h1 hk hg
    rw [ht]
    exact ⟨hcode, by unfold pathNames; rw [if_pos ⟨hcode, h1⟩, hc]⟩
theorem path_back {s : ByteArray} (h : pathCode s = 0) : joinB (pathNames s) = s := by
  by_cases h1 : s.size = 1
  · have hl : ¬ (60 < s.size ∨ headOk s = false) := fun hh => by rw [pathCode, if_pos hh] at h; omega
    have hh : headOk s = true := by
      cases hq : headOk s with
      | true => rfl
      | false => exact absurd (.inr hq) hl
    have hn : pathNames s = [] := by unfold pathNames; rw [if_neg (fun hh => hh.2 h1)]
    rw [hn, root_text hh h1]
    rfl
  · have hp := path_is h h1
    rw [hp.names]
    exact bytes_ext (by rw [joinB_data hp.ne, hp.data])
theorem under_self (s : ByteArray) : underB s s = false := decide_eq_false (fun h => Nat.lt_irrefl _ h.2.2.1)
theorem parent_is {s : ByteArray} (h : pathCode s = 0) (h1 : s.size ≠ 1) : parentB s = joinB ((pathNames s).take ((pathNames s).length - 1)) ∧ 0 < (pathNames s).length := by
  have hp := path_is h h1
  have hl : 0 < (pathNames s).length := by rw [hp.names, List.length_map]; exact List.length_pos_iff.2 hp.ne
  exact ⟨by unfold parentB; rw [if_neg (by omega)], hl⟩
theorem last_is {s : ByteArray} (h : 0 < (pathNames s).length) : lastB s = (pathNames s).getD ((pathNames s).length - 1) default := by
  unfold lastB; rw [if_neg (by omega)]
theorem under_parent {s : ByteArray} (h : pathCode s = 0) (h1 : s.size ≠ 1) : underB s (parentB s) = true := by
  have hp := path_is h h1
  obtain ⟨he, hl⟩ := parent_is h h1
  have h2 := path_of hp ((pathNames s).length - 1)
  rw [he, hp.names, ← List.map_take]
  rw [hp.names] at h2 hl
  refine decide_eq_true ⟨h, h2.1, ?_, ?_⟩
  · rw [h2.2, hp.names, List.length_map, List.length_take, List.length_map] at *
    omega
  · rw [h2.2, hp.names, ← List.map_take, List.length_map, List.length_take, List.length_map]
    congr 1
    rw [Nat.min_eq_left (by omega)]
theorem root_facts : joinB [] = ⟨#[47]⟩ ∧ parentB ⟨#[47]⟩ = ⟨#[]⟩ ∧ parentB ⟨#[47, 97]⟩ = ⟨#[47]⟩ := ⟨rfl, by decide, by decide⟩
end Go.Proofs.YtmkchilhnmkhkaaDoor
namespace Go.Proofs.YtmkchilhnmkhkaaDoor
open Go.RowKit
namespace Draw

theorem and255 (y : Int) : 0 ≤ bits .and .i64 y 255 ∧ bits .and .i64 y 255 ≤ 255 := by
  have h : (BitVec.ofInt 64 y &&& BitVec.ofInt 64 255).toNat ≤ 255 := by
    rw [BitVec.toNat_and]; exact Nat.le_trans Nat.and_le_right (by decide)
  have e : bits .and .i64 y 255 = IntKind.i64.wrap ((BitVec.ofInt 64 y &&& BitVec.ofInt 64 255).toNat : Int) := rfl
  rw [e, IntWalk.i64_in _ (by omega)]
  omega

/-- The text that is drawn from: bytes, in blocks below B. -/
def Src (w : World) (B : Nat) (ad : Option Addr) (len : Nat) : Prop := ∀ i, i < len → ∃ b off z, ad = some ⟨b, off, none⟩ ∧ b < B ∧ (0 : Int) ≤ z ∧ z ≤ 255 ∧ w.cell? ⟨b, off + i, none⟩ = some (.int .u8 z)

/-- The cursor in block c. -/
def Cur (w : World) (c : Nat) (ad : Option Addr) (len cap : Nat) : Prop :=
  ∃ (i : Nat) (h : Int), i ≤ len ∧ w.heap[c]? = some (.cells #[.slice ad len cap, .int .i64 i, .int .i64 h] 119 (0, 0))

def BytePost (w : World) (c : Nat) (ad : Option Addr) (len cap : Nat) (e : Ending) (w' : World) : Prop :=
  ∃ x : Int, 0 ≤ x ∧ x ≤ 255 ∧ e = .returned (.int .i64 x) ∧ Cur w' c ad len cap ∧ w.grownBy w' (some c)

theorem grownBy_refl (w : World) (r : Option Nat) : w.grownBy w r := ⟨rfl, rfl, rfl, Nat.le_refl _, fun _ _ _ => rfl⟩
theorem grownBy_trans {a b c : World} {r : Option Nat} (h : a.grownBy b r) (k : b.grownBy c r) : a.grownBy c r :=
  ⟨k.os.trans h.os, k.tape.trans h.tape, k.output.trans h.output, Nat.le_trans h.size k.size, fun i hi hr => (k.block i (Nat.lt_of_lt_of_le hi h.size) hr).trans (h.block i hi hr)⟩

theorem grownBy_set {a w : World} {c : Nat} (h : a.grownBy w (some c)) (j : Nat) (v : Value) : a.grownBy (w.setCell ⟨c, j, none⟩ v) (some c) :=
  grownBy_trans h ⟨rfl, rfl, rfl, by simp [World.setCell], fun k hk hr => Below.heap_setCell _ _ _ _ (fun e => hr (by rw [e]))⟩
theorem grownBy_draws {a w : World} {r : Option Nat} (h : a.grownBy w r) (n : Nat) : a.grownBy (w.drewN n) r := ⟨h.os, h.tape, h.output, h.size, h.block⟩
theorem block_set {w : World} {c j : Nat} {cs : Array Value} {t : TypeId} (h : w.heap[c]? = some (.cells cs t (0, 0))) (v : Value) : (w.setCell ⟨c, j, none⟩ v).heap[c]? = some (.cells (cs.setIfInBounds j v) t (0, 0)) :=
  heap_setCell_same w c j cs t v h

set_option maxRecDepth 100000 in
set_option maxHeartbeats 1000000 in
theorem byte_any (c : Nat) (ad : Option Addr) (len cap : Nat) (w : World) (hlen : len ≤ 1048576) (hc : Cur w c ad len cap) (hs : Src w c ad len) :
    Calls Tryd.prog 155 #[.pointer (some ⟨c, 0, none⟩)] w (BytePost w c ad len cap) := by
  obtain ⟨i, h, hi, hb⟩ := hc
  have f0 : w.cell? ⟨c, 0, none⟩ = some (.slice ad len cap) := by simp [World.cell?, hb]
  have f1 : w.cell? ⟨c, 1, none⟩ = some (.int .i64 i) := by simp [World.cell?, hb]
  have f2 : w.cell? ⟨c, 2, none⟩ = some (.int .i64 h) := by simp [World.cell?, hb]
  have z2 : w.frozen? ⟨c, 2, none⟩ = false := by simp [World.frozen?, hb]
  have z1 : w.frozen? ⟨c, 1, none⟩ = false := by simp [World.frozen?, hb]
  have HB := Lib.hid hb
  clear hb
  by_cases hlt : i < len
  · obtain ⟨b, off, z, rfl, hbc, hz0, hz1, hz⟩ := hs i hlt
    have hz' : ∀ x, (w.setCell ⟨c, 2, none⟩ x).cell? ⟨b, off + i, none⟩ = some (.int .u8 z) := fun x => by
      rw [World.cell?_of_block (w := w) (Below.heap_setCell _ _ _ _ (by show b ≠ c; omega))]; exact hz
    go_enter Tryd.func155, Tryd.ntmps155
    go_wp2
    go_quiet (fail)
    go_wp2
    go_quiet (fail)
    go_wp2
    go_quiet (fail)
    go_wp2
    go_ret
    exact ⟨_, (and255 _).1, (and255 _).2, rfl, ⟨i + 1, _, by omega, block_set (block_set HB.out _) _⟩, grownBy_set (grownBy_draws (grownBy_set (grownBy_refl w _) 2 _) _) 1 _⟩
  · go_enter Tryd.func155, Tryd.ntmps155
    go_wp2
    go_quiet (fail)
    go_wp2
    go_quiet (fail)
    go_wp2
    go_ret
    exact ⟨_, (and255 _).1, (and255 _).2, rfl, ⟨i, _, hi, block_set HB.out _⟩, grownBy_draws (grownBy_draws (grownBy_set (grownBy_refl w _) 2 _) _) _⟩

theorem cur_lt {w : World} {c : Nat} {ad : Option Addr} {len cap : Nat} (h : Cur w c ad len cap) : c < w.heap.size := by
  obtain ⟨i, h, _, hb⟩ := h
  exact (Array.getElem?_eq_some_iff.1 hb).1
theorem src_grown {w w' : World} {c : Nat} {ad : Option Addr} {len : Nat} (hs : Src w c ad len) (hg : w.grownBy w' (some c)) (hc : c < w.heap.size) : Src w' c ad len := by
  intro i hi
  obtain ⟨b, off, z, h1, h2, h3, h4, h5⟩ := hs i hi
  exact ⟨b, off, z, h1, h2, h3, h4, by rw [World.cell?_of_block (w := w) (hg.block b (by omega) (fun e => by simp at e; omega))]; exact h5⟩

def NumPost (n : Int) (w : World) (c : Nat) (ad : Option Addr) (len cap : Nat) (e : Ending) (w' : World) : Prop :=
  ∃ x : Int, 0 ≤ x ∧ x < n ∧ e = .returned (.int .i64 x) ∧ Cur w' c ad len cap ∧ w.grownBy w' (some c)

set_option maxRecDepth 100000 in
set_option maxHeartbeats 1000000 in
theorem below_small (c : Nat) (ad : Option Addr) (len cap : Nat) (n : Int) (w : World) (hlen : len ≤ 1048576) (hn : 0 < n) (hn2 : n ≤ 256) (hc : Cur w c ad len cap) (hs : Src w c ad len) :
    Calls Tryd.prog 134 #[.pointer (some ⟨c, 0, none⟩), .int .i64 n] w (NumPost n w c ad len cap) := by
  have hz : (n == 0) = false := by simp; omega
  have HC := Lib.hid hc
  have HS := Lib.hid hs
  clear hc hs
  go_enter Tryd.func134, Tryd.ntmps134
  go_wp2_with fail
  refine (byte_any c ad len cap w hlen HC.out HS.out).mono ?_
  rintro e w1 ⟨x, x0, x1, rfl, hc1, hg1⟩
  have C1 := Lib.hid hc1
  have G1 := Lib.hid hg1
  clear hc1 hg1
  go_wp2
  go_ret
  exact ⟨_, Int.emod_nonneg _ (by omega), Int.emod_lt_of_pos _ hn, rfl, C1.out, G1.out⟩

set_option maxRecDepth 100000 in
set_option maxHeartbeats 1000000 in
theorem below_big (c : Nat) (ad : Option Addr) (len cap : Nat) (n : Int) (w : World) (hlen : len ≤ 1048576) (hn : 256 < n) (hn2 : n ≤ 4611686018427387904) (hc : Cur w c ad len cap) (hs : Src w c ad len) :
    Calls Tryd.prog 134 #[.pointer (some ⟨c, 0, none⟩), .int .i64 n] w (NumPost n w c ad len cap) := by
  have hz : (n == 0) = false := by simp; omega
  have HC := Lib.hid hc
  have HS := Lib.hid hs
  clear hc hs
  go_enter Tryd.func134, Tryd.ntmps134
  go_wp2_with fail
  refine (byte_any c ad len cap w hlen HC.out HS.out).mono ?_
  rintro e w1 ⟨x, x0, x1, rfl, hc1, hg1⟩
  have S1 := Lib.hid (src_grown HS.out hg1 (cur_lt HC.out))
  have C1 := Lib.hid hc1
  have G1 := Lib.hid hg1
  clear hc1 hg1
  go_wp2_with fail
  refine (byte_any c ad len cap w1 hlen C1.out S1.out).mono ?_
  rintro e w2 ⟨y, y0, y1, rfl, hc2, hg2⟩
  have S2 := Lib.hid (src_grown S1.out hg2 (cur_lt C1.out))
  have C2 := Lib.hid hc2
  have G2 := Lib.hid (grownBy_trans G1.out hg2)
  clear hc2 hg2
  go_wp2_with fail
  refine (byte_any c ad len cap w2 hlen C2.out S2.out).mono ?_
  rintro e w3 ⟨z, z0, z1, rfl, hc3, hg3⟩
  have S3 := Lib.hid (src_grown S2.out hg3 (cur_lt C2.out))
  have C3 := Lib.hid hc3
  have G3 := Lib.hid (grownBy_trans G2.out hg3)
  clear hc3 hg3
  go_wp2_with fail
  refine (byte_any c ad len cap w3 hlen C3.out S3.out).mono ?_
  rintro e w4 ⟨v, v0, v1, rfl, hc4, hg4⟩
  have C4 := Lib.hid hc4
  have G4 := Lib.hid (grownBy_trans G3.out hg4)
  clear hc4 hg4
  go_wp2
  go_ret
  exact ⟨_, Int.emod_nonneg _ (by omega), Int.emod_lt_of_pos _ (by omega), rfl, C4.out, G4.out⟩

/-- A drawn number is at least 0 and below the bound. -/
theorem below_any (c : Nat) (ad : Option Addr) (len cap : Nat) (n : Int) (w : World) (hlen : len ≤ 1048576) (hn : 0 < n) (hn2 : n ≤ 4611686018427387904) (hc : Cur w c ad len cap) (hs : Src w c ad len) :
    Calls Tryd.prog 134 #[.pointer (some ⟨c, 0, none⟩), .int .i64 n] w (NumPost n w c ad len cap) := by
  by_cases h : n ≤ 256
  · exact below_small c ad len cap n w hlen hn h hc hs
  · exact below_big c ad len cap n w hlen (by omega) hn2 hc hs

set_option maxRecDepth 100000 in
set_option maxHeartbeats 1000000 in
theorem new_any (ad : Option Addr) (len cap : Nat) (w : World) (hlen : len ≤ 1048576) (hs : Src w w.heap.size ad len) :
    Calls Tryd.prog 53 #[.slice ad len cap] w fun e w' => e = .returned (.pointer (some ⟨w.heap.size, 0, none⟩)) ∧ ∃ h : Int, w' = w.alloc (.cells #[.slice ad len cap, .int .i64 0, .int .i64 h] 119) := by
  have HS := Lib.hid hs
  clear hs
  go_enter Tryd.func53, Tryd.ntmps53
  go_wp2
  go_loop [3, 4] (fun hv iv => ∃ (i : Nat) (h : Int), i ≤ len ∧ hv = .int .i64 h ∧ iv = .int .i64 i) (fun _ iv => len - (intOf iv).toNat)
  case atStart => exact ⟨0, _, Nat.zero_le _, rfl, rfl⟩
  case round =>
    obtain ⟨i, h, hi, rfl, rfl⟩ := hrel
    by_cases hlt : i < len
    · by_cases h4 : i < 4000
      · obtain ⟨b, off, z, rfl, hbc, hz0, hz1, hz⟩ := HS.out i hlt
        go_wp2
        go_round
        case rel => exact ⟨i + 1, _, by omega, rfl, by go_num⟩
        case measure => (simp [intOf]; try omega)
      · go_wp2
        go_ret
        exact ⟨rfl, _, rfl⟩
    · obtain rfl : i = len := by omega
      go_wp2
      go_ret
      exact ⟨rfl, _, rfl⟩
end Draw
end Go.Proofs.YtmkchilhnmkhkaaDoor
namespace Go.Proofs.YtmkchilhnmkhkaaDoor
open Go.RowKit
namespace Draw

theorem cur_grown {w w' : World} {c : Nat} {ad : Option Addr} {len cap : Nat} {row : Option Nat} (h : Cur w c ad len cap) (hg : w.grownBy w' row) (hr : some c ≠ row) : Cur w' c ad len cap := by
  have hl := cur_lt h
  obtain ⟨i, x, hi, hb⟩ := h
  exact ⟨i, x, hi, by rw [hg.block c hl hr]; exact hb⟩
theorem src_grown' {w w' : World} {B : Nat} {ad : Option Addr} {len : Nat} {row : Option Nat} (hs : Src w B ad len) (hg : w.grownBy w' row) (hr : ∀ k, row = some k → B ≤ k) (hB : B ≤ w.heap.size) : Src w' B ad len := by
  intro i hi
  obtain ⟨b, off, z, h1, h2, h3, h4, h5⟩ := hs i hi
  exact ⟨b, off, z, h1, h2, h3, h4, by rw [World.cell?_of_block (w := w) (hg.block b (by omega) (fun e => by have := hr b e.symm; omega))]; exact h5⟩
theorem grown_alloc (w : World) (o : Obj) (r : Option Nat) : w.grownBy (w.alloc o) r := ⟨rfl, rfl, rfl, by simp, fun k hk _ => Below.heap_alloc _ _ _ hk⟩
theorem own_not {w : World} {c e : Nat} {v : Value} {n : Nat} {xs : List Value} (h : w.ownsRow (c + 1) e 1 v n xs) : some c ≠ v.ownBlock := fun e => by
  have := Hexa.own_block_ge h c e.symm
  omega
theorem own_kept {w w' : World} {c e : Nat} {v : Value} {n : Nat} {xs : List Value} (h : w.ownsRow (c + 1) e 1 v n xs) (hg : w.grownBy w' (some c)) : w'.ownsRow (c + 1) e 1 v n xs :=
  h.kept hg (Or.inr (fun e => own_not h e.symm))
theorem below_of_grown {w w' : World} {B : Nat} {row : Option Nat} (hg : w.grownBy w' row) (hr : ∀ k, row = some k → B ≤ k) (hB : B ≤ w.heap.size) : Below B w w' := (Below.refl B w).grown hg hB hr

theorem cur_below {w w' : World} {c B : Nat} {ad : Option Addr} {len cap : Nat} (h : Cur w c ad len cap) (hb : Below B w w') (hc : c < B) : Cur w' c ad len cap := by
  obtain ⟨i, x, hi, hh⟩ := h
  exact ⟨i, x, hi, by rw [hb.block c hc]; exact hh⟩
theorem src_below {w w' : World} {c B : Nat} {ad : Option Addr} {len : Nat} (h : Src w c ad len) (hb : Below B w w') (hc : c ≤ B) : Src w' c ad len := by
  intro i hi
  obtain ⟨b, off, z, h1, h2, h3, h4, h5⟩ := h i hi
  exact ⟨b, off, z, h1, h2, h3, h4, by rw [World.cell?_of_block (w := w) (hb.block b (by omega))]; exact h5⟩
theorem grown_below {a w w' : World} {c B : Nat} (h : a.grownBy w (some c)) (hb : Below B w w') (hB : a.heap.size ≤ B) : a.grownBy w' (some c) :=
  ⟨hb.os.trans h.os, hb.tape.trans h.tape, hb.output.trans h.output, Nat.le_trans h.size hb.size, fun i hi hr => (hb.block i (by omega)).trans (h.block i hi hr)⟩

/-- What a draw leaves: a value, the cursor where it may stand, nothing else written. -/
def DrawPost (Pv : Value → Prop) (w : World) (c : Nat) (ad : Option Addr) (len cap : Nat) (e : Ending) (w' : World) : Prop :=
  ∃ v, Pv v ∧ e = .returned v ∧ Cur w' c ad len cap ∧ w.grownBy w' (some c)
end Draw
end Go.Proofs.YtmkchilhnmkhkaaDoor
namespace Go.Proofs.YtmkchilhnmkhkaaDoor
open Go.RowKit Go.Proofs.YtmkchilhnmkhkaaDoor.Hexa
namespace Draw

set_option maxRecDepth 100000 in
set_option maxHeartbeats 1000000 in
theorem pickText_any (c : Nat) (ad : Option Addr) (len cap : Nat) (g n m : Nat) (zs : List ByteArray) (w : World) (hlen : len ≤ 1048576) (hn : 0 < n) (hn2 : n ≤ 200) (hz : zs.length = n) (hcell : ∀ j, j < n → w.cell? ⟨g, j, none⟩ = some (.string (zs.getD j ByteArray.empty))) (hg : g < w.heap.size) (hgc : g ≠ c) (hc : Cur w c ad len cap) (hs : Src w c ad len) :
    Calls Tryd.prog 103 #[.pointer (some ⟨c, 0, none⟩), .slice (some ⟨g, 0, none⟩) n m] w (DrawPost (fun v => ∃ z ∈ zs, v = .string z) w c ad len cap) := by
  have HC := Lib.hid hc
  have HS := Lib.hid hs
  have HCE := Lib.hid hcell
  clear hc hs hcell
  go_enter Tryd.func103, Tryd.ntmps103
  go_wp2_with fail
  refine (below_small c ad len cap n w hlen (by omega) (by omega) HC.out HS.out).mono ?_
  rintro e w1 ⟨x, x0, x1, rfl, hc1, hg1⟩
  have HC1 := Lib.hid hc1
  have HG1 := Lib.hid hg1
  obtain ⟨k, rfl⟩ : ∃ k : Nat, x = k := ⟨x.toNat, by omega⟩
  have hk : k < n := by omega
  have ck : w1.cell? ⟨g, k, none⟩ = some (.string (zs.getD k ByteArray.empty)) := by
    rw [World.cell?_of_block (w := w) (hg1.block g hg (fun e => hgc (by simpa using e)))]; exact HCE.out k hk
  have HM : Hid (zs.getD k ByteArray.empty ∈ zs) := Lib.hid (by
    have e : zs.getD k ByteArray.empty = zs[k]'(by omega) := by simp [List.getD, show k < zs.length by omega]
    rw [e]; exact List.getElem_mem _)
  obtain ⟨z, hzz⟩ : ∃ z, zs.getD k ByteArray.empty = z := ⟨_, rfl⟩
  rw [hzz] at ck HM
  clear hc1 hg1 hzz
  go_wp2
  go_ret
  exact ⟨_, ⟨z, HM.out, rfl⟩, rfl, HC1.out, HG1.out⟩

/-- A pick out of a list that the call has just laid. -/
theorem pickNew_any (c : Nat) (ad : Option Addr) (len cap : Nat) (n : Nat) (zs : List ByteArray) (cs : Array Value) (t : TypeId) (w : World) (hcs : cs = (zs.map Value.string).toArray) (hlen : len ≤ 1048576) (hn : 0 < n) (hn2 : n ≤ 200) (hz : zs.length = n) (hc : Cur w c ad len cap) (hs : Src w c ad len) :
    Calls Tryd.prog 103 #[.pointer (some ⟨c, 0, none⟩), .slice (some ⟨w.heap.size, 0, none⟩) n n] (w.alloc (.cells cs t)) fun e w' => ∃ z ∈ zs, e = .returned (.string z) ∧ Cur w' c ad len cap ∧ w.grownBy w' (some c) := by
  have hh := heap_alloc_new w (.cells cs t)
  have hlt := cur_lt hc
  refine (pickText_any c ad len cap w.heap.size n n zs _ hlen hn hn2 hz (fun j hj => ?_) (by simp) (by omega) (cur_grown hc (grown_alloc _ _ none) (by simp)) (src_grown' hs (grown_alloc _ _ none) (fun k e => by cases e) (by omega))).mono ?_
  · have h1 : ∀ (o : Option Obj), o = some (.cells cs t) → (match o with | some (.cells c _ _) => c[j]? | _ => none) = some (.string (zs.getD j ByteArray.empty)) := fun o ho => by
      subst ho
      subst hcs
      have hj' : j < zs.length := by omega
      simp [List.getD, hj']
    exact h1 _ hh
  · rintro e w' ⟨v, ⟨z, hz, rfl⟩, rfl, hc', hg'⟩
    exact ⟨z, hz, rfl, hc', grownBy_trans (grown_alloc w _ _) hg'⟩
end Draw
end Go.Proofs.YtmkchilhnmkhkaaDoor
namespace Go.Proofs.YtmkchilhnmkhkaaDoor
open Go.RowKit Go.Proofs.YtmkchilhnmkhkaaDoor.Hexa
namespace Draw

set_option maxRecDepth 100000 in
set_option maxHeartbeats 1000000 in
theorem once15_any (c : Nat) (ad : Option Addr) (len cap : Nat) (n : Int) (w : World) (hlen : len ≤ 1048576) (hn : 0 < n) (hn2 : n ≤ 256) (hc : Cur w c ad len cap) (hs : Src w c ad len) :
    Calls Tryd.prog 102 #[.pointer (some ⟨c, 0, none⟩), .int .i64 n] w (DrawPost (fun v => ∃ b : Bool, v = .bool b) w c ad len cap) := by
  have HC := Lib.hid hc
  have HS := Lib.hid hs
  clear hc hs
  go_enter Tryd.func102, Tryd.ntmps102
  go_wp2_with fail
  refine (below_small c ad len cap n w hlen hn hn2 HC.out HS.out).mono ?_
  rintro e w1 ⟨x, x0, x1, rfl, hc1, hg1⟩
  have C1 := Lib.hid hc1
  have G1 := Lib.hid hg1
  clear hc1 hg1
  go_wp2
  go_ret
  exact ⟨_, ⟨_, rfl⟩, rfl, C1.out, G1.out⟩

set_option maxRecDepth 100000 in
set_option maxHeartbeats 2000000 in
theorem path15_any (c : Nat) (ad : Option Addr) (len cap : Nat) (w : World) (hlen : len ≤ 1048576) (hc : Cur w c ad len cap) (hs : Src w c ad len) :
    Calls Tryd.prog 104 #[.pointer (some ⟨c, 0, none⟩)] w (DrawPost (fun v => ∃ t : ByteArray, v = .string t ∧ t.size ≤ 100) w c ad len cap) := by
  have HC := Lib.hid hc
  have HS := Lib.hid hs
  clear hc hs
  go_enter Tryd.func104, Tryd.ntmps104
  go_wp2_with fail
  refine (pickNew_any c ad len cap 13 [⟨#[47]⟩, ⟨#[47, 97]⟩, ⟨#[47, 98]⟩, ⟨#[47, 99]⟩, ⟨#[47, 97, 47, 98]⟩, ⟨#[47, 97, 47, 99]⟩, ⟨#[47, 97, 47, 98, 47, 99]⟩, ⟨#[47, 98, 47, 97]⟩, ⟨#[47, 99, 47, 97]⟩, ⟨#[47, 100]⟩, ⟨#[47, 97, 98]⟩, ⟨#[47, 120, 49]⟩, ⟨#[47, 97, 47, 97, 98, 99, 100, 101, 102, 103]⟩] _ _ w rfl hlen (by decide) (by decide) rfl HC.out HS.out).mono ?_
  rintro e w1 ⟨z, hz, rfl, hc1, hg1⟩
  have C1 := Lib.hid hc1
  have G1 := Lib.hid hg1
  have HZ : Hid (z.size ≤ 100) := Lib.hid ((by decide : ∀ t ∈ ([⟨#[47]⟩, ⟨#[47, 97]⟩, ⟨#[47, 98]⟩, ⟨#[47, 99]⟩, ⟨#[47, 97, 47, 98]⟩, ⟨#[47, 97, 47, 99]⟩, ⟨#[47, 97, 47, 98, 47, 99]⟩, ⟨#[47, 98, 47, 97]⟩, ⟨#[47, 99, 47, 97]⟩, ⟨#[47, 100]⟩, ⟨#[47, 97, 98]⟩, ⟨#[47, 120, 49]⟩, ⟨#[47, 97, 47, 97, 98, 99, 100, 101, 102, 103]⟩] : List ByteArray), t.size ≤ 100) z hz)
  clear hc1 hg1 hz
  go_wp2
  go_ret
  exact ⟨_, ⟨z, rfl, HZ.out⟩, rfl, C1.out, G1.out⟩

set_option maxRecDepth 100000 in
set_option maxHeartbeats 2000000 in
theorem any15_any (c : Nat) (ad : Option Addr) (len cap : Nat) (w : World) (hlen : len ≤ 1048576) (hc : Cur w c ad len cap) (hs : Src w c ad len) :
    Calls Tryd.prog 52 #[.pointer (some ⟨c, 0, none⟩)] w (DrawPost (fun v => ∃ t : ByteArray, v = .string t ∧ t.size ≤ 100) w c ad len cap) := by
  have HC := Lib.hid hc
  have HS := Lib.hid hs
  clear hc hs
  go_enter Tryd.func52, Tryd.ntmps52
  go_wp2_with fail
  refine (once15_any c ad len cap 5 w hlen (by decide) (by decide) HC.out HS.out).mono ?_
  rintro e w1 ⟨v, ⟨b, rfl⟩, rfl, hc1, hg1⟩
  have C1 := Lib.hid hc1
  have S1 := Lib.hid (src_grown HS.out hg1 (cur_lt HC.out))
  have G1 := Lib.hid hg1
  clear hc1 hg1
  cases b
  · go_wp2_with fail
    refine (path15_any c ad len cap _ hlen C1.out S1.out).mono ?_
    rintro e w2 ⟨v, ⟨t, rfl, ht⟩, rfl, hc2, hg2⟩
    have C2 := Lib.hid hc2
    have G2 := Lib.hid (grownBy_trans G1.out hg2)
    have HZ := Lib.hid ht
    clear hc2 hg2 ht
    go_wp2
    go_ret
    exact ⟨_, ⟨t, rfl, HZ.out⟩, rfl, C2.out, G2.out⟩
  · go_wp2_with fail
    refine (pickNew_any c ad len cap 13 [⟨#[]⟩, ⟨#[97]⟩, ⟨#[47, 47]⟩, ⟨#[47, 97, 47]⟩, ⟨#[47, 97, 47, 47, 98]⟩, ⟨#[47, 65]⟩, ⟨#[47, 97, 32, 98]⟩, ⟨#[47, 97, 98, 99, 100, 101, 102, 103, 104]⟩, ⟨#[47, 97, 47, 97, 98, 99, 100, 101, 102, 103, 104, 47, 98]⟩, ⟨#[47, 97, 98, 99, 100, 101, 102, 103, 104, 47, 65]⟩, ⟨#[47, 97, 98, 99, 100, 101, 102, 47, 97, 98, 99, 100, 101, 102, 47, 97, 98, 99, 100, 101, 102, 47, 97, 98, 99, 100, 101, 102, 47, 97, 98, 99, 100, 101, 102, 47, 97, 98, 99, 100, 101, 102, 47, 97, 98, 99, 100, 101, 102, 47, 97, 98, 99, 100, 101, 102, 47, 97, 98, 99]⟩, ⟨#[47, 97, 98, 99, 100, 101, 102, 47, 97, 98, 99, 100, 101, 102, 47, 97, 98, 99, 100, 101, 102, 47, 97, 98, 99, 100, 101, 102, 47, 97, 98, 99, 100, 101, 102, 47, 97, 98, 99, 100, 101, 102, 47, 97, 98, 99, 100, 101, 102, 47, 97, 98, 99, 100, 101, 102, 47, 97, 98, 99, 100]⟩, ⟨#[47, 0]⟩] _ _ w1 rfl hlen (by decide) (by decide) rfl C1.out S1.out).mono ?_
    rintro e w2 ⟨z, hz, rfl, hc2, hg2⟩
    have C2 := Lib.hid hc2
    have G2 := Lib.hid (grownBy_trans G1.out hg2)
    have HZ : Hid (z.size ≤ 100) := Lib.hid ((by decide : ∀ t ∈ ([⟨#[]⟩, ⟨#[97]⟩, ⟨#[47, 47]⟩, ⟨#[47, 97, 47]⟩, ⟨#[47, 97, 47, 47, 98]⟩, ⟨#[47, 65]⟩, ⟨#[47, 97, 32, 98]⟩, ⟨#[47, 97, 98, 99, 100, 101, 102, 103, 104]⟩, ⟨#[47, 97, 47, 97, 98, 99, 100, 101, 102, 103, 104, 47, 98]⟩, ⟨#[47, 97, 98, 99, 100, 101, 102, 103, 104, 47, 65]⟩, ⟨#[47, 97, 98, 99, 100, 101, 102, 47, 97, 98, 99, 100, 101, 102, 47, 97, 98, 99, 100, 101, 102, 47, 97, 98, 99, 100, 101, 102, 47, 97, 98, 99, 100, 101, 102, 47, 97, 98, 99, 100, 101, 102, 47, 97, 98, 99, 100, 101, 102, 47, 97, 98, 99, 100, 101, 102, 47, 97, 98, 99]⟩, ⟨#[47, 97, 98, 99, 100, 101, 102, 47, 97, 98, 99, 100, 101, 102, 47, 97, 98, 99, 100, 101, 102, 47, 97, 98, 99, 100, 101, 102, 47, 97, 98, 99, 100, 101, 102, 47, 97, 98, 99, 100, 101, 102, 47, 97, 98, 99, 100, 101, 102, 47, 97, 98, 99, 100, 101, 102, 47, 97, 98, 99, 100]⟩, ⟨#[47, 0]⟩] : List ByteArray), t.size ≤ 100) z hz)
    clear hc2 hg2 hz
    go_wp2
    go_ret
    exact ⟨_, ⟨z, rfl, HZ.out⟩, rfl, C2.out, G2.out⟩

set_option maxRecDepth 100000 in
set_option maxHeartbeats 1000000 in
theorem drawPath_any (ad : Option Addr) (len cap : Nat) (w : World) (hlen : len ≤ 1048576) (hs : Src w w.heap.size ad len) :
    Calls Tryd.prog 13 #[.slice ad len cap] w fun e w' => ∃ t : ByteArray, e = .returned (.string t) ∧ t.size ≤ 100 ∧ Below w.heap.size w w' := by
  have HS := Lib.hid hs
  clear hs
  go_enter Tryd.func13, Tryd.ntmps13
  go_wp2_with fail
  refine (new_any ad len cap _ hlen HS.out).mono ?_
  rintro e w1 ⟨rfl, h, rfl⟩
  have C1 : Hid (Cur (w.alloc (.cells #[.slice ad len cap, .int .i64 0, .int .i64 h] 119)) w.heap.size ad len cap) := Lib.hid ⟨0, h, Nat.zero_le _, heap_alloc_new _ _⟩
  have S1 : Hid (Src (w.alloc (.cells #[.slice ad len cap, .int .i64 0, .int .i64 h] 119)) w.heap.size ad len) := Lib.hid (src_grown' HS.out (grown_alloc _ _ none) (fun k e => by cases e) (Nat.le_refl _))
  have B1 : Hid (Below w.heap.size w (w.alloc (.cells #[.slice ad len cap, .int .i64 0, .int .i64 h] 119))) := Lib.hid ((Below.refl _ _).alloc (Nat.le_refl _) _)
  obtain ⟨w2, h2⟩ : ∃ x, x = w.alloc (.cells #[.slice ad len cap, .int .i64 0, .int .i64 h] 119) := ⟨_, rfl⟩
  rw [← h2] at C1 S1 B1 ⊢
  clear h2
  go_wp2_with fail
  refine (any15_any w.heap.size ad len cap _ hlen C1.out S1.out).mono ?_
  rintro e w3 ⟨v, ⟨t, rfl, ht⟩, rfl, hc3, hg3⟩
  have B3 : Hid (Below w.heap.size w w3) := Lib.hid (B1.out.grown hg3 B1.out.size (fun k e => by simp at e; omega))
  have HZ := Lib.hid ht
  clear hc3 hg3 ht
  go_wp2
  go_ret
  exact ⟨t, rfl, HZ.out, B3.out⟩
end Draw
end Go.Proofs.YtmkchilhnmkhkaaDoor
namespace Go.Proofs.YtmkchilhnmkhkaaDoor
open Go.RowKit Go.Proofs.YtmkchilhnmkhkaaDoor.Parts Go.Proofs.YtmkchilhnmkhkaaDoor.Hexa

set_option maxRecDepth 100000 in
set_option maxHeartbeats 1000000 in
theorem sameTexts12_any (a1 a2 : Option Addr) (n c1 c2 : Nat) (L : List ByteArray) (w : World) (hn : n ≤ 100000000) (s1 : SrcT w a1 n L) (s2 : SrcT w a2 n L) :
    Calls Tryd.prog 16 #[.slice a1 n c1, .slice a2 n c2] w fun e w' => e = .returned (.bool true) ∧ ∃ m, w' = w.drewN m := by
  have R1 := Lib.hid s1
  have R2 := Lib.hid s2
  clear s1 s2
  go_enter Tryd.func16, Tryd.ntmps16
  go_wp2
  go_loopw [5] (fun iv wr => ∃ k m : Nat, k ≤ n ∧ iv = .int .i64 k ∧ wr = w.drewN m) (fun iv _ => n - (intOf iv).toNat)
  case atStart => exact ⟨0, 0, Nat.zero_le _, rfl, rfl⟩
  case round =>
    obtain ⟨k, m, hk, rfl, rfl⟩ := hrel
    by_cases hlt : k < n
    · have hbel : Below w.heap.size w w := Below.refl _ _
      obtain ⟨g1, o1, rfl, _, d0⟩ := srcT_later R1.out hbel (Nat.le_refl _) k hlt
      obtain ⟨g2, o2, rfl, _, e0⟩ := srcT_later R2.out hbel (Nat.le_refl _) k hlt
      obtain ⟨x, hx⟩ : ∃ x, L.getD k default = x := ⟨_, rfl⟩
      rw [hx] at d0 e0
      clear hx hbel
      go_wp2
      go_quiet (fail)
      go_wp2
      go_roundw
      case rel => exact ⟨k + 1, _, by omega, by go_num, rfl⟩
      case measure => (simp [intOf]; try omega)
    · obtain rfl : k = n := by omega
      go_wp2
      go_ret
      exact ⟨rfl, _, rfl⟩

end Go.Proofs.YtmkchilhnmkhkaaDoor
namespace Go.Proofs.YtmkchilhnmkhkaaDoor
open Go.RowKit

/-- A world that has grown out of w: what lay there lies there unchanged. -/
structure GrownW (w : World) where
  wd : World
  grown : Below w.heap.size w wd
instance (w : World) : Nonempty (GrownW w) := ⟨⟨w, Below.refl _ w⟩⟩
theorem GrownW.cell {w : World} {p : Addr} {v : Value} (h : w.cell? p = some v) (hp : p.block < w.heap.size) (g : GrownW w) : g.wd.cell? p = some v := (g.grown.cell hp).trans h
theorem Calls.grown_of {P : Program} {f : FuncId} {args : Array Value} {w : World} {g : GrownW w} {v : Value}
    (h : Calls P f args g.wd fun e w' => e = .returned v ∧ Below g.wd.heap.size g.wd w') : Calls P f args g.wd fun e w'' => e = .returned v ∧ ∃ g' : GrownW w, w'' = g'.wd :=
  h.mono fun _ w' ⟨he, hb⟩ => ⟨he, ⟨w', g.grown.trans (hb.mono g.grown.size)⟩, rfl⟩
theorem Calls.grown_same {P : Program} {f : FuncId} {args : Array Value} {w : World} {g : GrownW w} {v : Value}
    (h : Calls P f args g.wd fun e w' => e = .returned v ∧ w' = g.wd) : Calls P f args g.wd fun e w'' => e = .returned v ∧ ∃ g' : GrownW w, w'' = g'.wd :=
  h.mono fun _ _ ⟨he, hw⟩ => ⟨he, g, hw⟩
theorem wp_region_grown {P : Program} {id : Nat} {Q : Exit → Act → World → Prop} {a : Act} {w : World} {l : List Oper} (hm : P.follows .mixedOrders = true) (hB : Region.lexB .any l.toArray = true)
    (h : wpQuiet P l.toArray (fun w' => ∃ g : GrownW w, w' = g.wd) (fun a' => ∀ w', (∃ g : GrownW w, w' = g.wd) → Q .normal a' w') l a) : (Code.region id l.toArray true).wp P Q a w :=
  wp_region_quiet (C := fun w' => ∃ g : GrownW w, w' = g.wd) hm hB ⟨⟨_, (Below.refl _ w).drew⟩, rfl⟩ (by simpa using h)
end Go.Proofs.YtmkchilhnmkhkaaDoor
namespace Go.Proofs.YtmkchilhnmkhkaaDoor
open Go.RowKit Go.Proofs.YtmkchilhnmkhkaaDoor.Parts Go.Proofs.YtmkchilhnmkhkaaDoor.Hexa Go.Proofs.YtmkchilhnmkhkaaDoor.Byt

set_option maxRecDepth 100000 in
set_option maxHeartbeats 8000000 in
theorem fnPaths_law (ad : Option Addr) (len cap : Nat) (w : World) (hs : Draw.Src w w.heap.size ad len) (hE : ErrIs w) :
    Calls Tryd.prog 3 #[.slice ad len cap] w fun e w' => e = .returned (.bool true) ∧ Below w.heap.size w w' := by
  by_cases hbig : len ≤ 1048576
  case neg =>
    have hn : 1048576 < len := by omega
    go_enter Tryd.func3, Tryd.ntmps3
    go_wp2_with (go_at_call 12; go_in)
    go_ret
    exact ⟨rfl, Below.refl _ _⟩
  have HS := Lib.hid hs
  have HE := Lib.hid hE
  clear hs hE
  go_enter Tryd.func3, Tryd.ntmps3
  go_wp2_with (go_at_call 12; go_in)
  refine (Draw.drawPath_any ad len cap w hbig HS.out).mono ?_
  rintro e w1 ⟨s, rfl, hsz, hb⟩
  have B1 := Lib.hid hb
  have E1 := Lib.hid (HE.out.later rfl hb)
  clear hb HS HE
  obtain ⟨L, hL⟩ : ∃ L, pathNames s = L := ⟨_, rfl⟩
  obtain ⟨q, hq⟩ : ∃ q, pathCode s = q := ⟨_, rfl⟩
  have HQ := Lib.hid hq
  have HL := Lib.hid hL
  have hl : L.length ≤ 61 := by rw [← hL]; exact names_len s
  have HM : Hid (∀ j, j < L.length → (L.getD j default).size ≤ 2000000) := Lib.hid (fun j hj => by have := names_size s j (by rw [hL]; exact hj); rw [hL] at this; omega)
  clear hL hq
  go_wp2_with fail
  refine (implSplit_any s _ (by omega) E1.out).mono ?_
  rw [HQ.out, HL.out]
  rintro e w2 ⟨v1, rfl, ho1, hb⟩
  obtain ⟨ad1, cap1, rfl, hcap1, hnc1, hr1⟩ := own_form ho1
  have O1 := Lib.hid ho1
  have B2 : Hid (Below w.heap.size w w2) := Lib.hid (B1.out.trans (hb.mono B1.out.size))
  have E2 := Lib.hid (E1.out.later rfl hb)
  unfold maxLen at hcap1
  clear ho1 hb hr1 B1 E1
  go_wp2_with fail
  refine (specSplit_any s _ (by omega)).mono ?_
  rw [HQ.out, HL.out]
  rintro e w3 ⟨v2, rfl, ho2, hb⟩
  obtain ⟨ad2, cap2, rfl, hcap2, hnc2, hr2⟩ := own_form ho2
  have S1 : Hid (SrcT w3 ad1 L.length L) := Lib.hid (srcT_of_own (own_below O1.out hb))
  have S2 : Hid (SrcT w3 ad2 L.length L) := Lib.hid (srcT_of_own ho2)
  have B3 : Hid (Below w.heap.size w w3) := Lib.hid (B2.out.trans (hb.mono B2.out.size))
  have E3 := Lib.hid (E2.out.later rfl hb)
  unfold maxLen at hcap2
  clear ho2 hb hr2 B2 E2 O1
  go_wp2_with fail
  refine (sameTexts12_any ad1 ad2 L.length cap1 cap2 L _ (by omega) S1.out S2.out).mono ?_
  rintro e w4x ⟨rfl, m, hw4⟩
  have S4 : Hid (SrcT w4x ad1 L.length L) := Lib.hid (by rw [hw4]; exact S1.out.later (below_drawsP (Below.refl _ _) m))
  have B4 : Hid (Below w.heap.size w w4x) := Lib.hid (by rw [hw4]; exact below_drawsP B3.out m)
  have E4 : Hid (ErrIs w4x) := Lib.hid (by rw [hw4]; exact E3.out)
  clear hw4 S1 S2 B3 E3
  by_cases hq0 : q = 0
  case neg =>
    have eq0 : (q == 0) = false := beq_eq_false_iff_ne.2 hq0
    go_wp2
    refine wp_region_grown (by kernel_rfl) (by kernel_rfl) ?_
    repeat (go_big_quiet_step (fail))
    refine wpQuiet_nil ?_
    rintro _ ⟨gq, rfl⟩
    have BQ : Hid (Below w.heap.size w gq.wd) := Lib.hid (B4.out.trans (gq.grown.mono B4.out.size))
    have EQ : Hid (ErrIs gq.wd) := Lib.hid (E4.out.later rfl gq.grown)
    go_wp2_with fail
    refine (implJoin_any none 0 0 [] _ ⟨rfl, fun j hj => by omega⟩ (by omega) (Nat.le_refl _) (fun j hj => by omega)).mono ?_
    rw [root_facts.1]
    rintro e x1 ⟨rfl, hb⟩
    have BX1 : Hid (Below w.heap.size w x1) := Lib.hid (BQ.out.trans (hb.mono BQ.out.size))
    have EX1 := Lib.hid (EQ.out.later rfl hb)
    clear hb
    go_wp2_with fail
    refine (implParent_any ⟨#[47]⟩ _ (by decide) EX1.out).mono ?_
    rw [root_facts.2.1]
    rintro e x2 ⟨rfl, hb⟩
    have BX2 : Hid (Below w.heap.size w x2) := Lib.hid (BX1.out.trans (hb.mono BX1.out.size))
    have EX2 := Lib.hid (EX1.out.later rfl hb)
    clear hb
    go_wp2_with fail
    refine (implParent_any ⟨#[47, 97]⟩ _ (by decide) EX2.out).mono ?_
    rw [root_facts.2.2]
    rintro e x3 ⟨rfl, hb⟩
    have BX3 : Hid (Below w.heap.size w x3) := Lib.hid (BX2.out.trans (hb.mono BX2.out.size))
    clear hb
    go_wp2
    go_ret
    exact ⟨rfl, BX3.out⟩
  subst hq0
  have HPB : Hid (joinB L = s) := Lib.hid (by rw [← HL.out]; exact path_back HQ.out)
  go_wp2_with fail
  refine (implJoin_any ad1 L.length cap1 L _ S4.out (by omega) hnc1 HM.out).mono ?_
  rw [HPB.out]
  rintro e w5 ⟨rfl, hb⟩
  have S5 : Hid (SrcT w5 ad1 L.length L) := Lib.hid (S4.out.later hb)
  have B5 : Hid (Below w.heap.size w w5) := Lib.hid (B4.out.trans (hb.mono B4.out.size))
  have E5 := Lib.hid (E4.out.later rfl hb)
  clear hb S4 B4 E4
  go_wp2_with fail
  refine (implUnder_any s s _ (by omega) (by omega) E5.out).mono ?_
  rw [under_self s]
  rintro e w6 ⟨rfl, hb⟩
  have S6 : Hid (SrcT w6 ad1 L.length L) := Lib.hid (S5.out.later hb)
  have B6 : Hid (Below w.heap.size w w6) := Lib.hid (B5.out.trans (hb.mono B5.out.size))
  have E6 := Lib.hid (E5.out.later rfl hb)
  clear hb S5 B5 E5
  by_cases h1 : s.size = 1
  · have hlit : (s.toList == [47]) = true := by
      have hl9 : ¬ (60 < s.size ∨ headOk s = false) := fun hh => by have := HQ.out; rw [pathCode, if_pos hh] at this; omega
      have hh : headOk s = true := by
        cases hq : headOk s with
        | true => rfl
        | false => exact absurd (.inr hq) hl9
      rw [root_text hh h1, slash_list]
      rfl
    have hlit2 : (s.toList != [47]) = false := by simp only [bne, hlit]; rfl
    go_wp2
    refine wp_region_grown (by kernel_rfl) (by kernel_rfl) ?_
    repeat (go_big_quiet_step (fail))
    refine wpQuiet_nil ?_
    rintro _ ⟨gq, rfl⟩
    have BQ : Hid (Below w.heap.size w gq.wd) := Lib.hid (B6.out.trans (gq.grown.mono B6.out.size))
    have EQ : Hid (ErrIs gq.wd) := Lib.hid (E6.out.later rfl gq.grown)
    go_wp2_with fail
    refine (implJoin_any none 0 0 [] _ ⟨rfl, fun j hj => by omega⟩ (by omega) (Nat.le_refl _) (fun j hj => by omega)).mono ?_
    rw [root_facts.1]
    rintro e x1 ⟨rfl, hb⟩
    have BX1 : Hid (Below w.heap.size w x1) := Lib.hid (BQ.out.trans (hb.mono BQ.out.size))
    have EX1 := Lib.hid (EQ.out.later rfl hb)
    clear hb
    go_wp2_with fail
    refine (implParent_any ⟨#[47]⟩ _ (by decide) EX1.out).mono ?_
    rw [root_facts.2.1]
    rintro e x2 ⟨rfl, hb⟩
    have BX2 : Hid (Below w.heap.size w x2) := Lib.hid (BX1.out.trans (hb.mono BX1.out.size))
    have EX2 := Lib.hid (EX1.out.later rfl hb)
    clear hb
    go_wp2_with fail
    refine (implParent_any ⟨#[47, 97]⟩ _ (by decide) EX2.out).mono ?_
    rw [root_facts.2.2]
    rintro e x3 ⟨rfl, hb⟩
    have BX3 : Hid (Below w.heap.size w x3) := Lib.hid (BX2.out.trans (hb.mono BX2.out.size))
    clear hb
    go_wp2
    go_ret
    exact ⟨rfl, BX3.out⟩
  · obtain ⟨hpe, hpl⟩ := parent_is HQ.out h1
    have hup := under_parent HQ.out h1
    rw [HL.out] at hpe hpl
    obtain ⟨pb, hpb⟩ : ∃ y, parentB s = y := ⟨_, rfl⟩
    obtain ⟨lb, hlb⟩ : ∃ y, lastB s = y := ⟨_, rfl⟩
    obtain ⟨k, hk⟩ : ∃ k, L.length = k + 1 := ⟨L.length - 1, by omega⟩
    have hll : L.getD k default = lb := by
      rw [← hlb, last_is (by rw [HL.out]; omega), HL.out, hk]; rfl
    rw [hpb, hk, Nat.add_sub_cancel] at hpe
    rw [hpb] at hup
    have hps : pb.size ≤ 2000000 := by
      rw [hpe]
      unfold joinB
      split
      · decide
      · refine Nat.le_trans (joinTo_size _ 60 _ (fun j hj => ?_)) ?_
        · have h8 := names_size s j (by rw [HL.out]; rw [List.length_take] at hj; omega)
          rw [HL.out] at h8
          have e9 : (L.take k).getD j default = L.getD j default := by
            rw [List.length_take] at hj
            simp only [List.getD, List.getElem?_take]
            rw [if_pos (by omega)]
          rw [e9]; exact h8
        · rw [List.length_take]
          have : min k L.length ≤ 61 := by omega
          calc min k L.length * (60 + 1) ≤ 61 * 61 := Nat.mul_le_mul this (by decide)
            _ ≤ 2000000 := by decide
    have i1 : (s.toList == [47]) = false := by rw [← slash_list]; exact text_neB (fun h => h1 (by rw [h]; rfl))
    have i2 : (s.toList != [47]) = true := by simp only [bne, i1]; rfl
    obtain ⟨gn, on, had, hgn, d0⟩ := srcT_at S6.out k (by omega)
    subst had
    rw [hll] at d0
    have z0 := GrownW.cell d0 hgn
    have HPA : Hid (∀ g : GrownW w6, Calls Tryd.prog 19 #[.string s] g.wd fun e w' => e = .returned (.string pb) ∧ Below g.wd.heap.size g.wd w') := Lib.hid (fun g => by
      have h := implParent_any s g.wd (by omega) (E6.out.later rfl g.grown)
      rw [hpb] at h
      exact h)
    have HLA : Hid (∀ g : GrownW w6, Calls Tryd.prog 20 #[.string s] g.wd fun e w' => e = .returned (.string lb) ∧ Below g.wd.heap.size g.wd w') := Lib.hid (fun g => by
      have h := implLast_any s g.wd (by omega) (E6.out.later rfl g.grown)
      rw [hlb] at h
      exact h)
    have HJA : Hid (∀ g : GrownW w6, Calls Tryd.prog 17 #[.slice (some ⟨gn, on, none⟩) k cap1] g.wd fun e w' => e = .returned (.string pb) ∧ Below g.wd.heap.size g.wd w') := Lib.hid (fun g => by
      have h := implJoin_any (some ⟨gn, on, none⟩) k cap1 (L.take k) g.wd (srcT_take (S6.out.later g.grown) (by omega)) (by omega) (by omega) (fun j hj => by
        have e9 : (L.take k).getD j default = L.getD j default := by
          simp only [List.getD, List.getElem?_take]
          rw [if_pos hj]
        rw [e9]; exact HM.out j (by omega))
      rw [← hpe] at h
      exact h)
    have HUA : Hid (∀ g : GrownW w6, Calls Tryd.prog 18 #[.string s, .string pb] g.wd fun e w' => e = .returned (.bool true) ∧ Below g.wd.heap.size g.wd w') := Lib.hid (fun g => by
      have h := implUnder_any s pb g.wd (by omega) hps (E6.out.later rfl g.grown)
      rw [hup] at h
      exact h)
    rw [hk] at hl hnc1 ⊢
    clear hpe hpl hup hpb hlb hll d0
    go_wp2
    refine wp_region_grown (by kernel_rfl) (by kernel_rfl) ?_
    repeat (go_big_quiet_step (first | (go_at_call 19; exact Calls.grown_of (HPA.out _)) | (go_at_call 20; exact Calls.grown_of (HLA.out _)) | (go_at_call 17; exact Calls.grown_of (HJA.out _)) | (go_at_call 18; exact Calls.grown_of (HUA.out _))))
    refine wpQuiet_nil ?_
    rintro _ ⟨gq, rfl⟩
    have BQ : Hid (Below w.heap.size w gq.wd) := Lib.hid (B6.out.trans (gq.grown.mono B6.out.size))
    have EQ : Hid (ErrIs gq.wd) := Lib.hid (E6.out.later rfl gq.grown)
    go_wp2_with fail
    refine (implJoin_any none 0 0 [] _ ⟨rfl, fun j hj => by omega⟩ (by omega) (Nat.le_refl _) (fun j hj => by omega)).mono ?_
    rw [root_facts.1]
    rintro e x1 ⟨rfl, hb⟩
    have BX1 : Hid (Below w.heap.size w x1) := Lib.hid (BQ.out.trans (hb.mono BQ.out.size))
    have EX1 := Lib.hid (EQ.out.later rfl hb)
    clear hb
    go_wp2_with fail
    refine (implParent_any ⟨#[47]⟩ _ (by decide) EX1.out).mono ?_
    rw [root_facts.2.1]
    rintro e x2 ⟨rfl, hb⟩
    have BX2 : Hid (Below w.heap.size w x2) := Lib.hid (BX1.out.trans (hb.mono BX1.out.size))
    have EX2 := Lib.hid (EX1.out.later rfl hb)
    clear hb
    go_wp2_with fail
    refine (implParent_any ⟨#[47, 97]⟩ _ (by decide) EX2.out).mono ?_
    rw [root_facts.2.2]
    rintro e x3 ⟨rfl, hb⟩
    have BX3 : Hid (Below w.heap.size w x3) := Lib.hid (BX2.out.trans (hb.mono BX2.out.size))
    clear hb
    go_wp2
    go_ret
    exact ⟨rfl, BX3.out⟩
end Go.Proofs.YtmkchilhnmkhkaaDoor
