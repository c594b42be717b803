/- A persistent memory: what its functions give. -/
import Derived.Test.YtlemlgadjapamaaCellBase
namespace Go.Proofs.Ytlemlgadjapamaa
open Go.RowKit Go.Proofs.Ytlemlgadjapamaa.Parts Go.Proofs.Ytlemlgadjapamaa.Hexa

/-- Cell j is right behind those before it. -/
def CellOk (K : ByteArray) (L : List C3) (j : Nat) : Prop :=
  0 ≤ (L.getD j default).l ∧ (L.getD j default).l < (K.size / 16 : Nat) ∧ (L.getD j default).t.size = 16 ∧ (0 < j → (L.getD (j - 1) default).l < (L.getD j default).l)
def MemOk (K : ByteArray) (L : List C3) : Prop := K.size % 16 = 0 ∧ K.size ≤ 16000 ∧ ∀ j, j < L.length → CellOk K L j
noncomputable def memOkB (K : ByteArray) (L : List C3) : Bool := @decide (MemOk K L) (Classical.propDecidable _)
theorem memOkB_yes {K : ByteArray} {L : List C3} (h : MemOk K L) : memOkB K L = true := by unfold memOkB; exact @decide_eq_true _ (Classical.propDecidable _) h
theorem memOkB_no {K : ByteArray} {L : List C3} (h : ¬ MemOk K L) : memOkB K L = false := by unfold memOkB; exact @decide_eq_false _ (Classical.propDecidable _) h
theorem memOkB_iff {K : ByteArray} {L : List C3} : memOkB K L = true ↔ MemOk K L := by
  by_cases h : MemOk K L
  · simp [memOkB_yes h, h]
  · simp [memOkB_no h, h]
/-- The lines ascend. -/
theorem MemOk.asc {K : ByteArray} {L : List C3} (h : MemOk K L) : ∀ {i j : Nat}, i < j → j < L.length → (L.getD i default).l < (L.getD j default).l := by
  intro i j
  induction j with
  | zero => intro hi _; omega
  | succ j ih =>
    intro hi hj
    have h1 := (h.2.2 (j + 1) hj).2.2.2 (by omega)
    simp only [Nat.add_sub_cancel] at h1
    by_cases e : i = j
    · subst e; exact h1
    · exact Int.lt_trans (ih (by omega) (by omega)) h1

/-- The first cell of a line. -/
def cellIdx : List C3 → Int → Option Nat
  | [], _ => none
  | c :: r, l => if c.l = l then some 0 else (cellIdx r l).map (· + 1)
theorem cellIdx_some : ∀ {L : List C3} {l : Int} {k : Nat}, k < L.length → (L.getD k default).l = l → (∀ j, j < k → (L.getD j default).l ≠ l) → cellIdx L l = some k
  | c :: r, l, 0, _, h, _ => by rw [cellIdx, if_pos (by simpa [List.getD] using h)]
  | c :: r, l, k + 1, hk, h, hn => by
    rw [cellIdx, if_neg (by have := hn 0 (by omega); simpa [List.getD] using this), cellIdx_some (k := k) (by simpa using hk) (by simpa [List.getD] using h) (fun j hj => by have := hn (j + 1) (by omega); simpa [List.getD] using this)]
    rfl
theorem cellIdx_none : ∀ {L : List C3} {l : Int}, (∀ j, j < L.length → (L.getD j default).l ≠ l) → cellIdx L l = none
  | [], l, _ => rfl
  | c :: r, l, hn => by
    rw [cellIdx, if_neg (by have := hn 0 (by simp); simpa [List.getD] using this), cellIdx_none (fun j hj => by have := hn (j + 1) (by simpa using hj); simpa [List.getD] using this)]
    rfl
theorem cellIdx_is : ∀ {L : List C3} {l : Int} {k : Nat}, cellIdx L l = some k → k < L.length ∧ (L.getD k default).l = l ∧ (∀ j, j < k → (L.getD j default).l ≠ l)
  | c :: r, l, k, h => by
    rw [cellIdx] at h
    by_cases e : c.l = l
    · rw [if_pos e] at h; cases h
      exact ⟨by simp, by simpa [List.getD] using e, fun j hj => by omega⟩
    · rw [if_neg e] at h
      cases hr : cellIdx r l with
      | none => rw [hr] at h; cases h
      | some m =>
        rw [hr] at h; cases h
        obtain ⟨h1, h2, h3⟩ := cellIdx_is hr
        refine ⟨by simpa using h1, by simpa [List.getD] using h2, fun j hj => ?_⟩
        match j with
        | 0 => simpa [List.getD] using e
        | j + 1 => have := h3 j (by simp only at hj; omega); simpa [List.getD] using this
theorem cellIdx_not : ∀ {L : List C3} {l : Int}, cellIdx L l = none → ∀ j, j < L.length → (L.getD j default).l ≠ l
  | [], l, _, j, hj => by simp at hj
  | c :: r, l, h, j, hj => by
    rw [cellIdx] at h
    by_cases e : c.l = l
    · rw [if_pos e] at h; cases h
    · rw [if_neg e] at h
      have hr : cellIdx r l = none := by cases hr : cellIdx r l with
        | none => rfl
        | some m => rw [hr] at h; cases h
      match j with
      | 0 => simpa [List.getD] using e
      | j + 1 => have := cellIdx_not hr j (by simpa using hj); simpa [List.getD] using this

/-- A line as it reads now. -/
def lineT (K : ByteArray) (L : List C3) (l : Nat) : ByteArray :=
  match cellIdx L l with
  | some k => (L.getD k default).t
  | none => K.extract (16 * l) (16 * l + 16)
/-- A word as it reads now. -/
def wordT (K : ByteArray) (L : List C3) (m : Nat) : ByteArray := (lineT K L (m / 2)).extract (m % 2 * 8) (m % 2 * 8 + 8)
def Has (K : ByteArray) (i : Int) : Prop := 0 ≤ i ∧ i < (K.size / 8 : Nat)
instance (K : ByteArray) (i : Int) : Decidable (Has K i) := by unfold Has; infer_instance
noncomputable def wordAtB (K : ByteArray) (L : List C3) (i : Int) : ByteArray := if memOkB K L = true ∧ Has K i then wordT K L i.toNat else ⟨#[]⟩
theorem wordAtB_yes {K : ByteArray} {L : List C3} {m : Nat} (h : MemOk K L) (hm : m < K.size / 8) : wordAtB K L (m : Int) = wordT K L m := by
  unfold wordAtB Has
  rw [if_pos ⟨memOkB_yes h, by omega⟩]; rfl
theorem wordAtB_bad {K : ByteArray} {L : List C3} {i : Int} (h : ¬ MemOk K L) : wordAtB K L i = ⟨#[]⟩ := by
  unfold wordAtB
  rw [if_neg (by rw [memOkB_no h]; simp)]
theorem wordAtB_no {K : ByteArray} {L : List C3} {i : Int} (h : ¬ Has K i) : wordAtB K L i = ⟨#[]⟩ := by
  unfold wordAtB
  rw [if_neg (fun x => h x.2)]

theorem lineT_size {K : ByteArray} {L : List C3} {l : Nat} (h : MemOk K L) (hl : l < K.size / 16) : (lineT K L l).size = 16 := by
  unfold lineT
  cases hc : cellIdx L l with
  | none => simp only [ByteArray.size_extract]; omega
  | some k => exact (h.2.2 k (cellIdx_is hc).1).2.2.1

/-- A line with one of its words written. -/
def putT (s : ByteArray) (k : Nat) (x : ByteArray) : ByteArray := s.extract 0 k ++ x ++ s.extract (k + 8) s.size
def putC (K : ByteArray) (L : List C3) (m : Nat) (x : ByteArray) : C3 := ⟨((m / 2 : Nat) : Int), putT (lineT K L (m / 2)) (m % 2 * 8) x, false⟩
/-- A cell laid in at its place. -/
def insL (l : Int) (x : C3) : List C3 → List C3
  | [] => [x]
  | c :: r => if c.l < l then c :: insL l x r else x :: (c :: r).filter fun c => !decide (c.l = l)
theorem insL_lt (l : Int) (x : C3) : ∀ L : List C3, (∀ c ∈ L, c.l < l) → insL l x L = L ++ [x]
  | [], _ => rfl
  | c :: r, h => by rw [insL, if_pos (h c (by simp)), insL_lt l x r (fun d hd => h d (by simp [hd]))]; rfl
theorem insL_ge (l : Int) (x : C3) : ∀ (A : List C3) (c : C3) (r : List C3), (∀ c ∈ A, c.l < l) → ¬ c.l < l → insL l x (A ++ c :: r) = A ++ x :: (c :: r).filter fun c => !decide (c.l = l)
  | [], c, r, _, h => by rw [List.nil_append, insL, if_neg h]; rfl
  | d :: A, c, r, h, hc => by rw [List.cons_append, insL, if_pos (h d (by simp)), insL_ge l x A c r (fun d hd => h d (by simp [hd])) hc]; rfl
theorem insL_snoc (l : Int) (x c : C3) : ∀ A : List C3, (∃ d ∈ A, ¬ d.l < l) → insL l x (A ++ [c]) = insL l x A ++ [c].filter fun c => !decide (c.l = l)
  | [], h => by obtain ⟨d, hd, _⟩ := h; cases hd
  | d :: A, h => by
    rw [List.cons_append, insL, insL]
    by_cases hd : d.l < l
    · rw [if_pos hd, if_pos hd, insL_snoc l x c A (by
        obtain ⟨y, hy, hn⟩ := h
        simp only [List.mem_cons] at hy
        rcases hy with rfl | hy
        · exact absurd hd hn
        · exact ⟨y, hy, hn⟩)]
      rfl
    · rw [if_neg hd, if_neg hd, List.cons_append, ← List.filter_append]; rfl
/-- The cells behind a store. -/
def storeL (K : ByteArray) (L : List C3) (m : Nat) (x : ByteArray) : List C3 := insL ((m / 2 : Nat) : Int) (putC K L m x) L
/-- A binary search's place. -/
structure Place (L : List C3) (l : Int) (p : Nat) : Prop where
  le : p ≤ L.length
  lo : ∀ j, j < p → (L.getD j default).l < l
  hi : ∀ j, p ≤ j → j < L.length → l ≤ (L.getD j default).l
theorem getD_mem {L : List C3} {c : C3} (h : c ∈ L) : ∃ j, j < L.length ∧ L.getD j default = c := by
  obtain ⟨j, hj, e⟩ := List.getElem_of_mem h
  exact ⟨j, hj, by simp [List.getD, hj, e]⟩
theorem getD_take {L : List C3} {p j : Nat} (hj : j < p) : (L.take p).getD j default = L.getD j default := by simp [List.getD, hj]
theorem getD_drop {L : List C3} {p j : Nat} : (L.drop p).getD j default = L.getD (p + j) default := by simp [List.getD, List.getElem?_drop]
theorem Place.take_lt {L : List C3} {l : Int} {p : Nat} (h : Place L l p) : ∀ c ∈ L.take p, c.l < l := fun c hc => by
  obtain ⟨j, hj, e⟩ := getD_mem hc
  have hjp : j < p := by rw [List.length_take] at hj; omega
  rw [← e, getD_take hjp]; exact h.lo j hjp
theorem drop_cons {L : List C3} {p : Nat} (hp : p < L.length) : L.drop p = L.getD p default :: L.drop (p + 1) := by
  rw [List.drop_eq_getElem_cons hp]; simp [List.getD, hp]
/-- The cell is there: it is written over. -/
theorem ins_found {K : ByteArray} {L : List C3} {l : Int} {p : Nat} {x : C3} (hok : MemOk K L) (h : Place L l p) (hp : p < L.length) (he : (L.getD p default).l = l) : insL l x L = L.set p x := by
  have e : L = L.take p ++ L.getD p default :: L.drop (p + 1) := by rw [← drop_cons hp, List.take_append_drop]
  have hf : (L.getD p default :: L.drop (p + 1)).filter (fun c => !decide (c.l = l)) = L.drop (p + 1) := by
    rw [List.filter_cons, if_neg (by rw [decide_eq_true he]; simp)]
    refine List.filter_eq_self.2 (fun c hc => ?_)
    obtain ⟨j, hj, e⟩ := getD_mem hc
    rw [getD_drop] at e
    have := hok.asc (i := p) (j := p + 1 + j) (by omega) (by rw [List.length_drop] at hj; omega)
    rw [e, he] at this
    simp; omega
  have h1 := insL_ge l x (L.take p) (L.getD p default) (L.drop (p + 1)) h.take_lt (by omega)
  rw [← e, hf] at h1
  rw [h1, List.set_eq_take_append_cons_drop, if_pos hp]
/-- .. or is not: it comes in between. -/
theorem ins_new {L : List C3} {l : Int} {p : Nat} {x : C3} (h : Place L l p) (hn : ∀ j, j < L.length → (L.getD j default).l ≠ l) : insL l x L = L.take p ++ x :: L.drop p := by
  by_cases hp : p < L.length
  · have e : L = L.take p ++ L.getD p default :: L.drop (p + 1) := by rw [← drop_cons hp, List.take_append_drop]
    have hf : (L.getD p default :: L.drop (p + 1)).filter (fun c => !decide (c.l = l)) = L.getD p default :: L.drop (p + 1) := by
      refine List.filter_eq_self.2 (fun c hc => ?_)
      rw [← drop_cons hp] at hc
      obtain ⟨j, hj, e⟩ := getD_mem hc
      rw [getD_drop] at e
      have := hn (p + j) (by rw [List.length_drop] at hj; omega)
      rw [e] at this
      simp [this]
    have h1 := insL_ge l x (L.take p) (L.getD p default) (L.drop (p + 1)) h.take_lt (by have := h.hi p (Nat.le_refl _) hp; omega)
    rw [← e, hf] at h1
    rw [h1, ← drop_cons hp]
  · have hl : p = L.length := by have := h.le; omega
    subst hl
    rw [List.take_length, List.drop_length]
    refine insL_lt l x L (fun c hc => ?_)
    obtain ⟨j, hj, e⟩ := getD_mem hc
    rw [← e]; exact h.lo j hj
theorem Place.found {L : List C3} {l : Int} {p : Nat} (h : Place L l p) (hp : p < L.length) (he : (L.getD p default).l = l) : cellIdx L l = some p :=
  cellIdx_some hp he (fun j hj => by have := h.lo j hj; omega)
theorem Place.lost {K : ByteArray} {L : List C3} {l : Int} {p : Nat} (hok : MemOk K L) (h : Place L l p) (hn : ¬ (p < L.length ∧ (L.getD p default).l = l)) : ∀ j, j < L.length → (L.getD j default).l ≠ l := fun j hj e => by
  by_cases hp : p < L.length
  · have h1 := h.hi p (Nat.le_refl _) hp
    have h3 : (L.getD p default).l ≠ l := fun e => hn ⟨hp, e⟩
    rcases Nat.lt_trichotomy j p with h2 | h2 | h2
    · have := h.lo j h2; omega
    · subst h2; exact h3 e
    · have := hok.asc h2 hj; omega
  · have := h.lo j (by omega); omega

/-- A line's cell made to be kept by the next fence. -/
def flushL (L : List C3) (l : Int) : List C3 :=
  match cellIdx L l with
  | some k => L.set k ⟨(L.getD k default).l, (L.getD k default).t, true⟩
  | none => L
/-- A cell laid into what is kept. -/
def keepB (K : ByteArray) (c : C3) : ByteArray := K.extract 0 (16 * c.l.toNat) ++ c.t ++ K.extract (16 * c.l.toNat + 16) K.size
def fenceK (K : ByteArray) (L : List C3) : ByteArray := L.foldl (fun K c => if c.f then keepB K c else K) K
def fenceL (L : List C3) : List C3 := L.filter fun c => !c.f
theorem keepB_size {K : ByteArray} {c : C3} (h0 : 0 ≤ c.l) (h1 : c.l < (K.size / 16 : Nat)) (ht : c.t.size = 16) : (keepB K c).size = K.size := by
  unfold keepB
  simp only [ByteArray.size_append, ByteArray.size_extract, ht]
  omega
theorem fenceK_snoc (K : ByteArray) (L : List C3) (c : C3) : fenceK K (L ++ [c]) = if c.f then keepB (fenceK K L) c else fenceK K L := by simp [fenceK]
theorem fenceL_snoc (L : List C3) (c : C3) : fenceL (L ++ [c]) = fenceL L ++ if c.f then [] else [c] := by
  simp only [fenceL, List.filter_append]
  cases h : c.f <;> simp [h]
/-- Whether a pick is set. -/
def pickB (p : Int) (i : Nat) : Bool := decide (p / 2 ^ i % 2 = 1)
/-- The cells with the picks in the place of their flags. -/
def fallL : Int → Nat → List C3 → List C3
  | _, _, [] => []
  | p, i, c :: r => ⟨c.l, c.t, pickB p i⟩ :: fallL p (i + 1) r
theorem fallL_length (p : Int) : ∀ (L : List C3) (i : Nat), (fallL p i L).length = L.length
  | [], _ => rfl
  | c :: r, i => by rw [fallL, List.length_cons, fallL_length p r]; rfl
theorem fallL_at (p : Int) : ∀ (L : List C3) (i j : Nat), j < L.length → (fallL p i L).getD j default = ⟨(L.getD j default).l, (L.getD j default).t, pickB p (i + j)⟩
  | c :: r, i, 0, _ => by simp [fallL, List.getD]
  | c :: r, i, j + 1, h => by
    have := fallL_at p r (i + 1) j (by simpa using h)
    rw [show i + 1 + j = i + (j + 1) by omega] at this
    simpa [fallL, List.getD] using this
def fallK (K : ByteArray) (L : List C3) (p : Int) : ByteArray := fenceK K (fallL p 0 L)
theorem take_succ {L : List C3} {k : Nat} (h : k < L.length) : L.take (k + 1) = L.take k ++ [L.getD k default] := by
  rw [List.take_add_one]; simp [List.getD, h]
end Go.Proofs.Ytlemlgadjapamaa
