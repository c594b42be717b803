/- Merged texts: InoBack, InoFore, InoSizes, NumSpec, RecRead, EntRead, WordsEq, InoReadA, InoFore2. -/
import Derived.Test.YtmkchilhnmkhkaaDoorPIC
import Derived.WalkLawsBesides
import Derived.Lib.Hide
import Derived.Deep.QuietTactic
import Derived.BigQuiet
namespace Go.Proofs.YtmkchilhnmkhkaaDoor
open Go.RowKit Go.Proofs.YtmkchilhnmkhkaaDoor.Parts Go.Proofs.YtmkchilhnmkhkaaDoor.Hexa Go.Proofs.YtmkchilhnmkhkaaDoor.Byt

def stopFrom (L : List ByteArray) : Nat → Nat → Nat
  | 0, i => i
  | f + 1, i => if L.getD i default = zero8 then i else stopFrom L f (i + 1)
def stopOf (L : List ByteArray) : Nat := stopFrom L 6 2
theorem stopFrom_self (L : List ByteArray) : ∀ (f i : Nat), i ≤ stopFrom L f i
  | 0, _ => Nat.le_refl _
  | f + 1, i => by
    rw [stopFrom]
    split
    · exact Nat.le_refl _
    · have := stopFrom_self L f (i + 1); omega
theorem stopFrom_ge (L : List ByteArray) : ∀ (f i d : Nat), d ≤ f → (∀ j, i ≤ j → j < i + d → L.getD j default ≠ zero8) → i + d ≤ stopFrom L f i
  | f, i, 0, _, _ => stopFrom_self L f i
  | 0, _, d + 1, h, _ => by omega
  | f + 1, i, d + 1, h, ha => by
    rw [stopFrom, if_neg (ha i (Nat.le_refl _) (by omega))]
    have := stopFrom_ge L f (i + 1) d (by omega) (fun j h1 h2 => ha j (by omega) (by omega))
    omega
theorem stopFrom_at (L : List ByteArray) : ∀ (f i d : Nat), d ≤ f → (∀ j, i ≤ j → j < i + d → L.getD j default ≠ zero8) → (d = f ∨ L.getD (i + d) default = zero8) → stopFrom L f i = i + d
  | 0, i, d, h, _, _ => by obtain rfl : d = 0 := by omega
                           rfl
  | f + 1, i, 0, _, _, he => by
    have he : L.getD i default = zero8 := he.resolve_left (by omega)
    rw [stopFrom, if_pos he]
    rfl
  | f + 1, i, d + 1, h, ha, he => by
    rw [stopFrom, if_neg (ha i (Nat.le_refl _) (by omega)), stopFrom_at L f (i + 1) d (by omega) (fun j h1 h2 => ha j (by omega) (by omega)) (by
      rcases he with e | e
      · exact .inl (by omega)
      · exact .inr (by rw [show i + 1 + d = i + (d + 1) by omega]; exact e))]
    omega
theorem stopOf_le (L : List ByteArray) : stopOf L ≤ 8 := by
  have : ∀ f i, stopFrom L f i ≤ i + f := fun f => by
    induction f with
    | zero => exact fun i => Nat.le_refl _
    | succ f ih =>
      intro i
      rw [stopFrom]
      split
      · omega
      · have := ih (i + 1); omega
  exact this 6 2
/-- No word from the third on, up to k, is all zeros. -/
def Filled (L : List ByteArray) (k : Nat) : Prop := ∀ j, 2 ≤ j → j < k → L.getD j default ≠ zero8
theorem filled_step {L : List ByteArray} {k : Nat} (h : Filled L k) (h1 : L.getD k default ≠ zero8) : Filled L (k + 1) := fun j h2 h3 => by
  by_cases e : j = k
  · subst e; exact h1
  · exact h j h2 (by omega)
theorem stop_ge {L : List ByteArray} {k : Nat} (h2 : 2 ≤ k) (h8 : k ≤ 8) (h : Filled L k) : k ≤ stopOf L := by
  have := stopFrom_ge L 6 2 (k - 2) (by omega) (fun j h3 h4 => h j h3 (by omega))
  unfold stopOf
  omega
theorem stop_at {L : List ByteArray} {k : Nat} (h2 : 2 ≤ k) (h8 : k ≤ 8) (h : Filled L k) (he : k = 8 ∨ L.getD k default = zero8) : stopOf L = k := by
  have := stopFrom_at L 6 2 (k - 2) (by omega) (fun j h3 h4 => h j h3 (by omega)) (by
    rcases he with e | e
    · exact .inl (by omega)
    · exact .inr (by rw [show 2 + (k - 2) = k by omega]; exact e))
  unfold stopOf
  omega

/-- The words from the third on, up to k. -/
def midTo (L : List ByteArray) (k : Nat) : List ByteArray := (L.take k).drop 2
theorem midTo_length {L : List ByteArray} {k : Nat} (h : k ≤ L.length) : (midTo L k).length = k - 2 := by unfold midTo; simp; omega
theorem midTo_at {L : List ByteArray} {k j : Nat} (hj : j + 2 < k) : (midTo L k).getD j default = L.getD (j + 2) default := by
  unfold midTo
  simp only [List.getD, List.getElem?_drop]
  rw [List.getElem?_take_of_lt (by omega), Nat.add_comm]
theorem midTo_next {L : List ByteArray} {k : Nat} (h2 : 2 ≤ k) (h : k < L.length) : midTo L (k + 1) = midTo L k ++ [L.getD k default] := by
  unfold midTo
  have e : L.getD k default = L[k] := by simp [List.getD, h]
  rw [List.take_add_one, List.getElem?_eq_getElem h, List.drop_append_of_le_length (by simp; omega), e]
  rfl
theorem midTo_two (L : List ByteArray) : midTo L 2 = [] := by unfold midTo; simp
def kindOf (L : List ByteArray) : Int := (((L.getD 0 default).data.toList.getD 0 0).toNat : Int)
def inoTo (L : List ByteArray) (k : Nat) : InoR :=
  ⟨kindOf L, numAtV (L.getD 0 default) 1 2, numAtV (L.getD 0 default) 3 2, if kindOf L = 1 then L.getD 1 default else ⟨#[]⟩, if kindOf L = 1 then (midTo L k).map recOf else [], if kindOf L = 2 then (midTo L k).map entryOf else []⟩
def inoOf (L : List ByteArray) : InoR := inoTo L (stopOf L)
def zeroIno : InoR := ⟨0, 0, 0, ⟨#[]⟩, [], []⟩
/-- Are these the words of a valid inode? -/
def ReadOk (L : List ByteArray) : Prop := L.length = 8 ∧ inoWordsB (inoOf L) = L
noncomputable def readInoB (L : List ByteArray) : Bool := @decide (ReadOk L) (Classical.propDecidable _)
noncomputable def readInoR (L : List ByteArray) : InoR := if readInoB L = true then inoOf L else zeroIno
theorem readInoB_yes {L : List ByteArray} (h : ReadOk L) : readInoB L = true := by unfold readInoB; exact @decide_eq_true _ (Classical.propDecidable _) h
theorem readInoB_no {L : List ByteArray} (h : ¬ ReadOk L) : readInoB L = false := by unfold readInoB; exact @decide_eq_false _ (Classical.propDecidable _) h
theorem readInoR_yes {L : List ByteArray} (h : ReadOk L) : readInoR L = inoOf L := by unfold readInoR; rw [if_pos (readInoB_yes h)]
theorem readInoR_no {L : List ByteArray} (h : ¬ ReadOk L) : readInoR L = zeroIno := by unfold readInoR; rw [readInoB_no h]; rfl
theorem readOk_ok {L : List ByteArray} (h : ReadOk L) : InoOk (inoOf L) := by
  by_cases h9 : InoOk (inoOf L)
  · exact h9
  · have h1 := h.2
    rw [inoWords_no h9] at h1
    have h2 := h.1
    rw [← h1] at h2
    exact absurd h2 (by decide)
theorem map_getD {α β : Type} [Inhabited α] [Inhabited β] (f : α → β) (L : List α) (j : Nat) (h : j < L.length) : (L.map f).getD j default = f (L.getD j default) := by
  simp [List.getD, h]
theorem read_badRec {L : List ByteArray} {k : Nat} (h2 : 2 ≤ k) (h8 : k < 8) (hl : L.length = 8) (hk : kindOf L = 1) (hf : Filled L (k + 1)) (hb : ¬ RecOk (recOf (L.getD k default))) : ¬ ReadOk L := by
  intro h
  have h1 := stop_ge (by omega) (by omega) hf
  have h9 := stopOf_le L
  obtain ⟨_, ⟨e, _⟩ | ⟨e, x⟩ | ⟨e, _⟩⟩ := readOk_ok h
  · exact absurd (show kindOf L = 0 from e) (by omega)
  · have hR : (inoOf L).R = (midTo L (stopOf L)).map recOf := by show (if kindOf L = 1 then _ else _) = _; rw [if_pos hk]
    have hlen := midTo_length (L := L) (k := stopOf L) (by omega)
    have h3 := (x.2.2.2.2 (k - 2) (by rw [hR, List.length_map, hlen]; omega)).1
    rw [hR, map_getD _ _ _ (by omega), midTo_at (by omega), show k - 2 + 2 = k by omega] at h3
    exact hb h3
  · exact absurd (show kindOf L = 2 from e) (by omega)
theorem read_badEnt {L : List ByteArray} {k : Nat} (h2 : 2 ≤ k) (h8 : k < 8) (hl : L.length = 8) (hk : kindOf L = 2) (hf : Filled L (k + 1)) (hb : ¬ EntryOk (entryOf (L.getD k default))) : ¬ ReadOk L := by
  intro h
  have h1 := stop_ge (by omega) (by omega) hf
  have h9 := stopOf_le L
  obtain ⟨_, ⟨e, _⟩ | ⟨e, _⟩ | ⟨e, x⟩⟩ := readOk_ok h
  · exact absurd (show kindOf L = 0 from e) (by omega)
  · exact absurd (show kindOf L = 1 from e) (by omega)
  · have hE : (inoOf L).E = (midTo L (stopOf L)).map entryOf := by show (if kindOf L = 2 then _ else _) = _; rw [if_pos hk]
    have hlen := midTo_length (L := L) (k := stopOf L) (by omega)
    have h3 := (x.2.2.2.2 (k - 2) (by rw [hE, List.length_map, hlen]; omega)).1
    rw [hE, map_getD _ _ _ (by omega), midTo_at (by omega), show k - 2 + 2 = k by omega] at h3
    exact hb h3
end Go.Proofs.YtmkchilhnmkhkaaDoor
namespace Go.Proofs.YtmkchilhnmkhkaaDoor
open Go.RowKit Go.Proofs.YtmkchilhnmkhkaaDoor.Parts Go.Proofs.YtmkchilhnmkhkaaDoor.Hexa Go.Proofs.YtmkchilhnmkhkaaDoor.Byt

theorem list_of_size {x : ByteArray} {k : Nat} (h : x.size = k) : x.data.toList.length = k := by simpa using h
theorem cut_first (A B : List UInt8) (k : Nat) (h : A.length = k) : ((A ++ B).drop 0).take k = A := by
  rw [List.drop_zero, ← h]; simp
theorem cut_next (A B C : List UInt8) (j k : Nat) (h : A.length = j) (h2 : B.length = k) : ((A ++ B ++ C).drop j).take k = B := by
  rw [← h, List.append_assoc, List.drop_left, ← h2, List.take_left]
theorem rec_fore {r : RecR} (h : RecOk r) : recOf (recWordB r) = r := by
  have h8 := recWord_size h
  rw [recWordB_yes h] at h8 ⊢
  obtain ⟨⟨h0, h1⟩, ⟨h2, h3⟩, h4⟩ := h
  have e1 : (numTextB r.f0 1).size = 1 := numText_size (k := 1) (by omega) (by omega) (by omega)
  have e2 : (numTextB r.f1 3).size = 3 := numText_size (k := 3) (by omega) (by omega) (by omega)
  have l1 := list_of_size e1
  have l2 := list_of_size e2
  have l3 := list_of_size h4
  have a1 : numAtV (numTextB r.f0 1 ++ numTextB r.f1 3 ++ r.f2) 0 1 = r.f0 := numAt_fore _ 0 1 r.f0 (by omega) (by omega) (by omega) (by omega) (by
    unfold cutL
    rw [ByteArray.data_append, ByteArray.data_append, Array.toList_append, Array.toList_append, List.append_assoc]
    exact cut_first _ _ 1 l1)
  have a2 : numAtV (numTextB r.f0 1 ++ numTextB r.f1 3 ++ r.f2) 1 3 = r.f1 := numAt_fore _ 1 3 r.f1 (by omega) (by omega) (by omega) (by omega) (by
    unfold cutL
    rw [ByteArray.data_append, ByteArray.data_append, Array.toList_append, Array.toList_append]
    exact cut_next _ _ _ 1 3 l1 l2)
  have a3 : (numTextB r.f0 1 ++ numTextB r.f1 3 ++ r.f2).extract 4 8 = r.f2 := by
    apply ByteArray.ext
    apply Array.toList_inj.1
    have := cut_extract (numTextB r.f0 1 ++ numTextB r.f1 3 ++ r.f2) 4 4
    rw [show 4 + 4 = 8 from rfl] at this
    rw [this]
    unfold cutL
    rw [ByteArray.data_append, ByteArray.data_append, Array.toList_append, Array.toList_append]
    rw [List.drop_append_of_le_length (by simp [l1, l2]), List.drop_of_length_le (by simp [l1, l2]), List.nil_append, ← l3, List.take_length]
  show (⟨_, _, _⟩ : RecR) = r
  rw [a1, a2, a3]
theorem endTo_at (l : List UInt8) (E : Nat) (h2 : 2 ≤ E) (hne : ¬ l.getD (E - 1) 0 = 0) : ∀ k, E ≤ k → (∀ j, E ≤ j → j < k → l.getD j 0 = 0) → endTo l k = E
  | 0, h, _ => by omega
  | 1, h, _ => by omega
  | k + 2, h, hz => by
    by_cases e : E = k + 2
    · subst e
      exact endTo_stop l k hne
    · rw [endTo_step l k (hz (k + 1) (by omega) (by omega))]
      exact endTo_at l E h2 hne (k + 1) (by omega) (fun j h3 h4 => hz j h3 (by omega))
theorem ent_fore {r : EntryR} (h : EntryOk r) : entryOf (entryWordB r) = r := by
  rw [entryWordB_yes h]
  obtain ⟨⟨h0, h1⟩, h2⟩ := h
  obtain ⟨b, hb⟩ : ∃ b : UInt8, (b.toNat : Int) = r.f0 := ⟨UInt8.ofNat r.f0.toNat, by rw [UInt8.toNat_ofNat']; omega⟩
  have e1 : (numTextB r.f0 1).data.toList = [b] := by rw [← hb]; exact one_byte b (by omega)
  have hN : r.f1.data.toList.length = r.f1.size := by simp
  obtain ⟨n, hn⟩ : ∃ n, r.f1.size = n := ⟨_, rfl⟩
  have hn7 := h2.1
  rw [hn] at hn7 hN
  have hs : (wordB (numTextB r.f0 1 ++ r.f1)).data.toList = [b] ++ r.f1.data.toList ++ List.replicate (7 - n) 0 := by
    have e2 : (numTextB r.f0 1 ++ r.f1).size = 1 + n := by
      rw [ByteArray.size_append, hn]
      have : (numTextB r.f0 1).data.toList.length = 1 := by rw [e1]; rfl
      have e3 : (numTextB r.f0 1).size = 1 := by simpa using this
      rw [e3]
    unfold wordB
    rw [if_pos (by omega), ByteArray.data_append, ByteArray.data_append, Array.toList_append, Array.toList_append, e1, e2]
    show _ ++ (List.replicate (8 - (1 + n)) 0) = _
    rw [show 8 - (1 + n) = 7 - n by omega]
  have hlast : ¬ ([b] ++ r.f1.data.toList ++ List.replicate (7 - n) 0).getD n 0 = 0 := by
    have hm : n - 1 < r.f1.data.toList.length := by omega
    have e4 : ([b] ++ r.f1.data.toList ++ List.replicate (7 - n) 0).getD n 0 = r.f1.data.toList[n - 1] := by
      simp only [List.getD]
      rw [List.getElem?_append_left (by simp; omega), List.getElem?_append_right (by simp; omega), List.getElem?_eq_getElem (by simp; omega)]
      simp
    rw [e4]
    intro e5
    have := h2.2 _ (List.getElem_mem hm)
    rw [e5] at this
    exact absurd this (by decide)
  have hend : endOf (wordB (numTextB r.f0 1 ++ r.f1)) = 1 + n := by
    unfold endOf
    rw [hs]
    refine endTo_at _ (1 + n) (by omega) (by rw [show 1 + n - 1 = n by omega]; exact hlast) 8 (by omega) (fun j h3 h4 => ?_)
    simp only [List.getD]
    rw [List.getElem?_append_right (by simp; omega)]
    rw [List.getElem?_replicate]
    split <;> rfl
  show (⟨_, _⟩ : EntryR) = r
  rw [hend]
  have a1 : (((wordB (numTextB r.f0 1 ++ r.f1)).data.toList.getD 0 0).toNat : Int) = r.f0 := by rw [hs, ← hb]; rfl
  have a2 : (wordB (numTextB r.f0 1 ++ r.f1)).extract 1 (1 + n) = r.f1 := by
    apply ByteArray.ext
    apply Array.toList_inj.1
    rw [cut_extract]
    unfold cutL
    rw [hs]
    exact cut_next _ _ _ 1 n rfl hN
  rw [a1, a2]
end Go.Proofs.YtmkchilhnmkhkaaDoor
namespace Go.Proofs.YtmkchilhnmkhkaaDoor
open Go.RowKit Go.Proofs.YtmkchilhnmkhkaaDoor.Parts Go.Proofs.YtmkchilhnmkhkaaDoor.Hexa Go.Proofs.YtmkchilhnmkhkaaDoor.Byt

theorem headB_size {n : InoR} (_h : InoOk n) : (headB n).size = 8 := by
  unfold headB wordB
  have e1 : (numTextB n.kd 1).size ≤ 1 := by rcases numTextB_size n.kd 1 with e | e <;> rw [e] <;> decide
  have e2 : (numTextB n.sz 2).size ≤ 2 := by rcases numTextB_size n.sz 2 with e | e <;> rw [e] <;> decide
  have e3 : (numTextB n.gn 2).size ≤ 2 := by rcases numTextB_size n.gn 2 with e | e <;> rw [e] <;> decide
  have e4 : (numTextB n.kd 1 ++ numTextB n.sz 2 ++ numTextB n.gn 2).size ≤ 5 := by rw [ByteArray.size_append, ByteArray.size_append]; omega
  rw [if_pos (by omega), ByteArray.size_append, longB_size]
  omega
theorem keyB_size {n : InoR} (h : InoOk n) : (wordB n.key).size = 8 := by
  have e : n.key.size ≤ 8 := by
    rcases h with ⟨_, ⟨_, h⟩ | ⟨_, h⟩ | ⟨_, h⟩⟩
    · have := h.2.1; omega
    · have := h.2.1; omega
    · have := h.2.1; omega
  unfold wordB
  rw [if_pos e, ByteArray.size_append, longB_size]
  omega
theorem getD_mem_i {α : Type} [Inhabited α] (L : List α) {x : α} (h : x ∈ L) : ∃ j, j < L.length ∧ x = L.getD j default := by
  obtain ⟨j, hj, e⟩ := List.getElem_of_mem h
  exact ⟨j, hj, by rw [← e]; simp [List.getD, hj]⟩
theorem inoWords_sizes {n : InoR} {x : ByteArray} (h : x ∈ inoWordsB n) : x.size = 8 := by
  by_cases hn : InoOk n
  · rw [inoWords_yes hn] at h
    unfold fillTo wordsI at h
    simp only [List.mem_append, List.mem_cons, List.not_mem_nil, or_false, List.mem_map, List.mem_replicate] at h
    rcases h with (((rfl | rfl) | ⟨r, hr, rfl⟩) | ⟨r, hr, rfl⟩) | ⟨_, rfl⟩
    · exact headB_size hn
    · exact keyB_size hn
    · obtain ⟨j, hj, rfl⟩ := getD_mem_i _ hr
      rcases hn with ⟨_, ⟨_, h⟩ | ⟨_, h⟩ | ⟨_, h⟩⟩
      · have := h.2.2.1; omega
      · exact recWord_size (h.2.2.2.2 j hj).1
      · have := h.2.2.1; omega
    · obtain ⟨j, hj, rfl⟩ := getD_mem_i _ hr
      rcases hn with ⟨_, ⟨_, h⟩ | ⟨_, h⟩ | ⟨_, h⟩⟩
      · have := h.2.2.2; omega
      · have := h.2.2.2.1; omega
      · exact entryWord_size (h.2.2.2.2 j hj).1
    · exact longB_size 8 0
  · rw [inoWords_no hn] at h
    cases h
end Go.Proofs.YtmkchilhnmkhkaaDoor
namespace Go.Proofs.YtmkchilhnmkhkaaDoor
open Go.RowKit Go.Proofs.YtmkchilhnmkhkaaDoor.Hexa Go.Proofs.YtmkchilhnmkhkaaDoor.Byt Go.Proofs.YtmkchilhnmkhkaaDoor.BitsM Go.Proofs.YtmkchilhnmkhkaaDoor.Parts

set_option maxRecDepth 100000 in
set_option maxHeartbeats 1000000 in
theorem specNumAt_yes (s : ByteArray) (a k : Nat) (w : World) (hs : s.size ≤ 100000000) (hk : 1 ≤ k) (hk' : k ≤ 7) (ha : a + k ≤ s.size) :
    Calls Tryd.prog 73 #[.string s, .int .i64 a, .int .i64 k] w fun e w' => e = .returned (.tuple #[.int .i64 (numV (cutL s a k)), .bool true]) ∧ w' = w := by
  have HR : Hid ((1 : Int) ≤ (k : Int) ∧ (k : Int) ≤ 7) := Lib.hid (by omega)
  have HR2 : Hid ((0 : Int) ≤ (a : Int) ∧ (a : Int) ≤ (s.size : Int) - k) := Lib.hid (by omega)
  go_enter Tryd.func73, Tryd.ntmps73
  go_wp2_with fail
  refine (range_yes _ HR.out).mono ?_
  rintro e w0 ⟨rfl, rfl⟩
  go_wp2_with fail
  refine (range_yes _ HR2.out).mono ?_
  rintro e w1 ⟨rfl, rfl⟩
  go_wp2
  go_loopw [8, 9] (fun nv iv wr => ∃ (j v : Nat), j ≤ k ∧ iv = .int .i64 ((a : Int) + j) ∧ nv = .int .i64 v ∧ v < 72057594037927936 ∧ Hid (v = numV (cutL s a j)) ∧ wr = w1) (fun _ iv _ => ((a : Int) + k - intOf iv).toNat)
  case atStart => exact ⟨0, 0, Nat.zero_le _, by go_num, rfl, by omega, Lib.hid (by simp [cutL, numV]), rfl⟩
  case round =>
    obtain ⟨j, v, hj, rfl, rfl, hv, HV, rfl⟩ := hrel
    by_cases hlt : j < k
    · have hin : a + j < s.size := by omega
      have hb := (s[a + j]'hin).toNat_lt
      have e1 : ((a : Int) + j).toNat = a + j := by omega
      have hv2 : v < 256 ^ j := by
        have := numV_lt (cutL s a j)
        rw [cutL_length s a j (by omega)] at this
        rw [HV.out]; exact this
      have hv3 : 256 * v + (s[a + j]'hin).toNat < 72057594037927936 := by
        have h7 : 256 ^ j ≤ 256 ^ 6 := Nat.pow_le_pow_right (by omega) (by omega)
        have h8 : 256 * 256 ^ 6 = 72057594037927936 := by decide
        omega
      have HN : Hid (256 * v + (s[a + j]'hin).toNat = numV (cutL s a (j + 1))) := Lib.hid (by rw [← cutL_next s a j hin, numV_snoc, HV.out])
      clear hv2
      go_wp2
      go_roundw
      case rel => exact ⟨j + 1, 256 * v + (s[a + j]'hin).toNat, by omega, by go_num, by go_num, hv3, HN, by first | rfl | trivial⟩
      case measure => simp [intOf]; omega
    · obtain rfl : j = k := by omega
      go_wp2
      go_ret2
      exact ⟨ret_pair (by rw [HV.out]), rfl⟩

set_option maxRecDepth 100000 in
set_option maxHeartbeats 1000000 in
theorem specNumAt_no (s : ByteArray) (a width : Int) (w : World) (hs : s.size ≤ 100000000) (hw0 : -9223372036854775808 ≤ width) (hw1 : width ≤ 9223372036854775807) (h : ¬ NumThere s a width) :
    Calls Tryd.prog 73 #[.string s, .int .i64 a, .int .i64 width] w fun e w' => e = .returned (.tuple #[.int .i64 0, .bool false]) ∧ w' = w := by
  by_cases hr : 1 ≤ width ∧ width ≤ 7
  · have hq : ¬ (0 ≤ a ∧ a ≤ (s.size : Int) - width) := fun hq => h ⟨hr, hq⟩
    have HR := Lib.hid hr
    have HQ := Lib.hid hq
    obtain ⟨h1, h2⟩ := hr
    clear h hq
    go_enter Tryd.func73, Tryd.ntmps73
    go_wp2_with fail
    refine (range_yes _ HR.out).mono ?_
    rintro e w0 ⟨rfl, rfl⟩
    go_wp2_with fail
    refine (range_no _ HQ.out).mono ?_
    rintro e w1 ⟨rfl, rfl⟩
    go_wp2
    go_ret2
    exact ⟨rfl, rfl⟩
  · have HR := Lib.hid hr
    clear h hr
    go_enter Tryd.func73, Tryd.ntmps73
    go_wp2_with (first
      | (go_at_call 56; refine (range_no _ HR.out).mono ?_; rintro e w1 ⟨rfl, rfl⟩))
    go_ret2
    exact ⟨rfl, rfl⟩
theorem specNumAt_any (s : ByteArray) (a width : Int) (w : World) (hs : s.size ≤ 100000000) (hw0 : -9223372036854775808 ≤ width) (hw1 : width ≤ 9223372036854775807) :
    Calls Tryd.prog 73 #[.string s, .int .i64 a, .int .i64 width] w fun e w' => e = .returned (.tuple #[.int .i64 (numAtV s a width), .bool (numAtB s a width)]) ∧ Below w.heap.size w w' := by
  by_cases h : NumThere s a width
  · have hV : numAtV s a width = numV (cutL s a.toNat width.toNat) := by unfold numAtV; exact if_pos h
    have hB : numAtB s a width = true := decide_eq_true h
    rw [hV, hB]
    obtain ⟨⟨h1, h7⟩, h0, ha⟩ := h
    obtain ⟨k, rfl⟩ : ∃ k : Nat, width = k := ⟨width.toNat, by omega⟩
    obtain ⟨j, rfl⟩ : ∃ j : Nat, a = j := ⟨a.toNat, by omega⟩
    simp only [Int.toNat_natCast]
    exact (specNumAt_yes s j k w hs (by omega) (by omega) (by omega)).mono fun e w' ⟨he, hw⟩ => ⟨he, by rw [hw]; exact Below.refl _ _⟩
  · have hV : numAtV s a width = 0 := by unfold numAtV; exact if_neg h
    have hB : numAtB s a width = false := decide_eq_false h
    rw [hV, hB]
    exact (specNumAt_no s a width w hs hw0 hw1 h).mono fun e w' ⟨he, hw⟩ => ⟨he, by rw [hw]; exact Below.refl _ _⟩
end Go.Proofs.YtmkchilhnmkhkaaDoor
namespace Go.Proofs.YtmkchilhnmkhkaaDoor
open Go.RowKit Go.Proofs.YtmkchilhnmkhkaaDoor.Parts Go.Proofs.YtmkchilhnmkhkaaDoor.Hexa Go.Proofs.YtmkchilhnmkhkaaDoor.Byt

def recV (r : RecR) : Value := .agg #[.int .i64 r.f0, .int .i64 r.f1, .string r.f2]
def SaysRec (r : RecR) (b : Bool) (w : World) (e : Ending) (w' : World) : Prop := e = .returned (.tuple #[.agg #[.int .i64 r.f0, .int .i64 r.f1, .string r.f2], .bool b]) ∧ Below w.heap.size w w'
set_option maxRecDepth 100000 in
set_option maxHeartbeats 1000000 in
theorem specReadRec_len (s : ByteArray) (w : World) (_hs : s.size ≤ 2000000) (h : ¬ s.size = 8) :
    Calls Tryd.prog 75 #[.string s] w (SaysRec ⟨0, 0, ⟨#[]⟩⟩ false w) := by
  have R0 := Bk.alloc w #[.int .i64 0, .int .i64 0, .string ⟨#[]⟩] 66
  have B0 := Lib.hid (below_bk w (.cells #[.int .i64 0, .int .i64 0, .string ⟨#[]⟩] 66))
  have e8 : ((s.size : Int) == 8) = false := by simp; omega
  have e9 : ((s.size : Int) != 8) = true := by simp; omega
  clear R0
  go_enter Tryd.func75, Tryd.ntmps75
  go_wp2
  refine bodyPost_ret (v := .tuple #[.agg #[.int .i64 0, .int .i64 0, .string ⟨#[]⟩], .bool false]) ?_ rfl ⟨rfl, ?_⟩
  · simp [results, Tryd.results75, go_sem]
  · exact B0.out

set_option maxRecDepth 100000 in
set_option maxHeartbeats 1000000 in
theorem specReadRec_yes (s : ByteArray) (w : World) (h8 : s.size = 8) (h : RecOk (recOf s)) :
    Calls Tryd.prog 75 #[.string s] w (SaysRec (recOf s) true w) := by
  have R0 := Lib.hid (Bk.alloc w #[.int .i64 0, .int .i64 0, .string ⟨#[]⟩] 66)
  have B0 := Lib.hid (below_bk w (.cells #[.int .i64 0, .int .i64 0, .string ⟨#[]⟩] 66))
  have e8 : ((s.size : Int) == 8) = true := by simp; omega
  have e9 : ((s.size : Int) != 8) = false := by simp; omega
  have hs8 : s.size ≤ 8 := by omega
  have hs9 : 8 ≤ s.size := by omega
  have HB := Lib.hid (rec_back h8 h)
  have hex : s.extract 4 s.size = (recOf s).f2 := by rw [h8]; rfl
  obtain ⟨P, hP⟩ : ∃ P, numAtV s 0 1 = P := ⟨_, rfl⟩
  obtain ⟨Q, hQ⟩ : ∃ Q, numAtV s 1 3 = Q := ⟨_, rfl⟩
  obtain ⟨M, hM⟩ : ∃ M, s.extract 4 s.size = M := ⟨_, rfl⟩
  have hR : recOf s = ⟨P, Q, M⟩ := by rw [← hP, ← hQ, ← hM, hex]; rfl
  have hMs : M.size ≤ 8 := by rw [← hM, ByteArray.size_extract]; omega
  rw [hR] at HB ⊢
  have HP := Lib.hid hP
  have HQ := Lib.hid hQ
  have HM8 := Lib.hid hMs
  clear h8 h hex hP hQ hR hMs
  go_enter Tryd.func75, Tryd.ntmps75
  go_wp2_with fail
  refine (specNumAt_any s 0 1 _ (by omega) (by omega) (by omega)).mono ?_
  rw [HP.out]
  rintro e w1 ⟨rfl, hb⟩
  have R1 := Lib.hid (R0.out.later hb)
  have B1 : Hid (Below w.heap.size w w1) := Lib.hid (B0.out.trans (hb.mono B0.out.size))
  clear hb R0 B0
  go_wp2_with fail
  refine (specNumAt_any s 1 3 _ (by omega) (by omega) (by omega)).mono ?_
  rw [HQ.out]
  rintro e w2 ⟨rfl, hb⟩
  have hba := below_bk w2 (.cells #[.int .i64 P, .int .i64 Q, .string M] 66)
  have R3 := Lib.hid ((R1.out.later hb).later hba)
  have B2 : Below w.heap.size w w2 := B1.out.trans (hb.mono B1.out.size)
  have B3 : Hid (Below w.heap.size w (w2.alloc (.cells #[.int .i64 P, .int .i64 Q, .string M] 66))) := Lib.hid (B2.trans (hba.mono B2.size))
  have X3 := Lib.hid (Bk.alloc w2 #[.int .i64 P, .int .i64 Q, .string M] 66)
  clear hb hba B2 R1 B1
  go_wp2_with fail
  refine (specRecWord_any P Q M _ (by have := HM8.out; omega)).mono ?_
  rw [HB.out]
  rintro e w4 ⟨rfl, hb⟩
  have R4 := Lib.hid (R3.out.later hb)
  have X4 := Lib.hid (X3.out.later hb)
  have B4 : Hid (Below w.heap.size w w4) := Lib.hid (B3.out.trans (hb.mono B3.out.size))
  clear hb R3 X3 B3
  have x0 := X4.out.cell (j := 0) rfl
  have x1 := X4.out.cell (j := 1) rfl
  have x2 := X4.out.cell (j := 2) rfl
  have r0 := R4.out.cell (j := 0) rfl
  have r1 := R4.out.cell (j := 1) rfl
  have r2 := R4.out.cell (j := 2) rfl
  have f0 := R4.out.fr (o := 0)
  have f1 := R4.out.fr (o := 1)
  have f2 := R4.out.fr (o := 2)
  have qf := ((R4.out.set 0 (.int .i64 P)).set 1 (.int .i64 Q)).set 2 (.string M)
  have q0 := qf.cell (j := 0) (v := .int .i64 P) rfl
  have q1 := qf.cell (j := 1) (v := .int .i64 Q) rfl
  have q2 := qf.cell (j := 2) (v := .string M) rfl
  clear qf
  go_wp2
  refine bodyPost_ret (v := .tuple #[.agg #[.int .i64 P, .int .i64 Q, .string M], .bool true]) ?_ rfl ⟨rfl, ?_⟩
  · simp [results, Tryd.results75, go_sem, q0, q1, q2]
  · exact ((B4.out.setCell (Nat.le_refl _) _).setCell (Nat.le_refl _) _).setCell (Nat.le_refl _) _
set_option maxRecDepth 100000 in
set_option maxHeartbeats 1000000 in
theorem specReadRec_no (s : ByteArray) (w : World) (h8 : s.size = 8) (h : ¬ RecOk (recOf s)) :
    Calls Tryd.prog 75 #[.string s] w (SaysRec (⟨0, 0, ⟨#[]⟩⟩) false w) := by
  have R0 := Lib.hid (Bk.alloc w #[.int .i64 0, .int .i64 0, .string ⟨#[]⟩] 66)
  have B0 := Lib.hid (below_bk w (.cells #[.int .i64 0, .int .i64 0, .string ⟨#[]⟩] 66))
  have e8 : ((s.size : Int) == 8) = true := by simp; omega
  have e9 : ((s.size : Int) != 8) = false := by simp; omega
  have hs8 : s.size ≤ 8 := by omega
  have hs9 : 8 ≤ s.size := by omega
  have HB := Lib.hid (recWordB_no h)
  have n1 := text_full s (by omega)
  have n2 := text_full' s (by omega)
  have hex : s.extract 4 s.size = (recOf s).f2 := by rw [h8]; rfl
  obtain ⟨P, hP⟩ : ∃ P, numAtV s 0 1 = P := ⟨_, rfl⟩
  obtain ⟨Q, hQ⟩ : ∃ Q, numAtV s 1 3 = Q := ⟨_, rfl⟩
  obtain ⟨M, hM⟩ : ∃ M, s.extract 4 s.size = M := ⟨_, rfl⟩
  have hR : recOf s = ⟨P, Q, M⟩ := by rw [← hP, ← hQ, ← hM, hex]; rfl
  have hMs : M.size ≤ 8 := by rw [← hM, ByteArray.size_extract]; omega
  rw [hR] at HB
  have HP := Lib.hid hP
  have HQ := Lib.hid hQ
  have HM8 := Lib.hid hMs
  clear h8 h hex hP hQ hR hMs
  go_enter Tryd.func75, Tryd.ntmps75
  go_wp2_with fail
  refine (specNumAt_any s 0 1 _ (by omega) (by omega) (by omega)).mono ?_
  rw [HP.out]
  rintro e w1 ⟨rfl, hb⟩
  have R1 := Lib.hid (R0.out.later hb)
  have B1 : Hid (Below w.heap.size w w1) := Lib.hid (B0.out.trans (hb.mono B0.out.size))
  clear hb R0 B0
  go_wp2_with fail
  refine (specNumAt_any s 1 3 _ (by omega) (by omega) (by omega)).mono ?_
  rw [HQ.out]
  rintro e w2 ⟨rfl, hb⟩
  have hba := below_bk w2 (.cells #[.int .i64 P, .int .i64 Q, .string M] 66)
  have R3 := Lib.hid ((R1.out.later hb).later hba)
  have B2 : Below w.heap.size w w2 := B1.out.trans (hb.mono B1.out.size)
  have B3 : Hid (Below w.heap.size w (w2.alloc (.cells #[.int .i64 P, .int .i64 Q, .string M] 66))) := Lib.hid (B2.trans (hba.mono B2.size))
  have X3 := Lib.hid (Bk.alloc w2 #[.int .i64 P, .int .i64 Q, .string M] 66)
  clear hb hba B2 R1 B1
  go_wp2_with fail
  refine (specRecWord_any P Q M _ (by have := HM8.out; omega)).mono ?_
  rw [HB.out]
  rintro e w4 ⟨rfl, hb⟩
  have R4 := Lib.hid (R3.out.later hb)
  have X4 := Lib.hid (X3.out.later hb)
  have B4 : Hid (Below w.heap.size w w4) := Lib.hid (B3.out.trans (hb.mono B3.out.size))
  clear hb R3 X3 B3
  have x0 := X4.out.cell (j := 0) rfl
  have x1 := X4.out.cell (j := 1) rfl
  have x2 := X4.out.cell (j := 2) rfl
  have r0 := R4.out.cell (j := 0) rfl
  have r1 := R4.out.cell (j := 1) rfl
  have r2 := R4.out.cell (j := 2) rfl
  have f0 := R4.out.fr (o := 0)
  have f1 := R4.out.fr (o := 1)
  have f2 := R4.out.fr (o := 2)
  have qf := ((R4.out.set 0 (.int .i64 0)).set 1 (.int .i64 0)).set 2 (.string ⟨#[]⟩)
  have q0 := qf.cell (j := 0) (v := .int .i64 0) rfl
  have q1 := qf.cell (j := 1) (v := .int .i64 0) rfl
  have q2 := qf.cell (j := 2) (v := .string ⟨#[]⟩) rfl
  clear qf
  go_wp2
  refine bodyPost_ret (v := .tuple #[.agg #[.int .i64 0, .int .i64 0, .string ⟨#[]⟩], .bool false]) ?_ rfl ⟨rfl, ?_⟩
  · simp [results, Tryd.results75, go_sem, q0, q1, q2]
  · exact ((B4.out.setCell (Nat.le_refl _) _).setCell (Nat.le_refl _) _).setCell (Nat.le_refl _) _
theorem specReadRec_any (s : ByteArray) (w : World) (hs : s.size ≤ 2000000) :
    Calls Tryd.prog 75 #[.string s] w (SaysRec (recReadR s) (recReadB s) w) := by
  by_cases h : s.size = 8 ∧ RecOk (recOf s)
  · rw [show recReadR s = recOf s from if_pos h, show recReadB s = true from decide_eq_true h]
    exact specReadRec_yes s w h.1 h.2
  · rw [show recReadR s = ⟨0, 0, ⟨#[]⟩⟩ from if_neg h, show recReadB s = false from decide_eq_false h]
    by_cases h8 : s.size = 8
    · exact specReadRec_no s w h8 (fun e => h ⟨h8, e⟩)
    · exact specReadRec_len s w hs h8
end Go.Proofs.YtmkchilhnmkhkaaDoor
namespace Go.Proofs.YtmkchilhnmkhkaaDoor
open Go.RowKit Go.Proofs.YtmkchilhnmkhkaaDoor.Parts Go.Proofs.YtmkchilhnmkhkaaDoor.Hexa Go.Proofs.YtmkchilhnmkhkaaDoor.Byt

def SaysEnt (r : EntryR) (b : Bool) (w : World) (e : Ending) (w' : World) : Prop := e = .returned (.tuple #[.agg #[.int .i64 r.f0, .string r.f1], .bool b]) ∧ Below w.heap.size w w'
theorem byte_getD (s : ByteArray) (j : Nat) (hj : j < s.size) : s.data.toList.getD j 0 = s[j] := by
  have hj' : j < s.data.toList.length := by simpa using hj
  simp only [List.getD, List.getElem?_eq_getElem hj', Option.getD_some]
  rfl
set_option maxRecDepth 100000 in
set_option maxHeartbeats 1000000 in
theorem specReadEntry_len (s : ByteArray) (w : World) (_hs : s.size ≤ 2000000) (h : ¬ s.size = 8) :
    Calls Tryd.prog 32 #[.string s] w (SaysEnt ⟨0, ⟨#[]⟩⟩ false w) := by
  have B0 := Lib.hid (below_bk w (.cells #[.int .i64 0, .string ⟨#[]⟩] 47))
  have e8 : ((s.size : Int) == 8) = false := by simp; omega
  have e9 : ((s.size : Int) != 8) = true := by simp; omega
  go_enter Tryd.func32, Tryd.ntmps32
  go_wp2
  refine bodyPost_ret (v := .tuple #[.agg #[.int .i64 0, .string ⟨#[]⟩], .bool false]) ?_ rfl ⟨rfl, ?_⟩
  · simp [results, Tryd.results32, go_sem]
  · exact B0.out

set_option maxRecDepth 100000 in
set_option maxHeartbeats 4000000 in
theorem specReadEntry_yes (s : ByteArray) (w : World) (h8 : s.size = 8) (h : EntryOk (entryOf s)) :
    Calls Tryd.prog 32 #[.string s] w (SaysEnt (entryOf s) true w) := by
  have R0 := Lib.hid (Bk.alloc w #[.int .i64 0, .string ⟨#[]⟩] 47)
  have B0 := Lib.hid (below_bk w (.cells #[.int .i64 0, .string ⟨#[]⟩] 47))
  have e8 : ((s.size : Int) == 8) = true := by simp; omega
  have e9 : ((s.size : Int) != 8) = false := by simp; omega
  have hs8 : s.size ≤ 8 := by omega
  have hs9 : 8 ≤ s.size := by omega
  have HB := Lib.hid (entry_back h8 h)
  have hE0 := endTo_bd s.data.toList 8
  have HEO : Hid (endOf s = endTo s.data.toList 8) := Lib.hid rfl
  have H8 := Lib.hid h8
  have HEN := Lib.hid (show entryOf s = ⟨((s.data.toList.getD 0 0).toNat : Int), s.extract 1 (endOf s)⟩ from rfl)
  clear h8 h hE0
  go_enter Tryd.func32, Tryd.ntmps32
  go_wp2
  go_loop [4] (fun ev => ∃ k : Nat, 1 ≤ k ∧ k ≤ 8 ∧ ev = .int .i64 k ∧ Hid (endTo s.data.toList k = endTo s.data.toList 8)) (fun ev => (intOf ev).toNat)
  case atStart => exact ⟨8, by omega, by omega, rfl, Lib.hid rfl⟩
  case round =>
    obtain ⟨k, hk1, hk8, rfl, HK⟩ := hrel
    obtain ⟨m, rfl⟩ : ∃ m, k = m + 1 := ⟨k - 1, by omega⟩
    have hml : m < s.size := by omega
    obtain ⟨b, hb⟩ : ∃ b, s[m]'hml = b := ⟨_, rfl⟩
    have hb255 := b.toNat_lt
    have hmi : ((m + 1 : Nat) : Int) - 1 = (m : Int) := by omega
    by_cases hgo : 0 < m ∧ b = 0
    · obtain ⟨hm0, hb0⟩ := hgo
      subst hb0
      have HK2 : Hid (endTo s.data.toList m = endTo s.data.toList 8) := Lib.hid (by
        obtain ⟨j, rfl⟩ : ∃ j, m = j + 1 := ⟨m - 1, by omega⟩
        rw [← HK.out, endTo_step _ j (by rw [byte_getD s (j + 1) hml]; exact hb)])
      clear HK
      go_wp2
      go_round
      case rel => exact ⟨m, by omega, by omega, rfl, HK2⟩
      case measure => (simp [intOf]; try omega)
    · have HX : Hid (endOf s = m + 1) := Lib.hid (by
        rw [HEO.out, ← HK.out]
        by_cases h1 : m = 0
        · subst h1; rfl
        · obtain ⟨j, rfl⟩ : ∃ j, m = j + 1 := ⟨m - 1, by omega⟩
          rw [endTo_stop _ j (by rw [byte_getD s (j + 1) hml, hb]; exact fun e => hgo ⟨by omega, e⟩)])
      have hcase : ¬ (1 < m + 1) ∨ (1 < m + 1 ∧ ((b.toNat : Int) == 0) = false ∧ ¬ b = 0) := by
        by_cases h1 : m = 0
        · left; omega
        · right
          have hbn : ¬ b = 0 := fun e => hgo ⟨by omega, e⟩
          have hbt : ¬ b.toNat = 0 := fun e => hbn (UInt8.toNat_inj.1 (by rw [e]; rfl))
          exact ⟨by omega, by simp; omega, hbn⟩
      have hs0 : 0 < s.size := by omega
      obtain ⟨P, hP⟩ : ∃ P : Int, ((s[0]'hs0).toNat : Int) = P := ⟨_, rfl⟩
      obtain ⟨M, hM⟩ : ∃ M, s.extract 1 (m + 1) = M := ⟨_, rfl⟩
      have hR : entryOf s = ⟨P, M⟩ := by rw [HEN.out, HX.out, hM, byte_getD s 0 hs0, hP]
      have hMs : M.size ≤ 8 := by rw [← hM, ByteArray.size_extract]; omega
      rw [hR] at HB
      have HRR := Lib.hid hR
      have HM8 := Lib.hid hMs
      have P0 : 0 ≤ P := by omega
      have P1 : P ≤ 255 := by have := (s[0]'hs0).toNat_lt; omega
      have l1 : (0 : Int) ≤ (m : Int) := by omega
      have l2 : (m : Int) + 1 ≤ (s.size : Int) := by omega
      have l3 : (1 : Int) ≤ (m : Int) + 1 := by omega
      have l4 : ((m : Int) + 1).toNat = m + 1 := by omega
      clear hR hMs HK HEO HEN H8 hgo HX
      rcases hcase with hc | ⟨hc, hc2, hc3⟩
      all_goals
        go_wp2
        go_region_held3 (fun w' => True) (exact trivial) (first | fail)
        all_goals
          go_wp2_with fail
          have hba := below_bk (w.alloc (.cells #[.int .i64 0, .string ⟨#[]⟩] 47)) (.cells #[.int .i64 P, .string M] 47)
          have R3 := Lib.hid (R0.out.later hba).drew
          have B3 : Hid (Below w.heap.size w ((w.alloc (.cells #[.int .i64 0, .string ⟨#[]⟩] 47)).alloc (.cells #[.int .i64 P, .string M] 47)).drew) := Lib.hid ((B0.out.trans (hba.mono B0.out.size)).drew)
          have X3 := Lib.hid (Bk.alloc (w.alloc (.cells #[.int .i64 0, .string ⟨#[]⟩] 47)) #[.int .i64 P, .string M] 47).drew
          have hsz : (w.alloc (.cells #[.int .i64 0, .string ⟨#[]⟩] 47)).heap.size = w.heap.size + 1 := by simp
          rw [hsz] at X3
          clear hba hsz
          refine (specEntryWord_any P M _ (by have := HM8.out; omega)).mono ?_
          rw [HB.out]
          rintro e w4 ⟨rfl, hb4⟩
          have R4 := Lib.hid (R3.out.later hb4)
          have X4 := Lib.hid (X3.out.later hb4)
          have B4 : Hid (Below w.heap.size w w4) := Lib.hid (B3.out.trans (hb4.mono B3.out.size))
          clear hb4 R3 X3 B3
          have x0 := X4.out.cell (j := 0) rfl
          have x1 := X4.out.cell (j := 1) rfl
          have r0 := R4.out.cell (j := 0) rfl
          have r1 := R4.out.cell (j := 1) rfl
          have f0 := R4.out.fr (o := 0)
          have f1 := R4.out.fr (o := 1)
          have qf := (R4.out.set 0 (.int .i64 P)).set 1 (.string M)
          have q0 := qf.cell (j := 0) (v := .int .i64 P) rfl
          have q1 := qf.cell (j := 1) (v := .string M) rfl
          clear qf
          go_wp2
          refine bodyPost_ret (v := .tuple #[.agg #[.int .i64 P, .string M], .bool true]) ?_ rfl ⟨by rw [HRR.out], ?_⟩
          · simp [results, Tryd.results32, go_sem, q0, q1]
          · exact (B4.out.setCell (Nat.le_refl _) _).setCell (Nat.le_refl _) _
set_option maxRecDepth 100000 in
set_option maxHeartbeats 4000000 in
theorem specReadEntry_no (s : ByteArray) (w : World) (h8 : s.size = 8) (h : ¬ EntryOk (entryOf s)) :
    Calls Tryd.prog 32 #[.string s] w (SaysEnt (⟨0, ⟨#[]⟩⟩) false w) := by
  have R0 := Lib.hid (Bk.alloc w #[.int .i64 0, .string ⟨#[]⟩] 47)
  have B0 := Lib.hid (below_bk w (.cells #[.int .i64 0, .string ⟨#[]⟩] 47))
  have e8 : ((s.size : Int) == 8) = true := by simp; omega
  have e9 : ((s.size : Int) != 8) = false := by simp; omega
  have hs8 : s.size ≤ 8 := by omega
  have hs9 : 8 ≤ s.size := by omega
  have HB := Lib.hid (entryWordB_no h)
  have n1 := text_full s (by omega)
  have n2 := text_full' s (by omega)
  have hE0 := endTo_bd s.data.toList 8
  have HEO : Hid (endOf s = endTo s.data.toList 8) := Lib.hid rfl
  have H8 := Lib.hid h8
  have HEN := Lib.hid (show entryOf s = ⟨((s.data.toList.getD 0 0).toNat : Int), s.extract 1 (endOf s)⟩ from rfl)
  clear h8 h hE0
  go_enter Tryd.func32, Tryd.ntmps32
  go_wp2
  go_loop [4] (fun ev => ∃ k : Nat, 1 ≤ k ∧ k ≤ 8 ∧ ev = .int .i64 k ∧ Hid (endTo s.data.toList k = endTo s.data.toList 8)) (fun ev => (intOf ev).toNat)
  case atStart => exact ⟨8, by omega, by omega, rfl, Lib.hid rfl⟩
  case round =>
    obtain ⟨k, hk1, hk8, rfl, HK⟩ := hrel
    obtain ⟨m, rfl⟩ : ∃ m, k = m + 1 := ⟨k - 1, by omega⟩
    have hml : m < s.size := by omega
    obtain ⟨b, hb⟩ : ∃ b, s[m]'hml = b := ⟨_, rfl⟩
    have hb255 := b.toNat_lt
    have hmi : ((m + 1 : Nat) : Int) - 1 = (m : Int) := by omega
    by_cases hgo : 0 < m ∧ b = 0
    · obtain ⟨hm0, hb0⟩ := hgo
      subst hb0
      have HK2 : Hid (endTo s.data.toList m = endTo s.data.toList 8) := Lib.hid (by
        obtain ⟨j, rfl⟩ : ∃ j, m = j + 1 := ⟨m - 1, by omega⟩
        rw [← HK.out, endTo_step _ j (by rw [byte_getD s (j + 1) hml]; exact hb)])
      clear HK
      go_wp2
      go_round
      case rel => exact ⟨m, by omega, by omega, rfl, HK2⟩
      case measure => (simp [intOf]; try omega)
    · have HX : Hid (endOf s = m + 1) := Lib.hid (by
        rw [HEO.out, ← HK.out]
        by_cases h1 : m = 0
        · subst h1; rfl
        · obtain ⟨j, rfl⟩ : ∃ j, m = j + 1 := ⟨m - 1, by omega⟩
          rw [endTo_stop _ j (by rw [byte_getD s (j + 1) hml, hb]; exact fun e => hgo ⟨by omega, e⟩)])
      have hcase : ¬ (1 < m + 1) ∨ (1 < m + 1 ∧ ((b.toNat : Int) == 0) = false ∧ ¬ b = 0) := by
        by_cases h1 : m = 0
        · left; omega
        · right
          have hbn : ¬ b = 0 := fun e => hgo ⟨by omega, e⟩
          have hbt : ¬ b.toNat = 0 := fun e => hbn (UInt8.toNat_inj.1 (by rw [e]; rfl))
          exact ⟨by omega, by simp; omega, hbn⟩
      have hs0 : 0 < s.size := by omega
      obtain ⟨P, hP⟩ : ∃ P : Int, ((s[0]'hs0).toNat : Int) = P := ⟨_, rfl⟩
      obtain ⟨M, hM⟩ : ∃ M, s.extract 1 (m + 1) = M := ⟨_, rfl⟩
      have hR : entryOf s = ⟨P, M⟩ := by rw [HEN.out, HX.out, hM, byte_getD s 0 hs0, hP]
      have hMs : M.size ≤ 8 := by rw [← hM, ByteArray.size_extract]; omega
      rw [hR] at HB
      have HRR := Lib.hid hR
      have HM8 := Lib.hid hMs
      have P0 : 0 ≤ P := by omega
      have P1 : P ≤ 255 := by have := (s[0]'hs0).toNat_lt; omega
      have l1 : (0 : Int) ≤ (m : Int) := by omega
      have l2 : (m : Int) + 1 ≤ (s.size : Int) := by omega
      have l3 : (1 : Int) ≤ (m : Int) + 1 := by omega
      have l4 : ((m : Int) + 1).toNat = m + 1 := by omega
      clear hR hMs HK HEO HEN H8 hgo HX
      rcases hcase with hc | ⟨hc, hc2, hc3⟩
      all_goals
        go_wp2
        go_region_held3 (fun w' => True) (exact trivial) (first | fail)
        all_goals
          go_wp2_with fail
          have hba := below_bk (w.alloc (.cells #[.int .i64 0, .string ⟨#[]⟩] 47)) (.cells #[.int .i64 P, .string M] 47)
          have R3 := Lib.hid (R0.out.later hba).drew
          have B3 : Hid (Below w.heap.size w ((w.alloc (.cells #[.int .i64 0, .string ⟨#[]⟩] 47)).alloc (.cells #[.int .i64 P, .string M] 47)).drew) := Lib.hid ((B0.out.trans (hba.mono B0.out.size)).drew)
          have X3 := Lib.hid (Bk.alloc (w.alloc (.cells #[.int .i64 0, .string ⟨#[]⟩] 47)) #[.int .i64 P, .string M] 47).drew
          have hsz : (w.alloc (.cells #[.int .i64 0, .string ⟨#[]⟩] 47)).heap.size = w.heap.size + 1 := by simp
          rw [hsz] at X3
          clear hba hsz
          refine (specEntryWord_any P M _ (by have := HM8.out; omega)).mono ?_
          rw [HB.out]
          rintro e w4 ⟨rfl, hb4⟩
          have R4 := Lib.hid (R3.out.later hb4)
          have X4 := Lib.hid (X3.out.later hb4)
          have B4 : Hid (Below w.heap.size w w4) := Lib.hid (B3.out.trans (hb4.mono B3.out.size))
          clear hb4 R3 X3 B3
          have x0 := X4.out.cell (j := 0) rfl
          have x1 := X4.out.cell (j := 1) rfl
          have r0 := R4.out.cell (j := 0) rfl
          have r1 := R4.out.cell (j := 1) rfl
          have f0 := R4.out.fr (o := 0)
          have f1 := R4.out.fr (o := 1)
          have qf := (R4.out.set 0 (.int .i64 0)).set 1 (.string ⟨#[]⟩)
          have q0 := qf.cell (j := 0) (v := .int .i64 0) rfl
          have q1 := qf.cell (j := 1) (v := .string ⟨#[]⟩) rfl
          clear qf
          go_wp2
          refine bodyPost_ret (v := .tuple #[.agg #[.int .i64 0, .string ⟨#[]⟩], .bool false]) ?_ rfl ⟨rfl, ?_⟩
          · simp [results, Tryd.results32, go_sem, q0, q1]
          · exact (B4.out.setCell (Nat.le_refl _) _).setCell (Nat.le_refl _) _
theorem specReadEntry_any (s : ByteArray) (w : World) (hs : s.size ≤ 2000000) :
    Calls Tryd.prog 32 #[.string s] w (SaysEnt (entryReadR s) (entryReadB s) w) := by
  by_cases h : s.size = 8 ∧ EntryOk (entryOf s)
  · rw [show entryReadR s = entryOf s from if_pos h, show entryReadB s = true from decide_eq_true h]
    exact specReadEntry_yes s w h.1 h.2
  · rw [show entryReadR s = ⟨0, ⟨#[]⟩⟩ from if_neg h, show entryReadB s = false from decide_eq_false h]
    by_cases h8 : s.size = 8
    · exact specReadEntry_no s w h8 (fun e => h ⟨h8, e⟩)
    · exact specReadEntry_len s w hs h8
end Go.Proofs.YtmkchilhnmkhkaaDoor
namespace Go.Proofs.YtmkchilhnmkhkaaDoor
open Go.RowKit Go.Proofs.YtmkchilhnmkhkaaDoor.Parts Go.Proofs.YtmkchilhnmkhkaaDoor.Hexa

set_option maxRecDepth 100000 in
set_option maxHeartbeats 1000000 in
theorem wordsEq_any (a1 a2 : Option Addr) (n m c1 c2 : Nat) (P Q : List ByteArray) (w : World) (hn : n ≤ 100000000) (r1 : SrcT w a1 n P) (r2 : SrcT w a2 m Q) (b : Bool) (hb : b = true ↔ P = Q) :
    Calls Tryd.prog 76 #[.slice a1 n c1, .slice a2 m c2] w fun e w' => e = .returned (.bool b) ∧ ∃ q, w' = w.drewN q := by
  have hP := r1.len
  have hQ := r2.len
  by_cases hnm : n = m
  · subst hnm
    have HG := Lib.hid hb
    have HP := Lib.hid hP
    have HQ := Lib.hid hQ
    have R1 := Lib.hid r1
    have R2 := Lib.hid r2
    clear r1 r2 hb hP hQ
    go_enter Tryd.func76, Tryd.ntmps76
    go_wp2
    go_loopw [5] (fun iv wr => ∃ k q : Nat, k ≤ n ∧ iv = .int .i64 k ∧ wr = w.drewN q ∧ Hid (∀ j, j < k → P.getD j default = Q.getD j default)) (fun iv _ => n - (intOf iv).toNat)
    case atStart => exact ⟨0, 0, Nat.zero_le _, rfl, rfl, Lib.hid (fun j hj => by omega)⟩
    case round =>
      obtain ⟨k, q, hk, rfl, rfl, HA⟩ := hrel
      by_cases hlt : k < n
      · obtain ⟨g1, o1, e1, _, d1⟩ := srcT_at R1.out k hlt
        obtain ⟨g2, o2, e2, _, d2⟩ := srcT_at R2.out k hlt
        obtain ⟨x, hx⟩ : ∃ x, P.getD k default = x := ⟨_, rfl⟩
        obtain ⟨y, hy⟩ : ∃ y, Q.getD k default = y := ⟨_, rfl⟩
        rw [hx] at d1
        rw [hy] at d2
        have HX := Lib.hid hx
        have HY := Lib.hid hy
        subst e1 e2
        clear hx hy
        by_cases hxy : x = y
        · subst hxy
          have HA2 : Hid (∀ j, j < k + 1 → P.getD j default = Q.getD j default) := Lib.hid (fun j hj => by
            by_cases e : j = k
            · subst e; rw [HX.out, HY.out]
            · exact HA.out j (by omega))
          go_wp2
          go_quiet (fail)
          go_wp2
          go_roundw
          case rel => exact ⟨k + 1, _, by omega, by go_num, rfl, HA2⟩
          case measure => (simp [intOf]; try omega)
        · have i1 := text_neB hxy
          have i2 : (x.toList != y.toList) = true := by simp only [bne, i1]; rfl
          have i3 := text_ne hxy
          have HE : Hid (b = false) := Lib.hid (by
            cases b
            · rfl
            · exact absurd (by rw [← HX.out, ← HY.out, HG.out.1 rfl]) hxy)
          clear hxy
          go_wp2
          go_quiet (fail)
          go_wp2
          go_ret
          exact ⟨by rw [HE.out]; rfl, _, by rw [World.drewN_drewN]⟩
      · obtain rfl : k = n := by omega
        have HE : Hid (b = true) := Lib.hid (HG.out.2 (texts_eq HP.out HQ.out HA.out))
        go_wp2
        go_ret
        exact ⟨by rw [HE.out]; rfl, _, rfl⟩
  · have e1 : ((n : Int) == (m : Int)) = false := by simp; omega
    have e2 : ((n : Int) != (m : Int)) = true := by simp only [bne, e1]; rfl
    have HE : Hid (b = false) := Lib.hid (by
      cases b
      · rfl
      · exact absurd (by rw [← hP, ← hQ, hb.1 rfl]) hnm)
    clear r1 r2 hP hQ hb
    go_enter Tryd.func76, Tryd.ntmps76
    go_wp2
    go_ret
    exact ⟨by rw [HE.out]; rfl, 0, rfl⟩
end Go.Proofs.YtmkchilhnmkhkaaDoor
namespace Go.Proofs.YtmkchilhnmkhkaaDoor
open Go.RowKit Go.Proofs.YtmkchilhnmkhkaaDoor.Parts Go.Proofs.YtmkchilhnmkhkaaDoor.Hexa Go.Proofs.YtmkchilhnmkhkaaDoor.Byt

def GivesIno (r : InoR) (b : Bool) (w : World) (e : Ending) (w' : World) : Prop :=
  ∃ aR cR aE cE, e = .returned (.tuple #[.agg #[.int .i64 r.kd, .int .i64 r.sz, .int .i64 r.gn, .string r.key, .slice aR r.R.length cR, .slice aE r.E.length cE], .bool b])
    ∧ w'.ownsRow w.heap.size 66 3 (.slice aR r.R.length cR) r.R.length (cellsE encRec r.R) ∧ w'.ownsRow w.heap.size 47 2 (.slice aE r.E.length cE) r.E.length (cellsE encEntry r.E)
    ∧ (aR = none ∨ aE = none) ∧ Below w.heap.size w w'
theorem read_badSize {L : List ByteArray} {k : Nat} (hk : k < L.length) (hb : ¬ (L.getD k default).size = 8) : ¬ ReadOk L := fun h => by
  have h1 : L.getD k default ∈ L := by simp [List.getD, hk]
  rw [← h.2] at h1
  exact hb (by rw [← h.2]; exact inoWords_sizes h1)

section
variable (a : Option Addr) (n c : Nat) (L : List ByteArray) (w : World)
theorem gives_zero {w' : World} (hb : Below w.heap.size w w') (hL : ¬ ReadOk L) {e : Ending} (he : e = .returned (.tuple #[.agg #[.int .i64 0, .int .i64 0, .int .i64 0, .string ⟨#[]⟩, .slice none 0 0, .slice none 0 0], .bool false])) : GivesIno (readInoR L) (readInoB L) w e w' := by
  rw [readInoR_no hL, readInoB_no hL]
  exact ⟨none, 0, none, 0, he, ⟨rfl, .inl ⟨rfl, rfl⟩⟩, ⟨rfl, .inl ⟨rfl, rfl⟩⟩, .inl rfl, hb⟩

set_option maxRecDepth 100000 in
set_option maxHeartbeats 1000000 in
theorem specReadIno_len (hs : SrcT w a n L) (h : ¬ n = 8) : Calls Tryd.prog 36 #[.slice a n c] w (GivesIno (readInoR L) (readInoB L) w) := by
  have hlen : L.length = n := hs.len
  have HL : Hid (¬ ReadOk L) := Lib.hid (fun x => h (by rw [← hlen]; exact x.1))
  have B0 := Lib.hid (below_bk w (inoObj 0 0 0 ⟨#[]⟩ none 0 0 none 0 0))
  have e8 : ((n : Int) == 8) = false := by simp; omega
  have e9 : ((n : Int) != 8) = true := by simp only [bne, e8]; rfl
  clear hs hlen
  go_enter Tryd.func36, Tryd.ntmps36
  go_wp2
  refine bodyPost_ret (v := .tuple #[.agg #[.int .i64 0, .int .i64 0, .int .i64 0, .string ⟨#[]⟩, .slice none 0 0, .slice none 0 0], .bool false]) ?_ rfl (gives_zero L w B0.out HL.out rfl)
  simp [results, Tryd.results36, go_sem]

set_option maxRecDepth 100000 in
set_option maxHeartbeats 1000000 in
theorem specReadIno_size (hs : SrcT w a n L) (h8 : n = 8) (hm : ∀ j, j < n → (L.getD j default).size ≤ 2000000) (h : ¬ ∀ j, j < 8 → (L.getD j default).size = 8) : Calls Tryd.prog 36 #[.slice a n c] w (GivesIno (readInoR L) (readInoB L) w) := by
  subst h8
  have HLn : Hid (L.length = 8) := Lib.hid hs.len
  have HS := Lib.hid hs
  have HM := Lib.hid hm
  have HN := Lib.hid h
  have B0 := Lib.hid (below_bk w (inoObj 0 0 0 ⟨#[]⟩ none 0 0 none 0 0))
  clear hs hm h
  go_enter Tryd.func36, Tryd.ntmps36
  go_wp2
  go_loop [4] (fun iv => ∃ k : Nat, k ≤ 8 ∧ iv = .int .i64 k ∧ Hid (∀ j, j < k → (L.getD j default).size = 8)) (fun iv => 8 - (intOf iv).toNat)
  case atStart => exact ⟨0, Nat.zero_le _, rfl, Lib.hid (fun j hj => by omega)⟩
  case round =>
    obtain ⟨k, hk, rfl, HA⟩ := hrel
    by_cases hlt : k < 8
    · obtain ⟨g, off, ha, hg, d0⟩ := srcT_later HS.out B0.out (Nat.le_refl _) k hlt
      obtain ⟨x, hx⟩ : ∃ x, L.getD k default = x := ⟨_, rfl⟩
      have hm := HM.out k hlt
      rw [hx] at d0 hm
      have HX := Lib.hid hx
      subst ha
      clear hx
      by_cases i1 : x.size = 8
      · have HA2 : Hid (∀ j, j < k + 1 → (L.getD j default).size = 8) := Lib.hid (fun j hj => by
          by_cases e : j = k
          · subst e; rw [HX.out]; exact i1
          · exact HA.out j (by omega))
        have e9 : ((x.size : Int) != 8) = false := by simp; omega
        go_wp2
        go_round
        case rel => exact ⟨k + 1, by omega, by go_num, HA2⟩
        case measure => (simp [intOf]; try omega)
      · have HL : Hid (¬ ReadOk L) := Lib.hid (read_badSize (k := k) (by rw [HLn.out]; exact hlt) (by rw [HX.out]; exact i1))
        have e8 : ((x.size : Int) == 8) = false := by simp; omega
        have e9 : ((x.size : Int) != 8) = true := by simp only [bne, e8]; rfl
        go_wp2
        refine bodyPost_ret (v := .tuple #[.agg #[.int .i64 0, .int .i64 0, .int .i64 0, .string ⟨#[]⟩, .slice none 0 0, .slice none 0 0], .bool false]) ?_ rfl (gives_zero L w B0.out HL.out rfl)
        simp [results, Tryd.results36, go_sem]
    · exact absurd (fun j hj => HA.out j (by omega)) HN.out
end
end Go.Proofs.YtmkchilhnmkhkaaDoor
namespace Go.Proofs.YtmkchilhnmkhkaaDoor
open Go.RowKit Go.Proofs.YtmkchilhnmkhkaaDoor.Parts Go.Proofs.YtmkchilhnmkhkaaDoor.Hexa Go.Proofs.YtmkchilhnmkhkaaDoor.Byt

theorem stop_words (h k : ByteArray) (M : List ByteArray) (j : Nat) (hj : M.length + j = 6) (hz : ∀ x ∈ M, x ≠ zero8) :
    stopOf ([h, k] ++ M ++ List.replicate j zero8) = 2 + M.length ∧ midTo ([h, k] ++ M ++ List.replicate j zero8) (2 + M.length) = M := by
  refine ⟨stop_at (by omega) (by omega) (fun i h1 h2 => ?_) ?_, ?_⟩
  · have hm : i - 2 < M.length := by omega
    have e : ([h, k] ++ M ++ List.replicate j zero8).getD i default = M[i - 2] := by
      simp only [List.getD]
      rw [List.getElem?_append_left (by simp; omega), List.getElem?_append_right (by simp; omega)]
      simp [hm]
    rw [e]
    exact hz _ (List.getElem_mem hm)
  · by_cases e : j = 0
    · left; omega
    · right
      simp only [List.getD]
      rw [List.getElem?_append_right (by simp; omega), List.getElem?_replicate, if_pos (by simp; omega)]
      rfl
  · unfold midTo
    rw [List.take_append_of_le_length (by simp; omega), List.take_of_length_le (by simp; omega)]
    rfl
theorem recZero : ¬ RecOk (recOf zero8) := by decide +kernel
theorem entZero : ¬ EntryOk (entryOf zero8) := by decide +kernel
theorem head_list {n : InoR} (h0 : 0 ≤ n.kd ∧ n.kd ≤ 2) (h1 : 0 ≤ n.sz ∧ n.sz ≤ 65535) (h2 : 0 ≤ n.gn ∧ n.gn ≤ 65535) :
    (((headB n).data.toList.getD 0 0).toNat : Int) = n.kd ∧ numAtV (headB n) 1 2 = n.sz ∧ numAtV (headB n) 3 2 = n.gn := by
  obtain ⟨b, hb⟩ : ∃ b : UInt8, (b.toNat : Int) = n.kd := ⟨UInt8.ofNat n.kd.toNat, by rw [UInt8.toNat_ofNat']; omega⟩
  have e1 : (numTextB n.kd 1).data.toList = [b] := by rw [← hb]; exact one_byte b (by omega)
  have s1 : (numTextB n.kd 1).size = 1 := numText_size (k := 1) (by omega) (by omega) (by omega)
  have s2 : (numTextB n.sz 2).size = 2 := numText_size (k := 2) (by omega) (by omega) (by omega)
  have s3 : (numTextB n.gn 2).size = 2 := numText_size (k := 2) (by omega) (by omega) (by omega)
  have l2 := list_of_size s2
  have l3 := list_of_size s3
  have hl : (headB n).data.toList = [b] ++ (numTextB n.sz 2).data.toList ++ (numTextB n.gn 2).data.toList ++ List.replicate 3 0 := by
    have e2 : (numTextB n.kd 1 ++ numTextB n.sz 2 ++ numTextB n.gn 2).size = 5 := by rw [ByteArray.size_append, ByteArray.size_append, s1, s2, s3]
    unfold headB wordB
    rw [if_pos (by omega), e2, ByteArray.data_append, ByteArray.data_append, ByteArray.data_append, Array.toList_append, Array.toList_append, Array.toList_append, e1]
    rfl
  have h8 : (headB n).size = 8 := by
    have : (headB n).data.toList.length = 8 := by rw [hl]; simp [l2, l3]
    simpa using this
  refine ⟨by rw [hl, ← hb]; rfl, numAt_fore _ 1 2 n.sz (by omega) (by omega) h1.1 (by omega) ?_, numAt_fore _ 3 2 n.gn (by omega) (by omega) h2.1 (by omega) ?_⟩
  · unfold cutL
    rw [hl, List.append_assoc ([b] ++ _)]
    exact cut_next _ _ _ 1 2 rfl l2
  · unfold cutL
    rw [hl]
    exact cut_next _ _ _ 3 2 (by simp [l2]) l3
theorem map_id_of {α : Type} [Inhabited α] (f : α → α) (L : List α) (h : ∀ j, j < L.length → f (L.getD j default) = L.getD j default) : L.map f = L := by
  apply List.ext_getElem (by simp)
  intro i h1 h2
  have h9 := h i h2
  simpa [List.getD, h2] using h9
theorem inoOf_words {n : InoR} (h : InoOk n) : inoOf (inoWordsB n) = n := by
  have hle := wordsI_le h
  have hlen : (wordsI n).length = 2 + (n.R.map recWordB ++ n.E.map entryWordB).length := by unfold wordsI; simp; omega
  have hL : inoWordsB n = [headB n, wordB n.key] ++ (n.R.map recWordB ++ n.E.map entryWordB) ++ List.replicate (8 - (wordsI n).length) zero8 := by
    rw [inoWords_yes h]; unfold fillTo wordsI; rw [List.append_assoc [headB n, wordB n.key]]
  have hM : ∀ x ∈ n.R.map recWordB ++ n.E.map entryWordB, x ≠ zero8 := by
    intro x hx
    rw [List.mem_append, List.mem_map, List.mem_map] at hx
    rcases hx with ⟨r, hr, rfl⟩ | ⟨r, hr, rfl⟩
    · obtain ⟨j, hj, rfl⟩ := getD_mem_i _ hr
      rcases h with ⟨_, ⟨_, h⟩ | ⟨_, h⟩ | ⟨_, h⟩⟩
      · have := h.2.2.1; omega
      · have hr := (h.2.2.2.2 j hj).1
        intro e
        have := rec_fore hr
        rw [e] at this
        exact recZero (by rw [this]; exact hr)
      · have := h.2.2.1; omega
    · obtain ⟨j, hj, rfl⟩ := getD_mem_i _ hr
      rcases h with ⟨_, ⟨_, h⟩ | ⟨_, h⟩ | ⟨_, h⟩⟩
      · have := h.2.2.2; omega
      · have := h.2.2.2.1; omega
      · have hr := (h.2.2.2.2 j hj).1
        intro e
        have := ent_fore hr
        rw [e] at this
        exact entZero (by rw [this]; exact hr)
  obtain ⟨hst, hmid⟩ := stop_words (headB n) (wordB n.key) _ (8 - (wordsI n).length) (by omega) hM
  have hk : 0 ≤ n.kd ∧ n.kd ≤ 2 := by rcases h with ⟨_, ⟨e, _⟩ | ⟨e, _⟩ | ⟨e, _⟩⟩ <;> omega
  have hz : 0 ≤ n.sz ∧ n.sz ≤ 65535 := by
    rcases h with ⟨_, ⟨_, h⟩ | ⟨_, h⟩ | ⟨_, h⟩⟩
    · have := h.1; omega
    · have := h.1; omega
    · have := h.1; omega
  obtain ⟨k1, k2, k3⟩ := head_list hk hz h.1
  unfold inoOf inoTo kindOf
  rw [hL, hst, hmid]
  show (⟨(((headB n).data.toList.getD 0 0).toNat : Int), numAtV (headB n) 1 2, numAtV (headB n) 3 2, if (((headB n).data.toList.getD 0 0).toNat : Int) = 1 then wordB n.key else ⟨#[]⟩, if (((headB n).data.toList.getD 0 0).toNat : Int) = 1 then _ else [], if (((headB n).data.toList.getD 0 0).toNat : Int) = 2 then _ else []⟩ : InoR) = n
  rw [k1, k2, k3]
  obtain ⟨kd, sz, gn, key, R, E⟩ := n
  rcases h with ⟨_, ⟨e, h⟩ | ⟨e, h⟩ | ⟨e, h⟩⟩
  · obtain rfl : kd = 0 := e
    obtain ⟨_, g2, g3, g4⟩ := h
    obtain rfl : key = ⟨#[]⟩ := text_nothing g2
    obtain rfl : R = [] := List.length_eq_zero_iff.1 g3
    obtain rfl : E = [] := List.length_eq_zero_iff.1 g4
    rfl
  · obtain rfl : kd = 1 := e
    obtain ⟨_, g2, _, g4, g5⟩ := h
    obtain rfl : E = [] := List.length_eq_zero_iff.1 g4
    have hkey : wordB key = key := by
      have g2 : key.size = 8 := g2
      unfold wordB
      rw [if_pos (by omega), g2]
      exact ByteArray.append_empty
    have hR : (R.map recWordB).map recOf = R := by
      rw [List.map_map]
      exact map_id_of _ R (fun j hj => rec_fore (g5 j hj).1)
    simp [hkey, hR]
  · obtain rfl : kd = 2 := e
    obtain ⟨_, g2, g3, _, g5⟩ := h
    obtain rfl : key = ⟨#[]⟩ := text_nothing g2
    obtain rfl : R = [] := List.length_eq_zero_iff.1 g3
    have hE : (E.map entryWordB).map entryOf = E := by
      rw [List.map_map]
      exact map_id_of _ E (fun j hj => ent_fore (g5 j hj).1)
    simp
    exact map_id_of _ E (fun j hj => ent_fore (g5 j hj).1)
end Go.Proofs.YtmkchilhnmkhkaaDoor
