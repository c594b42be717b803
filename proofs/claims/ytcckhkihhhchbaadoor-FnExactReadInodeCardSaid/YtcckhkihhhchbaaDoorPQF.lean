/- Merged texts: InoFore2, HeadMath, GotMath, RangeImpl, Made, NumImpl, NumImplB, RecImpl, ReadImpl, Clone. -/
import Derived.Test.YtcckhkihhhchbaaDoorPQE
import Derived.Test.YtcckhkihhhchbaaDoorRows
import Derived.WalkKit
import Derived.WalkSpells
import Derived.RowKit3
import Derived.Lib.Hide
import Derived.Laws.MakeOwn
import Derived.Lib.AppendStr
import Derived.WalkLawsBesides
import Derived.Deep.RegionLaw
import Derived.Test.YtcckhkihhhchbaaDoorShelf
namespace Go.Proofs.YtcckhkihhhchbaaDoor
open Go.RowKit Go.Proofs.YtcckhkihhhchbaaDoor.Parts Go.Proofs.YtcckhkihhhchbaaDoor.Hexa Go.Proofs.YtcckhkihhhchbaaDoor.Byt

theorem stop_words (h k : ByteArray) (M : List ByteArray) (j : Nat) (hj : M.length + j = 6) (hz : ∀ x ∈ M, x ≠ zero8) :
    stopOf ([h, k] ++ M ++ List.replicate j zero8) = 2 + M.length ∧ midTo ([h, k] ++ M ++ List.replicate j zero8) (2 + M.length) = M := by
  refine ⟨stop_at (by omega) (by omega) (fun i h1 h2 => ?_) ?_, ?_⟩
  · have hm : i - 2 < M.length := by omega
    have e : ([h, k] ++ M ++ List.replicate j zero8).getD i default = M[i - 2] := by
      simp only [List.getD]
      rw [List.getElem?_append_left (by simp; omega), List.getElem?_append_right (by simp; omega)]
      simp [hm]
    rw [e]
    exact hz _ (List.getElem_mem hm)
  · by_cases e : j = 0
    · left; omega
    · right
      simp only [List.getD]
      rw [List.getElem?_append_right (by simp; omega), List.getElem?_replicate, if_pos (by simp; omega)]
      rfl
  · unfold midTo
    rw [List.take_append_of_le_length (by simp; omega), List.take_of_length_le (by simp; omega)]
    rfl
theorem recZero : ¬ RecOk (recOf zero8) := by decide +kernel
theorem entZero : ¬ EntryOk (entryOf zero8) := by decide +kernel
theorem head_list {n : InoR} (h0 : 0 ≤ n.kd ∧ n.kd ≤ 2) (h1 : 0 ≤ n.sz ∧ n.sz ≤ 65535) (h2 : 0 ≤ n.gn ∧ n.gn ≤ 65535) :
    (((headB n).data.toList.getD 0 0).toNat : Int) = n.kd ∧ numAtV (headB n) 1 2 = n.sz ∧ numAtV (headB n) 3 2 = n.gn := by
  obtain ⟨b, hb⟩ : ∃ b : UInt8, (b.toNat : Int) = n.kd := ⟨UInt8.ofNat n.kd.toNat, by rw [UInt8.toNat_ofNat']; omega⟩
  have e1 : (numTextB n.kd 1).data.toList = [b] := by rw [← hb]; exact one_byte b (by omega)
  have s1 : (numTextB n.kd 1).size = 1 := numText_size (k := 1) (by omega) (by omega) (by omega)
  have s2 : (numTextB n.sz 2).size = 2 := numText_size (k := 2) (by omega) (by omega) (by omega)
  have s3 : (numTextB n.gn 2).size = 2 := numText_size (k := 2) (by omega) (by omega) (by omega)
  have l2 := list_of_size s2
  have l3 := list_of_size s3
  have hl : (headB n).data.toList = [b] ++ (numTextB n.sz 2).data.toList ++ (numTextB n.gn 2).data.toList ++ List.replicate 3 0 := by
    have e2 : (numTextB n.kd 1 ++ numTextB n.sz 2 ++ numTextB n.gn 2).size = 5 := by rw [ByteArray.size_append, ByteArray.size_append, s1, s2, s3]
    unfold headB wordB
    rw [if_pos (by omega), e2, ByteArray.data_append, ByteArray.data_append, ByteArray.data_append, Array.toList_append, Array.toList_append, Array.toList_append, e1]
    rfl
  have h8 : (headB n).size = 8 := by
    have : (headB n).data.toList.length = 8 := by rw [hl]; simp [l2, l3]
    simpa using this
  refine ⟨by rw [hl, ← hb]; rfl, numAt_fore _ 1 2 n.sz (by omega) (by omega) h1.1 (by omega) ?_, numAt_fore _ 3 2 n.gn (by omega) (by omega) h2.1 (by omega) ?_⟩
  · unfold cutL
    rw [hl, List.append_assoc ([b] ++ _)]
    exact cut_next _ _ _ 1 2 rfl l2
  · unfold cutL
    rw [hl]
    exact cut_next _ _ _ 3 2 (by simp [l2]) l3
theorem map_id_of {α : Type} [Inhabited α] (f : α → α) (L : List α) (h : ∀ j, j < L.length → f (L.getD j default) = L.getD j default) : L.map f = L := by
  apply List.ext_getElem (by simp)
  intro i h1 h2
  have h9 := h i h2
  simpa [List.getD, h2] using h9
theorem inoOf_words {n : InoR} (h : InoOk n) : inoOf (inoWordsB n) = n := by
  have hle := wordsI_le h
  have hlen : (wordsI n).length = 2 + (n.R.map recWordB ++ n.E.map entryWordB).length := by unfold wordsI; simp; omega
  have hL : inoWordsB n = [headB n, wordB n.key] ++ (n.R.map recWordB ++ n.E.map entryWordB) ++ List.replicate (8 - (wordsI n).length) zero8 := by
    rw [inoWords_yes h]; unfold fillTo wordsI; rw [List.append_assoc [headB n, wordB n.key]]
  have hM : ∀ x ∈ n.R.map recWordB ++ n.E.map entryWordB, x ≠ zero8 := by
    intro x hx
    rw [List.mem_append, List.mem_map, List.mem_map] at hx
    rcases hx with ⟨r, hr, rfl⟩ | ⟨r, hr, rfl⟩
    · obtain ⟨j, hj, rfl⟩ := getD_mem _ hr
      rcases h with ⟨_, ⟨_, h⟩ | ⟨_, h⟩ | ⟨_, h⟩⟩
      · have := h.2.2.1; omega
      · have hr := (h.2.2.2.2 j hj).1
        intro e
        have := rec_fore hr
        rw [e] at this
        exact recZero (by rw [this]; exact hr)
      · have := h.2.2.1; omega
    · obtain ⟨j, hj, rfl⟩ := getD_mem _ hr
      rcases h with ⟨_, ⟨_, h⟩ | ⟨_, h⟩ | ⟨_, h⟩⟩
      · have := h.2.2.2; omega
      · have := h.2.2.2.1; omega
      · have hr := (h.2.2.2.2 j hj).1
        intro e
        have := ent_fore hr
        rw [e] at this
        exact entZero (by rw [this]; exact hr)
  obtain ⟨hst, hmid⟩ := stop_words (headB n) (wordB n.key) _ (8 - (wordsI n).length) (by omega) hM
  have hk : 0 ≤ n.kd ∧ n.kd ≤ 2 := by rcases h with ⟨_, ⟨e, _⟩ | ⟨e, _⟩ | ⟨e, _⟩⟩ <;> omega
  have hz : 0 ≤ n.sz ∧ n.sz ≤ 65535 := by
    rcases h with ⟨_, ⟨_, h⟩ | ⟨_, h⟩ | ⟨_, h⟩⟩
    · have := h.1; omega
    · have := h.1; omega
    · have := h.1; omega
  obtain ⟨k1, k2, k3⟩ := head_list hk hz h.1
  unfold inoOf inoTo kindOf
  rw [hL, hst, hmid]
  show (⟨(((headB n).data.toList.getD 0 0).toNat : Int), numAtV (headB n) 1 2, numAtV (headB n) 3 2, if (((headB n).data.toList.getD 0 0).toNat : Int) = 1 then wordB n.key else ⟨#[]⟩, if (((headB n).data.toList.getD 0 0).toNat : Int) = 1 then _ else [], if (((headB n).data.toList.getD 0 0).toNat : Int) = 2 then _ else []⟩ : InoR) = n
  rw [k1, k2, k3]
  obtain ⟨kd, sz, gn, key, R, E⟩ := n
  rcases h with ⟨_, ⟨e, h⟩ | ⟨e, h⟩ | ⟨e, h⟩⟩
  · obtain rfl : kd = 0 := e
    obtain ⟨_, g2, g3, g4⟩ := h
    obtain rfl : key = ⟨#[]⟩ := text_nothing g2
    obtain rfl : R = [] := List.length_eq_zero_iff.1 g3
    obtain rfl : E = [] := List.length_eq_zero_iff.1 g4
    rfl
  · obtain rfl : kd = 1 := e
    obtain ⟨_, g2, _, g4, g5⟩ := h
    obtain rfl : E = [] := List.length_eq_zero_iff.1 g4
    have hkey : wordB key = key := by
      have g2 : key.size = 8 := g2
      unfold wordB
      rw [if_pos (by omega), g2]
      exact ByteArray.append_empty
    have hR : (R.map recWordB).map recOf = R := by
      rw [List.map_map]
      exact map_id_of _ R (fun j hj => rec_fore (g5 j hj).1)
    simp [hkey, hR]
  · obtain rfl : kd = 2 := e
    obtain ⟨_, g2, g3, _, g5⟩ := h
    obtain rfl : key = ⟨#[]⟩ := text_nothing g2
    obtain rfl : R = [] := List.length_eq_zero_iff.1 g3
    have hE : (E.map entryWordB).map entryOf = E := by
      rw [List.map_map]
      exact map_id_of _ E (fun j hj => ent_fore (g5 j hj).1)
    simp
    exact map_id_of _ E (fun j hj => ent_fore (g5 j hj).1)
end Go.Proofs.YtcckhkihhhchbaaDoor
namespace Go.Proofs.YtcckhkihhhchbaaDoor
open Go.RowKit Go.Proofs.YtcckhkihhhchbaaDoor.Parts Go.Proofs.YtcckhkihhhchbaaDoor.Hexa Go.Proofs.YtcckhkihhhchbaaDoor.Byt

theorem entry_head {s : ByteArray} (h : 1 ≤ s.size) : numAtV s 0 1 = ((s.data.toList.getD 0 0).toNat : Int) := by
  have hb := (s.data.toList.getD 0 0).toNat_lt
  refine numAt_fore s 0 1 _ (by omega) (by omega) (by omega) (by omega) ?_
  rw [show ((1 : Nat) : Int) = 1 from rfl, one_byte _ (by omega)]
  unfold cutL
  have hl : 1 ≤ s.data.toList.length := by simpa using h
  match s.data.toList, hl with
  | x :: r, _ => rfl
end Go.Proofs.YtcckhkihhhchbaaDoor
namespace Go.Proofs.YtcckhkihhhchbaaDoor
open Go.RowKit Go.Proofs.YtcckhkihhhchbaaDoor.Parts Go.Proofs.YtcckhkihhhchbaaDoor.Hexa Go.Proofs.YtcckhkihhhchbaaDoor.Byt

def leadRecs (L : List ByteArray) : List RecR := (L.takeWhile recReadB).map recReadR
def leadEnts (L : List ByteArray) : List EntryR := (L.takeWhile entryReadB).map entryReadR
def gotKind (L : List ByteArray) : Int := numAtV (L.getD 0 default) 0 1
def inoGot (L : List ByteArray) : InoR :=
  ⟨gotKind L, numAtV (L.getD 0 default) 1 2, numAtV (L.getD 0 default) 3 2, if gotKind L = 1 then L.getD 1 default else ⟨#[]⟩, if gotKind L = 1 then leadRecs (L.drop 2) else [], if gotKind L = 2 then leadEnts (L.drop 2) else []⟩
theorem recRead_word {r : RecR} (h : RecOk r) : recReadB (recWordB r) = true ∧ recReadR (recWordB r) = r := by
  have h8 := recWord_size h
  have hf := rec_fore h
  have h9 : (recWordB r).size = 8 ∧ RecOk (recOf (recWordB r)) := ⟨h8, by rw [hf]; exact h⟩
  exact ⟨decide_eq_true h9, by unfold recReadR; rw [if_pos h9, hf]⟩
theorem entRead_word {r : EntryR} (h : EntryOk r) : entryReadB (entryWordB r) = true ∧ entryReadR (entryWordB r) = r := by
  have h8 := entryWord_size h
  have hf := ent_fore h
  have h9 : (entryWordB r).size = 8 ∧ EntryOk (entryOf (entryWordB r)) := ⟨h8, by rw [hf]; exact h⟩
  exact ⟨decide_eq_true h9, by unfold entryReadR; rw [if_pos h9, hf]⟩
theorem recRead_zero : recReadB zero8 = false := decide_eq_false (fun h => recZero h.2)
theorem entRead_zero : entryReadB zero8 = false := decide_eq_false (fun h => entZero h.2)
theorem lead_recs (j : Nat) : ∀ R : List RecR, (∀ r ∈ R, RecOk r) → leadRecs (R.map recWordB ++ List.replicate j zero8) = R
  | [], _ => by
    unfold leadRecs
    cases j with
    | zero => rfl
    | succ j => rw [List.map_nil, List.nil_append, List.replicate_succ, List.takeWhile_cons_of_neg (by rw [recRead_zero]; decide)]; rfl
  | r :: R, h => by
    have ih := lead_recs j R (fun x hx => h x (List.mem_cons_of_mem _ hx))
    obtain ⟨h1, h2⟩ := recRead_word (h r List.mem_cons_self)
    unfold leadRecs at ih ⊢
    rw [List.map_cons, List.cons_append, List.takeWhile_cons_of_pos h1, List.map_cons, h2, ih]
theorem lead_ents (j : Nat) : ∀ E : List EntryR, (∀ r ∈ E, EntryOk r) → leadEnts (E.map entryWordB ++ List.replicate j zero8) = E
  | [], _ => by
    unfold leadEnts
    cases j with
    | zero => rfl
    | succ j => rw [List.map_nil, List.nil_append, List.replicate_succ, List.takeWhile_cons_of_neg (by rw [entRead_zero]; decide)]; rfl
  | r :: E, h => by
    have ih := lead_ents j E (fun x hx => h x (List.mem_cons_of_mem _ hx))
    obtain ⟨h1, h2⟩ := entRead_word (h r List.mem_cons_self)
    unfold leadEnts at ih ⊢
    rw [List.map_cons, List.cons_append, List.takeWhile_cons_of_pos h1, List.map_cons, h2, ih]
theorem all_of_at {α : Type} [Inhabited α] {L : List α} {p : α → Prop} (h : ∀ j, j < L.length → p (L.getD j default)) : ∀ x ∈ L, p x := fun x hx => by
  obtain ⟨j, hj, rfl⟩ := getD_mem L hx
  exact h j hj
theorem got_words {n : InoR} (h : InoOk n) : inoGot (inoWordsB n) = n := by
  have hL : inoWordsB n = [headB n, wordB n.key] ++ (n.R.map recWordB ++ n.E.map entryWordB ++ List.replicate (8 - (wordsI n).length) zero8) := by
    rw [inoWords_yes h]; unfold fillTo wordsI; simp
  have hk : 0 ≤ n.kd ∧ n.kd ≤ 2 := by rcases h with ⟨_, ⟨e, _⟩ | ⟨e, _⟩ | ⟨e, _⟩⟩ <;> omega
  have hz : 0 ≤ n.sz ∧ n.sz ≤ 65535 := by
    rcases h with ⟨_, ⟨_, h⟩ | ⟨_, h⟩ | ⟨_, h⟩⟩
    · have := h.1; omega
    · have := h.1; omega
    · have := h.1; omega
  obtain ⟨k1, k2, k3⟩ := head_list hk hz h.1
  have h8 := headB_size h
  have hkd : numAtV (headB n) 0 1 = n.kd := by rw [entry_head (by omega)]; exact k1
  obtain ⟨j, hj⟩ : ∃ j, 8 - (wordsI n).length = j := ⟨_, rfl⟩
  rw [hj] at hL
  rw [hL]
  unfold inoGot gotKind
  show (⟨numAtV (headB n) 0 1, numAtV (headB n) 1 2, numAtV (headB n) 3 2, if numAtV (headB n) 0 1 = 1 then wordB n.key else ⟨#[]⟩, if numAtV (headB n) 0 1 = 1 then leadRecs (n.R.map recWordB ++ n.E.map entryWordB ++ List.replicate j zero8) else [], if numAtV (headB n) 0 1 = 2 then leadEnts (n.R.map recWordB ++ n.E.map entryWordB ++ List.replicate j zero8) else []⟩ : InoR) = n
  rw [hkd, k2, k3]
  obtain ⟨kd, sz, gn, key, R, E⟩ := n
  rcases h with ⟨_, ⟨e, h⟩ | ⟨e, h⟩ | ⟨e, h⟩⟩
  · obtain rfl : kd = 0 := e
    obtain ⟨_, g2, g3, g4⟩ := h
    obtain rfl : key = ⟨#[]⟩ := text_nothing g2
    obtain rfl : R = [] := List.length_eq_zero_iff.1 g3
    obtain rfl : E = [] := List.length_eq_zero_iff.1 g4
    rfl
  · obtain rfl : kd = 1 := e
    obtain ⟨_, g2, _, g4, g5⟩ := h
    obtain rfl : E = [] := List.length_eq_zero_iff.1 g4
    have hkey : wordB key = key := by
      have g2 : key.size = 8 := g2
      unfold wordB
      rw [if_pos (by omega), g2]
      exact ByteArray.append_empty
    have hR := lead_recs j R (all_of_at (fun i hi => (g5 i hi).1))
    simp [hkey, hR]
  · obtain rfl : kd = 2 := e
    obtain ⟨_, g2, g3, _, g5⟩ := h
    obtain rfl : key = ⟨#[]⟩ := text_nothing g2
    obtain rfl : R = [] := List.length_eq_zero_iff.1 g3
    have hE := lead_ents j E (all_of_at (fun i hi => (g5 i hi).1))
    simp [hE]
theorem got_ok {L : List ByteArray} (h8 : L.length = 8) (h : inoWordsB (inoGot L) = L) : InoOk (inoGot L) := by
  by_cases h9 : InoOk (inoGot L)
  · exact h9
  · rw [inoWords_no h9] at h
    rw [← h] at h8
    exact absurd h8 (by decide)
theorem got_iff {L : List ByteArray} (h8 : L.length = 8) : readInoB L = true ↔ inoWordsB (inoGot L) = L := by
  rw [readInoB_iff h8]
  constructor
  · intro h
    have hk := readOk_ok ⟨h8, h⟩
    have e : inoGot L = inoOf L := by
      have := got_words hk
      rw [h] at this
      exact this
    rw [e, h]
  · intro h
    have hk := got_ok h8 h
    have e : inoOf L = inoGot L := by
      have := inoOf_words hk
      rw [h] at this
      exact this
    rw [e, h]
theorem got_eq {L : List ByteArray} (h8 : L.length = 8) (h : readInoB L = true) : readInoR L = inoGot L := by
  have h1 := (got_iff h8).1 h
  have hk := got_ok h8 h1
  have e : inoOf L = inoGot L := by
    have := inoOf_words hk
    rw [h1] at this
    exact this
  unfold readInoR
  rw [if_pos h, e]
end Go.Proofs.YtcckhkihhhchbaaDoor
namespace Go.Proofs.YtcckhkihhhchbaaDoor
open Go.RowKit

set_option maxRecDepth 100000 in
set_option maxHeartbeats 400000 in
theorem implIn_any (n a b : Int) (w : World) : Calls Tryd.prog 44 #[.int .i64 n, .int .i64 a, .int .i64 b] w fun e w' => e = .returned (.bool (decide (a ≤ n ∧ n ≤ b))) ∧ w' = w := by
  by_cases h1 : a ≤ n <;> by_cases h2 : n ≤ b
  all_goals
    go_enter Tryd.func44, Tryd.ntmps44
    go_wp2
    all_goals go_ret
    all_goals exact ⟨by simp [h1, h2], rfl⟩
theorem implIn_yes {n a b : Int} (w : World) (h : a ≤ n ∧ n ≤ b) : Calls Tryd.prog 44 #[.int .i64 n, .int .i64 a, .int .i64 b] w fun e w' => e = .returned (.bool true) ∧ w' = w :=
  (implIn_any n a b w).mono fun _ _ ⟨he, hw⟩ => ⟨by rw [he, decide_eq_true h], hw⟩
theorem implIn_no {n a b : Int} (w : World) (h : ¬ (a ≤ n ∧ n ≤ b)) : Calls Tryd.prog 44 #[.int .i64 n, .int .i64 a, .int .i64 b] w fun e w' => e = .returned (.bool false) ∧ w' = w :=
  (implIn_any n a b w).mono fun _ _ ⟨he, hw⟩ => ⟨by rw [he, decide_eq_false h], hw⟩

end Go.Proofs.YtcckhkihhhchbaaDoor
namespace Go.Proofs.YtcckhkihhhchbaaDoor
open Go.RowKit Go.Lib Go.Proofs.YtcckhkihhhchbaaDoor.Hexa Go.Proofs.YtcckhkihhhchbaaDoor.Byt

theorem made_zero (n : Nat) : (madeCells (Value.int .u8 0).cells (n * 1)).toList = bcells (List.replicate n 0) := by
  apply List.ext_getElem?
  intro j
  have hcl : (Value.int .u8 0).cells = #[Value.int .u8 0] := rfl
  by_cases hj : j < n
  · simp [madeCells, hj, hcl, Nat.mod_one, bcells]
  · rw [List.getElem?_eq_none (by simp [madeCells]; omega), List.getElem?_eq_none (by simp [bcells]; omega)]

/-- The bytes A, and zeros up to n. -/
def partB (A : List UInt8) (n : Nat) : List UInt8 := A ++ List.replicate (n - A.length) 0
theorem partB_length (A : List UInt8) (n : Nat) (h : A.length ≤ n) : (partB A n).length = n := by simp [partB]; omega
theorem partB_nil (n : Nat) : partB [] n = List.replicate n 0 := by simp [partB]
theorem partB_full (A : List UInt8) (n : Nat) (h : A.length = n) : partB A n = A := by simp [partB, h]
theorem partB_set (A : List UInt8) (n : Nat) (x : UInt8) (h : A.length < n) : (partB A n).set A.length x = partB (A ++ [x]) n := by
  obtain ⟨m, hm⟩ : ∃ m, n - A.length = m + 1 := ⟨n - A.length - 1, by omega⟩
  have h2 : n - (A ++ [x]).length = m := by simp; omega
  unfold partB
  rw [h2, hm, List.replicate_succ, List.set_append_right _ _ (Nat.le_refl _), Nat.sub_self, List.set_cons_zero, List.append_assoc]
  rfl
theorem part_start {w : World} {B e g n : Nat} (h : w.ownsRow B e 1 (.slice (some ⟨g, 0, none⟩) n n) n (madeCells (Value.int .u8 0).cells (n * 1)).toList) :
    Bytes w B e (.slice (some ⟨g, 0, none⟩) n n) (partB [] n) := by
  rw [made_zero] at h
  rw [partB_nil]
  refine bytes_of_own ?_
  rw [List.length_replicate]
  exact h
/-- The next byte written. -/
theorem part_next {w : World} {B e g n : Nat} {A : List UInt8} (h : Bytes w B e (.slice (some ⟨g, 0, none⟩) n n) (partB A n)) (x : UInt8) (hl : A.length < n) :
    Bytes (w.setCell ⟨g, A.length, none⟩ (.int .u8 x.toNat)) B e (.slice (some ⟨g, 0, none⟩) n n) (partB (A ++ [x]) n) := by
  have hp := partB_length A n (by omega)
  have h' : Bytes w B e (.slice (some ⟨g, 0, none⟩) (partB A n).length n) (partB A n) := by rw [hp]; exact h
  have hs := bytes_set h' A.length x
  rw [partB_set A n x hl, hp] at hs
  exact hs
theorem part_at {w : World} {B e g n : Nat} {A : List UInt8} (h : Bytes w B e (.slice (some ⟨g, 0, none⟩) n n) (partB A n)) (hl : A.length < n) :
    (∃ v, w.cell? ⟨g, A.length, none⟩ = some v) ∧ w.frozen? ⟨g, A.length, none⟩ = false ∧ B ≤ g := by
  have hp := partB_length A n (by omega)
  have h' : Bytes w B e (.slice (some ⟨g, 0, none⟩) (partB A n).length n) (partB A n) := by rw [hp]; exact h
  obtain ⟨h1, h2, h3⟩ := bytes_at h' A.length (by omega)
  exact ⟨⟨_, h1⟩, h2, h3⟩

/-- 'copy(b, s)'. -/
theorem bytes_copy {P : Program} {t e u ty : TypeId} {i : TypeInfo} (ht : P.underlying t = some (.slice e)) (hi : P.info? e = some i) (hs1 : i.size = 1)
    {w : World} {B g c n : Nat} {l : List UInt8} (hn : l.length = n) (h : Bytes w B e (.slice (some ⟨g, 0, none⟩) n c) l) (s : ByteArray) (hs : s.size ≤ n) :
    ∃ w', (Builtin.copy_ #[t, u] ty #[.slice (some ⟨g, 0, none⟩) n c, .string s]).run P w = .ok (goInt s.size) w' ∧ Bytes w' B e (.slice (some ⟨g, 0, none⟩) n c) (s.data.toList ++ l.drop s.size) ∧ Below B w w' := by
  subst hn
  have hsl : s.data.toList.length = s.size := by simp
  rcases h with ⟨h, _⟩ | ⟨g', cap, cur, fz, hv, hb, hg, hfz, hlc, hm, hcs, htk⟩
  · cases h
  · simp at hv
    obtain ⟨rfl, rfl⟩ := hv
    have hst := Byt.run_store P g 0 e fz (strCells s) 0 cur w hg hfz (by rw [strCells_length]; omega) (strCells_oneCell s)
    have hf := run_firstCells_string (P := P) w 1 s
    have hln : (s.data.toList ++ l.drop s.size).length = l.length := by rw [List.length_append, List.length_drop, hsl]; omega
    simp only [Nat.add_zero, Nat.zero_add, strCells_length] at hst
    refine ⟨w.setRow g (List.take 0 cur.toList ++ strCells s ++ List.drop s.size cur.toList).toArray, ?_, .inr ⟨g, c, (List.take 0 cur.toList ++ strCells s ++ List.drop s.size cur.toList).toArray, fz, by rw [hln], hb, setRow_heap w g cur _ e fz hg, ?_, by rw [hln]; exact hlc, hm, ?_, ?_⟩, Byt.below_setRow w hb _⟩
    · simp [Builtin.copy_, run_underlying ht, Builtin.lenOf, sizeOf, typeInfo, hi, hs1, Nat.min_eq_left hs, hf, hst]
    · have hz : (List.take 0 cur.toList ++ strCells s ++ List.drop s.size cur.toList).toArray.size = cur.size := by simp [strCells_length]; omega
      rw [hz]; exact hfz
    · simp [strCells_length]; omega
    · rw [hln]
      have e1 : strCells s = bcells s.data.toList := rfl
      simp only [List.take_zero, List.nil_append, e1, bcells_append]
      have e2 : l.length = (bcells s.data.toList).length + (l.length - s.size) := by rw [bcells_length, hsl]; omega
      have e3 : bcells (l.drop s.size) = (bcells l).drop s.size := by simp [bcells]
      rw [e2, List.take_length_add_append, e3, ← htk, List.drop_take]

theorem wpList_copy_text {P : Program} {w : World} {ops : Array Oper} {rest : List Oper} {o : Oper} {a : Act} {Q : Exit → Act → World → Prop} (hgd : o.guard = none) (d s : Operand) (dT sT : TypeId)
    (ho : o.op = .call { callee := .builtin .copy, args := #[d, s], argTypes := #[dT, sT] }) (v0 v1 r : Value) (w' : World) (hd : a.eval d = v0) (hs : a.eval s = v1)
    (hrun : (Builtin.copy_ #[dT, sT] o.type #[v0, v1]).run P w = .ok r w') (h : wpList P ops Q rest (a.put o.dst r) w') : wpList P ops Q (o :: rest) a w := by
  refine wpList_plain hgd fun K hK => ?_
  unfold Oper.wp
  simp [execOp, ho, resolve, invoke, builtin, hd, hs, hrun, Result.andThen]
  exact hK _ _ h
end Go.Proofs.YtcckhkihhhchbaaDoor
namespace Go.Proofs.YtcckhkihhhchbaaDoor
open Go.RowKit Go.Proofs.YtcckhkihhhchbaaDoor.Hexa Go.Proofs.YtcckhkihhhchbaaDoor.Byt Go.Proofs.YtcckhkihhhchbaaDoor.BitsM

set_option maxRecDepth 100000 in
set_option maxHeartbeats 1000000 in
theorem implNum_yes (m k : Nat) (w : World) (hk : 1 ≤ k) (hk' : k ≤ 7) (hm : m < 256 ^ k) :
    Calls Tryd.prog 34 #[.int .i64 m, .int .i64 k] w fun e w' => e = .returned (.string (numB m k)) ∧ Below w.heap.size w w' := by
  obtain ⟨i0, hi, hz0, hz1, hz2⟩ := info_parts infoByte
  have hmb : m < 72057594037927936 := Nat.lt_of_lt_of_le hm (Nat.le_trans (Nat.pow_le_pow_right (by omega) hk') (by decide))
  have hq := shift_zero hm
  have h0 : ¬ ((m : Int) < 0) := by omega
  have hsh0 : (8 * (k : Int)).toNat = 8 * k := by omega
  clear hm
  go_enter Tryd.func34, Tryd.ntmps34
  go_wp2_with (at_make; refine wpList_make_full _ rfl _ _ 22 rfl w.heap.size 5 i0 (.int .u8 0) 1 Tryd.underlying22 hi hz0 hz1 .i64 .i64 _ _ k rfl rfl rfl rfl (by rw [hz2]; omega) (by unfold maxLen; omega) (Nat.le_refl _) ?_; intro w0 hown0 hgrow0)
  have hg0 : Below w.heap.size w w0 := (Below.refl _ _).grown hgrow0 (Nat.le_refl _) (fun k h => by cases h)
  have HO0 := Lib.hid (part_start hown0)
  clear hown0 hgrow0 hq hsh0
  go_loopw [6, 28] (fun jv iv wr => ∃ j : Nat, j ≤ k ∧ iv = .int .i64 j ∧ Hid (Bytes wr w.heap.size 5 (.slice (some ⟨w.heap.size, 0, none⟩) k k) (partB (numL m k j) k)) ∧ Below w.heap.size w wr)
    (fun _ iv _ => k - (intOf iv).toNat)
  case atStart => exact ⟨0, Nat.zero_le _, rfl, HO0, hg0⟩
  case round =>
    clear HO0 hg0
    obtain ⟨j, hj, rfl, HW, hbel⟩ := hrel
    have hl := numL_length m k j
    by_cases hlt : j < k
    · have hsh : (8 * ((k : Int) - 1 - j)).toNat = 8 * (k - 1 - j) := by omega
      have hge : 0 ≤ (k : Int) - 1 - j := by omega
      have hby := num_byte m (k - 1 - j)
      have HNX := Lib.hid (numL_next m k j)
      obtain ⟨⟨v, c3⟩, z3, hB⟩ := part_at HW.out (by omega)
      have N3 := Lib.hid (part_next HW.out (UInt8.ofNat (m / 256 ^ (k - 1 - j))) (by omega))
      rw [hl] at c3 z3 N3
      rw [HNX.out] at N3
      generalize UInt8.ofNat (m / 256 ^ (k - 1 - j)) = z at hby N3
      have hb1 : Below w.heap.size w (wr.setCell ⟨w.heap.size, j, none⟩ (.int .u8 (z.toNat : Int))) := hbel.setCell (Nat.le_refl _) _
      clear HNX
      go_wp2
      go_roundw
      case rel => exact ⟨j + 1, by omega, by go_num, N3, hb1⟩
      case measure => (simp [intOf]; try omega)
    · obtain rfl : j = k := by omega
      have h9 := HW.out
      rw [partB_full _ _ hl] at h9
      have hconv := bytes_string (P := Tryd.prog) 22 9 Tryd.underlying22 Tryd.underlying5 Tryd.underlying9 h9
      clear h9
      go_wp2
      go_ret
      exact ⟨rfl, hbel⟩
end Go.Proofs.YtcckhkihhhchbaaDoor
namespace Go.Proofs.YtcckhkihhhchbaaDoor
open Go.RowKit Go.Proofs.YtcckhkihhhchbaaDoor.Hexa Go.Proofs.YtcckhkihhhchbaaDoor.Byt Go.Proofs.YtcckhkihhhchbaaDoor.BitsM

set_option maxRecDepth 100000 in
set_option maxHeartbeats 1000000 in
theorem implNum_no (n width : Int) (w : World) (h : ¬ NumFits n width) (hn : n ≤ 9223372036854775807) :
    Calls Tryd.prog 34 #[.int .i64 n, .int .i64 width] w fun e w' => e = .returned (.string ⟨#[]⟩) ∧ w' = w := by
  by_cases h0 : n < 0
  · go_enter Tryd.func34, Tryd.ntmps34
    go_wp2
    go_ret
    exact ⟨rfl, rfl⟩
  · by_cases hr1 : width < 1
    · go_enter Tryd.func34, Tryd.ntmps34
      go_wp2
      go_ret
      exact ⟨rfl, rfl⟩
    · by_cases hr2 : 7 < width
      · go_enter Tryd.func34, Tryd.ntmps34
        go_wp2
        go_ret
        exact ⟨rfl, rfl⟩
      · have hbig : ¬ n < 256 ^ width.toNat := fun hlt => h ⟨by omega, ⟨by omega, by omega⟩, hlt⟩
        obtain ⟨k, rfl⟩ : ∃ k : Nat, width = k := ⟨width.toNat, by omega⟩
        obtain ⟨m, rfl⟩ : ∃ m : Nat, n = m := ⟨n.toNat, by omega⟩
        have hm : 256 ^ k ≤ m := by
          have e : ((k : Int).toNat) = k := by omega
          rw [e] at hbig
          have e2 : (256 : Int) ^ k = ((256 ^ k : Nat) : Int) := by simp
          rw [e2] at hbig
          omega
        have hq0 := shift_pos hm
        have hq : ¬ ((m : Int) / 2 ^ (8 * k) = 0) := by omega
        have hsh0 : (8 * (k : Int)).toNat = 8 * k := by omega
        clear h hbig hm hq0
        go_enter Tryd.func34, Tryd.ntmps34
        go_wp2
        go_ret
        exact ⟨rfl, rfl⟩

theorem implNum_any (n width : Int) (w : World) (hn : n ≤ 9223372036854775807) :
    Calls Tryd.prog 34 #[.int .i64 n, .int .i64 width] w fun e w' => e = .returned (.string (numTextB n width)) ∧ Below w.heap.size w w' := by
  by_cases h : NumFits n width
  · have hE : numTextB n width = numB n.toNat width.toNat := by unfold numTextB; exact if_pos h
    obtain ⟨h0, ⟨h1, h7⟩, hf⟩ := h
    obtain ⟨m, rfl⟩ : ∃ m : Nat, n = m := ⟨n.toNat, by omega⟩
    obtain ⟨k, rfl⟩ : ∃ k : Nat, width = k := ⟨width.toNat, by omega⟩
    rw [hE]
    simp only [Int.toNat_natCast] at hf ⊢
    have e2 : (256 : Int) ^ k = ((256 ^ k : Nat) : Int) := by simp
    rw [e2] at hf
    exact implNum_yes m k w (by omega) (by omega) (by omega)
  · have hE : numTextB n width = ⟨#[]⟩ := by unfold numTextB; exact if_neg h
    rw [hE]
    exact (implNum_no n width w h hn).mono fun e w' ⟨he, hw⟩ => ⟨he, by rw [hw]; exact Below.refl _ _⟩
end Go.Proofs.YtcckhkihhhchbaaDoor
namespace Go.Proofs.YtcckhkihhhchbaaDoor
open Go.RowKit Go.Proofs.YtcckhkihhhchbaaDoor.Parts Go.Proofs.YtcckhkihhhchbaaDoor.Hexa Go.Proofs.YtcckhkihhhchbaaDoor.Byt

set_option maxRecDepth 100000 in
set_option maxHeartbeats 1000000 in
theorem implRecWord_no (p q : Int) (m : ByteArray) (w : World) (_hm : m.size ≤ 2000000) (h : ¬ RecOk ⟨p, q, m⟩) :
    Calls Tryd.prog 15 #[.agg #[.int .i64 p, .int .i64 q, .string m]] w (SaysT ⟨#[]⟩ w) := by
  by_cases h0 : 1 ≤ p ∧ p ≤ 12
  · have H0 := Lib.hid h0
    by_cases h1 : 1 ≤ q ∧ q ≤ 16777215
    · have H1 := Lib.hid h1
      have h2 : ¬ m.size = 4 := fun e => h ⟨h0, h1, e⟩
      have e8 : ((m.size : Int) == 4) = false := by simp; omega
      have e9 : ((m.size : Int) != 4) = true := by simp; omega
      clear h0 h1 h
      go_enter Tryd.func15, Tryd.ntmps15
      go_wp2_with (first | ((with_reducible refine (implIn_yes _ H0.out).mono ?_); rintro e w1 ⟨rfl, rfl⟩) | ((with_reducible refine (implIn_yes _ H1.out).mono ?_); rintro e w1 ⟨rfl, rfl⟩))
      go_ret
      exact ⟨rfl, below_bk w _⟩
    · have H1 := Lib.hid h1
      clear h0 h1 h
      go_enter Tryd.func15, Tryd.ntmps15
      go_wp2_with (first | ((with_reducible refine (implIn_yes _ H0.out).mono ?_); rintro e w1 ⟨rfl, rfl⟩) | ((with_reducible refine (implIn_no _ H1.out).mono ?_); rintro e w1 ⟨rfl, rfl⟩))
      go_ret
      exact ⟨rfl, below_bk w _⟩
  · have H0 := Lib.hid h0
    clear h0 h
    go_enter Tryd.func15, Tryd.ntmps15
    go_wp2_with ((with_reducible refine (implIn_no _ H0.out).mono ?_); rintro e w1 ⟨rfl, rfl⟩)
    go_ret
    exact ⟨rfl, below_bk w _⟩

set_option maxRecDepth 100000 in
set_option maxHeartbeats 1000000 in
theorem implRecWord_yes (p q : Int) (m : ByteArray) (w : World) (h : RecOk ⟨p, q, m⟩) :
    Calls Tryd.prog 15 #[.agg #[.int .i64 p, .int .i64 q, .string m]] w (SaysT (recWordB ⟨p, q, m⟩) w) := by
  have HE := Lib.hid (recWordB_yes h)
  obtain ⟨h0, h1, h2⟩ := h
  have H0 : Hid (1 ≤ p ∧ p ≤ 12) := Lib.hid h0
  have H1 : Hid (1 ≤ q ∧ q ≤ 16777215) := Lib.hid h1
  have hm4 : m.size = 4 := h2
  have e8 : ((m.size : Int) == 4) = true := by simp; omega
  have e9 : ((m.size : Int) != 4) = false := by simp; omega
  have T0 := Lib.hid (Bk.alloc w #[.int .i64 p, .int .i64 q, .string m] 36)
  have B0 := Lib.hid (below_bk w (.cells #[.int .i64 p, .int .i64 q, .string m] 36))
  have hA : (numTextB p 1).size = 1 := numText_size (k := 1) (by omega) (by have := H0.out.1; omega) (by have := H0.out.2; omega)
  have hB : (numTextB q 3).size = 3 := numText_size (k := 3) (by omega) (by have := H1.out.1; omega) (by have := H1.out.2; omega)
  obtain ⟨A, hAe⟩ : ∃ A, numTextB p 1 = A := ⟨_, rfl⟩
  obtain ⟨D, hDe⟩ : ∃ D, numTextB q 3 = D := ⟨_, rfl⟩
  have HA := Lib.hid hAe
  have HD := Lib.hid hDe
  rw [hAe] at hA
  rw [hDe] at hB
  have hA1 : A.size ≤ 1 := by omega
  have hB1 : D.size ≤ 3 := by omega
  have hAD : ¬ (9223372036854775807 < A.size + D.size) := by omega
  have hADm : ¬ (9223372036854775807 < A.size + D.size + 4) := by omega
  clear h0 h1 h2 hAe hDe hA hB
  go_enter Tryd.func15, Tryd.ntmps15
  go_wp2_with (first | ((with_reducible refine (implIn_yes _ H0.out).mono ?_); rintro e w1 ⟨rfl, rfl⟩) | ((with_reducible refine (implIn_yes _ H1.out).mono ?_); rintro e w1 ⟨rfl, rfl⟩))
  have T0d := Lib.hid T0.out.drew
  have B0d : Hid (Below w.heap.size w (w.alloc (.cells #[.int .i64 p, .int .i64 q, .string m] 36)).drew) := Lib.hid B0.out.drew
  go_region_held3 (fun w' => w'.cell? ⟨w.heap.size, 0, none⟩ = some (.int .i64 p) ∧ w'.cell? ⟨w.heap.size, 1, none⟩ = some (.int .i64 q) ∧ w'.cell? ⟨w.heap.size, 2, none⟩ = some (.string m))
    (first
      | exact ⟨T0d.out.cell rfl, T0d.out.cell rfl, T0d.out.cell rfl⟩
      | exact ⟨T1.out.cell rfl, T1.out.cell rfl, T1.out.cell rfl⟩
      | exact ⟨T2.out.cell rfl, T2.out.cell rfl, T2.out.cell rfl⟩
      | go_keep)
    (first
      | (go_at_call 34; (with_reducible refine (implNum_any p 1 _ (by have := H0.out.2; omega)).mono ?_); rw [HA.out]; rintro e w1 ⟨rfl, hb⟩; have T1 := Lib.hid (T0d.out.later hb); have B1 : Hid (Below w.heap.size w w1) := Lib.hid (B0d.out.trans (hb.mono B0d.out.size)); clear hb)
      | (go_at_call 34; (with_reducible refine (implNum_any q 3 _ (by have := H1.out.2; omega)).mono ?_); rw [HD.out]; rintro e w2 ⟨rfl, hb⟩; have T2 := Lib.hid (T1.out.later hb); have B2 : Hid (Below w.heap.size w w2) := Lib.hid (B1.out.trans (hb.mono B1.out.size)); clear hb))
  go_wp2
  go_ret
  exact ⟨by rw [HE.out, HA.out, HD.out]; rfl, B2.out⟩
theorem implRecWord_any (p q : Int) (m : ByteArray) (w : World) (hm : m.size ≤ 2000000) :
    Calls Tryd.prog 15 #[.agg #[.int .i64 p, .int .i64 q, .string m]] w (SaysT (recWordB ⟨p, q, m⟩) w) := by
  by_cases h : RecOk ⟨p, q, m⟩
  · exact implRecWord_yes p q m w h
  · rw [recWordB_no h]; exact implRecWord_no p q m w hm h
end Go.Proofs.YtcckhkihhhchbaaDoor
namespace Go.Proofs.YtcckhkihhhchbaaDoor
open Go.RowKit Go.Proofs.YtcckhkihhhchbaaDoor.Hexa Go.Proofs.YtcckhkihhhchbaaDoor.Byt Go.Proofs.YtcckhkihhhchbaaDoor.BitsM

theorem num_step (V : Nat) (b : UInt8) (hV : V < 281474976710656) : bits .or .i64 (RowKit.wrap64 ((V : Int) * 256)) (RowKit.wrap64 (b.toNat : Int)) = ((256 * V + b.toNat : Nat) : Int) := by
  have hb := b.toNat_lt
  have e1 : RowKit.wrap64 ((V : Int) * 256) = ((256 * V : Nat) : Int) := by unfold RowKit.wrap64; omega
  have e2 : RowKit.wrap64 (b.toNat : Int) = (b.toNat : Int) := by unfold RowKit.wrap64; omega
  rw [e1, e2, or64 _ _ (by omega) (by omega)]
  have h := Nat.two_pow_add_eq_or_of_lt (i := 8) (b := b.toNat) (by omega) V
  rw [show (2 : Nat) ^ 8 = 256 by decide] at h
  rw [h]
theorem read_next (s : ByteArray) (a j : Nat) (h : a + j < s.size) (hj : j ≤ 6) : bits .or .i64 (RowKit.wrap64 ((numV (cutL s a j) : Int) * 256)) (RowKit.wrap64 ((s[a + j]'h).toNat : Int)) = (numV (cutL s a (j + 1)) : Int) := by
  have h1 := numV_lt (cutL s a j)
  rw [cutL_length s a j (by omega)] at h1
  have h2 : numV (cutL s a j) < 281474976710656 := Nat.lt_of_lt_of_le h1 (Nat.le_trans (Nat.pow_le_pow_right (by omega) hj) (by decide))
  rw [num_step _ _ h2, ← cutL_next s a j h, numV_snoc]

set_option maxRecDepth 100000 in
set_option maxHeartbeats 1000000 in
theorem numberOf1_any (s : ByteArray) (a : Int) (w : World) (hs : s.size ≤ 100000000) :
    Calls Tryd.prog 80 #[.string s, .int .i64 a] w fun e w' => e = .returned (.tuple #[.int .i64 (numAtV s a 1), .bool (numAtB s a 1)]) ∧ Below w.heap.size w w' := by
  by_cases h : 0 ≤ a ∧ a ≤ (s.size : Int) - 1
  · have hV : numAtV s a 1 = numV (cutL s a.toNat 1) := by unfold numAtV; exact if_pos ⟨by decide, h⟩
    have hB : numAtB s a 1 = true := decide_eq_true ⟨by decide, h⟩
    rw [hV, hB]
    obtain ⟨k, rfl⟩ : ∃ k : Nat, a = k := ⟨a.toNat, by omega⟩
    have h1 : ¬ (((s.size : Int) - 1) < k) := by omega
    have h2 : k + 1 ≤ s.size := by omega
    rw [Int.toNat_natCast]
    clear h hV hB
    go_enter Tryd.func80, Tryd.ntmps80
    go_wp2
    go_loopw [7, 22] (fun nv iv wr => ∃ j : Nat, j ≤ 1 ∧ iv = .int .i64 j ∧ nv = .int .i64 (numV (cutL s k j)) ∧ Below w.heap.size w wr)
      (fun _ iv _ => 1 - (intOf iv).toNat)
    case atStart => exact ⟨0, Nat.zero_le _, rfl, rfl, (Below.refl _ _).alloc (Nat.le_refl _) _⟩
    case round =>
      obtain ⟨j, hj, rfl, rfl, hbel⟩ := hrel
      by_cases hlt : j < 1
      · have hlt2 : k + j < s.size := by omega
        have HN := Lib.hid (read_next s k j hlt2 (by omega))
        go_wp2
        rw [HN.out]
        go_roundw
        case rel => exact ⟨j + 1, by omega, by go_num, rfl, hbel⟩
        case measure => (simp [intOf]; try omega)
      · obtain rfl : j = 1 := by omega
        go_wp2
        go_ret2
        exact ⟨rfl, hbel⟩
  · have hV : numAtV s a 1 = 0 := by unfold numAtV; exact if_neg (fun h' => h h'.2)
    have hB : numAtB s a 1 = false := decide_eq_false (fun h' => h h'.2)
    rw [hV, hB]
    by_cases h0 : a < 0
    · go_enter Tryd.func80, Tryd.ntmps80
      go_wp2
      go_ret2
      exact ⟨rfl, (Below.refl _ _).alloc (Nat.le_refl _) _⟩
    · have h1 : ((s.size : Int) - 1) < a := by omega
      clear h hV hB
      go_enter Tryd.func80, Tryd.ntmps80
      go_wp2
      go_ret2
      exact ⟨rfl, (Below.refl _ _).alloc (Nat.le_refl _) _⟩

set_option maxRecDepth 100000 in
set_option maxHeartbeats 1000000 in
theorem numberOf2_any (s : ByteArray) (a : Int) (w : World) (hs : s.size ≤ 100000000) :
    Calls Tryd.prog 81 #[.string s, .int .i64 a] w fun e w' => e = .returned (.tuple #[.int .i64 (numAtV s a 2), .bool (numAtB s a 2)]) ∧ Below w.heap.size w w' := by
  by_cases h : 0 ≤ a ∧ a ≤ (s.size : Int) - 2
  · have hV : numAtV s a 2 = numV (cutL s a.toNat 2) := by unfold numAtV; exact if_pos ⟨by decide, h⟩
    have hB : numAtB s a 2 = true := decide_eq_true ⟨by decide, h⟩
    rw [hV, hB]
    obtain ⟨k, rfl⟩ : ∃ k : Nat, a = k := ⟨a.toNat, by omega⟩
    have h1 : ¬ (((s.size : Int) - 2) < k) := by omega
    have h2 : k + 2 ≤ s.size := by omega
    rw [Int.toNat_natCast]
    clear h hV hB
    go_enter Tryd.func81, Tryd.ntmps81
    go_wp2
    go_loopw [7, 22] (fun nv iv wr => ∃ j : Nat, j ≤ 2 ∧ iv = .int .i64 j ∧ nv = .int .i64 (numV (cutL s k j)) ∧ Below w.heap.size w wr)
      (fun _ iv _ => 2 - (intOf iv).toNat)
    case atStart => exact ⟨0, Nat.zero_le _, rfl, rfl, (Below.refl _ _).alloc (Nat.le_refl _) _⟩
    case round =>
      obtain ⟨j, hj, rfl, rfl, hbel⟩ := hrel
      by_cases hlt : j < 2
      · have hlt2 : k + j < s.size := by omega
        have HN := Lib.hid (read_next s k j hlt2 (by omega))
        go_wp2
        rw [HN.out]
        go_roundw
        case rel => exact ⟨j + 1, by omega, by go_num, rfl, hbel⟩
        case measure => (simp [intOf]; try omega)
      · obtain rfl : j = 2 := by omega
        go_wp2
        go_ret2
        exact ⟨rfl, hbel⟩
  · have hV : numAtV s a 2 = 0 := by unfold numAtV; exact if_neg (fun h' => h h'.2)
    have hB : numAtB s a 2 = false := decide_eq_false (fun h' => h h'.2)
    rw [hV, hB]
    by_cases h0 : a < 0
    · go_enter Tryd.func81, Tryd.ntmps81
      go_wp2
      go_ret2
      exact ⟨rfl, (Below.refl _ _).alloc (Nat.le_refl _) _⟩
    · have h1 : ((s.size : Int) - 2) < a := by omega
      clear h hV hB
      go_enter Tryd.func81, Tryd.ntmps81
      go_wp2
      go_ret2
      exact ⟨rfl, (Below.refl _ _).alloc (Nat.le_refl _) _⟩

set_option maxRecDepth 100000 in
set_option maxHeartbeats 1000000 in
theorem numberOf3_any (s : ByteArray) (a : Int) (w : World) (hs : s.size ≤ 100000000) :
    Calls Tryd.prog 82 #[.string s, .int .i64 a] w fun e w' => e = .returned (.tuple #[.int .i64 (numAtV s a 3), .bool (numAtB s a 3)]) ∧ Below w.heap.size w w' := by
  by_cases h : 0 ≤ a ∧ a ≤ (s.size : Int) - 3
  · have hV : numAtV s a 3 = numV (cutL s a.toNat 3) := by unfold numAtV; exact if_pos ⟨by decide, h⟩
    have hB : numAtB s a 3 = true := decide_eq_true ⟨by decide, h⟩
    rw [hV, hB]
    obtain ⟨k, rfl⟩ : ∃ k : Nat, a = k := ⟨a.toNat, by omega⟩
    have h1 : ¬ (((s.size : Int) - 3) < k) := by omega
    have h2 : k + 3 ≤ s.size := by omega
    rw [Int.toNat_natCast]
    clear h hV hB
    go_enter Tryd.func82, Tryd.ntmps82
    go_wp2
    go_loopw [7, 22] (fun nv iv wr => ∃ j : Nat, j ≤ 3 ∧ iv = .int .i64 j ∧ nv = .int .i64 (numV (cutL s k j)) ∧ Below w.heap.size w wr)
      (fun _ iv _ => 3 - (intOf iv).toNat)
    case atStart => exact ⟨0, Nat.zero_le _, rfl, rfl, (Below.refl _ _).alloc (Nat.le_refl _) _⟩
    case round =>
      obtain ⟨j, hj, rfl, rfl, hbel⟩ := hrel
      by_cases hlt : j < 3
      · have hlt2 : k + j < s.size := by omega
        have HN := Lib.hid (read_next s k j hlt2 (by omega))
        go_wp2
        rw [HN.out]
        go_roundw
        case rel => exact ⟨j + 1, by omega, by go_num, rfl, hbel⟩
        case measure => (simp [intOf]; try omega)
      · obtain rfl : j = 3 := by omega
        go_wp2
        go_ret2
        exact ⟨rfl, hbel⟩
  · have hV : numAtV s a 3 = 0 := by unfold numAtV; exact if_neg (fun h' => h h'.2)
    have hB : numAtB s a 3 = false := decide_eq_false (fun h' => h h'.2)
    rw [hV, hB]
    by_cases h0 : a < 0
    · go_enter Tryd.func82, Tryd.ntmps82
      go_wp2
      go_ret2
      exact ⟨rfl, (Below.refl _ _).alloc (Nat.le_refl _) _⟩
    · have h1 : ((s.size : Int) - 3) < a := by omega
      clear h hV hB
      go_enter Tryd.func82, Tryd.ntmps82
      go_wp2
      go_ret2
      exact ⟨rfl, (Below.refl _ _).alloc (Nat.le_refl _) _⟩

set_option maxRecDepth 100000 in
set_option maxHeartbeats 1000000 in
theorem numberOf4_any (s : ByteArray) (a : Int) (w : World) (hs : s.size ≤ 100000000) :
    Calls Tryd.prog 83 #[.string s, .int .i64 a] w fun e w' => e = .returned (.tuple #[.int .i64 (numAtV s a 4), .bool (numAtB s a 4)]) ∧ Below w.heap.size w w' := by
  by_cases h : 0 ≤ a ∧ a ≤ (s.size : Int) - 4
  · have hV : numAtV s a 4 = numV (cutL s a.toNat 4) := by unfold numAtV; exact if_pos ⟨by decide, h⟩
    have hB : numAtB s a 4 = true := decide_eq_true ⟨by decide, h⟩
    rw [hV, hB]
    obtain ⟨k, rfl⟩ : ∃ k : Nat, a = k := ⟨a.toNat, by omega⟩
    have h1 : ¬ (((s.size : Int) - 4) < k) := by omega
    have h2 : k + 4 ≤ s.size := by omega
    rw [Int.toNat_natCast]
    clear h hV hB
    go_enter Tryd.func83, Tryd.ntmps83
    go_wp2
    go_loopw [7, 22] (fun nv iv wr => ∃ j : Nat, j ≤ 4 ∧ iv = .int .i64 j ∧ nv = .int .i64 (numV (cutL s k j)) ∧ Below w.heap.size w wr)
      (fun _ iv _ => 4 - (intOf iv).toNat)
    case atStart => exact ⟨0, Nat.zero_le _, rfl, rfl, (Below.refl _ _).alloc (Nat.le_refl _) _⟩
    case round =>
      obtain ⟨j, hj, rfl, rfl, hbel⟩ := hrel
      by_cases hlt : j < 4
      · have hlt2 : k + j < s.size := by omega
        have HN := Lib.hid (read_next s k j hlt2 (by omega))
        go_wp2
        rw [HN.out]
        go_roundw
        case rel => exact ⟨j + 1, by omega, by go_num, rfl, hbel⟩
        case measure => (simp [intOf]; try omega)
      · obtain rfl : j = 4 := by omega
        go_wp2
        go_ret2
        exact ⟨rfl, hbel⟩
  · have hV : numAtV s a 4 = 0 := by unfold numAtV; exact if_neg (fun h' => h h'.2)
    have hB : numAtB s a 4 = false := decide_eq_false (fun h' => h h'.2)
    rw [hV, hB]
    by_cases h0 : a < 0
    · go_enter Tryd.func83, Tryd.ntmps83
      go_wp2
      go_ret2
      exact ⟨rfl, (Below.refl _ _).alloc (Nat.le_refl _) _⟩
    · have h1 : ((s.size : Int) - 4) < a := by omega
      clear h hV hB
      go_enter Tryd.func83, Tryd.ntmps83
      go_wp2
      go_ret2
      exact ⟨rfl, (Below.refl _ _).alloc (Nat.le_refl _) _⟩

set_option maxRecDepth 100000 in
set_option maxHeartbeats 1000000 in
theorem numberOf5_any (s : ByteArray) (a : Int) (w : World) (hs : s.size ≤ 100000000) :
    Calls Tryd.prog 84 #[.string s, .int .i64 a] w fun e w' => e = .returned (.tuple #[.int .i64 (numAtV s a 5), .bool (numAtB s a 5)]) ∧ Below w.heap.size w w' := by
  by_cases h : 0 ≤ a ∧ a ≤ (s.size : Int) - 5
  · have hV : numAtV s a 5 = numV (cutL s a.toNat 5) := by unfold numAtV; exact if_pos ⟨by decide, h⟩
    have hB : numAtB s a 5 = true := decide_eq_true ⟨by decide, h⟩
    rw [hV, hB]
    obtain ⟨k, rfl⟩ : ∃ k : Nat, a = k := ⟨a.toNat, by omega⟩
    have h1 : ¬ (((s.size : Int) - 5) < k) := by omega
    have h2 : k + 5 ≤ s.size := by omega
    rw [Int.toNat_natCast]
    clear h hV hB
    go_enter Tryd.func84, Tryd.ntmps84
    go_wp2
    go_loopw [7, 22] (fun nv iv wr => ∃ j : Nat, j ≤ 5 ∧ iv = .int .i64 j ∧ nv = .int .i64 (numV (cutL s k j)) ∧ Below w.heap.size w wr)
      (fun _ iv _ => 5 - (intOf iv).toNat)
    case atStart => exact ⟨0, Nat.zero_le _, rfl, rfl, (Below.refl _ _).alloc (Nat.le_refl _) _⟩
    case round =>
      obtain ⟨j, hj, rfl, rfl, hbel⟩ := hrel
      by_cases hlt : j < 5
      · have hlt2 : k + j < s.size := by omega
        have HN := Lib.hid (read_next s k j hlt2 (by omega))
        go_wp2
        rw [HN.out]
        go_roundw
        case rel => exact ⟨j + 1, by omega, by go_num, rfl, hbel⟩
        case measure => (simp [intOf]; try omega)
      · obtain rfl : j = 5 := by omega
        go_wp2
        go_ret2
        exact ⟨rfl, hbel⟩
  · have hV : numAtV s a 5 = 0 := by unfold numAtV; exact if_neg (fun h' => h h'.2)
    have hB : numAtB s a 5 = false := decide_eq_false (fun h' => h h'.2)
    rw [hV, hB]
    by_cases h0 : a < 0
    · go_enter Tryd.func84, Tryd.ntmps84
      go_wp2
      go_ret2
      exact ⟨rfl, (Below.refl _ _).alloc (Nat.le_refl _) _⟩
    · have h1 : ((s.size : Int) - 5) < a := by omega
      clear h hV hB
      go_enter Tryd.func84, Tryd.ntmps84
      go_wp2
      go_ret2
      exact ⟨rfl, (Below.refl _ _).alloc (Nat.le_refl _) _⟩

set_option maxRecDepth 100000 in
set_option maxHeartbeats 1000000 in
theorem numberOf6_any (s : ByteArray) (a : Int) (w : World) (hs : s.size ≤ 100000000) :
    Calls Tryd.prog 85 #[.string s, .int .i64 a] w fun e w' => e = .returned (.tuple #[.int .i64 (numAtV s a 6), .bool (numAtB s a 6)]) ∧ Below w.heap.size w w' := by
  by_cases h : 0 ≤ a ∧ a ≤ (s.size : Int) - 6
  · have hV : numAtV s a 6 = numV (cutL s a.toNat 6) := by unfold numAtV; exact if_pos ⟨by decide, h⟩
    have hB : numAtB s a 6 = true := decide_eq_true ⟨by decide, h⟩
    rw [hV, hB]
    obtain ⟨k, rfl⟩ : ∃ k : Nat, a = k := ⟨a.toNat, by omega⟩
    have h1 : ¬ (((s.size : Int) - 6) < k) := by omega
    have h2 : k + 6 ≤ s.size := by omega
    rw [Int.toNat_natCast]
    clear h hV hB
    go_enter Tryd.func85, Tryd.ntmps85
    go_wp2
    go_loopw [7, 22] (fun nv iv wr => ∃ j : Nat, j ≤ 6 ∧ iv = .int .i64 j ∧ nv = .int .i64 (numV (cutL s k j)) ∧ Below w.heap.size w wr)
      (fun _ iv _ => 6 - (intOf iv).toNat)
    case atStart => exact ⟨0, Nat.zero_le _, rfl, rfl, (Below.refl _ _).alloc (Nat.le_refl _) _⟩
    case round =>
      obtain ⟨j, hj, rfl, rfl, hbel⟩ := hrel
      by_cases hlt : j < 6
      · have hlt2 : k + j < s.size := by omega
        have HN := Lib.hid (read_next s k j hlt2 (by omega))
        go_wp2
        rw [HN.out]
        go_roundw
        case rel => exact ⟨j + 1, by omega, by go_num, rfl, hbel⟩
        case measure => (simp [intOf]; try omega)
      · obtain rfl : j = 6 := by omega
        go_wp2
        go_ret2
        exact ⟨rfl, hbel⟩
  · have hV : numAtV s a 6 = 0 := by unfold numAtV; exact if_neg (fun h' => h h'.2)
    have hB : numAtB s a 6 = false := decide_eq_false (fun h' => h h'.2)
    rw [hV, hB]
    by_cases h0 : a < 0
    · go_enter Tryd.func85, Tryd.ntmps85
      go_wp2
      go_ret2
      exact ⟨rfl, (Below.refl _ _).alloc (Nat.le_refl _) _⟩
    · have h1 : ((s.size : Int) - 6) < a := by omega
      clear h hV hB
      go_enter Tryd.func85, Tryd.ntmps85
      go_wp2
      go_ret2
      exact ⟨rfl, (Below.refl _ _).alloc (Nat.le_refl _) _⟩

set_option maxRecDepth 100000 in
set_option maxHeartbeats 1000000 in
theorem numberOf7_any (s : ByteArray) (a : Int) (w : World) (hs : s.size ≤ 100000000) :
    Calls Tryd.prog 86 #[.string s, .int .i64 a] w fun e w' => e = .returned (.tuple #[.int .i64 (numAtV s a 7), .bool (numAtB s a 7)]) ∧ Below w.heap.size w w' := by
  by_cases h : 0 ≤ a ∧ a ≤ (s.size : Int) - 7
  · have hV : numAtV s a 7 = numV (cutL s a.toNat 7) := by unfold numAtV; exact if_pos ⟨by decide, h⟩
    have hB : numAtB s a 7 = true := decide_eq_true ⟨by decide, h⟩
    rw [hV, hB]
    obtain ⟨k, rfl⟩ : ∃ k : Nat, a = k := ⟨a.toNat, by omega⟩
    have h1 : ¬ (((s.size : Int) - 7) < k) := by omega
    have h2 : k + 7 ≤ s.size := by omega
    rw [Int.toNat_natCast]
    clear h hV hB
    go_enter Tryd.func86, Tryd.ntmps86
    go_wp2
    go_loopw [7, 22] (fun nv iv wr => ∃ j : Nat, j ≤ 7 ∧ iv = .int .i64 j ∧ nv = .int .i64 (numV (cutL s k j)) ∧ Below w.heap.size w wr)
      (fun _ iv _ => 7 - (intOf iv).toNat)
    case atStart => exact ⟨0, Nat.zero_le _, rfl, rfl, (Below.refl _ _).alloc (Nat.le_refl _) _⟩
    case round =>
      obtain ⟨j, hj, rfl, rfl, hbel⟩ := hrel
      by_cases hlt : j < 7
      · have hlt2 : k + j < s.size := by omega
        have HN := Lib.hid (read_next s k j hlt2 (by omega))
        go_wp2
        rw [HN.out]
        go_roundw
        case rel => exact ⟨j + 1, by omega, by go_num, rfl, hbel⟩
        case measure => (simp [intOf]; try omega)
      · obtain rfl : j = 7 := by omega
        go_wp2
        go_ret2
        exact ⟨rfl, hbel⟩
  · have hV : numAtV s a 7 = 0 := by unfold numAtV; exact if_neg (fun h' => h h'.2)
    have hB : numAtB s a 7 = false := decide_eq_false (fun h' => h h'.2)
    rw [hV, hB]
    by_cases h0 : a < 0
    · go_enter Tryd.func86, Tryd.ntmps86
      go_wp2
      go_ret2
      exact ⟨rfl, (Below.refl _ _).alloc (Nat.le_refl _) _⟩
    · have h1 : ((s.size : Int) - 7) < a := by omega
      clear h hV hB
      go_enter Tryd.func86, Tryd.ntmps86
      go_wp2
      go_ret2
      exact ⟨rfl, (Below.refl _ _).alloc (Nat.le_refl _) _⟩

theorem numAt_out (s : ByteArray) (a k : Int) (h : ¬ (1 ≤ k ∧ k ≤ 7)) : numAtV s a k = 0 ∧ numAtB s a k = false := by
  refine ⟨?_, decide_eq_false fun h' => h h'.1⟩
  unfold numAtV
  exact if_neg fun h' => h h'.1

set_option maxRecDepth 100000 in
set_option maxHeartbeats 1000000 in
theorem implNumAt_any (s : ByteArray) (a k : Int) (w : World) (hs : s.size ≤ 100000000) :
    Calls Tryd.prog 52 #[.string s, .int .i64 a, .int .i64 k] w fun e w' => e = .returned (.tuple #[.int .i64 (numAtV s a k), .bool (numAtB s a k)]) ∧ Below w.heap.size w w' := by
  by_cases h : 1 ≤ k ∧ k ≤ 7
  · have hk : k = 1 ∨ k = 2 ∨ k = 3 ∨ k = 4 ∨ k = 5 ∨ k = 6 ∨ k = 7 := by omega
    clear h
    rcases hk with rfl | rfl | rfl | rfl | rfl | rfl | rfl
    · have R := Lib.hid (numberOf1_any s a w hs)
      generalize numAtV s a 1 = rv at R ⊢
      generalize numAtB s a 1 = rb at R ⊢
      go_enter Tryd.func52, Tryd.ntmps52
      go_wp2_with (go_at_call 80; refine R.out.mono ?_; rintro e w1 ⟨rfl, hb1⟩)
      go_ret2
      exact ⟨rfl, hb1⟩
    · have R := Lib.hid (numberOf2_any s a w hs)
      generalize numAtV s a 2 = rv at R ⊢
      generalize numAtB s a 2 = rb at R ⊢
      go_enter Tryd.func52, Tryd.ntmps52
      go_wp2_with (go_at_call 81; refine R.out.mono ?_; rintro e w1 ⟨rfl, hb1⟩)
      go_ret2
      exact ⟨rfl, hb1⟩
    · have R := Lib.hid (numberOf3_any s a w hs)
      generalize numAtV s a 3 = rv at R ⊢
      generalize numAtB s a 3 = rb at R ⊢
      go_enter Tryd.func52, Tryd.ntmps52
      go_wp2_with (go_at_call 82; refine R.out.mono ?_; rintro e w1 ⟨rfl, hb1⟩)
      go_ret2
      exact ⟨rfl, hb1⟩
    · have R := Lib.hid (numberOf4_any s a w hs)
      generalize numAtV s a 4 = rv at R ⊢
      generalize numAtB s a 4 = rb at R ⊢
      go_enter Tryd.func52, Tryd.ntmps52
      go_wp2_with (go_at_call 83; refine R.out.mono ?_; rintro e w1 ⟨rfl, hb1⟩)
      go_ret2
      exact ⟨rfl, hb1⟩
    · have R := Lib.hid (numberOf5_any s a w hs)
      generalize numAtV s a 5 = rv at R ⊢
      generalize numAtB s a 5 = rb at R ⊢
      go_enter Tryd.func52, Tryd.ntmps52
      go_wp2_with (go_at_call 84; refine R.out.mono ?_; rintro e w1 ⟨rfl, hb1⟩)
      go_ret2
      exact ⟨rfl, hb1⟩
    · have R := Lib.hid (numberOf6_any s a w hs)
      generalize numAtV s a 6 = rv at R ⊢
      generalize numAtB s a 6 = rb at R ⊢
      go_enter Tryd.func52, Tryd.ntmps52
      go_wp2_with (go_at_call 85; refine R.out.mono ?_; rintro e w1 ⟨rfl, hb1⟩)
      go_ret2
      exact ⟨rfl, hb1⟩
    · have R := Lib.hid (numberOf7_any s a w hs)
      generalize numAtV s a 7 = rv at R ⊢
      generalize numAtB s a 7 = rb at R ⊢
      go_enter Tryd.func52, Tryd.ntmps52
      go_wp2_with (go_at_call 86; refine R.out.mono ?_; rintro e w1 ⟨rfl, hb1⟩)
      go_ret2
      exact ⟨rfl, hb1⟩
  · obtain ⟨hV, hB⟩ := numAt_out s a k h
    rw [hV, hB]
    have n1 : ¬ k = 1 := by omega
    have n2 : ¬ k = 2 := by omega
    have n3 : ¬ k = 3 := by omega
    have n4 : ¬ k = 4 := by omega
    have n5 : ¬ k = 5 := by omega
    have n6 : ¬ k = 6 := by omega
    have n7 : ¬ k = 7 := by omega
    clear h hV hB
    go_enter Tryd.func52, Tryd.ntmps52
    go_wp2
    go_ret2
    exact ⟨rfl, Below.refl _ _⟩
end Go.Proofs.YtcckhkihhhchbaaDoor
namespace Go.Proofs.YtcckhkihhhchbaaDoor
open Go.RowKit

set_option maxRecDepth 100000 in
set_option maxHeartbeats 400000 in
theorem cloneText_any (s : ByteArray) (w : World) (hs : s.size ≤ 2000000) :
    Calls Tryd.prog 48 #[.string s] w fun e w' => e = .returned (.string s) ∧ Below w.heap.size w w' := by
  go_enter Tryd.func48, Tryd.ntmps48
  go_wp2_with (go_at_call 79; refine (Tryd.stringslite_Clone _ _ (by omega)).mono ?_; rintro e w1 ⟨rfl, hb1⟩)
  go_ret
  exact ⟨rfl, hb1⟩
end Go.Proofs.YtcckhkihhhchbaaDoor
