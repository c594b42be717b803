/- Merged texts: NameImpl, WordImpl, EntImpl, PrevMath, DirImpl, BodyImpl, Assert, InoImpl, StImpl, IdxI, OkImpl, OkImplB, OkImplC, GeoI. -/
import Derived.Test.YtmkchilhnmkhkabP15BE
import Derived.WalkKit
import Derived.WalkSpells
import Derived.WalkLawsBesides
import Derived.Deep.RegionLaw
import Derived.Lib.Hide
import Derived.Deep.DeepCutAuto
namespace Go.Proofs.Ytmkchilhnmkhkab
open Go.RowKit Go.Proofs.Ytmkchilhnmkhkab.Parts Go.Proofs.Ytmkchilhnmkhkab.Hexa Go.Proofs.Ytmkchilhnmkhkab.Byt

set_option maxRecDepth 100000 in
set_option maxHeartbeats 1000000 in
theorem implNameByte_any (n : Int) (w : World) :
    Calls Try.prog 75 #[.int .u8 n] w fun e w' => e = .returned (.bool (decide ((97 ≤ n ∧ n ≤ 122) ∨ (48 ≤ n ∧ n ≤ 57)))) ∧ w' = w := by
  by_cases h1 : 97 ≤ n <;> by_cases h2 : n ≤ 122 <;> by_cases h3 : 48 ≤ n <;> by_cases h4 : n ≤ 57
  all_goals
    go_enter Try.func75, Try.ntmps75
    go_wp2
    all_goals go_ret
    all_goals exact ⟨by simp [h1, h2, h3, h4], rfl⟩
theorem implNameByte_yes {b : UInt8} (w : World) (h : NameC b) :
    Calls Try.prog 75 #[.int .u8 (b.toNat : Int)] w fun e w' => e = .returned (.bool true) ∧ w' = w :=
  (implNameByte_any (b.toNat : Int) w).mono fun _ _ ⟨he, hw⟩ => ⟨by rw [he, decide_eq_true (by rcases h with h | h <;> omega)], hw⟩
theorem implNameByte_no {b : UInt8} (w : World) (h : ¬ NameC b) :
    Calls Try.prog 75 #[.int .u8 (b.toNat : Int)] w fun e w' => e = .returned (.bool false) ∧ w' = w :=
  (implNameByte_any (b.toNat : Int) w).mono fun _ _ ⟨he, hw⟩ => ⟨by rw [he, decide_eq_false (fun x => h (by rcases x with x | x; exact .inl (by omega); exact .inr (by omega)))], hw⟩

/-- Every byte of it may stand in a name. -/
def nameBytes (s : ByteArray) : Bool := decide (∀ b ∈ s.data.toList, NameC b)
theorem nameBytes_yes {s : ByteArray} (h : ∀ j (hj : j < s.size), NameC s[j]) : nameBytes s = true := decide_eq_true (fun b hb => by
  obtain ⟨j, hj, rfl⟩ := List.mem_iff_getElem.1 hb
  have hj' : j < s.size := by simpa using hj
  exact h j hj')
theorem nameBytes_no {s : ByteArray} (j : Nat) (hj : j < s.size) (h : ¬ NameC s[j]) : nameBytes s = false := decide_eq_false (fun h2 => h (h2 _ (by
  rw [show s[j] = s.data.toList[j]'(by simpa using hj) from rfl]
  exact List.getElem_mem _)))
theorem nameB_split (s : ByteArray) : nameB s = (decide (1 ≤ s.size ∧ s.size ≤ 7) && nameBytes s) := by
  unfold nameB nameBytes NameR
  by_cases h1 : 1 ≤ s.size ∧ s.size ≤ 7 <;> by_cases h2 : ∀ b ∈ s.data.toList, NameC b <;> simp [h1, h2]

set_option maxRecDepth 100000 in
set_option maxHeartbeats 1000000 in
theorem implNameBytes_any (s : ByteArray) (w : World) (hs : s.size ≤ 2000000) :
    Calls Try.prog 74 #[.string s] w fun e w' => e = .returned (.bool (nameBytes s)) ∧ w' = w := by
  go_enter Try.func74, Try.ntmps74
  go_wp2
  go_loop [6] (fun i => ∃ k : Nat, k ≤ s.size ∧ i = .int .i64 k ∧ Hid (∀ j (hj : j < s.size), j < k → NameC s[j])) (fun i => s.size - (intOf i).toNat)
  case atStart => exact ⟨0, Nat.zero_le _, rfl, Lib.hid (fun j hj h => by omega)⟩
  case round =>
    obtain ⟨k, hk, rfl, HA⟩ := hrel
    by_cases hlt : k < s.size
    · obtain ⟨b, hb⟩ : ∃ b, s[k]'hlt = b := ⟨_, rfl⟩
      have hb255 := b.toNat_lt
      have HB := Lib.hid hb
      by_cases h1 : NameC b
      · have HR := Lib.hid h1
        have HA2 : Hid (∀ j (hj : j < s.size), j < k + 1 → NameC s[j]) := Lib.hid (fun j hj h => by
          by_cases e : j = k
          · subst e; rw [HB.out]; exact HR.out
          · exact HA.out j hj (by omega))
        clear h1
        go_wp2_with ((with_reducible refine (implNameByte_yes _ HR.out).mono ?_); rintro e w1 ⟨rfl, rfl⟩)
        go_round
        case rel => exact ⟨k + 1, by omega, by go_num, HA2⟩
        case measure => (simp [intOf]; try omega)
      · have HR := Lib.hid h1
        have HN : Hid (nameBytes s = false) := Lib.hid (nameBytes_no k hlt (by rw [hb]; exact h1))
        clear h1
        go_wp2_with ((with_reducible refine (implNameByte_no _ HR.out).mono ?_); rintro e w1 ⟨rfl, rfl⟩)
        go_ret
        exact ⟨by rw [HN.out]; rfl, rfl⟩
    · obtain rfl : k = s.size := by omega
      have HN : Hid (nameBytes s = true) := Lib.hid (nameBytes_yes (fun j hj => HA.out j hj hj))
      go_wp2
      go_ret
      exact ⟨by rw [HN.out]; rfl, rfl⟩
set_option maxRecDepth 100000 in
set_option maxHeartbeats 1000000 in
theorem implName_any (s : ByteArray) (w : World) (hs : s.size ≤ 2000000) :
    Calls Try.prog 72 #[.string s] w fun e w' => e = .returned (.bool (nameB s)) ∧ w' = w := by
  by_cases hl : (1 : Int) ≤ (s.size : Int) ∧ (s.size : Int) ≤ 7
  · have HL := Lib.hid hl
    have HN : Hid (nameBytes s = nameB s) := Lib.hid (by rw [nameB_split, decide_eq_true (show 1 ≤ s.size ∧ s.size ≤ 7 by omega)]; rfl)
    clear hl
    go_enter Try.func72, Try.ntmps72
    go_wp2_with (first
      | ((with_reducible refine (implIn_yes _ HL.out).mono ?_); rintro e w1 ⟨rfl, rfl⟩)
      | ((with_reducible refine (implNameBytes_any s _ hs).mono ?_); rintro e w1 ⟨rfl, rfl⟩))
    go_ret
    exact ⟨by rw [HN.out]; rfl, rfl⟩
  · have HL := Lib.hid hl
    have HN : Hid (nameB s = false) := Lib.hid (nameB_no (fun h => hl (by have := h.1; omega)))
    clear hl
    go_enter Try.func72, Try.ntmps72
    go_wp2_with ((with_reducible refine (implIn_no _ HL.out).mono ?_); rintro e w1 ⟨rfl, rfl⟩)
    go_ret
    exact ⟨by rw [HN.out]; rfl, rfl⟩
end Go.Proofs.Ytmkchilhnmkhkab
namespace Go.Proofs.Ytmkchilhnmkhkab
open Go.RowKit Go.Proofs.Ytmkchilhnmkhkab.Hexa Go.Proofs.Ytmkchilhnmkhkab.Byt Go.Proofs.Ytmkchilhnmkhkab.BitsM

theorem wordB_list (s : ByteArray) (h : s.size ≤ 8) : (⟨(s.data.toList ++ (partB [] 8).drop s.size).toArray⟩ : ByteArray) = wordB s := by
  have hE : wordB s = s ++ longB (8 - s.size) 0 := if_pos h
  rw [hE, partB_nil, List.drop_replicate]
  apply ByteArray.ext
  apply Array.toList_inj.1
  rw [ByteArray.data_append, Array.toList_append]
  rfl

set_option maxRecDepth 100000 in
set_option maxHeartbeats 1000000 in
theorem implWord_any (s : ByteArray) (w : World) :
    Calls Try.prog 73 #[.string s] w fun e w' => e = .returned (.string (wordB s)) ∧ Below w.heap.size w w' := by
  by_cases h : s.size ≤ 8
  · obtain ⟨i0, hi, hz0, hz1, hz2⟩ := info_parts infoByte
    have HE := Lib.hid (wordB_list s h)
    go_enter Try.func73, Try.ntmps73
    go_wp2_with (at_make; refine wpList_make_full _ rfl _ _ 103 rfl w.heap.size 5 i0 (.int .u8 0) 1 Try.underlying103 hi hz0 hz1 .i64 .i64 _ _ 8 rfl rfl rfl rfl (by rw [hz2]; omega) (by unfold maxLen; omega) (Nat.le_refl _) ?_; intro w0 hown0 hgrow0; have hg0 : Below w.heap.size w w0 := (Below.refl _ _).grown hgrow0 (Nat.le_refl _) (fun k h => by cases h); obtain ⟨w1, hrun, hb1, hg1⟩ := bytes_copy (P := Try.prog) (u := 9) (ty := 3) Try.underlying103 hi hz1 (partB_length [] 8 (by decide)) (part_start hown0) s h; have hconv := bytes_string (P := Try.prog) 103 9 Try.underlying103 Try.underlying5 Try.underlying9 hb1; rw [HE.out] at hconv; clear hown0 hgrow0 hb1)
    go_ret
    exact ⟨rfl, hg0.trans hg1⟩
  · have HE : Hid (wordB s = ⟨#[]⟩) := Lib.hid (if_neg h)
    have hlt : 8 < s.size := by omega
    go_enter Try.func73, Try.ntmps73
    go_wp2
    go_ret
    exact ⟨by rw [HE.out]; rfl, Below.refl _ _⟩
end Go.Proofs.Ytmkchilhnmkhkab
namespace Go.Proofs.Ytmkchilhnmkhkab
open Go.RowKit Go.Proofs.Ytmkchilhnmkhkab.Parts Go.Proofs.Ytmkchilhnmkhkab.Hexa Go.Proofs.Ytmkchilhnmkhkab.Byt

set_option maxRecDepth 100000 in
set_option maxHeartbeats 1000000 in
theorem implEntryWord_no (p : Int) (m : ByteArray) (w : World) (hm : m.size ≤ 2000000) (h : ¬ EntryOk ⟨p, m⟩) :
    Calls Try.prog 69 #[.agg #[.int .i64 p, .string m]] w (SaysT ⟨#[]⟩ w) := by
  by_cases h0 : 1 ≤ p ∧ p ≤ 5
  · have H0 := Lib.hid h0
    have h2 : ¬ NameR m := fun e => h ⟨h0, e⟩
    have HN := Lib.hid (nameB_no h2)
    clear h0 h h2
    go_enter Try.func69, Try.ntmps69
    go_wp2_with (first | ((with_reducible refine (implIn_yes _ H0.out).mono ?_); rintro e w1 ⟨rfl, rfl⟩) | (go_at_call 72; refine (implName_any m _ hm).mono ?_; rw [HN.out]; rintro e w1 ⟨rfl, rfl⟩))
    go_ret
    exact ⟨rfl, below_bk w _⟩
  · have H0 := Lib.hid h0
    clear h0 h
    go_enter Try.func69, Try.ntmps69
    go_wp2_with ((with_reducible refine (implIn_no _ H0.out).mono ?_); rintro e w1 ⟨rfl, rfl⟩)
    go_ret
    exact ⟨rfl, below_bk w _⟩

set_option maxRecDepth 100000 in
set_option maxHeartbeats 1000000 in
theorem implEntryWord_yes (p : Int) (m : ByteArray) (w : World) (h : EntryOk ⟨p, m⟩) :
    Calls Try.prog 69 #[.agg #[.int .i64 p, .string m]] w (SaysT (entryWordB ⟨p, m⟩) w) := by
  have HE := Lib.hid (entryWordB_yes h)
  obtain ⟨h0, h1⟩ := h
  have H0 : Hid (1 ≤ p ∧ p ≤ 5) := Lib.hid h0
  have HN := Lib.hid (nameB_yes h1)
  have hm : m.size ≤ 7 := h1.1.2
  have T0 := Lib.hid (Bk.alloc w #[.int .i64 p, .string m] 57)
  have B0 := Lib.hid (below_bk w (.cells #[.int .i64 p, .string m] 57))
  have hA : (numTextB p 1).size = 1 := numText_size (k := 1) (by omega) (by have := H0.out.1; omega) (by have := H0.out.2; omega)
  obtain ⟨A, hAe⟩ : ∃ A, numTextB p 1 = A := ⟨_, rfl⟩
  have HA := Lib.hid hAe
  rw [hAe] at hA
  have hA1 : ¬ (9223372036854775807 < A.size + m.size) := by omega
  have T0d := Lib.hid T0.out.drew
  have B0d : Hid (Below w.heap.size w (w.alloc (.cells #[.int .i64 p, .string m] 57)).drew) := Lib.hid B0.out.drew
  clear h0 h1 hAe hA
  go_enter Try.func69, Try.ntmps69
  go_wp2_with (first | ((with_reducible refine (implIn_yes _ H0.out).mono ?_); rintro e w1 ⟨rfl, rfl⟩) | (go_at_call 72; refine (implName_any m _ (by omega)).mono ?_; rw [HN.out]; rintro e w1 ⟨rfl, rfl⟩))
  go_region_held3 (fun w' => w'.cell? ⟨w.heap.size, 0, none⟩ = some (.int .i64 p) ∧ w'.cell? ⟨w.heap.size, 1, none⟩ = some (.string m))
    (first
      | exact ⟨T0d.out.cell rfl, T0d.out.cell rfl⟩
      | exact ⟨T1.out.cell rfl, T1.out.cell rfl⟩
      | exact ⟨T2.out.cell rfl, T2.out.cell rfl⟩
      | go_keep)
    (first
      | (go_at_call 71; (with_reducible refine (implNum_any p 1 _ (by have := H0.out.2; omega)).mono ?_); rw [HA.out]; rintro e w1 ⟨rfl, hb⟩; have T1 := Lib.hid (T0d.out.later hb); have B1 : Hid (Below w.heap.size w w1) := Lib.hid (B0d.out.trans (hb.mono B0d.out.size)); clear hb)
      | (go_at_call 73; (with_reducible refine (implWord_any (A ++ m) _).mono ?_); rintro e w2 ⟨rfl, hb⟩; have T2 := Lib.hid (T1.out.later hb); have B2 : Hid (Below w.heap.size w w2) := Lib.hid (B1.out.trans (hb.mono B1.out.size)); clear hb))
  go_wp2
  go_ret
  exact ⟨by rw [HE.out, HA.out]; rfl, B2.out⟩
theorem implEntryWord_any (p : Int) (m : ByteArray) (w : World) (hm : m.size ≤ 2000000) :
    Calls Try.prog 69 #[.agg #[.int .i64 p, .string m]] w (SaysT (entryWordB ⟨p, m⟩) w) := by
  by_cases h : EntryOk ⟨p, m⟩
  · exact implEntryWord_yes p m w h
  · rw [entryWordB_no h]; exact implEntryWord_no p m w hm h

end Go.Proofs.Ytmkchilhnmkhkab
namespace Go.Proofs.Ytmkchilhnmkhkab
open Go.RowKit Go.Proofs.Ytmkchilhnmkhkab.Parts Go.Proofs.Ytmkchilhnmkhkab.Hexa Go.Proofs.Ytmkchilhnmkhkab.Byt

/-- The name ahead of the k-th. -/
def prevT (E : List EntryR) (k : Nat) : ByteArray := if k = 0 then ⟨#[]⟩ else (E.getD (k - 1) default).f1
theorem prevT_next (E : List EntryR) (k : Nat) : prevT E (k + 1) = (E.getD k default).f1 := by unfold prevT; rw [if_neg (by omega)]; rfl
theorem text_first {m : ByteArray} (h : 0 < m.size) : textLt ⟨#[]⟩ m = true := by
  unfold textLt
  rw [Go.ByteArray.toList_eq, Go.ByteArray.toList_eq]
  have hl : 0 < m.data.toList.length := by simpa using h
  match m.data.toList, hl with
  | x :: r, _ => rfl
theorem entsOk_on {E : List EntryR} {m : Nat} (h : EntsOk E m) (h1 : EntryOk (E.getD m default)) (h2 : textLt (prevT E m) (E.getD m default).f1 = true) : EntsOk E (m + 1) :=
  entsOk_step h h1 (fun h0 => by unfold prevT at h2; rw [if_neg (by omega)] at h2; exact h2)
theorem entsOk_prev {E : List EntryR} {n k : Nat} (h : EntsOk E n) (hk : k < n) : textLt (prevT E k) (E.getD k default).f1 = true := by
  unfold prevT
  by_cases h0 : k = 0
  · rw [if_pos h0]; exact text_first (by have := (h k hk).1.2.1; omega)
  · rw [if_neg h0]; exact (h k hk).2 (by omega)

end Go.Proofs.Ytmkchilhnmkhkab
namespace Go.Proofs.Ytmkchilhnmkhkab
open Go.RowKit Go.Proofs.Ytmkchilhnmkhkab.Parts Go.Proofs.Ytmkchilhnmkhkab.Hexa Go.Proofs.Ytmkchilhnmkhkab.Byt

theorem bytes_tri : ∀ a b : List UInt8, (Op.bytesLess b a = true ∧ Op.bytesLess a b = false ∧ (a == b) = false) ∨ (Op.bytesLess b a = false ∧ Op.bytesLess a b = true) ∨ (Op.bytesLess b a = false ∧ Op.bytesLess a b = false ∧ (a == b) = true)
  | [], [] => .inr (.inr ⟨rfl, rfl, rfl⟩)
  | [], y :: s => .inr (.inl ⟨rfl, rfl⟩)
  | x :: r, [] => .inl ⟨rfl, rfl, rfl⟩
  | x :: r, y :: s => by
    have ih := bytes_tri r s
    simp only [Op.bytesLess]
    by_cases h1 : x = y
    · subst h1
      have hl : ¬ (x < x) := UInt8.lt_irrefl x
      simpa [hl] using ih
    · rcases UInt8.lt_or_lt_of_ne h1 with h | h
      · have h2 : ¬ (y < x) := UInt8.not_lt.2 (UInt8.le_of_lt h)
        have h3 : ¬ (y = x) := fun e => h1 e.symm
        simp [h, h2, h1, h3]
      · have h2 : ¬ (x < y) := UInt8.not_lt.2 (UInt8.le_of_lt h)
        simp [h, h2, h1]
theorem text_tri (m u : ByteArray) : (textLt u m = true ∧ Op.bytesLess m.toList u.toList = false ∧ (m.toList == u.toList) = false) ∨ (textLt u m = false ∧ Op.bytesLess m.toList u.toList = true) ∨ (textLt u m = false ∧ Op.bytesLess m.toList u.toList = false ∧ (m.toList == u.toList) = true) :=
  bytes_tri m.toList u.toList
section
variable (aE : Option Addr) (nE cE : Nat) (w : World) (E : List EntryR)

set_option maxRecDepth 100000 in
set_option maxHeartbeats 2000000 in
theorem implDir_yes (h6 : nE ≤ 6) (hs : SrcEntry w aE nE E) (hf : FitEntry E nE 2000000) (b : Bool) (hb : b = true ↔ EntsOk E nE) :
    Calls Try.prog 58 #[.agg #[.slice aE nE cE]] w (SaysB b w) := by
  have HF := Lib.hid hf
  have HG := Lib.hid hb
  have B0 := Lib.hid (below_bk w (.cells #[.slice aE nE cE] 91))
  have HS := Lib.hid hs
  have e6 : decide ((6 : Int) < (nE : Int)) = false := by simp; omega
  clear hs hf hb
  go_enter Try.func58, Try.ntmps58
  go_wp2
  go_loopw [13, 3] (fun iv sv wr => ∃ (k : Nat) (u : ByteArray), k ≤ nE ∧ iv = .int .i64 k ∧ sv = .string u ∧ Hid (u = prevT E k) ∧ Hid (EntsOk E k) ∧ Hid (Below w.heap.size w wr)) (fun iv _ _ => nE - (intOf iv).toNat)
  case atStart => exact ⟨0, _, Nat.zero_le _, rfl, rfl, Lib.hid rfl, Lib.hid (fun j hj => by omega), B0⟩
  case round =>
    obtain ⟨k, u, hk, rfl, rfl, HU, HA, HB⟩ := hrel
    by_cases hlt : k < nE
    · obtain ⟨g, off, ha, hg, d0, d1⟩ := srcEntry_later HS.out HB.out (Nat.le_refl _) k hlt
      obtain ⟨⟨p, m⟩, hx⟩ : ∃ x, E.getD k default = x := ⟨_, rfl⟩
      have hm := HF.out k hlt
      rw [hx] at d0 d1 hm
      simp only at d0 d1 hm
      have HX := Lib.hid hx
      have HM := Lib.hid hm
      have X0 := Lib.hid (Bk.alloc wr #[.int .i64 p, .string m] 57)
      have HBa : Hid (Below w.heap.size w (wr.alloc (.cells #[.int .i64 p, .string m] 57))) := Lib.hid (HB.out.alloc HB.out.size _)
      subst ha
      clear hx hm
      by_cases i1 : EntryOk ⟨p, m⟩
      · have hT8 := entryWord_size i1
        have I1 := Lib.hid i1
        obtain ⟨T, hT⟩ : ∃ T, entryWordB ⟨p, m⟩ = T := ⟨_, rfl⟩
        have HT := Lib.hid hT
        rw [hT] at hT8
        have e1 : (T.toList == []) = false := text_full T (by omega)
        clear i1 hT hT8
        go_wp2_with fail
        refine (implEntryWord_any p m _ HM.out).mono ?_
        rw [HT.out]
        rintro e w1 ⟨rfl, hb1⟩
        have X1 := Lib.hid (X0.out.later hb1)
        have B1 : Hid (Below w.heap.size w w1) := Lib.hid (HBa.out.trans (hb1.mono HBa.out.size))
        have x1 := X1.out.cell (j := 1) rfl
        have HU2 : Hid (m = prevT E (k + 1)) := Lib.hid (by rw [prevT_next, HX.out])
        clear hb1 d0 d1 HB HBa
        rcases text_tri m u with ⟨i2, i3, i4⟩ | ⟨i2, i3⟩ | ⟨i2, i3, i4⟩
        · have HA2 : Hid (EntsOk E (k + 1)) := Lib.hid (entsOk_on HA.out (by rw [HX.out]; exact I1.out) (by rw [HX.out, ← HU.out]; exact i2))
          clear i2
          go_wp2
          clear x1 i3 i4
          go_roundw
          case rel => exact ⟨k + 1, _, by omega, by go_num, rfl, HU2, HA2, B1⟩
          case measure => (simp [intOf]; try omega)
        · obtain rfl : b = false := bool_no HG.out (fun x => by have h9 := entsOk_prev x hlt; rw [HX.out, ← HU.out] at h9; change textLt u m = true at h9; rw [i2] at h9; cases h9)
          clear i2
          go_wp2
          go_ret
          exact ⟨rfl, B1.out⟩
        · obtain rfl : b = false := bool_no HG.out (fun x => by have h9 := entsOk_prev x hlt; rw [HX.out, ← HU.out] at h9; change textLt u m = true at h9; rw [i2] at h9; cases h9)
          clear i2
          go_wp2
          go_ret
          exact ⟨rfl, B1.out⟩
      · have HT := Lib.hid (entryWordB_no i1)
        obtain rfl : b = false := bool_no HG.out (fun x => i1 (by have h9 := (x k hlt).1; rw [HX.out] at h9; exact h9))
        clear i1
        go_wp2_with fail
        refine (implEntryWord_any p m _ HM.out).mono ?_
        rw [HT.out]
        rintro e w1 ⟨rfl, hb1⟩
        have B1 : Hid (Below w.heap.size w w1) := Lib.hid (HBa.out.trans (hb1.mono HBa.out.size))
        clear hb1 d0 d1 HB HBa
        go_wp2
        go_ret
        exact ⟨rfl, B1.out⟩
    · obtain rfl : k = nE := by omega
      obtain rfl : b = true := HG.out.2 HA.out
      go_wp2
      go_ret
      exact ⟨rfl, HB.out⟩
theorem implDir_any (hn : nE ≤ 9223372036854775807) (hs : SrcEntry w aE nE E) (hf : FitEntry E nE 2000000) (b : Bool) (hb : b = true ↔ (nE ≤ 6 ∧ EntsOk E nE)) :
    Calls Try.prog 58 #[.agg #[.slice aE nE cE]] w (SaysB b w) := by
  by_cases h : nE ≤ 6
  · exact implDir_yes aE nE cE w E h hs hf b ⟨fun e => (hb.1 e).2, fun e => hb.2 ⟨h, e⟩⟩
  · obtain rfl : b = false := bool_no hb (fun x => h x.1)
    have B0 := Lib.hid (below_bk w (.cells #[.slice aE nE cE] 91))
    clear hb hs hf
    have h7 : (6 : Int) < (nE : Int) := by omega
    go_enter Try.func58, Try.ntmps58
    go_wp2
    go_ret
    exact ⟨rfl, B0.out⟩
end
end Go.Proofs.Ytmkchilhnmkhkab
namespace Go.Proofs.Ytmkchilhnmkhkab
open Go.RowKit Go.Proofs.Ytmkchilhnmkhkab.Parts Go.Proofs.Ytmkchilhnmkhkab.Hexa Go.Proofs.Ytmkchilhnmkhkab.Byt

/-- What bodyOf returns. -/
def bodyV (kd sz : Int) (key : ByteArray) (aR : Option Addr) (nR cR : Nat) (aE : Option Addr) (nE cE : Nat) : Value :=
  if kd = 0 then .iface 93 (.agg #[]) else if kd = 1 then .iface 88 (.agg #[.int .i64 sz, .string key, .slice aR nR cR])
  else if kd = 2 then .iface 91 (.agg #[.slice aE nE cE]) else .nilIface

section
variable (kd sz gn : Int) (key : ByteArray) (aR : Option Addr) (nR cR : Nat) (aE : Option Addr) (nE cE : Nat) (w : World)

set_option maxRecDepth 100000 in
set_option maxHeartbeats 1000000 in
theorem implBody_any :
    Calls Try.prog 56 #[.agg #[.int .i64 kd, .int .i64 sz, .int .i64 gn, .string key, .slice aR nR cR, .slice aE nE cE]] w fun e w' => e = .returned (bodyV kd sz key aR nR cR aE nE cE) ∧ Below w.heap.size w w' := by
  have B0 := Lib.hid (below_bk w (inoObj kd sz gn key aR nR cR aE nE cE))
  by_cases h0 : kd = 0
  · subst h0
    go_enter Try.func56, Try.ntmps56
    go_wp2
    go_ret
    exact ⟨rfl, B0.out⟩
  · have e0 : (kd == 0) = false := by simpa using h0
    by_cases h1 : kd = 1
    · subst h1
      go_enter Try.func56, Try.ntmps56
      go_wp2
      go_ret
      exact ⟨rfl, B0.out⟩
    · have e1 : (kd == 1) = false := by simpa using h1
      by_cases h2 : kd = 2
      · subst h2
        go_enter Try.func56, Try.ntmps56
        go_wp2
        go_ret
        exact ⟨rfl, B0.out⟩
      · have e2 : (kd == 2) = false := by simpa using h2
        have HE : Hid (bodyV kd sz key aR nR cR aE nE cE = .nilIface) := Lib.hid (by unfold bodyV; rw [if_neg h0, if_neg h1, if_neg h2])
        clear h0 h1 h2
        go_enter Try.func56, Try.ntmps56
        go_wp2
        go_ret
        exact ⟨by rw [HE.out]; rfl, B0.out⟩
end
end Go.Proofs.Ytmkchilhnmkhkab
namespace Go.Proofs.Ytmkchilhnmkhkab
open Go.RowKit

theorem as_file (v : Value) (w : World) : (Instr.typeAssert (.iface 88 v) 85 88 true).run Try.prog w = .ok (.tuple #[v, .bool true]) w := by kernel_rfl
theorem as_dir (v : Value) (w : World) : (Instr.typeAssert (.iface 91 v) 85 91 true).run Try.prog w = .ok (.tuple #[v, .bool true]) w := by kernel_rfl
theorem as_free (v : Value) (w : World) : (Instr.typeAssert (.iface 93 v) 85 93 true).run Try.prog w = .ok (.tuple #[v, .bool true]) w := by kernel_rfl
theorem free_no_file (v : Value) (w : World) : (Instr.typeAssert (.iface 93 v) 85 88 true).run Try.prog w = .ok (.tuple #[.agg #[.int .i64 0, .string ⟨#[]⟩, .slice none 0 0], .bool false]) w := by kernel_rfl
theorem dir_no_file (v : Value) (w : World) : (Instr.typeAssert (.iface 91 v) 85 88 true).run Try.prog w = .ok (.tuple #[.agg #[.int .i64 0, .string ⟨#[]⟩, .slice none 0 0], .bool false]) w := by kernel_rfl
theorem nil_no_file (w : World) : (Instr.typeAssert .nilIface 85 88 true).run Try.prog w = .ok (.tuple #[.agg #[.int .i64 0, .string ⟨#[]⟩, .slice none 0 0], .bool false]) w := by kernel_rfl
theorem free_no_dir (v : Value) (w : World) : (Instr.typeAssert (.iface 93 v) 85 91 true).run Try.prog w = .ok (.tuple #[.agg #[.slice none 0 0], .bool false]) w := by kernel_rfl
theorem nil_no_dir (w : World) : (Instr.typeAssert .nilIface 85 91 true).run Try.prog w = .ok (.tuple #[.agg #[.slice none 0 0], .bool false]) w := by kernel_rfl
theorem nil_no_free (w : World) : (Instr.typeAssert .nilIface 85 93 true).run Try.prog w = .ok (.tuple #[.agg #[], .bool false]) w := by kernel_rfl
end Go.Proofs.Ytmkchilhnmkhkab
namespace Go.Proofs.Ytmkchilhnmkhkab
open Go.RowKit Go.Proofs.Ytmkchilhnmkhkab.Parts Go.Proofs.Ytmkchilhnmkhkab.Hexa Go.Proofs.Ytmkchilhnmkhkab.Byt

theorem bool_of (p : Prop) : ∃ b : Bool, b = true ↔ p := by
  by_cases h : p
  · exact ⟨true, by simp [h]⟩
  · exact ⟨false, by simp [h]⟩
theorem noFile_cases (sz : Int) (key : ByteArray) (nR : Nat) : (sz = 0 ∧ key = ⟨#[]⟩ ∧ nR = 0) ∨ (sz = 0 ∧ key = ⟨#[]⟩ ∧ 0 < nR) ∨ (sz = 0 ∧ 0 < key.size) ∨ sz ≠ 0 := by
  by_cases h1 : sz = 0
  · by_cases h2 : key.size = 0
    · obtain rfl := text_nothing h2
      by_cases h3 : nR = 0
      · exact .inl ⟨h1, rfl, h3⟩
      · exact .inr (.inl ⟨h1, rfl, by omega⟩)
    · exact .inr (.inr (.inl ⟨h1, by omega⟩))
  · exact .inr (.inr (.inr h1))
/-- Neither a size nor a key nor records. -/
def noFileB (sz : Int) (key : ByteArray) (nR : Nat) : Bool := decide (sz = 0 ∧ key.size = 0 ∧ nR = 0)

section
variable (sz gn : Int) (key : ByteArray) (aR : Option Addr) (nR cR : Nat) (aE : Option Addr) (nE cE : Nat) (w : World)

set_option maxRecDepth 100000 in
set_option maxHeartbeats 1000000 in
theorem implIno_gen (kd : Int) (h : ¬ (0 ≤ gn ∧ gn ≤ 65535)) :
    Calls Try.prog 41 #[.agg #[.int .i64 kd, .int .i64 sz, .int .i64 gn, .string key, .slice aR nR cR, .slice aE nE cE]] w (SaysB false w) := by
  have H0 := Lib.hid h
  have B0 := Lib.hid (below_bk w (inoObj kd sz gn key aR nR cR aE nE cE))
  clear h
  go_enter Try.func41, Try.ntmps41
  go_wp2_with ((with_reducible refine (implIn_no _ H0.out).mono ?_); rintro e w1 ⟨rfl, rfl⟩)
  go_ret
  exact ⟨rfl, B0.out⟩

set_option maxRecDepth 100000 in
set_option maxHeartbeats 1000000 in
theorem implIno_free (h : 0 ≤ gn ∧ gn ≤ 65535) (b : Bool) (hb : b = true ↔ (noFileB sz key nR = true ∧ nE = 0)) :
    Calls Try.prog 41 #[.agg #[.int .i64 0, .int .i64 sz, .int .i64 gn, .string key, .slice aR nR cR, .slice aE nE cE]] w (SaysB b w) := by
  have H0 := Lib.hid h
  have HG := Lib.hid hb
  have K0 := Lib.hid (Bk.alloc w (inoCs 0 sz gn key aR nR cR aE nE cE) 54)
  have B0 := Lib.hid (below_bk w (inoObj 0 sz gn key aR nR cR aE nE cE))
  have HC : Hid (∀ W : World, Calls Try.prog 56 #[.agg #[.int .i64 0, .int .i64 sz, .int .i64 gn, .string key, .slice aR nR cR, .slice aE nE cE]] W fun e w' => e = .returned (.iface 93 (.agg #[])) ∧ Below W.heap.size W w') := Lib.hid (fun W => implBody_any 0 sz gn key aR nR cR aE nE cE W)
  clear h hb
  go_enter Try.func41, Try.ntmps41
  go_upto_region 3 with ((with_reducible refine (implIn_yes _ H0.out).mono ?_); rintro e w1 ⟨rfl, rfl⟩)
  go_cut [3] (fun v wx => v = .bool (noFileB sz key nR) ∧ wx = w.alloc (inoObj 0 sz gn key aR nR cR aE nE cE))
  case first =>
    rcases noFile_cases sz key nR with ⟨rfl, rfl, rfl⟩ | ⟨rfl, rfl, h3⟩ | ⟨rfl, h3⟩ | h3
    · go_wp2_with fail
      go_meet
      exact ⟨rfl, rfl⟩
    · have e3 : ((nR : Int) == 0) = false := by simp; omega
      have HF9 : Hid (noFileB 0 ⟨#[]⟩ nR = false) := Lib.hid (decide_eq_false (fun x => by omega))
      go_wp2_with fail
      go_meet
      exact ⟨by rw [HF9.out], rfl⟩
    · have e4 : (key.toList == []) = false := text_full key (by omega)
      have HF9 : Hid (noFileB 0 key nR = false) := Lib.hid (decide_eq_false (fun x => by omega))
      go_wp2_with fail
      go_meet
      exact ⟨by rw [HF9.out], rfl⟩
    · have e4 : (sz == 0) = false := by simpa using h3
      have HF9 : Hid (noFileB sz key nR = false) := Lib.hid (decide_eq_false (fun x => h3 x.1))
      clear h3
      go_wp2_with fail
      go_meet
      exact ⟨by rw [HF9.out], rfl⟩
  case rest =>
    obtain ⟨rfl, rfl⟩ := hcut
    go_wp2_with fail
    refine (HC.out _).mono ?_
    rintro e w1 ⟨rfl, hb1⟩
    have B1 : Hid (Below w.heap.size w w1) := Lib.hid (B0.out.trans (hb1.mono B0.out.size))
    clear hb1
    have a1 := free_no_file (.agg #[]) w1
    have a2 := free_no_dir (.agg #[]) w1
    have a3 := as_free (.agg #[]) w1
    have e9 : ((nE : Int) == 0) = decide (nE = 0) := by by_cases h : nE = 0 <;> simp [h]
    obtain ⟨f, hf⟩ : ∃ f, noFileB sz key nR = f := ⟨_, rfl⟩
    rw [hf] at HG ⊢
    clear hf
    cases f
    · obtain rfl : b = false := bool_no HG.out (fun x => by cases x.1)
      go_wp2
      go_ret
      exact ⟨rfl, B1.out.alloc B1.out.size _⟩
    · obtain rfl : b = decide (nE = 0) := by
        by_cases h : nE = 0
        · rw [HG.out.2 ⟨rfl, h⟩, decide_eq_true h]
        · rw [bool_no HG.out (fun x => h x.2), decide_eq_false h]
      go_wp2
      go_ret
      exact ⟨rfl, B1.out.alloc B1.out.size _⟩

set_option maxRecDepth 100000 in
set_option maxHeartbeats 1000000 in
theorem implIno_file (h : 0 ≤ gn ∧ gn ≤ 65535) (R : List RecR) (hz : -9223372036854775808 ≤ sz ∧ sz ≤ 9223372036854775807) (hs : SrcRec w aR nR R) (hf : FitRec R nR 2000000) (b : Bool)
    (hb : b = true ↔ (((0 ≤ sz ∧ sz ≤ 128) ∧ key.size = 8 ∧ (nR : Int) = pagesZ sz ∧ RecsOk R nR) ∧ nE = 0)) :
    Calls Try.prog 41 #[.agg #[.int .i64 1, .int .i64 sz, .int .i64 gn, .string key, .slice aR nR cR, .slice aE nE cE]] w (SaysB b w) := by
  obtain ⟨b1, hb1⟩ : ∃ b1 : Bool, b1 = true ↔ ((0 ≤ sz ∧ sz ≤ 128) ∧ key.size = 8 ∧ (nR : Int) = pagesZ sz ∧ RecsOk R nR) := bool_of _
  have hb2 : b = true ↔ (b1 = true ∧ nE = 0) := by rw [hb, hb1]
  have H0 := Lib.hid h
  have HG := Lib.hid hb2
  have HG1 := Lib.hid hb1
  have HZ := Lib.hid hz
  have HS := Lib.hid hs
  have HF := Lib.hid hf
  have K0 := Lib.hid (Bk.alloc w (inoCs 1 sz gn key aR nR cR aE nE cE) 54)
  have B0 := Lib.hid (below_bk w (inoObj 1 sz gn key aR nR cR aE nE cE))
  have HC : Hid (∀ W : World, Calls Try.prog 56 #[.agg #[.int .i64 1, .int .i64 sz, .int .i64 gn, .string key, .slice aR nR cR, .slice aE nE cE]] W fun e w' => e = .returned (.iface 88 (.agg #[.int .i64 sz, .string key, .slice aR nR cR])) ∧ Below W.heap.size W w') := Lib.hid (fun W => implBody_any 1 sz gn key aR nR cR aE nE cE W)
  clear h hb hb1 hb2 hz hs hf
  go_enter Try.func41, Try.ntmps41
  go_upto_region 3 with ((with_reducible refine (implIn_yes _ H0.out).mono ?_); rintro e w1 ⟨rfl, rfl⟩)
  go_cut [3] (fun v wx => v = .bool (noFileB sz key nR) ∧ wx = w.alloc (inoObj 1 sz gn key aR nR cR aE nE cE))
  case first =>
    rcases noFile_cases sz key nR with ⟨rfl, rfl, rfl⟩ | ⟨rfl, rfl, h3⟩ | ⟨rfl, h3⟩ | h3
    · go_wp2_with fail
      go_meet
      exact ⟨rfl, rfl⟩
    · have e3 : ((nR : Int) == 0) = false := by simp; omega
      have HF9 : Hid (noFileB 0 ⟨#[]⟩ nR = false) := Lib.hid (decide_eq_false (fun x => by omega))
      go_wp2_with fail
      go_meet
      exact ⟨by rw [HF9.out], rfl⟩
    · have e4 : (key.toList == []) = false := text_full key (by omega)
      have HF9 : Hid (noFileB 0 key nR = false) := Lib.hid (decide_eq_false (fun x => by omega))
      go_wp2_with fail
      go_meet
      exact ⟨by rw [HF9.out], rfl⟩
    · have e4 : (sz == 0) = false := by simpa using h3
      have HF9 : Hid (noFileB sz key nR = false) := Lib.hid (decide_eq_false (fun x => h3 x.1))
      clear h3
      go_wp2_with fail
      go_meet
      exact ⟨by rw [HF9.out], rfl⟩
  case rest =>
    obtain ⟨rfl, rfl⟩ := hcut
    go_wp2_with fail
    refine (HC.out _).mono ?_
    rintro e w1 ⟨rfl, hb1⟩
    have B1 : Hid (Below w.heap.size w w1) := Lib.hid (B0.out.trans (hb1.mono B0.out.size))
    clear hb1
    have a1 := as_file (.agg #[.int .i64 sz, .string key, .slice aR nR cR]) w1
    have e9 : ((nE : Int) == 0) = decide (nE = 0) := by by_cases h : nE = 0 <;> simp [h]
    have B2 : Hid (Below w.heap.size w (w1.alloc (.cells #[.int .i64 sz, .string key, .slice aR nR cR] 88))) := Lib.hid (B1.out.alloc B1.out.size _)
    go_wp2_with fail
    refine (implFile_any sz key aR nR cR _ R HZ.out (HS.out.later B2.out) HF.out b1 HG1.out).mono ?_
    rintro e w2 ⟨rfl, hb2⟩
    have B3 : Hid (Below w.heap.size w w2) := Lib.hid (B2.out.trans (hb2.mono B2.out.size))
    clear hb2 HG1
    cases b1
    · obtain rfl : b = false := bool_no HG.out (fun x => by cases x.1)
      go_wp2
      go_ret
      exact ⟨rfl, B3.out⟩
    · obtain rfl : b = decide (nE = 0) := by
        by_cases h : nE = 0
        · rw [HG.out.2 ⟨rfl, h⟩, decide_eq_true h]
        · rw [bool_no HG.out (fun x => h x.2), decide_eq_false h]
      go_wp2
      go_ret
      exact ⟨rfl, B3.out⟩

set_option maxRecDepth 100000 in
set_option maxHeartbeats 1000000 in
theorem implIno_dir (h : 0 ≤ gn ∧ gn ≤ 65535) (E : List EntryR) (hn : nE ≤ 9223372036854775807) (hs : SrcEntry w aE nE E) (hf : FitEntry E nE 2000000) (b : Bool)
    (hb : b = true ↔ ((nE ≤ 6 ∧ EntsOk E nE) ∧ noFileB sz key nR = true)) :
    Calls Try.prog 41 #[.agg #[.int .i64 2, .int .i64 sz, .int .i64 gn, .string key, .slice aR nR cR, .slice aE nE cE]] w (SaysB b w) := by
  obtain ⟨b1, hb1⟩ : ∃ b1 : Bool, b1 = true ↔ (nE ≤ 6 ∧ EntsOk E nE) := bool_of _
  have hb2 : b = true ↔ (b1 = true ∧ noFileB sz key nR = true) := by rw [hb, hb1]
  have H0 := Lib.hid h
  have HG := Lib.hid hb2
  have HG1 := Lib.hid hb1
  have HN := Lib.hid hn
  have HS := Lib.hid hs
  have HF := Lib.hid hf
  have K0 := Lib.hid (Bk.alloc w (inoCs 2 sz gn key aR nR cR aE nE cE) 54)
  have B0 := Lib.hid (below_bk w (inoObj 2 sz gn key aR nR cR aE nE cE))
  have HC : Hid (∀ W : World, Calls Try.prog 56 #[.agg #[.int .i64 2, .int .i64 sz, .int .i64 gn, .string key, .slice aR nR cR, .slice aE nE cE]] W fun e w' => e = .returned (.iface 91 (.agg #[.slice aE nE cE])) ∧ Below W.heap.size W w') := Lib.hid (fun W => implBody_any 2 sz gn key aR nR cR aE nE cE W)
  clear h hb hb1 hb2 hn hs hf
  go_enter Try.func41, Try.ntmps41
  go_upto_region 3 with ((with_reducible refine (implIn_yes _ H0.out).mono ?_); rintro e w1 ⟨rfl, rfl⟩)
  go_cut [3] (fun v wx => v = .bool (noFileB sz key nR) ∧ wx = w.alloc (inoObj 2 sz gn key aR nR cR aE nE cE))
  case first =>
    rcases noFile_cases sz key nR with ⟨rfl, rfl, rfl⟩ | ⟨rfl, rfl, h3⟩ | ⟨rfl, h3⟩ | h3
    · go_wp2_with fail
      go_meet
      exact ⟨rfl, rfl⟩
    · have e3 : ((nR : Int) == 0) = false := by simp; omega
      have HF9 : Hid (noFileB 0 ⟨#[]⟩ nR = false) := Lib.hid (decide_eq_false (fun x => by omega))
      go_wp2_with fail
      go_meet
      exact ⟨by rw [HF9.out], rfl⟩
    · have e4 : (key.toList == []) = false := text_full key (by omega)
      have HF9 : Hid (noFileB 0 key nR = false) := Lib.hid (decide_eq_false (fun x => by omega))
      go_wp2_with fail
      go_meet
      exact ⟨by rw [HF9.out], rfl⟩
    · have e4 : (sz == 0) = false := by simpa using h3
      have HF9 : Hid (noFileB sz key nR = false) := Lib.hid (decide_eq_false (fun x => h3 x.1))
      clear h3
      go_wp2_with fail
      go_meet
      exact ⟨by rw [HF9.out], rfl⟩
  case rest =>
    obtain ⟨rfl, rfl⟩ := hcut
    go_wp2_with fail
    refine (HC.out _).mono ?_
    rintro e w1 ⟨rfl, hb1⟩
    have B1 : Hid (Below w.heap.size w w1) := Lib.hid (B0.out.trans (hb1.mono B0.out.size))
    clear hb1
    have a1 := dir_no_file (.agg #[.slice aE nE cE]) w1
    have a2 := as_dir (.agg #[.slice aE nE cE]) w1
    have B2 : Hid (Below w.heap.size w (w1.alloc (.cells #[.slice aE nE cE] 91))) := Lib.hid (B1.out.alloc B1.out.size _)
    go_wp2_with fail
    refine (implDir_any aE nE cE _ E HN.out (HS.out.later B2.out) HF.out b1 HG1.out).mono ?_
    rintro e w2 ⟨rfl, hb2⟩
    have B3 : Hid (Below w.heap.size w w2) := Lib.hid (B2.out.trans (hb2.mono B2.out.size))
    clear hb2 HG1
    obtain ⟨f, hf⟩ : ∃ f, noFileB sz key nR = f := ⟨_, rfl⟩
    rw [hf] at HG ⊢
    clear hf
    cases b1
    · obtain rfl : b = false := bool_no HG.out (fun x => by cases x.1)
      go_wp2
      go_ret
      exact ⟨rfl, B3.out⟩
    · obtain rfl : b = f := by
        cases f
        · exact bool_no HG.out (fun x => by cases x.2)
        · exact HG.out.2 ⟨rfl, rfl⟩
      go_wp2
      go_ret
      exact ⟨rfl, B3.out⟩

set_option maxRecDepth 100000 in
set_option maxHeartbeats 1000000 in
theorem implIno_other (kd : Int) (h : 0 ≤ gn ∧ gn ≤ 65535) (h0 : ¬ kd = 0) (h1 : ¬ kd = 1) (h2 : ¬ kd = 2) :
    Calls Try.prog 41 #[.agg #[.int .i64 kd, .int .i64 sz, .int .i64 gn, .string key, .slice aR nR cR, .slice aE nE cE]] w (SaysB false w) := by
  have H0 := Lib.hid h
  have K0 := Lib.hid (Bk.alloc w (inoCs kd sz gn key aR nR cR aE nE cE) 54)
  have B0 := Lib.hid (below_bk w (inoObj kd sz gn key aR nR cR aE nE cE))
  have HC : Hid (∀ W : World, Calls Try.prog 56 #[.agg #[.int .i64 kd, .int .i64 sz, .int .i64 gn, .string key, .slice aR nR cR, .slice aE nE cE]] W fun e w' => e = .returned (.nilIface) ∧ Below W.heap.size W w') := Lib.hid (fun W => by have h9 := implBody_any kd sz gn key aR nR cR aE nE cE W; unfold bodyV at h9; rw [if_neg h0, if_neg h1, if_neg h2] at h9; exact h9)
  clear h h0 h1 h2
  go_enter Try.func41, Try.ntmps41
  go_upto_region 3 with ((with_reducible refine (implIn_yes _ H0.out).mono ?_); rintro e w1 ⟨rfl, rfl⟩)
  go_cut [3] (fun v wx => v = .bool (noFileB sz key nR) ∧ wx = w.alloc (inoObj kd sz gn key aR nR cR aE nE cE))
  case first =>
    rcases noFile_cases sz key nR with ⟨rfl, rfl, rfl⟩ | ⟨rfl, rfl, h3⟩ | ⟨rfl, h3⟩ | h3
    · go_wp2_with fail
      go_meet
      exact ⟨rfl, rfl⟩
    · have e3 : ((nR : Int) == 0) = false := by simp; omega
      have HF9 : Hid (noFileB 0 ⟨#[]⟩ nR = false) := Lib.hid (decide_eq_false (fun x => by omega))
      go_wp2_with fail
      go_meet
      exact ⟨by rw [HF9.out], rfl⟩
    · have e4 : (key.toList == []) = false := text_full key (by omega)
      have HF9 : Hid (noFileB 0 key nR = false) := Lib.hid (decide_eq_false (fun x => by omega))
      go_wp2_with fail
      go_meet
      exact ⟨by rw [HF9.out], rfl⟩
    · have e4 : (sz == 0) = false := by simpa using h3
      have HF9 : Hid (noFileB sz key nR = false) := Lib.hid (decide_eq_false (fun x => h3 x.1))
      clear h3
      go_wp2_with fail
      go_meet
      exact ⟨by rw [HF9.out], rfl⟩
  case rest =>
    obtain ⟨rfl, rfl⟩ := hcut
    go_wp2_with fail
    refine (HC.out _).mono ?_
    rintro e w1 ⟨rfl, hb1⟩
    have B1 : Hid (Below w.heap.size w w1) := Lib.hid (B0.out.trans (hb1.mono B0.out.size))
    clear hb1
    have a1 := nil_no_file w1
    have a2 := nil_no_dir w1
    have a3 := nil_no_free w1
    go_wp2
    go_ret
    exact ⟨rfl, B1.out⟩
end

theorem implIno_any (kd sz gn : Int) (key : ByteArray) (aR : Option Addr) (nR cR : Nat) (aE : Option Addr) (nE cE : Nat) (w : World) (R : List RecR) (E : List EntryR)
    (hz : -9223372036854775808 ≤ sz ∧ sz ≤ 9223372036854775807) (hn : nE ≤ 9223372036854775807) (hs : SrcRec w aR nR R) (hf : FitRec R nR 2000000) (hs' : SrcEntry w aE nE E) (hf' : FitEntry E nE 2000000) :
    Calls Try.prog 41 #[.agg #[.int .i64 kd, .int .i64 sz, .int .i64 gn, .string key, .slice aR nR cR, .slice aE nE cE]] w (SaysB (inoB ⟨kd, sz, gn, key, R, E⟩) w) := by
  have hlR : R.length = nR := hs.len
  have hlE : E.length = nE := hs'.len
  by_cases hg : 0 ≤ gn ∧ gn ≤ 65535
  · by_cases h0 : kd = 0
    · subst h0
      exact implIno_free sz gn key aR nR cR aE nE cE w hg _ (by rw [inoB_iff, inoOk_free hg]; subst hlR hlE; simp [noFileB, and_assoc])
    · by_cases h1 : kd = 1
      · subst h1
        exact implIno_file sz gn key aR nR cR aE nE cE w hg R hz hs hf _ (by
          rw [inoB_iff, inoOk_file hg]
          subst hlR hlE
          exact ⟨fun x => ⟨⟨x.1, x.2.1, x.2.2.1, x.2.2.2.2⟩, x.2.2.2.1⟩, fun x => ⟨x.1.1, x.1.2.1, x.1.2.2.1, x.2, x.1.2.2.2⟩⟩)
      · by_cases h2 : kd = 2
        · subst h2
          exact implIno_dir sz gn key aR nR cR aE nE cE w hg E hn hs' hf' _ (by
            rw [inoB_iff, inoOk_dir hg]
            subst hlR hlE
            simp only [noFileB, decide_eq_true_eq]
            exact ⟨fun x => ⟨⟨x.2.2.2.1, x.2.2.2.2⟩, x.1, x.2.1, x.2.2.1⟩, fun x => ⟨x.2.1, x.2.2.1, x.2.2.2, x.1.1, x.1.2⟩⟩)
        · rw [inoB_no (fun x => by
            rcases x with ⟨_, ⟨e, _⟩ | ⟨e, _⟩ | ⟨e, _⟩⟩
            · exact h0 e
            · exact h1 e
            · exact h2 e)]
          exact implIno_other sz gn key aR nR cR aE nE cE w kd hg h0 h1 h2
  · rw [inoB_no (fun x => hg x.1)]
    exact implIno_gen sz gn key aR nR cR aE nE cE w kd hg
end Go.Proofs.Ytmkchilhnmkhkab
namespace Go.Proofs.Ytmkchilhnmkhkab
open Go.RowKit Go.Proofs.Ytmkchilhnmkhkab.Parts Go.Proofs.Ytmkchilhnmkhkab.Hexa

set_option maxRecDepth 100000 in
set_option maxHeartbeats 1000000 in
theorem implStOk_any (a : Option Addr) (n c : Nat) (zs : List Int) (p : Int) (w : World) (hs : SrcI w a n zs) (hn : n ≤ 2000000) :
    Calls Try.prog 30 #[.slice a n c, .int .i64 p] w fun e w' => e = .returned (.bool (stB zs p)) ∧ w' = w := by
  have HS := Lib.hid hs
  have HL := Lib.hid hs.len
  clear hs
  by_cases he : (n : Int) = p
  · subst he
    have e1 : ((n : Int) != (n : Int)) = false := by simp
    by_cases h : 1 ≤ (n : Int) ∧ (n : Int) ≤ 12
    · have HP := Lib.hid h
      go_enter Try.func30, Try.ntmps30
      go_wp2_with fail
      refine (implIn_yes _ h).mono ?_
      rintro e w1 ⟨rfl, rfl⟩
      clear h
      go_wp2
      go_loop [18] (fun iv => ∃ k : Nat, k ≤ n ∧ iv = .int .i64 k ∧ Hid (StR zs k)) (fun iv => n - (intOf iv).toNat)
      case atStart => exact ⟨0, Nat.zero_le _, rfl, Lib.hid (fun j hj => by omega)⟩
      case round =>
        obtain ⟨k, hk, rfl, HR⟩ := hrel
        by_cases hlt : k < n
        · obtain ⟨g, off, rfl, _, d⟩ := HS.out.cell k hlt
          obtain ⟨x, hx⟩ : ∃ x, zs.getD k 0 = x := ⟨_, rfl⟩
          rw [hx] at d
          have HX := Lib.hid hx
          clear hx
          by_cases h : 0 ≤ x ∧ x ≤ 2
          · have HR2 : Hid (StR zs (k + 1)) := Lib.hid (fun j hj => by
              by_cases e : j = k
              · subst e; rw [HX.out]; exact h
              · exact HR.out j (by omega))
            go_wp2_with fail
            refine (implIn_yes _ h).mono ?_
            rintro e w1 ⟨rfl, rfl⟩
            clear h
            go_wp2
            go_round
            case rel => exact ⟨k + 1, by omega, by go_num, HR2⟩
            case measure => (simp [intOf]; try omega)
          · have HN := Lib.hid (stB_no (zs := zs) (p := (n : Int)) (fun h9 => h (by rw [← HX.out]; exact h9.1 k (by have := HL.out; omega))))
            go_wp2_with fail
            refine (implIn_no _ h).mono ?_
            rintro e w1 ⟨rfl, rfl⟩
            clear h
            go_wp2
            go_ret
            exact ⟨by rw [HN.out]; rfl, rfl⟩
        · obtain rfl : n = k := by omega
          have HN := Lib.hid (stB_yes (zs := zs) (p := (n : Int)) ⟨by rw [HL.out]; exact HR.out, by rw [HL.out], HP.out⟩)
          go_wp2
          go_ret
          exact ⟨by rw [HN.out]; rfl, rfl⟩
    · have HN := Lib.hid (stB_no (zs := zs) (p := (n : Int)) (fun h9 => h h9.2.2))
      go_enter Try.func30, Try.ntmps30
      go_wp2_with fail
      refine (implIn_no _ h).mono ?_
      rintro e w1 ⟨rfl, rfl⟩
      clear h
      go_wp2
      go_ret
      exact ⟨by rw [HN.out]; rfl, rfl⟩
  · have HN := Lib.hid (stB_no (zs := zs) (p := p) (fun h9 => he (by rw [← h9.2.1, HL.out])))
    have e1 : ((n : Int) != p) = true := by simpa using he
    clear he
    go_enter Try.func30, Try.ntmps30
    go_wp2
    go_ret
    exact ⟨by rw [HN.out]; rfl, rfl⟩

set_option maxRecDepth 100000 in
set_option maxHeartbeats 1000000 in
theorem implPagesWith_any (a : Option Addr) (n c : Nat) (zs : List Int) (s : Int) (w : World) (hs : SrcI w a n zs) (hn : n ≤ 2000000) :
    Calls Try.prog 34 #[.slice a n c, .int .i64 s] w (GivesI (withSt zs s n) w) := by
  obtain ⟨i0, hi, hz0, hz1, hz2⟩ := info_parts infoInt
  have HS := Lib.hid hs
  clear hs
  go_enter Try.func34, Try.ntmps34
  go_wp2
  go_loopw [5, 10] (fun v iv wr => ∃ (k : Nat) (P : List Int), k ≤ n ∧ iv = .int .i64 k ∧ Hid (P = withSt zs s k) ∧ Hid (wr.ownsRow w.heap.size 3 1 v P.length (icells P)) ∧ Hid (Below w.heap.size w wr)) (fun _ iv _ => n - (intOf iv).toNat)
  case atStart => exact ⟨0, [], Nat.zero_le _, rfl, Lib.hid rfl, Lib.hid (World.ownsRow_nil _ _ _ 1), Lib.hid (Below.refl _ _)⟩
  case round =>
    obtain ⟨k, P, hk, rfl, HP, HO, HB⟩ := hrel
    by_cases hlt : k < n
    · obtain ⟨g, off, rfl, _, d⟩ := (HS.out.later HB.out).cell k hlt
      obtain ⟨x, hx⟩ : ∃ x, zs.getD k 0 = x := ⟨_, rfl⟩
      rw [hx] at d
      have hpl : P.length ≤ 2000000 := by rw [HP.out]; have := withSt_len zs s k; omega
      have hsz := HB.out.size
      by_cases h : x = s
      · subst h
        have HE := Lib.hid (withSt_yes (zs := zs) (s := x) hx)
        clear hx
        go_wp2_with (at_builtin; refine wpList_append_own _ rfl (.tmp 18) (.tmp 20) 22 rfl w.heap.size 3 i0 (.int .i64 0) 1 8 Try.underlying22 hi hz0 hz1 hz2 rfl (by decide) _ _ _ rfl (HO.out.alloc _) ⟨wr.heap.size, 0, none⟩ 1 1 [.int .i64 k] rfl rfl (World.news_of_block (heap_alloc_new _ _)) (by simp [Value.oneCell']) (by unfold maxLen; omega) (by omega) (by simp; omega) ?_; intro v2 w2 hown2 hgrow2 hn2)
        have HB2 : Hid (Below w.heap.size w w2) := Lib.hid ((HB.out.alloc hsz _).grown hgrow2 (by simp; omega) (fun k e => (HO.out.lt k e).1))
        have HO2 : Hid (w2.ownsRow w.heap.size 3 1 v2 (P ++ [(k : Int)]).length (icells (P ++ [(k : Int)]))) := Lib.hid (by simpa [icells, List.length_append] using hown2)
        clear hown2 hgrow2 hn2 HO HB d
        go_wp2
        go_roundw
        case rel => exact ⟨k + 1, P ++ [(k : Int)], by omega, by go_num, Lib.hid (by rw [HP.out]; exact HE.out.symm), HO2, HB2⟩
        case measure => (simp [intOf]; try omega)
      · have HE := Lib.hid (withSt_no (zs := zs) (s := s) (n := k) (by rw [hx]; exact h))
        have e1 : (x == s) = false := by simpa using h
        clear hx h
        go_wp2
        go_roundw
        case rel => exact ⟨k + 1, P, by omega, by go_num, Lib.hid (by rw [HP.out]; exact HE.out.symm), HO, HB⟩
        case measure => (simp [intOf]; try omega)
    · obtain rfl : n = k := by omega
      go_wp2
      go_ret
      exact ⟨_, rfl, by rw [← HP.out]; exact HO.out, HB.out⟩
end Go.Proofs.Ytmkchilhnmkhkab
namespace Go.Proofs.Ytmkchilhnmkhkab
open Go.RowKit

set_option maxRecDepth 100000 in
set_option maxHeartbeats 400000 in
theorem implIdx_any (n b : Int) (w : World) : Calls Try.prog 43 #[.int .i64 n, .int .i64 b] w fun e w' => e = .returned (.bool (decide (0 ≤ n ∧ n < b))) ∧ w' = w := by
  by_cases h1 : 0 ≤ n <;> by_cases h2 : n < b
  all_goals
    go_enter Try.func43, Try.ntmps43
    go_wp2
    all_goals go_ret
    all_goals exact ⟨by simp [h1, h2], rfl⟩
theorem implIdx_yes {n b : Int} (w : World) (h : 0 ≤ n ∧ n < b) : Calls Try.prog 43 #[.int .i64 n, .int .i64 b] w fun e w' => e = .returned (.bool true) ∧ w' = w :=
  (implIdx_any n b w).mono fun _ _ ⟨he, hw⟩ => ⟨by rw [he, decide_eq_true h], hw⟩
theorem implIdx_no {n b : Int} (w : World) (h : ¬ (0 ≤ n ∧ n < b)) : Calls Try.prog 43 #[.int .i64 n, .int .i64 b] w fun e w' => e = .returned (.bool false) ∧ w' = w :=
  (implIdx_any n b w).mono fun _ _ ⟨he, hw⟩ => ⟨by rw [he, decide_eq_false h], hw⟩
end Go.Proofs.Ytmkchilhnmkhkab
namespace Go.Proofs.Ytmkchilhnmkhkab
open Go.RowKit Go.Proofs.Ytmkchilhnmkhkab.Parts Go.Proofs.Ytmkchilhnmkhkab.Hexa Go.Proofs.Ytmkchilhnmkhkab.Byt

theorem ret_boolk {a b : Bool} (h : a = b) : Ending.returned (.bool a) = .returned (.bool b) := by rw [h]
theorem inoR_eta (x : InoR) : (⟨x.kd, x.sz, x.gn, x.key, x.R, x.E⟩ : InoR) = x := rfl

set_option maxRecDepth 100000 in
set_option maxHeartbeats 2000000 in
theorem implInos_any (p : PartR) (a1 : Option Addr) (c1 : Nat) (a2 : Option Addr) (c2 : Nat) (w : World) (h2 : (celRow cIno p.ino).Rd w (.slice a2 p.ino.length c2)) (hz : szL (cPart.cels p) ≤ 1048576) (ht : TyL (celsE cIno p.ino)) :
    Calls Try.prog 31 #[.agg #[.int .i64 p.ser, .slice a1 p.st.length c1, .slice a2 p.ino.length c2]] w (SaysB (decB (InosR p.ino)) w) := by
  have B0 := Lib.hid (below_bk w (.cells #[.int .i64 p.ser, .slice a1 p.st.length c1, .slice a2 p.ino.length c2] 30))
  have HS := Lib.hid h2
  obtain ⟨hn, hin⟩ := part_ino hz
  have HN := Lib.hid hin
  have HT := Lib.hid ht
  clear h2 hz ht hin
  go_enter Try.func31, Try.ntmps31
  go_wp2
  go_loopw [8] (fun kv wr => ∃ (k : Nat), k ≤ p.ino.length ∧ kv = .int .i64 k ∧ Hid (∀ j, j < k → InoOk (p.ino.getD j default)) ∧ Below w.heap.size w wr) (fun kv _ => p.ino.length - (intOf kv).toNat)
  case atStart => exact ⟨0, Nat.zero_le _, rfl, Lib.hid (fun j hj => by omega), B0.out⟩
  case round =>
    obtain ⟨k, hk, rfl, HM, hbel⟩ := hrel
    by_cases hlt : k < p.ino.length
    · have HF := Lib.hid (ino_fits (HN.out k hlt) (TyL_at cIno p.ino k HT.out hlt))
      have HB : Hid (¬ InoOk (p.ino.getD k default) → ¬ InosR p.ino) := Lib.hid (fun h h9 => h (h9 k hlt))
      have HG : Hid (InoOk (p.ino.getD k default) → ∀ j, j < k + 1 → InoOk (p.ino.getD j default)) := Lib.hid (fun h j hj => by
        by_cases e : j = k
        · rw [e]; exact h
        · exact HM.out j (by omega))
      obtain ⟨g, off, a4, c4, a5, c5, rfl, hg, d0, d1, d2, d3, d4, d5, r4, r5⟩ := cIno_at (Cel.Rd.later hbel _ _ HS.out) k hlt
      obtain ⟨x, hx⟩ : ∃ x, p.ino.getD k default = x := ⟨_, rfl⟩
      rw [hx] at d0 d1 d2 d3 d4 d5 r4 r5 HF HB HG
      clear hx
      have hbx := below_bk wr (.cells #[.int .i64 x.kd, .int .i64 x.sz, .int .i64 x.gn, .string x.key, .slice a4 x.R.length c4, .slice a5 x.E.length c5] 54)
      have T2 := Lib.hid (Bk.alloc wr #[.int .i64 x.kd, .int .i64 x.sz, .int .i64 x.gn, .string x.key, .slice a4 x.R.length c4, .slice a5 x.E.length c5] 54)
      have R4 := Lib.hid (Cel.Rd.later hbx _ _ r4)
      have R5 := Lib.hid (Cel.Rd.later hbx _ _ r5)
      have B2 : Hid (Below w.heap.size w (wr.alloc (.cells #[.int .i64 x.kd, .int .i64 x.sz, .int .i64 x.gn, .string x.key, .slice a4 x.R.length c4, .slice a5 x.E.length c5] 54))) := Lib.hid (hbel.trans (hbx.mono hbel.size))
      clear hbx r4 r5
      have t0 := T2.out.cell (j := 0) rfl
      have t1 := T2.out.cell (j := 1) rfl
      have t2 := T2.out.cell (j := 2) rfl
      have t3 := T2.out.cell (j := 3) rfl
      have t4 := T2.out.cell (j := 4) rfl
      have t5 := T2.out.cell (j := 5) rfl
      go_wp2_with fail
      refine (implIno_any x.kd x.sz x.gn x.key a4 x.R.length c4 a5 x.E.length c5 _ x.R x.E HF.out.1 (by have := HF.out.2.2.1; omega) (srcRec_of_rd R4.out) HF.out.2.2.2.1 (srcEntry_of_rd R5.out) HF.out.2.2.2.2).mono ?_
      rw [inoR_eta]
      rintro e w2 ⟨rfl, hb⟩
      have B3 : Below w.heap.size w w2 := B2.out.trans (hb.mono B2.out.size)
      clear hb d0 d1 d2 d3 d4 d5 t0 t1 t2 t3 t4 t5
      by_cases hq : InoOk x
      · have HC := Lib.hid (HG.out hq)
        rw [inoB_yes hq]
        clear hq
        go_wp2
        go_roundw
        case rel => exact ⟨k + 1, by omega, by go_num, HC, B3⟩
        case measure => (simp [intOf]; try omega)
      · have HC := Lib.hid (decB_no (HB.out hq))
        rw [inoB_no hq]
        clear hq
        go_wp2
        go_ret
        exact ⟨ret_boolk HC.out.symm, B3⟩
    · obtain rfl : k = p.ino.length := by omega
      have HC := Lib.hid (decB_yes (q := InosR p.ino) HM.out)
      go_wp2
      go_ret
      exact ⟨ret_boolk HC.out.symm, hbel⟩

set_option maxRecDepth 100000 in
set_option maxHeartbeats 2000000 in
theorem implPlace_any (p : PartR) (a1 : Option Addr) (c1 : Nat) (a2 : Option Addr) (c2 : Nat) (i : Nat) (x : InoR) (a4 : Option Addr) (c4 : Nat) (a5 : Option Addr) (c5 : Nat) (w : World) (h2 : (celRow cIno p.ino).Rd w (.slice a2 p.ino.length c2)) (hz : szL (cPart.cels p) ≤ 100000000) (hi : i ≤ 100000000) :
    Calls Try.prog 44 #[.agg #[.int .i64 p.ser, .slice a1 p.st.length c1, .slice a2 p.ino.length c2], .int .i64 i, .agg #[.int .i64 x.kd, .int .i64 x.sz, .int .i64 x.gn, .string x.key, .slice a4 x.R.length c4, .slice a5 x.E.length c5]] w (SaysB (decB (PlaceR p.ino i x.kd)) w) := by
  have hb1 := below_bk w (.cells #[.int .i64 p.ser, .slice a1 p.st.length c1, .slice a2 p.ino.length c2] 30)
  have hb2 := below_bk (w.alloc (.cells #[.int .i64 p.ser, .slice a1 p.st.length c1, .slice a2 p.ino.length c2] 30)) (.cells #[.int .i64 x.kd, .int .i64 x.sz, .int .i64 x.gn, .string x.key, .slice a4 x.R.length c4, .slice a5 x.E.length c5] 54)
  have B0 := Lib.hid (hb1.trans (hb2.mono hb1.size))
  have T0 := Lib.hid ((Bk.alloc w #[.int .i64 p.ser, .slice a1 p.st.length c1, .slice a2 p.ino.length c2] 30).later hb2)
  have X0 : Hid (Bk ((w.alloc (.cells #[.int .i64 p.ser, .slice a1 p.st.length c1, .slice a2 p.ino.length c2] 30)).alloc (.cells #[.int .i64 x.kd, .int .i64 x.sz, .int .i64 x.gn, .string x.key, .slice a4 x.R.length c4, .slice a5 x.E.length c5] 54)) (w.heap.size + 1) #[.int .i64 x.kd, .int .i64 x.sz, .int .i64 x.gn, .string x.key, .slice a4 x.R.length c4, .slice a5 x.E.length c5] 54) := Lib.hid (by
    have h := Bk.alloc (w.alloc (.cells #[.int .i64 p.ser, .slice a1 p.st.length c1, .slice a2 p.ino.length c2] 30)) #[.int .i64 x.kd, .int .i64 x.sz, .int .i64 x.gn, .string x.key, .slice a4 x.R.length c4, .slice a5 x.E.length c5] 54
    simpa using h)
  have HS := Lib.hid h2
  have HZ := Lib.hid hz
  clear h2 hz hb1 hb2
  obtain ⟨m, hm⟩ : ∃ m, cntI (entsOf p.ino) i = m := ⟨_, rfl⟩
  have HM := Lib.hid hm
  clear hm
  have t0 := T0.out.cell (j := 0) rfl
  have t1 := T0.out.cell (j := 1) rfl
  have t2 := T0.out.cell (j := 2) rfl
  go_enter Try.func44, Try.ntmps44
  go_wp2_with fail
  refine (implLinks_any p a1 c1 a2 c2 i _ (Cel.Rd.later B0.out _ _ HS.out) HZ.out).mono ?_
  rw [HM.out]
  rintro e w1 ⟨rfl, hb⟩
  have B1 : Hid (Below w.heap.size w w1) := Lib.hid (B0.out.trans (hb.mono B0.out.size))
  have T1 := Lib.hid (T0.out.later hb)
  have X1 := Lib.hid (X0.out.later hb)
  clear t0 t1 t2 hb
  have x0 := X1.out.cell (j := 0) rfl
  have t0 := T1.out.cell (j := 0) rfl
  have t1 := T1.out.cell (j := 1) rfl
  have t2 := T1.out.cell (j := 2) rfl
  obtain ⟨kd, hkd⟩ : ∃ y, x.kd = y := ⟨_, rfl⟩
  have HP : Hid (PlaceR p.ino i x.kd ↔ ((i = 0 → kd = 2 ∧ m = 0) ∧ (i ≠ 0 → (kd = 0 → m = 0) ∧ (kd ≠ 0 → m = 1 ∧ depthZ p.ino i ≠ -1)))) := Lib.hid (by unfold PlaceR; rw [HM.out, hkd])
  rw [hkd] at x0
  clear hkd
  by_cases hi0 : i = 0
  · subst hi0
    by_cases h9 : kd = 2
    · subst h9
      by_cases h8 : m = 0
      · subst h8
        have HC := Lib.hid (decB_yes (HP.out.2 ⟨fun _ => ⟨rfl, rfl⟩, fun h => absurd rfl h⟩))
        go_wp2
        go_ret
        exact ⟨ret_boolk HC.out.symm, B1.out⟩
      · have HC := Lib.hid (decB_no (fun h => h8 ((HP.out.1 h).1 rfl).2))
        go_wp2
        go_ret
        exact ⟨ret_boolk (by rw [HC.out]; simpa using h8), B1.out⟩
    · have HC := Lib.hid (decB_no (fun h => h9 ((HP.out.1 h).1 rfl).1))
      go_wp2
      go_ret
      exact ⟨ret_boolk HC.out.symm, B1.out⟩
  · by_cases h9 : kd = 0
    · subst h9
      by_cases h8 : m = 0
      · subst h8
        have HC := Lib.hid (decB_yes (HP.out.2 ⟨fun h => absurd h hi0, fun _ => ⟨fun _ => rfl, fun h => absurd rfl h⟩⟩))
        go_wp2
        go_ret
        exact ⟨ret_boolk HC.out.symm, B1.out⟩
      · have HC := Lib.hid (decB_no (fun h => h8 (((HP.out.1 h).2 hi0).1 rfl)))
        go_wp2
        go_ret
        exact ⟨ret_boolk (by rw [HC.out]; simpa using h8), B1.out⟩
    · by_cases h8 : m = 1
      · subst h8
        obtain ⟨d, hd⟩ : ∃ d, depthZ p.ino i = d := ⟨_, rfl⟩
        have HD := Lib.hid hd
        clear hd
        go_wp2_with fail
        refine (implDepth_any p a1 c1 a2 c2 i _ (Cel.Rd.later B1.out _ _ HS.out) HZ.out).mono ?_
        rw [HD.out]
        rintro e w2 ⟨rfl, hb⟩
        have B2 : Below w.heap.size w w2 := B1.out.trans (hb.mono B1.out.size)
        clear hb t0 t1 t2 x0
        by_cases h7 : d = -1
        · have HC := Lib.hid (decB_no (fun h => (((HP.out.1 h).2 hi0).2 h9).2 (HD.out.trans h7)))
          go_wp2
          go_ret
          exact ⟨ret_boolk HC.out.symm, B2⟩
        · have HC := Lib.hid (decB_yes (HP.out.2 ⟨fun h => absurd h hi0, fun _ => ⟨fun h => absurd h h9, fun _ => ⟨by first | rfl | trivial, fun e => h7 (HD.out.symm.trans e)⟩⟩⟩))
          have h7' : (d != -1) = true := by simpa using h7
          go_wp2
          go_ret
          exact ⟨ret_boolk HC.out.symm, B2⟩
      · have HC := Lib.hid (decB_no (fun h => h8 (((HP.out.1 h).2 hi0).2 h9).1))
        have h8' : ¬ ((m : Int) = 1) := by omega
        go_wp2
        go_ret
        exact ⟨ret_boolk HC.out.symm, B1.out⟩
end Go.Proofs.Ytmkchilhnmkhkab
namespace Go.Proofs.Ytmkchilhnmkhkab
open Go.RowKit Go.Proofs.Ytmkchilhnmkhkab.Parts Go.Proofs.Ytmkchilhnmkhkab.Hexa Go.Proofs.Ytmkchilhnmkhkab.Byt

set_option maxRecDepth 100000 in
set_option maxHeartbeats 4000000 in
theorem implLinksOk_any (p : PartR) (a1 : Option Addr) (c1 : Nat) (a2 : Option Addr) (c2 : Nat) (w : World) (h2 : (celRow cIno p.ino).Rd w (.slice a2 p.ino.length c2)) (hz : szL (cPart.cels p) ≤ 1048576) (_ : TyL (celsE cIno p.ino)) :
    Calls Try.prog 32 #[.agg #[.int .i64 p.ser, .slice a1 p.st.length c1, .slice a2 p.ino.length c2]] w (SaysB (decB (LinksR p.ino)) w) := by
  have B0 := Lib.hid (below_bk w (.cells #[.int .i64 p.ser, .slice a1 p.st.length c1, .slice a2 p.ino.length c2] 30))
  have T0 := Lib.hid (Bk.alloc w #[.int .i64 p.ser, .slice a1 p.st.length c1, .slice a2 p.ino.length c2] 30)
  have HS := Lib.hid h2
  have hn := (part_ino hz).1
  have HZ : Hid (szL (cPart.cels p) ≤ 100000000) := Lib.hid (by omega)
  have hl : (entsOf p.ino).length ≤ 100000000 := by have h9 := ents_len p.ino; have h8 := HZ.out; rw [cPart_sz] at h8; have := sz_row' cIno p.ino; omega
  clear h2 hz
  have t0 := T0.out.cell (j := 0) rfl
  have t1 := T0.out.cell (j := 1) rfl
  have t2 := T0.out.cell (j := 2) rfl
  go_enter Try.func32, Try.ntmps32
  go_wp2_with fail
  refine (implEnts_any p a1 c1 a2 c2 _ (Cel.Rd.later B0.out _ _ HS.out) HZ.out).mono ?_
  rintro e w1 ⟨v, rfl, ho, hb⟩
  have B1 : Hid (Below w.heap.size w w1) := Lib.hid (B0.out.trans (hb.mono B0.out.size))
  have T1 := Lib.hid (T0.out.later hb)
  obtain ⟨a, c, rfl, _⟩ := ownE_form ho
  have HR := Lib.hid (srcEntry_of_own ho)
  obtain ⟨M, hM⟩ : ∃ M, entsOf p.ino = M := ⟨_, rfl⟩
  rw [hM] at HR hl ⊢
  have HEQ := Lib.hid hM
  clear ho hb t0 t1 t2 hM
  go_wp2
  go_loopw [10] (fun kv wr => ∃ (k : Nat), k ≤ M.length ∧ kv = .int .i64 k ∧ Hid (∀ j, j < k → 0 ≤ (M.getD j default).f0 ∧ (M.getD j default).f0 < (p.ino.length : Int)) ∧ Below w.heap.size w wr ∧ Below w1.heap.size w1 wr) (fun kv _ => M.length - (intOf kv).toNat)
  case atStart => exact ⟨0, Nat.zero_le _, rfl, Lib.hid (fun j hj => by omega), B1.out, Below.refl _ _⟩
  case round =>
    obtain ⟨k, hk, rfl, HM, hbel, hbl1⟩ := hrel
    have HTw := Lib.hid (T1.out.later hbl1)
    by_cases hlt : k < M.length
    · have HB : Hid (¬ (0 ≤ (M.getD k default).f0 ∧ (M.getD k default).f0 < (p.ino.length : Int)) → ¬ LinksR p.ino) := Lib.hid (fun h h9 => h (h9.1 _ (by rw [HEQ.out]; exact getD_mem hlt)))
      have HG : Hid ((0 ≤ (M.getD k default).f0 ∧ (M.getD k default).f0 < (p.ino.length : Int)) → ∀ j, j < k + 1 → 0 ≤ (M.getD j default).f0 ∧ (M.getD j default).f0 < (p.ino.length : Int)) := Lib.hid (fun h j hj => by
        by_cases e : j = k
        · rw [e]; exact h
        · exact HM.out j (by omega))
      obtain ⟨g, off, rfl, hg, d0, d1⟩ := srcEntry_later HR.out hbl1 (Nat.le_refl _) k hlt
      obtain ⟨x, hx⟩ : ∃ x, M.getD k default = x := ⟨_, rfl⟩
      rw [hx] at d0 d1 HB HG
      clear hx
      have hbx := below_bk wr (.cells #[.int .i64 x.f0, .string x.f1] 57)
      have B2 : Hid (Below w.heap.size w (wr.alloc (.cells #[.int .i64 x.f0, .string x.f1] 57))) := Lib.hid (hbel.trans (hbx.mono hbel.size))
      have C2 : Hid (Below w1.heap.size w1 (wr.alloc (.cells #[.int .i64 x.f0, .string x.f1] 57))) := Lib.hid (hbl1.trans (hbx.mono hbl1.size))
      have t2 := (HTw.out.later hbx).cell (j := 2) rfl
      have e0 := (Bk.alloc wr #[.int .i64 x.f0, .string x.f1] 57).cell (j := 0) rfl
      clear hbx
      by_cases hq : 0 ≤ x.f0 ∧ x.f0 < (p.ino.length : Int)
      · have HC := Lib.hid (HG.out hq)
        have HQ := Lib.hid hq
        clear hq
        go_wp2_with fail
        refine (implIdx_yes _ HQ.out).mono ?_
        rintro e w2 ⟨rfl, rfl⟩
        clear d0 d1 t2 e0
        go_wp2
        go_roundw
        case rel => exact ⟨k + 1, by omega, by go_num, HC, B2.out, C2.out⟩
        case measure => (simp [intOf]; try omega)
      · have HC := Lib.hid (decB_no (HB.out hq))
        have HQ := Lib.hid hq
        clear hq
        go_wp2_with fail
        refine (implIdx_no _ HQ.out).mono ?_
        rintro e w2 ⟨rfl, rfl⟩
        clear d0 d1 t2 e0
        go_wp2
        go_ret
        exact ⟨ret_boolk HC.out.symm, B2.out⟩
    · obtain rfl : k = M.length := by omega
      have HE : Hid (EntsR p.ino) := Lib.hid (fun e he => by
        rw [HEQ.out] at he
        obtain ⟨j, hj, rfl⟩ := mem_getD he
        exact HM.out j hj)
      have t2 := HTw.out.cell (j := 2) rfl
      clear HM
      go_wp2
      clear t2
      go_loopw [25] (fun kv wq => ∃ (k : Nat), k ≤ p.ino.length ∧ kv = .int .i64 k ∧ Hid (∀ j, j < k → PlaceR p.ino j (p.ino.getD j default).kd) ∧ Below w.heap.size w wq ∧ Hid (Bk wq w.heap.size #[.int .i64 p.ser, .slice a1 p.st.length c1, .slice a2 p.ino.length c2] 30)) (fun kv _ => p.ino.length - (intOf kv).toNat)
      case atStart => exact ⟨0, Nat.zero_le _, rfl, Lib.hid (fun j hj => by omega), hbel, HTw⟩
      case round =>
        clear HTw hbel hbl1
        obtain ⟨i, hi, rfl, HM, hbel, HT2⟩ := hrel
        by_cases hit : i < p.ino.length
        · have HB : Hid (¬ PlaceR p.ino i (p.ino.getD i default).kd → ¬ LinksR p.ino) := Lib.hid (fun h h9 => h (h9.2 i hit))
          have HG : Hid (PlaceR p.ino i (p.ino.getD i default).kd → ∀ j, j < i + 1 → PlaceR p.ino j (p.ino.getD j default).kd) := Lib.hid (fun h j hj => by
            by_cases e : j = i
            · rw [e]; exact h
            · exact HM.out j (by omega))
          obtain ⟨g, off, a4, c4, a5, c5, rfl, hg, d0, d1, d2, d3, d4, d5, r4, r5⟩ := cIno_at (Cel.Rd.later hbel _ _ HS.out) i hit
          obtain ⟨x, hx⟩ : ∃ x, p.ino.getD i default = x := ⟨_, rfl⟩
          rw [hx] at d0 d1 d2 d3 d4 d5 HB HG
          clear hx r4 r5
          have hbx := below_bk wr (.cells #[.int .i64 x.kd, .int .i64 x.sz, .int .i64 x.gn, .string x.key, .slice a4 x.R.length c4, .slice a5 x.E.length c5] 54)
          have X2 := Lib.hid (Bk.alloc wr #[.int .i64 x.kd, .int .i64 x.sz, .int .i64 x.gn, .string x.key, .slice a4 x.R.length c4, .slice a5 x.E.length c5] 54)
          have T3 := Lib.hid (HT2.out.later hbx)
          have B2 : Hid (Below w.heap.size w (wr.alloc (.cells #[.int .i64 x.kd, .int .i64 x.sz, .int .i64 x.gn, .string x.key, .slice a4 x.R.length c4, .slice a5 x.E.length c5] 54))) := Lib.hid (hbel.trans (hbx.mono hbel.size))
          clear hbx
          have x0 := X2.out.cell (j := 0) rfl
          have x1 := X2.out.cell (j := 1) rfl
          have x2 := X2.out.cell (j := 2) rfl
          have x3 := X2.out.cell (j := 3) rfl
          have x4 := X2.out.cell (j := 4) rfl
          have x5 := X2.out.cell (j := 5) rfl
          have t0 := T3.out.cell (j := 0) rfl
          have t1 := T3.out.cell (j := 1) rfl
          have t2 := T3.out.cell (j := 2) rfl
          obtain ⟨b, hb⟩ : ∃ b, decB (PlaceR p.ino i x.kd) = b := ⟨_, rfl⟩
          have HBB := Lib.hid hb
          clear hb
          go_wp2_with fail
          refine (implPlace_any p a1 c1 _ c2 i x a4 c4 a5 c5 _ (Cel.Rd.later B2.out _ _ HS.out) HZ.out (by omega)).mono ?_
          rw [HBB.out]
          rintro e w2 ⟨rfl, hb⟩
          have B3 : Below w.heap.size w w2 := B2.out.trans (hb.mono B2.out.size)
          have T4 := Lib.hid (T3.out.later hb)
          clear hb d0 d1 d2 d3 d4 d5 x0 x1 x2 x3 x4 x5 t0 t1 t2
          cases b with
          | true =>
            have HC := Lib.hid (HG.out (decB_iff.1 HBB.out))
            go_wp2
            go_roundw
            case rel => exact ⟨i + 1, by omega, by go_num, HC, B3, T4⟩
            case measure => (simp [intOf]; try omega)
          | false =>
            have HC := Lib.hid (decB_no (HB.out (fun h => by have := decB_yes h; rw [HBB.out] at this; cases this)))
            go_wp2
            go_ret
            exact ⟨ret_boolk HC.out.symm, B3⟩
        · obtain rfl : i = p.ino.length := by omega
          have HC := Lib.hid (decB_yes (q := LinksR p.ino) ⟨HE.out, HM.out⟩)
          go_wp2
          go_ret
          exact ⟨ret_boolk HC.out.symm, hbel⟩

end Go.Proofs.Ytmkchilhnmkhkab
namespace Go.Proofs.Ytmkchilhnmkhkab
open Go.RowKit Go.Proofs.Ytmkchilhnmkhkab.Parts Go.Proofs.Ytmkchilhnmkhkab.Hexa Go.Proofs.Ytmkchilhnmkhkab.Byt

set_option maxRecDepth 100000 in
set_option maxHeartbeats 4000000 in
theorem implUsersOk_any (p : PartR) (a1 : Option Addr) (c1 : Nat) (a2 : Option Addr) (c2 : Nat) (w : World) (h1 : (celRow cInt p.st).Rd w (.slice a1 p.st.length c1)) (h2 : (celRow cIno p.ino).Rd w (.slice a2 p.ino.length c2)) (hz : szL (cPart.cels p) ≤ 1048576) (ht : TyL (celsE cIno p.ino)) :
    Calls Try.prog 33 #[.agg #[.int .i64 p.ser, .slice a1 p.st.length c1, .slice a2 p.ino.length c2]] w (SaysB (decB (UsersR p.ino p.st)) w) := by
  have B0 := Lib.hid (below_bk w (.cells #[.int .i64 p.ser, .slice a1 p.st.length c1, .slice a2 p.ino.length c2] 30))
  have T0 := Lib.hid (Bk.alloc w #[.int .i64 p.ser, .slice a1 p.st.length c1, .slice a2 p.ino.length c2] 30)
  have HS := Lib.hid h2
  have HS1 := Lib.hid h1
  have HZ : Hid (szL (cPart.cels p) ≤ 100000000) := Lib.hid (by omega)
  have hn : p.st.length ≤ 1048576 := by have h9 := hz; rw [cPart_sz, szInts_eq] at h9; omega
  have hl : (recsOf p.ino).length ≤ 100000000 := by have h9 := recs_len p.ino; have h8 := HZ.out; rw [cPart_sz] at h8; have := sz_row' cIno p.ino; omega
  have HTY : Hid (∀ r ∈ recsOf p.ino, -9223372036854775808 ≤ r.f0 ∧ r.f0 ≤ 9223372036854775807) := Lib.hid (fun r hr => by
    obtain ⟨n, hn, _, hr⟩ := mem_recs hr
    obtain ⟨j, hj, rfl⟩ := mem_getD hn
    obtain ⟨q, hq, rfl⟩ := mem_getD hr
    have h9 := TyL_at cIno p.ino j ht hj
    obtain ⟨_, _, _, _, t4, _, _⟩ := h9
    exact (TyL_at cRec _ q t4.2 hq).1)
  clear h1 h2 hz ht
  have t0 := T0.out.cell (j := 0) rfl
  have t1 := T0.out.cell (j := 1) rfl
  have t2 := T0.out.cell (j := 2) rfl
  go_enter Try.func33, Try.ntmps33
  go_wp2_with fail
  refine (implRecs_any p a1 c1 a2 c2 _ (Cel.Rd.later B0.out _ _ HS.out) HZ.out).mono ?_
  rintro e w1 ⟨v, rfl, ho, hb⟩
  have B1 : Hid (Below w.heap.size w w1) := Lib.hid (B0.out.trans (hb.mono B0.out.size))
  have T1 := Lib.hid (T0.out.later hb)
  obtain ⟨a, c, rfl, _⟩ := ownE_form ho
  have HR := Lib.hid (srcRec_of_own ho)
  obtain ⟨M, hM⟩ : ∃ M, recsOf p.ino = M := ⟨_, rfl⟩
  rw [hM] at HR hl ⊢
  have HEQ := Lib.hid hM
  clear ho hb t0 t1 t2 hM
  go_wp2
  go_loopw [11] (fun kv wr => ∃ (k : Nat), k ≤ M.length ∧ kv = .int .i64 k ∧ Hid (∀ j, j < k → 1 ≤ (M.getD j default).f0 ∧ (M.getD j default).f0 ≤ (p.st.length : Int)) ∧ Below w.heap.size w wr ∧ Below w1.heap.size w1 wr) (fun kv _ => M.length - (intOf kv).toNat)
  case atStart => exact ⟨0, Nat.zero_le _, rfl, Lib.hid (fun j hj => by omega), B1.out, Below.refl _ _⟩
  case round =>
    obtain ⟨k, hk, rfl, HM, hbel, hbl1⟩ := hrel
    have HTw := Lib.hid (T1.out.later hbl1)
    by_cases hlt : k < M.length
    · have HB : Hid (¬ (1 ≤ (M.getD k default).f0 ∧ (M.getD k default).f0 ≤ (p.st.length : Int)) → ¬ UsersR p.ino p.st) := Lib.hid (fun h h9 => h (h9.1 _ (by rw [HEQ.out]; exact getD_mem hlt)))
      have HG : Hid ((1 ≤ (M.getD k default).f0 ∧ (M.getD k default).f0 ≤ (p.st.length : Int)) → ∀ j, j < k + 1 → 1 ≤ (M.getD j default).f0 ∧ (M.getD j default).f0 ≤ (p.st.length : Int)) := Lib.hid (fun h j hj => by
        by_cases e : j = k
        · rw [e]; exact h
        · exact HM.out j (by omega))
      obtain ⟨g, off, rfl, hg, d0, d1, d2⟩ := srcRec_later HR.out hbl1 (Nat.le_refl _) k hlt
      obtain ⟨x, hx⟩ : ∃ x, M.getD k default = x := ⟨_, rfl⟩
      rw [hx] at d0 d1 d2 HB HG
      clear hx
      have hbx := below_bk wr (.cells #[.int .i64 x.f0, .int .i64 x.f1, .string x.f2] 70)
      have B2 : Hid (Below w.heap.size w (wr.alloc (.cells #[.int .i64 x.f0, .int .i64 x.f1, .string x.f2] 70))) := Lib.hid (hbel.trans (hbx.mono hbel.size))
      have C2 : Hid (Below w1.heap.size w1 (wr.alloc (.cells #[.int .i64 x.f0, .int .i64 x.f1, .string x.f2] 70))) := Lib.hid (hbl1.trans (hbx.mono hbl1.size))
      have t1 := (HTw.out.later hbx).cell (j := 1) rfl
      have e0 := (Bk.alloc wr #[.int .i64 x.f0, .int .i64 x.f1, .string x.f2] 70).cell (j := 0) rfl
      clear hbx
      by_cases hq : 1 ≤ x.f0 ∧ x.f0 ≤ (p.st.length : Int)
      · have HC := Lib.hid (HG.out hq)
        have HQ := Lib.hid hq
        clear hq
        go_wp2_with fail
        refine (implIn_yes _ HQ.out).mono ?_
        rintro e w2 ⟨rfl, rfl⟩
        clear d0 d1 d2 t1 e0
        go_wp2
        go_roundw
        case rel => exact ⟨k + 1, by omega, by go_num, HC, B2.out, C2.out⟩
        case measure => (simp [intOf]; try omega)
      · have HC := Lib.hid (decB_no (HB.out hq))
        have HQ := Lib.hid hq
        clear hq
        go_wp2_with fail
        refine (implIn_no _ HQ.out).mono ?_
        rintro e w2 ⟨rfl, rfl⟩
        clear d0 d1 d2 t1 e0
        go_wp2
        go_ret
        exact ⟨ret_boolk HC.out.symm, B2.out⟩
    · obtain rfl : k = M.length := by omega
      have HE : Hid (RecsR p.ino p.st.length) := Lib.hid (fun e he => by
        rw [HEQ.out] at he
        obtain ⟨j, hj, rfl⟩ := mem_getD he
        exact HM.out j hj)
      have t1 := HTw.out.cell (j := 1) rfl
      clear HM
      go_wp2
      clear t1
      go_loopw [26] (fun kv wq => ∃ (k : Nat), k ≤ p.st.length ∧ kv = .int .i64 k ∧ Hid (∀ j, j < k → UserR p.ino j (p.st.getD j 0)) ∧ Below w.heap.size w wq ∧ Hid (Bk wq w.heap.size #[.int .i64 p.ser, .slice a1 p.st.length c1, .slice a2 p.ino.length c2] 30)) (fun kv _ => p.st.length - (intOf kv).toNat)
      case atStart => exact ⟨0, Nat.zero_le _, rfl, Lib.hid (fun j hj => by omega), hbel, HTw⟩
      case round =>
        clear HTw hbel hbl1
        obtain ⟨i, hi, rfl, HM, hbel, HT2⟩ := hrel
        by_cases hit : i < p.st.length
        · have HB : Hid (¬ UserR p.ino i (p.st.getD i 0) → ¬ UsersR p.ino p.st) := Lib.hid (fun h h9 => h (h9.2 i hit))
          have HG : Hid (UserR p.ino i (p.st.getD i 0) → ∀ j, j < i + 1 → UserR p.ino j (p.st.getD j 0)) := Lib.hid (fun h j hj => by
            by_cases e : j = i
            · rw [e]; exact h
            · exact HM.out j (by omega))
          obtain ⟨g, off, ha, hg, d0⟩ := cInt_at (Cel.Rd.later hbel _ _ HS1.out) i hit
          have HA := Lib.hid ha
          obtain ⟨st, hst⟩ : ∃ y, p.st.getD i 0 = y := ⟨_, rfl⟩
          have d0' : wr.cell? ⟨g, off + i, none⟩ = some (.int .i64 st) := by rw [← hst]; exact d0
          rw [hst] at HB HG
          subst ha
          obtain ⟨m, hm⟩ : ∃ m, cntP (recsOf p.ino) i = m := ⟨_, rfl⟩
          have HMM := Lib.hid hm
          have hU : UserR p.ino i st ↔ (m ≤ 1 ∧ (m = 1 ↔ st = 2)) := by unfold UserR; rw [hm]
          have HU := Lib.hid hU
          clear hst d0 hm hU HA
          have t0 := HT2.out.cell (j := 0) rfl
          have t1 := HT2.out.cell (j := 1) rfl
          have t2 := HT2.out.cell (j := 2) rfl
          go_wp2_with fail
          refine (implUsers_any p _ c1 a2 c2 i _ (Cel.Rd.later hbel _ _ HS.out) HZ.out (by omega) HTY.out).mono ?_
          rw [HMM.out]
          rintro e w2 ⟨rfl, hb⟩
          have B3 : Below w.heap.size w w2 := hbel.trans (hb.mono hbel.size)
          have T4 := Lib.hid (HT2.out.later hb)
          clear hb d0' t0 t1 t2
          by_cases h8 : 1 < m
          · have HC := Lib.hid (decB_no (HB.out (fun h => by have := (HU.out.1 h).1; omega)))
            have h8' : (1 : Int) < m := by omega
            go_wp2
            go_ret
            exact ⟨ret_boolk HC.out.symm, B3⟩
          · have h8' : ¬ ((1 : Int) < m) := by omega
            by_cases h7 : m = 1
            · subst h7
              by_cases h6 : st = 2
              · subst h6
                have HC := Lib.hid (HG.out (HU.out.2 ⟨by omega, by simp⟩))
                go_wp2
                go_roundw
                case rel => exact ⟨i + 1, by omega, by go_num, HC, B3, T4⟩
                case measure => (simp [intOf]; try omega)
              · have HC := Lib.hid (decB_no (HB.out (fun h => h6 ((HU.out.1 h).2.1 rfl))))
                have h6' : (st == 2) = false := by simpa using h6
                go_wp2
                go_ret
                exact ⟨ret_boolk HC.out.symm, B3⟩
            · have h7' : (((m : Int)) == 1) = false := by simp; omega
              by_cases h6 : st = 2
              · subst h6
                have HC := Lib.hid (decB_no (HB.out (fun h => h7 ((HU.out.1 h).2.2 rfl))))
                go_wp2
                go_ret
                exact ⟨ret_boolk HC.out.symm, B3⟩
              · have HC := Lib.hid (HG.out (HU.out.2 ⟨by omega, by simp [h7, h6]⟩))
                have h6' : (st == 2) = false := by simpa using h6
                go_wp2
                go_roundw
                case rel => exact ⟨i + 1, by omega, by go_num, HC, B3, T4⟩
                case measure => (simp [intOf]; try omega)
        · obtain rfl : i = p.st.length := by omega
          have HC := Lib.hid (decB_yes (q := UsersR p.ino p.st) ⟨HE.out, HM.out⟩)
          go_wp2
          go_ret
          exact ⟨ret_boolk HC.out.symm, hbel⟩
end Go.Proofs.Ytmkchilhnmkhkab
namespace Go.Proofs.Ytmkchilhnmkhkab
open Go.RowKit

set_option maxRecDepth 100000 in
set_option maxHeartbeats 1000000 in
theorem implGeo_yes (T P I Q : Int) (w : World) (h : GeoR T P I Q) : Calls Try.prog 28 #[.agg #[.int .i64 T, .int .i64 P, .int .i64 I, .int .i64 Q]] w (SaysB true w) := by
  obtain ⟨a1, a2, b1, b2, c1, c2, d1, d2⟩ := h
  have H1 : (1 : Int) ≤ T ∧ T ≤ 3 := ⟨a1, a2⟩
  have H2 : (5 : Int) ≤ P ∧ P ≤ 12 := ⟨b1, b2⟩
  have H3 : (2 : Int) ≤ I ∧ I ≤ 6 := ⟨c1, c2⟩
  have H4 : (1 : Int) ≤ Q ∧ Q ≤ P - 4 := ⟨d1, d2⟩
  go_enter Try.func28, Try.ntmps28
  go_wp2_with (first | ((with_reducible refine (implIn_yes _ H1).mono ?_); rintro e w1 ⟨rfl, rfl⟩) | ((with_reducible refine (implIn_yes _ H2).mono ?_); rintro e w1 ⟨rfl, rfl⟩) | ((with_reducible refine (implIn_yes _ H3).mono ?_); rintro e w1 ⟨rfl, rfl⟩) | ((with_reducible refine (implIn_yes _ H4).mono ?_); rintro e w1 ⟨rfl, rfl⟩))
  go_ret
  exact ⟨rfl, below_al w _⟩
set_option maxRecDepth 100000 in
set_option maxHeartbeats 1000000 in
theorem implGeo_no (T P I Q : Int) (w : World) (h : ¬ GeoR T P I Q) : Calls Try.prog 28 #[.agg #[.int .i64 T, .int .i64 P, .int .i64 I, .int .i64 Q]] w (SaysB false w) := by
  rcases geo_cases h with H1 | ⟨H1, H2⟩ | ⟨H1, H2, H3⟩ | ⟨H1, H2, H3, H4⟩
  · go_enter Try.func28, Try.ntmps28
    go_wp2_with ((with_reducible refine (implIn_no _ H1).mono ?_); rintro e w1 ⟨rfl, rfl⟩)
    go_ret
    exact ⟨rfl, below_al w _⟩
  · go_enter Try.func28, Try.ntmps28
    go_wp2_with (first | ((with_reducible refine (implIn_yes _ H1).mono ?_); rintro e w1 ⟨rfl, rfl⟩) | ((with_reducible refine (implIn_no _ H2).mono ?_); rintro e w1 ⟨rfl, rfl⟩))
    go_ret
    exact ⟨rfl, below_al w _⟩
  · go_enter Try.func28, Try.ntmps28
    go_wp2_with (first | ((with_reducible refine (implIn_yes _ H1).mono ?_); rintro e w1 ⟨rfl, rfl⟩) | ((with_reducible refine (implIn_yes _ H2).mono ?_); rintro e w1 ⟨rfl, rfl⟩) | ((with_reducible refine (implIn_no _ H3).mono ?_); rintro e w1 ⟨rfl, rfl⟩))
    go_ret
    exact ⟨rfl, below_al w _⟩
  · obtain ⟨b1, b2⟩ := H2
    have H2 : (5 : Int) ≤ P ∧ P ≤ 12 := ⟨b1, b2⟩
    go_enter Try.func28, Try.ntmps28
    go_wp2_with (first | ((with_reducible refine (implIn_yes _ H1).mono ?_); rintro e w1 ⟨rfl, rfl⟩) | ((with_reducible refine (implIn_yes _ H2).mono ?_); rintro e w1 ⟨rfl, rfl⟩) | ((with_reducible refine (implIn_yes _ H3).mono ?_); rintro e w1 ⟨rfl, rfl⟩) | ((with_reducible refine (implIn_no _ H4).mono ?_); rintro e w1 ⟨rfl, rfl⟩))
    go_ret
    exact ⟨rfl, below_al w _⟩
end Go.Proofs.Ytmkchilhnmkhkab
