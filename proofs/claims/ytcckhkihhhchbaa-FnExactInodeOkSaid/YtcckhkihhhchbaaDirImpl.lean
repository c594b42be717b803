/- What a directory has besides: whether it is right. The program's. -/
import Derived.Test.YtcckhkihhhchbaaInoSpec
import Derived.Test.YtcckhkihhhchbaaEntImpl
namespace Go.Proofs.Ytcckhkihhhchbaa
open Go.RowKit Go.Proofs.Ytcckhkihhhchbaa.Parts Go.Proofs.Ytcckhkihhhchbaa.Hexa Go.Proofs.Ytcckhkihhhchbaa.Byt

/-- The name ahead of the k-th. -/
def prevT (E : List EntryR) (k : Nat) : ByteArray := if k = 0 then ⟨#[]⟩ else (E.getD (k - 1) default).f1
theorem prevT_next (E : List EntryR) (k : Nat) : prevT E (k + 1) = (E.getD k default).f1 := by unfold prevT; rw [if_neg (by omega)]; rfl
theorem text_first {m : ByteArray} (h : 0 < m.size) : textLt ⟨#[]⟩ m = true := by
  unfold textLt
  rw [Go.ByteArray.toList_eq, Go.ByteArray.toList_eq]
  have hl : 0 < m.data.toList.length := by simpa using h
  match m.data.toList, hl with
  | x :: r, _ => rfl
theorem bytes_tri : ∀ a b : List UInt8, (Op.bytesLess b a = true ∧ Op.bytesLess a b = false ∧ (a == b) = false) ∨ (Op.bytesLess b a = false ∧ Op.bytesLess a b = true) ∨ (Op.bytesLess b a = false ∧ Op.bytesLess a b = false ∧ (a == b) = true)
  | [], [] => .inr (.inr ⟨rfl, rfl, rfl⟩)
  | [], y :: s => .inr (.inl ⟨rfl, rfl⟩)
  | x :: r, [] => .inl ⟨rfl, rfl, rfl⟩
  | x :: r, y :: s => by
    have ih := bytes_tri r s
    simp only [Op.bytesLess]
    by_cases h1 : x = y
    · subst h1
      have hl : ¬ (x < x) := UInt8.lt_irrefl x
      simpa [hl] using ih
    · rcases UInt8.lt_or_lt_of_ne h1 with h | h
      · have h2 : ¬ (y < x) := UInt8.not_lt.2 (UInt8.le_of_lt h)
        have h3 : ¬ (y = x) := fun e => h1 e.symm
        simp [h, h2, h1, h3]
      · have h2 : ¬ (x < y) := UInt8.not_lt.2 (UInt8.le_of_lt h)
        simp [h, h2, h1]
theorem text_tri (m u : ByteArray) : (textLt u m = true ∧ Op.bytesLess m.toList u.toList = false ∧ (m.toList == u.toList) = false) ∨ (textLt u m = false ∧ Op.bytesLess m.toList u.toList = true) ∨ (textLt u m = false ∧ Op.bytesLess m.toList u.toList = false ∧ (m.toList == u.toList) = true) :=
  bytes_tri m.toList u.toList
theorem entsOk_on {E : List EntryR} {m : Nat} (h : EntsOk E m) (h1 : EntryOk (E.getD m default)) (h2 : textLt (prevT E m) (E.getD m default).f1 = true) : EntsOk E (m + 1) :=
  entsOk_step h h1 (fun h0 => by unfold prevT at h2; rw [if_neg (by omega)] at h2; exact h2)
theorem entsOk_prev {E : List EntryR} {n k : Nat} (h : EntsOk E n) (hk : k < n) : textLt (prevT E k) (E.getD k default).f1 = true := by
  unfold prevT
  by_cases h0 : k = 0
  · rw [if_pos h0]; exact text_first (by have := (h k hk).1.2.1; omega)
  · rw [if_neg h0]; exact (h k hk).2 (by omega)

section
variable (aE : Option Addr) (nE cE : Nat) (w : World) (E : List EntryR)

set_option maxRecDepth 100000 in
set_option maxHeartbeats 2000000 in
theorem implDir_yes (h6 : nE ≤ 6) (hs : SrcEntry w aE nE E) (hf : FitEntry E nE 2000000) (b : Bool) (hb : b = true ↔ EntsOk E nE) :
    Calls Try.prog 52 #[.agg #[.slice aE nE cE]] w (SaysB b w) := by
  have HF := Lib.hid hf
  have HG := Lib.hid hb
  have B0 := Lib.hid (below_bk w (.cells #[.slice aE nE cE] 76))
  have HS := Lib.hid hs
  have e6 : decide ((6 : Int) < (nE : Int)) = false := by simp; omega
  clear hs hf hb
  go_enter Try.func52, Try.ntmps52
  go_wp2
  go_loopw [13, 3] (fun iv sv wr => ∃ (k : Nat) (u : ByteArray), k ≤ nE ∧ iv = .int .i64 k ∧ sv = .string u ∧ Hid (u = prevT E k) ∧ Hid (EntsOk E k) ∧ Hid (Below w.heap.size w wr)) (fun iv _ _ => nE - (intOf iv).toNat)
  case atStart => exact ⟨0, _, Nat.zero_le _, rfl, rfl, Lib.hid rfl, Lib.hid (fun j hj => by omega), B0⟩
  case round =>
    obtain ⟨k, u, hk, rfl, rfl, HU, HA, HB⟩ := hrel
    by_cases hlt : k < nE
    · obtain ⟨g, off, ha, hg, d0, d1⟩ := srcEntry_later HS.out HB.out (Nat.le_refl _) k hlt
      obtain ⟨⟨p, m⟩, hx⟩ : ∃ x, E.getD k default = x := ⟨_, rfl⟩
      have hm := HF.out k hlt
      rw [hx] at d0 d1 hm
      simp only at d0 d1 hm
      have HX := Lib.hid hx
      have HM := Lib.hid hm
      have X0 := Lib.hid (Bk.alloc wr #[.int .i64 p, .string m] 37)
      have HBa : Hid (Below w.heap.size w (wr.alloc (.cells #[.int .i64 p, .string m] 37))) := Lib.hid (HB.out.alloc HB.out.size _)
      subst ha
      clear hx hm
      by_cases i1 : EntryOk ⟨p, m⟩
      · have hT8 := entryWord_size i1
        have I1 := Lib.hid i1
        obtain ⟨T, hT⟩ : ∃ T, entryWordB ⟨p, m⟩ = T := ⟨_, rfl⟩
        have HT := Lib.hid hT
        rw [hT] at hT8
        have e1 : (T.toList == []) = false := text_full T (by omega)
        clear i1 hT hT8
        go_wp2_with fail
        refine (implEntryWord_any p m _ HM.out).mono ?_
        rw [HT.out]
        rintro e w1 ⟨rfl, hb1⟩
        have X1 := Lib.hid (X0.out.later hb1)
        have B1 : Hid (Below w.heap.size w w1) := Lib.hid (HBa.out.trans (hb1.mono HBa.out.size))
        have x1 := X1.out.cell (j := 1) rfl
        have HU2 : Hid (m = prevT E (k + 1)) := Lib.hid (by rw [prevT_next, HX.out])
        clear hb1 d0 d1 HB HBa
        rcases text_tri m u with ⟨i2, i3, i4⟩ | ⟨i2, i3⟩ | ⟨i2, i3, i4⟩
        · have HA2 : Hid (EntsOk E (k + 1)) := Lib.hid (entsOk_on HA.out (by rw [HX.out]; exact I1.out) (by rw [HX.out, ← HU.out]; exact i2))
          clear i2
          go_wp2
          clear x1 i3 i4
          go_roundw
          case rel => exact ⟨k + 1, _, by omega, by go_num, rfl, HU2, HA2, B1⟩
          case measure => (simp [intOf]; try omega)
        · obtain rfl : b = false := bool_no HG.out (fun x => by have h9 := entsOk_prev x hlt; rw [HX.out, ← HU.out] at h9; change textLt u m = true at h9; rw [i2] at h9; cases h9)
          clear i2
          go_wp2
          go_ret
          exact ⟨rfl, B1.out⟩
        · obtain rfl : b = false := bool_no HG.out (fun x => by have h9 := entsOk_prev x hlt; rw [HX.out, ← HU.out] at h9; change textLt u m = true at h9; rw [i2] at h9; cases h9)
          clear i2
          go_wp2
          go_ret
          exact ⟨rfl, B1.out⟩
      · have HT := Lib.hid (entryWordB_no i1)
        obtain rfl : b = false := bool_no HG.out (fun x => i1 (by have h9 := (x k hlt).1; rw [HX.out] at h9; exact h9))
        clear i1
        go_wp2_with fail
        refine (implEntryWord_any p m _ HM.out).mono ?_
        rw [HT.out]
        rintro e w1 ⟨rfl, hb1⟩
        have B1 : Hid (Below w.heap.size w w1) := Lib.hid (HBa.out.trans (hb1.mono HBa.out.size))
        clear hb1 d0 d1 HB HBa
        go_wp2
        go_ret
        exact ⟨rfl, B1.out⟩
    · obtain rfl : k = nE := by omega
      obtain rfl : b = true := HG.out.2 HA.out
      go_wp2
      go_ret
      exact ⟨rfl, HB.out⟩
theorem implDir_any (hn : nE ≤ 9223372036854775807) (hs : SrcEntry w aE nE E) (hf : FitEntry E nE 2000000) (b : Bool) (hb : b = true ↔ (nE ≤ 6 ∧ EntsOk E nE)) :
    Calls Try.prog 52 #[.agg #[.slice aE nE cE]] w (SaysB b w) := by
  by_cases h : nE ≤ 6
  · exact implDir_yes aE nE cE w E h hs hf b ⟨fun e => (hb.1 e).2, fun e => hb.2 ⟨h, e⟩⟩
  · obtain rfl : b = false := bool_no hb (fun x => h x.1)
    have B0 := Lib.hid (below_bk w (.cells #[.slice aE nE cE] 76))
    clear hb hs hf
    have h7 : (6 : Int) < (nE : Int) := by omega
    go_enter Try.func52, Try.ntmps52
    go_wp2
    go_ret
    exact ⟨rfl, B0.out⟩
end
end Go.Proofs.Ytcckhkihhhchbaa
