/- NameOk, RecWord, ReadRec, EntryWord, PagesFor: the model's. -/
import Derived.Test.YtcckhkihhhchbaaDoorRecMath
import Derived.Test.YtcckhkihhhchbaaDoorBk
import Derived.Test.YtcckhkihhhchbaaDoorNumSpec
import Derived.Test.YtcckhkihhhchbaaDoorNumTSpec
import Derived.Test.YtcckhkihhhchbaaDoorRangeSpec
import Derived.Test.YtcckhkihhhchbaaDoorZeroSpec
import Derived.Deep.DeepCutAuto
import Derived.Deep.RegionHeld3
namespace Go.Proofs.YtcckhkihhhchbaaDoor
open Go.RowKit Go.Proofs.YtcckhkihhhchbaaDoor.Parts Go.Proofs.YtcckhkihhhchbaaDoor.Hexa Go.Proofs.YtcckhkihhhchbaaDoor.Byt

theorem name_all {s : ByteArray} (hl : 1 ≤ s.size ∧ s.size ≤ 7) (h : ∀ j (hj : j < s.size), NameC s[j]) : NameR s := by
  refine ⟨hl, fun b hb => ?_⟩
  obtain ⟨j, hj, rfl⟩ := List.getElem_of_mem hb
  exact h j (by simpa using hj)
theorem name_at {s : ByteArray} (h : NameR s) (j : Nat) (hj : j < s.size) : NameC s[j] := by
  refine h.2 _ ?_
  have hj' : j < s.data.toList.length := by simpa using hj
  exact List.getElem_mem hj'

set_option maxRecDepth 100000 in
set_option maxHeartbeats 1000000 in
theorem specName_any (s : ByteArray) (w : World) (hs : s.size ≤ 2000000) :
    Calls Tryd.prog 77 #[.string s] w fun e w' => e = .returned (.bool (nameB s)) ∧ w' = w := by
  go_enter Tryd.func77, Tryd.ntmps77
  go_wp2
  go_loop [3] (fun i => ∃ k : Nat, k ≤ s.size ∧ i = .int .i64 k ∧ Hid (∀ j (hj : j < s.size), j < k → NameC s[j])) (fun i => s.size - (intOf i).toNat)
  case atStart => exact ⟨0, Nat.zero_le _, rfl, Lib.hid (fun j hj h => by omega)⟩
  case round =>
    obtain ⟨k, hk, rfl, HA⟩ := hrel
    by_cases hlt : k < s.size
    · obtain ⟨b, hb⟩ : ∃ b, s[k]'hlt = b := ⟨_, rfl⟩
      have hb255 := b.toNat_lt
      have HB := Lib.hid hb
      by_cases h1 : 97 ≤ (b.toNat : Int) ∧ (b.toNat : Int) ≤ 122
      · have HR := Lib.hid h1
        have HA2 : Hid (∀ j (hj : j < s.size), j < k + 1 → NameC s[j]) := Lib.hid (fun j hj h => by
          by_cases e : j = k
          · subst e; rw [HB.out]; exact .inl (by omega)
          · exact HA.out j hj (by omega))
        clear h1
        go_wp2_with ((with_reducible refine (range_yes _ HR.out).mono ?_); rintro e w1 ⟨rfl, rfl⟩)
        go_round
        case rel => exact ⟨k + 1, by omega, by go_num, HA2⟩
        case measure => (simp [intOf]; try omega)
      · by_cases h2 : 48 ≤ (b.toNat : Int) ∧ (b.toNat : Int) ≤ 57
        · have HR := Lib.hid h1
          have HR2 := Lib.hid h2
          have HA2 : Hid (∀ j (hj : j < s.size), j < k + 1 → NameC s[j]) := Lib.hid (fun j hj h => by
            by_cases e : j = k
            · subst e; rw [HB.out]; exact .inr (by omega)
            · exact HA.out j hj (by omega))
          clear h1 h2
          go_wp2_with (first | ((with_reducible refine (range_no _ HR.out).mono ?_); rintro e w1 ⟨rfl, rfl⟩) | ((with_reducible refine (range_yes _ HR2.out).mono ?_); rintro e w1 ⟨rfl, rfl⟩))
          go_round
          case rel => exact ⟨k + 1, by omega, by go_num, HA2⟩
          case measure => (simp [intOf]; try omega)
        · have HR := Lib.hid h1
          have HR2 := Lib.hid h2
          have HN : Hid (nameB s = false) := Lib.hid (nameB_no (fun h => by
            have h3 := name_at h k hlt
            rw [hb] at h3
            rcases h3 with h4 | h4
            · exact h1 (by omega)
            · exact h2 (by omega)))
          clear h1 h2
          go_wp2_with (first | ((with_reducible refine (range_no _ HR.out).mono ?_); rintro e w1 ⟨rfl, rfl⟩) | ((with_reducible refine (range_no _ HR2.out).mono ?_); rintro e w1 ⟨rfl, rfl⟩))
          go_ret
          exact ⟨by rw [HN.out]; rfl, rfl⟩
    · obtain rfl : k = s.size := by omega
      go_wp2_with fail
      refine (range_any _ _ _ _).mono ?_
      rintro e w1 ⟨rfl, rfl⟩
      have HN : Hid (decide ((1 : Int) ≤ (s.size : Int) ∧ (s.size : Int) ≤ 7) = nameB s) := Lib.hid (by
        by_cases hl : 1 ≤ s.size ∧ s.size ≤ 7
        · rw [nameB_yes (name_all hl (fun j hj => HA.out j hj hj))]; exact decide_eq_true (by omega)
        · rw [nameB_no (fun h => hl h.1)]; exact decide_eq_false (by omega))
      rw [HN.out]
      go_wp2
      go_ret
      exact ⟨rfl, rfl⟩

theorem specPages_any (n : Int) (w : World) (h0 : -9223372036854775808 ≤ n) (h1 : n ≤ 9223372036854775807) : Calls Tryd.prog 41 #[.int .i64 n] w fun e w' => e = .returned (.int .i64 (pagesZ n)) ∧ w' = w := by
  by_cases h : n ≤ 0
  · have HE : Hid (pagesZ n = 0) := Lib.hid (if_pos h)
    go_enter Tryd.func41, Tryd.ntmps41
    go_wp2
    go_ret
    exact ⟨by rw [HE.out]; rfl, rfl⟩
  · have HE : Hid (pagesZ n = (n - 1) / 32 + 1) := Lib.hid (if_neg h)
    have hp : 1 ≤ n := by omega
    have hd : (n - 1) / 32 ≤ 288230376151711743 := by omega
    have hd0 : 0 ≤ (n - 1) / 32 := by omega
    go_enter Tryd.func41, Tryd.ntmps41
    go_wp2
    go_ret
    exact ⟨by rw [HE.out]; rfl, rfl⟩

def SaysT (s : ByteArray) (w : World) (e : Ending) (w' : World) : Prop := e = .returned (.string s) ∧ Below w.heap.size w w'
set_option maxRecDepth 100000 in
set_option maxHeartbeats 1000000 in
theorem specRecWord_no (p q : Int) (m : ByteArray) (w : World) (_hm : m.size ≤ 2000000) (h : ¬ RecOk ⟨p, q, m⟩) :
    Calls Tryd.prog 42 #[.agg #[.int .i64 p, .int .i64 q, .string m]] w (SaysT ⟨#[]⟩ w) := by
  by_cases h0 : 1 ≤ p ∧ p ≤ 12
  · have H0 := Lib.hid h0
    by_cases h1 : 1 ≤ q ∧ q ≤ 16777215
    · have H1 := Lib.hid h1
      have h2 : ¬ m.size = 4 := fun e => h ⟨h0, h1, e⟩
      have e8 : ((m.size : Int) == 4) = false := by simp; omega
      have e9 : ((m.size : Int) != 4) = true := by simp; omega
      clear h0 h1 h
      go_enter Tryd.func42, Tryd.ntmps42
      go_wp2_with (first | ((with_reducible refine (range_yes _ H0.out).mono ?_); rintro e w1 ⟨rfl, rfl⟩) | ((with_reducible refine (range_yes _ H1.out).mono ?_); rintro e w1 ⟨rfl, rfl⟩))
      go_ret
      exact ⟨rfl, below_bk w _⟩
    · have H1 := Lib.hid h1
      clear h0 h1 h
      go_enter Tryd.func42, Tryd.ntmps42
      go_wp2_with (first | ((with_reducible refine (range_yes _ H0.out).mono ?_); rintro e w1 ⟨rfl, rfl⟩) | ((with_reducible refine (range_no _ H1.out).mono ?_); rintro e w1 ⟨rfl, rfl⟩))
      go_ret
      exact ⟨rfl, below_bk w _⟩
  · have H0 := Lib.hid h0
    clear h0 h
    go_enter Tryd.func42, Tryd.ntmps42
    go_wp2_with ((with_reducible refine (range_no _ H0.out).mono ?_); rintro e w1 ⟨rfl, rfl⟩)
    go_ret
    exact ⟨rfl, below_bk w _⟩

set_option maxRecDepth 100000 in
set_option maxHeartbeats 1000000 in
theorem specRecWord_yes (p q : Int) (m : ByteArray) (w : World) (h : RecOk ⟨p, q, m⟩) :
    Calls Tryd.prog 42 #[.agg #[.int .i64 p, .int .i64 q, .string m]] w (SaysT (recWordB ⟨p, q, m⟩) w) := by
  have HE := Lib.hid (recWordB_yes h)
  obtain ⟨h0, h1, h2⟩ := h
  have H0 : Hid (1 ≤ p ∧ p ≤ 12) := Lib.hid h0
  have H1 : Hid (1 ≤ q ∧ q ≤ 16777215) := Lib.hid h1
  have hm4 : m.size = 4 := h2
  have e8 : ((m.size : Int) == 4) = true := by simp; omega
  have e9 : ((m.size : Int) != 4) = false := by simp; omega
  have T0 := Lib.hid (Bk.alloc w #[.int .i64 p, .int .i64 q, .string m] 36)
  have B0 := Lib.hid (below_bk w (.cells #[.int .i64 p, .int .i64 q, .string m] 36))
  have hA : (numTextB p 1).size = 1 := numText_size (k := 1) (by omega) (by have := H0.out.1; omega) (by have := H0.out.2; omega)
  have hB : (numTextB q 3).size = 3 := numText_size (k := 3) (by omega) (by have := H1.out.1; omega) (by have := H1.out.2; omega)
  obtain ⟨A, hAe⟩ : ∃ A, numTextB p 1 = A := ⟨_, rfl⟩
  obtain ⟨D, hDe⟩ : ∃ D, numTextB q 3 = D := ⟨_, rfl⟩
  have HA := Lib.hid hAe
  have HD := Lib.hid hDe
  rw [hAe] at hA
  rw [hDe] at hB
  have hA1 : A.size ≤ 1 := by omega
  have hB1 : D.size ≤ 3 := by omega
  have hAD : ¬ (9223372036854775807 < A.size + D.size) := by omega
  have hADm : ¬ (9223372036854775807 < A.size + D.size + 4) := by omega
  clear h0 h1 h2 hAe hDe hA hB
  go_enter Tryd.func42, Tryd.ntmps42
  go_wp2_with (first | ((with_reducible refine (range_yes _ H0.out).mono ?_); rintro e w1 ⟨rfl, rfl⟩) | ((with_reducible refine (range_yes _ H1.out).mono ?_); rintro e w1 ⟨rfl, rfl⟩))
  have T0d := Lib.hid T0.out.drew
  have B0d : Hid (Below w.heap.size w (w.alloc (.cells #[.int .i64 p, .int .i64 q, .string m] 36)).drew) := Lib.hid B0.out.drew
  go_region_held3 (fun w' => w'.cell? ⟨w.heap.size, 0, none⟩ = some (.int .i64 p) ∧ w'.cell? ⟨w.heap.size, 1, none⟩ = some (.int .i64 q) ∧ w'.cell? ⟨w.heap.size, 2, none⟩ = some (.string m))
    (first
      | exact ⟨T0d.out.cell rfl, T0d.out.cell rfl, T0d.out.cell rfl⟩
      | exact ⟨T1.out.cell rfl, T1.out.cell rfl, T1.out.cell rfl⟩
      | exact ⟨T2.out.cell rfl, T2.out.cell rfl, T2.out.cell rfl⟩
      | go_keep)
    (first
      | (go_at_call 76; (with_reducible refine (specNum_any p 1 _ (by have := H0.out.2; omega)).mono ?_); rw [HA.out]; rintro e w1 ⟨rfl, hb⟩; have T1 := Lib.hid (T0d.out.later hb); have B1 : Hid (Below w.heap.size w w1) := Lib.hid (B0d.out.trans (hb.mono B0d.out.size)); clear hb)
      | (go_at_call 76; (with_reducible refine (specNum_any q 3 _ (by have := H1.out.2; omega)).mono ?_); rw [HD.out]; rintro e w2 ⟨rfl, hb⟩; have T2 := Lib.hid (T1.out.later hb); have B2 : Hid (Below w.heap.size w w2) := Lib.hid (B1.out.trans (hb.mono B1.out.size)); clear hb))
  go_wp2
  go_ret
  exact ⟨by rw [HE.out, HA.out, HD.out]; rfl, B2.out⟩
theorem specRecWord_any (p q : Int) (m : ByteArray) (w : World) (hm : m.size ≤ 2000000) :
    Calls Tryd.prog 42 #[.agg #[.int .i64 p, .int .i64 q, .string m]] w (SaysT (recWordB ⟨p, q, m⟩) w) := by
  by_cases h : RecOk ⟨p, q, m⟩
  · exact specRecWord_yes p q m w h
  · rw [recWordB_no h]; exact specRecWord_no p q m w hm h
end Go.Proofs.YtcckhkihhhchbaaDoor
