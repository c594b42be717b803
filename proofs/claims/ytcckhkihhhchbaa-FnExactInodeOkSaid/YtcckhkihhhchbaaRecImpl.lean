/- RecWord: the program's. -/
import Derived.Test.YtcckhkihhhchbaaRecSpec
import Derived.Test.YtcckhkihhhchbaaRangeImpl
import Derived.Test.YtcckhkihhhchbaaNumImplB
namespace Go.Proofs.Ytcckhkihhhchbaa
open Go.RowKit Go.Proofs.Ytcckhkihhhchbaa.Parts Go.Proofs.Ytcckhkihhhchbaa.Hexa Go.Proofs.Ytcckhkihhhchbaa.Byt

set_option maxRecDepth 100000 in
set_option maxHeartbeats 1000000 in
theorem implRecWord_no (p q : Int) (m : ByteArray) (w : World) (_hm : m.size ≤ 2000000) (h : ¬ RecOk ⟨p, q, m⟩) :
    Calls Try.prog 15 #[.agg #[.int .i64 p, .int .i64 q, .string m]] w (SaysT ⟨#[]⟩ w) := by
  by_cases h0 : 1 ≤ p ∧ p ≤ 12
  · have H0 := Lib.hid h0
    by_cases h1 : 1 ≤ q ∧ q ≤ 16777215
    · have H1 := Lib.hid h1
      have h2 : ¬ m.size = 4 := fun e => h ⟨h0, h1, e⟩
      have e8 : ((m.size : Int) == 4) = false := by simp; omega
      have e9 : ((m.size : Int) != 4) = true := by simp; omega
      clear h0 h1 h
      go_enter Try.func15, Try.ntmps15
      go_wp2_with (first | ((with_reducible refine (implIn_yes _ H0.out).mono ?_); rintro e w1 ⟨rfl, rfl⟩) | ((with_reducible refine (implIn_yes _ H1.out).mono ?_); rintro e w1 ⟨rfl, rfl⟩))
      go_ret
      exact ⟨rfl, below_bk w _⟩
    · have H1 := Lib.hid h1
      clear h0 h1 h
      go_enter Try.func15, Try.ntmps15
      go_wp2_with (first | ((with_reducible refine (implIn_yes _ H0.out).mono ?_); rintro e w1 ⟨rfl, rfl⟩) | ((with_reducible refine (implIn_no _ H1.out).mono ?_); rintro e w1 ⟨rfl, rfl⟩))
      go_ret
      exact ⟨rfl, below_bk w _⟩
  · have H0 := Lib.hid h0
    clear h0 h
    go_enter Try.func15, Try.ntmps15
    go_wp2_with ((with_reducible refine (implIn_no _ H0.out).mono ?_); rintro e w1 ⟨rfl, rfl⟩)
    go_ret
    exact ⟨rfl, below_bk w _⟩

set_option maxRecDepth 100000 in
set_option maxHeartbeats 1000000 in
theorem implRecWord_yes (p q : Int) (m : ByteArray) (w : World) (h : RecOk ⟨p, q, m⟩) :
    Calls Try.prog 15 #[.agg #[.int .i64 p, .int .i64 q, .string m]] w (SaysT (recWordB ⟨p, q, m⟩) w) := by
  have HE := Lib.hid (recWordB_yes h)
  obtain ⟨h0, h1, h2⟩ := h
  have H0 : Hid (1 ≤ p ∧ p ≤ 12) := Lib.hid h0
  have H1 : Hid (1 ≤ q ∧ q ≤ 16777215) := Lib.hid h1
  have hm4 : m.size = 4 := h2
  have e8 : ((m.size : Int) == 4) = true := by simp; omega
  have e9 : ((m.size : Int) != 4) = false := by simp; omega
  have T0 := Lib.hid (Bk.alloc w #[.int .i64 p, .int .i64 q, .string m] 27)
  have B0 := Lib.hid (below_bk w (.cells #[.int .i64 p, .int .i64 q, .string m] 27))
  have hA : (numTextB p 1).size = 1 := numText_size (k := 1) (by omega) (by have := H0.out.1; omega) (by have := H0.out.2; omega)
  have hB : (numTextB q 3).size = 3 := numText_size (k := 3) (by omega) (by have := H1.out.1; omega) (by have := H1.out.2; omega)
  obtain ⟨A, hAe⟩ : ∃ A, numTextB p 1 = A := ⟨_, rfl⟩
  obtain ⟨D, hDe⟩ : ∃ D, numTextB q 3 = D := ⟨_, rfl⟩
  have HA := Lib.hid hAe
  have HD := Lib.hid hDe
  rw [hAe] at hA
  rw [hDe] at hB
  have hA1 : A.size ≤ 1 := by omega
  have hB1 : D.size ≤ 3 := by omega
  have hAD : ¬ (9223372036854775807 < A.size + D.size) := by omega
  have hADm : ¬ (9223372036854775807 < A.size + D.size + 4) := by omega
  clear h0 h1 h2 hAe hDe hA hB
  go_enter Try.func15, Try.ntmps15
  go_wp2_with (first | ((with_reducible refine (implIn_yes _ H0.out).mono ?_); rintro e w1 ⟨rfl, rfl⟩) | ((with_reducible refine (implIn_yes _ H1.out).mono ?_); rintro e w1 ⟨rfl, rfl⟩))
  have T0d := Lib.hid T0.out.drew
  have B0d : Hid (Below w.heap.size w (w.alloc (.cells #[.int .i64 p, .int .i64 q, .string m] 27)).drew) := Lib.hid B0.out.drew
  go_region_held3 (fun w' => w'.cell? ⟨w.heap.size, 0, none⟩ = some (.int .i64 p) ∧ w'.cell? ⟨w.heap.size, 1, none⟩ = some (.int .i64 q) ∧ w'.cell? ⟨w.heap.size, 2, none⟩ = some (.string m))
    (first
      | exact ⟨T0d.out.cell rfl, T0d.out.cell rfl, T0d.out.cell rfl⟩
      | exact ⟨T1.out.cell rfl, T1.out.cell rfl, T1.out.cell rfl⟩
      | exact ⟨T2.out.cell rfl, T2.out.cell rfl, T2.out.cell rfl⟩
      | go_keep)
    (first
      | (go_at_call 40; (with_reducible refine (implNum_any p 1 _ (by have := H0.out.2; omega)).mono ?_); rw [HA.out]; rintro e w1 ⟨rfl, hb⟩; have T1 := Lib.hid (T0d.out.later hb); have B1 : Hid (Below w.heap.size w w1) := Lib.hid (B0d.out.trans (hb.mono B0d.out.size)); clear hb)
      | (go_at_call 40; (with_reducible refine (implNum_any q 3 _ (by have := H1.out.2; omega)).mono ?_); rw [HD.out]; rintro e w2 ⟨rfl, hb⟩; have T2 := Lib.hid (T1.out.later hb); have B2 : Hid (Below w.heap.size w w2) := Lib.hid (B1.out.trans (hb.mono B1.out.size)); clear hb))
  go_wp2
  go_ret
  exact ⟨by rw [HE.out, HA.out, HD.out]; rfl, B2.out⟩
theorem implRecWord_any (p q : Int) (m : ByteArray) (w : World) (hm : m.size ≤ 2000000) :
    Calls Try.prog 15 #[.agg #[.int .i64 p, .int .i64 q, .string m]] w (SaysT (recWordB ⟨p, q, m⟩) w) := by
  by_cases h : RecOk ⟨p, q, m⟩
  · exact implRecWord_yes p q m w h
  · rw [recWordB_no h]; exact implRecWord_no p q m w hm h
end Go.Proofs.Ytcckhkihhhchbaa
