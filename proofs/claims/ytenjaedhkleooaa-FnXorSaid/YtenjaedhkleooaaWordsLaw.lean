/- FnExactWordsOf: the law's walk, over what the program returns. -/
import Derived.Test.YtenjaedhkleooaaWordsSpec
import Derived.Test.YtenjaedhkleooaaPartsLawA
namespace Go.Proofs.Ytenjaedhkleooaa
open Go.RowKit Go.Proofs.Ytenjaedhkleooaa.Hexa Go.Proofs.Ytenjaedhkleooaa.Parts

theorem below_drawsT {B : Nat} {a w : World} (h : Below B a w) (m : Nat) : Below B a (w.drewN m) := ⟨h.os, h.tape, h.output, h.size, h.block⟩
theorem own_drawsT {w : World} {base e : Nat} {v : Value} {n : Nat} {xs : List Value} (h : w.ownsRow base e 1 v n xs) (m : Nat) : (w.drewN m).ownsRow base e 1 v n xs := h

set_option maxHeartbeats 1000000 in
theorem words_law_of1 (s : ByteArray) (P : List ByteArray) (w : World) (hs : s.size ≤ 1048576) (hP : P.length ≤ 3000)
    (h1 : ∀ w, Calls Try.prog 21 #[.string s] w (GivesT P w))
    (h2 : ∀ w, Calls Try.prog 22 #[.string s] w (GivesT P w)) :
    Calls Try.prog 8 #[.string s] w fun e w' => e = .returned (.bool true) ∧ Below w.heap.size w w' := by
  have k1 := Lib.hid h1
  have k2 := Lib.hid h2
  clear h1 h2
  go_enter Try.func8, Try.ntmps8
  go_wp2_with fail
  refine (k1.out _).mono ?_
  rintro e w1 ⟨v1, rfl, hown1, hb1⟩
  obtain ⟨ad1, cap1, rfl, hc1, hn1, hr1⟩ := own_form hown1
  have O1 := Lib.hid hown1
  have B1 := Lib.hid hb1
  clear hown1 hr1 hc1 hn1 hb1
  go_wp2_with fail
  refine (k2.out _).mono ?_
  rintro e w2 ⟨v2, rfl, hown2, hb2⟩
  obtain ⟨ad2, cap2, rfl, hc2, hn2, hr2⟩ := own_form hown2
  have O2 := Lib.hid hown2
  have B2 := Lib.hid hb2
  have O12 := Lib.hid (own_below O1.out hb2)
  clear hown2 hr2 hc2 hn2 hb2
  go_wp2_with fail
  refine (eqStrings_any _ _ _ _ _ P _ rfl (by omega) (own_reads O2.out) (own_reads O12.out)).mono ?_
  rintro e w3 ⟨rfl, m, rfl⟩
  have O2' := Lib.hid (own_drawsT O2.out m)
  go_wp2_with fail
  refine (markStrings_any w1.heap.size _ P.length 1 (scells P) (w2.drewN m) (by decide) (by omega) (B2.out.size) O2'.out).mono ?_
  rintro e w4 ⟨ys, rfl, hown4, hm4, hb4⟩
  have O4 := Lib.hid hown4
  have M4 := Lib.hid hm4
  have B4 : Hid (Below w1.heap.size w1 w4) := Lib.hid ((below_drawsT B2.out m).trans hb4)
  clear hown4 hm4 hb4
  go_wp2_with fail
  refine (heldStrings_any w1.heap.size _ P.length 1 ys _ (by decide) (by omega) O4.out M4.out).mono ?_
  rintro e w5 ⟨rfl, hb5⟩
  have B5 := Lib.hid hb5
  have hpos : ¬ ((1 : Int) + (P.length : Int) < 0) := by omega
  clear hb5
  go_wp2_with fail
  refine (k2.out _).mono ?_
  rintro e w6 ⟨v6, rfl, hown6, hb6⟩
  obtain ⟨ad6, cap6, rfl, hc6, hn6, hr6⟩ := own_form hown6
  have O6 := Lib.hid hown6
  have B6 := Lib.hid hb6
  have B46 : Hid (Below w4.heap.size w4 w6) := Lib.hid (B5.out.trans (hb6.mono B5.out.size))
  have B16 : Hid (Below w1.heap.size w1 w6) := Lib.hid (B4.out.trans (B46.out.mono B4.out.size))
  have O16 := Lib.hid (own_below O1.out B16.out)
  have O46 := Lib.hid (own_below O4.out B46.out)
  clear hown6 hr6 hc6 hn6 hb6
  go_wp2_with fail
  refine (eqStrings_any _ _ _ _ _ P _ rfl (by omega) (own_reads O6.out) (own_reads O16.out)).mono ?_
  rintro e w7 ⟨rfl, m7, rfl⟩
  have O47 := Lib.hid (own_drawsT O46.out m7)
  go_wp2_with fail
  refine (heldStrings_any w1.heap.size _ P.length 1 ys (w6.drewN m7) (by decide) (by omega) O47.out M4.out).mono ?_
  rintro e w8 ⟨rfl, hb8⟩
  have B8 := Lib.hid hb8
  clear hb8
  go_wp2
  go_ret
  exact ⟨rfl, B1.out.trans ((((below_drawsT B16.out m7).trans (B8.out.mono (by have := B16.out.size; exact this)))).mono B1.out.size)⟩

theorem words_law_of (s : ByteArray) (w : World)
    (h2 : s.size ≤ 20000 → ∀ w, Calls Try.prog 22 #[.string s] w (GivesT (wordsL s) w))
    (h3 : 20000 < s.size → s.size ≤ 1048576 → ∀ w, Calls Try.prog 22 #[.string s] w (GivesT [] w)) :
    Calls Try.prog 8 #[.string s] w fun e w' => e = .returned (.bool true) ∧ Below w.heap.size w w' := by
  by_cases h : s.size ≤ 1048576
  · by_cases h' : s.size ≤ 20000
    · exact words_law_of1 s (wordsL s) w h (by rw [wordsL_length]; unfold wordsN; omega) (fun w => specWords_any s w h') (h2 h')
    · exact words_law_of1 s [] w h (by simp) (fun w => specWords_long s w (by omega)) (h3 (by omega) h)
  · have hn : 1048576 < s.size := by omega
    go_enter Try.func8, Try.ntmps8
    go_wp2
    go_ret
    exact ⟨rfl, Below.refl _ _⟩
end Go.Proofs.Ytenjaedhkleooaa
