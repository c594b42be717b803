/- FnExactRoundKeys: the law's walk. -/
import Derived.Test.YtepnnmckbcomjaaPartsLawA
import Derived.Test.YtepnnmckbcomjaaKeysModel
import Derived.Test.YtepnnmckbcomjaaKeysImpl
namespace Go.Proofs.Ytepnnmckbcomjaa
open Go.RowKit Go.Proofs.Ytepnnmckbcomjaa.Parts Go.Proofs.Ytepnnmckbcomjaa.Hexa

theorem below_drawsK {B : Nat} {a w : World} (h : Below B a w) (m : Nat) : Below B a (w.drewN m) := ⟨h.os, h.tape, h.output, h.size, h.block⟩
theorem own_drawsK {w : World} {base e : Nat} {v : Value} {n : Nat} {xs : List Value} (h : w.ownsRow base e 1 v n xs) (m : Nat) : (w.drewN m).ownsRow base e 1 v n xs := h

set_option maxHeartbeats 1000000 in
theorem roundKeys_law_of (s : ByteArray) (P : List ByteArray) (w : World) (hs : s.size ≤ 1048576) (hP : P.length ≤ 12)
    (h1 : ∀ w, Calls Try.prog 6 #[.string s] w (GivesK P w))
    (h2 : ∀ w, Calls Try.prog 7 #[.string s] w (GivesK P w)) :
    Calls Try.prog 3 #[.string s] w fun e w' => e = .returned (.bool true) ∧ Below w.heap.size w w' := by
  have k1 := Lib.hid h1
  have k2 := Lib.hid h2
  clear h1 h2
  go_enter Try.func3, Try.ntmps3
  go_wp2_with fail
  refine (k1.out _).mono ?_
  rintro e w1 ⟨v1, rfl, hown1, hb1⟩
  obtain ⟨ad1, cap1, rfl, hc1, hn1, hr1⟩ := own_form hown1
  have O1 := Lib.hid hown1
  have B1 := Lib.hid hb1
  clear hown1 hr1 hc1 hn1 hb1
  go_wp2_with fail
  refine (k2.out _).mono ?_
  rintro e w2 ⟨v2, rfl, hown2, hb2⟩
  obtain ⟨ad2, cap2, rfl, hc2, hn2, hr2⟩ := own_form hown2
  have O2 := Lib.hid hown2
  have B2 := Lib.hid hb2
  have O12 := Lib.hid (own_below O1.out hb2)
  clear hown2 hr2 hc2 hn2 hb2
  go_wp2_with fail
  refine (eqStrings_any _ _ _ _ _ P _ rfl (by omega) (own_reads O2.out) (own_reads O12.out)).mono ?_
  rintro e w3 ⟨rfl, m, rfl⟩
  have O2' := Lib.hid (own_drawsK O2.out m)
  go_wp2_with fail
  refine (markStrings_any w1.heap.size _ P.length 1 (scells P) (w2.drewN m) (by decide) (by omega) (B2.out.size) O2'.out).mono ?_
  rintro e w4 ⟨ys, rfl, hown4, hm4, hb4⟩
  have O4 := Lib.hid hown4
  have M4 := Lib.hid hm4
  have B4 : Hid (Below w1.heap.size w1 w4) := Lib.hid ((below_drawsK B2.out m).trans hb4)
  clear hown4 hm4 hb4
  go_wp2_with fail
  refine (heldStrings_any w1.heap.size _ P.length 1 ys _ (by decide) (by omega) O4.out M4.out).mono ?_
  rintro e w5 ⟨rfl, hb5⟩
  have B5 := Lib.hid hb5
  have hpos : ¬ ((1 : Int) + (P.length : Int) < 0) := by omega
  clear hb5
  go_wp2_with fail
  refine (k2.out _).mono ?_
  rintro e w6 ⟨v6, rfl, hown6, hb6⟩
  obtain ⟨ad6, cap6, rfl, hc6, hn6, hr6⟩ := own_form hown6
  have O6 := Lib.hid hown6
  have B6 := Lib.hid hb6
  have B46 : Hid (Below w4.heap.size w4 w6) := Lib.hid (B5.out.trans (hb6.mono B5.out.size))
  have B16 : Hid (Below w1.heap.size w1 w6) := Lib.hid (B4.out.trans (B46.out.mono B4.out.size))
  have O16 := Lib.hid (own_below O1.out B16.out)
  have O46 := Lib.hid (own_below O4.out B46.out)
  clear hown6 hr6 hc6 hn6 hb6
  go_wp2_with fail
  refine (eqStrings_any _ _ _ _ _ P _ rfl (by omega) (own_reads O6.out) (own_reads O16.out)).mono ?_
  rintro e w7 ⟨rfl, m7, rfl⟩
  have O47 := Lib.hid (own_drawsK O46.out m7)
  go_wp2_with fail
  refine (heldStrings_any w1.heap.size _ P.length 1 ys (w6.drewN m7) (by decide) (by omega) O47.out M4.out).mono ?_
  rintro e w8 ⟨rfl, hb8⟩
  have B8 := Lib.hid hb8
  clear hb8
  go_wp2
  go_ret
  exact ⟨rfl, B1.out.trans ((((below_drawsK B16.out m7).trans (B8.out.mono (by have := B16.out.size; exact this)))).mono B1.out.size)⟩

set_option maxHeartbeats 400000 in
theorem roundKeys_law (s : ByteArray) (w : World) :
    Calls Try.prog 3 #[.string s] w fun e w' => e = .returned (.bool true) ∧ Below w.heap.size w w' := by
  by_cases h : s.size ≤ 1048576
  · by_cases h' : s.size = 16
    · exact roundKeys_law_of s (keysTo s 11) w h (by rw [keysTo_length]; omega) (fun w => specRound_yes s w h') (fun w => implKeys_yes s w h')
    · exact roundKeys_law_of s [] w h (by simp) (fun w => specRound_no s w h') (fun w => implKeys_no s w h')
  · have hn : 1048576 < s.size := by omega
    go_enter Try.func3, Try.ntmps3
    go_wp2
    go_ret
    exact ⟨rfl, Below.refl _ _⟩
end Go.Proofs.Ytepnnmckbcomjaa
