/- FnExactUnhex: the law's walk. -/
import Derived.Test.YtlnfbddamlhifaaUnhexSpec
import Derived.Test.YtlnfbddamlhifaaUnhexImpl
namespace Go.Proofs.Ytlnfbddamlhifaa
open Go.RowKit Go.Proofs.Ytlnfbddamlhifaa.Hexa

/-- Both answer with the same text and the same word. -/
theorem unhex_law_of (s r : ByteArray) (b : Bool) (w : World) (hs : s.size ≤ 1048576)
    (h1 : ∀ w, Calls Try.prog 9 #[.string s] w fun e w' => e = .returned (.tuple #[.string r, .bool b]) ∧ Below w.heap.size w w')
    (h2 : ∀ w, Calls Try.prog 10 #[.string s] w fun e w' => e = .returned (.tuple #[.string r, .bool b]) ∧ Below w.heap.size w w') :
    Calls Try.prog 4 #[.string s] w fun e w' => e = .returned (.bool true) ∧ Below w.heap.size w w' := by
  have k1 := Lib.hid h1
  have k2 := Lib.hid h2
  clear h1 h2
  go_enter Try.func4, Try.ntmps4
  go_wp2_with (first
    | (go_at_call 9; refine (k1.out _).mono ?_; rintro e w1 ⟨rfl, hb1⟩)
    | (go_at_call 10; refine (k2.out _).mono ?_; rintro e w2 ⟨rfl, hb2⟩))
  go_ret
  exact ⟨rfl, hb1.trans (hb2.mono hb1.size)⟩

set_option maxHeartbeats 400000 in
theorem unhex_law (s : ByteArray) (w : World) :
    Calls Try.prog 4 #[.string s] w fun e w' => e = .returned (.bool true) ∧ Below w.heap.size w w' := by
  by_cases h : s.size ≤ 1048576
  · by_cases h' : 40000 < s.size ∨ s.size % 2 = 1
    · exact unhex_law_of s _ _ w h (fun w => specUnhex_not s w h') (fun w => implUnhex_not s w h')
    · exact unhex_law_of s _ _ w h (fun w => specUnhex_even s w (by omega) (by omega)) (fun w => implUnhex_even s w (by omega) (by omega))
  · have hn : 1048576 < s.size := by omega
    go_enter Try.func4, Try.ntmps4
    go_wp2
    go_ret
    exact ⟨rfl, Below.refl _ _⟩
end Go.Proofs.Ytlnfbddamlhifaa
