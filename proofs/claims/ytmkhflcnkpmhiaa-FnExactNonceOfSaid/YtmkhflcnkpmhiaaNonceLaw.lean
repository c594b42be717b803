/- FnExactNonceOf: the law's walk. -/
import Derived.Test.YtmkhflcnkpmhiaaNonceSpec
import Derived.Test.YtmkhflcnkpmhiaaNonceImpl
namespace Go.Proofs.Ytmkhflcnkpmhiaa
open Go.RowKit Go.Proofs.Ytmkhflcnkpmhiaa.Hexa Go.Proofs.Ytmkhflcnkpmhiaa.Byt

set_option maxHeartbeats 400000 in
theorem nonceOf_law (f p s : Int) (w : World) (hf : f ≤ 9223372036854775807) (hp : p ≤ 9223372036854775807) (hs : s ≤ 9223372036854775807) :
    Calls Try.prog 3 #[.int .i64 f, .int .i64 p, .int .i64 s] w fun e w' => e = .returned (.bool true) ∧ Below w.heap.size w w' := by
  have k1 := Lib.hid fun w => specNonce_any f p s w hf hp hs
  have k2 := Lib.hid fun w => implNonce_any f p s w hf hp hs
  generalize nonceT f p s = t at k1 k2
  clear hf hp hs
  go_enter Try.func3, Try.ntmps3
  go_wp2_with (first
    | (go_at_call 4; refine (k1.out _).mono ?_; rintro e w1 ⟨rfl, hb1⟩)
    | (go_at_call 5; refine (k2.out _).mono ?_; rintro e w2 ⟨rfl, hb2⟩))
  go_ret
  exact ⟨rfl, hb1.trans (hb2.mono hb1.size)⟩
end Go.Proofs.Ytmkhflcnkpmhiaa
