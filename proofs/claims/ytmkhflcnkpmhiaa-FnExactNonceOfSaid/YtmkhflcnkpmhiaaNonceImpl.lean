/- The program's NonceOf. -/
import Derived.Test.YtmkhflcnkpmhiaaNonceMath
import Derived.Test.YtmkhflcnkpmhiaaNumImplB
namespace Go.Proofs.Ytmkhflcnkpmhiaa
open Go.RowKit Go.Proofs.Ytmkhflcnkpmhiaa.Hexa Go.Proofs.Ytmkhflcnkpmhiaa.Byt

set_option maxRecDepth 100000 in
set_option maxHeartbeats 400000 in
theorem implNonce_any (f p s : Int) (w : World) (hf : f ≤ 9223372036854775807) (hp : p ≤ 9223372036854775807) (hs : s ≤ 9223372036854775807) :
    Calls Try.prog 5 #[.int .i64 f, .int .i64 p, .int .i64 s] w fun e w' => e = .returned (.string (nonceT f p s)) ∧ Below w.heap.size w w' := by
  have h1 := fun w => implNum_any f 4 w hf
  have h2 := fun w => implNum_any p 2 w hp
  have h3 := fun w => implNum_any s 6 w hs
  have hz := nonceT_sizes f p s
  have hE := nonceT_eq f p s
  generalize nonceT f p s = r at hE ⊢
  generalize numTextB f 4 = x at h1 hz hE
  generalize numTextB p 2 = y at h2 hz hE
  generalize numTextB s 6 = z at h3 hz hE
  have k1 := Lib.hid h1
  have k2 := Lib.hid h2
  have k3 := Lib.hid h3
  obtain ⟨hx, hy, hz, hsum⟩ := hz
  clear h1 h2 h3 hf hp hs
  by_cases h : x.size + y.size + z.size = 12
  · rw [if_pos h] at hE
    subst hE
    go_enter Try.func5, Try.ntmps5
    go_wp2_with fail
    refine (k1.out _).mono ?_
    rintro e w1 ⟨rfl, hb1⟩
    go_wp2_with fail
    refine (k2.out _).mono ?_
    rintro e w2 ⟨rfl, hb2⟩
    go_wp2_with fail
    refine (k3.out _).mono ?_
    rintro e w3 ⟨rfl, hb3⟩
    go_wp2
    go_ret
    exact ⟨rfl, hb1.trans ((hb2.trans (hb3.mono hb2.size)).mono hb1.size)⟩
  · rw [if_neg h] at hE
    subst hE
    go_enter Try.func5, Try.ntmps5
    go_wp2_with fail
    refine (k1.out _).mono ?_
    rintro e w1 ⟨rfl, hb1⟩
    go_wp2_with fail
    refine (k2.out _).mono ?_
    rintro e w2 ⟨rfl, hb2⟩
    go_wp2_with fail
    refine (k3.out _).mono ?_
    rintro e w3 ⟨rfl, hb3⟩
    go_wp2
    go_ret
    exact ⟨rfl, hb1.trans ((hb2.trans (hb3.mono hb2.size)).mono hb1.size)⟩
end Go.Proofs.Ytmkhflcnkpmhiaa
