/- The model's NonceOf, and FnExactNonceOf's walk. -/
import Derived.Test.YtmkhflcnkpmhiaaNonceMath
import Derived.Test.YtmkhflcnkpmhiaaNumTSpec
namespace Go.Proofs.Ytmkhflcnkpmhiaa
open Go.RowKit Go.Proofs.Ytmkhflcnkpmhiaa.Hexa Go.Proofs.Ytmkhflcnkpmhiaa.Byt

theorem text_nil (x : ByteArray) (h : x.size = 0) : x = ⟨#[]⟩ := by
  apply ByteArray.ext
  exact Array.eq_empty_of_size_eq_zero h
theorem text_not (x : ByteArray) (h : 0 < x.size) : (x.toList == []) = false := by
  apply beq_eq_false_iff_ne.2
  intro e
  have h1 : x.toList.length = x.size := by rw [Go.ByteArray.toList_eq]; simp
  rw [e] at h1
  simp at h1
  omega

set_option maxRecDepth 100000 in
set_option maxHeartbeats 1000000 in
theorem specNonce_any (f p s : Int) (w : World) (hf : f ≤ 9223372036854775807) (hp : p ≤ 9223372036854775807) (hs : s ≤ 9223372036854775807) :
    Calls Try.prog 4 #[.int .i64 f, .int .i64 p, .int .i64 s] w fun e w' => e = .returned (.string (nonceT f p s)) ∧ Below w.heap.size w w' := by
  have h1 := fun w => specNum_any f 4 w hf
  have h2 := fun w => specNum_any p 2 w hp
  have h3 := fun w => specNum_any s 6 w hs
  have hz := nonceT_sizes f p s
  have hE := nonceT_eq f p s
  generalize nonceT f p s = r at hE ⊢
  generalize numTextB f 4 = x at h1 hz hE
  generalize numTextB p 2 = y at h2 hz hE
  generalize numTextB s 6 = z at h3 hz hE
  have k1 := Lib.hid h1
  have k2 := Lib.hid h2
  have k3 := Lib.hid h3
  obtain ⟨hx, hy, hz, hsum⟩ := hz
  clear h1 h2 h3 hf hp hs
  have HE := Lib.hid hE
  clear hE
  go_enter Try.func4, Try.ntmps4
  go_wp2_with fail
  refine (k1.out _).mono ?_
  rintro e w1 ⟨rfl, hb1⟩
  go_wp2_with fail
  refine (k2.out _).mono ?_
  rintro e w2 ⟨rfl, hb2⟩
  go_wp2_with fail
  refine (k3.out _).mono ?_
  rintro e w3 ⟨rfl, hb3⟩
  have HB := Lib.hid (hb1.trans ((hb2.trans (hb3.mono hb2.size)).mono hb1.size))
  clear hb1 hb2 hb3
  rcases hx with hx | hx
  · obtain rfl := text_nil x hx
    have hr : r = ⟨#[]⟩ := by rw [HE.out]; exact if_neg (by have h0 : (⟨#[]⟩ : ByteArray).size = 0 := rfl; omega)
    subst hr
    go_wp2
    go_ret
    exact ⟨rfl, HB.out⟩
  · have ex := text_not x (by omega)
    rcases hy with hy | hy
    · obtain rfl := text_nil y hy
      have hr : r = ⟨#[]⟩ := by rw [HE.out]; exact if_neg (by have h0 : (⟨#[]⟩ : ByteArray).size = 0 := rfl; omega)
      subst hr
      go_wp2
      go_ret
      exact ⟨rfl, HB.out⟩
    · have ey := text_not y (by omega)
      rcases hz with hz | hz
      · obtain rfl := text_nil z hz
        have hr : r = ⟨#[]⟩ := by rw [HE.out]; exact if_neg (by have h0 : (⟨#[]⟩ : ByteArray).size = 0 := rfl; omega)
        subst hr
        go_wp2
        go_ret
        exact ⟨rfl, HB.out⟩
      · have ez := text_not z (by omega)
        have hr : r = x ++ y ++ z := by rw [HE.out]; exact if_pos (by omega)
        subst hr
        go_wp2
        go_ret
        exact ⟨rfl, HB.out⟩
end Go.Proofs.Ytmkhflcnkpmhiaa
