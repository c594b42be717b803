/- FnExactSealedTwice, FnExactNoncesOf: the laws' walks. -/
import Derived.Test.YtgpjklnlchbbbaaSealTwoI
namespace Go.Proofs.Ytgpjklnlchbbbaa
open Go.RowKit Go.Proofs.Ytgpjklnlchbbbaa.Parts Go.Proofs.Ytgpjklnlchbbbaa.Hexa

/-- Sealings whose texts are texts of Go's. -/
def Fit3 (L : List S3) (n b : Nat) : Prop := ∀ j, j < n → (L.getD j default).k.size ≤ b ∧ (L.getD j default).n.size ≤ b ∧ (L.getD j default).t.size ≤ b

set_option maxRecDepth 100000 in
set_option maxHeartbeats 1000000 in
theorem twice_law (a : Option Addr) (n c : Nat) (L : List S3) (w : World) (hs : SrcS w a n L) (hn : n ≤ 9223372036854775807) (hm : Fit3 L n maxLen) :
    Calls Try.prog 4 #[.slice a n c] w fun e w' => e = .returned (.bool true) ∧ Below w.heap.size w w' := by
  have HS := Lib.hid hs
  have HM := Lib.hid hm
  clear hs hm
  go_enter Try.func4, Try.ntmps4
  go_wp2_with fail
  refine (szSealings_any a n c L _ HS.out hn HM.out).mono ?_
  rintro e w1 ⟨r, rfl, hr | ⟨h0, hn2, hsz⟩, hb1⟩
  · go_wp2
    go_ret
    exact ⟨rfl, hb1⟩
  have HZ := Lib.hid hsz
  have B1 := Lib.hid hb1
  have hr : ¬ (r < 0) := by omega
  clear hsz hb1 h0
  go_wp2_with fail
  refine (toSeals_any a n c L _ (HS.out.later B1.out) hn2).mono ?_
  rintro e w2 ⟨rfl, hown2, hb2⟩
  have I2 := Lib.hid (srcS_of_own hown2)
  have B2 : Hid (Below w.heap.size w w2) := Lib.hid (B1.out.trans (hb2.mono B1.out.size))
  clear hown2 hb2
  go_wp2_with fail
  refine (specTwice_any _ n n L _ I2.out (by omega)).mono ?_
  rintro e w3 ⟨rfl, hb3⟩
  have B3 : Hid (Below w.heap.size w w3) := Lib.hid (B2.out.trans (hb3.mono B2.out.size))
  clear hb3 I2
  go_wp2_with fail
  refine (toSeals_any a n c L _ (HS.out.later B3.out) hn2).mono ?_
  rintro e w4 ⟨rfl, hown4, hb4⟩
  have I4 := Lib.hid (srcS_of_own hown4)
  have B4 : Hid (Below w.heap.size w w4) := Lib.hid (B3.out.trans (hb4.mono B3.out.size))
  clear hown4 hb4
  go_wp2_with fail
  refine (implTwice_any _ n n L _ I4.out (by omega) HZ.out).mono ?_
  rintro e w5 ⟨rfl, hb5⟩
  have I5 := Lib.hid (I4.out.later hb5)
  have B5 : Hid (Below w.heap.size w w5) := Lib.hid (B4.out.trans (hb5.mono B4.out.size))
  clear hb5 I4
  obtain ⟨cb, hcb⟩ : ∃ cb, clashB L n = cb := ⟨_, rfl⟩
  rw [hcb]
  clear hcb
  have hcc : (cb != cb) = false := by cases cb <;> rfl
  go_wp2_with fail
  refine (toSeals_any a n c L _ (HS.out.later B5.out) hn2).mono ?_
  rintro e w6 ⟨rfl, hown6, hb6⟩
  have I6 := Lib.hid (srcS_of_own hown6)
  have I56 := Lib.hid (I5.out.later hb6)
  have B6 : Hid (Below w.heap.size w w6) := Lib.hid (B5.out.trans (hb6.mono B5.out.size))
  clear hown6 hb6 I5
  go_wp2_with fail
  refine (eqSeals_any _ _ n _ _ L _ (by omega) I56.out I6.out).mono ?_
  rintro e w7 ⟨rfl, hb7⟩
  go_wp2
  go_ret
  exact ⟨rfl, B6.out.trans (hb7.mono B6.out.size)⟩

theorem eqTexts_own (v1 v2 : Value) (B1 B2 n : Nat) (P : List ByteArray) (w : World) (hP : P.length = n) (hn : n ≤ 100000000) (h1 : w.ownsRow B1 9 1 v1 n (scells P)) (h2 : w.ownsRow B2 9 1 v2 n (scells P)) :
    Calls Try.prog 16 #[v1, v2] w fun e w' => e = .returned (.bool true) ∧ ∃ m, w' = w.drewN m := by
  obtain ⟨a1, c1, rfl, _, _, r1⟩ := own_form h1
  obtain ⟨a2, c2, rfl, _, _, r2⟩ := own_form h2
  exact eqStrings_any a1 a2 n c1 c2 P w hP hn r1 r2
theorem own_drewN {w : World} {B e k : Nat} {v : Value} {n : Nat} {xs : List Value} (h : w.ownsRow B e k v n xs) (m : Nat) : (w.drewN m).ownsRow B e k v n xs := h
theorem own_but {w w' : World} {M B e : Nat} {v : Value} {n : Nat} {xs : List Value} (h : w.ownsRow B e 1 v n xs) (hb : But1 M w w') (hne : ∀ g, v.ownBlock = some g → g ≠ M) : w'.ownsRow B e 1 v n xs := by
  refine ⟨h.1, h.2.imp id fun ⟨g, cap, cur, hv, hg, hh, r⟩ => ⟨g, cap, cur, hv, hg, ?_, r⟩⟩
  rw [hb.block g (hne g (by rw [hv]; rfl)) (Array.getElem?_eq_some_iff.1 hh).1]; exact hh

theorem own_left {w w' : World} {M B e : Nat} {v : Value} {n : Nat} {xs : List Value} (h : w.ownsRow B e 1 v n xs) (hb : Below M w w') (hne : ∀ g, v.ownBlock = some g → g < M) : w'.ownsRow B e 1 v n xs := by
  refine ⟨h.1, h.2.imp id fun ⟨g, cap, cur, hv, hg, hh, r⟩ => ⟨g, cap, cur, hv, hg, ?_, r⟩⟩
  rw [hb.block g (hne g (by rw [hv]; rfl))]; exact hh

set_option maxRecDepth 100000 in
set_option maxHeartbeats 2000000 in
theorem nonces_law (a : Option Addr) (n c : Nat) (L : List S3) (w : World) (hs : SrcS w a n L) (hn : n ≤ 9223372036854775807) (hm : Fit3 L n maxLen) :
    Calls Try.prog 5 #[.slice a n c] w fun e w' => e = .returned (.bool true) ∧ Below w.heap.size w w' := by
  have HS := Lib.hid hs
  have HM := Lib.hid hm
  have HL := Lib.hid hs.len
  clear hs hm
  go_enter Try.func5, Try.ntmps5
  go_wp2_with fail
  refine (szSealings_any a n c L _ HS.out hn HM.out).mono ?_
  rintro e w1 ⟨r, rfl, hr | ⟨h0, hn2, hsz⟩, hb1⟩
  · go_wp2
    go_ret
    exact ⟨rfl, hb1⟩
  have HZ : Hid (∀ j, j < n → (L.getD j default).n.size ≤ 1048576) := Lib.hid (fun j hj => (hsz j hj).2.1)
  have B1 := Lib.hid hb1
  have hr : ¬ (r < 0) := by omega
  have hlen : (noncesB L).length ≤ n := by have h1 := HL.out; have h2 := noncesTo_length (L := L) (k := L.length) (Nat.le_refl _); rw [noncesTo_all] at h2; omega
  obtain ⟨P, hP⟩ : ∃ P, noncesB L = P := ⟨_, rfl⟩
  rw [hP] at hlen
  have HP := Lib.hid hP
  clear hsz hb1 h0 hP
  go_wp2_with fail
  refine (toSeals_any a n c L _ (HS.out.later B1.out) hn2).mono ?_
  rintro e w2 ⟨rfl, hown2, hb2⟩
  have I2 := Lib.hid (srcS_of_own hown2)
  have B2 : Hid (Below w.heap.size w w2) := Lib.hid (B1.out.trans (hb2.mono B1.out.size))
  clear hown2 hb2
  go_wp2_with fail
  refine (specNonces_any _ n n L _ I2.out (by omega)).mono ?_
  rw [HP.out]
  rintro e w3 ⟨v3, rfl, hown3, hb3⟩
  have O3 := Lib.hid hown3
  have B3 : Hid (Below w.heap.size w w3) := Lib.hid (B2.out.trans (hb3.mono B2.out.size))
  clear hown3 hb3 I2
  go_wp2_with fail
  refine (toSeals_any a n c L _ (HS.out.later B3.out) hn2).mono ?_
  rintro e w4 ⟨rfl, hown4, hb4⟩
  have X4 := Lib.hid hown4
  have O34 := Lib.hid (own_below O3.out hb4)
  have B4 : Hid (Below w.heap.size w w4) := Lib.hid (B3.out.trans (hb4.mono B3.out.size))
  have S34 := Lib.hid hb4.size
  have S4 := Lib.hid (own_lt3 hown4)
  clear hown4 hb4
  go_wp2_with fail
  refine (implNonces_any _ n n L _ (srcS_of_own X4.out) (by omega) HZ.out).mono ?_
  rw [HP.out]
  rintro e w5 ⟨v5, rfl, hown5, hb5⟩
  have O5 := Lib.hid hown5
  have O35 := Lib.hid (own_below O34.out hb5)
  have X5 := Lib.hid (own_below X4.out hb5)
  have B5 : Hid (Below w.heap.size w w5) := Lib.hid (B4.out.trans (hb5.mono B4.out.size))
  have hs45 := hb5.size
  clear hown5 hb5 X4 O34
  have N3 : Hid (∀ g, v3.ownBlock = some g → g ≠ w3.heap.size) := Lib.hid (fun g hg => by have := (O3.out.lt g hg).2; omega)
  have N5 : Hid (∀ g, v5.ownBlock = some g → g ≠ w3.heap.size) := Lib.hid (fun g hg => by have := own_block_ge O5.out g hg; have := S4.out; omega)
  have N34 : Hid (∀ g, v3.ownBlock = some g → g < w4.heap.size) := Lib.hid (fun g hg => by have := (O3.out.lt g hg).2; have := S34.out; omega)
  have S45 : Hid (w4.heap.size ≤ w5.heap.size) := Lib.hid hs45
  clear O3 hs45
  go_wp2_with fail
  refine (eqTexts_own _ _ _ _ P.length P w5 rfl (by omega) O5.out O35.out).mono ?_
  rintro e w5d ⟨rfl, m5, rfl⟩
  go_wp2_with fail
  refine (toSeals_any a n c L _ (HS.out.later (B5.out.trans ((below_drewN _ w5 m5).mono (Nat.le_refl _)))) hn2).mono ?_
  rintro e w6 ⟨rfl, hown6, hb6⟩
  have hb6' : Below w5.heap.size w5 w6 := (below_drewN _ w5 m5).trans hb6
  have I6 := Lib.hid (srcS_of_own hown6)
  have X6 := Lib.hid (own_below X5.out hb6')
  have O36 := Lib.hid (own_below O35.out hb6')
  have O56 := Lib.hid (own_below O5.out hb6')
  have B6 : Hid (Below w.heap.size w w6) := Lib.hid (B5.out.trans (hb6'.mono B5.out.size))
  have S56 := Lib.hid hb6'.size
  clear hown6 hb6 hb6' X5 O35 O5
  go_wp2_with fail
  refine (eqSeals_any _ _ n _ _ L _ (by omega) (srcS_of_own X6.out) I6.out).mono ?_
  rintro e w7 ⟨rfl, hb7⟩
  have X7 := Lib.hid (own_below X6.out hb7)
  have O37 := Lib.hid (own_below O36.out hb7)
  have O57 := Lib.hid (own_below O56.out hb7)
  have B7 : Hid (Below w.heap.size w w7) := Lib.hid (B6.out.trans (hb7.mono B6.out.size))
  have S67 := Lib.hid hb7.size
  clear hb7 X6 O36 O56 I6
  go_wp2_with fail
  refine (markSeals_any _ n n 1 _ w7 (by omega) (by omega) X7.out).mono ?_
  rintro e w8 ⟨rfl, hb8, hk8⟩
  have O38 := Lib.hid (own_but O37.out hk8 N3.out)
  have O58 := Lib.hid (own_but O57.out hk8 N5.out)
  have B8 : Hid (Below w.heap.size w w8) := Lib.hid (B7.out.trans (hb8.mono B3.out.size))
  have S78 := Lib.hid hk8.size
  have hp8 : ¬ (((1 : Nat) : Int) + 3 * (n : Int) < 0) := by omega
  clear hb8 hk8 X7 O37 O57
  go_wp2_with fail
  refine (eqTexts_own _ _ _ _ P.length P w8 rfl (by omega) O58.out O38.out).mono ?_
  rintro e w8d ⟨rfl, m8, rfl⟩
  go_wp2_with fail
  refine (markStrings_any w4.heap.size v5 P.length 1 (scells P) (w8.drewN m8) (by decide) (by omega) (by have := S45.out; have := S56.out; have := S67.out; have := S78.out; show w4.heap.size ≤ w8.heap.size; omega) (own_drewN O58.out m8)).mono ?_
  rintro e w9 ⟨ys, rfl, hown9, hm9, hb9⟩
  have O9 := Lib.hid hown9
  have M9 := Lib.hid hm9
  have hb9' : Below w4.heap.size w8 w9 := ((below_drewN _ w8 m8)).trans hb9
  have O39 : Hid (w9.ownsRow w2.heap.size 9 1 v3 P.length (scells P)) := Lib.hid (own_left O38.out hb9' N34.out)
  have B9 : Hid (Below w.heap.size w w9) := Lib.hid (B8.out.trans (hb9'.mono B4.out.size))
  clear hown9 hm9 hb9 hb9' O38 O58
  go_wp2_with fail
  refine (heldStrings_any w4.heap.size v5 P.length 1 ys w9 (by decide) (by omega) O9.out M9.out).mono ?_
  rintro e w10 ⟨rfl, hb10⟩
  have O10 := Lib.hid (own_below O9.out hb10)
  have O310 := Lib.hid (own_below O39.out hb10)
  have B10 : Hid (Below w.heap.size w w10) := Lib.hid (B9.out.trans (hb10.mono B9.out.size))
  have hpos : ¬ (((1 : Nat) : Int) + (P.length : Int) < 0) := by omega
  clear hb10 O9 O39
  go_wp2_with fail
  refine (toSeals_any a n c L _ (HS.out.later B10.out) hn2).mono ?_
  rintro e w11 ⟨rfl, hown11, hb11⟩
  have X11 := Lib.hid hown11
  have O11 := Lib.hid (own_below O10.out hb11)
  have O311 := Lib.hid (own_below O310.out hb11)
  have B11 : Hid (Below w.heap.size w w11) := Lib.hid (B10.out.trans (hb11.mono B10.out.size))
  clear hown11 hb11 O10 O310
  go_wp2_with fail
  refine (implNonces_any _ n n L _ (srcS_of_own X11.out) (by omega) HZ.out).mono ?_
  rw [HP.out]
  rintro e w12 ⟨v12, rfl, hown12, hb12⟩
  have O12 := Lib.hid hown12
  have O512 := Lib.hid (own_below O11.out hb12)
  have O312 := Lib.hid (own_below O311.out hb12)
  have B12 : Hid (Below w.heap.size w w12) := Lib.hid (B11.out.trans (hb12.mono B11.out.size))
  clear hown12 hb12 O11 O311 X11
  go_wp2_with fail
  refine (eqTexts_own _ _ _ _ P.length P w12 rfl (by omega) O12.out O312.out).mono ?_
  rintro e w12d ⟨rfl, m12, rfl⟩
  go_wp2_with fail
  refine (heldStrings_any w4.heap.size v5 P.length 1 ys (w12.drewN m12) (by decide) (by omega) (own_drewN O512.out m12) M9.out).mono ?_
  rintro e w13 ⟨rfl, hb13⟩
  have hb13' : Below w12.heap.size w12 w13 := (below_drewN _ w12 m12).trans hb13
  have B13 := Lib.hid (B12.out.trans (hb13'.mono B12.out.size))
  clear hb13 hb13'
  go_wp2
  go_ret
  exact ⟨rfl, B13.out⟩
end Go.Proofs.Ytgpjklnlchbbbaa
