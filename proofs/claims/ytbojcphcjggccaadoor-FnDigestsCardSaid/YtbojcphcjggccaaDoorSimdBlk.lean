/- The state behind a block that is known. -/
import Derived.Test.YtbojcphcjggccaaDoorSimdKeys
namespace Go.Proofs.YtbojcphcjggccaaDoor.Simd
open Go.Proofs.YtbojcphcjggccaaDoor.Sha Go.Proofs.YtbojcphcjggccaaDoor.Hexa Go.Proofs.YtbojcphcjggccaaDoor.Byt

/-- The state behind a block that is known. -/
def blkIs (S T : St8) (w0 w1 w2 w3 w4 w5 w6 w7 w8 w9 w10 w11 w12 w13 w14 w15 : UInt32) : Bool :=
  let r := blk 1 4294967295 klN ⟨S.a.toNat, S.b.toNat, S.c.toNat, S.d.toNat, S.e.toNat, S.f.toNat, S.g.toNat, S.h.toNat⟩ w0.toNat w1.toNat w2.toNat w3.toNat w4.toNat w5.toNat w6.toNat w7.toNat w8.toNat w9.toNat w10.toNat w11.toNat w12.toNat w13.toNat w14.toNat w15.toNat
  and (Nat.beq r.a T.a.toNat) (and (Nat.beq r.b T.b.toNat) (and (Nat.beq r.c T.c.toNat) (and (Nat.beq r.d T.d.toNat) (and (Nat.beq r.e T.e.toNat) (and (Nat.beq r.f T.f.toNat) (and (Nat.beq r.g T.g.toNat) (Nat.beq r.h T.h.toNat)))))))
theorem P_one (f : Nat → UInt32) : P 1 f = (f 0).toNat := by
  show 2 ^ (64 * 0) * (f 0).toNat + 0 = _
  rw [show 2 ^ (64 * 0) = 1 from rfl]
  omega
theorem blk_is (S T : St8) (w0 w1 w2 w3 w4 w5 w6 w7 w8 w9 w10 w11 w12 w13 w14 w15 : UInt32) (h : blkIs S T w0 w1 w2 w3 w4 w5 w6 w7 w8 w9 w10 w11 w12 w13 w14 w15 = true) :
    blockS S keyL (flatB [w0, w1, w2, w3, w4, w5, w6, w7, w8, w9, w10, w11, w12, w13, w14, w15]) = T := by
  have k := blk_words 1 (fun _ => S) (fun _ => [w0, w1, w2, w3, w4, w5, w6, w7, w8, w9, w10, w11, w12, w13, w14, w15])
  unfold st at k
  simp only [P_one, List.getD_cons_zero, List.getD_cons_succ] at k
  have e1 : pn (fun _ => 1) 1 = 1 := rfl
  have e2 : (4294967295 : UInt32).toNat = 4294967295 := rfl
  rw [e1, e2] at k
  unfold blkIs at h
  simp only [k, Bool.and_eq_true] at h
  obtain ⟨h0, h1, h2, h3, h4, h5, h6, h7⟩ := h
  generalize blockS S keyL (flatB [w0, w1, w2, w3, w4, w5, w6, w7, w8, w9, w10, w11, w12, w13, w14, w15]) = R at h0 h1 h2 h3 h4 h5 h6 h7
  obtain ⟨ra, rb, rc, rd, re, rf, rg, rh⟩ := R
  obtain ⟨ta, tb, tc, td, te, tf, tg, th⟩ := T
  simp only at h0 h1 h2 h3 h4 h5 h6 h7
  have e : ∀ x y : UInt32, x.toNat.beq y.toNat = true → x = y := fun x y h => UInt32.toNat_inj.1 (Nat.eq_of_beq_eq_true h)
  rw [e _ _ h0, e _ _ h1, e _ _ h2, e _ _ h3, e _ _ h4, e _ _ h5, e _ _ h6, e _ _ h7]
end Go.Proofs.YtbojcphcjggccaaDoor.Simd
