/- AES without a program: its steps lose nothing; rows and columns four times; columns are linear. -/
import Derived.Test.YtepnnmckbcomjaaDoorAesMath
namespace Go.Proofs.YtepnnmckbcomjaaDoor.Aes
open Go.Proofs.YtepnnmckbcomjaaDoor.Fld

theorem allU {p : UInt8 → Bool} (h : (List.range 256).all (fun n => p (UInt8.ofNat n)) = true) (b : UInt8) : p b = true := by
  have := List.all_eq_true.1 h b.toNat (List.mem_range.2 b.toNat_lt)
  simpa using this

/-- A block of 16 bytes is the list of its bytes. -/
theorem ext16 {a b : List UInt8} (ha : a.length = 16) (hb : b.length = 16) (h : ∀ p, p < 16 → a.getD p 0 = b.getD p 0) : a = b := by
  refine List.ext_getElem (by omega) fun i h1 h2 => ?_
  have := h i (by omega)
  simpa [List.getD, h1, h2] using this
theorem shiftL_at (l : List UInt8) (p : Nat) (h : p < 16) : (shiftL l).getD p 0 = shiftAt l p := by simp [shiftL, List.getD, h]
theorem mixL_at (l : List UInt8) (p : Nat) (h : p < 16) : (mixL l).getD p 0 = mixAt l p := by simp [mixL, List.getD, h]
theorem xorB_at {a b : List UInt8} (ha : a.length = 16) (hb : b.length = 16) (p : Nat) (h : p < 16) : (xorB a b).getD p 0 = a.getD p 0 ^^^ b.getD p 0 := by
  simp [xorB, List.getD, ha, hb, h]

/-- Rows four times. -/
theorem shift_four {l : List UInt8} (h : l.length = 16) : shiftL (shiftL (shiftL (shiftL l))) = l := by
  match l, h with
  | [a0, a1, a2, a3, a4, a5, a6, a7, a8, a9, a10, a11, a12, a13, a14, a15], _ => rfl

/-- Doubling is linear, over bytes. -/
theorem dblU_xor (a b : UInt8) : dblU (a ^^^ b) = dblU a ^^^ dblU b := by
  apply UInt8.toNat_inj.1
  have ha := a.toNat_lt
  have hb := b.toNat_lt
  have h := dbl_xor a.toNat b.toNat ha hb
  have l1 := dbl_lt _ ha
  have l2 := dbl_lt _ hb
  have l3 := xor_lt l1 l2
  unfold dblU
  rw [UInt8.toNat_ofNat', UInt8.toNat_xor, UInt8.toNat_xor, UInt8.toNat_ofNat', UInt8.toNat_ofNat', h, Nat.mod_eq_of_lt l3, Nat.mod_eq_of_lt l1, Nat.mod_eq_of_lt l2]
theorem mixB_xor (a b c d a' b' c' d' : UInt8) : mixB (a ^^^ a') (b ^^^ b') (c ^^^ c') (d ^^^ d') = mixB a b c d ^^^ mixB a' b' c' d' := by
  unfold mixB
  rw [dblU_xor, dblU_xor]
  ac_rfl
theorem mix_xor {a b : List UInt8} (ha : a.length = 16) (hb : b.length = 16) : mixL (xorB a b) = xorB (mixL a) (mixL b) := by
  refine ext16 (mixL_length _) (xorB_length (mixL_length _) (mixL_length _)) fun p hp => ?_
  rw [mixL_at _ p hp, xorB_at (mixL_length _) (mixL_length _) p hp, mixL_at _ p hp, mixL_at _ p hp]
  unfold mixAt
  rw [xorB_at ha hb _ (by omega), xorB_at ha hb _ (by omega), xorB_at ha hb _ (by omega), xorB_at ha hb _ (by omega)]
  exact mixB_xor _ _ _ _ _ _ _ _

theorem xor_left_self (a b : UInt8) : a ^^^ (a ^^^ b) = b := by rw [← UInt8.xor_assoc, UInt8.xor_self, UInt8.zero_xor]
theorem xor_left_comm8 (a b c : UInt8) : a ^^^ (b ^^^ c) = b ^^^ (a ^^^ c) := by rw [← UInt8.xor_assoc, UInt8.xor_comm a b, UInt8.xor_assoc]
/-- 5a + 4c: columns twice. -/
def mix2B (a c : UInt8) : UInt8 := dblU (dblU a) ^^^ (dblU (dblU c) ^^^ a)
theorem mixB_twice (a b c d : UInt8) : mixB (mixB a b c d) (mixB b c d a) (mixB c d a b) (mixB d a b c) = mix2B a c := by
  unfold mixB mix2B
  simp only [dblU_xor]
  generalize dblU (dblU a) = a2
  generalize dblU (dblU b) = b2
  generalize dblU (dblU c) = c2
  generalize dblU (dblU d) = d2
  generalize dblU a = a1
  generalize dblU b = b1
  generalize dblU c = c1
  generalize dblU d = d1
  simp only [UInt8.xor_assoc, UInt8.xor_comm, xor_left_comm8, xor_left_self, UInt8.xor_self, UInt8.xor_zero, UInt8.zero_xor]
theorem mix2B_twice (a c : UInt8) : mix2B (mix2B a c) (mix2B c a) = a := by
  unfold mix2B
  simp only [dblU_xor]
  generalize dblU (dblU (dblU (dblU a))) = a4
  generalize dblU (dblU (dblU (dblU c))) = c4
  generalize dblU (dblU a) = a2
  generalize dblU (dblU c) = c2
  simp only [UInt8.xor_assoc, UInt8.xor_comm, xor_left_comm8, xor_left_self, UInt8.xor_self, UInt8.xor_zero, UInt8.zero_xor]
theorem mix_twice (a0 a1 a2 a3 a4 a5 a6 a7 a8 a9 a10 a11 a12 a13 a14 a15 : UInt8) :
    mixL (mixL [a0, a1, a2, a3, a4, a5, a6, a7, a8, a9, a10, a11, a12, a13, a14, a15]) =
      [mix2B a0 a2, mix2B a1 a3, mix2B a2 a0, mix2B a3 a1, mix2B a4 a6, mix2B a5 a7, mix2B a6 a4, mix2B a7 a5,
       mix2B a8 a10, mix2B a9 a11, mix2B a10 a8, mix2B a11 a9, mix2B a12 a14, mix2B a13 a15, mix2B a14 a12, mix2B a15 a13] := by
  have e (b0 b1 b2 b3 b4 b5 b6 b7 b8 b9 b10 b11 b12 b13 b14 b15 : UInt8) : mixL [b0, b1, b2, b3, b4, b5, b6, b7, b8, b9, b10, b11, b12, b13, b14, b15] =
      [mixB b0 b1 b2 b3, mixB b1 b2 b3 b0, mixB b2 b3 b0 b1, mixB b3 b0 b1 b2, mixB b4 b5 b6 b7, mixB b5 b6 b7 b4, mixB b6 b7 b4 b5, mixB b7 b4 b5 b6,
       mixB b8 b9 b10 b11, mixB b9 b10 b11 b8, mixB b10 b11 b8 b9, mixB b11 b8 b9 b10, mixB b12 b13 b14 b15, mixB b13 b14 b15 b12, mixB b14 b15 b12 b13, mixB b15 b12 b13 b14] := rfl
  rw [e, e]
  simp only [mixB_twice]
/-- Columns four times. -/
theorem mix_four {l : List UInt8} (h : l.length = 16) : mixL (mixL (mixL (mixL l))) = l := by
  match l, h with
  | [a0, a1, a2, a3, a4, a5, a6, a7, a8, a9, a10, a11, a12, a13, a14, a15], _ =>
    rw [mix_twice, mix_twice]
    simp only [mix2B_twice]

theorem box_back : (List.range 256).all (fun a => boxTab.idxOf (boxU (UInt8.ofNat a)) == a) = true := by decide +kernel
theorem boxU_inj {a b : UInt8} (h : boxU a = boxU b) : a = b := by
  have k (c : UInt8) : boxTab.idxOf (boxU c) = c.toNat := by
    have := List.all_eq_true.1 box_back c.toNat (List.mem_range.2 c.toNat_lt)
    simpa using this
  have := k a
  rw [h, k b] at this
  exact UInt8.toNat_inj.1 this.symm
theorem boxL_inj {a b : List UInt8} (h : boxL a = boxL b) : a = b := by
  unfold boxL at h
  induction a generalizing b with
  | nil => simpa using h.symm
  | cons x a ih =>
    cases b with
    | nil => simp at h
    | cons y b =>
      simp only [List.map_cons, List.cons.injEq] at h
      rw [boxU_inj h.1, ih h.2]
theorem shiftL_inj {a b : List UInt8} (ha : a.length = 16) (hb : b.length = 16) (h : shiftL a = shiftL b) : a = b := by
  rw [← shift_four ha, ← shift_four hb, h]
theorem mixL_inj {a b : List UInt8} (ha : a.length = 16) (hb : b.length = 16) (h : mixL a = mixL b) : a = b := by
  rw [← mix_four ha, ← mix_four hb, h]
theorem xorB_twice {a k : List UInt8} (ha : a.length = 16) (hk : k.length = 16) : xorB (xorB a k) k = a := by
  refine ext16 (xorB_length (xorB_length ha hk) hk) ha fun p hp => ?_
  rw [xorB_at (xorB_length ha hk) hk p hp, xorB_at ha hk p hp, UInt8.xor_assoc, UInt8.xor_self, UInt8.xor_zero]
theorem xorB_inj {a b k : List UInt8} (ha : a.length = 16) (hb : b.length = 16) (hk : k.length = 16) (h : xorB a k = xorB b k) : a = b := by
  rw [← xorB_twice ha hk, ← xorB_twice hb hk, h]
theorem roundL_inj {k a b : List UInt8} {i : Nat} (hk : k.length = 16) (ha : a.length = 16) (hb : b.length = 16) (h : roundL k a i = roundL k b i) : a = b := by
  unfold roundL at h
  have la := boxL_length a
  have lb := boxL_length b
  split at h
  · have := mixL_inj (shiftL_length _) (shiftL_length _) (xorB_inj (mixL_length _) (mixL_length _) hk h)
    exact boxL_inj (shiftL_inj (by omega) (by omega) this)
  · have := xorB_inj (shiftL_length _) (shiftL_length _) hk h
    exact boxL_inj (shiftL_inj (by omega) (by omega) this)
theorem roundsL_inj (keys : Nat → List UInt8) {a b : List UInt8} (hk : ∀ i, i < 11 → (keys i).length = 16) (ha : a.length = 16) (hb : b.length = 16) :
    ∀ n, n < 11 → roundsL keys a n = roundsL keys b n → a = b
  | 0, _, h => xorB_inj ha hb (hk 0 (by omega)) h
  | n + 1, hn, h => roundsL_inj keys hk ha hb n (by omega) (roundL_inj (hk (n + 1) hn) (roundsL_length keys a hk ha n (by omega)) (roundsL_length keys b hk hb n (by omega)) h)
/-- Under one key no two blocks have the same result. -/
theorem blockL_inj {key a b : List UInt8} (hk : key.length = 16) (ha : a.length = 16) (hb : b.length = 16) (h : blockL key a = blockL key b) : a = b :=
  roundsL_inj _ (fun i hi => keyAt_length key hk i hi) ha hb 10 (by omega) h
end Go.Proofs.YtepnnmckbcomjaaDoor.Aes
