/- Keyed hashes in many lanes at once: what the reckoning says. -/
import Derived.Test.YtbojcphcjggccaaDoorSimdWords
namespace Go.Proofs.YtbojcphcjggccaaDoor.Simd
open Go.Proofs.YtbojcphcjggccaaDoor.Sha Go.Proofs.YtbojcphcjggccaaDoor.Hexa Go.Proofs.YtbojcphcjggccaaDoor.Byt

theorem klN_eq : keyL.map (·.toNat) = klN := by decide +kernel
theorem pn_congr_lt {f g : Nat → Nat} : ∀ n, (∀ l, l < n → f l = g l) → pn f n = pn g n
  | 0, _ => rfl
  | n + 1, h => by
    show 2 ^ (64 * n) * f n + pn f n = 2 ^ (64 * n) * g n + pn g n
    rw [h n (by omega), pn_congr_lt n (fun l hl => h l (by omega))]
theorem bc_st (n : Nat) (S : St8) : bc (pn (fun _ => 1) n) S = st n (fun _ => S) := by
  unfold bc st
  rw [ones_mul, ones_mul, ones_mul, ones_mul, ones_mul, ones_mul, ones_mul, ones_mul]
  rfl
theorem cst (n : Nat) (x : UInt32) (c : Nat) (h : x.toNat = c) : Nat.mul (pn (fun _ => 1) n) c = P n (fun _ => x) := by
  subst h
  exact ones_mul n _
theorem blk_words (n : Nat) (S : Nat → St8) (w : Nat → List UInt32) :
    blk (pn (fun _ => 1) n) (P n (fun _ => 4294967295)) klN (st n S) (P n fun l => (w l).getD 0 0) (P n fun l => (w l).getD 1 0) (P n fun l => (w l).getD 2 0) (P n fun l => (w l).getD 3 0) (P n fun l => (w l).getD 4 0) (P n fun l => (w l).getD 5 0) (P n fun l => (w l).getD 6 0) (P n fun l => (w l).getD 7 0) (P n fun l => (w l).getD 8 0) (P n fun l => (w l).getD 9 0) (P n fun l => (w l).getD 10 0) (P n fun l => (w l).getD 11 0) (P n fun l => (w l).getD 12 0) (P n fun l => (w l).getD 13 0) (P n fun l => (w l).getD 14 0) (P n fun l => (w l).getD 15 0) =
    st n (fun l => blockS (S l) keyL (flatB (w l))) := by
  have h := blk_P n keyL rfl S (fun l => flatB (w l))
  simp only [word_flat] at h
  rw [klN_eq] at h
  exact h

/-- The words of a short message's block. -/
def msgW (x y z : UInt32) : List UInt32 := [x, y, 0, 0, 0, 0, 0, 0, 0, 0, 0, 0, 0, 0, 0, z]
theorem macV_P (n : Nat) (I O : Nat → St8) (f0 f1 : Nat → UInt32) (z : UInt32) :
    macV (pn (fun _ => 1) n) (P n (fun _ => 4294967295)) (st n I) (st n O) (P n f0) (P n f1) (P n fun _ => z) = st n (fun l => macS (I l) (O l) (msgW (f0 l) (f1 l) z)) := by
  have h0 := cst n 0 0 rfl
  have h1 := cst n 2147483648 2147483648 rfl
  have h2 := cst n 768 768 rfl
  have k1 := blk_words n I (fun l => msgW (f0 l) (f1 l) z)
  have k2 := blk_words n O (fun l => outW (blockS (I l) keyL (flatB (msgW (f0 l) (f1 l) z))))
  have e1 : blk (pn (fun _ => 1) n) (P n (fun _ => 4294967295)) klN (st n I) (P n f0) (P n f1) (P n fun _ => 0) (P n fun _ => 0) (P n fun _ => 0) (P n fun _ => 0) (P n fun _ => 0) (P n fun _ => 0) (P n fun _ => 0) (P n fun _ => 0) (P n fun _ => 0) (P n fun _ => 0) (P n fun _ => 0) (P n fun _ => 0) (P n fun _ => 0) (P n fun _ => z) = st n (fun l => blockS (I l) keyL (flatB (msgW (f0 l) (f1 l) z))) := k1
  unfold macV
  simp only
  rw [h0, h1, h2, e1]
  exact k2
theorem mid_list (a b c : UInt32) : ([a, b] ++ List.replicate 14 0).map (· ^^^ c) = [a ^^^ c, b ^^^ c, c, c, c, c, c, c, c, c, c, c, c, c, c, c] := by
  simp [List.replicate]
theorem midV_P (n : Nat) (a b : Nat → UInt32) (x : UInt8) (c : Nat) (hc : (rep x).toNat = c) :
    midV (pn (fun _ => 1) n) (P n (fun _ => 4294967295)) (P n a) (P n b) c = st n (fun l => midS x ([a l, b l] ++ List.replicate 14 0)) := by
  have h0 := cst n (rep x) c hc
  have k := blk_words n (fun _ => firstS) (fun l => [a l ^^^ rep x, b l ^^^ rep x, rep x, rep x, rep x, rep x, rep x, rep x, rep x, rep x, rep x, rep x, rep x, rep x, rep x, rep x])
  unfold midV midS
  rw [h0, bc_st, P_xor, P_xor]
  simp only [mid_list]
  exact k

theorem P_down (n : Nat) (f : Nat → UInt32) : Nat.shiftRight (P n f) 64 = P n (fun l => if l + 1 < n then f (l + 1) else 0) := by
  unfold P
  rw [pn_down (fun l => w_big _)]
  refine pn_congr (fun l => ?_) n
  show (if l + 1 < n then (f (l + 1)).toNat else 0) = (if l + 1 < n then f (l + 1) else 0).toNat
  by_cases h : l + 1 < n
  · rw [if_pos h, if_pos h]
  · rw [if_neg h, if_neg h]; rfl
theorem st_a (n : Nat) (F : Nat → St8) : (st n F).a = P n (fun l => (F l).a) := rfl
theorem st_b (n : Nat) (F : Nat → St8) : (st n F).b = P n (fun l => (F l).b) := rfl
theorem apart_P (n : Nat) (f g : Nat → UInt32) (h : apart (pn (fun _ => 1) n) (P n (fun _ => 4294967295)) (P n f) (P n g) = true) (l : Nat) (hl : l < n) : f l ≠ g l := by
  intro e
  have h1 := Nat.eq_of_beq_eq_true h
  have hp : P n (fun l => f l ^^^ g l) = pn (fun l => (f l ^^^ g l).toNat) n := rfl
  have hb : ∀ l, (f l ^^^ g l).toNat + 4294967295 < 18446744073709551616 := fun l => by have := w_lt (f l ^^^ g l); omega
  have hc : ∀ l, (fun l => ((f l ^^^ g l).toNat + 4294967295) &&& 4294967296) l < 18446744073709551616 := fun l => Nat.lt_of_le_of_lt Nat.and_le_left (hb l)
  rw [P_xor, ones_mul, hp, P_mask, pn_add, pn_and (fun l => hb l) (fun _ => by omega)] at h1
  have h2 := pn_lane hc (fun _ => by omega) h1 l hl
  rw [e, UInt32.xor_self] at h2
  exact absurd h2 (by decide)

/-- The words of the messages. -/
def keyTW (i g : Nat) : List UInt32 := msgW (UInt32.ofNat (1801812224 + i)) (UInt32.ofNat (g * 65536 + 32768)) 560
def wrapTW (i g : Nat) : List UInt32 := msgW 2003984752 (UInt32.ofNat (g * 256 + (i * 16777216 + 128))) 568
def pageTW : List UInt32 := msgW 1885431653 2147483648 544
def markTW : List UInt32 := msgW 1835102827 2147483648 544
/-- A keyed hash under a key of two words. -/
def pairS (a b : UInt32) (tw : List UInt32) : St8 := macS (midS 54 ([a, b] ++ List.replicate 14 0)) (midS 92 ([a, b] ++ List.replicate 14 0)) tw

theorem keysOk_says (p : Nat) (I O I2 O2 : St8) (i g : Nat) (hi : i < 256) (hg : g + 2 ^ p ≤ 65536) (h : keysOk p I O I2 O2 i g = true) (l : Nat) (hl : l < 2 ^ p) :
    (macS I O (keyTW i (g + l))).a ≠ (macS I O (wrapTW i (g + l))).a ∧
    (l + 1 < 2 ^ p → (macS I O (keyTW i (g + l))).a ≠ (macS I O (keyTW i (g + (l + 1)))).a) ∧
    (l + 1 < 2 ^ p → (macS I O (keyTW i (g + l))).a ^^^ (macS I O (wrapTW i (g + l))).a ≠ (macS I O (keyTW i (g + (l + 1)))).a ^^^ (macS I O (wrapTW i (g + (l + 1)))).a) ∧
    ((macS I O (keyTW i (g + l))).a ^^^ (macS I O (wrapTW i (g + l))).a ≠ (macS I2 O2 (keyTW i (g + l))).a ^^^ (macS I2 O2 (wrapTW i (g + l))).a) ∧
    (pairS (macS I O (keyTW i (g + l))).a (macS I O (keyTW i (g + l))).b pageTW).a ≠ (pairS (macS I O (keyTW i (g + l))).a (macS I O (keyTW i (g + l))).b markTW).a := by
  unfold keysOk at h
  generalize hn : 2 ^ p = n at hg hl ⊢
  have ho : ones p = pn (fun _ => 1) n := by rw [ones_pn, hn]
  have hG : iota g p = pn (fun l => g + l) n := by rw [iota_pn, hn]
  have hm : Nat.mul (pn (fun _ => 1) n) 4294967295 = P n (fun _ => 4294967295) := cst n 4294967295 4294967295 rfl
  have hk0 : Nat.mul (pn (fun _ => 1) n) (Nat.add 1801812224 i) = P n (fun _ => UInt32.ofNat (1801812224 + i)) := cst n _ _ (by rw [UInt32.toNat_ofNat']; exact Nat.mod_eq_of_lt (by omega))
  have hk1 : Nat.add (Nat.mul (pn (fun l => g + l) n) 65536) (Nat.mul (pn (fun _ => 1) n) 32768) = P n (fun l => UInt32.ofNat ((g + l) * 65536 + 32768)) := by
    rw [pn_mul, ones_mul, pn_add]
    unfold P
    refine pn_congr_lt n (fun l hl => ?_)
    rw [UInt32.toNat_ofNat']
    exact (Nat.mod_eq_of_lt (by omega)).symm
  have hv0 : Nat.mul (pn (fun _ => 1) n) 2003984752 = P n (fun _ => 2003984752) := cst n 2003984752 _ rfl
  have hi1 : Nat.add (Nat.mul i 16777216) 128 = i * 16777216 + 128 := rfl
  have hv1 : Nat.add (Nat.mul (pn (fun l => g + l) n) 256) (Nat.mul (pn (fun _ => 1) n) (i * 16777216 + 128)) = P n (fun l => UInt32.ofNat ((g + l) * 256 + (i * 16777216 + 128))) := by
    rw [pn_mul, ones_mul, pn_add]
    unfold P
    refine pn_congr_lt n (fun l hl => ?_)
    rw [UInt32.toNat_ofNat']
    exact (Nat.mod_eq_of_lt (by omega)).symm
  have c560 := cst n 560 560 rfl
  have c568 := cst n 568 568 rfl
  have c544 := cst n 544 544 rfl
  have cpage := cst n 1885431653 1885431653 rfl
  have cmark := cst n 1835102827 1835102827 rfl
  have c80 := cst n 2147483648 2147483648 rfl
  have hF : macV (pn (fun _ => 1) n) (P n (fun _ => 4294967295)) (st n fun _ => I) (st n fun _ => O) (P n fun _ => UInt32.ofNat (1801812224 + i)) (P n fun l => UInt32.ofNat ((g + l) * 65536 + 32768)) (P n fun _ => 560) = st n (fun l => macS I O (keyTW i (g + l))) := macV_P n (fun _ => I) (fun _ => O) (fun _ => UInt32.ofNat (1801812224 + i)) (fun l => UInt32.ofNat ((g + l) * 65536 + 32768)) 560
  have hW : macV (pn (fun _ => 1) n) (P n (fun _ => 4294967295)) (st n fun _ => I) (st n fun _ => O) (P n fun _ => 2003984752) (P n fun l => UInt32.ofNat ((g + l) * 256 + (i * 16777216 + 128))) (P n fun _ => 568) = st n (fun l => macS I O (wrapTW i (g + l))) := macV_P n (fun _ => I) (fun _ => O) (fun _ => 2003984752) (fun l => UInt32.ofNat ((g + l) * 256 + (i * 16777216 + 128))) 568
  have hF2 : macV (pn (fun _ => 1) n) (P n (fun _ => 4294967295)) (st n fun _ => I2) (st n fun _ => O2) (P n fun _ => UInt32.ofNat (1801812224 + i)) (P n fun l => UInt32.ofNat ((g + l) * 65536 + 32768)) (P n fun _ => 560) = st n (fun l => macS I2 O2 (keyTW i (g + l))) := macV_P n (fun _ => I2) (fun _ => O2) (fun _ => UInt32.ofNat (1801812224 + i)) (fun l => UInt32.ofNat ((g + l) * 65536 + 32768)) 560
  have hW2 : macV (pn (fun _ => 1) n) (P n (fun _ => 4294967295)) (st n fun _ => I2) (st n fun _ => O2) (P n fun _ => 2003984752) (P n fun l => UInt32.ofNat ((g + l) * 256 + (i * 16777216 + 128))) (P n fun _ => 568) = st n (fun l => macS I2 O2 (wrapTW i (g + l))) := macV_P n (fun _ => I2) (fun _ => O2) (fun _ => 2003984752) (fun l => UInt32.ofNat ((g + l) * 256 + (i * 16777216 + 128))) 568
  have hA := midV_P n (fun l => (macS I O (keyTW i (g + l))).a) (fun l => (macS I O (keyTW i (g + l))).b) 54 909522486 (by decide)
  have hB := midV_P n (fun l => (macS I O (keyTW i (g + l))).a) (fun l => (macS I O (keyTW i (g + l))).b) 92 1549556828 (by decide)
  have hQ : macV (pn (fun _ => 1) n) (P n (fun _ => 4294967295)) (st n fun l => midS 54 ([(macS I O (keyTW i (g + l))).a, (macS I O (keyTW i (g + l))).b] ++ List.replicate 14 0)) (st n fun l => midS 92 ([(macS I O (keyTW i (g + l))).a, (macS I O (keyTW i (g + l))).b] ++ List.replicate 14 0)) (P n fun _ => 1885431653) (P n fun _ => 2147483648) (P n fun _ => 544) = st n (fun l => pairS (macS I O (keyTW i (g + l))).a (macS I O (keyTW i (g + l))).b pageTW) := macV_P n (fun l => midS 54 ([(macS I O (keyTW i (g + l))).a, (macS I O (keyTW i (g + l))).b] ++ List.replicate 14 0)) (fun l => midS 92 ([(macS I O (keyTW i (g + l))).a, (macS I O (keyTW i (g + l))).b] ++ List.replicate 14 0)) (fun _ => 1885431653) (fun _ => 2147483648) 544
  have hR : macV (pn (fun _ => 1) n) (P n (fun _ => 4294967295)) (st n fun l => midS 54 ([(macS I O (keyTW i (g + l))).a, (macS I O (keyTW i (g + l))).b] ++ List.replicate 14 0)) (st n fun l => midS 92 ([(macS I O (keyTW i (g + l))).a, (macS I O (keyTW i (g + l))).b] ++ List.replicate 14 0)) (P n fun _ => 1835102827) (P n fun _ => 2147483648) (P n fun _ => 544) = st n (fun l => pairS (macS I O (keyTW i (g + l))).a (macS I O (keyTW i (g + l))).b markTW) := macV_P n (fun l => midS 54 ([(macS I O (keyTW i (g + l))).a, (macS I O (keyTW i (g + l))).b] ++ List.replicate 14 0)) (fun l => midS 92 ([(macS I O (keyTW i (g + l))).a, (macS I O (keyTW i (g + l))).b] ++ List.replicate 14 0)) (fun _ => 1835102827) (fun _ => 2147483648) 544
  simp only [ho, hG, hm, hk0, hk1, hv0, hi1, hv1, c560, c568, c544, cpage, cmark, c80, bc_st, hF, hW, hF2, hW2, st_a, st_b, hA, hB, hQ, hR, P_xor, P_down, Bool.and_eq_true] at h
  obtain ⟨h1, h2, h3, h4, h5⟩ := h
  refine ⟨apart_P n _ _ h1 l hl, fun h6 => ?_, fun h6 => ?_, apart_P n _ _ h4 l hl, apart_P n _ _ h5 l hl⟩
  · have h7 := apart_P n _ _ h2 l hl
    rw [if_pos h6] at h7
    exact h7
  · have h7 := apart_P n _ _ h3 l hl
    rw [if_pos h6] at h7
    exact h7
end Go.Proofs.YtbojcphcjggccaaDoor.Simd
