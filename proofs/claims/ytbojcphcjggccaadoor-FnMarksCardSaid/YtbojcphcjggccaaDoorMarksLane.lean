/- Keyed hashes of the drawn texts under the drawn keys, in lanes: what the reckoning says. -/
import Derived.Test.YtbojcphcjggccaaDoorMarksMath
namespace Go.Proofs.YtbojcphcjggccaaDoor.Simd
open Go.Proofs.YtbojcphcjggccaaDoor.Sha Go.Proofs.YtbojcphcjggccaaDoor.Hexa Go.Proofs.YtbojcphcjggccaaDoor.Byt

theorem byte_ofNat_mod (n : Nat) (x : UInt8) (h : n % 256 = x.toNat) : UInt8.ofNat n = x := by
  apply UInt8.toNat_inj.1
  rw [UInt8.toNat_ofNat']
  omega
theorem be4_pack (a b c d : UInt8) : be4 (UInt32.ofNat (a.toNat * 16777216 + b.toNat * 65536 + c.toNat * 256 + d.toNat)) = [a, b, c, d] := by
  have ha := a.toNat_lt
  have hb := b.toNat_lt
  have hc := c.toNat_lt
  have hd := d.toNat_lt
  unfold be4
  rw [UInt32.toNat_ofNat', Nat.mod_eq_of_lt (show a.toNat * 16777216 + b.toNat * 65536 + c.toNat * 256 + d.toNat < 2 ^ 32 by simp only [Nat.reducePow] at *; omega)]
  rw [byte_ofNat_mod _ a (by simp only [Nat.reducePow] at *; omega), byte_ofNat_mod _ b (by simp only [Nat.reducePow] at *; omega), byte_ofNat_mod _ c (by simp only [Nat.reducePow] at *; omega), byte_ofNat_mod _ d (by simp only [Nat.reducePow] at *; omega)]
theorem pack_flat : ∀ (k : Nat) (L : List UInt8), L.length = 4 * k → (pack L).flatMap be4 = L
  | 0, L, h => by
    have : L = [] := List.length_eq_zero_iff.1 (by omega)
    subst this; rfl
  | k + 1, [], h => by simp at h
  | k + 1, [_], h => by simp at h; omega
  | k + 1, [_, _], h => by simp at h; omega
  | k + 1, [_, _, _], h => by simp at h; omega
  | k + 1, a :: b :: c :: d :: r, h => by
    have hr : r.length = 4 * k := by simp at h; omega
    have ih := pack_flat k r hr
    have e := be4_pack a b c d
    show be4 (UInt32.ofNat (a.toNat * 16777216 + b.toNat * 65536 + c.toNat * 256 + d.toNat)) ++ (pack r).flatMap be4 = _
    rw [e, ih]
    rfl
theorem pack_flatB (k : Nat) (L : List UInt8) (h : L.length = 4 * k) : flatB (pack L) = ⟨L.toArray⟩ := by
  unfold flatB
  rw [pack_flat k L h]
theorem pack_length : ∀ (k : Nat) (L : List UInt8), L.length = 4 * k → (pack L).length = k
  | 0, L, h => by
    have : L = [] := List.length_eq_zero_iff.1 (by omega)
    subst this; rfl
  | k + 1, [], h => by simp at h
  | k + 1, [_], h => by simp at h; omega
  | k + 1, [_, _], h => by simp at h; omega
  | k + 1, [_, _, _], h => by simp at h; omega
  | k + 1, a :: b :: c :: d :: r, h => by
    show (pack r).length + 1 = k + 1
    rw [pack_length k r (by simp at h; omega)]

theorem blkW_P (n : Nat) (S : Nat → St8) (ws : List UInt32) :
    blkW (pn (fun _ => 1) n) (P n (fun _ => 4294967295)) (st n S) ws = st n (fun l => blockS (S l) keyL (flatB ws)) := by
  have h := blk_words n S (fun _ => ws)
  have e : ∀ x : UInt32, Nat.mul (pn (fun _ => 1) n) x.toNat = P n (fun _ => x) := fun x => cst n x _ rfl
  unfold blkW
  simp only [e]
  exact h
theorem blkF_P (n : Nat) (S : Nat → St8) (W : Nat → Nat) (w : Nat → List UInt32) (hW : ∀ j, j < 16 → W j = P n (fun l => (w l).getD j 0)) :
    blkF (pn (fun _ => 1) n) (P n (fun _ => 4294967295)) (st n S) W = st n (fun l => blockS (S l) keyL (flatB (w l))) := by
  unfold blkF
  rw [hW 0 (by omega), hW 1 (by omega), hW 2 (by omega), hW 3 (by omega), hW 4 (by omega), hW 5 (by omega), hW 6 (by omega), hW 7 (by omega), hW 8 (by omega), hW 9 (by omega), hW 10 (by omega), hW 11 (by omega), hW 12 (by omega), hW 13 (by omega), hW 14 (by omega), hW 15 (by omega)]
  exact blk_words n S w
theorem outV_P (n : Nat) (O Q : Nat → St8) :
    outV (pn (fun _ => 1) n) (P n (fun _ => 4294967295)) (st n O) (st n Q) = st n (fun l => blockS (O l) keyL (flatB (outW (Q l)))) := by
  have h0 := cst n 0 0 rfl
  have h1 := cst n 2147483648 2147483648 rfl
  have h2 := cst n 768 768 rfl
  have k2 := blk_words n O (fun l => outW (Q l))
  unfold outV
  rw [h0, h1, h2]
  exact k2
/-- The state behind the blocks of a text. -/
def innS (I : St8) (t : List UInt8) : St8 :=
  bif Nat.ble t.length 55 then blockS I keyL (flatB (pack (tailP t))) else blockS (blockS I keyL (flatB ((pack (tailP t)).take 16))) keyL (flatB ((pack (tailP t)).drop 16))
def hmS (I O : St8) (t : List UInt8) : St8 := blockS O keyL (flatB (outW (innS I t)))
theorem innV_P (n : Nat) (I : Nat → St8) (t : List UInt8) :
    innV (pn (fun _ => 1) n) (P n (fun _ => 4294967295)) (st n I) t = st n (fun l => innS (I l) t) := by
  unfold innV innS
  cases Nat.ble t.length 55
  · show blkW _ _ (blkW _ _ _ _) _ = _
    rw [blkW_P, blkW_P]
    rfl
  · show blkW _ _ _ _ = _
    rw [blkW_P]
    rfl
theorem one_says (n : Nat) (I O : Nat → St8) (t : List UInt8) (h : oneOk (pn (fun _ => 1) n) (P n (fun _ => 4294967295)) (st n I) (st n O) t = true) (l : Nat) (hl : l < n) :
    (hmS (I l) (O l) t).a ≠ (hmS (I l) (O l) (t ++ [97])).a := by
  unfold oneOk at h
  rw [innV_P, innV_P, outV_P, outV_P, st_a, st_a] at h
  exact apart_P n _ _ h l hl
theorem run_says (n : Nat) (I O : Nat → St8) (q : Nat) : ∀ (c j : Nat), runOk (pn (fun _ => 1) n) (P n (fun _ => 4294967295)) (st n I) (st n O) q c j = true → ∀ i, i < c → ∀ l, l < n →
    (hmS (I l) (O l) (drawT q (j + i))).a ≠ (hmS (I l) (O l) (drawT q (j + i) ++ [97])).a
  | 0, _, _, i, hi, _, _ => absurd hi (by omega)
  | c + 1, j, h, i, hi, l, hl => by
    have h' : and (oneOk (pn (fun _ => 1) n) (P n (fun _ => 4294967295)) (st n I) (st n O) (drawT q j)) (runOk (pn (fun _ => 1) n) (P n (fun _ => 4294967295)) (st n I) (st n O) q c (j + 1)) = true := h
    rw [Bool.and_eq_true] at h'
    rcases i with _ | i
    · exact one_says n I O _ h'.1 l hl
    · have k := run_says n I O q c (j + 1) h'.2 i (by omega) l hl
      rw [show j + (i + 1) = j + 1 + i by omega]
      exact k

/-- Lots of lanes behind each other. -/
theorem join_P (q : Nat) (hq : 0 < q) : ∀ (L : List (Nat → UInt32)), join q (L.map (P q)) = P (L.length * q) (fun l => (L.getD (l / q) (fun _ => 0)) (l % q))
  | [] => by
    show 0 = P (0 * q) _
    rw [Nat.zero_mul]; rfl
  | f :: L => by
    have ih := join_P q hq L
    show P q f + join q (L.map (P q)) * 2 ^ (64 * q) = _
    rw [ih]
    unfold P
    rw [show (f :: L).length * q = q + L.length * q by rw [List.length_cons, Nat.add_mul, Nat.one_mul, Nat.add_comm], pn_append]
    congr 1
    · refine pn_congr_lt q fun l hl => ?_
      show _ = ((f :: L).getD (l / q) (fun _ => 0) (l % q)).toNat
      rw [Nat.div_eq_of_lt hl, Nat.mod_eq_of_lt hl]; rfl
    · congr 1
      refine pn_congr (fun l => ?_) _
      show _ = ((f :: L).getD ((q + l) / q) (fun _ => 0) ((q + l) % q)).toNat
      rw [Nat.add_div_left l hq, Nat.add_mod_left]; rfl
def noS : St8 := ⟨0, 0, 0, 0, 0, 0, 0, 0⟩
theorem getD_map' {α β : Type} (g : α → β) (d : α) : ∀ (L : List α) (i : Nat), (L.map g).getD i (g d) = g (L.getD i d)
  | [], _ => rfl
  | _ :: _, 0 => rfl
  | _ :: L, i + 1 => getD_map' g d L i
theorem join_field (q : Nat) (hq : 0 < q) (L : List (Nat → St8)) (g : St8 → UInt32) (hg : g noS = 0) :
    join q (L.map fun F => P q fun l => g (F l)) = P (L.length * q) (fun l => g ((L.getD (l / q) (fun _ => noS)) (l % q))) := by
  have h := join_P q hq (L.map fun F l => g (F l))
  rw [List.map_map, List.length_map] at h
  refine (show _ = _ from h).trans ?_
  have e : (fun l => ((L.map fun F l => g (F l)).getD (l / q) (fun _ => 0)) (l % q)) = fun l => g ((L.getD (l / q) (fun _ => noS)) (l % q)) := funext fun l => by
    have k := getD_map' (fun (F : Nat → St8) (l : Nat) => g (F l)) (fun _ => noS) L (l / q)
    have k2 : (fun (_ : Nat) => g noS) = fun (_ : Nat) => (0 : UInt32) := by rw [hg]
    rw [k2] at k
    rw [k]
  rw [e]
theorem joinS_P (q : Nat) (hq : 0 < q) (L : List (Nat → St8)) : joinS q (L.map (st q)) = st (L.length * q) (fun l => (L.getD (l / q) (fun _ => noS)) (l % q)) := by
  unfold joinS
  simp only [List.map_map]
  have h := fun (g : St8 → UInt32) hg => join_field q hq L g hg
  unfold st
  rw [← h (·.a) rfl, ← h (·.b) rfl, ← h (·.c) rfl, ← h (·.d) rfl, ← h (·.e) rfl, ← h (·.f) rfl, ← h (·.g) rfl, ← h (·.h) rfl]
  rfl
end Go.Proofs.YtbojcphcjggccaaDoor.Simd
