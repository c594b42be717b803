/- Texts as words: blocks, keyed hashes. -/
import Derived.Test.YtbojcphcjggccaaDoorDerMath
import Derived.Test.YtbojcphcjggccaaDoorSimdMac
namespace Go.Proofs.YtbojcphcjggccaaDoor.Simd
open Go.Proofs.YtbojcphcjggccaaDoor.Sha Go.Proofs.YtbojcphcjggccaaDoor.Hexa Go.Proofs.YtbojcphcjggccaaDoor.Byt

/-- Words as bytes, the greatest first. -/
def flatB (ws : List UInt32) : ByteArray := ⟨(ws.flatMap be4).toArray⟩
theorem flatB_size (ws : List UInt32) : (flatB ws).size = 4 * ws.length := by
  show (ws.flatMap be4).toArray.size = _
  rw [List.size_toArray, flat_length]
theorem flatB_list (ws : List UInt32) : (flatB ws).data.toList = ws.flatMap be4 := rfl
theorem flatB_append (a b : List UInt32) : flatB a ++ flatB b = flatB (a ++ b) := by
  apply ByteArray.ext
  rw [ByteArray.data_append]
  apply Array.toList_inj.1
  simp [flatB]
theorem or_add (k a b : Nat) (h : b < 2 ^ k) : 2 ^ k * a ||| b = 2 ^ k * a + b := (Nat.two_pow_add_eq_or_of_lt h a).symm
theorem top_byte (y : Nat) (hy : y < 4294967296) : y / 16777216 % 256 * 16777216 % 4294967296 = 16777216 * (y / 16777216) ∧ y / 65536 % 256 * 65536 % 4294967296 = 65536 * (y / 65536 % 256) ∧ y / 256 % 256 * 256 % 4294967296 = 256 * (y / 256 % 256) := by omega
theorem be4_word (x : UInt32) : sl (ub (UInt8.ofNat (x.toNat / 16777216))) 24 ||| sl (ub (UInt8.ofNat (x.toNat / 65536))) 16 ||| sl (ub (UInt8.ofNat (x.toNat / 256))) 8 ||| ub (UInt8.ofNat x.toNat) = x := by
  apply UInt32.toNat_inj.1
  have hx := x.toNat_lt
  have hb : ∀ n : Nat, (ub (UInt8.ofNat n)).toNat = n % 256 := fun n => by unfold ub; simp
  have hs : ∀ (n k : Nat), (sl (ub (UInt8.ofNat n)) k).toNat = (n % 256) * 2 ^ k % 2 ^ 32 := fun n k => by unfold sl; rw [UInt32.toNat_ofNat', hb]
  rw [UInt32.toNat_or, UInt32.toNat_or, UInt32.toNat_or, hs, hs, hs, hb]
  generalize x.toNat = y at hx ⊢
  obtain ⟨a3, h3⟩ : ∃ a, y / 16777216 = a := ⟨_, rfl⟩
  obtain ⟨a2, h2⟩ : ∃ a, y / 65536 % 256 = a := ⟨_, rfl⟩
  obtain ⟨a1, h1⟩ : ∃ a, y / 256 % 256 = a := ⟨_, rfl⟩
  obtain ⟨a0, h0⟩ : ∃ a, y % 256 = a := ⟨_, rfl⟩
  have hx0 := top_byte y hx
  rw [h3, h2, h1] at hx0
  have e0 : a3 % 256 * 2 ^ 24 % 2 ^ 32 = 16777216 * a3 := hx0.1
  have e1 : a2 * 2 ^ 16 % 2 ^ 32 = 65536 * a2 := hx0.2.1
  have e2 : a1 * 2 ^ 8 % 2 ^ 32 = 256 * a1 := hx0.2.2
  have o1 : 16777216 * a3 ||| 65536 * a2 = 16777216 * a3 + 65536 * a2 := by
    have h := or_add 24 a3 (65536 * a2) (by simp only [Nat.reducePow]; omega)
    simpa only [Nat.reducePow] using h
  have o2 : 65536 * (256 * a3 + a2) ||| 256 * a1 = 65536 * (256 * a3 + a2) + 256 * a1 := by
    have h := or_add 16 (256 * a3 + a2) (256 * a1) (by simp only [Nat.reducePow]; omega)
    simpa only [Nat.reducePow] using h
  have o3 : 256 * (65536 * a3 + 256 * a2 + a1) ||| a0 = 256 * (65536 * a3 + 256 * a2 + a1) + a0 := by
    have h := or_add 8 (65536 * a3 + 256 * a2 + a1) a0 (by simp only [Nat.reducePow]; omega)
    simpa only [Nat.reducePow] using h
  have p2 : 16777216 * a3 + 65536 * a2 = 65536 * (256 * a3 + a2) := by omega
  have p3 : 65536 * (256 * a3 + a2) + 256 * a1 = 256 * (65536 * a3 + 256 * a2 + a1) := by omega
  rw [h3, h2, h1, e0, e1, e2, h0, o1, p2, o2, p3, o3]
  omega
theorem flat_get : ∀ (ws : List UInt32) (j r : Nat), r < 4 → (ws.flatMap be4).getD (4 * j + r) 0 = (be4 (ws.getD j 0)).getD r 0
  | [], j, r, h => by
    have e : be4 (([] : List UInt32).getD j 0) = [0, 0, 0, 0] := by rw [show ([] : List UInt32).getD j 0 = 0 by simp]; rfl
    rw [e]
    rcases r with _ | _ | _ | _ | r
    all_goals first | rfl | omega
  | x :: ws, 0, r, h => by
    rw [List.flatMap_cons, show 4 * 0 + r = r by omega]
    show (be4 x ++ _).getD r 0 = (be4 x).getD r 0
    rcases r with _ | _ | _ | _ | r
    all_goals first | rfl | omega
  | x :: ws, j + 1, r, h => by
    rw [List.flatMap_cons, show 4 * (j + 1) + r = (4 * j + r) + 4 by omega]
    exact flat_get ws j r h
theorem word_flat (ws : List UInt32) (j : Nat) : word (flatB ws) j = ws.getD j 0 := by
  have h := fun r hr => flat_get ws j r hr
  have e : ∀ r, r < 4 → byteW (flatB ws) (4 * j + r) = ub ((be4 (ws.getD j 0)).getD r 0) := fun r hr => by
    unfold byteW
    rw [flatB_list, h r hr]
  have e0 := e 0 (by omega)
  rw [Nat.add_zero] at e0
  unfold word
  rw [e0, e 1 (by omega), e 2 (by omega), e 3 (by omega)]
  exact be4_word _
theorem flatB_head {a b : UInt32} {r1 r2 : List UInt32} (h : flatB (a :: r1) = flatB (b :: r2)) : a = b := by
  have h1 := word_flat (a :: r1) 0
  rw [h, word_flat] at h1
  exact h1.symm

/-- A byte in each place of a word. -/
def rep (b : UInt8) : UInt32 := UInt32.ofNat (b.toNat * 16843009)
theorem rep_byte : ∀ n : Fin 256, n.val * 16843009 / 2 ^ 0 % 2 ^ 8 = n.val ∧ n.val * 16843009 / 2 ^ 8 % 2 ^ 8 = n.val ∧ n.val * 16843009 / 2 ^ 16 % 2 ^ 8 = n.val ∧ n.val * 16843009 / 2 ^ 24 % 2 ^ 8 = n.val := by decide +kernel
theorem be4_xor (x : UInt32) (b : UInt8) : (be4 x).map (· ^^^ b) = be4 (x ^^^ rep b) := by
  have hb := b.toNat_lt
  have hr : (rep b).toNat = b.toNat * 16843009 := by unfold rep; rw [UInt32.toNat_ofNat']; omega
  have h : ∀ k, k = 0 ∨ k = 8 ∨ k = 16 ∨ k = 24 → UInt8.ofNat (x.toNat / 2 ^ k) ^^^ b = UInt8.ofNat ((x ^^^ rep b).toNat / 2 ^ k) := fun k hk => by
    apply UInt8.toNat_inj.1
    rw [UInt8.toNat_xor, UInt8.toNat_ofNat', UInt8.toNat_ofNat', UInt32.toNat_xor, Nat.xor_div_two_pow, Nat.xor_mod_two_pow, hr]
    congr 1
    have hr2 := rep_byte ⟨b.toNat, hb⟩
    rcases hk with rfl | rfl | rfl | rfl
    · exact hr2.1.symm
    · exact hr2.2.1.symm
    · exact hr2.2.2.1.symm
    · exact hr2.2.2.2.symm
  have h0 := h 0 (by omega)
  have h1 := h 8 (by omega)
  have h2 := h 16 (by omega)
  have h3 := h 24 (by omega)
  rw [show (2 : Nat) ^ 0 = 1 from rfl, Nat.div_one, Nat.div_one] at h0
  show [_, _, _, _] = [_, _, _, _]
  rw [← h0]
  show _ = [UInt8.ofNat ((x ^^^ rep b).toNat / 2 ^ 24), UInt8.ofNat ((x ^^^ rep b).toNat / 2 ^ 16), UInt8.ofNat ((x ^^^ rep b).toNat / 2 ^ 8), _]
  rw [← h1, ← h2, ← h3]
theorem flatB_xor (ws : List UInt32) (b : UInt8) : xorB (flatB ws) b = flatB (ws.map (· ^^^ rep b)) := by
  apply ByteArray.ext
  apply Array.toList_inj.1
  show (ws.flatMap be4).map (· ^^^ b) = (ws.map (· ^^^ rep b)).flatMap be4
  induction ws with
  | nil => rfl
  | cons x ws ih => rw [List.flatMap_cons, List.map_append, be4_xor, ih, List.map_cons, List.flatMap_cons]

/-- The last block of a text behind a whole block; the only block of a short text. -/
def tailB (t : ByteArray) : ByteArray := ⟨(t.data.toList ++ [128] ++ List.replicate (55 - t.size) 0 ++ Pad.lenB (8 * (64 + t.size)) 8).toArray⟩
def soleB (t : ByteArray) : ByteArray := ⟨(t.data.toList ++ [128] ++ List.replicate (55 - t.size) 0 ++ Pad.lenB (8 * t.size) 8).toArray⟩
theorem cut_front (a b : List UInt8) (n : Nat) (h : a.length = n) : (ByteArray.mk (a ++ b).toArray).extract 0 n = ⟨a.toArray⟩ := by
  apply ByteArray.ext
  apply Array.toList_inj.1
  simp [ByteArray.data_extract, ← h]
theorem cut_back (a b : List UInt8) (n m : Nat) (h : a.length = n) (h2 : b.length = m) : (ByteArray.mk (a ++ b).toArray).extract n (n + m) = ⟨b.toArray⟩ := by
  apply ByteArray.ext
  apply Array.toList_inj.1
  simp [ByteArray.data_extract, ← h, ← h2]
theorem dig_one (t : ByteArray) (ht : t.size ≤ 55) : digB t = ⟨(textL (blockS firstS keyL (soleB t))).toArray⟩ := by
  have hz : Pad.zer t.size = 55 - t.size := by unfold Pad.zer; omega
  have hn : padN t = 1 := by unfold padN; rw [hz]; omega
  have hp : padB t = soleB t := by
    unfold padB soleB Pad.padL Pad.padK Pad.head
    rw [hz]
  have hs : (soleB t).size = 64 := by rw [← hp, padB_size, hn]
  have e : (soleB t).extract 0 64 = soleB t := by rw [← hs]; exact ByteArray.extract_zero_size
  show (⟨(textL (blocksS (padB t) (padN t))).toArray⟩ : ByteArray) = _
  rw [hn, hp]
  show (⟨(textL (blockS firstS keyL ((soleB t).extract (64 * 0) (64 * 0 + 64)))).toArray⟩ : ByteArray) = _
  rw [show 64 * 0 = 0 from rfl, Nat.zero_add, e]
theorem dig_two (x t : ByteArray) (hx : x.size = 64) (ht : t.size ≤ 55) : digB (x ++ t) = ⟨(textL (blockS (blockS firstS keyL x) keyL (tailB t))).toArray⟩ := by
  have hsz : (x ++ t).size = 64 + t.size := by rw [ByteArray.size_append, hx]
  have hz : Pad.zer (x ++ t).size = 55 - t.size := by rw [hsz]; unfold Pad.zer; omega
  have hn : padN (x ++ t) = 2 := by unfold padN; rw [hz, hsz]; omega
  have hl : (x ++ t).data.toList = x.data.toList ++ t.data.toList := by rw [ByteArray.data_append]; simp
  have hxl : x.data.toList.length = 64 := by rw [← hx]; simp
  have hp : padB (x ++ t) = ⟨(x.data.toList ++ (t.data.toList ++ [128] ++ List.replicate (55 - t.size) 0 ++ Pad.lenB (8 * (64 + t.size)) 8)).toArray⟩ := by
    unfold padB Pad.padL Pad.padK Pad.head
    rw [hz, hsz, hl]
    simp only [List.append_assoc]
  have htl : (t.data.toList ++ [128] ++ List.replicate (55 - t.size) 0 ++ Pad.lenB (8 * (64 + t.size)) 8).length = 64 := by
    have : t.data.toList.length = t.size := by simp
    simp [Pad.lenB]
    omega
  have e1 : (padB (x ++ t)).extract 0 64 = x := by
    rw [hp, cut_front _ _ 64 hxl]
  have e2 : (padB (x ++ t)).extract 64 128 = tailB t := by
    rw [hp]
    exact cut_back _ _ 64 64 hxl htl
  show (⟨(textL (blocksS (padB (x ++ t)) (padN (x ++ t)))).toArray⟩ : ByteArray) = _
  rw [hn]
  show (⟨(textL (blockS (blockS firstS keyL ((padB (x ++ t)).extract (64 * 0) (64 * 0 + 64))) keyL ((padB (x ++ t)).extract (64 * 1) (64 * 1 + 64)))).toArray⟩ : ByteArray) = _
  rw [show 64 * 0 = 0 from rfl, show 64 * 1 = 64 from rfl, Nat.zero_add, show 64 + 64 = 128 from rfl, e1, e2]

/-- The words of the block behind a digest in a keyed hash. -/
def outW (S : St8) : List UInt32 := S.list ++ [2147483648, 0, 0, 0, 0, 0, 0, 768]
/-- A keyed hash from the two states behind the key. -/
def macS (I O : St8) (tw : List UInt32) : St8 := blockS O keyL (flatB (outW (blockS I keyL (flatB tw))))
/-- The state behind a key. -/
def midS (b : UInt8) (k : List UInt32) : St8 := blockS firstS keyL (flatB (k.map (· ^^^ rep b)))
theorem tail_dig (S : St8) : tailB ⟨(textL S).toArray⟩ = flatB (outW S) := by
  have e : (⟨(textL S).toArray⟩ : ByteArray).size = 32 := rfl
  have e2 : [128] ++ List.replicate 23 0 ++ Pad.lenB 768 8 = ([2147483648, 0, 0, 0, 0, 0, 0, 768] : List UInt32).flatMap be4 := by decide +kernel
  unfold tailB flatB outW
  rw [e, List.flatMap_append, ← e2]
  show _ = (⟨(textL S ++ _).toArray⟩ : ByteArray)
  simp only [List.append_assoc]
theorem hmac_words (key t : ByteArray) (k tw : List UInt32) (hk : keyB key = flatB k) (ht : t.size ≤ 55) (hw : tailB t = flatB tw) : hmacB key t = ⟨(textL (macS (midS 54 k) (midS 92 k) tw)).toArray⟩ := by
  have h64 : ∀ b, (xorB (keyB key) b).size = 64 := fun b => by rw [xorB_size, keyB_size]
  unfold hmacB
  rw [dig_two (xorB (keyB key) 54) t (h64 54) ht, dig_two (xorB (keyB key) 92) _ (h64 92) (by show 32 ≤ 55; omega), tail_dig, hw, hk, flatB_xor, flatB_xor]
  rfl
theorem text_eight (S : St8) : (ByteArray.mk (textL S).toArray).extract 0 8 = flatB [S.a, S.b] := by
  have e : textL S = ([S.a, S.b] : List UInt32).flatMap be4 ++ ([S.c, S.d, S.e, S.f, S.g, S.h] : List UInt32).flatMap be4 := rfl
  rw [e]
  exact cut_front _ _ 8 rfl
theorem text_sixteen (S : St8) : (ByteArray.mk (textL S).toArray).extract 0 16 = flatB [S.a, S.b, S.c, S.d] := by
  have e : textL S = ([S.a, S.b, S.c, S.d] : List UInt32).flatMap be4 ++ ([S.e, S.f, S.g, S.h] : List UInt32).flatMap be4 := rfl
  rw [e]
  exact cut_front _ _ 16 rfl
theorem mark_eight (key t : ByteArray) (S : St8) (h : hmacB key t = ⟨(textL S).toArray⟩) : markB key t 8 = flatB [S.a, S.b] := by
  unfold markB
  rw [if_pos (by omega), h]
  exact text_eight S
theorem mark_sixteen (key t : ByteArray) (S : St8) (h : hmacB key t = ⟨(textL S).toArray⟩) : markB key t 16 = flatB [S.a, S.b, S.c, S.d] := by
  unfold markB
  rw [if_pos (by omega), h]
  exact text_sixteen S
/-- A short key in words. -/
theorem key_words (ws : List UInt32) (z : Nat) (h : ws.length + z = 16) : keyB (flatB ws) = flatB (ws ++ List.replicate z 0) := by
  have hs := flatB_size ws
  have hb : keyBase (flatB ws) = flatB ws := by unfold keyBase; rw [if_neg (by omega)]
  unfold keyB
  rw [hb, ← flatB_append, hs, show 64 - 4 * ws.length = 4 * z by omega]
  congr 1
  apply ByteArray.ext
  apply Array.toList_inj.1
  show List.replicate (4 * z) 0 = (List.replicate z (0 : UInt32)).flatMap be4
  clear h hs hb
  induction z with
  | zero => rfl
  | succ z ih =>
    rw [List.replicate_succ, List.flatMap_cons, ← ih, show 4 * (z + 1) = 4 * z + 1 + 1 + 1 + 1 by omega, List.replicate_succ, List.replicate_succ, List.replicate_succ, List.replicate_succ]
    rfl
end Go.Proofs.YtbojcphcjggccaaDoor.Simd
