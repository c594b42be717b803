/- The drawn keys in lanes; keyed hashes of texts of up to 119 bytes. -/
import Derived.Test.YtbojcphcjggccaaDoorMarksBytes
namespace Go.Proofs.YtbojcphcjggccaaDoor.Simd
open Go.Proofs.YtbojcphcjggccaaDoor.Sha Go.Proofs.YtbojcphcjggccaaDoor.Hexa Go.Proofs.YtbojcphcjggccaaDoor.Byt

/-- The state behind a long key. -/
def digS (n b : Nat) : St8 := blockS (blockS firstS keyL (flatB (kS 64 b))) keyL (flatB (tS n b))
def kW (n b : Nat) : List UInt32 := bif Nat.ble n 64 then kS n b else (digS n b).list ++ List.replicate 8 0
theorem kS_length (n b : Nat) : (kS n b).length = 16 := by simp [kS]
theorem kW_length (n b : Nat) : (kW n b).length = 16 := by
  unfold kW
  cases Nat.ble n 64
  · rfl
  · exact kS_length n b
theorem kS_get (n b j : Nat) (hj : j < 16) : (kS n b).getD j 0 = UInt32.ofNat (b * padW n j) := by simp [kS, List.getD, hj]
theorem range_get (f : Nat → UInt32) (j : Nat) (hj : j < 16) : ((List.range 16).map f).getD j 0 = f j := by simp [List.getD, hj]
theorem tS_get (n b j : Nat) (hj : j < 16) : (tS n b).getD j 0 = UInt32.ofNat (b * padW (n - 64) j + ((pack (tailP (List.replicate (n - 64) 0))).getD j 0).toNat) :=
  range_get (fun j => UInt32.ofNat (b * padW (n - 64) j + ((pack (tailP (List.replicate (n - 64) 0))).getD j 0).toNat)) j hj
theorem long_is (n b : Nat) (hn : n ∈ [0, 1, 20, 32, 63, 64]) (hb : b < 256) : longB n (UInt8.ofNat b) ++ longB (64 - n) 0 = flatB (kS n b) := by
  have h := kS_list n hn ⟨b, hb⟩
  apply ByteArray.ext
  rw [ByteArray.data_append]
  apply Array.toList_inj.1
  rw [Array.toList_append]
  exact h.symm
theorem long_64 (b : Nat) (hb : b < 256) : longB 64 (UInt8.ofNat b) = flatB (kS 64 b) := by
  have h := kS_list 64 (by simp) ⟨b, hb⟩
  apply ByteArray.ext
  apply Array.toList_inj.1
  simp only [Nat.sub_self, List.replicate_zero, List.append_nil] at h
  exact h.symm
theorem dig_big (n b : Nat) (hn : n ∈ [65, 100]) (hb : b < 256) : digB (longB n (UInt8.ofNat b)) = ⟨(textL (digS n b)).toArray⟩ := by
  have h := tS_list n hn ⟨b, hb⟩
  have hr : 64 ≤ n ∧ n - 64 ≤ 55 := by simp at hn; omega
  have e : longB n (UInt8.ofNat b) = longB 64 (UInt8.ofNat b) ++ longB (n - 64) (UInt8.ofNat b) := by
    apply ByteArray.ext
    rw [ByteArray.data_append]
    apply Array.toList_inj.1
    rw [Array.toList_append]
    show List.replicate n _ = List.replicate 64 _ ++ List.replicate (n - 64) _
    rw [List.replicate_append_replicate, show 64 + (n - 64) = n by omega]
  have ht : tailB (longB (n - 64) (UInt8.ofNat b)) = flatB (tS n b) := by
    unfold tailB
    rw [longB_size]
    apply ByteArray.ext
    apply Array.toList_inj.1
    exact h.symm
  rw [e, dig_two _ _ (longB_size 64 _) (by rw [longB_size]; exact hr.2), ht, long_64 b hb]
  rfl
theorem key_is (n b : Nat) (hn : n ∈ keyNs) (hb : b < 256) : keyB (longB n (UInt8.ofNat b)) = flatB (kW n b) := by
  have hd : n ∈ [0, 1, 20, 32, 63, 64] ∨ n ∈ [65, 100] := by simp [keyNs] at hn ⊢; omega
  rcases hd with h | h
  · have hl : n ≤ 64 := by simp at h; omega
    have hk : kW n b = kS n b := by unfold kW; rw [Nat.ble_eq_true_of_le hl]; rfl
    have hs : (longB n (UInt8.ofNat b)).size = n := longB_size _ _
    have hb2 : keyBase (longB n (UInt8.ofNat b)) = longB n (UInt8.ofNat b) := by unfold keyBase; rw [if_neg (by omega)]
    unfold keyB
    rw [hk, hb2, hs]
    exact long_is n b h hb
  · have hl : ¬ n ≤ 64 := by simp at h; omega
    have hk : kW n b = (digS n b).list ++ List.replicate 8 0 := by
      unfold kW
      cases he : Nat.ble n 64
      · rfl
      · exact absurd (Nat.le_of_ble_eq_true he) hl
    have hs : (longB n (UInt8.ofNat b)).size = n := longB_size _ _
    have hf : digB (longB n (UInt8.ofNat b)) = flatB (digS n b).list := dig_big n b h hb
    have hb2 : keyBase (longB n (UInt8.ofNat b)) = flatB (digS n b).list := by unfold keyBase; rw [if_pos (by omega), hf]
    have hz := flatB_size (digS n b).list
    have hb3 : keyBase (flatB (digS n b).list) = flatB (digS n b).list := by unfold keyBase; rw [if_neg (by rw [hz]; show ¬ 64 < 4 * 8; omega)]
    have hkw := key_words (digS n b).list 8 rfl
    rw [hk, ← hkw]
    unfold keyB
    rw [hb2, hb3]

theorem pn_zero : ∀ n, pn (fun _ => 0) n = 0
  | 0 => rfl
  | n + 1 => by
    have h := pn_zero n
    show 2 ^ (64 * n) * 0 + pn (fun _ => 0) n = 0
    rw [h, Nat.mul_zero]
theorem shortV_P (n j : Nat) (hj : j < 16) : shortV n j = P 256 (fun l => (kS n l).getD j 0) := by
  unfold shortV
  have hp := padW_le n j
  rw [iota_pn, pn_mul]
  show pn _ 256 = _
  unfold P
  refine pn_congr_lt 256 fun l hl => ?_
  show _ = ((kS n l).getD j 0).toNat
  rw [kS_get n l j hj, UInt32.toNat_ofNat', Nat.zero_add]
  have h2 : l * padW n j ≤ 255 * 16843009 := Nat.mul_le_mul (by omega) hp
  exact (Nat.mod_eq_of_lt (by omega)).symm
theorem ones8 : ones 8 = pn (fun _ => 1) 256 := ones_pn 8
theorem mask_n (n : Nat) : Nat.mul (pn (fun _ => 1) n) 4294967295 = P n (fun _ => 4294967295) := cst n 4294967295 4294967295 rfl
theorem digV_P (n : Nat) (hn : n ∈ [65, 100]) : digV n = st 256 (fun l => digS n l) := by
  unfold digV
  rw [ones8, mask_n, bc_st, blkF_P 256 (fun _ => firstS) (shortV 64) (fun l => kS 64 l) (fun j hj => shortV_P 64 j hj), blkF_P 256 _ _ (fun l => tS n l) (fun j hj => ?_)]
  · rfl
  · have h1 := tS_small n hn ⟨j, hj⟩
    have hs : shortV (n - 64) j = pn (fun l => l * padW (n - 64) j) 256 := by
      unfold shortV
      rw [iota_pn, pn_mul]
      exact pn_congr (fun l => by rw [Nat.zero_add]) _
    rw [hs, ones_mul, pn_add]
    unfold P
    refine pn_congr_lt 256 fun l hl => ?_
    show _ = ((tS n l).getD j 0).toNat
    rw [tS_get n l j hj, UInt32.toNat_ofNat']
    have h2 : l * padW (n - 64) j ≤ 255 * padW (n - 64) j := Nat.mul_le_mul_right _ (by omega)
    refine (Nat.mod_eq_of_lt ?_).symm
    show _ < 4294967296
    exact Nat.lt_of_le_of_lt (Nat.add_le_add_right h2 _) h1
theorem at_P (n : Nat) (F : Nat → St8) (j : Nat) (hj : j < 16) : S8.at (st n F) j = P n (fun l => ((F l).list ++ List.replicate 8 0).getD j 0) := by
  have hz : P n (fun _ => 0) = 0 := pn_zero n
  rcases j with _ | _ | _ | _ | _ | _ | _ | _ | _ | _ | _ | _ | _ | _ | _ | _ | j
  all_goals first | rfl | exact hz.symm | omega
theorem keyV_P (n : Nat) (hn : n ∈ keyNs) (j : Nat) (hj : j < 16) : keyV n j = P 256 (fun l => (kW n l).getD j 0) := by
  unfold keyV kW
  cases h : Nat.ble n 64
  · have hd : n ∈ [65, 100] := by
      have : ¬ n ≤ 64 := fun h2 => by rw [Nat.ble_eq_true_of_le h2] at h; cases h
      simp [keyNs] at hn ⊢; omega
    show S8.at (digV n) j = _
    rw [digV_P n hd]
    exact at_P 256 _ j hj
  · exact shortV_P n j hj
theorem midL_P (n : Nat) (hn : n ∈ keyNs) (x : UInt8) (c : Nat) (hc : (rep x).toNat = c) : midL n c = st 256 (fun l => midS x (kW n l)) := by
  unfold midL
  rw [ones8, mask_n, bc_st, cst 256 (rep x) c hc]
  refine blkF_P 256 (fun _ => firstS) _ (fun l => (kW n l).map (· ^^^ rep x)) (fun j hj => ?_)
  rw [keyV_P n hn j hj, P_xor]
  have e : (fun l => (kW n l).getD j 0 ^^^ rep x) = fun l => ((kW n l).map (· ^^^ rep x)).getD j 0 := funext fun l => by
    have hl := kW_length n l
    have hj' : j < (kW n l).length := by omega
    simp [List.getD, hj']
  rw [e]

theorem pack_append : ∀ (k : Nat) (A B : List UInt8), A.length = 4 * k → pack (A ++ B) = pack A ++ pack B
  | 0, A, B, h => by
    have : A = [] := List.length_eq_zero_iff.1 (by omega)
    subst this; rfl
  | k + 1, [], B, h => by simp at h
  | k + 1, [_], B, h => by simp at h; omega
  | k + 1, [_, _], B, h => by simp at h; omega
  | k + 1, [_, _, _], B, h => by simp at h; omega
  | k + 1, a :: b :: c :: d :: r, B, h => by
    have ih := pack_append k r B (by simp at h; omega)
    show _ :: pack (r ++ B) = _ :: (pack r ++ pack B)
    rw [ih]
theorem tailP_length (t : List UInt8) : (tailP t).length = t.length + 9 + Pad.zer t.length := by
  unfold tailP
  simp [Pad.lenB]
  omega
/-- A text of up to 119 bytes behind a whole block. -/
theorem dig_tail (x t : ByteArray) (hx : x.size = 64) (ht : t.size ≤ 119) : digB (x ++ t) = ⟨(textL (innS (blockS firstS keyL x) t.data.toList)).toArray⟩ := by
  have hl : t.data.toList.length = t.size := by simp
  by_cases h : t.size ≤ 55
  · have hz : Pad.zer t.size = 55 - t.size := by unfold Pad.zer; omega
    have hT : tailB t = flatB (pack (tailP t.data.toList)) := by
      rw [pack_flatB 16 _ (by rw [tailP_length, hl, hz]; omega)]
      unfold tailB tailP
      rw [hl, hz]
    rw [dig_two x t hx h, hT]
    unfold innS
    rw [hl, Nat.ble_eq_true_of_le h]
    rfl
  · have hsz : (x ++ t).size = 64 + t.size := by rw [ByteArray.size_append, hx]
    have hz : Pad.zer t.size = 119 - t.size := by unfold Pad.zer; omega
    have hz2 : Pad.zer (x ++ t).size = 119 - t.size := by rw [hsz]; unfold Pad.zer; omega
    have hn : padN (x ++ t) = 3 := by unfold padN; rw [hz2, hsz]; omega
    have hxt : (x ++ t).data.toList = x.data.toList ++ t.data.toList := by rw [ByteArray.data_append]; simp
    have hxl : x.data.toList.length = 64 := by rw [← hx]; simp
    have hTl : (tailP t.data.toList).length = 128 := by rw [tailP_length, hl, hz]; omega
    have hp : padB (x ++ t) = ⟨(x.data.toList ++ tailP t.data.toList).toArray⟩ := by
      unfold padB Pad.padL Pad.padK Pad.head tailP
      rw [hz2, hsz, hxt, hl, hz]
      simp only [List.append_assoc]
    have hAB : tailP t.data.toList = (tailP t.data.toList).take 64 ++ (tailP t.data.toList).drop 64 := (List.take_append_drop 64 _).symm
    generalize hA : (tailP t.data.toList).take 64 = A at hAB
    generalize hB : (tailP t.data.toList).drop 64 = B at hAB
    have hAl : A.length = 64 := by rw [← hA, List.length_take]; omega
    have hBl : B.length = 64 := by rw [← hB, List.length_drop]; omega
    have hP := pack_append 16 A B hAl
    have hPl := pack_length 16 A hAl
    have hPA : flatB (pack A) = ⟨A.toArray⟩ := pack_flatB 16 A hAl
    have hPB : flatB (pack B) = ⟨B.toArray⟩ := pack_flatB 16 B hBl
    rw [hAB] at hp
    have e1 : (padB (x ++ t)).extract 0 64 = x := by
      rw [hp, cut_front _ _ 64 hxl]
    have e2 : (padB (x ++ t)).extract 64 128 = ⟨A.toArray⟩ := by
      rw [hp]
      have k1 := cut_front (x.data.toList ++ A) B 128 (by rw [List.length_append, hxl, hAl])
      have k2 := cut_back x.data.toList A 64 64 hxl hAl
      rw [← List.append_assoc]
      have k3 : (ByteArray.mk (x.data.toList ++ A ++ B).toArray).extract 64 128 = ((ByteArray.mk (x.data.toList ++ A ++ B).toArray).extract 0 128).extract 64 128 := by
        rw [ByteArray.extract_extract]; rfl
      rw [k3, k1]
      exact k2
    have e3 : (padB (x ++ t)).extract 128 192 = ⟨B.toArray⟩ := by
      rw [hp, ← List.append_assoc]
      exact cut_back (x.data.toList ++ A) B 128 64 (by rw [List.length_append, hxl, hAl]) hBl
    show (⟨(textL (blocksS (padB (x ++ t)) (padN (x ++ t)))).toArray⟩ : ByteArray) = _
    rw [hn]
    show (⟨(textL (blockS (blockS (blockS firstS keyL ((padB (x ++ t)).extract (64 * 0) (64 * 0 + 64))) keyL ((padB (x ++ t)).extract (64 * 1) (64 * 1 + 64))) keyL ((padB (x ++ t)).extract (64 * 2) (64 * 2 + 64)))).toArray⟩ : ByteArray) = _
    rw [show 64 * 0 = 0 from rfl, show 64 * 1 = 64 from rfl, show 64 * 2 = 128 from rfl, Nat.zero_add, show 64 + 64 = 128 from rfl, show 128 + 64 = 192 from rfl, e1, e2, e3]
    have hb : Nat.ble t.size 55 = false := by
      cases he : Nat.ble t.size 55
      · rfl
      · exact absurd (Nat.le_of_ble_eq_true he) h
    unfold innS
    rw [hl, hb, hAB, hP, List.take_left' hPl, List.drop_left' hPl, hPA, hPB]
    rfl
theorem hmac_of (key t : ByteArray) (k : List UInt32) (hk : keyB key = flatB k) (ht : t.size ≤ 119) : hmacB key t = ⟨(textL (hmS (midS 54 k) (midS 92 k) t.data.toList)).toArray⟩ := by
  have h64 : ∀ b, (xorB (keyB key) b).size = 64 := fun b => by rw [xorB_size, keyB_size]
  unfold hmacB
  rw [dig_tail (xorB (keyB key) 54) t (h64 54) ht, dig_two (xorB (keyB key) 92) _ (h64 92) (by show 32 ≤ 55; omega), tail_dig, hk, flatB_xor, flatB_xor]
  rfl

theorem keys_at (N : Nat) (hN : N = 2048) (x : UInt8) (c : Nat) (hc : (rep x).toNat = c) : joinS 256 (keyNs.map fun n => midL n c) = st N (fun l => midS x (kW (keyNs.getD (l / 256) 101) (l % 256))) := by
  have e : (keyNs.map fun n => midL n c) = (keyNs.map fun n l => midS x (kW n l)).map (st 256) := by
    rw [List.map_map]
    exact List.map_congr_left fun n hn => midL_P n hn x c hc
  have hl : (keyNs.map fun n l => midS x (kW n l)).length * 256 = N := by rw [hN, List.length_map]; rfl
  rw [e, joinS_P 256 (by omega), hl]
  have hg : ∀ l, l < N → ((keyNs.map fun n l => midS x (kW n l)).getD (l / 256) (fun _ => noS)) (l % 256) = midS x (kW (keyNs.getD (l / 256) 101) (l % 256)) := fun l hl => by
    have h8 : l / 256 < keyNs.length := by show l / 256 < 8; omega
    simp [List.getD, h8]
  have hp : ∀ g : St8 → UInt32, P N (fun l => g (((keyNs.map fun n l => midS x (kW n l)).getD (l / 256) (fun _ => noS)) (l % 256))) = P N (fun l => g (midS x (kW (keyNs.getD (l / 256) 101) (l % 256)))) := fun g =>
    pn_congr_lt _ fun l hl => by
      have := hg l hl
      show (g _).toNat = (g _).toNat
      rw [this]
  unfold st
  rw [hp (·.a), hp (·.b), hp (·.c), hp (·.d), hp (·.e), hp (·.f), hp (·.g), hp (·.h)]
theorem marks_say (q c j : Nat) (h : marksOk q c j = true) (i : Nat) (hi : i < c) (k b : Nat) (hk : k < 8) (hb : b < 256) (hT : (drawT q (j + i)).length ≤ 118) :
    hmacB (longB (keyNs.getD k 101) (UInt8.ofNat b)) ⟨(drawT q (j + i)).toArray⟩ ≠ hmacB (longB (keyNs.getD k 101) (UInt8.ofNat b)) ⟨(drawT q (j + i) ++ [97]).toArray⟩ := by
  have hn : keyNs.getD k 101 ∈ keyNs := by
    have h8 : k < keyNs.length := hk
    simp [List.getD, h8]
  have hK := key_is (keyNs.getD k 101) b hn hb
  rw [hmac_of _ _ _ hK (by show (drawT q (j + i)).toArray.size ≤ 119; simp; omega), hmac_of _ _ _ hK (by show (drawT q (j + i) ++ [97]).toArray.size ≤ 119; simp; omega)]
  unfold marksOk at h
  simp only at h
  obtain ⟨N, hN⟩ : ∃ N, N = 2 ^ 11 := ⟨_, rfl⟩
  have hN2 : N = 2048 := by omega
  rw [keys_at N hN2 54 _ (by decide), keys_at N hN2 92 _ (by decide), ones_pn, ← hN, mask_n N] at h
  have h2 := run_says N _ _ q c j h i hi (256 * k + b) (by omega)
  rw [show (256 * k + b) / 256 = k by omega, show (256 * k + b) % 256 = b by omega] at h2
  intro he
  exact h2 (flatB_head (r1 := _) (r2 := _) (show flatB (St8.list _) = flatB (St8.list _) from he))
end Go.Proofs.YtbojcphcjggccaaDoor.Simd
