/- The model's chapter 3: a text combined with a byte, the keyed hash. -/
import Derived.Test.YtbojcphcjggccaaDoorDigSpec
import Derived.Test.YtbojcphcjggccaaDoorLong
namespace Go.Proofs.YtbojcphcjggccaaDoor
open Go.RowKit Go.Proofs.YtbojcphcjggccaaDoor.Sha Go.Proofs.YtbojcphcjggccaaDoor.Hexa Go.Proofs.YtbojcphcjggccaaDoor.Parts Go.Proofs.YtbojcphcjggccaaDoor.Byt Go.Proofs.YtbojcphcjggccaaDoor.BitsM

/-- A text with each byte combined with one. -/
def xorB (s : ByteArray) (b : UInt8) : ByteArray := ⟨(s.data.toList.map (· ^^^ b)).toArray⟩
theorem xorB_size (s : ByteArray) (b : UInt8) : (xorB s b).size = s.size := by show (s.data.toList.map (· ^^^ b)).toArray.size = s.size; simp

set_option maxRecDepth 100000 in
set_option maxHeartbeats 1000000 in
theorem xor_any (s : ByteArray) (b : UInt8) (w : World) (hs : s.size ≤ 8000000) :
    Calls Tryd.prog 37 #[.string s, .int .u8 b.toNat] w fun e w' => e = .returned (.string (xorB s b)) ∧ Below w.heap.size w w' := by
  have kc0 := run_bytes_of_string (P := Tryd.prog) w 9 22 5 s Tryd.underlying9 Tryd.underlying22 Tryd.underlying5
  have b0 := bytes_conv w 5 s w.heap.size (Nat.le_refl _) (by omega)
  have g0 : Below w.heap.size w (w.drew.alloc (.cells (bytesRow s (grownCap w s.size 0 5)) 5 ((bytesRow s (grownCap w s.size 0 5)).size, (bytesRow s (grownCap w s.size 0 5)).size + 1))) := below_grown w (Nat.le_refl _) _
  generalize w.drew.alloc (.cells (bytesRow s (grownCap w s.size 0 5)) 5 ((bytesRow s (grownCap w s.size 0 5)).size, (bytesRow s (grownCap w s.size 0 5)).size + 1)) = W0 at b0 g0 kc0
  generalize grownCap w s.size 0 5 = c0 at b0 kc0
  have HB := Lib.hid b0
  have HG := Lib.hid g0
  obtain ⟨bv, hbv⟩ : ∃ bv : Int, (b.toNat : Int) = bv := ⟨_, rfl⟩
  have hx8 : ∀ a : UInt8, bits .xor .u8 (a.toNat : Int) bv = ((a ^^^ b).toNat : Int) := fun a => by rw [← hbv]; exact xor8 a b
  rw [hbv]
  clear b0 g0 hbv
  go_enter Tryd.func37, Tryd.ntmps37
  go_wp2
  clear kc0
  go_loopw [6] (fun iv wr => ∃ (k : Nat) (l : List UInt8), k ≤ s.size ∧ iv = .int .i64 k ∧ l.length = s.size ∧ Hid (∀ j, j < k → l[j]? = (s.data.toList.map (· ^^^ b))[j]?) ∧ Hid (∀ j, k ≤ j → l[j]? = s.data.toList[j]?) ∧ Hid (Bytes wr w.heap.size 5 (.slice (some ⟨w.heap.size, 0, none⟩) l.length c0) l) ∧ Below w.heap.size w wr)
    (fun iv _ => s.size - (intOf iv).toNat)
  case atStart => exact ⟨0, s.data.toList, Nat.zero_le _, rfl, by simp, Lib.hid (fun j hj => by omega), Lib.hid (fun j _ => rfl), Lib.hid (by have := HB.out; simpa using this), HG.out⟩
  case round =>
    clear HB HG
    obtain ⟨k, l, hk, rfl, hl, HA, HC, HW, hbel⟩ := hrel
    by_cases hlt : k < s.size
    · obtain ⟨hc, hz, hB⟩ := bytes_at HW.out k (by omega)
      have hks : k < s.data.toList.length := by simpa using hlt
      have hlk : l[k]'(by omega) = s.data.toList[k] := by
        have h1 := HC.out k (Nat.le_refl _)
        rw [List.getElem?_eq_getElem (by omega), List.getElem?_eq_getElem hks] at h1
        exact Option.some.inj h1
      obtain ⟨x, hx⟩ : ∃ x, s.data.toList[k] = x := ⟨_, rfl⟩
      rw [hlk, hx] at hc
      have HX : Hid ((s.data.toList.map (· ^^^ b))[k]? = some (x ^^^ b)) := Lib.hid (by rw [List.getElem?_map, List.getElem?_eq_getElem hks, hx]; rfl)
      have h8 := hx8 x
      have W1 := Lib.hid (bytes_set HW.out k (x ^^^ b))
      have hb1 : Below w.heap.size w (wr.setCell ⟨w.heap.size, k, none⟩ (.int .u8 ((x ^^^ b).toNat : Int))) := hbel.setCell (Nat.le_refl _) _
      have hbd := x.toNat_lt
      clear hlk hx hks
      go_wp2
      go_roundw
      case rel => exact ⟨k + 1, l.set k (x ^^^ b), by omega, by go_num, by simpa using hl, Lib.hid (fun j hj => by
        by_cases e : j = k
        · subst e; rw [List.getElem?_set_self (by omega), HX.out]
        · rw [List.getElem?_set_ne (by omega)]; exact HA.out j (by omega)), Lib.hid (fun j hj => by rw [List.getElem?_set_ne (by omega)]; exact HC.out j (by omega)), by simpa using W1, hb1⟩
      case measure => (simp [intOf]; try omega)
    · obtain rfl : k = s.size := by omega
      have hfin : l = s.data.toList.map (· ^^^ b) := by
        apply List.ext_getElem?
        intro j
        by_cases hj : j < s.size
        · exact HA.out j hj
        · rw [List.getElem?_eq_none (by omega), List.getElem?_eq_none (by simp; omega)]
      have h9 := HW.out
      have hconv := bytes_string (P := Tryd.prog) 22 9 Tryd.underlying22 Tryd.underlying5 Tryd.underlying9 h9
      rw [hl] at hconv
      clear h9
      go_wp2
      go_ret
      exact ⟨rfl, hbel⟩

/-- The key of a keyed hash. -/
def keyBase (s : ByteArray) : ByteArray := if 64 < s.size then digB s else s
def keyB (s : ByteArray) : ByteArray := keyBase s ++ longB (64 - (keyBase s).size) 0
theorem keyBase_size (s : ByteArray) : (keyBase s).size ≤ 64 := by
  unfold keyBase
  split
  · rw [digB_size]; omega
  · omega
theorem keyB_size (s : ByteArray) : (keyB s).size = 64 := by
  have := keyBase_size s
  unfold keyB
  rw [ByteArray.size_append, longB_size]
  omega

set_option maxRecDepth 100000 in
set_option maxHeartbeats 1000000 in
theorem specKey_any (s : ByteArray) (w : World) (hs : s.size ≤ 2000000) :
    Calls Tryd.prog 35 #[.string s] w fun e w' => e = .returned (.string (keyB s)) ∧ Below w.heap.size w w' := by
  have k1 := Lib.hid fun w => specDigest_any s w (by omega)
  have KL := Lib.hid (fun (n : Nat) (w : World) (h : n ≤ 64) => long_any n 0 w (by omega))
  by_cases h : 64 < s.size
  · have hd : (digB s).size = 32 := rfl
    have HE : Hid (keyB s = digB s ++ longB 32 0) := Lib.hid (by unfold keyB keyBase; rw [if_pos h]; rfl)
    clear hs
    go_enter Tryd.func35, Tryd.ntmps35
    go_wp2_with (first
      | (go_at_call 36; refine (k1.out _).mono ?_; rintro e w1 ⟨rfl, hb1⟩)
      | (go_at_call 49; refine (KL.out 32 _ (by omega)).mono ?_; rintro e w2 ⟨rfl, hb2⟩))
    go_ret
    exact ⟨by rw [HE.out]; rfl, hb1.trans (hb2.mono hb1.size)⟩
  · have HE : Hid (keyB s = s ++ longB (64 - s.size) 0) := Lib.hid (by unfold keyB keyBase; rw [if_neg h])
    have h64 : ((64 - s.size : Nat) : Int) = 64 - (s.size : Int) := by omega
    have KL2 := fun w => KL.out (64 - s.size) w (by omega)
    rw [h64] at KL2
    have KL3 := Lib.hid KL2
    have hsz : s.size + (longB (64 - s.size) 0).size ≤ 64 := by rw [longB_size]; omega
    clear hs KL2 KL
    go_enter Tryd.func35, Tryd.ntmps35
    go_wp2_with (first
      | (go_at_call 49; refine (KL3.out _).mono ?_; rintro e w2 ⟨rfl, hb2⟩))
    go_ret
    exact ⟨by rw [HE.out]; rfl, hb2⟩

/-- The keyed hash. -/
def hmacB (key text : ByteArray) : ByteArray := digB (xorB (keyB key) 92 ++ digB (xorB (keyB key) 54 ++ text))

set_option maxRecDepth 100000 in
set_option maxHeartbeats 1000000 in
theorem specHmac_any (key text : ByteArray) (w : World) (hk : key.size ≤ 2000000) (ht : text.size ≤ 2000000) :
    Calls Tryd.prog 20 #[.string key, .string text] w fun e w' => e = .returned (.string (hmacB key text)) ∧ Below w.heap.size w w' := by
  have k1 := Lib.hid fun w => specKey_any key w hk
  have hks := keyB_size key
  generalize hK : keyB key = K at k1 hks
  have x1 := Lib.hid fun w => xor_any K 92 w (by omega)
  have x2 := Lib.hid fun w => xor_any K 54 w (by omega)
  have HE : Hid (hmacB key text = digB (xorB K 92 ++ digB (xorB K 54 ++ text))) := Lib.hid (by unfold hmacB; rw [hK])
  have hx1 := xorB_size K 92
  have hx2 := xorB_size K 54
  generalize xorB K 92 = X1 at x1 HE hx1
  generalize xorB K 54 = X2 at x2 HE hx2
  have hm1 : X2.size + text.size ≤ 2000064 := by omega
  have hm2 : X1.size + (digB (X2 ++ text)).size ≤ 96 := by rw [digB_size]; omega
  have d1 := Lib.hid fun w => specDigest_any (X2 ++ text) w (by rw [ByteArray.size_append]; omega)
  have d2 := Lib.hid fun w => specDigest_any (X1 ++ digB (X2 ++ text)) w (by rw [ByteArray.size_append, digB_size]; omega)
  clear hk ht hks hx1 hx2
  go_enter Tryd.func20, Tryd.ntmps20
  go_wp2_with fail
  refine (k1.out _).mono ?_
  rintro e w1 ⟨rfl, hb1⟩
  go_wp2_with fail
  refine (x1.out _).mono ?_
  rintro e w2 ⟨rfl, hb2⟩
  go_wp2_with fail
  refine (x2.out _).mono ?_
  rintro e w3 ⟨rfl, hb3⟩
  go_wp2_with fail
  refine (d1.out _).mono ?_
  rintro e w4 ⟨rfl, hb4⟩
  go_wp2_with fail
  refine (d2.out _).mono ?_
  rintro e w5 ⟨rfl, hb5⟩
  go_wp2
  go_ret
  exact ⟨by rw [HE.out]; rfl, hb1.trans ((hb2.trans ((hb3.trans ((hb4.trans (hb5.mono hb4.size)).mono hb3.size)).mono hb2.size)).mono hb1.size)⟩
end Go.Proofs.YtbojcphcjggccaaDoor
