/- The program's keyed hash. -/
import Derived.Test.YtbojcphcjggccaaDoorMaskImpl
import Derived.Test.YtbojcphcjggccaaDoorShelfR
import Derived.Test.YtbojcphcjggccaaDoorSameImpl
import Derived.StillTailTactics
namespace Go.Proofs.YtbojcphcjggccaaDoor
open Go.RowKit Go.Proofs.YtbojcphcjggccaaDoor.Sha Go.Proofs.YtbojcphcjggccaaDoor.Hexa Go.Proofs.YtbojcphcjggccaaDoor.Parts Go.Proofs.YtbojcphcjggccaaDoor.Byt Go.Proofs.YtbojcphcjggccaaDoor.BitsM

theorem repeat0 (n : Nat) (w : World) (hn : n ≤ 8000000) :
    Calls Tryd.prog 38 #[.string { data := #[0] }, .int .i64 n] w fun e w' => e = .returned (.string (longB n 0)) ∧ Below w.heap.size w w' := by
  refine (Tryd.strings_Repeat { data := #[0] } n w (by omega) (by show 1 * n ≤ _; omega)).mono ?_
  rintro e w' ⟨rfl, hb⟩
  refine ⟨?_, hb⟩
  have h := Lib.repeatL_replicate 0 1 n
  have : (({ data := #[0] } : ByteArray)).data.toList = List.replicate 1 0 := rfl
  rw [this, h, Nat.mul_one]; rfl

set_option maxRecDepth 100000 in
set_option maxHeartbeats 1000000 in
theorem implKey_any (s : ByteArray) (w : World) (hT : Tabs w) (hs : s.size ≤ 2000000) :
    Calls Tryd.prog 21 #[.string s] w fun e w' => e = .returned (.string (keyB s)) ∧ Below w.heap.size w w' := by
  have k1 := Lib.hid fun w hT => implDigest_any s w (by omega) (And.left (b := IsTab w 1 keyL) hT) (And.right hT)
  have KL := Lib.hid (fun (n : Nat) (w : World) (h : n ≤ 64) => repeat0 n w (by omega))
  have HT := Lib.hid hT
  clear hT
  by_cases h : 64 < s.size
  · have hd : (digB s).size = 32 := rfl
    have HE : Hid (keyB s = digB s ++ longB 32 0) := Lib.hid (by unfold keyB keyBase; rw [if_pos h]; rfl)
    clear hs
    go_enter Tryd.func21, Tryd.ntmps21
    go_wp2_with (first
      | (go_at_call 11; refine (k1.out _ HT.out).mono ?_; rintro e w1 ⟨rfl, hb1⟩)
      | (go_at_call 38; refine (KL.out 32 _ (by omega)).mono ?_; rintro e w2 ⟨rfl, hb2⟩))
    go_ret
    exact ⟨by rw [HE.out]; rfl, hb1.trans (hb2.mono hb1.size)⟩
  · have HE : Hid (keyB s = s ++ longB (64 - s.size) 0) := Lib.hid (by unfold keyB keyBase; rw [if_neg h])
    have h64 : ((64 - s.size : Nat) : Int) = 64 - (s.size : Int) := by omega
    have KL2 := fun w => KL.out (64 - s.size) w (by omega)
    rw [h64] at KL2
    have KL3 := Lib.hid KL2
    have hsz : s.size + (longB (64 - s.size) 0).size ≤ 64 := by rw [longB_size]; omega
    clear hs KL2 KL
    go_enter Tryd.func21, Tryd.ntmps21
    go_wp2_with (first
      | (go_at_call 38; refine (KL3.out _).mono ?_; rintro e w2 ⟨rfl, hb2⟩))
    go_ret
    exact ⟨by rw [HE.out]; rfl, hb2⟩

set_option maxRecDepth 100000 in
set_option maxHeartbeats 1000000 in
theorem hashDigest_any (a t : ByteArray) (w : World) (hT : Tabs w) (ha : a.size ≤ 4000000) (ht : t.size ≤ 4000000) :
    Calls Tryd.prog 48 #[.agg #[.string a], .string t] w fun e w' => e = .returned (.string (digB (a ++ t))) ∧ Below w.heap.size w w' := by
  have k1 := Lib.hid fun w hT => implDigest_any (a ++ t) w (by rw [ByteArray.size_append]; omega) (And.left (b := IsTab w 1 keyL) hT) (And.right hT)
  have HT := Lib.hid (Tabs.below hT ((Below.refl w.heap.size w).alloc (Nat.le_refl _) (.cells #[.string a] 58)))
  have hsz : a.size + t.size ≤ 8000000 := by omega
  clear hT ha ht
  go_enter Tryd.func48, Tryd.ntmps48
  go_wp2_with (first
    | (go_at_call 11; refine (k1.out _ HT.out).mono ?_; rintro e w1 ⟨rfl, hb1⟩))
  go_ret
  exact ⟨rfl, ((Below.refl _ _).alloc (Nat.le_refl _) _).trans (hb1.mono (by simp))⟩

set_option maxRecDepth 100000 in
set_option maxHeartbeats 1000000 in
theorem newKeyed_any (key : ByteArray) (w : World) (hT : Tabs w) (hk : key.size ≤ 2000000) :
    Calls Tryd.prog 33 #[.string key] w fun e w' => e = .returned (.agg #[.string (xorB (keyB key) 54), .string (xorB (keyB key) 92)]) ∧ Below w.heap.size w w' := by
  have k1 := Lib.hid fun w hT => implKey_any key w hT hk
  have hks := keyB_size key
  generalize hK : keyB key = K at k1 hks
  have x1 := Lib.hid fun w => masked_any K 92 w (by omega)
  have x2 := Lib.hid fun w => masked_any K 54 w (by omega)
  have HT := Lib.hid hT
  clear hT hK hks hk
  go_enter Tryd.func33, Tryd.ntmps33
  go_wp2_with fail
  have HN := heap_alloc_new w (.cells #[.string { data := #[] }, .string { data := #[] }] 60)
  have hb0 : Below w.heap.size w (w.alloc (.cells #[.string { data := #[] }, .string { data := #[] }] 60)) := (Below.refl w.heap.size w).alloc (Nat.le_refl _) _
  have hz0 : (w.alloc (.cells #[.string { data := #[] }, .string { data := #[] }] 60)).heap.size = w.heap.size + 1 := by simp
  have HT1 := Lib.hid (Tabs.below HT.out hb0)
  generalize w.alloc (.cells #[.string { data := #[] }, .string { data := #[] }] 60) = w0 at HN hb0 HT1 hz0 ⊢
  have HZ := Lib.hid hz0
  clear hz0
  refine (k1.out _ HT1.out).mono ?_
  rintro e w1 ⟨rfl, hb1⟩
  go_wp2_with fail
  refine (x2.out _).mono ?_
  rintro e w2 ⟨rfl, hb2⟩
  go_wp2_with fail
  refine (x1.out _).mono ?_
  rintro e w3 ⟨rfl, hb3⟩
  have hb4 := Lib.hid (hb1.trans ((hb2.trans (hb3.mono hb2.size)).mono hb1.size))
  have HH : w3.heap[w.heap.size]? = some (.cells #[.string { data := #[] }, .string { data := #[] }] 60 (0, 0)) := by rw [hb4.out.block _ (by have := HZ.out; omega)]; exact HN
  have c0 : w3.cell? ⟨w.heap.size, 0, none⟩ = some (.string { data := #[] }) := by simp [World.cell?, HH]
  have c1 : w3.cell? ⟨w.heap.size, 1, none⟩ = some (.string { data := #[] }) := by simp [World.cell?, HH]
  have f0 : ∀ j, w3.frozen? ⟨w.heap.size, j, none⟩ = false := fun j => by simp [World.frozen?, HH]
  have hbw := Lib.hid (hb0.trans (hb4.out.mono hb0.size))
  clear hb0 hb1 hb2 hb3 HN HH
  go_wp2_with fail
  refine bodyPost_ret (v := .agg #[.string (xorB K 54), .string (xorB K 92)]) ?_ rfl ⟨rfl, (hbw.out.setCell (Nat.le_refl _) _).setCell (Nat.le_refl _) _⟩
  simp [results, Tryd.results33, go_sem, c0, c1]

set_option maxRecDepth 100000 in
set_option maxHeartbeats 1000000 in
theorem tag_any (a b t : ByteArray) (w : World) (hT : Tabs w) (ha : a.size ≤ 64) (hb : b.size ≤ 64) (ht : t.size ≤ 2000000) :
    Calls Tryd.prog 34 #[.agg #[.string a, .string b], .string t] w fun e w' => e = .returned (.string (digB (b ++ digB (a ++ t)))) ∧ Below w.heap.size w w' := by
  have k1 := Lib.hid fun w hT => hashDigest_any a t w hT (by omega) (by omega)
  have hds : (digB (a ++ t)).size = 32 := digB_size _
  generalize digB (a ++ t) = d at k1 hds
  have k2 := Lib.hid fun w hT => hashDigest_any b d w hT (by omega) (by omega)
  generalize digB (b ++ d) = d2 at k2
  have HT := Lib.hid hT
  clear hT hds ha hb ht
  go_enter Tryd.func34, Tryd.ntmps34
  go_wp2_with fail
  have HN := heap_alloc_new w (.cells #[.string a, .string b] 60)
  have hb0 : Below w.heap.size w (w.alloc (.cells #[.string a, .string b] 60)) := (Below.refl w.heap.size w).alloc (Nat.le_refl _) _
  have hz0 : (w.alloc (.cells #[.string a, .string b] 60)).heap.size = w.heap.size + 1 := by simp
  have HT1 := Lib.hid (Tabs.below HT.out hb0)
  generalize w.alloc (.cells #[.string a, .string b] 60) = w0 at HN hb0 HT1 hz0 ⊢
  have HZ := Lib.hid hz0
  have HB0 := Lib.hid hb0
  have c0 : w0.cell? ⟨w.heap.size, 0, none⟩ = some (.string a) := by simp [World.cell?, HN]
  have c1 : w0.cell? ⟨w.heap.size, 1, none⟩ = some (.string b) := by simp [World.cell?, HN]
  have HD0 : Below w0.heap.size w0 w0.drew := (Below.refl _ w0).drew
  have HT2 := Lib.hid (HT1.out.below HD0)
  have HB2 := Lib.hid (HB0.out.trans (HD0.mono HB0.out.size))
  have d0 : w0.drew.cell? ⟨w.heap.size, 0, none⟩ = some (.string a) := c0
  have d1 : w0.drew.cell? ⟨w.heap.size, 1, none⟩ = some (.string b) := c1
  clear hz0 hb0 HN HD0
  go_region_held3 (fun w' => w'.cell? ⟨w.heap.size, 0, none⟩ = some (.string a) ∧ w'.cell? ⟨w.heap.size, 1, none⟩ = some (.string b))
    (first
      | go_keep
      | (refine ⟨?_, ?_⟩
         · (rw [hb2.out.cell (p := ⟨w.heap.size, 0, none⟩) (by have := HZ.out; show w.heap.size < w0.heap.size; omega)]; exact d0)
         · (rw [hb2.out.cell (p := ⟨w.heap.size, 1, none⟩) (by have := HZ.out; show w.heap.size < w0.heap.size; omega)]; exact d1))
      | (refine ⟨?_, ?_⟩
         · (rw [hb1.out.cell (p := ⟨w.heap.size, 0, none⟩) (by have := HZ.out; show w.heap.size < w0.heap.size; omega)]; exact d0)
         · (rw [hb1.out.cell (p := ⟨w.heap.size, 1, none⟩) (by have := HZ.out; show w.heap.size < w0.heap.size; omega)]; exact d1)))
    (first
      | (go_at_call 48; (with_reducible refine (k1.out _ HT2.out).mono ?_); rintro e w1 ⟨rfl, hb⟩; have hb1 := Lib.hid hb; clear hb)
      | (go_at_call 48; (with_reducible refine (k2.out _ (HT2.out.below hb1.out)).mono ?_); rintro e w2 ⟨rfl, hb⟩; have hb2 := Lib.hid (hb1.out.trans (hb.mono hb1.out.size)); clear hb))
  go_wp2
  go_ret
  exact ⟨rfl, HB2.out.trans (hb2.out.mono HB2.out.size)⟩

set_option maxRecDepth 100000 in
set_option maxHeartbeats 1000000 in
theorem implHmac_any (key text : ByteArray) (w : World) (hT : Tabs w) (hk : key.size ≤ 2000000) (ht : text.size ≤ 2000000) :
    Calls Tryd.prog 15 #[.string key, .string text] w fun e w' => e = .returned (.string (hmacB key text)) ∧ Below w.heap.size w w' := by
  have k1 := Lib.hid fun w hT => newKeyed_any key w hT hk
  have hx1 : (xorB (keyB key) 54).size ≤ 64 := by rw [xorB_size, keyB_size]; omega
  have hx2 : (xorB (keyB key) 92).size ≤ 64 := by rw [xorB_size, keyB_size]; omega
  have HE : Hid (hmacB key text = digB (xorB (keyB key) 92 ++ digB (xorB (keyB key) 54 ++ text))) := Lib.hid rfl
  generalize xorB (keyB key) 54 = A at k1 hx1 HE
  generalize xorB (keyB key) 92 = B at k1 hx2 HE
  have k2 := Lib.hid fun w hT => tag_any A B text w hT hx1 hx2 ht
  have HT := Lib.hid hT
  clear hT hx1 hx2 hk ht
  go_enter Tryd.func15, Tryd.ntmps15
  go_wp2_with fail
  refine (k1.out _ HT.out).mono ?_
  rintro e w1 ⟨rfl, hb1⟩
  go_wp2_with fail
  refine (k2.out _ (HT.out.below hb1)).mono ?_
  rintro e w2 ⟨rfl, hb2⟩
  go_wp2
  go_ret
  exact ⟨by rw [HE.out]; rfl, hb1.trans (hb2.mono hb1.size)⟩

theorem implMark_any (k t : ByteArray) (n : Int) (w : World) (hT : Tabs w) (hk : k.size ≤ 2000000) (ht : t.size ≤ 2000000) :
    Calls Tryd.prog 16 #[.string k, .string t, .int .i64 n] w fun e w' => e = .returned (.string (markB k t n)) ∧ Below w.heap.size w w' := by
  have k1 := Lib.hid fun w hT => implHmac_any k t w hT hk ht
  have hds := hmacB_size k t
  have HT := Lib.hid hT
  clear hk ht hT
  by_cases hn : 1 ≤ n ∧ n ≤ 32
  · have HE : Hid (markB k t n = (hmacB k t).extract 0 n.toNat) := Lib.hid (if_pos hn)
    have hi := hn.1
    have hj := hn.2
    clear hn
    go_enter Tryd.func16, Tryd.ntmps16
    go_wp2_with (first
      | (go_at_call 15; refine (k1.out _ HT.out).mono ?_; rintro e w1 ⟨rfl, hb1⟩))
    go_ret
    exact ⟨by rw [HE.out]; rfl, hb1⟩
  · have HE : Hid (markB k t n = ⟨#[]⟩) := Lib.hid (if_neg hn)
    by_cases h1 : n < 1
    · clear hn
      go_enter Tryd.func16, Tryd.ntmps16
      go_wp2
      go_ret
      exact ⟨by rw [HE.out]; rfl, Below.refl _ _⟩
    · have h2 : 32 < n := by omega
      have h1' : 1 ≤ n := by omega
      clear hn h1
      go_enter Tryd.func16, Tryd.ntmps16
      go_wp2
      go_ret
      exact ⟨by rw [HE.out]; rfl, Below.refl _ _⟩

end Go.Proofs.YtbojcphcjggccaaDoor
