/- Merged texts: MarkFn, DerParts, Made, NumImpl, NumImplB, XorImpl, DerImpl, DerLaw, DecMath. -/
import Derived.Test.YtpjcdppeieakhaaDoorP8D
import Derived.Test.YtpjcdppeieakhaaDoorShelfR
import Derived.StillTailTactics
import Derived.Test.YtpjcdppeieakhaaDoorShelfJ
import Derived.Laws.MakeOwn
import Derived.Lib.AppendStr
import Derived.WalkKit
import Derived.WalkSpells
import Derived.WalkLawsBesides
import Derived.Deep.RegionLaw
import Derived.Lib.Hide
import Derived.Lib.ItoaNum
import Derived.Lib.LaidTab
import Derived.WalkSmall
import Derived.Sort.Grow
namespace Go.Proofs.YtpjcdppeieakhaaDoor
open Go.RowKit Go.Proofs.YtpjcdppeieakhaaDoor.Sha Go.Proofs.YtpjcdppeieakhaaDoor.Hexa Go.Proofs.YtpjcdppeieakhaaDoor.Parts Go.Proofs.YtpjcdppeieakhaaDoor.Byt Go.Proofs.YtpjcdppeieakhaaDoor.BitsM

theorem repeat0 (n : Nat) (w : World) (hn : n ≤ 8000000) :
    Calls Tryd.prog 91 #[.string { data := #[0] }, .int .i64 n] w fun e w' => e = .returned (.string (longB n 0)) ∧ Below w.heap.size w w' := by
  refine (Tryd.strings_Repeat { data := #[0] } n w (by omega) (by show 1 * n ≤ _; omega)).mono ?_
  rintro e w' ⟨rfl, hb⟩
  refine ⟨?_, hb⟩
  have h := Lib.repeatL_replicate 0 1 n
  have : (({ data := #[0] } : ByteArray)).data.toList = List.replicate 1 0 := rfl
  rw [this, h, Nat.mul_one]; rfl

set_option maxRecDepth 100000 in
set_option maxHeartbeats 1000000 in
theorem implKey_any (s : ByteArray) (w : World) (hT : Tabs w) (hs : s.size ≤ 2000000) :
    Calls Tryd.prog 81 #[.string s] w fun e w' => e = .returned (.string (keyB s)) ∧ Below w.heap.size w w' := by
  have k1 := Lib.hid fun w hT => implDigest_any s w (by omega) (And.left (b := IsTab w 1 keyL) hT) (And.right hT)
  have KL := Lib.hid (fun (n : Nat) (w : World) (h : n ≤ 64) => repeat0 n w (by omega))
  have HT := Lib.hid hT
  clear hT
  by_cases h : 64 < s.size
  · have hd : (digB s).size = 32 := rfl
    have HE : Hid (keyB s = digB s ++ longB 32 0) := Lib.hid (by unfold keyB keyBase; rw [if_pos h]; rfl)
    clear hs
    go_enter Tryd.func81, Tryd.ntmps81
    go_wp2_with (first
      | (go_at_call 41; refine (k1.out _ HT.out).mono ?_; rintro e w1 ⟨rfl, hb1⟩)
      | (go_at_call 91; refine (KL.out 32 _ (by omega)).mono ?_; rintro e w2 ⟨rfl, hb2⟩))
    go_ret
    exact ⟨by rw [HE.out]; rfl, hb1.trans (hb2.mono hb1.size)⟩
  · have HE : Hid (keyB s = s ++ longB (64 - s.size) 0) := Lib.hid (by unfold keyB keyBase; rw [if_neg h])
    have h64 : ((64 - s.size : Nat) : Int) = 64 - (s.size : Int) := by omega
    have KL2 := fun w => KL.out (64 - s.size) w (by omega)
    rw [h64] at KL2
    have KL3 := Lib.hid KL2
    have hsz : s.size + (longB (64 - s.size) 0).size ≤ 64 := by rw [longB_size]; omega
    clear hs KL2 KL
    go_enter Tryd.func81, Tryd.ntmps81
    go_wp2_with (first
      | (go_at_call 91; refine (KL3.out _).mono ?_; rintro e w2 ⟨rfl, hb2⟩))
    go_ret
    exact ⟨by rw [HE.out]; rfl, hb2⟩

set_option maxRecDepth 100000 in
set_option maxHeartbeats 1000000 in
theorem hashDigest_any (a t : ByteArray) (w : World) (hT : Tabs w) (ha : a.size ≤ 4000000) (ht : t.size ≤ 4000000) :
    Calls Tryd.prog 83 #[.agg #[.string a], .string t] w fun e w' => e = .returned (.string (digB (a ++ t))) ∧ Below w.heap.size w w' := by
  have k1 := Lib.hid fun w hT => implDigest_any (a ++ t) w (by rw [ByteArray.size_append]; omega) (And.left (b := IsTab w 1 keyL) hT) (And.right hT)
  have HT := Lib.hid (Tabs.below hT ((Below.refl w.heap.size w).alloc (Nat.le_refl _) (.cells #[.string a] 78)))
  have hsz : a.size + t.size ≤ 8000000 := by omega
  clear hT ha ht
  go_enter Tryd.func83, Tryd.ntmps83
  go_wp2_with (first
    | (go_at_call 41; refine (k1.out _ HT.out).mono ?_; rintro e w1 ⟨rfl, hb1⟩))
  go_ret
  exact ⟨rfl, ((Below.refl _ _).alloc (Nat.le_refl _) _).trans (hb1.mono (by simp))⟩

set_option maxRecDepth 100000 in
set_option maxHeartbeats 1000000 in
theorem newKeyed_any (key : ByteArray) (w : World) (hT : Tabs w) (hk : key.size ≤ 2000000) :
    Calls Tryd.prog 69 #[.string key] w fun e w' => e = .returned (.agg #[.string (xorB (keyB key) 54), .string (xorB (keyB key) 92)]) ∧ Below w.heap.size w w' := by
  have k1 := Lib.hid fun w hT => implKey_any key w hT hk
  have hks := keyB_size key
  generalize hK : keyB key = K at k1 hks
  have x1 := Lib.hid fun w => masked_any K 92 w (by omega)
  have x2 := Lib.hid fun w => masked_any K 54 w (by omega)
  have HT := Lib.hid hT
  clear hT hK hks hk
  go_enter Tryd.func69, Tryd.ntmps69
  go_wp2_with fail
  have HN := heap_alloc_new w (.cells #[.string { data := #[] }, .string { data := #[] }] 80)
  have hb0 : Below w.heap.size w (w.alloc (.cells #[.string { data := #[] }, .string { data := #[] }] 80)) := (Below.refl w.heap.size w).alloc (Nat.le_refl _) _
  have hz0 : (w.alloc (.cells #[.string { data := #[] }, .string { data := #[] }] 80)).heap.size = w.heap.size + 1 := by simp
  have HT1 := Lib.hid (Tabs.below HT.out hb0)
  generalize w.alloc (.cells #[.string { data := #[] }, .string { data := #[] }] 80) = w0 at HN hb0 HT1 hz0 ⊢
  have HZ := Lib.hid hz0
  clear hz0
  refine (k1.out _ HT1.out).mono ?_
  rintro e w1 ⟨rfl, hb1⟩
  go_wp2_with fail
  refine (x2.out _).mono ?_
  rintro e w2 ⟨rfl, hb2⟩
  go_wp2_with fail
  refine (x1.out _).mono ?_
  rintro e w3 ⟨rfl, hb3⟩
  have hb4 := Lib.hid (hb1.trans ((hb2.trans (hb3.mono hb2.size)).mono hb1.size))
  have HH : w3.heap[w.heap.size]? = some (.cells #[.string { data := #[] }, .string { data := #[] }] 80 (0, 0)) := by rw [hb4.out.block _ (by have := HZ.out; omega)]; exact HN
  have c0 : w3.cell? ⟨w.heap.size, 0, none⟩ = some (.string { data := #[] }) := by simp [World.cell?, HH]
  have c1 : w3.cell? ⟨w.heap.size, 1, none⟩ = some (.string { data := #[] }) := by simp [World.cell?, HH]
  have f0 : ∀ j, w3.frozen? ⟨w.heap.size, j, none⟩ = false := fun j => by simp [World.frozen?, HH]
  have hbw := Lib.hid (hb0.trans (hb4.out.mono hb0.size))
  clear hb0 hb1 hb2 hb3 HN HH
  go_wp2_with fail
  refine bodyPost_ret (v := .agg #[.string (xorB K 54), .string (xorB K 92)]) ?_ rfl ⟨rfl, (hbw.out.setCell (Nat.le_refl _) _).setCell (Nat.le_refl _) _⟩
  simp [results, Tryd.results69, go_sem, c0, c1]

set_option maxRecDepth 100000 in
set_option maxHeartbeats 1000000 in
theorem tag_any (a b t : ByteArray) (w : World) (hT : Tabs w) (ha : a.size ≤ 64) (hb : b.size ≤ 64) (ht : t.size ≤ 2000000) :
    Calls Tryd.prog 70 #[.agg #[.string a, .string b], .string t] w fun e w' => e = .returned (.string (digB (b ++ digB (a ++ t)))) ∧ Below w.heap.size w w' := by
  have k1 := Lib.hid fun w hT => hashDigest_any a t w hT (by omega) (by omega)
  have hds : (digB (a ++ t)).size = 32 := digB_size _
  generalize digB (a ++ t) = d at k1 hds
  have k2 := Lib.hid fun w hT => hashDigest_any b d w hT (by omega) (by omega)
  generalize digB (b ++ d) = d2 at k2
  have HT := Lib.hid hT
  clear hT hds ha hb ht
  go_enter Tryd.func70, Tryd.ntmps70
  go_wp2_with fail
  have HN := heap_alloc_new w (.cells #[.string a, .string b] 80)
  have hb0 : Below w.heap.size w (w.alloc (.cells #[.string a, .string b] 80)) := (Below.refl w.heap.size w).alloc (Nat.le_refl _) _
  have hz0 : (w.alloc (.cells #[.string a, .string b] 80)).heap.size = w.heap.size + 1 := by simp
  have HT1 := Lib.hid (Tabs.below HT.out hb0)
  generalize w.alloc (.cells #[.string a, .string b] 80) = w0 at HN hb0 HT1 hz0 ⊢
  have HZ := Lib.hid hz0
  have HB0 := Lib.hid hb0
  have c0 : w0.cell? ⟨w.heap.size, 0, none⟩ = some (.string a) := by simp [World.cell?, HN]
  have c1 : w0.cell? ⟨w.heap.size, 1, none⟩ = some (.string b) := by simp [World.cell?, HN]
  have HD0 : Below w0.heap.size w0 w0.drew := (Below.refl _ w0).drew
  have HT2 := Lib.hid (HT1.out.below HD0)
  have HB2 := Lib.hid (HB0.out.trans (HD0.mono HB0.out.size))
  have d0 : w0.drew.cell? ⟨w.heap.size, 0, none⟩ = some (.string a) := c0
  have d1 : w0.drew.cell? ⟨w.heap.size, 1, none⟩ = some (.string b) := c1
  clear hz0 hb0 HN HD0
  go_region_held3 (fun w' => w'.cell? ⟨w.heap.size, 0, none⟩ = some (.string a) ∧ w'.cell? ⟨w.heap.size, 1, none⟩ = some (.string b))
    (first
      | go_keep
      | (refine ⟨?_, ?_⟩
         · (rw [hb2.out.cell (p := ⟨w.heap.size, 0, none⟩) (by have := HZ.out; show w.heap.size < w0.heap.size; omega)]; exact d0)
         · (rw [hb2.out.cell (p := ⟨w.heap.size, 1, none⟩) (by have := HZ.out; show w.heap.size < w0.heap.size; omega)]; exact d1))
      | (refine ⟨?_, ?_⟩
         · (rw [hb1.out.cell (p := ⟨w.heap.size, 0, none⟩) (by have := HZ.out; show w.heap.size < w0.heap.size; omega)]; exact d0)
         · (rw [hb1.out.cell (p := ⟨w.heap.size, 1, none⟩) (by have := HZ.out; show w.heap.size < w0.heap.size; omega)]; exact d1)))
    (first
      | (go_at_call 83; (with_reducible refine (k1.out _ HT2.out).mono ?_); rintro e w1 ⟨rfl, hb⟩; have hb1 := Lib.hid hb; clear hb)
      | (go_at_call 83; (with_reducible refine (k2.out _ (HT2.out.below hb1.out)).mono ?_); rintro e w2 ⟨rfl, hb⟩; have hb2 := Lib.hid (hb1.out.trans (hb.mono hb1.out.size)); clear hb))
  go_wp2
  go_ret
  exact ⟨rfl, HB2.out.trans (hb2.out.mono HB2.out.size)⟩

set_option maxRecDepth 100000 in
set_option maxHeartbeats 1000000 in
theorem implHmac_any (key text : ByteArray) (w : World) (hT : Tabs w) (hk : key.size ≤ 2000000) (ht : text.size ≤ 2000000) :
    Calls Tryd.prog 56 #[.string key, .string text] w fun e w' => e = .returned (.string (hmacB key text)) ∧ Below w.heap.size w w' := by
  have k1 := Lib.hid fun w hT => newKeyed_any key w hT hk
  have hx1 : (xorB (keyB key) 54).size ≤ 64 := by rw [xorB_size, keyB_size]; omega
  have hx2 : (xorB (keyB key) 92).size ≤ 64 := by rw [xorB_size, keyB_size]; omega
  have HE : Hid (hmacB key text = digB (xorB (keyB key) 92 ++ digB (xorB (keyB key) 54 ++ text))) := Lib.hid rfl
  generalize xorB (keyB key) 54 = A at k1 hx1 HE
  generalize xorB (keyB key) 92 = B at k1 hx2 HE
  have k2 := Lib.hid fun w hT => tag_any A B text w hT hx1 hx2 ht
  have HT := Lib.hid hT
  clear hT hx1 hx2 hk ht
  go_enter Tryd.func56, Tryd.ntmps56
  go_wp2_with fail
  refine (k1.out _ HT.out).mono ?_
  rintro e w1 ⟨rfl, hb1⟩
  go_wp2_with fail
  refine (k2.out _ (HT.out.below hb1)).mono ?_
  rintro e w2 ⟨rfl, hb2⟩
  go_wp2
  go_ret
  exact ⟨by rw [HE.out]; rfl, hb1.trans (hb2.mono hb1.size)⟩

theorem implMark_any (k t : ByteArray) (n : Int) (w : World) (hT : Tabs w) (hk : k.size ≤ 2000000) (ht : t.size ≤ 2000000) :
    Calls Tryd.prog 44 #[.string k, .string t, .int .i64 n] w fun e w' => e = .returned (.string (markB k t n)) ∧ Below w.heap.size w w' := by
  have k1 := Lib.hid fun w hT => implHmac_any k t w hT hk ht
  have hds := hmacB_size k t
  have HT := Lib.hid hT
  clear hk ht hT
  by_cases hn : 1 ≤ n ∧ n ≤ 32
  · have HE : Hid (markB k t n = (hmacB k t).extract 0 n.toNat) := Lib.hid (if_pos hn)
    have hi := hn.1
    have hj := hn.2
    clear hn
    go_enter Tryd.func44, Tryd.ntmps44
    go_wp2_with (first
      | (go_at_call 56; refine (k1.out _ HT.out).mono ?_; rintro e w1 ⟨rfl, hb1⟩))
    go_ret
    exact ⟨by rw [HE.out]; rfl, hb1⟩
  · have HE : Hid (markB k t n = ⟨#[]⟩) := Lib.hid (if_neg hn)
    by_cases h1 : n < 1
    · clear hn
      go_enter Tryd.func44, Tryd.ntmps44
      go_wp2
      go_ret
      exact ⟨by rw [HE.out]; rfl, Below.refl _ _⟩
    · have h2 : 32 < n := by omega
      have h1' : 1 ≤ n := by omega
      clear hn h1
      go_enter Tryd.func44, Tryd.ntmps44
      go_wp2
      go_ret
      exact ⟨by rw [HE.out]; rfl, Below.refl _ _⟩

end Go.Proofs.YtpjcdppeieakhaaDoor
namespace Go.Proofs.YtpjcdppeieakhaaDoor
open Go.RowKit Go.Proofs.YtpjcdppeieakhaaDoor.Sha Go.Proofs.YtpjcdppeieakhaaDoor.Hexa Go.Proofs.YtpjcdppeieakhaaDoor.Byt

/-- The parts behind one another. -/
def joinedB (xs : List ByteArray) : ByteArray := ⟨(Lib.join (xs.map (·.data.toList)) []).toArray⟩

set_option maxRecDepth 100000 in
set_option maxHeartbeats 1000000 in
theorem parts_yes (k : ByteArray) (n : Int) (q m : Nat) (xs : List ByteArray) (w : World) (hT : Tabs w) (hk : k.size ≤ 2000000) (hl : xs.length = m) (hm : m ≤ 10) (hcell : ∀ j x, xs[j]? = some x → w.cell? ⟨q, j, none⟩ = some (.string x)) (hq : q < w.heap.size) (hj : (joinedB xs).size ≤ 1000)
    (hx : ∀ x ∈ xs, 0 < x.size) :
    Calls Tryd.prog 33 #[.string k, .int .i64 n, .slice (some ⟨q, 0, none⟩) m m] w fun e w' => e = .returned (.string (markB k (joinedB xs) n)) ∧ Below w.heap.size w w' := by
  have h1 := has_any q m m xs w hl (by omega) hcell
  have h2 : ∀ m', Calls Tryd.prog 45 #[.slice (some ⟨q, 0, none⟩) m m, .string ⟨#[]⟩] (w.drewN m') fun e w' => e = .returned (.string (joinedB xs)) ∧ Below w.heap.size w w' := fun m' => by
    subst hl
    refine (Tryd.strings_Join q 0 xs.length xs ⟨#[]⟩ (w.drewN m') (fun j x hx => by rw [Nat.zero_add, World.cell?_drewN]; exact hcell j x hx) hq (by omega) (Nat.le_refl _) (by
      have : (Lib.join (xs.map (·.data.toList)) []).length = (joinedB xs).size := by show _ = (Lib.join (xs.map (·.data.toList)) []).toArray.size; simp
      show (Lib.join (xs.map (·.data.toList)) []).length ≤ _
      omega)).mono ?_
    rintro e w' ⟨rfl, hb⟩
    exact ⟨rfl, (below_drewN w m').trans hb⟩
  have h3 : ∀ w', Below w.heap.size w w' → Calls Tryd.prog 44 #[.string k, .string (joinedB xs), .int .i64 n] w' fun e w'' => e = .returned (.string (markB k (joinedB xs) n)) ∧ Below w.heap.size w w'' := fun w' hb =>
    (implMark_any k (joinedB xs) n w' (hT.below hb) hk (by omega)).mono fun e w'' ⟨he, hb2⟩ => ⟨he, hb.trans (hb2.mono hb.size)⟩
  generalize markB k (joinedB xs) n = r at h3 ⊢
  generalize joinedB xs = t at h2 h3
  have k1 := Lib.hid h1
  have k2 := Lib.hid h2
  have k3 := Lib.hid h3
  have HX := Lib.hid hx
  clear h1 h2 h3 hT hk hl hm hcell hq hj hx
  go_enter Tryd.func33, Tryd.ntmps33
  go_wp2_with fail
  refine k1.out.mono ?_
  rintro e w1 ⟨⟨rfl, _⟩ | ⟨_, x, hx, hz⟩, m1, rfl⟩
  · go_wp2_with fail
    refine (k2.out _).mono ?_
    rintro e w2 ⟨rfl, hb2⟩
    have HB2 := Lib.hid hb2
    clear hb2
    go_wp2_with fail
    refine (k3.out _ HB2.out).mono ?_
    rintro e w3 ⟨rfl, hb3⟩
    go_wp2
    go_ret
    exact ⟨rfl, hb3⟩
  · exact absurd (HX.out x hx) (by omega)

set_option maxRecDepth 100000 in
set_option maxHeartbeats 1000000 in
theorem parts_no (k : ByteArray) (n : Int) (q m : Nat) (xs : List ByteArray) (w : World) (hl : xs.length = m) (hm : m ≤ 10) (hcell : ∀ j x, xs[j]? = some x → w.cell? ⟨q, j, none⟩ = some (.string x))
    (hx : ∃ x ∈ xs, x.size = 0) :
    Calls Tryd.prog 33 #[.string k, .int .i64 n, .slice (some ⟨q, 0, none⟩) m m] w fun e w' => e = .returned (.string ⟨#[]⟩) ∧ Below w.heap.size w w' := by
  have k1 := Lib.hid (has_any q m m xs w hl (by omega) hcell)
  have HX := Lib.hid hx
  clear hl hm hcell hx
  go_enter Tryd.func33, Tryd.ntmps33
  go_wp2_with fail
  refine k1.out.mono ?_
  rintro e w1 ⟨⟨_, h⟩ | ⟨rfl, _⟩, m1, rfl⟩
  · obtain ⟨x, hx, hz⟩ := HX.out
    exact absurd (h x hx) (by omega)
  · go_wp2
    go_ret
    exact ⟨rfl, below_drewN _ _⟩
end Go.Proofs.YtpjcdppeieakhaaDoor
namespace Go.Proofs.YtpjcdppeieakhaaDoor
open Go.RowKit Go.Lib Go.Proofs.YtpjcdppeieakhaaDoor.Hexa Go.Proofs.YtpjcdppeieakhaaDoor.Byt

theorem made_zero (n : Nat) : (madeCells (Value.int .u8 0).cells (n * 1)).toList = bcells (List.replicate n 0) := by
  apply List.ext_getElem?
  intro j
  have hcl : (Value.int .u8 0).cells = #[Value.int .u8 0] := rfl
  by_cases hj : j < n
  · simp [madeCells, hj, hcl, Nat.mod_one, bcells]
  · rw [List.getElem?_eq_none (by simp [madeCells]; omega), List.getElem?_eq_none (by simp [bcells]; omega)]

/-- The bytes A, and zeros up to n. -/
def partB (A : List UInt8) (n : Nat) : List UInt8 := A ++ List.replicate (n - A.length) 0
theorem partB_length (A : List UInt8) (n : Nat) (h : A.length ≤ n) : (partB A n).length = n := by simp [partB]; omega
theorem partB_nil (n : Nat) : partB [] n = List.replicate n 0 := by simp [partB]
theorem partB_full (A : List UInt8) (n : Nat) (h : A.length = n) : partB A n = A := by simp [partB, h]
theorem partB_set (A : List UInt8) (n : Nat) (x : UInt8) (h : A.length < n) : (partB A n).set A.length x = partB (A ++ [x]) n := by
  obtain ⟨m, hm⟩ : ∃ m, n - A.length = m + 1 := ⟨n - A.length - 1, by omega⟩
  have h2 : n - (A ++ [x]).length = m := by simp; omega
  unfold partB
  rw [h2, hm, List.replicate_succ, List.set_append_right _ _ (Nat.le_refl _), Nat.sub_self, List.set_cons_zero, List.append_assoc]
  rfl
theorem part_start {w : World} {B e g n : Nat} (h : w.ownsRow B e 1 (.slice (some ⟨g, 0, none⟩) n n) n (madeCells (Value.int .u8 0).cells (n * 1)).toList) :
    Bytes w B e (.slice (some ⟨g, 0, none⟩) n n) (partB [] n) := by
  rw [made_zero] at h
  rw [partB_nil]
  refine bytes_of_own ?_
  rw [List.length_replicate]
  exact h
/-- The next byte written. -/
theorem part_next {w : World} {B e g n : Nat} {A : List UInt8} (h : Bytes w B e (.slice (some ⟨g, 0, none⟩) n n) (partB A n)) (x : UInt8) (hl : A.length < n) :
    Bytes (w.setCell ⟨g, A.length, none⟩ (.int .u8 x.toNat)) B e (.slice (some ⟨g, 0, none⟩) n n) (partB (A ++ [x]) n) := by
  have hp := partB_length A n (by omega)
  have h' : Bytes w B e (.slice (some ⟨g, 0, none⟩) (partB A n).length n) (partB A n) := by rw [hp]; exact h
  have hs := bytes_set h' A.length x
  rw [partB_set A n x hl, hp] at hs
  exact hs
theorem part_at {w : World} {B e g n : Nat} {A : List UInt8} (h : Bytes w B e (.slice (some ⟨g, 0, none⟩) n n) (partB A n)) (hl : A.length < n) :
    (∃ v, w.cell? ⟨g, A.length, none⟩ = some v) ∧ w.frozen? ⟨g, A.length, none⟩ = false ∧ B ≤ g := by
  have hp := partB_length A n (by omega)
  have h' : Bytes w B e (.slice (some ⟨g, 0, none⟩) (partB A n).length n) (partB A n) := by rw [hp]; exact h
  obtain ⟨h1, h2, h3⟩ := bytes_at h' A.length (by omega)
  exact ⟨⟨_, h1⟩, h2, h3⟩

/-- 'copy(b, s)'. -/
theorem bytes_copy {P : Program} {t e u ty : TypeId} {i : TypeInfo} (ht : P.underlying t = some (.slice e)) (hi : P.info? e = some i) (hs1 : i.size = 1)
    {w : World} {B g c n : Nat} {l : List UInt8} (hn : l.length = n) (h : Bytes w B e (.slice (some ⟨g, 0, none⟩) n c) l) (s : ByteArray) (hs : s.size ≤ n) :
    ∃ w', (Builtin.copy_ #[t, u] ty #[.slice (some ⟨g, 0, none⟩) n c, .string s]).run P w = .ok (goInt s.size) w' ∧ Bytes w' B e (.slice (some ⟨g, 0, none⟩) n c) (s.data.toList ++ l.drop s.size) ∧ Below B w w' := by
  subst hn
  have hsl : s.data.toList.length = s.size := by simp
  rcases h with ⟨h, _⟩ | ⟨g', cap, cur, fz, hv, hb, hg, hfz, hlc, hm, hcs, htk⟩
  · cases h
  · simp at hv
    obtain ⟨rfl, rfl⟩ := hv
    have hst := Byt.run_store P g 0 e fz (strCells s) 0 cur w hg hfz (by rw [strCells_length]; omega) (strCells_oneCell s)
    have hf := run_firstCells_string (P := P) w 1 s
    have hln : (s.data.toList ++ l.drop s.size).length = l.length := by rw [List.length_append, List.length_drop, hsl]; omega
    simp only [Nat.add_zero, Nat.zero_add, strCells_length] at hst
    refine ⟨w.setRow g (List.take 0 cur.toList ++ strCells s ++ List.drop s.size cur.toList).toArray, ?_, .inr ⟨g, c, (List.take 0 cur.toList ++ strCells s ++ List.drop s.size cur.toList).toArray, fz, by rw [hln], hb, setRow_heap w g cur _ e fz hg, ?_, by rw [hln]; exact hlc, hm, ?_, ?_⟩, Byt.below_setRow w hb _⟩
    · simp [Builtin.copy_, run_underlying ht, Builtin.lenOf, sizeOf, typeInfo, hi, hs1, Nat.min_eq_left hs, hf, hst]
    · have hz : (List.take 0 cur.toList ++ strCells s ++ List.drop s.size cur.toList).toArray.size = cur.size := by simp [strCells_length]; omega
      rw [hz]; exact hfz
    · simp [strCells_length]; omega
    · rw [hln]
      have e1 : strCells s = bcells s.data.toList := rfl
      simp only [List.take_zero, List.nil_append, e1, bcells_append]
      have e2 : l.length = (bcells s.data.toList).length + (l.length - s.size) := by rw [bcells_length, hsl]; omega
      have e3 : bcells (l.drop s.size) = (bcells l).drop s.size := by simp [bcells]
      rw [e2, List.take_length_add_append, e3, ← htk, List.drop_take]

theorem wpList_copy_text {P : Program} {w : World} {ops : Array Oper} {rest : List Oper} {o : Oper} {a : Act} {Q : Exit → Act → World → Prop} (hgd : o.guard = none) (d s : Operand) (dT sT : TypeId)
    (ho : o.op = .call { callee := .builtin .copy, args := #[d, s], argTypes := #[dT, sT] }) (v0 v1 r : Value) (w' : World) (hd : a.eval d = v0) (hs : a.eval s = v1)
    (hrun : (Builtin.copy_ #[dT, sT] o.type #[v0, v1]).run P w = .ok r w') (h : wpList P ops Q rest (a.put o.dst r) w') : wpList P ops Q (o :: rest) a w := by
  refine wpList_plain hgd fun K hK => ?_
  unfold Oper.wp
  simp [execOp, ho, resolve, invoke, builtin, hd, hs, hrun, Result.andThen]
  exact hK _ _ h
end Go.Proofs.YtpjcdppeieakhaaDoor
namespace Go.Proofs.YtpjcdppeieakhaaDoor
open Go.RowKit Go.Proofs.YtpjcdppeieakhaaDoor.Hexa Go.Proofs.YtpjcdppeieakhaaDoor.Byt Go.Proofs.YtpjcdppeieakhaaDoor.BitsM

set_option maxRecDepth 100000 in
set_option maxHeartbeats 1000000 in
theorem implNum_yes (m k : Nat) (w : World) (hk : 1 ≤ k) (hk' : k ≤ 7) (hm : m < 256 ^ k) :
    Calls Tryd.prog 34 #[.int .i64 m, .int .i64 k] w fun e w' => e = .returned (.string (numB m k)) ∧ Below w.heap.size w w' := by
  obtain ⟨i0, hi, hz0, hz1, hz2⟩ := info_parts infoByte
  have hmb : m < 72057594037927936 := Nat.lt_of_lt_of_le hm (Nat.le_trans (Nat.pow_le_pow_right (by omega) hk') (by decide))
  have hq := shift_zero hm
  have h0 : ¬ ((m : Int) < 0) := by omega
  have hsh0 : (8 * (k : Int)).toNat = 8 * k := by omega
  clear hm
  go_enter Tryd.func34, Tryd.ntmps34
  go_wp2_with (at_make; refine wpList_make_full _ rfl _ _ 22 rfl w.heap.size 5 i0 (.int .u8 0) 1 Tryd.underlying22 hi hz0 hz1 .i64 .i64 _ _ k rfl rfl rfl rfl (by rw [hz2]; omega) (by unfold maxLen; omega) (Nat.le_refl _) ?_; intro w0 hown0 hgrow0)
  have hg0 : Below w.heap.size w w0 := (Below.refl _ _).grown hgrow0 (Nat.le_refl _) (fun k h => by cases h)
  have HO0 := Lib.hid (part_start hown0)
  clear hown0 hgrow0 hq hsh0
  go_loopw [6, 28] (fun jv iv wr => ∃ j : Nat, j ≤ k ∧ iv = .int .i64 j ∧ Hid (Bytes wr w.heap.size 5 (.slice (some ⟨w.heap.size, 0, none⟩) k k) (partB (numL m k j) k)) ∧ Below w.heap.size w wr)
    (fun _ iv _ => k - (intOf iv).toNat)
  case atStart => exact ⟨0, Nat.zero_le _, rfl, HO0, hg0⟩
  case round =>
    clear HO0 hg0
    obtain ⟨j, hj, rfl, HW, hbel⟩ := hrel
    have hl := numL_length m k j
    by_cases hlt : j < k
    · have hsh : (8 * ((k : Int) - 1 - j)).toNat = 8 * (k - 1 - j) := by omega
      have hge : 0 ≤ (k : Int) - 1 - j := by omega
      have hby := num_byte m (k - 1 - j)
      have HNX := Lib.hid (numL_next m k j)
      obtain ⟨⟨v, c3⟩, z3, hB⟩ := part_at HW.out (by omega)
      have N3 := Lib.hid (part_next HW.out (UInt8.ofNat (m / 256 ^ (k - 1 - j))) (by omega))
      rw [hl] at c3 z3 N3
      rw [HNX.out] at N3
      generalize UInt8.ofNat (m / 256 ^ (k - 1 - j)) = z at hby N3
      have hb1 : Below w.heap.size w (wr.setCell ⟨w.heap.size, j, none⟩ (.int .u8 (z.toNat : Int))) := hbel.setCell (Nat.le_refl _) _
      clear HNX
      go_wp2
      go_roundw
      case rel => exact ⟨j + 1, by omega, by go_num, N3, hb1⟩
      case measure => (simp [intOf]; try omega)
    · obtain rfl : j = k := by omega
      have h9 := HW.out
      rw [partB_full _ _ hl] at h9
      have hconv := bytes_string (P := Tryd.prog) 22 9 Tryd.underlying22 Tryd.underlying5 Tryd.underlying9 h9
      clear h9
      go_wp2
      go_ret
      exact ⟨rfl, hbel⟩
end Go.Proofs.YtpjcdppeieakhaaDoor
namespace Go.Proofs.YtpjcdppeieakhaaDoor
open Go.RowKit Go.Proofs.YtpjcdppeieakhaaDoor.Hexa Go.Proofs.YtpjcdppeieakhaaDoor.Byt Go.Proofs.YtpjcdppeieakhaaDoor.BitsM

set_option maxRecDepth 100000 in
set_option maxHeartbeats 1000000 in
theorem implNum_no (n width : Int) (w : World) (h : ¬ NumFits n width) (hn : n ≤ 9223372036854775807) :
    Calls Tryd.prog 34 #[.int .i64 n, .int .i64 width] w fun e w' => e = .returned (.string ⟨#[]⟩) ∧ w' = w := by
  by_cases h0 : n < 0
  · go_enter Tryd.func34, Tryd.ntmps34
    go_wp2
    go_ret
    exact ⟨rfl, rfl⟩
  · by_cases hr1 : width < 1
    · go_enter Tryd.func34, Tryd.ntmps34
      go_wp2
      go_ret
      exact ⟨rfl, rfl⟩
    · by_cases hr2 : 7 < width
      · go_enter Tryd.func34, Tryd.ntmps34
        go_wp2
        go_ret
        exact ⟨rfl, rfl⟩
      · have hbig : ¬ n < 256 ^ width.toNat := fun hlt => h ⟨by omega, ⟨by omega, by omega⟩, hlt⟩
        obtain ⟨k, rfl⟩ : ∃ k : Nat, width = k := ⟨width.toNat, by omega⟩
        obtain ⟨m, rfl⟩ : ∃ m : Nat, n = m := ⟨n.toNat, by omega⟩
        have hm : 256 ^ k ≤ m := by
          have e : ((k : Int).toNat) = k := by omega
          rw [e] at hbig
          have e2 : (256 : Int) ^ k = ((256 ^ k : Nat) : Int) := by simp
          rw [e2] at hbig
          omega
        have hq0 := shift_pos hm
        have hq : ¬ ((m : Int) / 2 ^ (8 * k) = 0) := by omega
        have hsh0 : (8 * (k : Int)).toNat = 8 * k := by omega
        clear h hbig hm hq0
        go_enter Tryd.func34, Tryd.ntmps34
        go_wp2
        go_ret
        exact ⟨rfl, rfl⟩

theorem implNum_any (n width : Int) (w : World) (hn : n ≤ 9223372036854775807) :
    Calls Tryd.prog 34 #[.int .i64 n, .int .i64 width] w fun e w' => e = .returned (.string (numTextB n width)) ∧ Below w.heap.size w w' := by
  by_cases h : NumFits n width
  · have hE : numTextB n width = numB n.toNat width.toNat := by unfold numTextB; exact if_pos h
    obtain ⟨h0, ⟨h1, h7⟩, hf⟩ := h
    obtain ⟨m, rfl⟩ : ∃ m : Nat, n = m := ⟨n.toNat, by omega⟩
    obtain ⟨k, rfl⟩ : ∃ k : Nat, width = k := ⟨width.toNat, by omega⟩
    rw [hE]
    simp only [Int.toNat_natCast] at hf ⊢
    have e2 : (256 : Int) ^ k = ((256 ^ k : Nat) : Int) := by simp
    rw [e2] at hf
    exact implNum_yes m k w (by omega) (by omega) (by omega)
  · have hE : numTextB n width = ⟨#[]⟩ := by unfold numTextB; exact if_neg h
    rw [hE]
    exact (implNum_no n width w h hn).mono fun e w' ⟨he, hw⟩ => ⟨he, by rw [hw]; exact Below.refl _ _⟩
end Go.Proofs.YtpjcdppeieakhaaDoor
namespace Go.Proofs.YtpjcdppeieakhaaDoor
open Go.RowKit Go.Lib Go.Proofs.YtpjcdppeieakhaaDoor.Hexa Go.Proofs.YtpjcdppeieakhaaDoor.Byt Go.Proofs.YtpjcdppeieakhaaDoor.BitsM

theorem xorL_snoc (a b : ByteArray) (k : Nat) (ha : k < a.size) (hb : k < b.size) : xorL a b k ++ [(a[k]'ha) ^^^ (b[k]'hb)] = xorL a b (k + 1) := by
  have h1 : k < a.data.toList.length := by simpa using ha
  have h2 : k < b.data.toList.length := by simpa using hb
  have e : (List.zipWith (· ^^^ ·) a.data.toList b.data.toList)[k]'(by rw [List.length_zipWith]; omega) = (a[k]'ha) ^^^ (b[k]'hb) := by rw [List.getElem_zipWith]; rfl
  unfold xorL
  rw [List.take_succ_eq_append_getElem (by rw [List.length_zipWith]; omega), e]

set_option maxRecDepth 100000 in
set_option maxHeartbeats 1000000 in
theorem implXor_any (a b : ByteArray) (w : World) (ha : a.size ≤ 8000000) :
    Calls Tryd.prog 31 #[.string a, .string b] w fun e w' => e = .returned (.string (xorT a b)) ∧ Below w.heap.size w w' := by
  by_cases hl : a.size = b.size
  · obtain ⟨i0, hi, hz0, hz1, hz2⟩ := info_parts infoByte
    have HE : Hid (xorT a b = ⟨(xorL a b a.size).toArray⟩) := Lib.hid (if_pos hl)
    have HL := Lib.hid hl
    obtain ⟨n, hn⟩ : ∃ n, a.size = n := ⟨_, rfl⟩
    have hm : b.size = n := by omega
    rw [hn] at HE
    clear hl
    go_enter Tryd.func31, Tryd.ntmps31
    go_wp2_with (at_make; refine wpList_make_full _ rfl _ _ 22 rfl w.heap.size 5 i0 (.int .u8 0) 1 Tryd.underlying22 hi hz0 hz1 .i64 .i64 _ _ n rfl rfl rfl rfl (by rw [hz2]; omega) (by unfold maxLen; omega) (Nat.le_refl _) ?_; intro w0 hown0 hgrow0)
    have hg0 : Below w.heap.size w w0 := (Below.refl _ _).grown hgrow0 (Nat.le_refl _) (fun k h => by cases h)
    have HO0 := Lib.hid (part_start hown0)
    clear hown0 hgrow0
    go_loopw [6, 17] (fun jv iv wr => ∃ k : Nat, k ≤ n ∧ iv = .int .i64 k ∧ Hid (Bytes wr w.heap.size 5 (.slice (some ⟨w.heap.size, 0, none⟩) n n) (partB (xorL a b k) n)) ∧ Below w.heap.size w wr)
      (fun _ iv _ => n - (RowKit.intOf iv).toNat)
    case atStart => exact ⟨0, Nat.zero_le _, rfl, HO0, hg0⟩
    case round =>
      clear HO0 hg0
      obtain ⟨k, hk, rfl, HW, hbel⟩ := hrel
      have hxl := xorL_length a b HL.out k (by omega)
      by_cases hlt : k < n
      · have hlt1 : k < a.size := by omega
        have hlt' : k < b.size := by omega
        have e1 := xor8 (a[k]'hlt1) (b[k]'hlt')
        have HNX := Lib.hid (xorL_snoc a b k hlt1 hlt')
        obtain ⟨⟨v, c3⟩, z3, hB⟩ := part_at HW.out (by omega)
        have N3 := Lib.hid (part_next HW.out ((a[k]'hlt1) ^^^ (b[k]'hlt')) (by omega))
        rw [hxl] at c3 z3 N3
        rw [HNX.out] at N3
        generalize ((a[k]'hlt1) ^^^ (b[k]'hlt')) = z at e1 N3
        have hb1 : Below w.heap.size w (wr.setCell ⟨w.heap.size, k, none⟩ (.int .u8 (z.toNat : Int))) := hbel.setCell (Nat.le_refl _) _
        clear HNX
        go_wp2
        go_region
        go_wp2
        go_roundw
        case rel => exact ⟨k + 1, by omega, by go_num, N3, hb1.drew⟩
        case measure => (simp [RowKit.intOf]; try omega)
      · obtain rfl : k = n := by omega
        have h9 := HW.out
        rw [partB_full _ _ hxl] at h9
        have hconv := bytes_string (P := Tryd.prog) 22 9 Tryd.underlying22 Tryd.underlying5 Tryd.underlying9 h9
        clear h9
        go_wp2
        go_ret
        exact ⟨by rw [HE.out]; rfl, hbel⟩
  · have HE : Hid (xorT a b = ⟨#[]⟩) := Lib.hid (if_neg hl)
    go_enter Tryd.func31, Tryd.ntmps31
    go_wp2
    go_ret
    exact ⟨by rw [HE.out]; rfl, Below.refl _ _⟩
end Go.Proofs.YtpjcdppeieakhaaDoor
namespace Go.Proofs.YtpjcdppeieakhaaDoor
open Go.RowKit Go.Proofs.YtpjcdppeieakhaaDoor.Sha Go.Proofs.YtpjcdppeieakhaaDoor.Hexa Go.Proofs.YtpjcdppeieakhaaDoor.Byt

theorem joined_three (a b c : ByteArray) : joinedB [a, b, c] = a ++ b ++ c := by
  unfold joinedB
  apply ByteArray.ext
  simp [Lib.join, ByteArray.data_append]
theorem joined_one (a : ByteArray) : joinedB [a] = a := by
  unfold joinedB
  apply ByteArray.ext
  simp [Lib.join]
theorem cells_three {w : World} {t : TypeId} (a b c : ByteArray) (j : Nat) (x : ByteArray) (h : [a, b, c][j]? = some x) : (w.alloc (.cells #[.string a, .string b, .string c] t)).cell? ⟨w.heap.size, j, none⟩ = some (.string x) := by
  have hn := heap_alloc_new w (.cells #[.string a, .string b, .string c] t)
  rcases j with _ | _ | _ | j
  all_goals simp at h
  all_goals subst h
  all_goals (simp only [World.cell?, hn]; rfl)
theorem cells_one {w : World} {t : TypeId} (a : ByteArray) (j : Nat) (x : ByteArray) (h : [a][j]? = some x) : (w.alloc (.cells #[.string a] t)).cell? ⟨w.heap.size, j, none⟩ = some (.string x) := by
  have hn := heap_alloc_new w (.cells #[.string a] t)
  rcases j with _ | j
  all_goals simp at h
  all_goals subst h
  all_goals (simp only [World.cell?, hn]; rfl)

/-- The mark of a word and two texts, one of which may have no bytes. -/
theorem parts_three (s wd x y : ByteArray) (w : World) (t : TypeId) (hT : Tabs w) (hs : s.size ≤ 2000000) (h0 : 0 < wd.size) (hw : wd.size ≤ 8) (hx : x.size = 0 ∨ x.size = 1) (hy : y.size = 0 ∨ y.size = 2) :
    Calls Tryd.prog 33 #[.string s, .int .i64 8, .slice (some ⟨w.heap.size, 0, none⟩) 3 3] (w.alloc (.cells #[.string wd, .string x, .string y] t)) fun e w' => e = .returned (.string (if x.size = 1 ∧ y.size = 2 then markB s (wd ++ x ++ y) 8 else ⟨#[]⟩)) ∧ Below w.heap.size w w' := by
  have hb0 : Below w.heap.size w (w.alloc (.cells #[.string wd, .string x, .string y] t)) := (Below.refl _ _).alloc (Nat.le_refl _) _
  by_cases h : x.size = 1 ∧ y.size = 2
  · rw [if_pos h, ← joined_three]
    refine (parts_yes s 8 w.heap.size 3 [wd, x, y] _ (hT.below hb0) hs rfl (by omega) (cells_three wd x y) (by simp) (by rw [joined_three, ByteArray.size_append, ByteArray.size_append]; omega) (by
      intro z hz
      simp at hz
      rcases hz with rfl | rfl | rfl <;> omega)).mono ?_
    rintro e w' ⟨rfl, hb⟩
    exact ⟨rfl, hb0.trans (hb.mono hb0.size)⟩
  · rw [if_neg h]
    refine (parts_no s 8 w.heap.size 3 [wd, x, y] _ rfl (by omega) (cells_three wd x y) (by
      by_cases h1 : x.size = 1
      · exact ⟨y, by simp, by omega⟩
      · exact ⟨x, by simp, by omega⟩)).mono ?_
    rintro e w' ⟨rfl, hb⟩
    exact ⟨rfl, hb0.trans (hb.mono hb0.size)⟩
theorem parts_single (s wd : ByteArray) (w : World) (t : TypeId) (hT : Tabs w) (hs : s.size ≤ 2000000) (h0 : 0 < wd.size) (hw : wd.size ≤ 8) :
    Calls Tryd.prog 33 #[.string s, .int .i64 16, .slice (some ⟨w.heap.size, 0, none⟩) 1 1] (w.alloc (.cells #[.string wd] t)) fun e w' => e = .returned (.string (markB s wd 16)) ∧ Below w.heap.size w w' := by
  have hb0 : Below w.heap.size w (w.alloc (.cells #[.string wd] t)) := (Below.refl _ _).alloc (Nat.le_refl _) _
  have e := joined_one wd
  refine (parts_yes s 16 w.heap.size 1 [wd] _ (hT.below hb0) hs rfl (by omega) (cells_one wd) (by simp) (by rw [e]; omega) (by
      intro z hz
      simp at hz
      subst hz; exact h0)).mono ?_
  rintro e w' ⟨rfl, hb⟩
  exact ⟨by rw [joined_one], hb0.trans (hb.mono hb0.size)⟩

set_option maxRecDepth 100000 in
set_option maxHeartbeats 1000000 in
theorem implFileKey_any (s : ByteArray) (i g : Int) (w : World) (hT : Tabs w) (hs : s.size ≤ 1100000) (hi : i ≤ 9223372036854775807) (hg : g ≤ 9223372036854775807) :
    Calls Tryd.prog 16 #[.string s, .int .i64 i, .int .i64 g] w fun e w' => e = .returned (.string (fileKeyB s i g)) ∧ Below w.heap.size w w' := by
  have h1 := fun w => implNum_any i 1 w hi
  have h2 := fun w => implNum_any g 2 w hg
  have hx : (numTextB i 1).size = 0 ∨ (numTextB i 1).size = 1 := numTextB_size i 1
  have hy : (numTextB g 2).size = 0 ∨ (numTextB g 2).size = 2 := numTextB_size g 2
  have hE : fileKeyB s i g = if (numTextB i 1).size = 1 ∧ (numTextB g 2).size = 2 then markB s (keyWord ++ numTextB i 1 ++ numTextB g 2) 8 else ⟨#[]⟩ := rfl
  rw [hE]
  clear hE
  generalize numTextB i 1 = x at h1 hx ⊢
  generalize numTextB g 2 = y at h2 hy ⊢
  have h3 := fun (w : World) (t : TypeId) (hT : Tabs w) => parts_three s keyWord x y w t hT (by omega) (by show 0 < 3; omega) (by show 3 ≤ 8; omega) hx hy
  generalize (if x.size = 1 ∧ y.size = 2 then markB s (keyWord ++ x ++ y) 8 else ⟨#[]⟩) = r at h3 ⊢
  unfold keyWord at h3
  have k1 := Lib.hid h1
  have k2 := Lib.hid h2
  have k3 := Lib.hid h3
  have HT := Lib.hid hT
  clear h1 h2 h3 hT hi hg hs hx hy
  go_enter Tryd.func16, Tryd.ntmps16
  go_wp2_with fail
  refine (k1.out _).mono ?_
  rintro e w1 ⟨rfl, hb1⟩
  go_wp2_with fail
  refine (k2.out _).mono ?_
  rintro e w2 ⟨rfl, hb2⟩
  have HB := Lib.hid (hb1.trans (hb2.mono hb1.size))
  clear hb1 hb2
  go_wp2_with fail
  refine (k3.out _ _ (HT.out.below HB.out)).mono ?_
  rintro e w3 ⟨rfl, hb3⟩
  go_wp2
  go_ret
  exact ⟨rfl, HB.out.trans (hb3.mono HB.out.size)⟩

set_option maxRecDepth 100000 in
set_option maxHeartbeats 1000000 in
theorem implWrapMask_any (s : ByteArray) (i g : Int) (w : World) (hT : Tabs w) (hs : s.size ≤ 1100000) (hi : i ≤ 9223372036854775807) (hg : g ≤ 9223372036854775807) :
    Calls Tryd.prog 20 #[.string s, .int .i64 i, .int .i64 g] w fun e w' => e = .returned (.string (wrapMaskB s i g)) ∧ Below w.heap.size w w' := by
  have h1 := fun w => implNum_any i 1 w hi
  have h2 := fun w => implNum_any g 2 w hg
  have hx : (numTextB i 1).size = 0 ∨ (numTextB i 1).size = 1 := numTextB_size i 1
  have hy : (numTextB g 2).size = 0 ∨ (numTextB g 2).size = 2 := numTextB_size g 2
  have hE : wrapMaskB s i g = if (numTextB i 1).size = 1 ∧ (numTextB g 2).size = 2 then markB s (wrapWord ++ numTextB i 1 ++ numTextB g 2) 8 else ⟨#[]⟩ := rfl
  rw [hE]
  clear hE
  generalize numTextB i 1 = x at h1 hx ⊢
  generalize numTextB g 2 = y at h2 hy ⊢
  have h3 := fun (w : World) (t : TypeId) (hT : Tabs w) => parts_three s wrapWord x y w t hT (by omega) (by show 0 < 4; omega) (by show 4 ≤ 8; omega) hx hy
  generalize (if x.size = 1 ∧ y.size = 2 then markB s (wrapWord ++ x ++ y) 8 else ⟨#[]⟩) = r at h3 ⊢
  unfold wrapWord at h3
  have k1 := Lib.hid h1
  have k2 := Lib.hid h2
  have k3 := Lib.hid h3
  have HT := Lib.hid hT
  clear h1 h2 h3 hT hi hg hs hx hy
  go_enter Tryd.func20, Tryd.ntmps20
  go_wp2_with fail
  refine (k1.out _).mono ?_
  rintro e w1 ⟨rfl, hb1⟩
  go_wp2_with fail
  refine (k2.out _).mono ?_
  rintro e w2 ⟨rfl, hb2⟩
  have HB := Lib.hid (hb1.trans (hb2.mono hb1.size))
  clear hb1 hb2
  go_wp2_with fail
  refine (k3.out _ _ (HT.out.below HB.out)).mono ?_
  rintro e w3 ⟨rfl, hb3⟩
  go_wp2
  go_ret
  exact ⟨rfl, HB.out.trans (hb3.mono HB.out.size)⟩

set_option maxRecDepth 100000 in
set_option maxHeartbeats 1000000 in
theorem implPageKey_any (k : ByteArray) (w : World) (hT : Tabs w) (hk : k.size ≤ 2000000) :
    Calls Tryd.prog 18 #[.string k] w fun e w' => e = .returned (.string (markB k pageWord 16)) ∧ Below w.heap.size w w' := by
  have h3 := fun (w : World) (t : TypeId) (hT : Tabs w) => parts_single k pageWord w t hT hk (by show 0 < 4; omega) (by show 4 ≤ 8; omega)
  generalize markB k pageWord 16 = r at h3 ⊢
  unfold pageWord at h3
  have k3 := Lib.hid h3
  have HT := Lib.hid hT
  clear h3 hT hk
  go_enter Tryd.func18, Tryd.ntmps18
  go_wp2_with fail
  refine (k3.out _ _ HT.out).mono ?_
  rintro e w3 ⟨rfl, hb3⟩
  go_wp2
  go_ret
  exact ⟨rfl, hb3⟩

set_option maxRecDepth 100000 in
set_option maxHeartbeats 1000000 in
theorem implMarkKey_any (k : ByteArray) (w : World) (hT : Tabs w) (hk : k.size ≤ 2000000) :
    Calls Tryd.prog 19 #[.string k] w fun e w' => e = .returned (.string (markB k markWord 16)) ∧ Below w.heap.size w w' := by
  have h3 := fun (w : World) (t : TypeId) (hT : Tabs w) => parts_single k markWord w t hT hk (by show 0 < 4; omega) (by show 4 ≤ 8; omega)
  generalize markB k markWord 16 = r at h3 ⊢
  unfold markWord at h3
  have k3 := Lib.hid h3
  have HT := Lib.hid hT
  clear h3 hT hk
  go_enter Tryd.func19, Tryd.ntmps19
  go_wp2_with fail
  refine (k3.out _ _ HT.out).mono ?_
  rintro e w3 ⟨rfl, hb3⟩
  go_wp2
  go_ret
  exact ⟨rfl, hb3⟩

set_option maxRecDepth 100000 in
set_option maxHeartbeats 1000000 in
theorem implWrapped_any (s : ByteArray) (i g : Int) (w : World) (hT : Tabs w) (hs : s.size ≤ 1100000) (hi : i ≤ 9223372036854775807) (hg : g ≤ 9223372036854775807) :
    Calls Tryd.prog 14 #[.string s, .int .i64 i, .int .i64 g] w fun e w' => e = .returned (.string (wrappedB s i g)) ∧ Below w.heap.size w w' := by
  have k1 := Lib.hid fun w hT => implFileKey_any s i g w hT hs hi hg
  have k2 := Lib.hid fun w hT => implWrapMask_any s i g w hT hs hi hg
  have hz : (fileKeyB s i g).size ≤ 32 := madeB_le _ _ _ _
  unfold wrappedB
  generalize fileKeyB s i g = x at k1 hz ⊢
  generalize wrapMaskB s i g = y at k2 ⊢
  have k3 := Lib.hid fun w => implXor_any x y w (by omega)
  have HT := Lib.hid hT
  clear hs hi hg hz hT
  go_enter Tryd.func14, Tryd.ntmps14
  go_wp2_with fail
  refine (k1.out _ HT.out).mono ?_
  rintro e w1 ⟨rfl, hb1⟩
  go_wp2_with fail
  refine (k2.out _ (HT.out.below hb1)).mono ?_
  rintro e w2 ⟨rfl, hb2⟩
  go_wp2_with fail
  refine (k3.out _).mono ?_
  rintro e w3 ⟨rfl, hb3⟩
  go_wp2
  go_ret
  exact ⟨rfl, hb1.trans ((hb2.trans (hb3.mono hb2.size)).mono hb1.size)⟩

set_option maxRecDepth 100000 in
set_option maxHeartbeats 1000000 in
theorem implUnwrapped_any (s : ByteArray) (i g : Int) (t : ByteArray) (w : World) (hT : Tabs w) (hs : s.size ≤ 1100000) (hi : i ≤ 9223372036854775807) (hg : g ≤ 9223372036854775807) (ht : t.size ≤ 2000000) :
    Calls Tryd.prog 15 #[.string s, .int .i64 i, .int .i64 g, .string t] w fun e w' => e = .returned (.tuple #[.string (unwT s i g t), .bool (unwB s i g t)]) ∧ Below w.heap.size w w' := by
  have k1 := Lib.hid fun w hT => implFileKey_any s i g w hT hs hi hg
  have k2 := Lib.hid fun w hT => implWrapMask_any s i g w hT hs hi hg
  have hB : unwB s i g t = decide (0 < (xorT t (wrapMaskB s i g)).size ∧ xorT t (wrapMaskB s i g) = fileKeyB s i g) := rfl
  have hU : unwT s i g t = if unwB s i g t = true then xorT t (wrapMaskB s i g) else ⟨#[]⟩ := rfl
  generalize unwB s i g t = b at hB hU ⊢
  generalize unwT s i g t = u at hU ⊢
  generalize fileKeyB s i g = x at k1 hB
  generalize wrapMaskB s i g = y at k2 hB hU
  have k3 := Lib.hid fun w => implXor_any t y w (by omega)
  have hzs : (xorT t y).size ≤ 2000000 := by
    unfold xorT
    split
    · have e := xorL_length t y (by assumption) t.size (Nat.le_refl _)
      show (xorL t y t.size).toArray.size ≤ _
      simpa [e] using ht
    · show 0 ≤ _; omega
  generalize xorT t y = z at k3 hB hU hzs
  have k4 := Lib.hid fun w => implSame_any z x w (by omega)
  have HT := Lib.hid hT
  clear hs hi hg ht hT hzs
  have HB := Lib.hid hB
  have HU := Lib.hid hU
  clear hB hU
  go_enter Tryd.func15, Tryd.ntmps15
  go_wp2_with fail
  refine (k2.out _ HT.out).mono ?_
  rintro e w1 ⟨rfl, hb1⟩
  go_wp2_with fail
  refine (k3.out _).mono ?_
  rintro e w2 ⟨rfl, hb2⟩
  have HB2 := Lib.hid (hb1.trans (hb2.mono hb1.size))
  clear hb1 hb2
  rcases Nat.eq_zero_or_pos z.size with hz | hz
  · obtain rfl := text_nil z hz
    have hb : b = false := by rw [HB.out]; exact decide_eq_false (fun h => Nat.lt_irrefl 0 h.1)
    subst hb
    have hu : u = ⟨#[]⟩ := by rw [HU.out]; exact if_neg (by simp)
    subst hu
    go_wp2
    go_ret2
    exact ⟨rfl, HB2.out⟩
  · have ez := text_not z hz
    go_wp2_with fail
    refine (k1.out _ (HT.out.below HB2.out)).mono ?_
    rintro e w3 ⟨rfl, hb3⟩
    have HB3 := Lib.hid (HB2.out.trans (hb3.mono HB2.out.size))
    clear hb3
    go_wp2_with fail
    refine (k4.out _).mono ?_
    rintro e w4 ⟨rfl, m4, rfl⟩
    have HB4 : Hid (Below w.heap.size w (w3.drewN m4)) := Lib.hid (HB3.out.trans (below_drewN w3 m4))
    by_cases hzx : z = x
    · have hb : b = true := by rw [HB.out]; exact decide_eq_true ⟨hz, hzx⟩
      subst hb
      have hu : u = z := by rw [HU.out]; exact if_pos rfl
      subst hu
      subst hzx
      clear HB HU
      go_wp2
      go_ret2
      exact ⟨rfl, HB4.out⟩
    · have hb : b = false := by rw [HB.out]; exact decide_eq_false (fun h => hzx h.2)
      subst hb
      have hu : u = ⟨#[]⟩ := by rw [HU.out]; exact if_neg (by simp)
      subst hu
      have hd : decide (z = x) = false := decide_eq_false hzx
      clear HB HU
      go_wp2
      go_ret2
      exact ⟨rfl, HB4.out⟩
end Go.Proofs.YtpjcdppeieakhaaDoor
namespace Go.Proofs.YtpjcdppeieakhaaDoor
open Go.RowKit Go.Proofs.YtpjcdppeieakhaaDoor.Sha Go.Proofs.YtpjcdppeieakhaaDoor.Hexa Go.Proofs.YtpjcdppeieakhaaDoor.Byt

set_option maxRecDepth 100000 in
set_option maxHeartbeats 1000000 in
theorem fileKey_law (s : ByteArray) (i g : Int) (w : World) (hT : Tabs w) (hi : i ≤ 9223372036854775807) (hg : g ≤ 9223372036854775807) :
    Calls Tryd.prog 5 #[.string s, .int .i64 i, .int .i64 g] w fun e w' => e = .returned (.bool true) ∧ Below w.heap.size w w' := by
  by_cases h : s.size ≤ 1048576
  · have k1 := Lib.hid fun w => specFileKey_any s i g w (by omega) hi hg
    have k2 := Lib.hid fun w hT => implFileKey_any s i g w hT (by omega) hi hg
    have HT := Lib.hid hT
    generalize fileKeyB s i g = r at k1 k2
    clear hT hi hg
    go_enter Tryd.func5, Tryd.ntmps5
    go_wp2_with fail
    refine (k1.out _).mono ?_
    rintro e w1 ⟨rfl, hb1⟩
    go_wp2_with fail
    refine (k2.out _ (HT.out.below hb1)).mono ?_
    rintro e w2 ⟨rfl, hb2⟩
    go_wp2
    go_ret
    exact ⟨rfl, hb1.trans (hb2.mono hb1.size)⟩
  · have hn : 1048576 < s.size := by omega
    go_enter Tryd.func5, Tryd.ntmps5
    go_wp2
    go_ret
    exact ⟨rfl, Below.refl _ _⟩

set_option maxRecDepth 100000 in
set_option maxHeartbeats 1000000 in
theorem wrapMask_law (s : ByteArray) (i g : Int) (w : World) (hT : Tabs w) (hi : i ≤ 9223372036854775807) (hg : g ≤ 9223372036854775807) :
    Calls Tryd.prog 6 #[.string s, .int .i64 i, .int .i64 g] w fun e w' => e = .returned (.bool true) ∧ Below w.heap.size w w' := by
  by_cases h : s.size ≤ 1048576
  · have k1 := Lib.hid fun w => specWrapMask_any s i g w (by omega) hi hg
    have k2 := Lib.hid fun w hT => implWrapMask_any s i g w hT (by omega) hi hg
    have HT := Lib.hid hT
    generalize wrapMaskB s i g = r at k1 k2
    clear hT hi hg
    go_enter Tryd.func6, Tryd.ntmps6
    go_wp2_with fail
    refine (k1.out _).mono ?_
    rintro e w1 ⟨rfl, hb1⟩
    go_wp2_with fail
    refine (k2.out _ (HT.out.below hb1)).mono ?_
    rintro e w2 ⟨rfl, hb2⟩
    go_wp2
    go_ret
    exact ⟨rfl, hb1.trans (hb2.mono hb1.size)⟩
  · have hn : 1048576 < s.size := by omega
    go_enter Tryd.func6, Tryd.ntmps6
    go_wp2
    go_ret
    exact ⟨rfl, Below.refl _ _⟩

set_option maxRecDepth 100000 in
set_option maxHeartbeats 1000000 in
theorem wrapped_law (s : ByteArray) (i g : Int) (w : World) (hT : Tabs w) (hi : i ≤ 9223372036854775807) (hg : g ≤ 9223372036854775807) :
    Calls Tryd.prog 7 #[.string s, .int .i64 i, .int .i64 g] w fun e w' => e = .returned (.bool true) ∧ Below w.heap.size w w' := by
  by_cases h : s.size ≤ 1048576
  · have k1 := Lib.hid fun w => specWrapped_any s i g w (by omega) hi hg
    have k2 := Lib.hid fun w hT => implWrapped_any s i g w hT (by omega) hi hg
    have HT := Lib.hid hT
    generalize wrappedB s i g = r at k1 k2
    clear hT hi hg
    go_enter Tryd.func7, Tryd.ntmps7
    go_wp2_with fail
    refine (k1.out _).mono ?_
    rintro e w1 ⟨rfl, hb1⟩
    go_wp2_with fail
    refine (k2.out _ (HT.out.below hb1)).mono ?_
    rintro e w2 ⟨rfl, hb2⟩
    go_wp2
    go_ret
    exact ⟨rfl, hb1.trans (hb2.mono hb1.size)⟩
  · have hn : 1048576 < s.size := by omega
    go_enter Tryd.func7, Tryd.ntmps7
    go_wp2
    go_ret
    exact ⟨rfl, Below.refl _ _⟩

set_option maxRecDepth 100000 in
set_option maxHeartbeats 1000000 in
theorem unwrapped_law (s : ByteArray) (i g : Int) (t : ByteArray) (w : World) (hT : Tabs w) (hi : i ≤ 9223372036854775807) (hg : g ≤ 9223372036854775807) :
    Calls Tryd.prog 8 #[.string s, .int .i64 i, .int .i64 g, .string t] w fun e w' => e = .returned (.bool true) ∧ Below w.heap.size w w' := by
  by_cases h : s.size ≤ 1048576
  · by_cases ht : t.size ≤ 1048576
    · have k1 := Lib.hid fun w => specUnwrapped_any s i g t w (by omega) hi hg (by omega)
      have k2 := Lib.hid fun w hT => implUnwrapped_any s i g t w hT (by omega) hi hg (by omega)
      have HT := Lib.hid hT
      generalize unwT s i g t = r at k1 k2
      generalize unwB s i g t = b at k1 k2
      clear hT hi hg
      go_enter Tryd.func8, Tryd.ntmps8
      go_wp2_with fail
      refine (k1.out _).mono ?_
      rintro e w1 ⟨rfl, hb1⟩
      go_wp2_with fail
      refine (k2.out _ (HT.out.below hb1)).mono ?_
      rintro e w2 ⟨rfl, hb2⟩
      go_wp2
      go_ret
      exact ⟨rfl, hb1.trans (hb2.mono hb1.size)⟩
    · have hn : 1048576 < t.size := by omega
      go_enter Tryd.func8, Tryd.ntmps8
      go_wp2
      go_ret
      exact ⟨rfl, Below.refl _ _⟩
  · have hn : 1048576 < s.size := by omega
    go_enter Tryd.func8, Tryd.ntmps8
    go_wp2
    go_ret
    exact ⟨rfl, Below.refl _ _⟩

set_option maxRecDepth 100000 in
set_option maxHeartbeats 1000000 in
theorem pageKey_law (k : ByteArray) (w : World) (hT : Tabs w) :
    Calls Tryd.prog 9 #[.string k] w fun e w' => e = .returned (.bool true) ∧ Below w.heap.size w w' := by
  by_cases h : k.size ≤ 1048576
  · have k1 := Lib.hid fun w => specPageKey_any k w (by omega)
    have k2 := Lib.hid fun w hT => implPageKey_any k w hT (by omega)
    have HT := Lib.hid hT
    generalize markB k pageWord 16 = r at k1 k2
    clear hT
    go_enter Tryd.func9, Tryd.ntmps9
    go_wp2_with fail
    refine (k1.out _).mono ?_
    rintro e w1 ⟨rfl, hb1⟩
    go_wp2_with fail
    refine (k2.out _ (HT.out.below hb1)).mono ?_
    rintro e w2 ⟨rfl, hb2⟩
    go_wp2
    go_ret
    exact ⟨rfl, hb1.trans (hb2.mono hb1.size)⟩
  · have hn : 1048576 < k.size := by omega
    go_enter Tryd.func9, Tryd.ntmps9
    go_wp2
    go_ret
    exact ⟨rfl, Below.refl _ _⟩

set_option maxRecDepth 100000 in
set_option maxHeartbeats 1000000 in
theorem markKey_law (k : ByteArray) (w : World) (hT : Tabs w) :
    Calls Tryd.prog 10 #[.string k] w fun e w' => e = .returned (.bool true) ∧ Below w.heap.size w w' := by
  by_cases h : k.size ≤ 1048576
  · have k1 := Lib.hid fun w => specMarkKey_any k w (by omega)
    have k2 := Lib.hid fun w hT => implMarkKey_any k w hT (by omega)
    have HT := Lib.hid hT
    generalize markB k markWord 16 = r at k1 k2
    clear hT
    go_enter Tryd.func10, Tryd.ntmps10
    go_wp2_with fail
    refine (k1.out _).mono ?_
    rintro e w1 ⟨rfl, hb1⟩
    go_wp2_with fail
    refine (k2.out _ (HT.out.below hb1)).mono ?_
    rintro e w2 ⟨rfl, hb2⟩
    go_wp2
    go_ret
    exact ⟨rfl, hb1.trans (hb2.mono hb1.size)⟩
  · have hn : 1048576 < k.size := by omega
    go_enter Tryd.func10, Tryd.ntmps10
    go_wp2
    go_ret
    exact ⟨rfl, Below.refl _ _⟩
end Go.Proofs.YtpjcdppeieakhaaDoor
namespace Go.Proofs.YtpjcdppeieakhaaDoor.Parts
open Go.RowKit

theorem digs_eq (k : Nat) (h : 0 < k) : digs k = Lib.decDigits k := by
  induction k using Nat.strongRecOn with
  | _ k ih =>
    rw [digs_step k h]
    by_cases h10 : k < 10
    · have e : k / 10 = 0 := by omega
      have e2 : k % 10 = k := by omega
      rw [e, digs_zero, Lib.decDigits, dif_pos h10, e2]; rfl
    · rw [Lib.decDigits, dif_neg h10, ih (k / 10) (by omega) (by omega)]

theorem digs_len2 (k : Nat) : (digs k).length ≤ k / 2 + 1 := by
  induction k using Nat.strongRecOn with
  | _ k ih =>
    by_cases h : k = 0
    · subst h; rw [digs_zero]; simp
    · rw [digs_step k (by omega)]
      by_cases h10 : k < 10
      · have e : k / 10 = 0 := by omega
        rw [e, digs_zero]; simp
      · have := ih (k / 10) (by omega)
        simp; omega
theorem digs_size2 {k j : Nat} {t : ByteArray} (h : digs j ++ t.data.toList = digs k) : t.size ≤ k / 2 + 1 := by
  have := digs_len2 k
  rw [← h, List.length_append] at this
  simp at this; omega

theorem itoa_zero : (⟨(Lib.itoa 0).toArray⟩ : ByteArray) = ⟨#[48]⟩ := by
  unfold Lib.itoa; rw [if_neg (by omega), Lib.decDigits, dif_pos (by decide)]; rfl
theorem itoa_pos {k : Nat} {t : ByteArray} (hk : 0 < k) (h : digs 0 ++ t.data.toList = digs k) : t = ⟨(Lib.itoa (k : Int)).toArray⟩ := by
  rw [digs_zero, List.nil_append, digs_eq k hk] at h
  unfold Lib.itoa
  rw [if_neg (by omega), Int.toNat_natCast, ← h]
theorem itoa_neg {k : Nat} {t : ByteArray} (hk : 0 < k) (h : digs 0 ++ t.data.toList = digs k) : (⟨#[45]⟩ : ByteArray) ++ t = ⟨(Lib.itoa (-(k : Int))).toArray⟩ := by
  rw [digs_zero, List.nil_append, digs_eq k hk] at h
  unfold Lib.itoa
  rw [if_pos (by omega), Int.natAbs_neg, Int.natAbs_natCast, ← h]
  apply ByteArray.ext
  apply Array.toList_inj.1
  rw [data_append]; rfl

theorem nib_digit (j : Nat) : (UInt8.ofNat (48 + j % 10)).toNat = 48 + j % 10 := by rw [UInt8.toNat_ofNat']; omega
theorem fig_digit (j : Nat) : Hexa.figI ((j : Int) % 10) = ((UInt8.ofNat (48 + j % 10)).toNat : Int) := by
  unfold Hexa.figI
  have e : ((j : Int) % 10).toNat = j % 10 := by omega
  rw [e, Hexa.nib_toNat _ (by omega), if_pos (by omega), nib_digit]

theorem neg_tmod (j : Nat) : (-(j : Int)).tmod 10 = -((j : Int) % 10) := by
  rw [Int.neg_tmod, Int.tmod_eq_emod_of_nonneg (by omega)]
theorem neg_tdiv (j : Nat) : (-(j : Int)).tdiv 10 = -((j : Int) / 10) := by
  rw [Int.neg_tdiv, Int.tdiv_eq_ediv_of_nonneg (by omega)]

/-- A table that the program laid reads the same behind whatever writes nothing that was there. -/
theorem tab_below {P : Program} {w w' : World} {name : String} {k : IntKind} {zs : List Int} {g : Nat} (h : Lib.TabIs P w name k zs) (hg : P.globalNamed name = some g) (hb : Below w.heap.size w w') : Lib.TabIs P w' name k zs := by
  unfold Lib.TabIs at h ⊢
  refine var?_below hb hg ?_ h
  rcases Nat.lt_or_ge g w.heap.size with hlt | hge
  · exact hlt
  · unfold World.var? at h
    simp [hg, Array.getElem?_eq_none hge] at h
theorem below_grow (w : World) (k : Nat) (os : Array Obj) : Below w.heap.size w (Sort.grow (w.drewN k) os) :=
  ⟨rfl, rfl, rfl, by show w.heap.size ≤ (w.heap ++ os).size; simp, fun i hi => by show (w.heap ++ os)[i]? = _; rw [Array.getElem?_append_left hi]⟩
end Go.Proofs.YtpjcdppeieakhaaDoor.Parts
