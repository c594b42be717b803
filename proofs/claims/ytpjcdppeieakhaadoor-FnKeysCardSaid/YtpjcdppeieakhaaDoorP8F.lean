/- Merged texts: DecSpec, DecImpl, DecAll, CutFn, SecFn, SecLaw, ShaTab. -/
import Derived.Test.YtpjcdppeieakhaaDoorP8E
import Derived.Test.YtpjcdppeieakhaaDoorRows
import Derived.WalkKit
import Derived.WalkSpells
import Derived.WalkLawsBesides
import Derived.Lib.Hide
import Derived.Test.YtpjcdppeieakhaaDoorShelfI
import Derived.Lib.LaidTab
namespace Go.Proofs.YtpjcdppeieakhaaDoor
open Go.RowKit Go.Proofs.YtpjcdppeieakhaaDoor.Parts Go.Proofs.YtpjcdppeieakhaaDoor.Hexa

set_option maxRecDepth 100000 in
set_option maxHeartbeats 400000 in
theorem figure_dec (x : Int) (w : World) (h0 : 0 ≤ x) (h1 : x < 10) :
    Calls Tryd.prog 49 #[.int .i64 x] w fun e w' => e = .returned (.int .u8 (figI x)) ∧ w = w' := by
  have hn := nib_toNat x.toNat (by omega)
  have e : figI x = 48 + x := by unfold figI; rw [hn, if_pos (by omega)]; omega
  clear hn
  have HE := Lib.hid e
  clear e
  go_enter Tryd.func49, Tryd.ntmps49
  go_wp2
  go_ret
  exact ⟨by rw [HE.out]; rfl, rfl⟩

theorem ret_str {a b : ByteArray} (h : a = b) : Ending.returned (.string a) = .returned (.string b) := by rw [h]

/-- The text of one byte that a call has just laid. -/
theorem one_conv (wr : World) (x : Int) (c : UInt8) (h : x = (c.toNat : Int)) :
    (convert 22 9 (.slice (some ⟨wr.heap.size, 0, none⟩) 1 1)).run Tryd.prog (wr.alloc (.cells #[.int .u8 x] 5)) = .ok (.string ⟨[c].toArray⟩) (wr.alloc (.cells #[.int .u8 x] 5)) := by
  subst h
  exact own_string (P := Tryd.prog) (l := [c]) 22 9 Tryd.underlying22 Tryd.underlying5 Tryd.underlying9 (World.ownsRow_lit (e := 5) (size := 1) (base := 0) wr #[.int .u8 (c.toNat : Int)] 1 (Nat.zero_le _) (by decide) rfl)

set_option maxRecDepth 100000 in
set_option maxHeartbeats 400000 in
theorem specDecimal_zero (w : World) :
    Calls Tryd.prog 37 #[.int .i64 0] w fun e w' => e = .returned (.string ⟨(Lib.itoa 0).toArray⟩) ∧ Below w.heap.size w w' := by
  rw [itoa_zero]
  go_enter Tryd.func37, Tryd.ntmps37
  go_wp2
  go_ret
  exact ⟨rfl, Below.refl _ _⟩

set_option maxRecDepth 100000 in
set_option maxHeartbeats 1000000 in
theorem specDecimal_pos (k : Nat) (w : World) (hk : 0 < k) (hm : k ≤ 9223372036854775807) :
    Calls Tryd.prog 37 #[.int .i64 k] w fun e w' => e = .returned (.string ⟨(Lib.itoa (k : Int)).toArray⟩) ∧ Below w.heap.size w w' := by
  have h0 : ((k : Int) == 0) = false := by simp; omega
  go_enter Tryd.func37, Tryd.ntmps37
  go_wp2
  go_loopw [0, 4] (fun kv sv wr => ∃ (j : Nat) (t : ByteArray), j ≤ k ∧ t.size ≤ k / 2 + 1 ∧ Hid (digs j ++ t.data.toList = digs k) ∧ kv = .int .i64 j ∧ sv = .string t ∧ Below w.heap.size w wr) (fun kv _ _ => (intOf kv).toNat)
  case atStart => exact ⟨k, ⟨#[]⟩, Nat.le_refl _, Nat.zero_le _, Lib.hid (by simp), rfl, rfl, Below.refl _ _⟩
  case round =>
    obtain ⟨j, t, hj, ht, HD, rfl, rfl, hbel⟩ := hrel
    by_cases hlt : 0 < j
    · have hne : ((j : Int) != 0) = true := by simp; omega
      obtain ⟨cs, hcs, hcd, hce⟩ := one_byte (UInt8.ofNat (48 + j % 10))
      have HT := Lib.hid (digs_round hlt HD.out hcd)
      have HS := digs_size2 HT.out
      have HS' : cs.size + t.size ≤ 9223372036854775807 := by omega
      have hconv := one_conv wr (figI ((j : Int) % 10)) _ (fig_digit j)
      rw [← hce] at hconv
      clear hcd hce
      go_wp2_with (go_at_call 49; refine (figure_dec _ _ (by omega) (by omega)).mono ?_; rintro e w' ⟨rfl, rfl⟩)
      go_roundw
      case rel => exact ⟨j / 10, cs ++ t, by omega, HS, HT, by go_num, rfl, hbel.alloc hbel.size _⟩
      case measure => (simp [intOf]; omega)
    · obtain rfl : j = 0 := by omega
      go_wp2
      go_ret
      exact ⟨ret_str (itoa_pos hk HD.out), hbel⟩

set_option maxRecDepth 100000 in
set_option maxHeartbeats 1000000 in
theorem specDecimal_neg (k : Nat) (w : World) (hk : 0 < k) (hm : k ≤ 9223372036854775808) :
    Calls Tryd.prog 37 #[.int .i64 (-(k : Int))] w fun e w' => e = .returned (.string ⟨(Lib.itoa (-(k : Int))).toArray⟩) ∧ Below w.heap.size w w' := by
  have h0 : ((-(k : Int)) == 0) = false := by simp; omega
  have h1 : -(k : Int) < 0 := by omega
  go_enter Tryd.func37, Tryd.ntmps37
  go_wp2
  go_loopw [0, 4] (fun kv sv wr => ∃ (j : Nat) (t : ByteArray), j ≤ k ∧ t.size ≤ k / 2 + 1 ∧ Hid (digs j ++ t.data.toList = digs k) ∧ kv = .int .i64 (-(j : Int)) ∧ sv = .string t ∧ Below w.heap.size w wr) (fun kv _ _ => (-(intOf kv)).toNat)
  case atStart => exact ⟨k, ⟨#[]⟩, Nat.le_refl _, Nat.zero_le _, Lib.hid (by simp), rfl, rfl, Below.refl _ _⟩
  case round =>
    obtain ⟨j, t, hj, ht, HD, rfl, rfl, hbel⟩ := hrel
    by_cases hlt : 0 < j
    · have hne : ((-(j : Int)) != 0) = true := by simp; omega
      obtain ⟨cs, hcs, hcd, hce⟩ := one_byte (UInt8.ofNat (48 + j % 10))
      have HT := Lib.hid (digs_round hlt HD.out hcd)
      have HS := digs_size2 HT.out
      have HS' : cs.size + t.size ≤ 9223372036854775807 := by omega
      have c1 := neg_tmod j
      have c2 := neg_tdiv j
      by_cases hd : 0 < j % 10
      · have hconv := one_conv wr (figI ((j : Int) % 10)) _ (fig_digit j)
        rw [← hce] at hconv
        have hd1 : -((j : Int) % 10) < 0 := by omega
        clear hcd hce hd
        go_wp2_with (go_at_call 49; refine (figure_dec _ _ (by omega) (by omega)).mono ?_; rintro e w' ⟨rfl, rfl⟩)
        go_roundw
        case rel => exact ⟨j / 10, cs ++ t, by omega, HS, HT, by go_num, rfl, hbel.alloc hbel.size _⟩
        case measure => (simp [intOf]; omega)
      · have hconv := one_conv wr (figI (-((j : Int) % 10))) _ (by rw [show -((j : Int) % 10) = (j : Int) % 10 by omega]; exact fig_digit j)
        rw [← hce] at hconv
        have hd1 : 0 ≤ -((j : Int) % 10) := by omega
        clear hcd hce hd
        go_wp2_with (go_at_call 49; refine (figure_dec _ _ (by omega) (by omega)).mono ?_; rintro e w' ⟨rfl, rfl⟩)
        go_roundw
        case rel => exact ⟨j / 10, cs ++ t, by omega, HS, HT, by go_num, rfl, hbel.alloc hbel.size _⟩
        case measure => (simp [intOf]; omega)
    · obtain rfl : j = 0 := by omega
      go_wp2
      go_ret
      exact ⟨ret_str (itoa_neg hk HD.out), hbel⟩
end Go.Proofs.YtpjcdppeieakhaaDoor
namespace Go.Proofs.YtpjcdppeieakhaaDoor
open Go.RowKit Go.Proofs.YtpjcdppeieakhaaDoor.Parts Go.Proofs.YtpjcdppeieakhaaDoor.Hexa

theorem gPow : Tryd.prog.globalNamed "internal/strconv.uint64pow10" = some 2 := by kernel_rfl

def Tab (w : World) : Prop := Lib.TabIs Tryd.prog w "internal/strconv.uint64pow10" .u64 Lib.pow10Tab
theorem Tab.below {w w' : World} (h : Tab w) (hb : Below w.heap.size w w') : Tab w' := tab_below h gPow hb

set_option maxRecDepth 100000 in
set_option maxHeartbeats 400000 in
theorem implDecimal_any (n : Int) (w : World) (h0 : -9223372036854775808 ≤ n) (h1 : n ≤ 9223372036854775807) (ht : Tab w) :
    Calls Tryd.prog 30 #[.int .i64 n] w fun e w' => e = .returned (.string ⟨(Lib.itoa n).toArray⟩) ∧ Below w.heap.size w w' := by
  have HT := Lib.hid ht
  clear ht
  go_enter Tryd.func30, Tryd.ntmps30
  go_wp2_with (go_at_call 42; refine (Tryd.strconv_Itoa n h0 h1 _ HT.out).mono ?_; rintro e w1 ⟨rfl, k, os, rfl⟩)
  go_ret
  exact ⟨rfl, below_grow w k os⟩

theorem digits_small {n : Nat} (h : n < 10) : Lib.decDigits n = [UInt8.ofNat (48 + n)] := by rw [Lib.decDigits, dif_pos h]
theorem digits_big {n : Nat} (h : ¬ n < 10) : Lib.decDigits n = Lib.decDigits (n / 10) ++ [UInt8.ofNat (48 + n % 10)] := by rw [Lib.decDigits, dif_neg h]
theorem digits_length (k : Nat) : ∀ n, n < 10 ^ (k + 1) → (Lib.decDigits n).length ≤ k + 1 := by
  induction k with
  | zero => intro n h; rw [digits_small (by omega)]; simp
  | succ k ih =>
    intro n h
    by_cases h1 : n < 10
    · rw [digits_small h1]; simp
    · rw [digits_big h1, List.length_append]
      have := ih (n / 10) (by rw [Nat.pow_succ] at h; omega)
      simp; omega
theorem short_num (n : Nat) : Lib.itoa (n : Int) = Lib.decDigits n := by unfold Lib.itoa; rw [if_neg (by omega), Int.toNat_natCast]
/-- Decimal of a drawn number: a short text. -/
theorem dec_short (n : Int) (w : World) (h0 : 0 ≤ n) (h1 : n < 10000) (ht : Tab w) :
    Calls Tryd.prog 30 #[.int .i64 n] w fun e w' => ∃ d : ByteArray, d.size ≤ 4 ∧ e = .returned (.string d) ∧ Below w.heap.size w w' := by
  obtain ⟨k, rfl⟩ : ∃ k : Nat, n = k := ⟨n.toNat, by omega⟩
  refine (implDecimal_any k w (by omega) (by omega) ht).mono fun e w' ⟨he, hb⟩ => ⟨_, ?_, he, hb⟩
  show (Lib.itoa (k : Int)).toArray.size ≤ 4
  rw [short_num]
  simpa using digits_length 3 k (by omega)
end Go.Proofs.YtpjcdppeieakhaaDoor
namespace Go.Proofs.YtpjcdppeieakhaaDoor
open Go.RowKit Go.Proofs.YtpjcdppeieakhaaDoor.Parts Go.Proofs.YtpjcdppeieakhaaDoor.Hexa

theorem specDecimal_any (n : Int) (w : World) (h0 : -9223372036854775808 ≤ n) (h1 : n ≤ 9223372036854775807) :
    Calls Tryd.prog 37 #[.int .i64 n] w fun e w' => e = .returned (.string ⟨(Lib.itoa n).toArray⟩) ∧ Below w.heap.size w w' := by
  by_cases hz : n = 0
  · subst hz; exact specDecimal_zero w
  · by_cases hp : 0 < n
    · obtain ⟨k, rfl⟩ : ∃ k : Nat, n = k := ⟨n.toNat, by omega⟩
      exact specDecimal_pos k w (by omega) (by omega)
    · obtain ⟨k, rfl⟩ : ∃ k : Nat, n = -(k : Int) := ⟨n.natAbs, by omega⟩
      exact specDecimal_neg k w (by omega) (by omega)
/-- A number's text. -/
def decB (n : Int) : ByteArray := ⟨(Lib.itoa n).toArray⟩
theorem decB_size (n : Int) (h0 : -9223372036854775808 ≤ n) (h1 : n ≤ 9223372036854775807) : (decB n).size ≤ 21 := by
  show (Lib.itoa n).toArray.size ≤ 21
  rw [List.size_toArray]
  unfold Lib.itoa
  split
  · have := digits_length 19 n.natAbs (by omega)
    simp
    omega
  · have := digits_length 19 n.toNat (by omega)
    omega
end Go.Proofs.YtpjcdppeieakhaaDoor
namespace Go.Proofs.YtpjcdppeieakhaaDoor
open Go.RowKit Go.Proofs.YtpjcdppeieakhaaDoor.Sha Go.Proofs.YtpjcdppeieakhaaDoor.Hexa

/-- The first k bytes of the digest; none where k is not from 1 to 32. -/
def cutB (s : ByteArray) (k : Int) : ByteArray := if 1 ≤ k ∧ k ≤ 32 then (digB s).extract 0 k.toNat else ⟨#[]⟩

set_option maxRecDepth 100000 in
set_option maxHeartbeats 400000 in
theorem in_any (n a b : Int) (w : World) : Calls Tryd.prog 47 #[.int .i64 n, .int .i64 a, .int .i64 b] w fun e w' => e = .returned (.bool (decide (a ≤ n ∧ n ≤ b))) ∧ w' = w := by
  by_cases h1 : a ≤ n <;> by_cases h2 : n ≤ b
  all_goals
    go_enter Tryd.func47, Tryd.ntmps47
    go_wp2
    all_goals go_ret
    all_goals exact ⟨by simp [h1, h2], rfl⟩

set_option maxRecDepth 100000 in
set_option maxHeartbeats 400000 in
theorem specCut_any (s : ByteArray) (k : Int) (w : World) (h : s.size ≤ 1048576) :
    Calls Tryd.prog 36 #[.string s, .int .i64 k] w fun e w' => e = .returned (.string (cutB s k)) ∧ Below w.heap.size w w' := by
  have k1 := Lib.hid fun w => specDigest_any s w (by omega)
  have hds := digB_size s
  by_cases hk : 1 ≤ k ∧ k ≤ 32
  · have hd : decide (1 ≤ k ∧ k ≤ 32) = true := decide_eq_true hk
    have hc : cutB s k = (digB s).extract 0 k.toNat := if_pos hk
    have hi := hk.1
    have hj := hk.2
    rw [hc]
    clear h hk hc
    go_enter Tryd.func36, Tryd.ntmps36
    go_wp2_with (first
      | (go_at_call 47; refine (in_any _ _ _ _).mono ?_; rintro e w1 ⟨rfl, rfl⟩)
      | (go_at_call 48; refine (k1.out _).mono ?_; rintro e w1 ⟨rfl, hb1⟩))
    go_ret
    exact ⟨rfl, hb1⟩
  · have hd : decide (1 ≤ k ∧ k ≤ 32) = false := decide_eq_false hk
    have hc : cutB s k = ⟨#[]⟩ := if_neg hk
    rw [hc]
    clear h hk hc
    go_enter Tryd.func36, Tryd.ntmps36
    go_wp2_with (first
      | (go_at_call 47; refine (in_any _ _ _ _).mono ?_; rintro e w1 ⟨rfl, rfl⟩))
    go_ret
    exact ⟨rfl, Below.refl _ _⟩

set_option maxRecDepth 100000 in
set_option maxHeartbeats 400000 in
theorem implCut_any (s : ByteArray) (k : Int) (w : World) (h : s.size ≤ 1048576) (hT : Tabs w) :
    Calls Tryd.prog 29 #[.string s, .int .i64 k] w fun e w' => e = .returned (.string (cutB s k)) ∧ Below w.heap.size w w' := by
  have k1 := Lib.hid (implDigest_any s w (by omega) hT.1 hT.2)
  have hds := digB_size s
  clear h hT
  by_cases hk : 1 ≤ k ∧ k ≤ 32
  · have hc : cutB s k = (digB s).extract 0 k.toNat := if_pos hk
    have hi := hk.1
    have hj := hk.2
    rw [hc]
    clear hk hc
    go_enter Tryd.func29, Tryd.ntmps29
    go_wp2_with (first
      | (go_at_call 41; refine k1.out.mono ?_; rintro e w1 ⟨rfl, hb1⟩))
    go_ret
    exact ⟨rfl, hb1⟩
  · have hc : cutB s k = ⟨#[]⟩ := if_neg hk
    rw [hc]
    by_cases h1 : k < 1
    · go_enter Tryd.func29, Tryd.ntmps29
      go_wp2
      go_ret
      exact ⟨rfl, Below.refl _ _⟩
    · have h2 : 32 < k := by omega
      go_enter Tryd.func29, Tryd.ntmps29
      go_wp2
      go_ret
      exact ⟨rfl, Below.refl _ _⟩

end Go.Proofs.YtpjcdppeieakhaaDoor
namespace Go.Proofs.YtpjcdppeieakhaaDoor
open Go.RowKit Go.Proofs.YtpjcdppeieakhaaDoor.Sha Go.Proofs.YtpjcdppeieakhaaDoor.Hexa

def tenantWord : ByteArray := ⟨#[116, 101, 110, 97, 110, 116]⟩
/-- The secret of a tenant. -/
def secretB (n : Int) : ByteArray := cutB (tenantWord ++ decB n) 16

set_option maxRecDepth 100000 in
set_option maxHeartbeats 1000000 in
theorem specSecret_any (n : Int) (w : World) (h0 : -9223372036854775808 ≤ n) (h1 : n ≤ 9223372036854775807) :
    Calls Tryd.prog 21 #[.int .i64 n] w fun e w' => e = .returned (.string (secretB n)) ∧ Below w.heap.size w w' := by
  have hs := decB_size n h0 h1
  have h2 : ∀ w, Calls Tryd.prog 37 #[.int .i64 n] w fun e w' => e = .returned (.string (decB n)) ∧ Below w.heap.size w w' := fun w => specDecimal_any n w h0 h1
  unfold secretB
  generalize decB n = d at hs h2 ⊢
  have h3 := fun w => specCut_any (tenantWord ++ d) 16 w (by rw [ByteArray.size_append]; have : tenantWord.size = 6 := rfl; omega)
  generalize cutB (tenantWord ++ d) 16 = r at h3 ⊢
  unfold tenantWord at h3
  have k2 := Lib.hid h2
  have k3 := Lib.hid h3
  clear h0 h1 h2 h3
  go_enter Tryd.func21, Tryd.ntmps21
  go_wp2_with fail
  refine (k2.out _).mono ?_
  rintro e w1 ⟨rfl, hb1⟩
  go_wp2_with fail
  refine (k3.out _).mono ?_
  rintro e w2 ⟨rfl, hb2⟩
  go_wp2
  go_ret
  exact ⟨rfl, hb1.trans (hb2.mono hb1.size)⟩

set_option maxRecDepth 100000 in
set_option maxHeartbeats 1000000 in
theorem implSecret_any (n : Int) (w : World) (h0 : -9223372036854775808 ≤ n) (h1 : n ≤ 9223372036854775807) (hT : Tabs w) (ht : Tab w) :
    Calls Tryd.prog 13 #[.int .i64 n] w fun e w' => e = .returned (.string (secretB n)) ∧ Below w.heap.size w w' := by
  have hs := decB_size n h0 h1
  have h2 : ∀ w, Tab w → Calls Tryd.prog 30 #[.int .i64 n] w fun e w' => e = .returned (.string (decB n)) ∧ Below w.heap.size w w' := fun w ht => implDecimal_any n w h0 h1 ht
  unfold secretB
  generalize decB n = d at hs h2 ⊢
  have h3 := fun w hT => implCut_any (tenantWord ++ d) 16 w (by rw [ByteArray.size_append]; have : tenantWord.size = 6 := rfl; omega) hT
  generalize cutB (tenantWord ++ d) 16 = r at h3 ⊢
  unfold tenantWord at h3
  have k2 := Lib.hid h2
  have k3 := Lib.hid h3
  have HT := Lib.hid hT
  have Ht := Lib.hid ht
  clear h0 h1 h2 h3 hT ht
  go_enter Tryd.func13, Tryd.ntmps13
  go_wp2_with fail
  refine (k2.out _ Ht.out).mono ?_
  rintro e w1 ⟨rfl, hb1⟩
  go_wp2_with fail
  refine (k3.out _ (HT.out.below hb1)).mono ?_
  rintro e w2 ⟨rfl, hb2⟩
  go_wp2
  go_ret
  exact ⟨rfl, hb1.trans (hb2.mono hb1.size)⟩
end Go.Proofs.YtpjcdppeieakhaaDoor
namespace Go.Proofs.YtpjcdppeieakhaaDoor
open Go.RowKit Go.Proofs.YtpjcdppeieakhaaDoor.Sha Go.Proofs.YtpjcdppeieakhaaDoor.Hexa

set_option maxRecDepth 100000 in
set_option maxHeartbeats 1000000 in
theorem secretOf_law (n : Int) (w : World) (hT : Tabs w) (ht : Tab w) (h0 : -9223372036854775808 ≤ n) (h1 : n ≤ 9223372036854775807) :
    Calls Tryd.prog 4 #[.int .i64 n] w fun e w' => e = .returned (.bool true) ∧ Below w.heap.size w w' := by
  have k1 := Lib.hid fun w => specSecret_any n w h0 h1
  have k2 := Lib.hid fun w hT ht => implSecret_any n w h0 h1 hT ht
  have HT := Lib.hid hT
  have Ht := Lib.hid ht
  generalize secretB n = r at k1 k2
  clear h0 h1 hT ht
  go_enter Tryd.func4, Tryd.ntmps4
  go_wp2_with fail
  refine (k1.out _).mono ?_
  rintro e w1 ⟨rfl, hb1⟩
  go_wp2_with fail
  refine (k2.out _ (HT.out.below hb1) (Ht.out.below hb1)).mono ?_
  rintro e w2 ⟨rfl, hb2⟩
  go_wp2
  go_ret
  exact ⟨rfl, hb1.trans (hb2.mono hb1.size)⟩
end Go.Proofs.YtpjcdppeieakhaaDoor
namespace Go.Proofs.YtpjcdppeieakhaaDoor
open Go.RowKit Go.Proofs.YtpjcdppeieakhaaDoor.Sha

theorem isTab_of {P : Program} {w : World} {name : String} {g : Nat} {xs : List UInt32} (hg : P.globalNamed name = some g) (h : Lib.TabIs P w name .u32 (xs.map u)) : IsTab w g xs := by
  unfold Lib.TabIs World.var? at h
  rw [hg] at h
  simp only [Option.bind_some] at h
  have e : (List.map (fun z => Value.int IntKind.u32 z) (List.map u xs)).toArray = wcells xs := by simp [wcells]
  rw [e] at h
  split at h
  · rename_i cs t fr hh
    obtain rfl := Option.some.inj h
    exact ⟨t, fr, hh⟩
  · cases h
theorem gFirst : Tryd.prog.globalNamed "loop.example/g00969/impl.shaInitial" = some 0 := by kernel_rfl
theorem gFirstType : (Tryd.prog.globals[0]?).map (·.type) = some 56 := by kernel_rfl
theorem gKeys : Tryd.prog.globalNamed "loop.example/g00969/impl.shaConstants" = some 1 := by kernel_rfl
theorem gKeysType : (Tryd.prog.globals[1]?).map (·.type) = some 69 := by kernel_rfl
theorem datumFirst : (Rows.laid_loop_example_g00969_impl_shaInitial : DataW Unit) = Lib.tabData .u32 (firstS.list.map u) := by kernel_rfl
theorem datumKeys : (Rows.laid_loop_example_g00969_impl_shaConstants : DataW Unit) = Lib.tabData .u32 (keyL.map u) := by kernel_rfl
theorem first_of_head {W : World} {rest : List (String × DataW Unit)} (h : laidMet Tryd.prog (("loop.example/g00969/impl.shaInitial", Rows.laid_loop_example_g00969_impl_shaInitial) :: rest) W) : IsTab W 0 firstS.list := by
  rw [datumFirst] at h
  exact isTab_of gFirst (Lib.tabIs_of_head gFirst gFirstType Tryd.underlying56 Tryd.underlying54 (by kernel_rfl) (by kernel_rfl) h)
theorem keys_of_head {W : World} {rest : List (String × DataW Unit)} (h : laidMet Tryd.prog (("loop.example/g00969/impl.shaConstants", Rows.laid_loop_example_g00969_impl_shaConstants) :: rest) W) : IsTab W 1 keyL := by
  rw [datumKeys] at h
  exact isTab_of gKeys (Lib.tabIs_of_head gKeys gKeysType Tryd.underlying69 Tryd.underlying54 (by kernel_rfl) (by kernel_rfl) h)
end Go.Proofs.YtpjcdppeieakhaaDoor
