/- The program's methods on a pointer to a memory, those that read. -/
import Derived.Test.YtlemlgadjapamaaSearch
import Derived.Test.YtlemlgadjapamaaShelf
namespace Go.Proofs.Ytlemlgadjapamaa
open Go.RowKit Go.Proofs.Ytlemlgadjapamaa.Parts Go.Proofs.Ytlemlgadjapamaa.Hexa

theorem ret_strp {a b : ByteArray} (h : a = b) : Ending.returned (.string a) = .returned (.string b) := by rw [h]
theorem ret_intp {a b : Int} (h : a = b) : Ending.returned (.int .i64 a) = .returned (.int .i64 b) := by rw [h]
theorem foundB_yes {K : ByteArray} {L : List C3} {l : Nat} {p : Nat} (hp : Place L l p) (h : foundB L l p = true) : p < L.length ∧ lineT K L l = (L.getD p default).t := by
  unfold foundB at h
  have h := of_decide_eq_true h
  exact ⟨h.1, by unfold lineT; rw [hp.found h.1 h.2]⟩
theorem foundB_no {K : ByteArray} {L : List C3} {l : Nat} {p : Nat} (hok : MemOk K L) (hp : Place L l p) (h : foundB L l p = false) : lineT K L l = K.extract (l * 16) ((l + 1) * 16) := by
  unfold foundB at h
  have h := of_decide_eq_false h
  unfold lineT
  rw [cellIdx_none (hp.lost hok h), show 16 * l = l * 16 by omega, show (l + 1) * 16 = l * 16 + 16 by omega]

set_option maxRecDepth 100000 in
set_option maxHeartbeats 400000 in
theorem textClone_c (s : ByteArray) (w : World) (hs : s.size ≤ 1048600) :
    Calls Try.prog 63 #[.string s] w fun e w' => e = .returned (.string s) ∧ Below w.heap.size w w' := by
  go_enter Try.func63, Try.ntmps63
  go_wp2_with (go_at_call 82; refine (Try.stringslite_Clone _ _ (by omega)).mono ?_; rintro e w1 ⟨rfl, hb1⟩)
  go_ret
  exact ⟨rfl, hb1⟩

set_option maxRecDepth 100000 in
set_option maxHeartbeats 400000 in
theorem hasWord_any (b : Nat) (K : ByteArray) (v : Value) (i : Int) (w : World) (hT : Two w b (.string K) v 26) (hK : K.size ≤ 1048600) :
    Calls Try.prog 49 #[.pointer (some ⟨b, 0, none⟩), .int .i64 i] w fun e w' => e = .returned (.bool (decide (Has K i))) ∧ w' = w := by
  have q0 := hT.c0
  have hd : (K.size : Int) / 8 = ((K.size / 8 : Nat) : Int) := by omega
  obtain ⟨N, hN⟩ : ∃ N : Nat, K.size / 8 = N := ⟨_, rfl⟩
  have HD : Hid (decide (Has K i) = (decide (0 ≤ i) && decide (i < (N : Int)))) := Lib.hid (by
    have h3 : Has K i ↔ (0 ≤ i ∧ i < (N : Int)) := by unfold Has; rw [hN]
    simp only [h3, Bool.decide_and])
  rw [HD.out]
  rw [hN] at hd
  clear hT hN HD
  by_cases h1 : 0 ≤ i
  · by_cases h2 : i < (N : Int)
    · go_enter Try.func49, Try.ntmps49
      go_wp2
      go_ret
      exact ⟨by simp [h1, h2], rfl⟩
    · go_enter Try.func49, Try.ntmps49
      go_wp2
      go_ret
      exact ⟨by simp [h1, h2], rfl⟩
  · go_enter Try.func49, Try.ntmps49
    go_wp2
    go_ret
    exact ⟨by simp; omega, rfl⟩

set_option maxRecDepth 100000 in
set_option maxHeartbeats 400000 in
theorem wordStart_any (m : Nat) (i : Int) (w : World) (hi : i = m) (hm : m ≤ 1048600) :
    Calls Try.prog 62 #[.int .i64 i] w fun e w' => e = .returned (.int .i64 ((m % 2 * 8 : Nat) : Int)) ∧ w' = w := by
  subst hi
  go_enter Try.func62, Try.ntmps62
  go_wp2
  go_ret
  exact ⟨ret_intp (by omega), rfl⟩

set_option maxRecDepth 100000 in
set_option maxHeartbeats 1000000 in
theorem current_any (b : Nat) (K : ByteArray) (a : Option Addr) (n c : Nat) (L : List C3) (l : Nat) (i : Int) (w : World) (hi : i = l) (hT : Two w b (.string K) (.slice a n c) 26) (hs : SrcC w a n L) (hn : n ≤ 1048600) (hok : MemOk K L) (hl : l < K.size / 16) :
    Calls Try.prog 64 #[.pointer (some ⟨b, 0, none⟩), .int .i64 i] w fun e w' => e = .returned (.string (lineT K L l)) ∧ Below w.heap.size w w' := by
  subst hi
  have HS := Lib.hid hs
  have HL := Lib.hid hs.len
  have HOK := Lib.hid hok
  have HT := Lib.hid hT
  have hk2 := hok.2.1
  clear hs hok hT
  go_enter Try.func64, Try.ntmps64
  go_wp2_with fail
  refine (cellOf_any b K a n c L l w HT.out HS.out hn HOK.out).mono ?_
  rintro e w1 ⟨p, hp, rfl, hb1⟩
  have HP := Lib.hid hp
  have T1 := Lib.hid (HT.out.later hb1)
  have q0 := T1.out.c0
  have q1 := T1.out.c1
  have B1 := Lib.hid hb1
  clear hp hb1
  cases hfb : foundB L l p with
  | true =>
    obtain ⟨hpl, he⟩ := foundB_yes (K := K) HP.out hfb
    have HE := Lib.hid he
    have hpn : p < n := by have := HL.out; omega
    clear hfb he hpl
    obtain ⟨g, off, rfl, hg, d1, d2, d3⟩ := HS.out.cells3_at B1.out (Nat.le_refl _) p hpn
    go_wp2
    go_ret
    exact ⟨ret_strp HE.out.symm, B1.out⟩
  | false =>
    have HE := Lib.hid (foundB_no HOK.out HP.out hfb)
    clear hfb
    go_wp2
    go_ret
    exact ⟨ret_strp HE.out.symm, B1.out⟩
end Go.Proofs.Ytlemlgadjapamaa
