/- A draw of yes or no; a place drawn. -/
import Derived.Test.YtppdjhchangikaaPickNum
namespace Go.Proofs.Ytppdjhchangikaa
open Go.RowKit Go.Proofs.Ytppdjhchangikaa.Hexa
namespace Draw

set_option maxRecDepth 100000 in
set_option maxHeartbeats 1000000 in
theorem once_any (c : Nat) (ad : Option Addr) (len cap : Nat) (n : Int) (w : World) (hlen : len ≤ 1048576) (hn : 0 < n) (hn2 : n ≤ 256) (hc : Cur w c ad len cap) (hs : Src w c ad len) :
    Calls Try.prog 48 #[.pointer (some ⟨c, 0, none⟩), .int .i64 n] w (DrawPost (fun v => ∃ b : Bool, v = .bool b) w c ad len cap) := by
  have HC := Lib.hid hc
  have HS := Lib.hid hs
  clear hc hs
  go_enter Try.func48, Try.ntmps48
  go_wp2_with fail
  refine (below_small c ad len cap n w hlen hn hn2 HC.out HS.out).mono ?_
  rintro e w1 ⟨x, x0, x1, rfl, hc1, hg1⟩
  have C1 := Lib.hid hc1
  have G1 := Lib.hid hg1
  clear hc1 hg1
  go_wp2
  go_ret
  exact ⟨_, ⟨_, rfl⟩, rfl, C1.out, G1.out⟩

set_option maxRecDepth 100000 in
set_option maxHeartbeats 1000000 in
theorem place_any (c : Nat) (ad : Option Addr) (len cap : Nat) (n : Int) (w : World) (hlen : len ≤ 1048576) (hn : 0 < n) (hn2 : n ≤ 1000) (hc : Cur w c ad len cap) (hs : Src w c ad len) :
    Calls Try.prog 37 #[.pointer (some ⟨c, 0, none⟩), .int .i64 n] w (DrawPost (fun v => ∃ z : Int, v = .int .i64 z ∧ -9223372036854775808 ≤ z ∧ z ≤ 9223372036854775807) w c ad len cap) := by
  have HC := Lib.hid hc
  have HS := Lib.hid hs
  clear hc hs
  go_enter Try.func37, Try.ntmps37
  go_wp2_with fail
  refine (once_any c ad len cap 15 w hlen (by decide) (by decide) HC.out HS.out).mono ?_
  rintro e w1 ⟨_, ⟨o, rfl⟩, rfl, hc1, hg1⟩
  have C1 := Lib.hid hc1
  have S1 := Lib.hid (src_grown HS.out hg1 (cur_lt HC.out))
  have G1 := Lib.hid hg1
  clear hc1 hg1
  cases o with
  | true =>
    go_wp2_with fail
    refine (pickNum_new c ad len cap 5 [-1, n, n + 1, 9223372036854775807, -9223372036854775808] _ _ w1 rfl hlen (by decide) (by decide) rfl C1.out S1.out).mono ?_
    rintro e w2 ⟨z, hz, rfl, hc2, hg2⟩
    have HP : Hid (DrawPost (fun v => ∃ z : Int, v = .int .i64 z ∧ -9223372036854775808 ≤ z ∧ z ≤ 9223372036854775807) w c ad len cap (.returned (.int .i64 z)) w2) := Lib.hid ⟨_, ⟨z, rfl, by simp at hz; omega, by simp at hz; omega⟩, rfl, hc2, grownBy_trans G1.out hg2⟩
    clear hz hc2 hg2
    go_wp2
    go_ret
    exact HP.out
  | false =>
    go_wp2_with fail
    refine (below_any c ad len cap n w1 hlen hn (by omega) C1.out S1.out).mono ?_
    rintro e w2 ⟨z, z0, z1, rfl, hc2, hg2⟩
    have HP : Hid (DrawPost (fun v => ∃ z : Int, v = .int .i64 z ∧ -9223372036854775808 ≤ z ∧ z ≤ 9223372036854775807) w c ad len cap (.returned (.int .i64 z)) w2) := Lib.hid ⟨_, ⟨z, rfl, by omega, by omega⟩, rfl, hc2, grownBy_trans G1.out hg2⟩
    clear hc2 hg2
    go_wp2
    go_ret
    exact HP.out
end Draw
end Go.Proofs.Ytppdjhchangikaa
