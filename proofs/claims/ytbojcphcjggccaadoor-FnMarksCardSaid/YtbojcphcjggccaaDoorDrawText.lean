/- A drawn text. -/
import Derived.Test.YtbojcphcjggccaaDoorDrawLem
import Derived.Test.YtbojcphcjggccaaDoorLongMath
namespace Go.Proofs.YtbojcphcjggccaaDoor
open Go.RowKit Go.Proofs.YtbojcphcjggccaaDoor.Hexa Go.Proofs.YtbojcphcjggccaaDoor.Byt
namespace Draw

theorem bytes_kept {w w' : World} {B e c : Nat} {v : Value} {l : List UInt8} (h : Bytes w B e v l) (hg : w.grownBy w' (some c)) (hc : c < B) : Bytes w' B e v l := by
  rcases h with h | ⟨g, cap, cur, fz, hv, hb, hh, r⟩
  · exact .inl h
  · exact .inr ⟨g, cap, cur, fz, hv, hb, by rw [hg.block g (Array.getElem?_eq_some_iff.1 hh).1 (fun e => by simp at e; omega)]; exact hh, r⟩
theorem byte_of (x : Int) (h0 : 0 ≤ x) (h1 : x ≤ 255) : x = ((UInt8.ofNat x.toNat).toNat : Int) := by
  rw [UInt8.toNat_ofNat']; omega

set_option maxRecDepth 100000 in
set_option maxHeartbeats 1000000 in
theorem text_any (c : Nat) (ad : Option Addr) (len cap n : Nat) (w : World) (hlen : len ≤ 1048576) (hn : n ≤ 5000) (hc : Cur w c ad len cap) (hs : Src w c ad len) :
    Calls Tryd.prog 40 #[.pointer (some ⟨c, 0, none⟩), .int .i64 n] w (DrawPost (fun v => ∃ t : ByteArray, v = .string t ∧ t.size = n) w c ad len cap) := by
  have HC := Lib.hid hc
  have HS := Lib.hid hs
  have hlt0 := cur_lt hc
  clear hc hs
  have HC0 : Hid (Cur (w.alloc (.cells #[] 5)) c ad len cap) := Lib.hid (cur_grown HC.out (grown_alloc _ _ none) (by simp))
  have HS0 : Hid (Src (w.alloc (.cells #[] 5)) c ad len) := Lib.hid (src_grown' HS.out (grown_alloc _ _ none) (fun k e => by cases e) (by omega))
  have HG0 : Hid (w.grownBy (w.alloc (.cells #[] 5)) (some c)) := Lib.hid (grown_alloc _ _ _)
  have HB0 : Hid (Bytes (w.alloc (.cells #[] 5)) w.heap.size 5 (.slice (some ⟨w.heap.size, 0, none⟩) 0 0) []) := Lib.hid (bytes_of_own (l := []) (World.ownsRow_lit w #[] 0 (Nat.le_refl _) (by decide) rfl))
  go_enter Tryd.func40, Tryd.ntmps40
  go_wp2
  go_loopw [5, 6] (fun v iv wr => ∃ (k : Nat) (l : List UInt8), k ≤ n ∧ iv = .int .i64 k ∧ l.length = k ∧ Hid (Bytes wr w.heap.size 5 v l) ∧ Hid (Cur wr c ad len cap) ∧ Hid (Src wr c ad len) ∧ Hid (w.grownBy wr (some c)))
    (fun _ iv _ => n - (intOf iv).toNat)
  case atStart => exact ⟨0, [], Nat.zero_le _, rfl, rfl, HB0, HC0, HS0, HG0⟩
  case round =>
    clear HC0 HS0 HG0 HB0
    obtain ⟨k, l, hk, rfl, hl, HB, HCr, HSr, HGr⟩ := hrel
    by_cases hlt : k < n
    · go_wp2_with fail
      refine (byte_any c ad len cap wr hlen HCr.out HSr.out).mono ?_
      rintro e w1 ⟨x, x0, x1, rfl, hc1, hg1⟩
      have HB1 := Lib.hid (bytes_kept HB.out hg1 hlt0)
      have HC1 := Lib.hid hc1
      have HS1 := Lib.hid (src_grown HSr.out hg1 (cur_lt HCr.out))
      have HG1 := Lib.hid (grownBy_trans HGr.out hg1)
      have hsz : w.heap.size ≤ w1.heap.size := HG1.out.size
      clear hc1 hg1
      go_wp2_with (at_builtin; refine wpList_append_out rfl (.tmp 15) (.tmp 19) 22 22 rfl _ _ rfl rfl (outB w1 HB1.out hsz _ (UInt8.ofNat x.toNat) _ (byte_of x x0 x1) (by omega)) ?_; intro v2 w2 hb2 hg2)
      have C2 := Lib.hid (cur_below (cur_grown HC1.out (grown_alloc _ _ none) (by simp)) hg2 hlt0)
      have S2 := Lib.hid (src_below (src_grown' HS1.out (grown_alloc _ _ none) (fun k e => by cases e) (by omega)) hg2 (by omega))
      have G2 := Lib.hid (grown_below (grownBy_trans HG1.out (grown_alloc _ _ _)) hg2 (Nat.le_refl _))
      have HB2 := Lib.hid hb2
      clear hb2 hg2
      go_wp2
      go_roundw
      case rel => exact ⟨k + 1, _, by omega, by go_num, by simp [hl], HB2, C2, S2, G2⟩
      case measure => (simp [intOf]; try omega)
    · obtain rfl : k = n := by omega
      have hconv := bytes_string (P := Tryd.prog) 22 9 Tryd.underlying22 Tryd.underlying5 Tryd.underlying9 HB.out
      go_wp2
      go_ret
      exact ⟨_, ⟨_, rfl, by show l.toArray.size = k; simp [hl]⟩, rfl, HCr.out, HGr.out⟩

end Draw
end Go.Proofs.YtbojcphcjggccaaDoor
