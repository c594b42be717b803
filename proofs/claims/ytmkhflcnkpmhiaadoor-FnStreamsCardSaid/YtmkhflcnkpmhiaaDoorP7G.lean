/- Merged texts: StrMath, Draw, DrawLem, DrawText, DrawMore, Draw6, Draw7, NonceMath, NonceImpl, StrLaw. -/
import Derived.Test.YtmkhflcnkpmhiaaDoorP7F
import Derived.Test.YtmkhflcnkpmhiaaDoorRows
import Derived.WalkKit
import Derived.WalkSpells
import Derived.WalkLawsBesides
import Derived.Lib.Hide
import Derived.Deep.QuietTactic
import Derived.BigQuiet
import Derived.Deep.AppendLies
namespace Go.Proofs.YtmkhflcnkpmhiaaDoor
open Go.RowKit Go.Proofs.YtmkhflcnkpmhiaaDoor.Hexa Go.Proofs.YtmkhflcnkpmhiaaDoor.Byt Go.Proofs.YtmkhflcnkpmhiaaDoor.Aes Go.Proofs.YtmkhflcnkpmhiaaDoor.Parts

theorem long_seven (key nonce : ByteArray) : (streamL key nonce 40).take 7 = streamL key nonce 7 := by
  unfold streamL
  rw [List.take_take, show min 7 40 = 7 from rfl]
theorem streamT_list (key nonce : ByteArray) (n : Nat) : (streamT key nonce n).data.toList = streamL key nonce n := rfl
theorem cut_seven (key nonce : ByteArray) : (streamT key nonce 40).extract 0 7 = streamT key nonce 7 := by
  rw [txt_extract, streamT_list, List.drop_zero, show 7 - 0 = 7 from rfl, long_seven]
  rfl
theorem strL_one (key nonce : ByteArray) : strL key nonce 1 = (blkAt key nonce 0).data.toList := List.nil_append _
section
variable (key nonce : ByteArray) (hk : key.size = 16) (hn : nonce.size = 12)
include hk hn
theorem strL_whole (k : Nat) : (strL key nonce k).take (16 * k) = strL key nonce k := List.take_of_length_le (by rw [strL_length key nonce hk hn]; exact Nat.le_refl _)
theorem long_three : streamL key nonce 40 = (strL key nonce 3).take 40 := (streamL_of key nonce hk hn 3 40 (by omega) (by omega)).symm
theorem long_nought : (streamL key nonce 40).take 16 = (blkAt key nonce 0).data.toList := by
  rw [long_three key nonce hk hn, List.take_take, show min 16 40 = 16 from rfl, strL_take key nonce hk hn 1 16 (by omega) 2, ← strL_one]
  exact strL_whole key nonce hk hn 1
theorem long_one : ((streamL key nonce 40).drop 16).take 16 = (blkAt key nonce 1).data.toList := by
  have h32 : (strL key nonce 3).take 32 = strL key nonce 2 := by
    rw [strL_take_succ key nonce hk hn 2 32 (by omega)]
    exact strL_whole key nonce hk hn 2
  have e : (((strL key nonce 3).take 40).drop 16).take 16 = ((strL key nonce 3).take 32).drop 16 := by
    rw [List.drop_take, List.drop_take, List.take_take, show min 16 (40 - 16) = 32 - 16 from rfl]
  rw [long_three key nonce hk hn, e, h32]
  show (strL key nonce 1 ++ (blkAt key nonce 1).data.toList).drop 16 = _
  exact List.drop_left' (strL_length key nonce hk hn 1)
theorem cut_nought : (streamT key nonce 40).extract 0 16 = blkAt key nonce 0 := by
  rw [txt_extract, streamT_list, List.drop_zero, show 16 - 0 = 16 from rfl, long_nought key nonce hk hn]
  exact txt_of _
theorem cut_one : (streamT key nonce 40).extract 16 32 = blkAt key nonce 1 := by
  rw [txt_extract, streamT_list, show 32 - 16 = 16 from rfl, long_one key nonce hk hn]
  exact txt_of _
theorem stream_back (t : ByteArray) (h : t.size ≤ 4096) : xorT (xorT t (streamB key nonce t.size)) (streamB key nonce (xorT t (streamB key nonce t.size)).size) = t ∧ (xorT t (streamB key nonce t.size)).size = t.size := by
  have e1 : streamB key nonce t.size = streamT key nonce t.size := streamB_yes ⟨hk, hn, by omega, by omega⟩
  have hz := streamT_size key nonce hk hn t.size h
  have e2 : (xorT t (streamB key nonce t.size)).size = t.size := by rw [e1]; exact xorP_size _ _ hz.symm
  refine ⟨?_, e2⟩
  rw [e2, e1]
  exact xorT_back t _ hz.symm
end
theorem xorT_nil (t : ByteArray) : xorT t ⟨#[]⟩ = ⟨#[]⟩ := by
  unfold xorT
  split
  · rename_i h
    have h0 : t.size = 0 := h
    rw [h0]
    rfl
  · rfl
theorem stream_none (key nonce t : ByteArray) (h : ¬ (key.size = 16 ∧ nonce.size = 12)) : xorT t (streamB key nonce t.size) = ⟨#[]⟩ := by
  rw [streamB_no (fun e => h ⟨e.1, e.2.1⟩)]
  exact xorT_nil t
end Go.Proofs.YtmkhflcnkpmhiaaDoor
namespace Go.Proofs.YtmkhflcnkpmhiaaDoor
open Go.RowKit
namespace Draw

theorem and255 (y : Int) : 0 ≤ bits .and .i64 y 255 ∧ bits .and .i64 y 255 ≤ 255 := by
  have h : (BitVec.ofInt 64 y &&& BitVec.ofInt 64 255).toNat ≤ 255 := by
    rw [BitVec.toNat_and]; exact Nat.le_trans Nat.and_le_right (by decide)
  have e : bits .and .i64 y 255 = IntKind.i64.wrap ((BitVec.ofInt 64 y &&& BitVec.ofInt 64 255).toNat : Int) := rfl
  rw [e, IntWalk.i64_in _ (by omega)]
  omega

/-- The text that is drawn from: bytes, in blocks below B. -/
def Src (w : World) (B : Nat) (ad : Option Addr) (len : Nat) : Prop := ∀ i, i < len → ∃ b off z, ad = some ⟨b, off, none⟩ ∧ b < B ∧ (0 : Int) ≤ z ∧ z ≤ 255 ∧ w.cell? ⟨b, off + i, none⟩ = some (.int .u8 z)

/-- The cursor in block c. -/
def Cur (w : World) (c : Nat) (ad : Option Addr) (len cap : Nat) : Prop :=
  ∃ (i : Nat) (h : Int), i ≤ len ∧ w.heap[c]? = some (.cells #[.slice ad len cap, .int .i64 i, .int .i64 h] 48 (0, 0))

def BytePost (w : World) (c : Nat) (ad : Option Addr) (len cap : Nat) (e : Ending) (w' : World) : Prop :=
  ∃ x : Int, 0 ≤ x ∧ x ≤ 255 ∧ e = .returned (.int .i64 x) ∧ Cur w' c ad len cap ∧ w.grownBy w' (some c)

theorem grownBy_refl (w : World) (r : Option Nat) : w.grownBy w r := ⟨rfl, rfl, rfl, Nat.le_refl _, fun _ _ _ => rfl⟩
theorem grownBy_trans {a b c : World} {r : Option Nat} (h : a.grownBy b r) (k : b.grownBy c r) : a.grownBy c r :=
  ⟨k.os.trans h.os, k.tape.trans h.tape, k.output.trans h.output, Nat.le_trans h.size k.size, fun i hi hr => (k.block i (Nat.lt_of_lt_of_le hi h.size) hr).trans (h.block i hi hr)⟩

theorem grownBy_set {a w : World} {c : Nat} (h : a.grownBy w (some c)) (j : Nat) (v : Value) : a.grownBy (w.setCell ⟨c, j, none⟩ v) (some c) :=
  grownBy_trans h ⟨rfl, rfl, rfl, by simp [World.setCell], fun k hk hr => Below.heap_setCell _ _ _ _ (fun e => hr (by rw [e]))⟩
theorem grownBy_draws {a w : World} {r : Option Nat} (h : a.grownBy w r) (n : Nat) : a.grownBy (w.drewN n) r := ⟨h.os, h.tape, h.output, h.size, h.block⟩
theorem block_set {w : World} {c j : Nat} {cs : Array Value} {t : TypeId} (h : w.heap[c]? = some (.cells cs t (0, 0))) (v : Value) : (w.setCell ⟨c, j, none⟩ v).heap[c]? = some (.cells (cs.setIfInBounds j v) t (0, 0)) :=
  heap_setCell_same w c j cs t v h

set_option maxHeartbeats 1000000 in
theorem byte_any (c : Nat) (ad : Option Addr) (len cap : Nat) (w : World) (hlen : len ≤ 1048576) (hc : Cur w c ad len cap) (hs : Src w c ad len) :
    Calls Tryd.prog 33 #[.pointer (some ⟨c, 0, none⟩)] w (BytePost w c ad len cap) := by
  obtain ⟨i, h, hi, hb⟩ := hc
  have f0 : w.cell? ⟨c, 0, none⟩ = some (.slice ad len cap) := by simp [World.cell?, hb]
  have f1 : w.cell? ⟨c, 1, none⟩ = some (.int .i64 i) := by simp [World.cell?, hb]
  have f2 : w.cell? ⟨c, 2, none⟩ = some (.int .i64 h) := by simp [World.cell?, hb]
  have z2 : w.frozen? ⟨c, 2, none⟩ = false := by simp [World.frozen?, hb]
  have z1 : w.frozen? ⟨c, 1, none⟩ = false := by simp [World.frozen?, hb]
  have HB := Lib.hid hb
  clear hb
  by_cases hlt : i < len
  · obtain ⟨b, off, z, rfl, hbc, hz0, hz1, hz⟩ := hs i hlt
    have hz' : ∀ x, (w.setCell ⟨c, 2, none⟩ x).cell? ⟨b, off + i, none⟩ = some (.int .u8 z) := fun x => by
      rw [World.cell?_of_block (w := w) (Below.heap_setCell _ _ _ _ (by show b ≠ c; omega))]; exact hz
    go_enter Tryd.func33, Tryd.ntmps33
    go_wp2
    go_quiet (fail)
    go_wp2
    go_quiet (fail)
    go_wp2
    go_quiet (fail)
    go_wp2
    go_ret
    exact ⟨_, (and255 _).1, (and255 _).2, rfl, ⟨i + 1, _, by omega, block_set (block_set HB.out _) _⟩, grownBy_set (grownBy_draws (grownBy_set (grownBy_refl w _) 2 _) _) 1 _⟩
  · go_enter Tryd.func33, Tryd.ntmps33
    go_wp2
    go_quiet (fail)
    go_wp2
    go_quiet (fail)
    go_wp2
    go_ret
    exact ⟨_, (and255 _).1, (and255 _).2, rfl, ⟨i, _, hi, block_set HB.out _⟩, grownBy_draws (grownBy_draws (grownBy_set (grownBy_refl w _) 2 _) _) _⟩

theorem cur_lt {w : World} {c : Nat} {ad : Option Addr} {len cap : Nat} (h : Cur w c ad len cap) : c < w.heap.size := by
  obtain ⟨i, h, _, hb⟩ := h
  exact (Array.getElem?_eq_some_iff.1 hb).1
theorem src_grown {w w' : World} {c : Nat} {ad : Option Addr} {len : Nat} (hs : Src w c ad len) (hg : w.grownBy w' (some c)) (hc : c < w.heap.size) : Src w' c ad len := by
  intro i hi
  obtain ⟨b, off, z, h1, h2, h3, h4, h5⟩ := hs i hi
  exact ⟨b, off, z, h1, h2, h3, h4, by rw [World.cell?_of_block (w := w) (hg.block b (by omega) (fun e => by simp at e; omega))]; exact h5⟩

def NumPost (n : Int) (w : World) (c : Nat) (ad : Option Addr) (len cap : Nat) (e : Ending) (w' : World) : Prop :=
  ∃ x : Int, 0 ≤ x ∧ x < n ∧ e = .returned (.int .i64 x) ∧ Cur w' c ad len cap ∧ w.grownBy w' (some c)

set_option maxHeartbeats 1000000 in
theorem below_small (c : Nat) (ad : Option Addr) (len cap : Nat) (n : Int) (w : World) (hlen : len ≤ 1048576) (hn : 0 < n) (hn2 : n ≤ 256) (hc : Cur w c ad len cap) (hs : Src w c ad len) :
    Calls Tryd.prog 19 #[.pointer (some ⟨c, 0, none⟩), .int .i64 n] w (NumPost n w c ad len cap) := by
  have hz : (n == 0) = false := by simp; omega
  have HC := Lib.hid hc
  have HS := Lib.hid hs
  clear hc hs
  go_enter Tryd.func19, Tryd.ntmps19
  go_wp2_with fail
  refine (byte_any c ad len cap w hlen HC.out HS.out).mono ?_
  rintro e w1 ⟨x, x0, x1, rfl, hc1, hg1⟩
  have C1 := Lib.hid hc1
  have G1 := Lib.hid hg1
  clear hc1 hg1
  go_wp2
  go_ret
  exact ⟨_, Int.emod_nonneg _ (by omega), Int.emod_lt_of_pos _ hn, rfl, C1.out, G1.out⟩

set_option maxHeartbeats 1000000 in
theorem below_big (c : Nat) (ad : Option Addr) (len cap : Nat) (n : Int) (w : World) (hlen : len ≤ 1048576) (hn : 256 < n) (hn2 : n ≤ 4611686018427387904) (hc : Cur w c ad len cap) (hs : Src w c ad len) :
    Calls Tryd.prog 19 #[.pointer (some ⟨c, 0, none⟩), .int .i64 n] w (NumPost n w c ad len cap) := by
  have hz : (n == 0) = false := by simp; omega
  have HC := Lib.hid hc
  have HS := Lib.hid hs
  clear hc hs
  go_enter Tryd.func19, Tryd.ntmps19
  go_wp2_with fail
  refine (byte_any c ad len cap w hlen HC.out HS.out).mono ?_
  rintro e w1 ⟨x, x0, x1, rfl, hc1, hg1⟩
  have S1 := Lib.hid (src_grown HS.out hg1 (cur_lt HC.out))
  have C1 := Lib.hid hc1
  have G1 := Lib.hid hg1
  clear hc1 hg1
  go_wp2_with fail
  refine (byte_any c ad len cap w1 hlen C1.out S1.out).mono ?_
  rintro e w2 ⟨y, y0, y1, rfl, hc2, hg2⟩
  have S2 := Lib.hid (src_grown S1.out hg2 (cur_lt C1.out))
  have C2 := Lib.hid hc2
  have G2 := Lib.hid (grownBy_trans G1.out hg2)
  clear hc2 hg2
  go_wp2_with fail
  refine (byte_any c ad len cap w2 hlen C2.out S2.out).mono ?_
  rintro e w3 ⟨z, z0, z1, rfl, hc3, hg3⟩
  have S3 := Lib.hid (src_grown S2.out hg3 (cur_lt C2.out))
  have C3 := Lib.hid hc3
  have G3 := Lib.hid (grownBy_trans G2.out hg3)
  clear hc3 hg3
  go_wp2_with fail
  refine (byte_any c ad len cap w3 hlen C3.out S3.out).mono ?_
  rintro e w4 ⟨v, v0, v1, rfl, hc4, hg4⟩
  have C4 := Lib.hid hc4
  have G4 := Lib.hid (grownBy_trans G3.out hg4)
  clear hc4 hg4
  go_wp2
  go_ret
  exact ⟨_, Int.emod_nonneg _ (by omega), Int.emod_lt_of_pos _ (by omega), rfl, C4.out, G4.out⟩

/-- A drawn number is at least 0 and below the bound. -/
theorem below_any (c : Nat) (ad : Option Addr) (len cap : Nat) (n : Int) (w : World) (hlen : len ≤ 1048576) (hn : 0 < n) (hn2 : n ≤ 4611686018427387904) (hc : Cur w c ad len cap) (hs : Src w c ad len) :
    Calls Tryd.prog 19 #[.pointer (some ⟨c, 0, none⟩), .int .i64 n] w (NumPost n w c ad len cap) := by
  by_cases h : n ≤ 256
  · exact below_small c ad len cap n w hlen hn h hc hs
  · exact below_big c ad len cap n w hlen (by omega) hn2 hc hs

set_option maxRecDepth 100000 in
set_option maxHeartbeats 1000000 in
theorem new_any (ad : Option Addr) (len cap : Nat) (w : World) (hlen : len ≤ 1048576) (hs : Src w w.heap.size ad len) :
    Calls Tryd.prog 16 #[.slice ad len cap] w fun e w' => e = .returned (.pointer (some ⟨w.heap.size, 0, none⟩)) ∧ ∃ h : Int, w' = w.alloc (.cells #[.slice ad len cap, .int .i64 0, .int .i64 h] 48) := by
  have HS := Lib.hid hs
  clear hs
  go_enter Tryd.func16, Tryd.ntmps16
  go_wp2
  go_loop [3, 4] (fun hv iv => ∃ (i : Nat) (h : Int), i ≤ len ∧ hv = .int .i64 h ∧ iv = .int .i64 i) (fun _ iv => len - (intOf iv).toNat)
  case atStart => exact ⟨0, _, Nat.zero_le _, rfl, rfl⟩
  case round =>
    obtain ⟨i, h, hi, rfl, rfl⟩ := hrel
    by_cases hlt : i < len
    · by_cases h4 : i < 4000
      · obtain ⟨b, off, z, rfl, hbc, hz0, hz1, hz⟩ := HS.out i hlt
        go_wp2
        go_round
        case rel => exact ⟨i + 1, _, by omega, rfl, by go_num⟩
        case measure => (simp [intOf]; try omega)
      · go_wp2
        go_ret
        exact ⟨rfl, _, rfl⟩
    · obtain rfl : i = len := by omega
      go_wp2
      go_ret
      exact ⟨rfl, _, rfl⟩
end Draw
end Go.Proofs.YtmkhflcnkpmhiaaDoor
namespace Go.Proofs.YtmkhflcnkpmhiaaDoor
open Go.RowKit
namespace Draw

theorem cur_grown {w w' : World} {c : Nat} {ad : Option Addr} {len cap : Nat} {row : Option Nat} (h : Cur w c ad len cap) (hg : w.grownBy w' row) (hr : some c ≠ row) : Cur w' c ad len cap := by
  have hl := cur_lt h
  obtain ⟨i, x, hi, hb⟩ := h
  exact ⟨i, x, hi, by rw [hg.block c hl hr]; exact hb⟩
theorem src_grown' {w w' : World} {B : Nat} {ad : Option Addr} {len : Nat} {row : Option Nat} (hs : Src w B ad len) (hg : w.grownBy w' row) (hr : ∀ k, row = some k → B ≤ k) (hB : B ≤ w.heap.size) : Src w' B ad len := by
  intro i hi
  obtain ⟨b, off, z, h1, h2, h3, h4, h5⟩ := hs i hi
  exact ⟨b, off, z, h1, h2, h3, h4, by rw [World.cell?_of_block (w := w) (hg.block b (by omega) (fun e => by have := hr b e.symm; omega))]; exact h5⟩
theorem grown_alloc (w : World) (o : Obj) (r : Option Nat) : w.grownBy (w.alloc o) r := ⟨rfl, rfl, rfl, by simp, fun k hk _ => Below.heap_alloc _ _ _ hk⟩
theorem own_not {w : World} {c e : Nat} {v : Value} {n : Nat} {xs : List Value} (h : w.ownsRow (c + 1) e 1 v n xs) : some c ≠ v.ownBlock := fun e => by
  have := Hexa.own_block_ge h c e.symm
  omega
theorem own_kept {w w' : World} {c e : Nat} {v : Value} {n : Nat} {xs : List Value} (h : w.ownsRow (c + 1) e 1 v n xs) (hg : w.grownBy w' (some c)) : w'.ownsRow (c + 1) e 1 v n xs :=
  h.kept hg (Or.inr (fun e => own_not h e.symm))
theorem below_of_grown {w w' : World} {B : Nat} {row : Option Nat} (hg : w.grownBy w' row) (hr : ∀ k, row = some k → B ≤ k) (hB : B ≤ w.heap.size) : Below B w w' := (Below.refl B w).grown hg hB hr

theorem cur_below {w w' : World} {c B : Nat} {ad : Option Addr} {len cap : Nat} (h : Cur w c ad len cap) (hb : Below B w w') (hc : c < B) : Cur w' c ad len cap := by
  obtain ⟨i, x, hi, hh⟩ := h
  exact ⟨i, x, hi, by rw [hb.block c hc]; exact hh⟩
theorem src_below {w w' : World} {c B : Nat} {ad : Option Addr} {len : Nat} (h : Src w c ad len) (hb : Below B w w') (hc : c ≤ B) : Src w' c ad len := by
  intro i hi
  obtain ⟨b, off, z, h1, h2, h3, h4, h5⟩ := h i hi
  exact ⟨b, off, z, h1, h2, h3, h4, by rw [World.cell?_of_block (w := w) (hb.block b (by omega))]; exact h5⟩
theorem grown_below {a w w' : World} {c B : Nat} (h : a.grownBy w (some c)) (hb : Below B w w') (hB : a.heap.size ≤ B) : a.grownBy w' (some c) :=
  ⟨hb.os.trans h.os, hb.tape.trans h.tape, hb.output.trans h.output, Nat.le_trans h.size hb.size, fun i hi hr => (hb.block i (by omega)).trans (h.block i hi hr)⟩

/-- What a draw leaves: a value, the cursor where it may stand, nothing else written. -/
def DrawPost (Pv : Value → Prop) (w : World) (c : Nat) (ad : Option Addr) (len cap : Nat) (e : Ending) (w' : World) : Prop :=
  ∃ v, Pv v ∧ e = .returned v ∧ Cur w' c ad len cap ∧ w.grownBy w' (some c)
end Draw
end Go.Proofs.YtmkhflcnkpmhiaaDoor
namespace Go.Proofs.YtmkhflcnkpmhiaaDoor
open Go.RowKit Go.Proofs.YtmkhflcnkpmhiaaDoor.Hexa Go.Proofs.YtmkhflcnkpmhiaaDoor.Byt
namespace Draw

theorem bytes_kept {w w' : World} {B e c : Nat} {v : Value} {l : List UInt8} (h : Bytes w B e v l) (hg : w.grownBy w' (some c)) (hc : c < B) : Bytes w' B e v l := by
  rcases h with h | ⟨g, cap, cur, fz, hv, hb, hh, r⟩
  · exact .inl h
  · exact .inr ⟨g, cap, cur, fz, hv, hb, by rw [hg.block g (Array.getElem?_eq_some_iff.1 hh).1 (fun e => by simp at e; omega)]; exact hh, r⟩
theorem byte_of (x : Int) (h0 : 0 ≤ x) (h1 : x ≤ 255) : x = ((UInt8.ofNat x.toNat).toNat : Int) := by
  rw [UInt8.toNat_ofNat']; omega

set_option maxHeartbeats 1000000 in
theorem text_any (c : Nat) (ad : Option Addr) (len cap n : Nat) (w : World) (hlen : len ≤ 1048576) (hn : n ≤ 5000) (hc : Cur w c ad len cap) (hs : Src w c ad len) :
    Calls Tryd.prog 18 #[.pointer (some ⟨c, 0, none⟩), .int .i64 n] w (DrawPost (fun v => ∃ t : ByteArray, v = .string t ∧ t.size = n) w c ad len cap) := by
  have HC := Lib.hid hc
  have HS := Lib.hid hs
  have hlt0 := cur_lt hc
  clear hc hs
  have HC0 : Hid (Cur (w.alloc (.cells #[] 5)) c ad len cap) := Lib.hid (cur_grown HC.out (grown_alloc _ _ none) (by simp))
  have HS0 : Hid (Src (w.alloc (.cells #[] 5)) c ad len) := Lib.hid (src_grown' HS.out (grown_alloc _ _ none) (fun k e => by cases e) (by omega))
  have HG0 : Hid (w.grownBy (w.alloc (.cells #[] 5)) (some c)) := Lib.hid (grown_alloc _ _ _)
  have HB0 : Hid (Bytes (w.alloc (.cells #[] 5)) w.heap.size 5 (.slice (some ⟨w.heap.size, 0, none⟩) 0 0) []) := Lib.hid (bytes_of_own (l := []) (World.ownsRow_lit w #[] 0 (Nat.le_refl _) (by decide) rfl))
  go_enter Tryd.func18, Tryd.ntmps18
  go_wp2
  go_loopw [5, 6] (fun v iv wr => ∃ (k : Nat) (l : List UInt8), k ≤ n ∧ iv = .int .i64 k ∧ l.length = k ∧ Hid (Bytes wr w.heap.size 5 v l) ∧ Hid (Cur wr c ad len cap) ∧ Hid (Src wr c ad len) ∧ Hid (w.grownBy wr (some c)))
    (fun _ iv _ => n - (intOf iv).toNat)
  case atStart => exact ⟨0, [], Nat.zero_le _, rfl, rfl, HB0, HC0, HS0, HG0⟩
  case round =>
    clear HC0 HS0 HG0 HB0
    obtain ⟨k, l, hk, rfl, hl, HB, HCr, HSr, HGr⟩ := hrel
    by_cases hlt : k < n
    · go_wp2_with fail
      refine (byte_any c ad len cap wr hlen HCr.out HSr.out).mono ?_
      rintro e w1 ⟨x, x0, x1, rfl, hc1, hg1⟩
      have HB1 := Lib.hid (bytes_kept HB.out hg1 hlt0)
      have HC1 := Lib.hid hc1
      have HS1 := Lib.hid (src_grown HSr.out hg1 (cur_lt HCr.out))
      have HG1 := Lib.hid (grownBy_trans HGr.out hg1)
      have hsz : w.heap.size ≤ w1.heap.size := HG1.out.size
      clear hc1 hg1
      go_wp2_with (at_builtin; refine wpList_append_out rfl (.tmp 15) (.tmp 19) 22 22 rfl _ _ rfl rfl (outB w1 HB1.out hsz _ (UInt8.ofNat x.toNat) _ (byte_of x x0 x1) (by omega)) ?_; intro v2 w2 hb2 hg2)
      have C2 := Lib.hid (cur_below (cur_grown HC1.out (grown_alloc _ _ none) (by simp)) hg2 hlt0)
      have S2 := Lib.hid (src_below (src_grown' HS1.out (grown_alloc _ _ none) (fun k e => by cases e) (by omega)) hg2 (by omega))
      have G2 := Lib.hid (grown_below (grownBy_trans HG1.out (grown_alloc _ _ _)) hg2 (Nat.le_refl _))
      have HB2 := Lib.hid hb2
      clear hb2 hg2
      go_wp2
      go_roundw
      case rel => exact ⟨k + 1, _, by omega, by go_num, by simp [hl], HB2, C2, S2, G2⟩
      case measure => (simp [intOf]; try omega)
    · obtain rfl : k = n := by omega
      have hconv := bytes_string (P := Tryd.prog) 22 9 Tryd.underlying22 Tryd.underlying5 Tryd.underlying9 HB.out
      go_wp2
      go_ret
      exact ⟨_, ⟨_, rfl, by show l.toArray.size = k; simp [hl]⟩, rfl, HCr.out, HGr.out⟩

end Draw
end Go.Proofs.YtmkhflcnkpmhiaaDoor
namespace Go.Proofs.YtmkhflcnkpmhiaaDoor
open Go.RowKit Go.Proofs.YtmkhflcnkpmhiaaDoor.Hexa Go.Proofs.YtmkhflcnkpmhiaaDoor.Byt
namespace Draw

set_option maxHeartbeats 1000000 in
theorem pickInt_any (c : Nat) (ad : Option Addr) (len cap : Nat) (g n m : Nat) (zs : List Int) (w : World) (hlen : len ≤ 1048576) (hn : 0 < n) (hn2 : n ≤ 1000000) (hz : zs.length = n) (hcell : ∀ j, j < n → w.cell? ⟨g, j, none⟩ = some (.int .i64 (zs.getD j 0))) (hg : g < w.heap.size) (hgc : g ≠ c) (hc : Cur w c ad len cap) (hs : Src w c ad len) :
    Calls Tryd.prog 32 #[.pointer (some ⟨c, 0, none⟩), .slice (some ⟨g, 0, none⟩) n m] w (DrawPost (fun v => ∃ z ∈ zs, v = .int .i64 z) w c ad len cap) := by
  have HC := Lib.hid hc
  have HS := Lib.hid hs
  have HCE := Lib.hid hcell
  clear hc hs hcell
  go_enter Tryd.func32, Tryd.ntmps32
  go_wp2_with fail
  refine (below_any c ad len cap n w hlen (by omega) (by omega) HC.out HS.out).mono ?_
  rintro e w1 ⟨x, x0, x1, rfl, hc1, hg1⟩
  have HC1 := Lib.hid hc1
  have HG1 := Lib.hid hg1
  obtain ⟨k, rfl⟩ : ∃ k : Nat, x = k := ⟨x.toNat, by omega⟩
  have hk : k < n := by omega
  have ck : w1.cell? ⟨g, k, none⟩ = some (.int .i64 (zs.getD k 0)) := by
    rw [World.cell?_of_block (w := w) (hg1.block g hg (fun e => hgc (by simpa using e)))]; exact HCE.out k hk
  have HM : Hid (zs.getD k 0 ∈ zs) := Lib.hid (by
    have e : zs.getD k 0 = zs[k]'(by omega) := by simp [List.getD, show k < zs.length by omega]
    rw [e]; exact List.getElem_mem _)
  obtain ⟨z, hzz⟩ : ∃ z, zs.getD k 0 = z := ⟨_, rfl⟩
  rw [hzz] at ck HM
  clear hc1 hg1 hzz
  go_wp2
  go_ret
  exact ⟨_, ⟨z, HM.out, rfl⟩, rfl, HC1.out, HG1.out⟩
end Draw
end Go.Proofs.YtmkhflcnkpmhiaaDoor
namespace Go.Proofs.YtmkhflcnkpmhiaaDoor
open Go.RowKit Go.Proofs.YtmkhflcnkpmhiaaDoor.Hexa Go.Proofs.YtmkhflcnkpmhiaaDoor.Byt
namespace Draw

set_option maxHeartbeats 1000000 in
theorem bytes6_any (c : Nat) (ad : Option Addr) (len cap : Nat) (w : World) (hlen : len ≤ 1048576) (hc : Cur w c ad len cap) (hs : Src w c ad len) :
    Calls Tryd.prog 31 #[.pointer (some ⟨c, 0, none⟩)] w (DrawPost (fun v => ∃ t : ByteArray, v = .string t ∧ t.size ≤ 17) w c ad len cap) := by
  have hlt0 := cur_lt hc
  have C1 := Lib.hid (cur_grown hc (grown_alloc w (.cells #[.int .i64 16, .int .i64 16, .int .i64 16, .int .i64 16, .int .i64 16, .int .i64 16, .int .i64 15, .int .i64 17, .int .i64 0] 3) none) (by simp))
  have S1 := Lib.hid (src_grown' hs (grown_alloc w (.cells #[.int .i64 16, .int .i64 16, .int .i64 16, .int .i64 16, .int .i64 16, .int .i64 16, .int .i64 15, .int .i64 17, .int .i64 0] 3) none) (fun k e => by cases e) (by omega))
  have G1 : Hid (w.grownBy (w.alloc (.cells #[.int .i64 16, .int .i64 16, .int .i64 16, .int .i64 16, .int .i64 16, .int .i64 16, .int .i64 15, .int .i64 17, .int .i64 0] 3)) (some c)) := Lib.hid (grown_alloc _ _ _)
  have hh := heap_alloc_new w (.cells #[.int .i64 16, .int .i64 16, .int .i64 16, .int .i64 16, .int .i64 16, .int .i64 16, .int .i64 15, .int .i64 17, .int .i64 0] 3)
  have hz1 : (w.alloc (.cells #[.int .i64 16, .int .i64 16, .int .i64 16, .int .i64 16, .int .i64 16, .int .i64 16, .int .i64 15, .int .i64 17, .int .i64 0] 3)).heap.size = w.heap.size + 1 := by simp
  have HH := Lib.hid hh
  have HZ := Lib.hid hz1
  clear hc hs hh hz1
  go_enter Tryd.func31, Tryd.ntmps31
  go_wp2_with fail
  generalize w.alloc (.cells #[.int .i64 16, .int .i64 16, .int .i64 16, .int .i64 16, .int .i64 16, .int .i64 16, .int .i64 15, .int .i64 17, .int .i64 0] 3) = W1 at C1 S1 G1 HH HZ ⊢
  refine (pickInt_any c ad len cap w.heap.size 9 9 [16, 16, 16, 16, 16, 16, 15, 17, 0] _ hlen (by decide) (by decide) rfl ?_ (by have := HZ.out; omega) (by omega) C1.out S1.out).mono ?_
  · intro j hj
    rcases j with _ | _ | _ | _ | _ | _ | _ | _ | _ | j
    all_goals first | omega | (simp only [World.cell?, HH.out]; rfl)
  rintro e w2 ⟨v, ⟨z, hz, rfl⟩, rfl, hc2, hg2⟩
  have hz' : 0 ≤ z ∧ z ≤ 17 := by simp at hz; omega
  obtain ⟨m, rfl⟩ : ∃ m : Nat, z = m := ⟨z.toNat, by omega⟩
  have S2 := Lib.hid (src_grown S1.out hg2 (cur_lt C1.out))
  have C2 := Lib.hid hc2
  have G2 := Lib.hid (grownBy_trans G1.out hg2)
  clear hc2 hg2 hz
  go_wp2_with fail
  refine (text_any c ad len cap m w2 hlen (by omega) C2.out S2.out).mono ?_
  rintro e w3 ⟨v, ⟨a, rfl, ha⟩, rfl, hc3, hg3⟩
  have C3 := Lib.hid hc3
  have G3 := Lib.hid (grownBy_trans G2.out hg3)
  clear hc3 hg3
  go_wp2
  go_ret
  exact ⟨_, ⟨a, rfl, by omega⟩, rfl, C3.out, G3.out⟩

def TextPost (w : World) (e : Ending) (w' : World) : Prop := ∃ a : ByteArray, e = .returned (.string a) ∧ a.size ≤ 17 ∧ Below w.heap.size w w'
def TwoPost (w : World) (e : Ending) (w' : World) : Prop := ∃ a b : ByteArray, e = .returned (.tuple #[.string a, .string b]) ∧ a.size ≤ 17 ∧ b.size ≤ 17 ∧ Below w.heap.size w w'

end Draw
end Go.Proofs.YtmkhflcnkpmhiaaDoor
namespace Go.Proofs.YtmkhflcnkpmhiaaDoor
open Go.RowKit Go.Proofs.YtmkhflcnkpmhiaaDoor.Hexa Go.Proofs.YtmkhflcnkpmhiaaDoor.Byt
namespace Draw

set_option maxHeartbeats 1000000 in
theorem key7_any (c : Nat) (ad : Option Addr) (len cap : Nat) (w : World) (hlen : len ≤ 1048576) (hc : Cur w c ad len cap) (hs : Src w c ad len) :
    Calls Tryd.prog 17 #[.pointer (some ⟨c, 0, none⟩)] w (DrawPost (fun v => ∃ a b : ByteArray, v = .tuple #[.string a, .string b] ∧ a.size ≤ 17 ∧ b.size ≤ 12) w c ad len cap) := by
  have HC := Lib.hid hc
  have HS := Lib.hid hs
  clear hc hs
  go_enter Tryd.func17, Tryd.ntmps17
  go_wp2_with fail
  refine (bytes6_any c ad len cap w hlen HC.out HS.out).mono ?_
  rintro e w0 ⟨v, ⟨t, rfl, ht⟩, rfl, hc0, hg0⟩
  have S0 := Lib.hid (src_grown HS.out hg0 (cur_lt HC.out))
  have hlt0 := cur_lt hc0
  have C1 := Lib.hid (cur_grown hc0 (grown_alloc w0 (.cells #[.int .i64 12, .int .i64 12, .int .i64 12, .int .i64 12, .int .i64 12, .int .i64 11, .int .i64 0] 3) none) (by simp))
  have S1 := Lib.hid (src_grown' S0.out (grown_alloc w0 (.cells #[.int .i64 12, .int .i64 12, .int .i64 12, .int .i64 12, .int .i64 12, .int .i64 11, .int .i64 0] 3) none) (fun k e => by cases e) (by omega))
  have G1 : Hid (w.grownBy (w0.alloc (.cells #[.int .i64 12, .int .i64 12, .int .i64 12, .int .i64 12, .int .i64 12, .int .i64 11, .int .i64 0] 3)) (some c)) := Lib.hid (grownBy_trans hg0 (grown_alloc _ _ _))
  have hh := heap_alloc_new w0 (.cells #[.int .i64 12, .int .i64 12, .int .i64 12, .int .i64 12, .int .i64 12, .int .i64 11, .int .i64 0] 3)
  have hz1 : (w0.alloc (.cells #[.int .i64 12, .int .i64 12, .int .i64 12, .int .i64 12, .int .i64 12, .int .i64 11, .int .i64 0] 3)).heap.size = w0.heap.size + 1 := by simp
  have HH := Lib.hid hh
  have HZ := Lib.hid hz1
  clear hc0 hg0 hh hz1
  go_wp2_with fail
  generalize w0.alloc (.cells #[.int .i64 12, .int .i64 12, .int .i64 12, .int .i64 12, .int .i64 12, .int .i64 11, .int .i64 0] 3) = W1 at C1 S1 G1 HH HZ ⊢
  refine (pickInt_any c ad len cap w0.heap.size 7 7 [12, 12, 12, 12, 12, 11, 0] _ hlen (by decide) (by decide) rfl ?_ (by have := HZ.out; omega) (by omega) C1.out S1.out).mono ?_
  · intro j hj
    rcases j with _ | _ | _ | _ | _ | _ | _ | j
    all_goals first | omega | (simp only [World.cell?, HH.out]; rfl)
  rintro e w2 ⟨v, ⟨z, hz, rfl⟩, rfl, hc2, hg2⟩
  have hz' : 0 ≤ z ∧ z ≤ 12 := by simp at hz; omega
  obtain ⟨m, rfl⟩ : ∃ m : Nat, z = m := ⟨z.toNat, by omega⟩
  have S2 := Lib.hid (src_grown S1.out hg2 (cur_lt C1.out))
  have C2 := Lib.hid hc2
  have G2 := Lib.hid (grownBy_trans G1.out hg2)
  clear hc2 hg2 hz
  go_wp2_with fail
  refine (text_any c ad len cap m w2 hlen (by omega) C2.out S2.out).mono ?_
  rintro e w3 ⟨v, ⟨a, rfl, ha⟩, rfl, hc3, hg3⟩
  have C3 := Lib.hid hc3
  have G3 := Lib.hid (grownBy_trans G2.out hg3)
  clear hc3 hg3
  go_wp2
  go_ret2
  exact ⟨_, ⟨t, a, rfl, ht, by omega⟩, rfl, C3.out, G3.out⟩

def ThreePost (w : World) (e : Ending) (w' : World) : Prop := ∃ a b t : ByteArray, e = .returned (.tuple #[.string a, .string b, .string t]) ∧ a.size ≤ 17 ∧ b.size ≤ 12 ∧ t.size ≤ 40 ∧ Below w.heap.size w w'
set_option maxHeartbeats 1000000 in
theorem drawStreamed_any (ad : Option Addr) (len cap : Nat) (w : World) (hlen : len ≤ 1048576) (hs : Src w w.heap.size ad len) :
    Calls Tryd.prog 8 #[.slice ad len cap] w (ThreePost w) := by
  have HS := Lib.hid hs
  clear hs
  go_enter Tryd.func8, Tryd.ntmps8
  go_wp2_with fail
  refine (new_any ad len cap w hlen HS.out).mono ?_
  rintro e w1 ⟨rfl, h, rfl⟩
  have C1 : Hid (Cur (w.alloc (.cells #[.slice ad len cap, .int .i64 0, .int .i64 h] 48)) w.heap.size ad len cap) := Lib.hid ⟨0, h, Nat.zero_le _, heap_alloc_new w _⟩
  have S1 : Hid (Src (w.alloc (.cells #[.slice ad len cap, .int .i64 0, .int .i64 h] 48)) w.heap.size ad len) := Lib.hid (src_grown' HS.out (grown_alloc _ _ none) (fun k e => by cases e) (Nat.le_refl _))
  have B1 : Hid (Below w.heap.size w (w.alloc (.cells #[.slice ad len cap, .int .i64 0, .int .i64 h] 48))) := Lib.hid ((Below.refl _ _).alloc (Nat.le_refl _) _)
  generalize w.alloc (.cells #[.slice ad len cap, .int .i64 0, .int .i64 h] 48) = W1 at C1 S1 B1 ⊢
  go_wp2_with fail
  refine (key7_any w.heap.size ad len cap W1 hlen C1.out S1.out).mono ?_
  rintro e w2 ⟨v, ⟨a, b, rfl, ha, hb⟩, rfl, hc2, hg2⟩
  have S2 := Lib.hid (src_grown S1.out hg2 (cur_lt C1.out))
  have C2 := Lib.hid hc2
  have B2 := Lib.hid (B1.out.grown hg2 (B1.out.size) (fun k e => by simp at e; omega))
  clear hc2 hg2 C1 S1 B1
  go_wp2_with fail
  refine (below_any w.heap.size ad len cap 40 w2 hlen (by decide) (by decide) C2.out S2.out).mono ?_
  rintro e w3 ⟨x, hx0, hx1, rfl, hc3, hg3⟩
  have S3 := Lib.hid (src_grown S2.out hg3 (cur_lt C2.out))
  have C3 := Lib.hid hc3
  have B3 := Lib.hid (B2.out.grown hg3 (B2.out.size) (fun k e => by simp at e; omega))
  obtain ⟨m, rfl⟩ : ∃ m : Nat, x = m := ⟨x.toNat, by omega⟩
  clear hc3 hg3 C2 S2 B2
  go_wp2_with fail
  refine (text_any w.heap.size ad len cap m w3 hlen (by omega) C3.out S3.out).mono ?_
  rintro e w4 ⟨v, ⟨t, rfl, ht⟩, rfl, hc4, hg4⟩
  have B4 := Lib.hid (B3.out.grown hg4 (B3.out.size) (fun k e => by simp at e; omega))
  clear hc4 hg4
  go_wp2
  go_ret3
  exact ⟨a, b, t, rfl, ha, hb, by omega, B4.out⟩
end Draw
end Go.Proofs.YtmkhflcnkpmhiaaDoor
namespace Go.Proofs.YtmkhflcnkpmhiaaDoor
open Go.RowKit Go.Proofs.YtmkhflcnkpmhiaaDoor.Hexa Go.Proofs.YtmkhflcnkpmhiaaDoor.Byt

/-- What NonceOf returns. -/
def nonceT (f p s : Int) : ByteArray := if (numTextB f 4).size + (numTextB p 2).size + (numTextB s 6).size = 12 then numTextB f 4 ++ numTextB p 2 ++ numTextB s 6 else ⟨#[]⟩
theorem nonceT_eq (f p s : Int) : nonceT f p s = if (numTextB f 4).size + (numTextB p 2).size + (numTextB s 6).size = 12 then numTextB f 4 ++ numTextB p 2 ++ numTextB s 6 else ⟨#[]⟩ := rfl
theorem numTextB_yes (n width : Int) (h : NumFits n width) : (numTextB n width).size = width.toNat := by
  have e : numTextB n width = numB n.toNat width.toNat := by unfold numTextB; exact if_pos h
  rw [e]
  show (numL _ _ _).toArray.size = _
  rw [List.size_toArray, numL_length]
theorem numTextB_no (n width : Int) (h : ¬ NumFits n width) : numTextB n width = ⟨#[]⟩ := by unfold numTextB; exact if_neg h
theorem numTextB_size (n width : Int) : (numTextB n width).size = 0 ∨ (numTextB n width).size = width.toNat := by
  by_cases h : NumFits n width
  · exact .inr (numTextB_yes n width h)
  · rw [numTextB_no n width h]; exact .inl rfl
theorem nonceT_sizes (f p s : Int) : ((numTextB f 4).size = 0 ∨ (numTextB f 4).size = 4) ∧ ((numTextB p 2).size = 0 ∨ (numTextB p 2).size = 2) ∧ ((numTextB s 6).size = 0 ∨ (numTextB s 6).size = 6) ∧ (numTextB f 4).size + (numTextB p 2).size + (numTextB s 6).size ≤ 12 := by
  have h1 : (numTextB f 4).size = 0 ∨ (numTextB f 4).size = 4 := numTextB_size f 4
  have h2 : (numTextB p 2).size = 0 ∨ (numTextB p 2).size = 2 := numTextB_size p 2
  have h3 : (numTextB s 6).size = 0 ∨ (numTextB s 6).size = 6 := numTextB_size s 6
  exact ⟨h1, h2, h3, by omega⟩
end Go.Proofs.YtmkhflcnkpmhiaaDoor
namespace Go.Proofs.YtmkhflcnkpmhiaaDoor
open Go.RowKit Go.Proofs.YtmkhflcnkpmhiaaDoor.Hexa Go.Proofs.YtmkhflcnkpmhiaaDoor.Byt

set_option maxRecDepth 100000 in
set_option maxHeartbeats 400000 in
theorem implNonce_any (f p s : Int) (w : World) (hf : f ≤ 9223372036854775807) (hp : p ≤ 9223372036854775807) (hs : s ≤ 9223372036854775807) :
    Calls Tryd.prog 11 #[.int .i64 f, .int .i64 p, .int .i64 s] w fun e w' => e = .returned (.string (nonceT f p s)) ∧ Below w.heap.size w w' := by
  have h1 := fun w => implNum_any f 4 w hf
  have h2 := fun w => implNum_any p 2 w hp
  have h3 := fun w => implNum_any s 6 w hs
  have hz := nonceT_sizes f p s
  have hE := nonceT_eq f p s
  generalize nonceT f p s = r at hE ⊢
  generalize numTextB f 4 = x at h1 hz hE
  generalize numTextB p 2 = y at h2 hz hE
  generalize numTextB s 6 = z at h3 hz hE
  have k1 := Lib.hid h1
  have k2 := Lib.hid h2
  have k3 := Lib.hid h3
  obtain ⟨hx, hy, hz, hsum⟩ := hz
  clear h1 h2 h3 hf hp hs
  by_cases h : x.size + y.size + z.size = 12
  · rw [if_pos h] at hE
    subst hE
    go_enter Tryd.func11, Tryd.ntmps11
    go_wp2_with fail
    refine (k1.out _).mono ?_
    rintro e w1 ⟨rfl, hb1⟩
    go_wp2_with fail
    refine (k2.out _).mono ?_
    rintro e w2 ⟨rfl, hb2⟩
    go_wp2_with fail
    refine (k3.out _).mono ?_
    rintro e w3 ⟨rfl, hb3⟩
    go_wp2
    go_ret
    exact ⟨rfl, hb1.trans ((hb2.trans (hb3.mono hb2.size)).mono hb1.size)⟩
  · rw [if_neg h] at hE
    subst hE
    go_enter Tryd.func11, Tryd.ntmps11
    go_wp2_with fail
    refine (k1.out _).mono ?_
    rintro e w1 ⟨rfl, hb1⟩
    go_wp2_with fail
    refine (k2.out _).mono ?_
    rintro e w2 ⟨rfl, hb2⟩
    go_wp2_with fail
    refine (k3.out _).mono ?_
    rintro e w3 ⟨rfl, hb3⟩
    go_wp2
    go_ret
    exact ⟨rfl, hb1.trans ((hb2.trans (hb3.mono hb2.size)).mono hb1.size)⟩
end Go.Proofs.YtmkhflcnkpmhiaaDoor
namespace Go.Proofs.YtmkhflcnkpmhiaaDoor
open Go.RowKit Go.Proofs.YtmkhflcnkpmhiaaDoor.Hexa Go.Proofs.YtmkhflcnkpmhiaaDoor.Byt Go.Proofs.YtmkhflcnkpmhiaaDoor.Aes Go.Proofs.YtmkhflcnkpmhiaaDoor.Parts

theorem nonceT_known : (nonceT 1 2 3).size = 12 := by decide +kernel

set_option maxRecDepth 100000 in
set_option maxHeartbeats 4000000 in
theorem fnStreams_law (ad : Option Addr) (len cap : Nat) (w : World) (hlen : len ≤ 1048576) (hs : Draw.Src w w.heap.size ad len) (hT : MixTab w) :
    Calls Tryd.prog 3 #[.slice ad len cap] w fun e w' => e = .returned (.bool true) ∧ Below w.heap.size w w' := by
  have HS := Lib.hid hs
  have HT := Lib.hid hT
  have kn0 := fun w => implNonce_any 1 2 3 w (by omega) (by omega) (by omega)
  have hn12 := nonceT_known
  generalize nonceT 1 2 3 = nn at kn0 hn12
  have kn := Lib.hid kn0
  clear hs hT kn0
  go_enter Tryd.func3, Tryd.ntmps3
  go_wp2_with (go_at_call 7; go_in)
  refine (Draw.drawStreamed_any ad len cap w hlen HS.out).mono ?_
  rintro e w1 ⟨key, nonce, text, rfl, hka, hna, hta, hb1⟩
  have B1 := Lib.hid hb1
  clear hb1
  have ki := Lib.hid fun w hT => implStreamed_any key nonce text w (by omega) hT
  by_cases h16 : key.size = 16 ∧ nonce.size = 12
  · obtain ⟨hk, hn⟩ := h16
    obtain ⟨hback, hsz⟩ := stream_back key nonce hk hn text (by omega)
    have ki2 := fun w hT => implStreamed_any key nonce (xorT text (streamB key nonce text.size)) w (by omega) hT
    rw [hback] at ki2
    generalize xorT text (streamB key nonce text.size) = s at ki ki2 hsz
    have KI2 := Lib.hid ki2
    have hlz := streamT_size key nonce hk hn 40 (by omega)
    have k40 := fun w hT => implStreamOf_yes key nonce 40 w hk hn (by omega) hT
    have s40 := fun w => specStreamOf_yes key nonce 40 w hk hn (by omega)
    have k7 := fun w hT => implStreamOf_yes key nonce 7 w hk hn (by omega) hT
    rw [← cut_seven] at k7
    have b0 := fun w hT => implStreamBlock_yes key nonce 0 w hk hn (by omega) hT
    have b1 := fun w hT => implStreamBlock_yes key nonce 1 w hk hn (by omega) hT
    rw [← cut_nought key nonce hk hn] at b0
    rw [← cut_one key nonce hk hn] at b1
    generalize streamT key nonce 40 = L at hlz k40 s40 k7 b0 b1
    have K40 := Lib.hid k40
    have S40 := Lib.hid s40
    have K7 := Lib.hid k7
    have KB0 := Lib.hid b0
    have KB1 := Lib.hid b1
    clear k40 s40 k7 b0 b1 ki2 hback
    go_wp2_with fail
    refine (ki.out _ (HT.out.below B1.out)).mono ?_
    rintro e w2 ⟨rfl, hb2⟩
    have B2 := Lib.hid (B1.out.trans (hb2.mono B1.out.size))
    clear hb2
    go_wp2_with fail
    refine (K40.out _ (HT.out.below B2.out)).mono ?_
    rintro e w3 ⟨rfl, hb3⟩
    have B3 := Lib.hid (B2.out.trans (hb3.mono B2.out.size))
    clear hb3
    -- REGION
    go_wp2_with fail
    refine wp_region_any (by kernel_rfl) ?_
    change wpAny _ _ _ _ _ _ _ (World.drew w3)
    refine wpAny_take (i := 0) (v := .string key) rfl (by kernel_rfl) (by kernel_rfl) (by kernel_rfl) (fun _ _ _ h => h) (Or.inl ⟨by kernel_rfl, ?_⟩) ?_
    · (intro w; go_simp; try with_reducible rfl)
    refine wpAny_take (i := 1) (v := .string nonce) rfl (by kernel_rfl) (by kernel_rfl) (by kernel_rfl) (fun _ _ _ h => h) (Or.inl ⟨by kernel_rfl, ?_⟩) ?_
    · (intro w; go_simp; try with_reducible rfl)
    refine wpAny_take (i := 2) (v := .string s) rfl (by kernel_rfl) (by kernel_rfl) (by kernel_rfl) (fun _ _ _ h => h) (Or.inl ⟨by kernel_rfl, ?_⟩) ?_
    · (intro w; go_simp; try with_reducible rfl)
    refine wpAny_take (i := 4) (v := .string text) rfl (by kernel_rfl) (by kernel_rfl) (by kernel_rfl) (fun _ _ _ h => h) (Or.inl ⟨by kernel_rfl, ?_⟩) ?_
    · (intro w; go_simp; try with_reducible rfl)
    refine wpAny_ready (rs := [3]) (by kernel_rfl) (by simp) ?_
    refine AllReady.cons rfl (fun K hK => ?_) AllReady.nil
    go_simp
    refine (KI2.out _ (HT.out.below B3.out.drew)).mono ?_
    rintro e w4 ⟨rfl, hb4⟩
    have B4 := Lib.hid (B3.out.drew.trans (hb4.mono B3.out.drew.size))
    refine hK _ _ ?_
    clear hK K hb4
    refine wpAny_take (i := 5) (v := .bool true) rfl (by kernel_rfl) (by kernel_rfl) (by kernel_rfl) (fun _ _ _ h => h) (Or.inl ⟨by kernel_rfl, ?_⟩) ?_
    · (intro w; go_simp; try with_reducible rfl)
    refine wpAny_take (i := 6) (v := .bool true) rfl (by kernel_rfl) (by kernel_rfl) (by kernel_rfl) (fun _ _ _ h => h) (Or.inl ⟨by kernel_rfl, ?_⟩) ?_
    · (intro w; go_simp; try with_reducible rfl)
    refine wpAny_take (i := 7) (v := .string s) rfl (by kernel_rfl) (by kernel_rfl) (by kernel_rfl) (fun _ _ _ h => h) (Or.inl ⟨by kernel_rfl, ?_⟩) ?_
    · (intro w; go_simp; try with_reducible rfl)
    refine wpAny_take (i := 8) (v := .int .i64 s.size) rfl (by kernel_rfl) (by kernel_rfl) (by kernel_rfl) (fun _ _ _ h => h) (Or.inl ⟨by kernel_rfl, ?_⟩) ?_
    · (intro w; go_simp; try with_reducible rfl)
    refine wpAny_take (i := 9) (v := .string text) rfl (by kernel_rfl) (by kernel_rfl) (by kernel_rfl) (fun _ _ _ h => h) (Or.inl ⟨by kernel_rfl, ?_⟩) ?_
    · (intro w; go_simp; try with_reducible rfl)
    refine wpAny_take (i := 10) (v := .int .i64 text.size) rfl (by kernel_rfl) (by kernel_rfl) (by kernel_rfl) (fun _ _ _ h => h) (Or.inl ⟨by kernel_rfl, ?_⟩) ?_
    · (intro w; go_simp; try with_reducible rfl)
    refine wpAny_take (i := 11) (v := .bool true) rfl (by kernel_rfl) (by kernel_rfl) (by kernel_rfl) (fun _ _ _ h => h) (Or.inl ⟨by kernel_rfl, ?_⟩) ?_
    · (intro w; go_simp; try simp [hsz]; try with_reducible rfl)
    refine wpAny_take (i := 12) (v := .bool true) rfl (by kernel_rfl) (by kernel_rfl) (by kernel_rfl) (fun _ _ _ h => h) (Or.inl ⟨by kernel_rfl, ?_⟩) ?_
    · (intro w; go_simp; try with_reducible rfl)
    refine wpAny_take (i := 13) (v := .bool true) rfl (by kernel_rfl) (by kernel_rfl) (by kernel_rfl) (fun _ _ _ h => h) (Or.inl ⟨by kernel_rfl, ?_⟩) ?_
    · (intro w; go_simp; try with_reducible rfl)
    refine wpAny_take (i := 14) (v := .string L) rfl (by kernel_rfl) (by kernel_rfl) (by kernel_rfl) (fun _ _ _ h => h) (Or.inl ⟨by kernel_rfl, ?_⟩) ?_
    · (intro w; go_simp; try with_reducible rfl)
    refine wpAny_take (i := 15) (v := .string (L.extract 0 16)) rfl (by kernel_rfl) (by kernel_rfl) (by kernel_rfl) (fun _ _ _ h => h) (Or.inl ⟨by kernel_rfl, ?_⟩) ?_
    · (intro w; go_simp; try simp [hlz]; try with_reducible rfl)
    refine wpAny_take (i := 16) (v := .string key) rfl (by kernel_rfl) (by kernel_rfl) (by kernel_rfl) (fun _ _ _ h => h) (Or.inl ⟨by kernel_rfl, ?_⟩) ?_
    · (intro w; go_simp; try with_reducible rfl)
    refine wpAny_take (i := 17) (v := .string nonce) rfl (by kernel_rfl) (by kernel_rfl) (by kernel_rfl) (fun _ _ _ h => h) (Or.inl ⟨by kernel_rfl, ?_⟩) ?_
    · (intro w; go_simp; try with_reducible rfl)
    refine wpAny_ready (rs := [18]) (by kernel_rfl) (by simp) ?_
    refine AllReady.cons rfl (fun K hK => ?_) AllReady.nil
    go_simp
    refine (KB0.out _ (HT.out.below B4.out)).mono ?_
    rintro e w5 ⟨rfl, hb5⟩
    have B5 := Lib.hid (B4.out.trans (hb5.mono B4.out.size))
    refine hK _ _ ?_
    clear hK K hb5
    refine wpAny_take (i := 19) (v := .bool true) rfl (by kernel_rfl) (by kernel_rfl) (by kernel_rfl) (fun _ _ _ h => h) (Or.inl ⟨by kernel_rfl, ?_⟩) ?_
    · (intro w; go_simp; try with_reducible rfl)
    refine wpAny_take (i := 20) (v := .bool true) rfl (by kernel_rfl) (by kernel_rfl) (by kernel_rfl) (fun _ _ _ h => h) (Or.inl ⟨by kernel_rfl, ?_⟩) ?_
    · (intro w; go_simp; try with_reducible rfl)
    refine wpAny_take (i := 21) (v := .bool true) rfl (by kernel_rfl) (by kernel_rfl) (by kernel_rfl) (fun _ _ _ h => h) (Or.inl ⟨by kernel_rfl, ?_⟩) ?_
    · (intro w; go_simp; try with_reducible rfl)
    refine wpAny_take (i := 22) (v := .string L) rfl (by kernel_rfl) (by kernel_rfl) (by kernel_rfl) (fun _ _ _ h => h) (Or.inl ⟨by kernel_rfl, ?_⟩) ?_
    · (intro w; go_simp; try with_reducible rfl)
    refine wpAny_take (i := 23) (v := .string (L.extract 16 32)) rfl (by kernel_rfl) (by kernel_rfl) (by kernel_rfl) (fun _ _ _ h => h) (Or.inl ⟨by kernel_rfl, ?_⟩) ?_
    · (intro w; go_simp; try simp [hlz]; try with_reducible rfl)
    refine wpAny_take (i := 24) (v := .string key) rfl (by kernel_rfl) (by kernel_rfl) (by kernel_rfl) (fun _ _ _ h => h) (Or.inl ⟨by kernel_rfl, ?_⟩) ?_
    · (intro w; go_simp; try with_reducible rfl)
    refine wpAny_take (i := 25) (v := .string nonce) rfl (by kernel_rfl) (by kernel_rfl) (by kernel_rfl) (fun _ _ _ h => h) (Or.inl ⟨by kernel_rfl, ?_⟩) ?_
    · (intro w; go_simp; try with_reducible rfl)
    refine wpAny_ready (rs := [26]) (by kernel_rfl) (by simp) ?_
    refine AllReady.cons rfl (fun K hK => ?_) AllReady.nil
    go_simp
    refine (KB1.out _ (HT.out.below B5.out)).mono ?_
    rintro e w6 ⟨rfl, hb6⟩
    have B6 := Lib.hid (B5.out.trans (hb6.mono B5.out.size))
    refine hK _ _ ?_
    clear hK K hb6
    refine wpAny_take (i := 27) (v := .bool true) rfl (by kernel_rfl) (by kernel_rfl) (by kernel_rfl) (fun _ _ _ h => h) (Or.inl ⟨by kernel_rfl, ?_⟩) ?_
    · (intro w; go_simp; try with_reducible rfl)
    refine wpAny_take (i := 28) (v := .bool true) rfl (by kernel_rfl) (by kernel_rfl) (by kernel_rfl) (fun _ _ _ h => h) (Or.inl ⟨by kernel_rfl, ?_⟩) ?_
    · (intro w; go_simp; try with_reducible rfl)
    refine wpAny_take (i := 29) (v := .bool true) rfl (by kernel_rfl) (by kernel_rfl) (by kernel_rfl) (fun _ _ _ h => h) (Or.inl ⟨by kernel_rfl, ?_⟩) ?_
    · (intro w; go_simp; try with_reducible rfl)
    refine wpAny_take (i := 30) (v := .string key) rfl (by kernel_rfl) (by kernel_rfl) (by kernel_rfl) (fun _ _ _ h => h) (Or.inl ⟨by kernel_rfl, ?_⟩) ?_
    · (intro w; go_simp; try with_reducible rfl)
    refine wpAny_take (i := 31) (v := .string nonce) rfl (by kernel_rfl) (by kernel_rfl) (by kernel_rfl) (fun _ _ _ h => h) (Or.inl ⟨by kernel_rfl, ?_⟩) ?_
    · (intro w; go_simp; try with_reducible rfl)
    refine wpAny_take (i := 33) (v := .string L) rfl (by kernel_rfl) (by kernel_rfl) (by kernel_rfl) (fun _ _ _ h => h) (Or.inl ⟨by kernel_rfl, ?_⟩) ?_
    · (intro w; go_simp; try with_reducible rfl)
    refine wpAny_take (i := 34) (v := .string (L.extract 0 7)) rfl (by kernel_rfl) (by kernel_rfl) (by kernel_rfl) (fun _ _ _ h => h) (Or.inl ⟨by kernel_rfl, ?_⟩) ?_
    · (intro w; go_simp; try simp [hlz]; try with_reducible rfl)
    refine wpAny_ready (rs := [32]) (by kernel_rfl) (by simp) ?_
    refine AllReady.cons rfl (fun K hK => ?_) AllReady.nil
    go_simp
    refine (K7.out _ (HT.out.below B6.out)).mono ?_
    rintro e w7 ⟨rfl, hb7⟩
    have B7 := Lib.hid (B6.out.trans (hb7.mono B6.out.size))
    refine hK _ _ ?_
    clear hK K hb7
    refine wpAny_take (i := 35) (v := .bool true) rfl (by kernel_rfl) (by kernel_rfl) (by kernel_rfl) (fun _ _ _ h => h) (Or.inl ⟨by kernel_rfl, ?_⟩) ?_
    · (intro w; go_simp; try with_reducible rfl)
    refine wpAny_take (i := 36) (v := .bool true) rfl (by kernel_rfl) (by kernel_rfl) (by kernel_rfl) (fun _ _ _ h => h) (Or.inl ⟨by kernel_rfl, ?_⟩) ?_
    · (intro w; go_simp; try with_reducible rfl)
    refine wpAny_take (i := 37) (v := .bool true) rfl (by kernel_rfl) (by kernel_rfl) (by kernel_rfl) (fun _ _ _ h => h) (Or.inl ⟨by kernel_rfl, ?_⟩) ?_
    · (intro w; go_simp; try with_reducible rfl)
    refine wpAny_take (i := 38) (v := .string L) rfl (by kernel_rfl) (by kernel_rfl) (by kernel_rfl) (fun _ _ _ h => h) (Or.inl ⟨by kernel_rfl, ?_⟩) ?_
    · (intro w; go_simp; try with_reducible rfl)
    refine wpAny_take (i := 39) (v := .string key) rfl (by kernel_rfl) (by kernel_rfl) (by kernel_rfl) (fun _ _ _ h => h) (Or.inl ⟨by kernel_rfl, ?_⟩) ?_
    · (intro w; go_simp; try with_reducible rfl)
    refine wpAny_take (i := 40) (v := .string nonce) rfl (by kernel_rfl) (by kernel_rfl) (by kernel_rfl) (fun _ _ _ h => h) (Or.inl ⟨by kernel_rfl, ?_⟩) ?_
    · (intro w; go_simp; try with_reducible rfl)
    refine wpAny_ready (rs := [41]) (by kernel_rfl) (by simp) ?_
    refine AllReady.cons rfl (fun K hK => ?_) AllReady.nil
    go_simp
    refine (S40.out _).mono ?_
    rintro e w8 ⟨rfl, hb8⟩
    have B8 := Lib.hid (B7.out.trans (hb8.mono B7.out.size))
    refine hK _ _ ?_
    clear hK K hb8
    refine wpAny_take (i := 42) (v := .bool true) rfl (by kernel_rfl) (by kernel_rfl) (by kernel_rfl) (fun _ _ _ h => h) (Or.inl ⟨by kernel_rfl, ?_⟩) ?_
    · (intro w; go_simp; try with_reducible rfl)
    refine wpAny_take (i := 43) (v := .bool true) rfl (by kernel_rfl) (by kernel_rfl) (by kernel_rfl) (fun _ _ _ h => h) (Or.inl ⟨by kernel_rfl, ?_⟩) ?_
    · (intro w; go_simp; try with_reducible rfl)
    refine wpAny_take (i := 44) (v := .bool true) rfl (by kernel_rfl) (by kernel_rfl) (by kernel_rfl) (fun _ _ _ h => h) (Or.inl ⟨by kernel_rfl, ?_⟩) ?_
    · (intro w; go_simp; try with_reducible rfl)
    refine wpAny_done (by kernel_rfl) ?_ _
    go_simp
    go_wp2
    go_ret
    exact ⟨rfl, B8.out⟩
  · have hE := stream_none key nonce text h16
    rw [hE] at ki
    have k5 := Lib.hid fun w => implStreamOf_no key nonce 5 w (fun e => h16 ⟨e.1, e.2.1⟩)
    clear hE
    go_wp2_with fail
    refine (ki.out _ (HT.out.below B1.out)).mono ?_
    rintro e w2 ⟨rfl, hb2⟩
    have B2 := Lib.hid (B1.out.trans (hb2.mono B1.out.size))
    clear hb2
    by_cases hk : key.size = 16
    · have hn : ¬ nonce.size = 12 := fun e => h16 ⟨hk, e⟩
      clear h16
      go_wp2_with fail
      refine (k5.out _).mono ?_
      rintro e w3 ⟨rfl, hw3⟩
      subst w3
      go_wp2_with fail
      refine (kn.out _).mono ?_
      rintro e w4 ⟨rfl, hb4⟩
      have B4 := Lib.hid (B2.out.trans (hb4.mono B2.out.size))
      clear hb4
      go_wp2
      go_ret
      exact ⟨rfl, B4.out⟩
    · clear h16
      go_wp2_with fail
      refine (k5.out _).mono ?_
      rintro e w3 ⟨rfl, hw3⟩
      subst w3
      go_wp2_with fail
      refine (kn.out _).mono ?_
      rintro e w4 ⟨rfl, hb4⟩
      have B4 := Lib.hid (B2.out.trans (hb4.mono B2.out.size))
      clear hb4
      go_wp2
      go_ret
      exact ⟨rfl, B4.out⟩

theorem fnStreams_big (ad : Option Addr) (len cap : Nat) (w : World) (hlen : 1048576 < len) :
    Calls Tryd.prog 3 #[.slice ad len cap] w fun e w' => e = .returned (.bool true) ∧ Below w.heap.size w w' := by
  go_enter Tryd.func3, Tryd.ntmps3
  go_wp2_with (go_at_call 7; go_in)
  go_ret
  exact ⟨rfl, Below.refl _ _⟩
theorem fnStreams_all (ad : Option Addr) (len cap : Nat) (w : World) (hs : Draw.Src w w.heap.size ad len) (hT : MixTab w) :
    Calls Tryd.prog 3 #[.slice ad len cap] w fun e w' => e = .returned (.bool true) ∧ Below w.heap.size w w' := by
  by_cases h : len ≤ 1048576
  · exact fnStreams_law ad len cap w h hs hT
  · exact fnStreams_big ad len cap w (by omega)
end Go.Proofs.YtmkhflcnkpmhiaaDoor
