/- Merged texts: CtrImpl, GenStream, SameMath, SameImpl, NonceMath, ShaMath. -/
import Derived.Test.YtgpjklnlchbbbaaGreatDoorP9F
import Derived.Test.YtgpjklnlchbbbaaGreatDoorRows
import Derived.WalkKit
import Derived.WalkSpells
import Derived.WalkLawsBesides
import Derived.Lib.Hide
import Derived.Deep.QuietTactic
import Derived.BigQuiet
import Derived.Below
import Derived.Laws.Bits64b
import Derived.IntWalk
namespace Go.Proofs.YtgpjklnlchbbbaaGreatDoor
open Go.RowKit Go.Proofs.YtgpjklnlchbbbaaGreatDoor.Hexa Go.Proofs.YtgpjklnlchbbbaaGreatDoor.Byt Go.Proofs.YtgpjklnlchbbbaaGreatDoor.Aes Go.Proofs.YtgpjklnlchbbbaaGreatDoor.Parts

theorem implBlocksOf_any (key nonce : ByteArray) (w : World) :
    Calls Tryz.prog 107 #[.string key, .string nonce] w fun e w' =>
      e = .returned (.func (.func 108) #[] #[.pointer (some ⟨w.heap.size, 0, none⟩), .pointer (some ⟨w.heap.size + 1, 0, none⟩), .pointer (some ⟨w.heap.size + 1 + 1, 0, none⟩)]) ∧
      w' = ((w.alloc (.cells #[.string key] 9)).alloc (.cells #[.string nonce] 9)).alloc (.cells #[.int .i64 0] 3) := by
  go_enter Tryz.func107, Tryz.ntmps107
  go_wp2
  go_ret
  exact ⟨rfl, rfl⟩

/-- The three variables that the closure has: the key, the nonce, the counter. -/
def Ctr (w : World) (B : Nat) (key nonce : ByteArray) (i : Nat) : Prop :=
  w.heap[B]? = some (.cells #[.string key] 9 (0, 0)) ∧ w.heap[B + 1]? = some (.cells #[.string nonce] 9 (0, 0)) ∧ w.heap[B + 1 + 1]? = some (.cells #[.int .i64 i] 3 (0, 0))
theorem ctr_start (w : World) (key nonce : ByteArray) : Ctr (((w.alloc (.cells #[.string key] 9)).alloc (.cells #[.string nonce] 9)).alloc (.cells #[.int .i64 0] 3)) w.heap.size key nonce 0 := by
  refine ⟨?_, ?_, ?_⟩
  · rw [Below.heap_alloc _ _ _ (by simp; omega), Below.heap_alloc _ _ _ (by simp)]
    exact heap_alloc_new w _
  · rw [Below.heap_alloc _ _ _ (by simp)]
    have := heap_alloc_new (w.alloc (.cells #[.string key] 9)) (.cells #[.string nonce] 9)
    simpa using this
  · have := heap_alloc_new ((w.alloc (.cells #[.string key] 9)).alloc (.cells #[.string nonce] 9)) (.cells #[.int .i64 0] 3)
    simpa using this
theorem ctr_lt {w : World} {B : Nat} {key nonce : ByteArray} {i : Nat} (h : Ctr w B key nonce i) : B + 1 + 1 + 1 ≤ w.heap.size := lt_of_block h.2.2
theorem ctr_next {w w' : World} {B : Nat} {key nonce : ByteArray} {i : Nat} (h : Ctr w B key nonce i) (h2 : w'.heap[B + 1 + 1]? = some (.cells #[.int .i64 ((i : Int) + 1)] 3 (0, 0))) (hg : w.grownBy w' (some (B + 1 + 1))) : Ctr w' B key nonce (i + 1) := by
  have hl := ctr_lt h
  refine ⟨(hg.block B (by omega) (fun e => by simp at e; omega)).trans h.1, (hg.block (B + 1) (by omega) (fun e => by simp at e)).trans h.2.1, ?_⟩
  rw [h2]
  rfl
theorem ctr_below {w w' : World} {B B' : Nat} {key nonce : ByteArray} {i : Nat} (h : Ctr w B key nonce i) (hb : Below B' w w') (hB : B + 1 + 1 + 1 ≤ B') : Ctr w' B key nonce i :=
  ⟨(hb.block B (by omega)).trans h.1, (hb.block (B + 1) (by omega)).trans h.2.1, (hb.block (B + 1 + 1) (by omega)).trans h.2.2⟩
theorem bytes_ctr {w w' : World} {B e : Nat} {v : Value} {l : List UInt8} (h : Bytes w (B + 1 + 1 + 1) e v l) (hg : w.grownBy w' (some (B + 1 + 1))) : Bytes w' (B + 1 + 1 + 1) e v l := by
  rcases h with h | ⟨g, cap, cur, fz, rfl, hb, hh, r⟩
  · exact .inl h
  · exact .inr ⟨g, cap, cur, fz, rfl, hb, (hg.block g (lt_of_block hh) (fun e => by simp at e; omega)).trans hh, r⟩
theorem bytes_not {w : World} {B e : Nat} {v : Value} {l : List UInt8} (h : Bytes w B e v l) (hl : 0 < l.length) : v ≠ .slice none 0 0 := by
  rintro rfl
  rcases h with ⟨_, rfl⟩ | ⟨g, cap, cur, fz, h1, _⟩
  · simp at hl
  · cases h1

set_option maxRecDepth 100000 in
set_option maxHeartbeats 1000000 in
theorem implStreamOf_yes (key nonce : ByteArray) (n : Nat) (w : World) (hk : key.size = 16) (hn : nonce.size = 12) (hn0 : n ≤ 4096) (hT : MixTab w) :
    Calls Tryz.prog 106 #[.string key, .string nonce, .int .i64 n] w fun e w' => e = .returned (.string (streamT key nonce n)) ∧ Below w.heap.size w w' := by
  obtain ⟨i0, hi, hz0, hz1, hz2⟩ := info_parts infoByte
  have HK := Lib.hid hk
  have HN := Lib.hid hn
  have HT := Lib.hid hT
  have kb := Lib.hid fun w => implBlocksOf_any key nonce w
  clear hT
  go_enter Tryz.func106, Tryz.ntmps106
  go_wp2_with fail
  refine (kb.out _).mono ?_
  rintro e w3 ⟨rfl, rfl⟩
  have C3 := Lib.hid (ctr_start w key nonce)
  have B3 : Hid (Below w.heap.size w (((w.alloc (.cells #[.string key] 9)).alloc (.cells #[.string nonce] 9)).alloc (.cells #[.int .i64 0] 3))) := Lib.hid ((((Below.refl _ _).alloc (Nat.le_refl _) _).alloc (by simp) _).alloc (by simp; omega) _)
  have Z3 : Hid ((((w.alloc (.cells #[.string key] 9)).alloc (.cells #[.string nonce] 9)).alloc (.cells #[.int .i64 0] 3)).heap.size = w.heap.size + 1 + 1 + 1) := Lib.hid (by simp)
  generalize ((w.alloc (.cells #[.string key] 9)).alloc (.cells #[.string nonce] 9)).alloc (.cells #[.int .i64 0] 3) = w3 at C3 B3 Z3 ⊢
  clear kb
  go_wp2_with (at_make; refine wpList_make_own _ rfl _ _ 22 rfl (w.heap.size + 1 + 1 + 1) 5 i0 (.int .u8 0) 1 Tryz.underlying22 hi hz0 hz1 .i64 .i64 _ (n + 16) rfl rfl (by omega) (by rw [hz2]; omega) (by unfold maxLen; omega) (by rw [Z3.out]; exact Nat.le_refl _) ?_; intro w4 hown4 hgrow4)
  have hb4 : Bytes w4 (w.heap.size + 1 + 1 + 1) 5 (.slice (some ⟨w3.heap.size, 0, none⟩) 0 (n + 16)) [] := bytes_of_own (l := []) hown4
  have hg4 : Below (w.heap.size + 1 + 1 + 1) w3 w4 := (Below.refl _ _).grown hgrow4 (by rw [Z3.out]; exact Nat.le_refl _) (fun k e => by cases e)
  have HB4 := Lib.hid hb4
  have HC4 := Lib.hid (ctr_below C3.out hg4 (Nat.le_refl _))
  have HL4 := Lib.hid (B3.out.trans (hg4.mono (by omega)))
  obtain ⟨m, hm⟩ : ∃ m : Nat, (n + 16 - 1) / 16 = m := ⟨_, rfl⟩
  have hq : ((n : Int) + 16 - 1) / 16 = (m : Int) := by omega
  rw [hq]
  have HM : Hid (n ≤ 16 * m ∧ m ≤ 256) := Lib.hid (by omega)
  clear hq hm hb4 hg4 hown4 hgrow4 C3 B3
  go_loopw [8, 35] (fun v iv wr => ∃ k : Nat, k ≤ m ∧ iv = .int .i64 k ∧ Hid (Bytes wr (w.heap.size + 1 + 1 + 1) 5 v (strL key nonce k)) ∧ Hid (v ≠ .slice none 0 0) ∧ Hid (Ctr wr w.heap.size key nonce k) ∧ Hid (Below w.heap.size w wr))
    (fun _ iv _ => m - (intOf iv).toNat)
  case atStart => exact ⟨0, Nat.zero_le _, rfl, HB4, Lib.hid (by simp), HC4, HL4⟩
  case round =>
    clear HB4 HC4 HL4
    obtain ⟨k, hkm, rfl, HB, HV, HC, HL⟩ := hrel
    by_cases hlt : k < m
    · have kn := Lib.hid fun g0 g1 g2 w hT h0 h1 h2 => implNext_any key nonce k g0 g1 g2 w HK.out HN.out (by have := HM.out; omega) hT h0 h1 h2
      obtain ⟨a, c, rfl⟩ := bytes_len HB.out
      go_wp2_with fail
      refine (kn.out _ _ _ _ (HT.out.below HL.out) HC.out.1 HC.out.2.1 HC.out.2.2).mono ?_
      rintro e w5 ⟨rfl, h5, hg5⟩
      have hsz := blkAt_size key nonce HK.out HN.out k
      have hbl := bytes_ctr HB.out hg5
      have hc5 := Lib.hid (ctr_next HC.out h5 hg5)
      have hl5 := Lib.hid (HL.out.grown hg5 HL.out.size (fun k e => by simp at e; omega))
      have hnx : strL key nonce k ++ (blkAt key nonce k).data.toList = strL key nonce (k + 1) := rfl
      have hlen := strL_length key nonce HK.out HN.out k
      have hlen2 := strL_length key nonce HK.out HN.out (k + 1)
      have hB5 : w.heap.size + 1 + 1 + 1 ≤ w5.heap.size := ctr_lt hc5.out
      generalize blkAt key nonce k = d at hsz hnx ⊢
      have hm2 : m ≤ 256 := HM.out.2
      have HX := Lib.hid (append_text (P := Tryz.prog) Tryz.underlying22 hi hz0 hz1 hz2 Tryz.underlying9 w5 hbl hB5 22 d (by omega))
      rw [hnx] at HX
      have HL2 := Lib.hid hlen2
      clear hsz hbl hnx hlen hlen2 h5 hg5 kn
      go_wp2_with (at_builtin; refine wpList_append_out rfl (.tmp 37) (.tmp 39) 22 9 rfl _ _ rfl rfl HX.out ?_; intro v1 w6 hb6 hg6)
      go_roundw
      case rel => exact ⟨k + 1, by omega, by go_num, Lib.hid hb6, Lib.hid (bytes_not hb6 (by have := HL2.out; omega)), Lib.hid (ctr_below hc5.out hg6 (Nat.le_refl _)), Lib.hid (hl5.out.trans (hg6.mono (by omega)))⟩
      case measure => (simp [intOf]; try omega)
    · obtain rfl : k = m := by omega
      have hlen := strL_length key nonce HK.out HN.out k
      obtain ⟨g, c, rfl, hg, hlg, hlc, hcm⟩ := bytes_some HB.out HV.out
      have hnl : n ≤ (strL key nonce k).length := by have := HM.out; omega
      have HE : Hid (streamT key nonce n = ⟨((strL key nonce k).take n).toArray⟩) := Lib.hid (by unfold streamT; rw [streamL_of key nonce HK.out HN.out k n HM.out.1 HM.out.2])
      have hconv := bytes_string_cut (P := Tryz.prog) 22 9 Tryz.underlying22 Tryz.underlying5 Tryz.underlying9 HB.out 0 n c (by omega)
      rw [List.drop_zero] at hconv
      have hnc : n ≤ c := by omega
      generalize (strL key nonce k).length = ln at hlen hlc hnl ⊢
      go_wp2
      go_ret
      exact ⟨by rw [HE.out]; rfl, HL.out⟩

theorem implStreamOf_no (key nonce : ByteArray) (n : Int) (w : World) (h : ¬ StreamFits key nonce n) :
    Calls Tryz.prog 106 #[.string key, .string nonce, .int .i64 n] w fun e w' => e = .returned (.string ⟨#[]⟩) ∧ w' = w := by
  by_cases hk : key.size = 16
  · by_cases hn : nonce.size = 12
    · rcases (by unfold StreamFits at h; omega : n < 0 ∨ (0 ≤ n ∧ 4096 < n)) with hneg | ⟨hge, hbig⟩
      · clear h
        go_enter Tryz.func106, Tryz.ntmps106
        go_wp2
        go_ret
        exact ⟨rfl, rfl⟩
      · clear h
        go_enter Tryz.func106, Tryz.ntmps106
        go_wp2
        go_ret
        exact ⟨rfl, rfl⟩
    · clear h
      go_enter Tryz.func106, Tryz.ntmps106
      go_wp2
      go_ret
      exact ⟨rfl, rfl⟩
  · clear h
    go_enter Tryz.func106, Tryz.ntmps106
    go_wp2
    go_ret
    exact ⟨rfl, rfl⟩
theorem implStreamOf_any (key nonce : ByteArray) (n : Int) (w : World) (hT : MixTab w) :
    Calls Tryz.prog 106 #[.string key, .string nonce, .int .i64 n] w fun e w' => e = .returned (.string (streamB key nonce n)) ∧ Below w.heap.size w w' := by
  by_cases h : StreamFits key nonce n
  · rw [streamB_yes h]
    obtain ⟨hk, hn, h0, h1⟩ := h
    obtain ⟨m, rfl⟩ : ∃ m : Nat, n = m := ⟨n.toNat, by omega⟩
    exact implStreamOf_yes key nonce m w hk hn (by omega) hT
  · rw [streamB_no h]
    exact (implStreamOf_no key nonce n w h).mono fun e w' ⟨he, hw⟩ => ⟨he, by rw [hw]; exact Below.refl _ _⟩
theorem implStreamBlock_any (key nonce : ByteArray) (i : Int) (w : World) (hm : nonce.size ≤ 8000000) (hT : MixTab w) :
    Calls Tryz.prog 109 #[.string key, .string nonce, .int .i64 i] w fun e w' => e = .returned (.string (blkB key nonce i)) ∧ Below w.heap.size w w' := by
  by_cases h : BlkFits key nonce i
  · rw [blkB_yes h]
    obtain ⟨⟨hk, hn⟩, h0, h1⟩ := h
    obtain ⟨m, rfl⟩ : ∃ m : Nat, i = m := ⟨i.toNat, by omega⟩
    exact implStreamBlock_yes key nonce m w hk hn (by omega) hT
  · rw [blkB_no h]
    exact implStreamBlock_no key nonce i w hm h

set_option maxRecDepth 100000 in
set_option maxHeartbeats 400000 in
theorem implStreamed_any (key nonce text : ByteArray) (w : World) (ht : text.size ≤ 8000000) (hT : MixTab w) :
    Calls Tryz.prog 104 #[.string key, .string nonce, .string text] w fun e w' => e = .returned (.string (xorT text (streamB key nonce text.size))) ∧ Below w.heap.size w w' := by
  have k1 := Lib.hid fun w hT => implStreamOf_any key nonce text.size w hT
  have k2 := Lib.hid fun b w => implXor_any text b w ht
  have HT := Lib.hid hT
  generalize streamB key nonce text.size = b at k1 ⊢
  clear hT
  go_enter Tryz.func104, Tryz.ntmps104
  go_wp2_with (first
    | (go_at_call 106; refine (k1.out _ HT.out).mono ?_; rintro e w1 ⟨rfl, hb1⟩)
    | (go_at_call 105; refine (k2.out _ _).mono ?_; rintro e w2 ⟨rfl, hb2⟩))
  go_ret
  exact ⟨rfl, hb1.trans (hb2.mono hb1.size)⟩
end Go.Proofs.YtgpjklnlchbbbaaGreatDoor
namespace Go.Proofs.YtgpjklnlchbbbaaGreatDoor.Gen
open Go.RowKit Go.Proofs.YtgpjklnlchbbbaaGreatDoor.Hexa Go.Proofs.YtgpjklnlchbbbaaGreatDoor.Byt Go.Proofs.YtgpjklnlchbbbaaGreatDoor.Aes Go.Proofs.YtgpjklnlchbbbaaGreatDoor.Fld Go.Proofs.YtgpjklnlchbbbaaGreatDoor.BitsM Go.Proofs.YtgpjklnlchbbbaaGreatDoor.Parts
variable [Inhabited Mix4]
/-- Block i of the stream. -/
def blkAt (key nonce : ByteArray) (i : Nat) : ByteArray := blockT key (nonce ++ numB i 4)
/-- The first k blocks of the stream. -/
def strL (key nonce : ByteArray) : Nat → List UInt8
  | 0 => []
  | k + 1 => strL key nonce k ++ (blkAt key nonce k).data.toList
theorem blkAt_size (key nonce : ByteArray) (hk : key.size = 16) (hn : nonce.size = 12) (i : Nat) : (blkAt key nonce i).size = 16 := blockT_size _ _ hk (blkIn_size nonce hn i)
theorem strL_length (key nonce : ByteArray) (hk : key.size = 16) (hn : nonce.size = 12) : ∀ k, (strL key nonce k).length = 16 * k
  | 0 => rfl
  | k + 1 => by
    have h := blkAt_size key nonce hk hn k
    have h2 : (blkAt key nonce k).data.toList.length = 16 := by simpa using h
    show (strL key nonce k ++ (blkAt key nonce k).data.toList).length = _
    rw [List.length_append, strL_length key nonce hk hn k, h2]
    omega
theorem strL_take_succ (key nonce : ByteArray) (hk : key.size = 16) (hn : nonce.size = 12) (k n : Nat) (h : n ≤ 16 * k) : (strL key nonce (k + 1)).take n = (strL key nonce k).take n := by
  show (strL key nonce k ++ (blkAt key nonce k).data.toList).take n = _
  exact List.take_append_of_le_length (by rw [strL_length key nonce hk hn]; exact h)
theorem strL_take (key nonce : ByteArray) (hk : key.size = 16) (hn : nonce.size = 12) (k n : Nat) (h : n ≤ 16 * k) : ∀ m, (strL key nonce (k + m)).take n = (strL key nonce k).take n
  | 0 => rfl
  | m + 1 => (strL_take_succ key nonce hk hn (k + m) n (by omega)).trans (strL_take key nonce hk hn k n h m)
/-- What StreamOf returns. -/
def streamL (key nonce : ByteArray) (n : Nat) : List UInt8 := (strL key nonce 256).take n
theorem streamL_of (key nonce : ByteArray) (hk : key.size = 16) (hn : nonce.size = 12) (k n : Nat) (h : n ≤ 16 * k) (hk2 : k ≤ 256) : (strL key nonce k).take n = streamL key nonce n := by
  have := strL_take key nonce hk hn k n h (256 - k)
  rw [show k + (256 - k) = 256 by omega] at this
  exact this.symm
theorem streamL_length (key nonce : ByteArray) (hk : key.size = 16) (hn : nonce.size = 12) (n : Nat) (h : n ≤ 4096) : (streamL key nonce n).length = n := by
  unfold streamL
  rw [List.length_take, strL_length key nonce hk hn]
  omega
def streamT (key nonce : ByteArray) (n : Nat) : ByteArray := ⟨(streamL key nonce n).toArray⟩
theorem streamT_size (key nonce : ByteArray) (hk : key.size = 16) (hn : nonce.size = 12) (n : Nat) (h : n ≤ 4096) : (streamT key nonce n).size = n := by
  show (streamL key nonce n).toArray.size = n
  rw [List.size_toArray, streamL_length key nonce hk hn n h]
def streamB (key nonce : ByteArray) (n : Int) : ByteArray := if key.size = 16 ∧ nonce.size = 12 ∧ 0 ≤ n ∧ n ≤ 4096 then streamT key nonce n.toNat else ⟨#[]⟩
theorem streamB_yes {key nonce : ByteArray} {n : Int} (h : StreamFits key nonce n) : streamB key nonce n = streamT key nonce n.toNat := if_pos h
theorem streamB_no {key nonce : ByteArray} {n : Int} (h : ¬ StreamFits key nonce n) : streamB key nonce n = ⟨#[]⟩ := if_neg h
set_option maxRecDepth 100000 in
set_option maxHeartbeats 400000 in
theorem implStreamBlock_yes (key nonce : ByteArray) (i : Nat) (w : World) (hk : key.size = 16) (hn : nonce.size = 12) (hi : i < 256) (hT : MixTab w) :
    Calls Tryz.prog 109 #[.string key, .string nonce, .int .i64 i] w fun e w' => e = .returned (.string (blkAt key nonce i)) ∧ Below w.heap.size w w' := by
  have h1 := fun w => implNum_yes i 4 w (by omega) (by omega) (by omega)
  have hz4 := numB_four i
  have h2 := fun w hT => implBlock_yes key (nonce ++ numB i 4) w hk (blkIn_size nonce hn i) hT
  have HE : Hid (blkAt key nonce i = blockT key (nonce ++ numB i 4)) := Lib.hid rfl
  rw [HE.out]
  clear HE
  generalize numB i 4 = c at h1 hz4 h2 ⊢
  have hm : nonce.size + c.size ≤ 16 := by omega
  generalize blockT key (nonce ++ c) = d at h2 ⊢
  have k1 := Lib.hid h1
  have k2 := Lib.hid h2
  have HT := Lib.hid hT
  clear h1 h2 hT
  go_enter Tryz.func109, Tryz.ntmps109
  go_wp2_with (first
    | (go_at_call 111; refine (k1.out _).mono ?_; rintro e w1 ⟨rfl, hb1⟩)
    | (go_at_call 110; refine (k2.out _ (HT.out.below hb1)).mono ?_; rintro e w2 ⟨rfl, hb2⟩))
  go_ret
  exact ⟨rfl, hb1.trans (hb2.mono hb1.size)⟩

set_option maxRecDepth 100000 in
set_option maxHeartbeats 400000 in
theorem implNext_any (key nonce : ByteArray) (i g0 g1 g2 : Nat) (w : World) (hk : key.size = 16) (hn : nonce.size = 12) (hi : i < 256) (hT : MixTab w)
    (h0 : w.heap[g0]? = some (.cells #[.string key] 9 (0, 0))) (h1 : w.heap[g1]? = some (.cells #[.string nonce] 9 (0, 0))) (h2 : w.heap[g2]? = some (.cells #[.int .i64 i] 3 (0, 0))) :
    Calls Tryz.prog 108 #[.pointer (some ⟨g0, 0, none⟩), .pointer (some ⟨g1, 0, none⟩), .pointer (some ⟨g2, 0, none⟩)] w fun e w' =>
      e = .returned (.string (blkAt key nonce i)) ∧ w'.heap[g2]? = some (.cells #[.int .i64 ((i : Int) + 1)] 3 (0, 0)) ∧ w.grownBy w' (some g2) := by
  have k1 := Lib.hid fun w hT => implStreamBlock_yes key nonce i w hk hn hi hT
  have c0 := cell_of_one h0
  have c1 := cell_of_one h1
  have c2 := cell_of_one h2
  have HT := Lib.hid hT
  have H2 := Lib.hid h2
  generalize blkAt key nonce i = d at k1
  clear hk hn hT h0 h1 h2
  go_enter Tryz.func108, Tryz.ntmps108
  go_wp2_with fail
  refine (k1.out _ HT.out).mono ?_
  rintro e w1 ⟨rfl, hb1⟩
  have hh := (hb1.block g2 (lt_of_block H2.out)).trans H2.out
  have d2 := cell_of_one hh
  have f2 := free_of_one hh
  have HH := Lib.hid hh
  have HB := Lib.hid hb1
  clear hh hb1 c0 c1 c2
  go_wp2
  go_ret
  have hb := HB.out
  refine ⟨rfl, one_setCell HH.out, hb.os, hb.tape, hb.output, ?_, ?_⟩
  · show w.heap.size ≤ (w1.heap.modify _ _).size; rw [Array.size_modify]; exact hb.size
  · intro k hk hne
    rw [Below.heap_setCell _ _ _ _ (fun e => hne (by simp at e; rw [e]))]
    exact hb.block k hk
set_option maxRecDepth 100000 in
set_option maxHeartbeats 1000000 in
theorem implStreamOf_yes (key nonce : ByteArray) (n : Nat) (w : World) (hk : key.size = 16) (hn : nonce.size = 12) (hn0 : n ≤ 4096) (hT : MixTab w) :
    Calls Tryz.prog 106 #[.string key, .string nonce, .int .i64 n] w fun e w' => e = .returned (.string (streamT key nonce n)) ∧ Below w.heap.size w w' := by
  obtain ⟨i0, hi, hz0, hz1, hz2⟩ := info_parts infoByte
  have HK := Lib.hid hk
  have HN := Lib.hid hn
  have HT := Lib.hid hT
  have kb := Lib.hid fun w => implBlocksOf_any key nonce w
  clear hT
  go_enter Tryz.func106, Tryz.ntmps106
  go_wp2_with fail
  refine (kb.out _).mono ?_
  rintro e w3 ⟨rfl, rfl⟩
  have C3 := Lib.hid (ctr_start w key nonce)
  have B3 : Hid (Below w.heap.size w (((w.alloc (.cells #[.string key] 9)).alloc (.cells #[.string nonce] 9)).alloc (.cells #[.int .i64 0] 3))) := Lib.hid ((((Below.refl _ _).alloc (Nat.le_refl _) _).alloc (by simp) _).alloc (by simp; omega) _)
  have Z3 : Hid ((((w.alloc (.cells #[.string key] 9)).alloc (.cells #[.string nonce] 9)).alloc (.cells #[.int .i64 0] 3)).heap.size = w.heap.size + 1 + 1 + 1) := Lib.hid (by simp)
  generalize ((w.alloc (.cells #[.string key] 9)).alloc (.cells #[.string nonce] 9)).alloc (.cells #[.int .i64 0] 3) = w3 at C3 B3 Z3 ⊢
  clear kb
  go_wp2_with (at_make; refine wpList_make_own _ rfl _ _ 22 rfl (w.heap.size + 1 + 1 + 1) 5 i0 (.int .u8 0) 1 Tryz.underlying22 hi hz0 hz1 .i64 .i64 _ (n + 16) rfl rfl (by omega) (by rw [hz2]; omega) (by unfold maxLen; omega) (by rw [Z3.out]; exact Nat.le_refl _) ?_; intro w4 hown4 hgrow4)
  have hb4 : Bytes w4 (w.heap.size + 1 + 1 + 1) 5 (.slice (some ⟨w3.heap.size, 0, none⟩) 0 (n + 16)) [] := bytes_of_own (l := []) hown4
  have hg4 : Below (w.heap.size + 1 + 1 + 1) w3 w4 := (Below.refl _ _).grown hgrow4 (by rw [Z3.out]; exact Nat.le_refl _) (fun k e => by cases e)
  have HB4 := Lib.hid hb4
  have HC4 := Lib.hid (ctr_below C3.out hg4 (Nat.le_refl _))
  have HL4 := Lib.hid (B3.out.trans (hg4.mono (by omega)))
  obtain ⟨m, hm⟩ : ∃ m : Nat, (n + 16 - 1) / 16 = m := ⟨_, rfl⟩
  have hq : ((n : Int) + 16 - 1) / 16 = (m : Int) := by omega
  rw [hq]
  have HM : Hid (n ≤ 16 * m ∧ m ≤ 256) := Lib.hid (by omega)
  clear hq hm hb4 hg4 hown4 hgrow4 C3 B3
  go_loopw [8, 35] (fun v iv wr => ∃ k : Nat, k ≤ m ∧ iv = .int .i64 k ∧ Hid (Bytes wr (w.heap.size + 1 + 1 + 1) 5 v (strL key nonce k)) ∧ Hid (v ≠ .slice none 0 0) ∧ Hid (Ctr wr w.heap.size key nonce k) ∧ Hid (Below w.heap.size w wr))
    (fun _ iv _ => m - (intOf iv).toNat)
  case atStart => exact ⟨0, Nat.zero_le _, rfl, HB4, Lib.hid (by simp), HC4, HL4⟩
  case round =>
    clear HB4 HC4 HL4
    obtain ⟨k, hkm, rfl, HB, HV, HC, HL⟩ := hrel
    by_cases hlt : k < m
    · have kn := Lib.hid fun g0 g1 g2 w hT h0 h1 h2 => implNext_any key nonce k g0 g1 g2 w HK.out HN.out (by have := HM.out; omega) hT h0 h1 h2
      obtain ⟨a, c, rfl⟩ := bytes_len HB.out
      go_wp2_with fail
      refine (kn.out _ _ _ _ (HT.out.below HL.out) HC.out.1 HC.out.2.1 HC.out.2.2).mono ?_
      rintro e w5 ⟨rfl, h5, hg5⟩
      have hsz := blkAt_size key nonce HK.out HN.out k
      have hbl := bytes_ctr HB.out hg5
      have hc5 := Lib.hid (ctr_next HC.out h5 hg5)
      have hl5 := Lib.hid (HL.out.grown hg5 HL.out.size (fun k e => by simp at e; omega))
      have hnx : strL key nonce k ++ (blkAt key nonce k).data.toList = strL key nonce (k + 1) := rfl
      have hlen := strL_length key nonce HK.out HN.out k
      have hlen2 := strL_length key nonce HK.out HN.out (k + 1)
      have hB5 : w.heap.size + 1 + 1 + 1 ≤ w5.heap.size := ctr_lt hc5.out
      generalize blkAt key nonce k = d at hsz hnx ⊢
      have hm2 : m ≤ 256 := HM.out.2
      have HX := Lib.hid (append_text (P := Tryz.prog) Tryz.underlying22 hi hz0 hz1 hz2 Tryz.underlying9 w5 hbl hB5 22 d (by omega))
      rw [hnx] at HX
      have HL2 := Lib.hid hlen2
      clear hsz hbl hnx hlen hlen2 h5 hg5 kn
      go_wp2_with (at_builtin; refine wpList_append_out rfl (.tmp 37) (.tmp 39) 22 9 rfl _ _ rfl rfl HX.out ?_; intro v1 w6 hb6 hg6)
      go_roundw
      case rel => exact ⟨k + 1, by omega, by go_num, Lib.hid hb6, Lib.hid (bytes_not hb6 (by have := HL2.out; omega)), Lib.hid (ctr_below hc5.out hg6 (Nat.le_refl _)), Lib.hid (hl5.out.trans (hg6.mono (by omega)))⟩
      case measure => (simp [intOf]; try omega)
    · obtain rfl : k = m := by omega
      have hlen := strL_length key nonce HK.out HN.out k
      obtain ⟨g, c, rfl, hg, hlg, hlc, hcm⟩ := bytes_some HB.out HV.out
      have hnl : n ≤ (strL key nonce k).length := by have := HM.out; omega
      have HE : Hid (streamT key nonce n = ⟨((strL key nonce k).take n).toArray⟩) := Lib.hid (by unfold streamT; rw [streamL_of key nonce HK.out HN.out k n HM.out.1 HM.out.2])
      have hconv := bytes_string_cut (P := Tryz.prog) 22 9 Tryz.underlying22 Tryz.underlying5 Tryz.underlying9 HB.out 0 n c (by omega)
      rw [List.drop_zero] at hconv
      have hnc : n ≤ c := by omega
      generalize (strL key nonce k).length = ln at hlen hlc hnl ⊢
      go_wp2
      go_ret
      exact ⟨by rw [HE.out]; rfl, HL.out⟩

theorem implStreamOf_any (key nonce : ByteArray) (n : Int) (w : World) (hT : MixTab w) :
    Calls Tryz.prog 106 #[.string key, .string nonce, .int .i64 n] w fun e w' => e = .returned (.string (streamB key nonce n)) ∧ Below w.heap.size w w' := by
  by_cases h : StreamFits key nonce n
  · rw [streamB_yes h]
    obtain ⟨hk, hn, h0, h1⟩ := h
    obtain ⟨m, rfl⟩ : ∃ m : Nat, n = m := ⟨n.toNat, by omega⟩
    exact implStreamOf_yes key nonce m w hk hn (by omega) hT
  · rw [streamB_no h]
    exact (implStreamOf_no key nonce n w h).mono fun e w' ⟨he, hw⟩ => ⟨he, by rw [hw]; exact Below.refl _ _⟩
set_option maxRecDepth 100000 in
set_option maxHeartbeats 400000 in
theorem implStreamed_any (key nonce text : ByteArray) (w : World) (ht : text.size ≤ 8000000) (hT : MixTab w) :
    Calls Tryz.prog 104 #[.string key, .string nonce, .string text] w fun e w' => e = .returned (.string (xorT text (streamB key nonce text.size))) ∧ Below w.heap.size w w' := by
  have k1 := Lib.hid fun w hT => implStreamOf_any key nonce text.size w hT
  have k2 := Lib.hid fun b w => implXor_any text b w ht
  have HT := Lib.hid hT
  generalize streamB key nonce text.size = b at k1 ⊢
  clear hT
  go_enter Tryz.func104, Tryz.ntmps104
  go_wp2_with (first
    | (go_at_call 106; refine (k1.out _ HT.out).mono ?_; rintro e w1 ⟨rfl, hb1⟩)
    | (go_at_call 105; refine (k2.out _ _).mono ?_; rintro e w2 ⟨rfl, hb2⟩))
  go_ret
  exact ⟨rfl, hb1.trans (hb2.mono hb1.size)⟩
end Go.Proofs.YtgpjklnlchbbbaaGreatDoor.Gen
namespace Go.Proofs.YtgpjklnlchbbbaaGreatDoor
open Go.RowKit Go.Proofs.YtgpjklnlchbbbaaGreatDoor.BitsM

/-- The first k bytes agree. -/
def SameTo (a b : ByteArray) (k : Nat) : Prop := ∀ j, j < k → a.data.toList[j]? = b.data.toList[j]?
theorem same_all {a b : ByteArray} (hl : a.size = b.size) : SameTo a b a.size ↔ a = b := by
  constructor
  · intro h
    apply ByteArray.ext
    apply Array.toList_inj.1
    apply List.ext_getElem?
    intro j
    by_cases hj : j < a.size
    · exact h j hj
    · have h1 : a.data.toList.length = a.size := by simp
      have h2 : b.data.toList.length = b.size := by simp
      rw [List.getElem?_eq_none (by omega), List.getElem?_eq_none (by omega)]
  · rintro rfl j _; rfl
theorem get_toList (a : ByteArray) (k : Nat) (h : k < a.size) : a.data.toList[k]? = some (a[k]'h) := by
  have h1 : k < a.data.toList.length := by simpa using h
  rw [List.getElem?_eq_getElem h1]; rfl
/-- One byte more. -/
theorem same_next {a b : ByteArray} {k y : Nat} (ha : k < a.size) (hb : k < b.size) (hy : y = 0 ↔ SameTo a b k) : (y ||| ((a[k]'ha) ^^^ (b[k]'hb)).toNat = 0) ↔ SameTo a b (k + 1) := by
  rw [Nat.or_eq_zero_iff, hy]
  have hx : ((a[k]'ha) ^^^ (b[k]'hb)).toNat = 0 ↔ a[k]'ha = b[k]'hb := by
    constructor
    · intro h
      have : (a[k]'ha) ^^^ (b[k]'hb) = 0 := by apply UInt8.toNat.inj; simpa using h
      exact UInt8.xor_eq_zero_iff.1 this
    · intro h; rw [h]; simp
  rw [hx]
  constructor
  · rintro ⟨h1, h2⟩ j hj
    by_cases e : j = k
    · subst e; rw [get_toList a j ha, get_toList b j hb, h2]
    · exact h1 j (by omega)
  · intro h
    refine ⟨fun j hj => h j (by omega), ?_⟩
    have := h k (by omega)
    rw [get_toList a k ha, get_toList b k hb] at this
    exact Option.some.inj this

end Go.Proofs.YtgpjklnlchbbbaaGreatDoor
namespace Go.Proofs.YtgpjklnlchbbbaaGreatDoor
open Go.RowKit Go.Proofs.YtgpjklnlchbbbaaGreatDoor.BitsM

theorem below_drewN {B : Nat} (w : World) (m : Nat) : Below B w (w.drewN m) := ⟨rfl, rfl, rfl, Nat.le_refl _, fun _ _ => rfl⟩

set_option maxRecDepth 100000 in
set_option maxHeartbeats 1000000 in
theorem implSame_any (a b : ByteArray) (w : World) (ha : a.size ≤ 100000000) :
    Calls Tryz.prog 19 #[.string a, .string b] w fun e w' => e = .returned (.bool (decide (a = b))) ∧ ∃ m, w' = w.drewN m := by
  by_cases hl : a.size = b.size
  · go_enter Tryz.func19, Tryz.ntmps19
    go_wp2
    go_loopw [5, 14] (fun yv iv wr => ∃ (k m : Nat) (y : UInt8), k ≤ a.size ∧ iv = .int .i64 k ∧ yv = .int .u8 y.toNat ∧ Hid (y.toNat = 0 ↔ SameTo a b k) ∧ wr = w.drewN m) (fun _ iv _ => a.size - (intOf iv).toNat)
    case atStart => exact ⟨0, 0, 0, Nat.zero_le _, rfl, rfl, Lib.hid ⟨fun _ j hj => by omega, fun _ => rfl⟩, rfl⟩
    case round =>
      obtain ⟨k, m, y, hk, rfl, rfl, HY, rfl⟩ := hrel
      by_cases hlt : k < a.size
      · have hlt' : k < b.size := by omega
        have e1 := xor8 (a[k]'hlt) (b[k]'hlt')
        have e2 := or8 y ((a[k]'hlt) ^^^ (b[k]'hlt'))
        have HN := Lib.hid (same_next hlt hlt' HY.out)
        have HN' : Hid ((y ||| ((a[k]'hlt) ^^^ (b[k]'hlt'))).toNat = 0 ↔ SameTo a b (k + 1)) := Lib.hid (by rw [UInt8.toNat_or]; exact HN.out)
        clear HN
        generalize ((a[k]'hlt) ^^^ (b[k]'hlt')) = z at e1 e2 HN'
        go_wp2
        go_quiet (fail)
        go_wp2
        go_roundw
        case rel => exact ⟨k + 1, _, y ||| z, by omega, by go_num, rfl, HN', rfl⟩
        case measure => (simp [intOf]; try omega)
      · obtain rfl : k = a.size := by omega
        have hr : ((y.toNat : Int) == 0) = decide (a = b) := by
          have hi := (HY.out).trans (same_all hl)
          by_cases h0 : y.toNat = 0
          · rw [decide_eq_true (hi.1 h0), h0]; rfl
          · rw [decide_eq_false (fun h => h0 (hi.2 h))]; exact beq_eq_false_iff_ne.2 (by omega)
        go_wp2
        go_ret
        exact ⟨rfl, _, rfl⟩
  · have hne : decide (a = b) = false := decide_eq_false (fun h => hl (by rw [h]))
    rw [hne]
    go_enter Tryz.func19, Tryz.ntmps19
    go_wp2
    go_ret
    exact ⟨rfl, 0, rfl⟩

end Go.Proofs.YtgpjklnlchbbbaaGreatDoor
namespace Go.Proofs.YtgpjklnlchbbbaaGreatDoor
open Go.RowKit Go.Proofs.YtgpjklnlchbbbaaGreatDoor.Hexa Go.Proofs.YtgpjklnlchbbbaaGreatDoor.Byt

/-- What NonceOf returns. -/
def nonceT (f p s : Int) : ByteArray := if (numTextB f 4).size + (numTextB p 2).size + (numTextB s 6).size = 12 then numTextB f 4 ++ numTextB p 2 ++ numTextB s 6 else ⟨#[]⟩
theorem nonceT_eq (f p s : Int) : nonceT f p s = if (numTextB f 4).size + (numTextB p 2).size + (numTextB s 6).size = 12 then numTextB f 4 ++ numTextB p 2 ++ numTextB s 6 else ⟨#[]⟩ := rfl
theorem numTextB_yes (n width : Int) (h : NumFits n width) : (numTextB n width).size = width.toNat := by
  have e : numTextB n width = numB n.toNat width.toNat := by unfold numTextB; exact if_pos h
  rw [e]
  show (numL _ _ _).toArray.size = _
  rw [List.size_toArray, numL_length]
theorem numTextB_no (n width : Int) (h : ¬ NumFits n width) : numTextB n width = ⟨#[]⟩ := by unfold numTextB; exact if_neg h
theorem numTextB_size (n width : Int) : (numTextB n width).size = 0 ∨ (numTextB n width).size = width.toNat := by
  by_cases h : NumFits n width
  · exact .inr (numTextB_yes n width h)
  · rw [numTextB_no n width h]; exact .inl rfl
theorem nonceT_sizes (f p s : Int) : ((numTextB f 4).size = 0 ∨ (numTextB f 4).size = 4) ∧ ((numTextB p 2).size = 0 ∨ (numTextB p 2).size = 2) ∧ ((numTextB s 6).size = 0 ∨ (numTextB s 6).size = 6) ∧ (numTextB f 4).size + (numTextB p 2).size + (numTextB s 6).size ≤ 12 := by
  have h1 : (numTextB f 4).size = 0 ∨ (numTextB f 4).size = 4 := numTextB_size f 4
  have h2 : (numTextB p 2).size = 0 ∨ (numTextB p 2).size = 2 := numTextB_size p 2
  have h3 : (numTextB s 6).size = 0 ∨ (numTextB s 6).size = 6 := numTextB_size s 6
  exact ⟨h1, h2, h3, by omega⟩
end Go.Proofs.YtgpjklnlchbbbaaGreatDoor
namespace Go.Proofs.YtgpjklnlchbbbaaGreatDoor.Sha
open Go.RowKit

/-- A 32-bit word as the walk holds it, behind a name that nothing unfolds. -/
def u (x : UInt32) : Int := x.toNat
theorem u_bd (x : UInt32) : 0 ≤ u x ∧ u x < 4294967296 := by have := x.toNat_lt; unfold u; omega

theorem u_of (n : Nat) : u (UInt32.ofNat n) = ((n % 4294967296 : Nat) : Int) := by unfold u; rw [UInt32.toNat_ofNat']
theorem bv_u (x : UInt32) : BitVec.ofInt 32 (u x) = x.toBitVec := by
  apply BitVec.eq_of_toNat_eq
  have := x.toNat_lt
  unfold u
  rw [BitVec.ofInt_natCast, BitVec.toNat_ofNat]
  exact Nat.mod_eq_of_lt (by simpa using this)
theorem wrap_u (x : UInt32) : IntKind.u32.wrap (u x) = u x := by
  have := u_bd x
  rw [IntWalk.u32_in _ (by omega)]
theorem wrap_bv (b : BitVec 32) : IntKind.u32.wrap (b.toNat : Int) = u ⟨b⟩ := wrap_u ⟨b⟩

theorem xor_u (a b : UInt32) : bits .xor .u32 (u a) (u b) = u (a ^^^ b) := by
  show IntKind.u32.wrap ((BitVec.ofInt 32 (u a) ^^^ BitVec.ofInt 32 (u b)).toNat : Int) = _
  rw [bv_u, bv_u, wrap_bv]; rfl
theorem and_u (a b : UInt32) : bits .and .u32 (u a) (u b) = u (a &&& b) := by
  show IntKind.u32.wrap ((BitVec.ofInt 32 (u a) &&& BitVec.ofInt 32 (u b)).toNat : Int) = _
  rw [bv_u, bv_u, wrap_bv]; rfl
theorem or_u (a b : UInt32) : bits .or .u32 (u a) (u b) = u (a ||| b) := by
  show IntKind.u32.wrap ((BitVec.ofInt 32 (u a) ||| BitVec.ofInt 32 (u b)).toNat : Int) = _
  rw [bv_u, bv_u, wrap_bv]; rfl
theorem add_u (a b : UInt32) : (u a + u b) % 4294967296 = u (a + b) := by
  unfold u; rw [UInt32.toNat_add]; omega
/-- Shifted right by k places. -/
def sr (x : UInt32) (k : Nat) : UInt32 := UInt32.ofNat (x.toNat / 2 ^ k)
/-- Shifted left by k places. -/
def sl (x : UInt32) (k : Nat) : UInt32 := UInt32.ofNat (x.toNat * 2 ^ k)
theorem sr_u (x : UInt32) (k : Nat) : u x / ((2 ^ k : Nat) : Int) = u (sr x k) := by
  have h1 := x.toNat_lt
  have h2 : x.toNat / 2 ^ k ≤ x.toNat := Nat.div_le_self _ _
  unfold sr
  rw [u_of, Nat.mod_eq_of_lt (by omega)]
  unfold u
  exact (Int.natCast_ediv _ _).symm
theorem sl_u (x : UInt32) (k : Nat) : u x * ((2 ^ k : Nat) : Int) % 4294967296 = u (sl x k) := by
  unfold sl
  rw [u_of]
  unfold u
  rw [Int.natCast_emod, Int.natCast_mul]; rfl
def turn (x : UInt32) (n : Nat) : UInt32 := sr x n ||| sl x (32 - n)
theorem turn_u (x : UInt32) (n : Nat) : bits .or .u32 (u x / 2 ^ n) (u x * 2 ^ (32 - n) % 4294967296) = u (turn x n) := by
  have e1 : u x / 2 ^ n = u (sr x n) := by rw [← sr_u]; simp
  have e2 : u x * 2 ^ (32 - n) % 4294967296 = u (sl x (32 - n)) := by rw [← sl_u]; simp
  rw [e1, e2, or_u]; rfl

/-- A byte as a word. -/
def ub (c : UInt8) : UInt32 := c.toUInt32
theorem ub_u (c : UInt8) : (c.toNat : Int) = u (ub c) := by unfold u ub; simp
theorem or_low (a : UInt32) (c : UInt8) : bits .or .u32 (u a) (c.toNat : Int) = u (a ||| ub c) := by rw [ub_u, or_u]
theorem sl_byte (c : UInt8) (k : Nat) : (c.toNat : Int) * ((2 ^ k : Nat) : Int) % 4294967296 = u (sl (ub c) k) := by rw [ub_u, sl_u]
def byteW (s : ByteArray) (i : Nat) : UInt32 := ub (s.data.toList.getD i 0)
theorem byteW_at (s : ByteArray) (i : Nat) (h : i < s.size) : ((s[i]'h).toNat : Int) = u (byteW s i) := by
  have h' : i < s.data.toList.length := by simpa using h
  rw [ub_u]; unfold byteW
  simp only [List.getD, List.getElem?_eq_getElem h', Option.getD_some]; rfl
/-- Word j of a block. -/
def word (s : ByteArray) (j : Nat) : UInt32 := sl (byteW s (4 * j)) 24 ||| sl (byteW s (4 * j + 1)) 16 ||| sl (byteW s (4 * j + 2)) 8 ||| byteW s (4 * j + 3)

theorem mod_u (x : UInt32) : u x % 4294967296 = u x := by have := u_bd x; omega
theorem word_u (x0 x1 x2 x3 : UInt32) :
    bits .or .u32 (bits .or .u32 (bits .or .u32 (u x0 % 4294967296 * 16777216 % 4294967296) (u x1 % 4294967296 * 65536 % 4294967296)) (u x2 % 4294967296 * 256 % 4294967296)) (u x3 % 4294967296) = u (sl x0 24 ||| sl x1 16 ||| sl x2 8 ||| x3) := by
  have h24 := sl_u x0 24
  have h16 := sl_u x1 16
  have h8 := sl_u x2 8
  simp only [show ((2 ^ 24 : Nat) : Int) = 16777216 from rfl, show ((2 ^ 16 : Nat) : Int) = 65536 from rfl, show ((2 ^ 8 : Nat) : Int) = 256 from rfl] at h24 h16 h8
  rw [mod_u, mod_u, mod_u, mod_u, h24, h16, h8, or_u, or_u, or_u]

/-- A row of words as cells. -/
def wcells (xs : List UInt32) : Array Value := (xs.map fun x => Value.int .u32 (u x)).toArray

def sig0 (x : UInt32) : UInt32 := turn x 7 ^^^ turn x 18 ^^^ sr x 3
def sig1 (x : UInt32) : UInt32 := turn x 17 ^^^ turn x 19 ^^^ sr x 10
/-- Word j of the schedule. -/
def sch (s : ByteArray) (j : Nat) : UInt32 :=
  if _h : j < 16 then word s j else sch s (j - 16) + sig0 (sch s (j - 15)) + sch s (j - 7) + sig1 (sch s (j - 2))
termination_by j
decreasing_by all_goals omega
theorem sch_low (s : ByteArray) (j : Nat) (h : j < 16) : sch s j = word s j := by rw [sch, dif_pos h]
theorem sch_high (s : ByteArray) (j : Nat) (h : 16 ≤ j) : sch s j = sch s (j - 16) + sig0 (sch s (j - 15)) + sch s (j - 7) + sig1 (sch s (j - 2)) := by rw [sch, dif_neg (by omega)]
theorem sr3_u (x : UInt32) : u x / 8 = u (sr x 3) := sr_u x 3
theorem sr10_u (x : UInt32) : u x / 1024 = u (sr x 10) := sr_u x 10
theorem add_w (a b : UInt32) : IntKind.u32.wrap (u a + u b) = u (a + b) := by rw [IntKind.wrap_u32, add_u]

/-- One word more of a row that is known up to k. -/
theorem row_next {f : Nat → UInt32} {xs : List UInt32} {k : Nat} {x : UInt32} (h : ∀ j, j < k → xs[j]? = some (f j)) (hk : k < xs.length) (e : x = f k) : ∀ j, j < k + 1 → (xs.set k x)[j]? = some (f j) := fun j hj => by
  by_cases hjk : j = k
  · rw [hjk, List.getElem?_set_self hk, e]
  · rw [List.getElem?_set_ne (by omega)]; exact h j (by omega)

/-- The eight words of a state. -/
structure St8 where
  a : UInt32
  b : UInt32
  c : UInt32
  d : UInt32
  e : UInt32
  f : UInt32
  g : UInt32
  h : UInt32
def St8.cells (s : St8) : Array Value := #[.int .u32 (u s.a), .int .u32 (u s.b), .int .u32 (u s.c), .int .u32 (u s.d), .int .u32 (u s.e), .int .u32 (u s.f), .int .u32 (u s.g), .int .u32 (u s.h)]
def bigE (x : UInt32) : UInt32 := turn x 6 ^^^ turn x 11 ^^^ turn x 25
def bigA (x : UInt32) : UInt32 := turn x 2 ^^^ turn x 13 ^^^ turn x 22
def chF (e f g : UInt32) : UInt32 := e &&& f ^^^ (e ^^^ 4294967295) &&& g
def majF (a b c : UInt32) : UInt32 := a &&& b ^^^ a &&& c ^^^ b &&& c
/-- A round. -/
def rnd (s : St8) (key word : UInt32) : St8 :=
  ⟨s.h + bigE s.e + chF s.e s.f s.g + key + word + (bigA s.a + majF s.a s.b s.c), s.a, s.b, s.c, s.d + (s.h + bigE s.e + chF s.e s.f s.g + key + word), s.e, s.f, s.g⟩
def rounds (s : St8) (ks : List UInt32) (t : ByteArray) : Nat → St8
  | 0 => s
  | k + 1 => rnd (rounds s ks t k) (ks.getD k 0) (sch t k)

theorem xorc_u (x : UInt32) : bits .xor .u32 (u x) 4294967295 = u (x ^^^ 4294967295) := xor_u x 4294967295

theorem eight_sets {w : World} {q : Nat} {R : St8} {t : TypeId} (h : w.heap[q]? = some (.cells R.cells t (0, 0))) (v0 v1 v2 v3 v4 v5 v6 v7 : Value) :
    ((((((((w.setCell ⟨q, 7, none⟩ v7).setCell ⟨q, 6, none⟩ v6).setCell ⟨q, 5, none⟩ v5).setCell ⟨q, 4, none⟩ v4).setCell ⟨q, 3, none⟩ v3).setCell ⟨q, 2, none⟩ v2).setCell ⟨q, 1, none⟩ v1).setCell ⟨q, 0, none⟩ v0).heap[q]? = some (.cells #[v0, v1, v2, v3, v4, v5, v6, v7] t (0, 0)) := by
  have e : (((((((((R.cells.setIfInBounds 7 v7).setIfInBounds 6 v6).setIfInBounds 5 v5).setIfInBounds 4 v4).setIfInBounds 3 v3).setIfInBounds 2 v2).setIfInBounds 1 v1).setIfInBounds 0 v0)) = #[v0, v1, v2, v3, v4, v5, v6, v7] := by
    simp [St8.cells]
  rw [← e]
  generalize R.cells = cs at h
  exact heap_setCell_same _ q 0 _ t v0 (heap_setCell_same _ q 1 _ t v1 (heap_setCell_same _ q 2 _ t v2 (heap_setCell_same _ q 3 _ t v3 (heap_setCell_same _ q 4 _ t v4 (heap_setCell_same _ q 5 _ t v5 (heap_setCell_same _ q 6 _ t v6 (heap_setCell_same w q 7 cs t v7 h)))))))

theorem cell_words {w : World} {g : Nat} {xs : List UInt32} {t : TypeId} {fr : Nat × Nat} (h : w.heap[g]? = some (.cells (wcells xs) t fr)) (k : Nat) (hk : k < xs.length) : w.cell? ⟨g, k, none⟩ = some (.int .u32 (u xs[k])) := by
  simp [World.cell?, h, wcells, hk]
theorem free_words {w : World} {g : Nat} {cs : Array Value} {t : TypeId} (h : w.heap[g]? = some (.cells cs t (0, 0))) (k : Nat) : w.frozen? ⟨g, k, none⟩ = false := by
  simp [World.frozen?, h]
theorem set_words {w : World} {g k : Nat} {xs : List UInt32} {t : TypeId} (h : w.heap[g]? = some (.cells (wcells xs) t (0, 0))) (x : UInt32) :
    (w.setCell ⟨g, k, none⟩ (.int .u32 (u x))).heap[g]? = some (.cells (wcells (xs.set k x)) t (0, 0)) := by
  rw [heap_setCell_same w g k _ t _ h]
  congr 2
  apply Array.toList_inj.1
  simp [wcells, List.map_set]

def St8.list (s : St8) : List UInt32 := [s.a, s.b, s.c, s.d, s.e, s.f, s.g, s.h]
def addS (S R : St8) : St8 := ⟨S.a + R.a, S.b + R.b, S.c + R.c, S.d + R.d, S.e + R.e, S.f + R.f, S.g + R.g, S.h + R.h⟩
/-- The state behind a block. -/
def blockS (S : St8) (ks : List UInt32) (t : ByteArray) : St8 := addS S (rounds S ks t 64)
theorem cells_list (s : St8) : s.cells = wcells s.list := rfl
theorem addS_getD (S R : St8) (k : Nat) (hk : k < 8) : (addS S R).list.getD k 0 = S.list.getD k 0 + R.list.getD k 0 := by
  rcases k with _ | _ | _ | _ | _ | _ | _ | _ | k
  all_goals first | rfl | omega
theorem list_eq_of {xs : List UInt32} {S : St8} (hl : xs.length = 8) (h : ∀ j, j < 8 → xs[j]? = some (S.list.getD j 0)) : xs = S.list := by
  apply List.ext_getElem?
  intro j
  by_cases hj : j < 8
  · rw [h j hj]
    rcases j with _ | _ | _ | _ | _ | _ | _ | _ | j
    all_goals first | rfl | omega
  · rw [List.getElem?_eq_none (by omega), List.getElem?_eq_none (by show 8 ≤ j; omega)]
theorem list_getD {S : St8} {xs : List UInt32} {k : Nat} (h : xs[k]? = S.list[k]?) (hk : k < xs.length) : xs[k] = S.list.getD k 0 := by
  rw [List.getElem?_eq_getElem hk] at h
  simp [List.getD, ← h]
theorem wcells_size (xs : List UInt32) : (wcells xs).size = xs.length := by simp [wcells]
theorem wcells_one (xs : List UInt32) : ∀ v ∈ (wcells xs).toList, v.oneCell' = true := by
  intro v hv
  simp [wcells] at hv
  obtain ⟨x, _, rfl⟩ := hv
  rfl
end Go.Proofs.YtgpjklnlchbbbaaGreatDoor.Sha
