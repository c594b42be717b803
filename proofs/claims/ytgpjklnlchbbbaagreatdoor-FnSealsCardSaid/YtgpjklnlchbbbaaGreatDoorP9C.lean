/- Merged texts: XorSpec, BlockSpec, BoxesMath, TurnedSpec, BoxesSpec, Keep. -/
import Derived.Test.YtgpjklnlchbbbaaGreatDoorP9B
import Derived.Laws.Rows
import Derived.BigRegion
import Derived.Deep.QuietTactic
import Derived.BigQuiet
import Derived.StillTailTactics
namespace Go.Proofs.YtgpjklnlchbbbaaGreatDoor
open Go.RowKit Go.Proofs.YtgpjklnlchbbbaaGreatDoor.Hexa Go.Proofs.YtgpjklnlchbbbaaGreatDoor.Byt Go.Proofs.YtgpjklnlchbbbaaGreatDoor.BitsM Go.Proofs.YtgpjklnlchbbbaaGreatDoor.Parts

set_option maxRecDepth 100000 in
set_option maxHeartbeats 1000000 in
theorem specXor_any (a b : ByteArray) (w : World) (ha : a.size ≤ 8000000) :
    Calls Tryz.prog 32 #[.string a, .string b] w fun e w' => e = .returned (.string (xorT a b)) ∧ Below w.heap.size w w' := by
  obtain ⟨i0, hi, hz0, hz1, hz2⟩ := info_parts infoByte
  by_cases hl : a.size = b.size
  · have HE : Hid (xorT a b = ⟨(xorL a b a.size).toArray⟩) := Lib.hid (if_pos hl)
    go_enter Tryz.func32, Tryz.ntmps32
    go_wp2
    go_loopw [5, 6] (fun v iv wr => ∃ k : Nat, k ≤ a.size ∧ iv = .int .i64 k ∧ wr.ownsRow w.heap.size 5 1 v k (bcells (xorL a b k)) ∧ Below w.heap.size w wr)
      (fun _ iv _ => a.size - (intOf iv).toNat)
    case atStart => exact ⟨0, Nat.zero_le _, rfl, World.ownsRow_lit w #[] 0 (Nat.le_refl _) (by decide) rfl, (Below.refl _ _).alloc (Nat.le_refl _) _⟩
    case round =>
      obtain ⟨k, hk, rfl, hown, hbel⟩ := hrel
      by_cases hlt : k < a.size
      · have hlt' : k < b.size := by omega
        have e1 := xor8 (a[k]'hlt) (b[k]'hlt')
        have hnx := xorL_next a b k hlt hlt'
        have hzl := ((a[k]'hlt) ^^^ (b[k]'hlt')).toNat_lt
        generalize ((a[k]'hlt) ^^^ (b[k]'hlt')) = z at e1 hnx hzl
        have HNX := Lib.hid hnx
        clear hnx
        go_wp2
        go_region_law (first
          | (refine step_append_lies _ rfl (.tmp 19) (.tmp 27) 22 rfl w.heap.size 5 i0 (.int .u8 0) 1 1 Tryz.underlying22 hi hz0 hz1 hz2 rfl (by decide) u5 k (bcells (xorL a b k)) (by simp [Act.eval]) (hown.alloc _) ⟨wr.heap.size, 0, none⟩ 1 1 [.int .u8 (z.toNat : Int)] (by simp [Act.eval]) rfl (World.news_of_block (heap_alloc_new _ _)) (by simp [Value.oneCell']) (by decide) (by unfold maxLen; omega) (by omega) (by have := hbel.size; simp; omega) _ rfl ?_; intro g cap w1 hown1 hgrow1 hat1 hlt1))
        all_goals
          have hb1 : Below w.heap.size w w1 := ((hbel.alloc hbel.size _).drew).grown hgrow1 (by have := hbel.size; simp; omega) (own_block_ge hown)
          rw [HNX.out] at hown1
          have HO := Lib.hid hown1
          clear hown1 hgrow1 hat1 hlt1 e1 hown
          go_wp2
          go_roundw
          case rel => exact ⟨k + 1, by omega, by go_num, HO.out, hb1⟩
          case measure => simp [intOf]; omega
      · obtain rfl : k = a.size := by omega
        have hconv := own_string (P := Tryz.prog) 22 9 Tryz.underlying22 Tryz.underlying5 Tryz.underlying9 hown
        go_wp2
        go_ret
        exact ⟨by rw [HE.out, hl]; rfl, hbel⟩
  · have HE : Hid (xorT a b = ⟨#[]⟩) := Lib.hid (if_neg hl)
    go_enter Tryz.func32, Tryz.ntmps32
    go_wp2
    go_ret
    exact ⟨by rw [HE.out]; rfl, Below.refl _ _⟩
end Go.Proofs.YtgpjklnlchbbbaaGreatDoor
namespace Go.Proofs.YtgpjklnlchbbbaaGreatDoor
open Go.RowKit Go.Proofs.YtgpjklnlchbbbaaGreatDoor.Hexa Go.Proofs.YtgpjklnlchbbbaaGreatDoor.Byt Go.Proofs.YtgpjklnlchbbbaaGreatDoor.Aes Go.Proofs.YtgpjklnlchbbbaaGreatDoor.Parts

set_option maxRecDepth 100000 in
set_option maxHeartbeats 1000000 in
theorem specBlocks_any (key s : ByteArray) (ad : Option Addr) (cap : Nat) (w : World) (hk : key.size = 16) (hs : s.size = 16) (hr : Reads w ad (scells (keysTo key 11))) :
    Calls Tryz.prog 41 #[.slice ad 11 cap, .string s, .agg boxCells] w fun e w' => e = .returned (.string (blockT key s)) ∧ Below w.heap.size w w' := by
  have HK := Lib.hid hk
  have HS := Lib.hid hs
  have hb := fun s w hs => specBoxed_any s w hs
  have hs8 : boxCells.size = 256 := by show (bcells boxTab).toArray.size = 256; rw [List.size_toArray, bcells_length, boxTab_length]
  generalize boxCells = bc at hb hs8 ⊢
  have kb : Hid (∀ (s : ByteArray) (w : World), s.size ≤ 8000000 → Calls Tryz.prog 56 #[.string s, .agg bc] w fun e w' => e = .returned (.string (boxT s)) ∧ Below w.heap.size w w') := Lib.hid hb
  have s8 := Lib.hid hs8
  clear hb hs8
  have ks : Hid (∀ (s : ByteArray) (w : World), s.size = 16 → Calls Tryz.prog 55 #[.string s] w fun e w' => e = .returned (.string (shiftT s)) ∧ Below w.heap.size w w') := Lib.hid fun s w hs => specShift_yes s w hs
  have km : Hid (∀ (s : ByteArray) (w : World), s.size = 16 → Calls Tryz.prog 57 #[.string s] w fun e w' => e = .returned (.string (mixT s)) ∧ Below w.heap.size w w') := Lib.hid fun s w hs => specMix_yes s w hs
  have kx := Lib.hid fun a b w ha => specXor_any a b w ha
  have HR := Lib.hid hr
  have hbA : Below w.heap.size w (w.alloc (.cells bc 65)) := (Below.refl _ _).alloc (Nat.le_refl _) _
  obtain ⟨g, rfl, c0⟩ := reads_key (reads_below hr hbA) 0 (by omega)
  have HX : Hid ((w.alloc (.cells bc 65)).heap[w.heap.size]? = some (.cells bc 65 (0, 0))) := Lib.hid (heap_alloc_new w _)
  have HSZ : Hid ((w.alloc (.cells bc 65)).heap.size = w.heap.size + 1) := Lib.hid (by simp)
  have HA := Lib.hid hbA
  clear hr hbA
  go_enter Tryz.func41, Tryz.ntmps41
  go_wp2_with fail
  generalize w.alloc (.cells bc 65) = W1 at HX HSZ HA ⊢
  refine (kx.out s (keyT key 0) _ (by omega)).mono ?_
  rintro e w1 ⟨rfl, hb1⟩
  rw [stT_zero key s hk hs]
  have HB1 := Lib.hid hb1
  clear hk hs hb1 c0
  go_wp2_with fail
  go_loopw [7, 8] (fun sv iv wr => ∃ n : Nat, n ≤ 10 ∧ iv = .int .i64 ((n : Int) + 1) ∧ sv = .string (stT key s n) ∧ Hid (Below W1.heap.size W1 wr))
    (fun _ iv _ => 11 - (intOf iv).toNat)
  case atStart => exact ⟨0, Nat.zero_le _, rfl, rfl, HB1⟩
  case round =>
    clear HB1
    obtain ⟨n, hn, rfl, rfl, HL⟩ := hrel
    by_cases hlt : n < 10
    · have hz := stT_size key s HK.out HS.out n (by omega)
      have hload := (HL.out.block w.heap.size (by have := HSZ.out; omega)).trans HX.out
      have hbz := boxT_size (stT key s n)
      go_wp2_with (first
        | (refine wpList_load_row rfl 65 (.tmp 5) rfl w.heap.size rfl 65 bc (0, 0) _ hload Tryz.underlying65 rfl (by rw [s8.out]; kernel_rfl) ?_))
      refine (kb.out _ _ (by omega)).mono ?_
      rintro e w2 ⟨rfl, hb2⟩
      have HN := Lib.hid (stT_next key s HK.out n hlt)
      have hL2 : Below W1.heap.size W1 w2 := HL.out.trans (hb2.mono HL.out.size)
      have hzb : (boxT (stT key s n)).size = 16 := by rw [hbz]; exact hz
      have HL2 := Lib.hid hL2
      clear hload hb2 hL2 hbz hz
      go_wp2_with fail
      refine (ks.out _ _ hzb).mono ?_
      rintro e w3 ⟨rfl, hb3⟩
      have HL3 := Lib.hid (HL2.out.trans (hb3.mono HL2.out.size))
      have hzs := shiftT_size (boxT (stT key s n))
      clear hb3 hzb
      by_cases hlast : n + 1 = 10
      · have HE : Hid (stepT (stT key s n) (stepsN (n + 1)) = shiftT (boxT (stT key s n))) := Lib.hid (by unfold stepsN; rw [if_pos hlast]; rfl)
        rw [HE.out] at HN
        have hg : ¬ ((n : Int) + 1 < 10) := by omega
        clear hlast
        have hd : decide ((n : Int) + 1 < 10) = false := decide_eq_false hg
        obtain ⟨g', hg', ck⟩ := reads_key (reads_below (reads_below HR.out HA.out) (by have := HL3.out; rw [HSZ.out] at this ⊢; exact this)) (n + 1) (by omega)
        cases hg'
        generalize keyT key (n + 1) = kt at ck HN
        have hzx : (shiftT (boxT (stT key s n))).size ≤ 8000000 := by omega
        go_wp2_with fail
        refine (kx.out _ _ _ hzx).mono ?_
        rintro e w4 ⟨rfl, hb4⟩
        rw [HN.out]
        have HL4 := Lib.hid (HL3.out.trans (hb4.mono HL3.out.size))
        clear hb4 ck
        go_wp2
        go_roundw
        case rel => exact ⟨n + 1, by omega, by go_num, rfl, HL4⟩
        case measure => (simp [intOf]; try omega)
      · have HE : Hid (stepT (stT key s n) (stepsN (n + 1)) = mixT (shiftT (boxT (stT key s n)))) := Lib.hid (by unfold stepsN; rw [if_neg hlast]; rfl)
        rw [HE.out] at HN
        have hg : (n : Int) + 1 < 10 := by omega
        clear hlast
        have hd : decide ((n : Int) + 1 < 10) = true := decide_eq_true hg
        go_wp2_with fail
        refine (km.out _ _ hzs).mono ?_
        rintro e w4 ⟨rfl, hb4⟩
        have HL4 := Lib.hid (HL3.out.trans (hb4.mono HL3.out.size))
        clear hb4
        obtain ⟨g', hg', ck⟩ := reads_key (reads_below (reads_below HR.out HA.out) (by have := HL4.out; rw [HSZ.out] at this ⊢; exact this)) (n + 1) (by omega)
        cases hg'
        generalize keyT key (n + 1) = kt at ck HN
        have hzx : (mixT (shiftT (boxT (stT key s n)))).size ≤ 8000000 := by rw [mixT_size]; omega
        go_wp2_with fail
        refine (kx.out _ _ _ hzx).mono ?_
        rintro e w5 ⟨rfl, hb5⟩
        rw [HN.out]
        have HL5 := Lib.hid (HL4.out.trans (hb5.mono HL4.out.size))
        clear hb5 ck
        go_wp2
        go_roundw
        case rel => exact ⟨n + 1, by omega, by go_num, rfl, HL5⟩
        case measure => (simp [intOf]; try omega)
    · obtain rfl : n = 10 := by omega
      go_wp2
      go_ret
      exact ⟨rfl, HA.out.trans (HL.out.mono HA.out.size)⟩
end Go.Proofs.YtgpjklnlchbbbaaGreatDoor
namespace Go.Proofs.YtgpjklnlchbbbaaGreatDoor
open Go.RowKit Go.Proofs.YtgpjklnlchbbbaaGreatDoor.Hexa Go.Proofs.YtgpjklnlchbbbaaGreatDoor.Byt Go.Proofs.YtgpjklnlchbbbaaGreatDoor.Aes Go.Proofs.YtgpjklnlchbbbaaGreatDoor.Fld

/-- 3 to a power. -/
def p3 : Nat → Nat
  | 0 => 1
  | n + 1 => p3 n ^^^ dbl (p3 n)
theorem p3_lt : ∀ n, p3 n < 256
  | 0 => by decide
  | n + 1 => xor_lt (p3_lt n) (dbl_lt _ (p3_lt n))
/-- The cells of a row of numbers. -/
def ncells (l : List Nat) : Array Value := (l.map fun n : Nat => Value.int .i64 (n : Int)).toArray
def padP (i : Nat) : List Nat := (List.range i).map p3 ++ List.replicate (255 - i) 0
theorem padP_length (i : Nat) (h : i ≤ 255) : (padP i).length = 255 := by simp [padP]; omega
theorem padP_set (i : Nat) (h : i < 255) : (padP i).set i (p3 i) = padP (i + 1) := by
  obtain ⟨m, hm⟩ : ∃ m, 255 - i = m + 1 := ⟨255 - i - 1, by omega⟩
  have h2 : 255 - (i + 1) = m := by omega
  have e : ((List.range i).map p3).length = i := by simp
  unfold padP
  rw [h2, hm, List.replicate_succ, List.set_append_right _ _ (by omega), e, Nat.sub_self, List.set_cons_zero, List.range_succ, List.map_append, List.append_assoc]
  rfl
theorem padP_all (j : Nat) (h : j < 255) : (padP 255)[j]? = some (p3 j) := by simp [padP, h]
theorem cell_num {w : World} {g : Nat} {l : List Nat} {t : TypeId} {fr : Nat × Nat} (h : w.heap[g]? = some (.cells (ncells l) t fr)) (k x : Nat) (hk : l[k]? = some x) : w.cell? ⟨g, k, none⟩ = some (.int .i64 x) := by
  simp [World.cell?, h, ncells, hk]
theorem free_cell {w : World} {g : Nat} {cs : Array Value} {t : TypeId} (h : w.heap[g]? = some (.cells cs t (0, 0))) (k : Nat) : w.frozen? ⟨g, k, none⟩ = false := by
  simp [World.frozen?, h]
theorem set_num {w : World} {g k : Nat} {l : List Nat} {t : TypeId} (h : w.heap[g]? = some (.cells (ncells l) t (0, 0))) (x : Nat) :
    (w.setCell ⟨g, k, none⟩ (.int .i64 x)).heap[g]? = some (.cells (ncells (l.set k x)) t (0, 0)) := by
  rw [heap_setCell_same w g k _ t _ h]
  congr 2
  apply Array.toList_inj.1
  simp [ncells, List.map_set]
theorem set_byte {w : World} {g k : Nat} {l : List UInt8} {t : TypeId} (h : w.heap[g]? = some (.cells (bcells l).toArray t (0, 0))) (x : UInt8) :
    (w.setCell ⟨g, k, none⟩ (.int .u8 x.toNat)).heap[g]? = some (.cells (bcells (l.set k x)).toArray t (0, 0)) := by
  rw [heap_setCell_same w g k _ t _ h]
  congr 2
  apply Array.toList_inj.1
  simp [bcells, List.map_set]

/-- The box so far. -/
def outs : Nat → List UInt8
  | 0 => (List.replicate 256 0).set 0 99
  | i + 1 => (outs i).set (p3 i) (UInt8.ofNat (turnF (p3 ((255 - i) % 255)) 5))
theorem outs_length : ∀ i, (outs i).length = 256
  | 0 => by show ((List.replicate 256 (0 : UInt8)).set 0 99).length = 256; rw [List.length_set, List.length_replicate]
  | i + 1 => by show ((outs i).set _ _).length = 256; rw [List.length_set, outs_length i]
/-- Powers and boxes side by side: the powers are reckoned once. -/
def pows : Nat → Nat → List Nat
  | 0, _ => []
  | n + 1, x => x :: pows n (x ^^^ dbl x)
theorem pows_at : ∀ (n m j : Nat), j < n → (pows n (p3 m))[j]? = some (p3 (m + j))
  | n + 1, m, 0, _ => rfl
  | n + 1, m, j + 1, h => by
    show (pows n (p3 (m + 1)))[j]? = _
    rw [pows_at n (m + 1) j (by omega), show m + 1 + j = m + (j + 1) by omega]
def powTab : List Nat := pows 255 1
theorem powTab_at (j : Nat) (h : j < 255) : powTab.getD j 0 = p3 j := by
  have := pows_at 255 0 j h
  rw [List.getD]
  show ((pows 255 (p3 0))[j]?).getD 0 = _
  rw [this, Nat.zero_add]; rfl
def outT (l : List UInt8) (i : Nat) : List UInt8 := l.set (powTab.getD i 0) (UInt8.ofNat (turnF (powTab.getD ((255 - i) % 255) 0) 5))
theorem outs_fold : ∀ i, i ≤ 255 → outs i = (List.range i).foldl outT ((List.replicate 256 0).set 0 99)
  | 0, _ => rfl
  | i + 1, h => by
    rw [List.range_succ, List.foldl_append, ← outs_fold i (by omega)]
    show (outs i).set (p3 i) _ = outT (outs i) i
    unfold outT
    rw [powTab_at i (by omega), powTab_at _ (Nat.mod_lt _ (by omega))]
theorem outs_all : outs 255 = boxTab := by
  rw [outs_fold 255 (Nat.le_refl _)]
  decide +kernel
end Go.Proofs.YtgpjklnlchbbbaaGreatDoor
namespace Go.Proofs.YtgpjklnlchbbbaaGreatDoor
open Go.RowKit Go.Proofs.YtgpjklnlchbbbaaGreatDoor.Fld Go.Proofs.YtgpjklnlchbbbaaGreatDoor.BitsM

theorem box_bits (out b k : Nat) (ho : out < 256) (hb : b < 256) (hk : k < 5) :
    bits .xor .i64 (out : Int) (bits .and .i64 (bits .or .i64 ((b : Int) * 2 ^ k) ((b : Int) / 2 ^ (8 - k))) 255) = ((out ^^^ (((b * 2 ^ k) ||| (b / 2 ^ (8 - k))) &&& 255) : Nat) : Int) := by
  have h1 : (b : Int) * 2 ^ k = ((b * 2 ^ k : Nat) : Int) := by simp
  have h2 : (b : Int) / 2 ^ (8 - k) = ((b / 2 ^ (8 - k) : Nat) : Int) := by simp
  have hp : 2 ^ k ≤ 16 := by
    have : 2 ^ k ≤ 2 ^ 4 := Nat.pow_le_pow_right (by omega) (by omega)
    exact this
  have b1 : b * 2 ^ k < 4096 := by
    have : b * 2 ^ k ≤ b * 16 := Nat.mul_le_mul_left _ hp
    omega
  have b2 : b / 2 ^ (8 - k) < 4096 := Nat.lt_of_le_of_lt (Nat.div_le_self _ _) (by omega)
  rw [h1, h2, or64 _ _ (by omega) (by omega)]
  have b3 : (b * 2 ^ k ||| b / 2 ^ (8 - k)) < 4096 := Nat.or_lt_two_pow (n := 12) b1 b2
  have e255 : (255 : Int) = ((255 : Nat) : Int) := rfl
  rw [e255, and64 _ _ (by omega) (by omega)]
  have b4 : ((b * 2 ^ k ||| b / 2 ^ (8 - k)) &&& 255) < 256 := Nat.lt_of_le_of_lt Nat.and_le_right (by omega)
  rw [xor64 _ _ (by omega) (by omega)]

theorem box_wrap (b k : Nat) (hb : b < 256) (hk : k < 5) : RowKit.wrap64 ((b : Int) * 2 ^ k) = (b : Int) * 2 ^ k := by
  have h1 : (b : Int) * 2 ^ k = ((b * 2 ^ k : Nat) : Int) := by simp
  have hp : 2 ^ k ≤ 16 := by
    have : 2 ^ k ≤ 2 ^ 4 := Nat.pow_le_pow_right (by omega) (by omega)
    exact this
  have b1 : b * 2 ^ k < 4096 := by
    have : b * 2 ^ k ≤ b * 16 := Nat.mul_le_mul_left _ hp
    omega
  rw [h1]
  unfold RowKit.wrap64
  omega

set_option maxRecDepth 100000 in
set_option maxHeartbeats 1000000 in
theorem specTurned_any (b : Nat) (w : World) (hb : b < 256) : Calls Tryz.prog 53 #[.int .i64 b] w fun e w' => e = .returned (.int .i64 (turnF b 5)) ∧ w' = w := by
  go_enter Tryz.func53, Tryz.ntmps53
  go_wp2
  go_loopw [3, 4] (fun ov iv wr => ∃ k out : Nat, k ≤ 5 ∧ iv = .int .i64 k ∧ ov = .int .i64 out ∧ out < 256 ∧ Hid (out = turnF b k) ∧ wr = w) (fun _ iv _ => 5 - (intOf iv).toNat)
  case atStart => exact ⟨0, 99, Nat.zero_le _, rfl, rfl, by omega, Lib.hid rfl, rfl⟩
  case round =>
    obtain ⟨k, out, hk, rfl, rfl, ho, HO, rfl⟩ := hrel
    by_cases hlt : k < 5
    · have hbx := box_bits out b k ho hb hlt
      have n1 : (8 - (k : Int)).toNat = 8 - k := by omega
      have hw := box_wrap b k hb hlt
      have HN : Hid (out ^^^ (((b * 2 ^ k) ||| (b / 2 ^ (8 - k))) &&& 255) = turnF b (k + 1)) := Lib.hid (by rw [HO.out]; rfl)
      have hl : out ^^^ (((b * 2 ^ k) ||| (b / 2 ^ (8 - k))) &&& 255) < 256 := xor_lt ho (Nat.lt_of_le_of_lt Nat.and_le_right (by omega))
      have HBX := Lib.hid hbx
      clear hbx
      go_wp2
      rw [HBX.out]
      go_roundw
      case rel => exact ⟨k + 1, _, by omega, by go_num, rfl, hl, HN, by first | rfl | trivial⟩
      case measure => simp [intOf]; omega
    · obtain rfl : k = 5 := by omega
      go_wp2
      go_ret
      exact ⟨ret_int (by rw [HO.out]), rfl⟩
end Go.Proofs.YtgpjklnlchbbbaaGreatDoor
namespace Go.Proofs.YtgpjklnlchbbbaaGreatDoor
open Go.RowKit Go.Proofs.YtgpjklnlchbbbaaGreatDoor.Hexa Go.Proofs.YtgpjklnlchbbbaaGreatDoor.Byt Go.Proofs.YtgpjklnlchbbbaaGreatDoor.Aes Go.Proofs.YtgpjklnlchbbbaaGreatDoor.Fld Go.Proofs.YtgpjklnlchbbbaaGreatDoor.BitsM

def z255 : Array Value := ncells (List.replicate 255 0)
def z256 : Array Value := (bcells (List.replicate 256 0)).toArray
theorem run_alloc256 (W : World) : (Instr.alloc 65 true (.tuple #[])).run Tryz.prog W = .ok (.pointer (some ⟨W.heap.size, 0, none⟩)) (W.alloc (.cells z256 65)) := by kernel_rfl
theorem run_alloc255 (W : World) : (Instr.alloc 84 true (.tuple #[])).run Tryz.prog W = .ok (.pointer (some ⟨W.heap.size, 0, none⟩)) (W.alloc (.cells z255 84)) := by kernel_rfl
theorem built256 : (Tryz.prog.built 65 []).isSome = true ∧ (Tryz.prog.built 65 []).getD #[] = z256 := ⟨by kernel_rfl, by kernel_rfl⟩
theorem built255 : (Tryz.prog.built 84 []).isSome = true ∧ (Tryz.prog.built 84 []).getD #[] = z255 := ⟨by kernel_rfl, by kernel_rfl⟩
theorem wpList_allocCells {ops : Array Oper} {rest : List Oper} {o : Oper} {a : Act} {w : World} {Q : Exit → Act → World → Prop} (hg : o.guard = none) (t : TypeId) (ho : o.op = .alloc t) (cs : Array Value)
    (hr : ∀ W : World, (Instr.alloc t true (.tuple #[])).run Tryz.prog W = .ok (.pointer (some ⟨W.heap.size, 0, none⟩)) (W.alloc (.cells cs t)))
    (h : wpList Tryz.prog ops Q rest (a.put o.dst (.pointer (some ⟨w.heap.size, 0, none⟩))) (w.alloc (.cells cs t))) : wpList Tryz.prog ops Q (o :: rest) a w := by
  refine wpList_plain hg fun K hK => ?_
  unfold Oper.wp execOp
  simp only [ho, Sem.run_bind, Sem.run_pure, hr, Result.andThen_ok]
  exact hK _ _ h
theorem wpList_buildCells {ops : Array Oper} {rest : List Oper} {o : Oper} {a : Act} {w : World} {Q : Exit → Act → World → Prop} (hg : o.guard = none) (t : TypeId) (cs : Array Value) (ho : o.op = .build t #[])
    (hb : (Tryz.prog.built t []).isSome = true ∧ (Tryz.prog.built t []).getD #[] = cs)
    (h : wpList Tryz.prog ops Q rest (a.put o.dst (.agg cs)) w) : wpList Tryz.prog ops Q (o :: rest) a w := by
  refine wpList_build hg t #[] ho (by simpa using hb.1) ?_
  have e := hb.2
  simp only [List.map_toArray, List.map_nil]
  rw [e]
  exact h

/-- The blocks of a call: the result, the powers. -/
def BMem (w wr : World) (ps : List Nat) : Prop :=
  wr.heap[w.heap.size]? = some (.cells z256 65 (0, 0)) ∧ wr.heap[w.heap.size + 1]? = some (.cells (ncells ps) 84 (0, 0)) ∧ Below w.heap.size w wr ∧ wr.heap.size = w.heap.size + 1 + 1
theorem bmem_set {w wr : World} {ps : List Nat} (h : BMem w wr ps) (k x : Nat) : BMem w (wr.setCell ⟨w.heap.size + 1, k, none⟩ (.int .i64 x)) (ps.set k x) := by
  obtain ⟨h1, h2, h3, h4⟩ := h
  refine ⟨?_, set_num h2 x, h3.setCell (by show _ ≤ w.heap.size + 1; omega) _, by simpa using h4⟩
  rw [Below.heap_setCell _ _ _ _ (by simp)]; exact h1
theorem bmem_start (w : World) : BMem w (((w.alloc (.cells z256 65)).alloc (.cells z255 84)).setRow (w.heap.size + 1) z255) (padP 0) := by
  have n1 := heap_alloc_new w (.cells z256 65)
  have n2 := heap_alloc_new (w.alloc (.cells z256 65)) (.cells z255 84)
  simp only [World.size_alloc] at n2
  refine ⟨?_, setRow_heap _ _ _ _ _ _ n2, (((Below.refl _ _).alloc (Nat.le_refl _) _).alloc (by simp) _).trans ⟨rfl, rfl, rfl, by simp, fun k hk => setRow_other _ _ _ _ (by omega)⟩, by simp⟩
  rw [setRow_other _ _ _ _ (by omega), Below.heap_alloc _ _ _ (by simp)]; exact n1
theorem bmem_draws {w wr : World} {ps : List Nat} (h : BMem w wr ps) (n : Nat) : BMem w (wr.drewN n) ps := ⟨h.1, h.2.1, ⟨h.2.2.1.os, h.2.2.1.tape, h.2.2.1.output, h.2.2.1.size, h.2.2.1.block⟩, h.2.2.2⟩

/-- The blocks of the second half: the result, the powers, the box so far. -/
def OMem (w wr : World) (l : List UInt8) : Prop :=
  wr.heap[w.heap.size]? = some (.cells z256 65 (0, 0)) ∧ wr.heap[w.heap.size + 1]? = some (.cells (ncells (padP 255)) 84 (0, 0)) ∧ wr.heap[w.heap.size + 1 + 1]? = some (.cells (bcells l).toArray 65 (0, 0)) ∧ Below w.heap.size w wr
theorem omem_start {w wr : World} (h : BMem w wr (padP 255)) : OMem w ((wr.alloc (.cells z256 65)).setRow (w.heap.size + 1 + 1) z256) (List.replicate 256 0) := by
  obtain ⟨h1, h2, h3, h4⟩ := h
  have n := heap_alloc_new wr (.cells z256 65)
  rw [h4] at n
  refine ⟨?_, ?_, setRow_heap _ _ _ _ _ _ n, (h3.alloc (by omega) _).trans ⟨rfl, rfl, rfl, by simp, fun k hk => setRow_other _ _ _ _ (by omega)⟩⟩
  · rw [setRow_other _ _ _ _ (by omega), Below.heap_alloc _ _ _ (by omega)]; exact h1
  · rw [setRow_other _ _ _ _ (by omega), Below.heap_alloc _ _ _ (by omega)]; exact h2
theorem omem_set {w wr : World} {l : List UInt8} (h : OMem w wr l) (k : Nat) (x : UInt8) : OMem w (wr.setCell ⟨w.heap.size + 1 + 1, k, none⟩ (.int .u8 x.toNat)) (l.set k x) := by
  obtain ⟨h1, h2, h3, h4⟩ := h
  refine ⟨?_, ?_, set_byte h3 x, h4.setCell (by show _ ≤ w.heap.size + 1 + 1; omega) _⟩
  · rw [Below.heap_setCell _ _ _ _ (by simp; try omega)]; exact h1
  · rw [Below.heap_setCell _ _ _ _ (by simp)]; exact h2
theorem omem_draws {w wr : World} {l : List UInt8} (h : OMem w wr l) (n : Nat) : OMem w (wr.drewN n) l := ⟨h.1, h.2.1, h.2.2.1, ⟨h.2.2.2.os, h.2.2.2.tape, h.2.2.2.output, h.2.2.2.size, h.2.2.2.block⟩⟩

set_option maxRecDepth 100000 in
set_option maxHeartbeats 4000000 in
theorem specBoxes_any (w : World) :
    Calls Tryz.prog 39 #[] w fun e w' => e = .returned (.agg boxCells) ∧ Below w.heap.size w w' := by
  have h7 : ((w.alloc (.cells z256 65)).alloc (.cells z255 84)).heap[w.heap.size + 1]? = some (.cells z255 84 (0, 0)) := by
    have := heap_alloc_new (w.alloc (.cells z256 65)) (.cells z255 84)
    simpa using this
  have hsr := run_storeCells_from (P := Tryz.prog) (w.heap.size + 1) 84 z255.toList 0 z255 _ h7 (by simp [z255, ncells]) (fun v hv => by simp [z255, ncells] at hv; rw [hv]; rfl)
  simp at hsr
  have BM0 := Lib.hid (bmem_start w)
  clear h7
  go_enter Tryz.func39, Tryz.ntmps39
  go_wp2_with (first
    | (refine wpList_allocCells rfl 65 rfl z256 run_alloc256 ?_)
    | (refine wpList_allocCells rfl 84 rfl z255 run_alloc255 ?_)
    | (refine wpList_buildCells rfl 84 z255 rfl built255 ?_)
    | (refine wpList_buildCells rfl 65 z256 rfl built256 ?_))
  clear hsr
  go_loopw [2, 3] (fun xv iv wr => ∃ i : Nat, i ≤ 255 ∧ iv = .int .i64 i ∧ xv = .int .i64 (p3 i) ∧ Hid (BMem w wr (padP i)))
    (fun _ iv _ => 255 - (intOf iv).toNat)
  case atStart => exact ⟨0, Nat.zero_le _, rfl, rfl, BM0⟩
  case round =>
    clear BM0
    obtain ⟨i, hi, rfl, rfl, HM⟩ := hrel
    by_cases hlt : i < 255
    · have hl := p3_lt i
      have HE : Hid (p3 (i + 1) = p3 i ^^^ dbl (p3 i)) := Lib.hid rfl
      have M1 := bmem_set HM.out i (p3 i)
      rw [padP_set i hlt] at M1
      have HM1 := Lib.hid M1
      have c1 : ∃ v, wr.cell? ⟨w.heap.size + 1, i, none⟩ = some v := ⟨_, cell_num HM.out.2.1 i ((padP i)[i]'(by rw [padP_length i (by omega)]; exact hlt)) (List.getElem?_eq_getElem _)⟩
      obtain ⟨v1, c1⟩ := c1
      have f1 := free_cell HM.out.2.1 i
      clear M1 HM
      have hd := dbl_lt _ hl
      have hx := xor64 (p3 i) (dbl (p3 i)) (by omega) (by omega)
      rw [← HE.out] at hx
      go_wp2_with (go_at_call 52; refine (specDouble_yes _ _ hl).mono ?_; rintro e w3 ⟨rfl, rfl⟩)
      go_roundw
      case rel => exact ⟨i + 1, by omega, by go_num, rfl, HM1⟩
      case measure => (simp [intOf]; try omega)
    · obtain rfl : i = 255 := by omega
      have n8 : wr.heap.size = w.heap.size + 1 + 1 := HM.out.2.2.2
      have h8 := heap_alloc_new wr (.cells z256 65)
      have hsr := run_storeCells_from (P := Tryz.prog) wr.heap.size 65 z256.toList 0 z256 _ h8 (by simp [z256, bcells]) (fun v hv => by simp [z256, bcells] at hv; rw [hv]; rfl)
      simp [n8] at hsr
      have O0 := omem_start HM.out
      generalize hW2 : (wr.alloc (.cells z256 65)).setRow (w.heap.size + 1 + 1) z256 = W2 at hsr O0
      clear HM h8 hW2
      have c0 := cell_byte O0.2.2.1 0 0 rfl
      have f0 := free_cell O0.2.2.1 0
      have O1 := Lib.hid (omem_set O0 0 99)
      clear O0
      go_wp2_with (first
        | (refine wpList_allocCells rfl 65 rfl z256 run_alloc256 ?_)
        | (refine wpList_buildCells rfl 65 z256 rfl built256 ?_))
      clear hsr c0 f0 n8
      go_loopw [5] (fun iv wr => ∃ i : Nat, i ≤ 255 ∧ iv = .int .i64 i ∧ Hid (OMem w wr (outs i)))
        (fun iv _ => 255 - (intOf iv).toNat)
      case atStart => exact ⟨0, Nat.zero_le _, rfl, O1⟩
      case round =>
        clear O1
        obtain ⟨i, hi, rfl, HM⟩ := hrel
        by_cases hlt : i < 255
        · obtain ⟨j, hj1, hj2, hj3⟩ : ∃ j : Nat, (255 - (i : Int)) % 255 = j ∧ j < 255 ∧ (255 - i) % 255 = j := ⟨(255 - i) % 255, by omega, by omega, rfl⟩
          have c1 := cell_num HM.out.2.1 i (p3 i) (padP_all i hlt)
          have c2 := cell_num HM.out.2.1 j (p3 j) (padP_all j hj2)
          have l1 := p3_lt i
          have l2 := p3_lt j
          have l3 := turnF_lt (p3 j) 5
          have c3 := cell_byte HM.out.2.2.1 (p3 i) ((outs i)[p3 i]'(by rw [outs_length]; exact l1)) (List.getElem?_eq_getElem _)
          have f3 := free_cell HM.out.2.2.1 (p3 i)
          have HE : Hid (outs (i + 1) = (outs i).set (p3 i) (UInt8.ofNat (turnF (p3 j) 5))) := Lib.hid (by rw [← hj3]; rfl)
          have O1 := omem_set HM.out (p3 i) (UInt8.ofNat (turnF (p3 j) 5))
          rw [← HE.out] at O1
          have HO := Lib.hid O1
          clear O1 HE HM
          have w1 : IntKind.i64.wrap (255 - (i : Int)) = 255 - (i : Int) := IntWalk.i64_in _ (by omega)
          have t1 : (255 - (i : Int)).tmod 255 = (j : Int) := by rw [Int.tmod_eq_emod_of_nonneg (by omega)]; exact hj1
          have j4 : (0 : Int) ≤ (j : Int) ∧ (j : Int) < 255 := by omega
          have p4 : (0 : Int) ≤ (p3 i : Int) ∧ (p3 i : Int) < 256 := by omega
          have W8 : Hid ((turnF (p3 j) 5 : Int) = ((UInt8.ofNat (turnF (p3 j) 5)).toNat : Int)) := Lib.hid (by rw [UInt8.toNat_ofNat']; omega)
          go_wp2
          refine wp_region_still_tail 11 (by kernel_rfl) (by kernel_rfl) ?_
          simp only [List.take_succ_cons, List.take_zero, List.drop_succ_cons, List.drop_zero]
          still_step
          still_step
          still_step
          still_step
          still_step
          still_step
          still_step
          still_step
          still_call (specTurned_any (p3 j) _ l2)
          still_step
          still_step
          refine wpStill_nil ?_
          change wpList _ _ _ _ _ wr.drew
          go_wp2
          rw [W8.out]
          go_roundw
          case rel => exact ⟨i + 1, by omega, by go_num, Lib.hid (omem_draws HO.out 1)⟩
          case measure => (simp [intOf]; try omega)
        · obtain rfl : i = 255 := by omega
          have m2 := HM.out.2.2.1
          rw [outs_all] at m2
          have e0 : (bcells boxTab).toArray = boxCells := rfl
          rw [e0] at m2
          have s8 : boxCells.size = 256 := by show (bcells boxTab).toArray.size = 256; rw [List.size_toArray, bcells_length, boxTab_length]
          have hone : ∀ v ∈ boxCells.toList, v.oneCell' = true := bcells_one boxTab
          have hsr3 := run_storeCells_from (P := Tryz.prog) w.heap.size 65 boxCells.toList 0 z256 _ HM.out.1 (by simp [z256, bcells, s8]) hone
          simp at hsr3
          clear hone e0
          go_wp2_with (first
            | (refine wpList_load_row rfl 65 (.tmp 4) rfl (w.heap.size + 1 + 1) rfl 65 boxCells (0, 0) _ m2 Tryz.underlying65 rfl (by rw [s8]; kernel_rfl) ?_))
          (try simp only [Exit.inBlock, Exit.then])
          refine bodyPost_ret (results_cell_row rfl _ _ w.heap.size 65 boxCells (0, 0) _ rfl (setRow_heap _ _ _ _ _ _ HM.out.1) Tryz.underlying65 rfl (by rw [s8]; kernel_rfl)) rfl ?_
          exact ⟨rfl, HM.out.2.2.2.trans ⟨rfl, rfl, rfl, by simp, fun k hk => setRow_other _ _ _ _ (by omega)⟩⟩
end Go.Proofs.YtgpjklnlchbbbaaGreatDoor
namespace Go.Proofs.YtgpjklnlchbbbaaGreatDoor
open Go.RowKit Go.Proofs.YtgpjklnlchbbbaaGreatDoor.Hexa Go.Proofs.YtgpjklnlchbbbaaGreatDoor.Byt Go.Lib
namespace Byt

/-- What an append yields: the bytes, in the block that they had or in a new one; no other block is written. -/
def Kept (P : Program) (args : Array TypeId) (ty : TypeId) (vs : Array Value) (w : World) (B : Nat) (e : TypeId) (l : List UInt8) (v : Value) : Prop :=
  ∃ v' w', (Builtin.append_ args ty vs).run P w = .ok v' w' ∧ Bytes w' B e v' l ∧ v' ≠ .slice none 0 0 ∧ w.grownBy w' v.ownBlock ∧ (v'.ownBlock = v.ownBlock ∨ v'.ownBlock = some w.heap.size)

section
variable {P : Program} {t e : TypeId} {i : TypeInfo} (ht : P.underlying t = some (.slice e)) (hi : P.info? e = some i) (hz : i.zero = some (.int .u8 0)) (hs1 : i.size = 1) (hb1 : i.bytes = 1)
include ht hi hz hs1 hb1
theorem append_kept (w : World) {B : Nat} {v : Value} {l : List UInt8} (h : Bytes w B e v l) (hB : B ≤ w.heap.size) (hv : v ≠ .slice none 0 0) (ty : TypeId) (ad : Addr) (c : Nat) (news : List UInt8) (hn : ∀ j u, (bcells news)[j]? = some u → w.cell? (ad.add j) = some u) (hl : l.length + news.length ≤ 1000000000) :
    Kept P #[t, t] ty #[v, .slice (some ad) news.length c] w B e (l ++ news) v := by
  rcases h with ⟨rfl, rfl⟩ | ⟨g, cap, cur, fz, rfl, hb, hg, hfz, hlc, hm, hcs, htk⟩
  · exact absurd rfl hv
  · by_cases hroom : l.length + news.length ≤ cap
    · have hf := run_firstCells_some (P := P) w 1 news.length ad news.length c (bcells news) (by simp [bcells]) hn
      have hst := Byt.run_store P g l.length e fz (bcells news) 0 cur w hg hfz (by simp [bcells]; omega) (bcells_one _)
      simp only [Nat.add_zero, bcells_length] at hst
      refine ⟨_, _, ?_, bytes_room hb hg hfz hm hcs htk news hroom, by simp, ⟨rfl, rfl, rfl, by simp, fun k _ hk => setRow_other _ _ _ _ (fun he => hk (by rw [he]; rfl))⟩, .inl rfl⟩
      simp [Builtin.append_, run_underlying ht, sizeOf, typeInfo, hi, hs1, Builtin.lenOf, hroom, hf, Addr.add_lit, hst]
    · have hr := run_append_grow (P := P) w t ty e i (.int .u8 0) ht hi hz ⟨g, 0, none⟩ l.length cap (bcells l) (by simp [bcells, hs1]) (bytes_cells (_cap := cap) hg htk) ad news.length c (bcells news) (by simp [bcells, hs1]) hn (by omega) (by omega) (growslice_fits (by omega) (by rw [hb1]; omega))
      have hge := grownCap_ge w (l.length + news.length) cap e
      have hcm := grownCap_le_maxLen w (l.length + news.length) cap e (by unfold maxLen; omega)
      refine ⟨_, _, hr, bytes_grown w l news _ hB hge hcm _ ?_, by simp, ⟨rfl, rfl, rfl, by simp, fun k hk _ => Below.heap_alloc w.drew _ _ hk⟩, .inr rfl⟩
      simp [Builtin.zeroCells, Value.cells]
end
theorem bytes_some {w : World} {B e : Nat} {v : Value} {l : List UInt8} (h : Bytes w B e v l) (hv : v ≠ .slice none 0 0) : ∃ g c, v = .slice (some ⟨g, 0, none⟩) l.length c ∧ B ≤ g ∧ g < w.heap.size ∧ l.length ≤ c ∧ c ≤ maxLen := by
  rcases h with ⟨rfl, rfl⟩ | ⟨g, cap, cur, fz, rfl, hb, hg, hfz, hlc, hm, hcs, htk⟩
  · exact absurd rfl hv
  · exact ⟨g, cap, rfl, hb, (Array.getElem?_eq_some_iff.1 hg).1, hlc, hm⟩
theorem bytes_below {w w' : World} {B e : Nat} {v : Value} {l : List UInt8} (h : Bytes w B e v l) (hb : Below w.heap.size w w') : Bytes w' B e v l := by
  rcases h with h | ⟨g, cap, cur, fz, rfl, hbg, hg, r⟩
  · exact .inl h
  · refine .inr ⟨g, cap, cur, fz, rfl, hbg, ?_, r⟩
    rw [hb.block g (Array.getElem?_eq_some_iff.1 hg).1]; exact hg
theorem bytes_mono {w : World} {B B' e : Nat} {v : Value} {l : List UInt8} (h : Bytes w B e v l) (hb : B' ≤ B) : Bytes w B' e v l := by
  rcases h with h | ⟨g, cap, cur, fz, rfl, hbg, r⟩
  · exact .inl h
  · exact .inr ⟨g, cap, cur, fz, rfl, by omega, r⟩

/-- 'string(b[o:o+n])'. -/
theorem bytes_string_cut {P : Program} {w : World} {B e g c : Nat} {l : List UInt8} (src dst : TypeId)
    (hs : P.underlying src = some (.slice e)) (he : P.underlying e = some (.int .u8)) (hd : P.underlying dst = some .string)
    (h : Bytes w B e (.slice (some ⟨g, 0, none⟩) l.length c) l) (o n c' : Nat) (hon : o + n ≤ l.length) :
    (convert src dst (.slice (some ⟨g, o, none⟩) n c')).run P w = .ok (.string ⟨((l.drop o).take n).toArray⟩) w := by
  have hl : ((l.drop o).take n).length = n := by rw [List.length_take, List.length_drop]; omega
  have := run_convert_bytes_back (P := P) w src dst e ⟨g, o, none⟩ c' ((l.drop o).take n) hs he hd (fun j hj => by
    have hj' : o + j < l.length := by omega
    have h1 := (bytes_at h (o + j) hj').1
    have hadd : (⟨g, o, none⟩ : Addr).add j = ⟨g, o + j, none⟩ := by unfold Addr.add; split <;> simp_all
    rw [hadd, h1]
    simp)
  rw [hl] at this
  exact this
end Byt

/-- One byte appended, in the block of the walk's own one-cell slice; no other block is written. -/
theorem outB_kept (w : World) {B : Nat} {v : Value} {l : List UInt8} (h : Bytes w B 5 v l) (hB : B ≤ w.heap.size) (hv : v ≠ .slice none 0 0) (ty : TypeId) (c : UInt8) (x : Int) (hx : x = c.toNat) (hl : l.length ≤ 100000000) :
    Byt.Kept Tryz.prog #[22, 22] ty #[v, .slice (some ⟨w.heap.size, 0, none⟩) 1 1] (w.alloc (.cells #[.int .u8 x] 5)) B 5 (l ++ [c]) v := by
  obtain ⟨i0, hi, hz0, hz1, hz2⟩ := info_parts infoByte
  subst hx
  refine Byt.append_kept Tryz.underlying22 hi hz0 hz1 hz2 _ (bytes_alloc h _) (by simp; omega) hv ty ⟨w.heap.size, 0, none⟩ 1 [c] ?_ (by simp; omega)
  exact World.news_of_block (heap_alloc_new _ _)
/-- The operation, for the walk. -/
theorem wpList_append_kept {P : Program} {ops : Array Oper} {rest : List Oper} {o : Oper} {a : Act} {w : World} {Q : Exit → Act → World → Prop} (hgd : o.guard = none) (s x : Operand) (t tn : TypeId)
    (ho : o.op = .call { callee := .builtin .append, args := #[s, x], argTypes := #[t, tn] }) (vs vx : Value) (hs : a.eval s = vs) (hx : a.eval x = vx) {B : Nat} {e : TypeId} {l : List UInt8}
    (hr : Byt.Kept P #[t, tn] o.type #[vs, vx] w B e l vs) (h : ∀ v' w', Bytes w' B e v' l → v' ≠ .slice none 0 0 → w.grownBy w' vs.ownBlock → (v'.ownBlock = vs.ownBlock ∨ v'.ownBlock = some w.heap.size) → wpList P ops Q rest (a.put o.dst v') w') : wpList P ops Q (o :: rest) a w := by
  obtain ⟨v', w', r, h1, h2, h3, h4⟩ := hr
  exact Lib.wpList_append_run w hgd s x t tn ho vs vx hs hx v' w' r (h v' w' h1 h2 h3 h4)
/-- At a step of a region that draws its order. -/
theorem step_append_kept {P : Program} {ops : Array Oper} {o : Oper} {a : Act} {w : World} {K : Act → World → Prop} {Q : Exit → Act → World → Prop} {E : Prop} (hgd : o.guard = none) (s x : Operand) (t tn : TypeId)
    (ho : o.op = .call { callee := .builtin .append, args := #[s, x], argTypes := #[t, tn] }) (vs vx : Value) (hs : a.eval s = vs) (hx : a.eval x = vx) {B : Nat} {e : TypeId} {l : List UInt8}
    (hr : Byt.Kept P #[t, tn] o.type #[vs, vx] w B e l vs) (h : ∀ v' w', Bytes w' B e v' l → v' ≠ .slice none 0 0 → w.grownBy w' vs.ownBlock → (v'.ownBlock = vs.ownBlock ∨ v'.ownBlock = some w.heap.size) → K (a.put o.dst v') w') :
    if Region.wanted o (yielded ops a.tmps) = true then Oper.wp P o a w K Q else E := by
  obtain ⟨v', w', r, h1, h2, h3, h4⟩ := hr
  rw [if_pos (by simp [Region.wanted, hgd])]
  exact Lib.wp_append_run w s x t tn ho vs vx hs hx v' w' r (h v' w' h1 h2 h3 h4)
end Go.Proofs.YtgpjklnlchbbbaaGreatDoor
