/- Merged texts: Draw, HexMath, PartsMath, DrawLem, DrawMore, PickNum, PickText, Bytes, BitsMath, LongMath. -/
import Derived.Test.YtcckhkihhhchbaaDoorRows
import Derived.WalkKit
import Derived.WalkSpells
import Derived.WalkLawsBesides
import Derived.Lib.Hide
import Derived.Deep.QuietTactic
import Derived.BigQuiet
import Derived.Laws.BytesArg
import Derived.Laws.IdiomStrings
import Derived.OwnWalk
import Derived.Below
import Derived.Laws.Strings
import Derived.Deep.AppendLies
import Derived.Lib.AppendStr
import Derived.Lib.AppendZerosOnto
import Derived.Laws.CopyRow
import Derived.Laws.Bits64b
import Derived.IntWalk
import Derived.Deep.RegionLaw
namespace Go.Proofs.YtcckhkihhhchbaaDoor
open Go.RowKit
namespace Draw

theorem and255 (y : Int) : 0 ≤ bits .and .i64 y 255 ∧ bits .and .i64 y 255 ≤ 255 := by
  have h : (BitVec.ofInt 64 y &&& BitVec.ofInt 64 255).toNat ≤ 255 := by
    rw [BitVec.toNat_and]; exact Nat.le_trans Nat.and_le_right (by decide)
  have e : bits .and .i64 y 255 = IntKind.i64.wrap ((BitVec.ofInt 64 y &&& BitVec.ofInt 64 255).toNat : Int) := rfl
  rw [e, IntWalk.i64_in _ (by omega)]
  omega

/-- The text that is drawn from: bytes, in blocks below B. -/
def Src (w : World) (B : Nat) (ad : Option Addr) (len : Nat) : Prop := ∀ i, i < len → ∃ b off z, ad = some ⟨b, off, none⟩ ∧ b < B ∧ (0 : Int) ≤ z ∧ z ≤ 255 ∧ w.cell? ⟨b, off + i, none⟩ = some (.int .u8 z)

/-- The cursor in block c. -/
def Cur (w : World) (c : Nat) (ad : Option Addr) (len cap : Nat) : Prop :=
  ∃ (i : Nat) (h : Int), i ≤ len ∧ w.heap[c]? = some (.cells #[.slice ad len cap, .int .i64 i, .int .i64 h] 91 (0, 0))

def BytePost (w : World) (c : Nat) (ad : Option Addr) (len cap : Nat) (e : Ending) (w' : World) : Prop :=
  ∃ x : Int, 0 ≤ x ∧ x ≤ 255 ∧ e = .returned (.int .i64 x) ∧ Cur w' c ad len cap ∧ w.grownBy w' (some c)

theorem grownBy_refl (w : World) (r : Option Nat) : w.grownBy w r := ⟨rfl, rfl, rfl, Nat.le_refl _, fun _ _ _ => rfl⟩
theorem grownBy_trans {a b c : World} {r : Option Nat} (h : a.grownBy b r) (k : b.grownBy c r) : a.grownBy c r :=
  ⟨k.os.trans h.os, k.tape.trans h.tape, k.output.trans h.output, Nat.le_trans h.size k.size, fun i hi hr => (k.block i (Nat.lt_of_lt_of_le hi h.size) hr).trans (h.block i hi hr)⟩

theorem grownBy_set {a w : World} {c : Nat} (h : a.grownBy w (some c)) (j : Nat) (v : Value) : a.grownBy (w.setCell ⟨c, j, none⟩ v) (some c) :=
  grownBy_trans h ⟨rfl, rfl, rfl, by simp [World.setCell], fun k hk hr => Below.heap_setCell _ _ _ _ (fun e => hr (by rw [e]))⟩
theorem grownBy_draws {a w : World} {r : Option Nat} (h : a.grownBy w r) (n : Nat) : a.grownBy (w.drewN n) r := ⟨h.os, h.tape, h.output, h.size, h.block⟩
theorem block_set {w : World} {c j : Nat} {cs : Array Value} {t : TypeId} (h : w.heap[c]? = some (.cells cs t (0, 0))) (v : Value) : (w.setCell ⟨c, j, none⟩ v).heap[c]? = some (.cells (cs.setIfInBounds j v) t (0, 0)) :=
  heap_setCell_same w c j cs t v h

set_option maxRecDepth 100000 in
set_option maxHeartbeats 1000000 in
theorem byte_any (c : Nat) (ad : Option Addr) (len cap : Nat) (w : World) (hlen : len ≤ 1048576) (hc : Cur w c ad len cap) (hs : Src w c ad len) :
    Calls Tryd.prog 93 #[.pointer (some ⟨c, 0, none⟩)] w (BytePost w c ad len cap) := by
  obtain ⟨i, h, hi, hb⟩ := hc
  have f0 : w.cell? ⟨c, 0, none⟩ = some (.slice ad len cap) := by simp [World.cell?, hb]
  have f1 : w.cell? ⟨c, 1, none⟩ = some (.int .i64 i) := by simp [World.cell?, hb]
  have f2 : w.cell? ⟨c, 2, none⟩ = some (.int .i64 h) := by simp [World.cell?, hb]
  have z2 : w.frozen? ⟨c, 2, none⟩ = false := by simp [World.frozen?, hb]
  have z1 : w.frozen? ⟨c, 1, none⟩ = false := by simp [World.frozen?, hb]
  have HB := Lib.hid hb
  clear hb
  by_cases hlt : i < len
  · obtain ⟨b, off, z, rfl, hbc, hz0, hz1, hz⟩ := hs i hlt
    have hz' : ∀ x, (w.setCell ⟨c, 2, none⟩ x).cell? ⟨b, off + i, none⟩ = some (.int .u8 z) := fun x => by
      rw [World.cell?_of_block (w := w) (Below.heap_setCell _ _ _ _ (by show b ≠ c; omega))]; exact hz
    go_enter Tryd.func93, Tryd.ntmps93
    go_wp2
    go_quiet (fail)
    go_wp2
    go_quiet (fail)
    go_wp2
    go_quiet (fail)
    go_wp2
    go_ret
    exact ⟨_, (and255 _).1, (and255 _).2, rfl, ⟨i + 1, _, by omega, block_set (block_set HB.out _) _⟩, grownBy_set (grownBy_draws (grownBy_set (grownBy_refl w _) 2 _) _) 1 _⟩
  · go_enter Tryd.func93, Tryd.ntmps93
    go_wp2
    go_quiet (fail)
    go_wp2
    go_quiet (fail)
    go_wp2
    go_ret
    exact ⟨_, (and255 _).1, (and255 _).2, rfl, ⟨i, _, hi, block_set HB.out _⟩, grownBy_draws (grownBy_draws (grownBy_set (grownBy_refl w _) 2 _) _) _⟩

theorem cur_lt {w : World} {c : Nat} {ad : Option Addr} {len cap : Nat} (h : Cur w c ad len cap) : c < w.heap.size := by
  obtain ⟨i, h, _, hb⟩ := h
  exact (Array.getElem?_eq_some_iff.1 hb).1
theorem src_grown {w w' : World} {c : Nat} {ad : Option Addr} {len : Nat} (hs : Src w c ad len) (hg : w.grownBy w' (some c)) (hc : c < w.heap.size) : Src w' c ad len := by
  intro i hi
  obtain ⟨b, off, z, h1, h2, h3, h4, h5⟩ := hs i hi
  exact ⟨b, off, z, h1, h2, h3, h4, by rw [World.cell?_of_block (w := w) (hg.block b (by omega) (fun e => by simp at e; omega))]; exact h5⟩

def NumPost (n : Int) (w : World) (c : Nat) (ad : Option Addr) (len cap : Nat) (e : Ending) (w' : World) : Prop :=
  ∃ x : Int, 0 ≤ x ∧ x < n ∧ e = .returned (.int .i64 x) ∧ Cur w' c ad len cap ∧ w.grownBy w' (some c)

set_option maxRecDepth 100000 in
set_option maxHeartbeats 1000000 in
theorem below_small (c : Nat) (ad : Option Addr) (len cap : Nat) (n : Int) (w : World) (hlen : len ≤ 1048576) (hn : 0 < n) (hn2 : n ≤ 256) (hc : Cur w c ad len cap) (hs : Src w c ad len) :
    Calls Tryd.prog 59 #[.pointer (some ⟨c, 0, none⟩), .int .i64 n] w (NumPost n w c ad len cap) := by
  have hz : (n == 0) = false := by simp; omega
  have HC := Lib.hid hc
  have HS := Lib.hid hs
  clear hc hs
  go_enter Tryd.func59, Tryd.ntmps59
  go_wp2_with fail
  refine (byte_any c ad len cap w hlen HC.out HS.out).mono ?_
  rintro e w1 ⟨x, x0, x1, rfl, hc1, hg1⟩
  have C1 := Lib.hid hc1
  have G1 := Lib.hid hg1
  clear hc1 hg1
  go_wp2
  go_ret
  exact ⟨_, Int.emod_nonneg _ (by omega), Int.emod_lt_of_pos _ hn, rfl, C1.out, G1.out⟩

set_option maxRecDepth 100000 in
set_option maxHeartbeats 1000000 in
theorem below_big (c : Nat) (ad : Option Addr) (len cap : Nat) (n : Int) (w : World) (hlen : len ≤ 1048576) (hn : 256 < n) (hn2 : n ≤ 4611686018427387904) (hc : Cur w c ad len cap) (hs : Src w c ad len) :
    Calls Tryd.prog 59 #[.pointer (some ⟨c, 0, none⟩), .int .i64 n] w (NumPost n w c ad len cap) := by
  have hz : (n == 0) = false := by simp; omega
  have HC := Lib.hid hc
  have HS := Lib.hid hs
  clear hc hs
  go_enter Tryd.func59, Tryd.ntmps59
  go_wp2_with fail
  refine (byte_any c ad len cap w hlen HC.out HS.out).mono ?_
  rintro e w1 ⟨x, x0, x1, rfl, hc1, hg1⟩
  have S1 := Lib.hid (src_grown HS.out hg1 (cur_lt HC.out))
  have C1 := Lib.hid hc1
  have G1 := Lib.hid hg1
  clear hc1 hg1
  go_wp2_with fail
  refine (byte_any c ad len cap w1 hlen C1.out S1.out).mono ?_
  rintro e w2 ⟨y, y0, y1, rfl, hc2, hg2⟩
  have S2 := Lib.hid (src_grown S1.out hg2 (cur_lt C1.out))
  have C2 := Lib.hid hc2
  have G2 := Lib.hid (grownBy_trans G1.out hg2)
  clear hc2 hg2
  go_wp2_with fail
  refine (byte_any c ad len cap w2 hlen C2.out S2.out).mono ?_
  rintro e w3 ⟨z, z0, z1, rfl, hc3, hg3⟩
  have S3 := Lib.hid (src_grown S2.out hg3 (cur_lt C2.out))
  have C3 := Lib.hid hc3
  have G3 := Lib.hid (grownBy_trans G2.out hg3)
  clear hc3 hg3
  go_wp2_with fail
  refine (byte_any c ad len cap w3 hlen C3.out S3.out).mono ?_
  rintro e w4 ⟨v, v0, v1, rfl, hc4, hg4⟩
  have C4 := Lib.hid hc4
  have G4 := Lib.hid (grownBy_trans G3.out hg4)
  clear hc4 hg4
  go_wp2
  go_ret
  exact ⟨_, Int.emod_nonneg _ (by omega), Int.emod_lt_of_pos _ (by omega), rfl, C4.out, G4.out⟩

/-- A drawn number is at least 0 and below the bound. -/
theorem below_any (c : Nat) (ad : Option Addr) (len cap : Nat) (n : Int) (w : World) (hlen : len ≤ 1048576) (hn : 0 < n) (hn2 : n ≤ 4611686018427387904) (hc : Cur w c ad len cap) (hs : Src w c ad len) :
    Calls Tryd.prog 59 #[.pointer (some ⟨c, 0, none⟩), .int .i64 n] w (NumPost n w c ad len cap) := by
  by_cases h : n ≤ 256
  · exact below_small c ad len cap n w hlen hn h hc hs
  · exact below_big c ad len cap n w hlen (by omega) hn2 hc hs

set_option maxRecDepth 100000 in
set_option maxHeartbeats 1000000 in
theorem new_any (ad : Option Addr) (len cap : Nat) (w : World) (hlen : len ≤ 1048576) (hs : Src w w.heap.size ad len) :
    Calls Tryd.prog 33 #[.slice ad len cap] w fun e w' => e = .returned (.pointer (some ⟨w.heap.size, 0, none⟩)) ∧ ∃ h : Int, w' = w.alloc (.cells #[.slice ad len cap, .int .i64 0, .int .i64 h] 91) := by
  have HS := Lib.hid hs
  clear hs
  go_enter Tryd.func33, Tryd.ntmps33
  go_wp2
  go_loop [3, 4] (fun hv iv => ∃ (i : Nat) (h : Int), i ≤ len ∧ hv = .int .i64 h ∧ iv = .int .i64 i) (fun _ iv => len - (intOf iv).toNat)
  case atStart => exact ⟨0, _, Nat.zero_le _, rfl, rfl⟩
  case round =>
    obtain ⟨i, h, hi, rfl, rfl⟩ := hrel
    by_cases hlt : i < len
    · by_cases h4 : i < 4000
      · obtain ⟨b, off, z, rfl, hbc, hz0, hz1, hz⟩ := HS.out i hlt
        go_wp2
        go_round
        case rel => exact ⟨i + 1, _, by omega, rfl, by go_num⟩
        case measure => (simp [intOf]; try omega)
      · go_wp2
        go_ret
        exact ⟨rfl, _, rfl⟩
    · obtain rfl : i = len := by omega
      go_wp2
      go_ret
      exact ⟨rfl, _, rfl⟩
end Draw
end Go.Proofs.YtcckhkihhhchbaaDoor
namespace Go.Proofs.YtcckhkihhhchbaaDoor.Hexa


/-- The digit of a number below 16. -/
def nib (n : Nat) : UInt8 := if n < 10 then UInt8.ofNat (48 + n) else UInt8.ofNat (87 + n)
def hexB (c : UInt8) : List UInt8 := [nib (c.toNat / 16), nib (c.toNat % 16)]
def hexL (l : List UInt8) : List UInt8 := l.flatMap hexB

theorem nib_toNat (n : Nat) (h : n < 16) : (nib n).toNat = if n < 10 then 48 + n else 87 + n := by
  unfold nib; split <;> simp <;> omega

theorem hexL_length (l : List UInt8) : (hexL l).length = 2 * l.length := by
  induction l with
  | nil => rfl
  | cons c l ih => simp [hexL, hexB] at *; omega

theorem hexL_snoc (l : List UInt8) (c : UInt8) : hexL (l ++ [c]) = hexL l ++ hexB c := by simp [hexL]

theorem take_snoc (s : ByteArray) (k : Nat) (h : k < s.size) : s.data.toList.take (k + 1) = s.data.toList.take k ++ [s[k]] := by
  rw [List.take_succ_eq_append_getElem (by simpa using h)]; rfl

theorem hexL_take (s : ByteArray) (k : Nat) (h : k < s.size) : hexL (s.data.toList.take (k + 1)) = hexL (s.data.toList.take k) ++ hexB s[k] := by
  rw [take_snoc s k h, hexL_snoc]

theorem hexL_take_length (s : ByteArray) (k : Nat) (h : k ≤ s.size) : (hexL (s.data.toList.take k)).length = 2 * k := by
  have hs : k ≤ s.data.size := h
  rw [hexL_length]; simp; omega

/-- The cells of a row of bytes. -/
def bcells (l : List UInt8) : List Value := l.map fun b => Value.int .u8 b.toNat

/-- 'string(b)' of a slice that the call owns. -/
theorem own_string {P : Program} {w : World} {base e : Nat} {v : Value} {n : Nat} {l : List UInt8} (src dst : TypeId)
    (hs : P.underlying src = some (.slice e)) (he : P.underlying e = some (.int .u8)) (hd : P.underlying dst = some .string)
    (h : w.ownsRow base e 1 v n (bcells l)) : (convert src dst v).run P w = .ok (.string ⟨l.toArray⟩) w := by
  have hl := h.1
  simp [bcells] at hl
  rcases h.2 with ⟨rfl, rfl⟩ | ⟨g, cap, cur, rfl, _, hg, _, _, hcs, htk⟩
  · have : l = [] := by cases l <;> simp_all
    subst this
    exact run_convert_bytes_nil w src e hs he 0 0 dst hd
  · subst hl
    refine run_convert_bytes_back w src dst e _ cap l hs he hd fun j hj => ?_
    have := h.cellAt j (by omega)
    have e : (⟨g, 0, none⟩ : Addr).add j = ⟨g, j, none⟩ := by unfold Addr.add; split <;> simp_all
    rw [e]
    simpa [bcells, hj] using this

theorem own_block_ge {w : World} {base e size : Nat} {v : Value} {n : Nat} {xs : List Value} (h : w.ownsRow base e size v n xs) : ∀ k, v.ownBlock = some k → base ≤ k := by
  intro k hk
  rcases h.2 with ⟨rfl, _⟩ | ⟨g, cap, cur, rfl, hg, _⟩
  · simp [Value.ownBlock] at hk
  · simp [Value.ownBlock] at hk; omega

def figI (x : Int) : Int := (nib x.toNat).toNat

theorem digit_nat : ∀ (n : Fin 16), (((ByteArray.mk #[48, 49, 50, 51, 52, 53, 54, 55, 56, 57, 97, 98, 99, 100, 101, 102])[n.val]'(by show n.val < 16; exact n.isLt)).toNat) = (nib n.val).toNat := by decide

theorem and15_all : ∀ n : Fin 256, bits .and .u8 ((n.val : Nat) : Int) 15 = ((n.val % 16 : Nat) : Int) := by decide +kernel

theorem and15 (b : UInt8) : bits .and .u8 (b.toNat : Int) 15 = (b.toNat : Int) % 16 := by
  have := and15_all ⟨b.toNat, b.toNat_lt⟩
  rw [this]; simp

/-- The digit that the table of the program holds. -/
theorem digit_at (x : Int) (h0 : 0 ≤ x) (h1 : x < 16) (h : x.toNat < (ByteArray.mk #[48, 49, 50, 51, 52, 53, 54, 55, 56, 57, 97, 98, 99, 100, 101, 102]).size) :
    ((((ByteArray.mk #[48, 49, 50, 51, 52, 53, 54, 55, 56, 57, 97, 98, 99, 100, 101, 102])[x.toNat]'h).toNat : Nat) : Int) = figI x := by
  have := digit_nat ⟨x.toNat, by omega⟩
  unfold figI
  rw [← this]

/-- What one round of Hex appends. -/
theorem hex_round (s : ByteArray) (k : Nat) (h : k < s.size) :
    bcells (hexL (s.data.toList.take k)) ++ [.int .u8 (figI (s[k].toNat / 16)), .int .u8 (figI (s[k].toNat % 16))] = bcells (hexL (s.data.toList.take (k + 1))) := by
  have e1 : ((s[k].toNat : Int) / 16).toNat = s[k].toNat / 16 := by omega
  have e2 : ((s[k].toNat : Int) % 16).toNat = s[k].toNat % 16 := by omega
  rw [hexL_take s k h]
  simp [bcells, hexB, figI, e1, e2]

theorem own_length {w : World} {base e : Nat} {v : Value} {n : Nat} {xs : List Value} (h : w.ownsRow base e 1 v n xs) : xs.length = n := by simpa using h.1
end Go.Proofs.YtcckhkihhhchbaaDoor.Hexa
namespace Go.Proofs.YtcckhkihhhchbaaDoor.Parts
open Go.RowKit

/-- A field is added where the run is not empty. -/
def put (P : List ByteArray) (s : ByteArray) (b i : Nat) : List ByteArray := if b < i then P ++ [s.extract b i] else P

/-- Behind the first i bytes: where the open run begins, and the fields so far. -/
def st (s : ByteArray) : Nat → Nat × List ByteArray
  | 0 => (0, [])
  | i + 1 => if s.data.toList.getD i 0 = 32 then (i + 1, put (st s i).2 s (st s i).1 i) else st s i

theorem st_le (s : ByteArray) : ∀ i, (st s i).1 ≤ i
  | 0 => Nat.le_refl _
  | i + 1 => by
    have := st_le s i
    simp only [st]; split
    · exact Nat.le_refl _
    · omega

theorem put_length (P : List ByteArray) (s : ByteArray) (b i : Nat) : (put P s b i).length ≤ P.length + 1 := by
  unfold put; split <;> simp

theorem st_length (s : ByteArray) : ∀ i, (st s i).2.length ≤ i
  | 0 => Nat.le_refl _
  | i + 1 => by
    have := st_length s i
    have h2 := put_length (st s i).2 s (st s i).1 i
    simp only [st]; split
    · simp only; omega
    · omega

theorem getD_eq (s : ByteArray) (i : Nat) (h : i < s.size) : s.data.toList.getD i 0 = s[i] := by
  have h' : i < s.data.toList.length := by simpa using h
  simp [List.getD, List.getElem?_eq_getElem h']; rfl

theorem st_space (s : ByteArray) (i : Nat) (h : i < s.size) (e : (s[i].toNat : Int) = 32) : st s (i + 1) = (i + 1, put (st s i).2 s (st s i).1 i) := by
  have : s[i] = 32 := by apply UInt8.toNat_inj.1; simp; omega
  simp only [st]; rw [if_pos (by rw [getD_eq s i h, this])]
theorem st_other (s : ByteArray) (i : Nat) (h : i < s.size) (e : (s[i].toNat : Int) ≠ 32) : st s (i + 1) = st s i := by
  have : s[i] ≠ 32 := fun h => e (by rw [h]; rfl)
  simp only [st]; rw [if_neg (by rw [getD_eq s i h]; exact this)]

/-- Every byte up to place n may stand in a line. -/
def okTo (s : ByteArray) (n : Nat) : Prop := ∀ j (h : j < s.size), j < n → (32 : Int) ≤ s[j].toNat ∧ (s[j].toNat : Int) ≤ 126

theorem okTo_step {s : ByteArray} {i : Nat} (g : okTo s i) (h : i < s.size) (h1 : (32 : Int) ≤ s[i].toNat) (h2 : (s[i].toNat : Int) ≤ 126) : okTo s (i + 1) := by
  intro j hj hi
  by_cases e : j < i
  · exact g j hj e
  · have : j = i := by omega
    subst this; exact ⟨h1, h2⟩

def fin (s : ByteArray) : List ByteArray := put (st s s.size).2 s (st s s.size).1 s.size

open Classical in
/-- What PartsOf returns for a line of at most 600 bytes. -/
noncomputable def parts (s : ByteArray) : List ByteArray := if okTo s s.size ∧ (fin s).length ≤ 12 then fin s else []
open Classical in
noncomputable def partsOk (s : ByteArray) : Bool := if okTo s s.size ∧ (fin s).length ≤ 12 then true else false

theorem parts_yes {s : ByteArray} (h : okTo s s.size) (h2 : (fin s).length ≤ 12) : parts s = fin s ∧ partsOk s = true := by simp [parts, partsOk, h, h2]
theorem parts_many {s : ByteArray} (h2 : 12 < (fin s).length) : parts s = [] ∧ partsOk s = false := by
  have : ¬ (fin s).length ≤ 12 := by omega
  simp [parts, partsOk, this]
theorem parts_bad {s : ByteArray} (i : Nat) (h : i < s.size) (hb : (s[i].toNat : Int) < 32 ∨ (126 : Int) < s[i].toNat) : parts s = [] ∧ partsOk s = false := by
  have : ¬ okTo s s.size := fun g => by have := g i h h; omega
  simp [parts, partsOk, this]
theorem parts_le (s : ByteArray) : (parts s).length ≤ 12 := by
  unfold parts; split
  · rename_i h; exact h.2
  · simp

/-- What one more space, or the end of the line, makes of the fields. -/
theorem put_yes {P : List ByteArray} {s : ByteArray} {b i : Nat} (h : b < i) : put P s b i = P ++ [s.extract b i] := by unfold put; rw [if_pos h]
theorem put_no {P : List ByteArray} {s : ByteArray} {b i : Nat} (h : ¬ b < i) : put P s b i = P := by unfold put; rw [if_neg h]

/-- The relation behind a space at place i. -/
theorem rel_space {s : ByteArray} {i b : Nat} {P : List ByteArray} (h : i < s.size) (e : (s[i].toNat : Int) = 32) (H1 : i ≤ s.size → b = (st s i).1 ∧ P = (st s i).2) :
    (i + 1 ≤ s.size → i + 1 = (st s (i + 1)).1 ∧ put P s b i = (st s (i + 1)).2) ∧ (s.size < i + 1 → put P s b i = fin s) := by
  obtain ⟨rfl, rfl⟩ := H1 (by omega)
  rw [st_space s i h e]
  exact ⟨fun _ => ⟨rfl, rfl⟩, fun _ => by omega⟩
/-- The relation behind the end. -/
theorem rel_end {s : ByteArray} {b : Nat} {P : List ByteArray} (H1 : s.size ≤ s.size → b = (st s s.size).1 ∧ P = (st s s.size).2) :
    (s.size + 1 ≤ s.size → s.size + 1 = (st s (s.size + 1)).1 ∧ put P s b s.size = (st s (s.size + 1)).2) ∧ (s.size < s.size + 1 → put P s b s.size = fin s) := by
  obtain ⟨rfl, rfl⟩ := H1 (Nat.le_refl _)
  exact ⟨fun h => by omega, fun _ => rfl⟩
/-- The relation behind another byte. -/
theorem rel_other {s : ByteArray} {i b : Nat} {P : List ByteArray} (h : i < s.size) (e : (s[i].toNat : Int) ≠ 32) (H1 : i ≤ s.size → b = (st s i).1 ∧ P = (st s i).2) :
    (i + 1 ≤ s.size → b = (st s (i + 1)).1 ∧ P = (st s (i + 1)).2) ∧ (s.size < i + 1 → P = fin s) := by
  rw [st_other s i h e]
  exact ⟨fun _ => H1 (by omega), fun _ => by omega⟩
theorem okTo_end {s : ByteArray} (h : okTo s s.size) : okTo s (s.size + 1) := fun j hj _ => h j hj hj

theorem ext_size (s : ByteArray) (b i : Nat) : (s.extract b i).size ≤ s.size := by simp [ByteArray.size_extract]; omega

/-- The fields with one more run, if it is not empty. -/
def addRun (P : List ByteArray) (r : ByteArray) : List ByteArray := if r.toList.isEmpty then P else P ++ [r]
theorem isEmpty_iff (r : ByteArray) : r.toList.isEmpty = true ↔ r.size = 0 := by
  rw [List.isEmpty_iff, ← List.length_eq_zero_iff, ByteArray.toList_eq]; simp
theorem addRun_eq (P : List ByteArray) (s : ByteArray) (b i : Nat) (h : i ≤ s.size) : addRun P (s.extract b i) = put P s b i := by
  unfold addRun put
  by_cases hb : b < i
  · rw [if_pos hb, if_neg]
    rw [isEmpty_iff, ByteArray.size_extract]; omega
  · rw [if_neg hb, if_pos]
    rw [isEmpty_iff, ByteArray.size_extract]; omega

def scells (P : List ByteArray) : List Value := P.map Value.string

theorem own_below {B : Nat} {e : TypeId} {k : Nat} {v : Value} {n : Nat} {xs : List Value} {w w' : World} (h : w.ownsRow B e k v n xs) (hb : Below w.heap.size w w') : w'.ownsRow B e k v n xs := by
  obtain ⟨h1, h2⟩ := h
  refine ⟨h1, ?_⟩
  rcases h2 with h2 | ⟨g, cap, cur, hv, hg, hh, r⟩
  · exact Or.inl h2
  · have hlt : g < w.heap.size := (Array.getElem?_eq_some_iff.1 hh).1
    exact Or.inr ⟨g, cap, cur, hv, hg, by rw [hb.block g hlt]; exact hh, r⟩

/-- The slice at the address reads as these texts. -/
def Reads (w : World) (ad : Option Addr) (xs : List Value) : Prop := ∀ j, j < xs.length → ∃ g, ad = some ⟨g, 0, none⟩ ∧ w.cell? ⟨g, j, none⟩ = xs[j]?

theorem own_form {w : World} {base e : Nat} {v : Value} {n : Nat} {xs : List Value} (h : w.ownsRow base e 1 v n xs) : ∃ ad cap, v = .slice ad n cap ∧ cap ≤ maxLen ∧ n ≤ cap ∧ Reads w ad xs := by
  have hl : xs.length = n := by simpa using h.1
  rcases h.2 with ⟨rfl, rfl⟩ | ⟨g, cap, cur, rfl, hg, hh, hn, hc, _⟩
  · refine ⟨none, 0, rfl, by decide, Nat.le_refl _, fun j hj => ?_⟩
    omega
  · exact ⟨_, cap, rfl, hc, hn, fun j hj => ⟨g, rfl, h.cellAt j (by omega)⟩⟩

theorem own_reads {w : World} {base e : Nat} {ad : Option Addr} {n cap : Nat} {xs : List Value} (h : w.ownsRow base e 1 (.slice ad n cap) n xs) : Reads w ad xs := by
  obtain ⟨ad', cap', hv, _, _, hr⟩ := own_form h
  simp at hv
  obtain ⟨rfl, _⟩ := hv
  exact hr

/-- The decimal digits of a number; none for 0. -/
def digs (k : Nat) : List UInt8 := if _h : k = 0 then [] else digs (k / 10) ++ [UInt8.ofNat (48 + k % 10)]
termination_by k
decreasing_by omega

theorem digs_zero : digs 0 = [] := by rw [digs]; simp
theorem digs_step (k : Nat) (h : 0 < k) : digs k = digs (k / 10) ++ [UInt8.ofNat (48 + k % 10)] := by rw [digs]; simp; omega
theorem digs_len (k : Nat) : (digs k).length ≤ k := by
  induction k using Nat.strongRecOn with
  | _ k ih =>
    by_cases h : k = 0
    · subst h; rw [digs_zero]; simp
    · rw [digs_step k (by omega)]
      have := ih (k / 10) (by omega)
      simp; omega
def markT (k : Nat) : ByteArray := ⟨(109 :: digs k).toArray⟩

theorem one_byte (c : UInt8) : ∃ cs : ByteArray, cs.size = 1 ∧ cs.data.toList = [c] ∧ cs = ⟨[c].toArray⟩ := ⟨⟨[c].toArray⟩, rfl, rfl, rfl⟩
theorem data_append (a b : ByteArray) : (a ++ b).data.toList = a.data.toList ++ b.data.toList := by simp
theorem digs_round {k j : Nat} {t cs : ByteArray} (hj : 0 < j) (h : digs j ++ t.data.toList = digs k) (hc : cs.data.toList = [UInt8.ofNat (48 + j % 10)]) : digs (j / 10) ++ (cs ++ t).data.toList = digs k := by
  rw [data_append, hc, ← h, digs_step j hj, List.append_assoc]
theorem digs_size {k j : Nat} {t : ByteArray} (h : digs j ++ t.data.toList = digs k) : t.size ≤ k := by
  have := digs_len k
  rw [← h, List.length_append] at this
  simp at this; omega
theorem mark_end {k : Nat} {t : ByteArray} (h : digs 0 ++ t.data.toList = digs k) : (⟨#[109]⟩ : ByteArray) ++ t = markT k := by
  rw [digs_zero, List.nil_append] at h
  apply ByteArray.ext
  apply Array.toList_inj.1
  rw [data_append, h]; rfl
end Go.Proofs.YtcckhkihhhchbaaDoor.Parts
namespace Go.Proofs.YtcckhkihhhchbaaDoor
open Go.RowKit
namespace Draw

theorem cur_grown {w w' : World} {c : Nat} {ad : Option Addr} {len cap : Nat} {row : Option Nat} (h : Cur w c ad len cap) (hg : w.grownBy w' row) (hr : some c ≠ row) : Cur w' c ad len cap := by
  have hl := cur_lt h
  obtain ⟨i, x, hi, hb⟩ := h
  exact ⟨i, x, hi, by rw [hg.block c hl hr]; exact hb⟩
theorem src_grown' {w w' : World} {B : Nat} {ad : Option Addr} {len : Nat} {row : Option Nat} (hs : Src w B ad len) (hg : w.grownBy w' row) (hr : ∀ k, row = some k → B ≤ k) (hB : B ≤ w.heap.size) : Src w' B ad len := by
  intro i hi
  obtain ⟨b, off, z, h1, h2, h3, h4, h5⟩ := hs i hi
  exact ⟨b, off, z, h1, h2, h3, h4, by rw [World.cell?_of_block (w := w) (hg.block b (by omega) (fun e => by have := hr b e.symm; omega))]; exact h5⟩
theorem grown_alloc (w : World) (o : Obj) (r : Option Nat) : w.grownBy (w.alloc o) r := ⟨rfl, rfl, rfl, by simp, fun k hk _ => Below.heap_alloc _ _ _ hk⟩
theorem own_not {w : World} {c e : Nat} {v : Value} {n : Nat} {xs : List Value} (h : w.ownsRow (c + 1) e 1 v n xs) : some c ≠ v.ownBlock := fun e => by
  have := Hexa.own_block_ge h c e.symm
  omega
theorem own_kept {w w' : World} {c e : Nat} {v : Value} {n : Nat} {xs : List Value} (h : w.ownsRow (c + 1) e 1 v n xs) (hg : w.grownBy w' (some c)) : w'.ownsRow (c + 1) e 1 v n xs :=
  h.kept hg (Or.inr (fun e => own_not h e.symm))
theorem below_of_grown {w w' : World} {B : Nat} {row : Option Nat} (hg : w.grownBy w' row) (hr : ∀ k, row = some k → B ≤ k) (hB : B ≤ w.heap.size) : Below B w w' := (Below.refl B w).grown hg hB hr

theorem cur_below {w w' : World} {c B : Nat} {ad : Option Addr} {len cap : Nat} (h : Cur w c ad len cap) (hb : Below B w w') (hc : c < B) : Cur w' c ad len cap := by
  obtain ⟨i, x, hi, hh⟩ := h
  exact ⟨i, x, hi, by rw [hb.block c hc]; exact hh⟩
theorem src_below {w w' : World} {c B : Nat} {ad : Option Addr} {len : Nat} (h : Src w c ad len) (hb : Below B w w') (hc : c ≤ B) : Src w' c ad len := by
  intro i hi
  obtain ⟨b, off, z, h1, h2, h3, h4, h5⟩ := h i hi
  exact ⟨b, off, z, h1, h2, h3, h4, by rw [World.cell?_of_block (w := w) (hb.block b (by omega))]; exact h5⟩
theorem grown_below {a w w' : World} {c B : Nat} (h : a.grownBy w (some c)) (hb : Below B w w') (hB : a.heap.size ≤ B) : a.grownBy w' (some c) :=
  ⟨hb.os.trans h.os, hb.tape.trans h.tape, hb.output.trans h.output, Nat.le_trans h.size hb.size, fun i hi hr => (hb.block i (by omega)).trans (h.block i hi hr)⟩

/-- What a draw leaves: a value, the cursor where it may stand, nothing else written. -/
def DrawPost (Pv : Value → Prop) (w : World) (c : Nat) (ad : Option Addr) (len cap : Nat) (e : Ending) (w' : World) : Prop :=
  ∃ v, Pv v ∧ e = .returned v ∧ Cur w' c ad len cap ∧ w.grownBy w' (some c)
end Draw
end Go.Proofs.YtcckhkihhhchbaaDoor
namespace Go.Proofs.YtcckhkihhhchbaaDoor
open Go.RowKit Go.Proofs.YtcckhkihhhchbaaDoor.Hexa
namespace Draw

set_option maxRecDepth 100000 in
set_option maxHeartbeats 1000000 in
theorem pickInt_any (c : Nat) (ad : Option Addr) (len cap : Nat) (g n m : Nat) (zs : List Int) (w : World) (hlen : len ≤ 1048576) (hn : 0 < n) (hn2 : n ≤ 1000000) (hz : zs.length = n) (hcell : ∀ j, j < n → w.cell? ⟨g, j, none⟩ = some (.int .i64 (zs.getD j 0))) (hg : g < w.heap.size) (hgc : g ≠ c) (hc : Cur w c ad len cap) (hs : Src w c ad len) :
    Calls Tryd.prog 72 #[.pointer (some ⟨c, 0, none⟩), .slice (some ⟨g, 0, none⟩) n m] w (DrawPost (fun v => ∃ z ∈ zs, v = .int .i64 z) w c ad len cap) := by
  have HC := Lib.hid hc
  have HS := Lib.hid hs
  have HCE := Lib.hid hcell
  clear hc hs hcell
  go_enter Tryd.func72, Tryd.ntmps72
  go_wp2_with fail
  refine (below_any c ad len cap n w hlen (by omega) (by omega) HC.out HS.out).mono ?_
  rintro e w1 ⟨x, x0, x1, rfl, hc1, hg1⟩
  have HC1 := Lib.hid hc1
  have HG1 := Lib.hid hg1
  obtain ⟨k, rfl⟩ : ∃ k : Nat, x = k := ⟨x.toNat, by omega⟩
  have hk : k < n := by omega
  have ck : w1.cell? ⟨g, k, none⟩ = some (.int .i64 (zs.getD k 0)) := by
    rw [World.cell?_of_block (w := w) (hg1.block g hg (fun e => hgc (by simpa using e)))]; exact HCE.out k hk
  have HM : Hid (zs.getD k 0 ∈ zs) := Lib.hid (by
    have e : zs.getD k 0 = zs[k]'(by omega) := by simp [List.getD, show k < zs.length by omega]
    rw [e]; exact List.getElem_mem _)
  obtain ⟨z, hzz⟩ : ∃ z, zs.getD k 0 = z := ⟨_, rfl⟩
  rw [hzz] at ck HM
  clear hc1 hg1 hzz
  go_wp2
  go_ret
  exact ⟨_, ⟨z, HM.out, rfl⟩, rfl, HC1.out, HG1.out⟩
end Draw
end Go.Proofs.YtcckhkihhhchbaaDoor
namespace Go.Proofs.YtcckhkihhhchbaaDoor
open Go.RowKit Go.Proofs.YtcckhkihhhchbaaDoor.Hexa
namespace Draw

/-- A number picked out of a list that the call has just laid. -/
theorem pickNum_new (c : Nat) (ad : Option Addr) (len cap : Nat) (n : Nat) (zs : List Int) (cs : Array Value) (t : TypeId) (w : World) (hcs : cs = (zs.map fun z => Value.int .i64 z).toArray) (hlen : len ≤ 1048576) (hn : 0 < n) (hn2 : n ≤ 200) (hz : zs.length = n) (hc : Cur w c ad len cap) (hs : Src w c ad len) :
    Calls Tryd.prog 72 #[.pointer (some ⟨c, 0, none⟩), .slice (some ⟨w.heap.size, 0, none⟩) n n] (w.alloc (.cells cs t)) fun e w' => ∃ z ∈ zs, e = .returned (.int .i64 z) ∧ Cur w' c ad len cap ∧ w.grownBy w' (some c) := by
  have hh := heap_alloc_new w (.cells cs t)
  have hlt := cur_lt hc
  refine (pickInt_any c ad len cap w.heap.size n n zs _ hlen hn (by omega) hz (fun j hj => ?_) (by simp) (by omega) (cur_grown hc (grown_alloc _ _ none) (by simp)) (src_grown' hs (grown_alloc _ _ none) (fun k e => by cases e) (by omega))).mono ?_
  · have h1 : ∀ (o : Option Obj), o = some (.cells cs t) → (match o with | some (.cells c _ _) => c[j]? | _ => none) = some (.int .i64 (zs.getD j 0)) := fun o ho => by
      subst ho
      subst hcs
      have hj' : j < zs.length := by omega
      simp [List.getD, hj']
    exact h1 _ hh
  · rintro e w' ⟨v, ⟨z, hz, rfl⟩, rfl, hc', hg'⟩
    exact ⟨z, hz, rfl, hc', grownBy_trans (grown_alloc w _ _) hg'⟩

end Draw
end Go.Proofs.YtcckhkihhhchbaaDoor
namespace Go.Proofs.YtcckhkihhhchbaaDoor
open Go.RowKit Go.Proofs.YtcckhkihhhchbaaDoor.Hexa
namespace Draw

set_option maxRecDepth 100000 in
set_option maxHeartbeats 1000000 in
theorem pickText_any (c : Nat) (ad : Option Addr) (len cap : Nat) (g n m : Nat) (zs : List ByteArray) (w : World) (hlen : len ≤ 1048576) (hn : 0 < n) (hn2 : n ≤ 200) (hz : zs.length = n) (hcell : ∀ j, j < n → w.cell? ⟨g, j, none⟩ = some (.string (zs.getD j ByteArray.empty))) (hg : g < w.heap.size) (hgc : g ≠ c) (hc : Cur w c ad len cap) (hs : Src w c ad len) :
    Calls Tryd.prog 100 #[.pointer (some ⟨c, 0, none⟩), .slice (some ⟨g, 0, none⟩) n m] w (DrawPost (fun v => ∃ z ∈ zs, v = .string z) w c ad len cap) := by
  have HC := Lib.hid hc
  have HS := Lib.hid hs
  have HCE := Lib.hid hcell
  clear hc hs hcell
  go_enter Tryd.func100, Tryd.ntmps100
  go_wp2_with fail
  refine (below_small c ad len cap n w hlen (by omega) (by omega) HC.out HS.out).mono ?_
  rintro e w1 ⟨x, x0, x1, rfl, hc1, hg1⟩
  have HC1 := Lib.hid hc1
  have HG1 := Lib.hid hg1
  obtain ⟨k, rfl⟩ : ∃ k : Nat, x = k := ⟨x.toNat, by omega⟩
  have hk : k < n := by omega
  have ck : w1.cell? ⟨g, k, none⟩ = some (.string (zs.getD k ByteArray.empty)) := by
    rw [World.cell?_of_block (w := w) (hg1.block g hg (fun e => hgc (by simpa using e)))]; exact HCE.out k hk
  have HM : Hid (zs.getD k ByteArray.empty ∈ zs) := Lib.hid (by
    have e : zs.getD k ByteArray.empty = zs[k]'(by omega) := by simp [List.getD, show k < zs.length by omega]
    rw [e]; exact List.getElem_mem _)
  obtain ⟨z, hzz⟩ : ∃ z, zs.getD k ByteArray.empty = z := ⟨_, rfl⟩
  rw [hzz] at ck HM
  clear hc1 hg1 hzz
  go_wp2
  go_ret
  exact ⟨_, ⟨z, HM.out, rfl⟩, rfl, HC1.out, HG1.out⟩

/-- A pick out of a list that the call has just laid. -/
theorem pickNew_any (c : Nat) (ad : Option Addr) (len cap : Nat) (n : Nat) (zs : List ByteArray) (cs : Array Value) (t : TypeId) (w : World) (hcs : cs = (zs.map Value.string).toArray) (hlen : len ≤ 1048576) (hn : 0 < n) (hn2 : n ≤ 200) (hz : zs.length = n) (hc : Cur w c ad len cap) (hs : Src w c ad len) :
    Calls Tryd.prog 100 #[.pointer (some ⟨c, 0, none⟩), .slice (some ⟨w.heap.size, 0, none⟩) n n] (w.alloc (.cells cs t)) fun e w' => ∃ z ∈ zs, e = .returned (.string z) ∧ Cur w' c ad len cap ∧ w.grownBy w' (some c) := by
  have hh := heap_alloc_new w (.cells cs t)
  have hlt := cur_lt hc
  refine (pickText_any c ad len cap w.heap.size n n zs _ hlen hn hn2 hz (fun j hj => ?_) (by simp) (by omega) (cur_grown hc (grown_alloc _ _ none) (by simp)) (src_grown' hs (grown_alloc _ _ none) (fun k e => by cases e) (by omega))).mono ?_
  · have h1 : ∀ (o : Option Obj), o = some (.cells cs t) → (match o with | some (.cells c _ _) => c[j]? | _ => none) = some (.string (zs.getD j ByteArray.empty)) := fun o ho => by
      subst ho
      subst hcs
      have hj' : j < zs.length := by omega
      simp [List.getD, hj']
    exact h1 _ hh
  · rintro e w' ⟨v, ⟨z, hz, rfl⟩, rfl, hc', hg'⟩
    exact ⟨z, hz, rfl, hc', grownBy_trans (grown_alloc w _ _) hg'⟩
end Draw
end Go.Proofs.YtcckhkihhhchbaaDoor
namespace Go.Proofs.YtcckhkihhhchbaaDoor.Byt
open Go.RowKit Go.Proofs.YtcckhkihhhchbaaDoor.Hexa Go.Lib

/-- Cells stored into a row whose frozen range lies behind its end. -/
theorem run_store (P : Program) (g o : Nat) (t : TypeId) (fz : Nat × Nat) : ∀ (vs : List Value) (i : Nat) (cur : Array Value) (w : World), w.heap[g]? = some (.cells cur t fz) → (fz = (0, 0) ∨ cur.size ≤ fz.1) → o + i + vs.length ≤ cur.size → (∀ v ∈ vs, v.oneCell' = true) →
    (storeCells ⟨g, o, none⟩ vs i).run P w = .ok () (w.setRow g (cur.toList.take (o + i) ++ vs ++ cur.toList.drop (o + i + vs.length)).toArray)
  | [], i, cur, w, hg, _, _, _ => by
    simp only [storeCells, List.append_nil, List.length_nil, Nat.add_zero, List.take_append_drop, Array.toArray_toList]
    rw [setRow_self w g cur t fz hg]
    rfl
  | v :: rest, i, cur, w, hg, hfz, hl, h1 => by
    have hi : o + i < cur.size := by simp at hl; omega
    have hadd : (⟨g, o, none⟩ : Addr).add i = ⟨g, o + i, none⟩ := by unfold Addr.add; split <;> simp_all
    have hcell : w.cell? ⟨g, o + i, none⟩ = some cur[o + i] := by simp [World.cell?, hg, hi]
    have hfro : w.frozen? ⟨g, o + i, none⟩ = false := by
      obtain ⟨lo, hi'⟩ := fz
      simp only [World.frozen?, hg, Bool.and_eq_false_iff, decide_eq_false_iff_not]
      rcases hfz with h | h
      · right; cases h; omega
      · left; simp only at h; omega
    have hst : (store ((⟨g, o, none⟩ : Addr).add i) v).run P w = .ok () (w.setRow g (cur.setIfInBounds (o + i) v)) := by
      rw [hadd, Go.run_store P w _ v _ (h1 v (by simp)), hcell]
      simp [hfro, setCell_eq_setRow w g (o + i) cur t fz v hg]
    have ih := run_store P g o t fz rest (i + 1) (cur.setIfInBounds (o + i) v) (w.setRow g (cur.setIfInBounds (o + i) v)) (setRow_heap w g cur _ t _ hg) (by simpa using hfz) (by simp at hl ⊢; omega) (fun x hx => h1 x (by simp [hx]))
    simp only [storeCells, Sem.run_bind, hst, Result.andThen_ok, ih, setRow_setRow]
    congr 3
    have e := list_seg_step cur.toList (o + i) v rest (by simp at hl ⊢; omega)
    simpa [Array.toList_setIfInBounds, Nat.add_assoc] using e

theorem bcells_length (l : List UInt8) : (bcells l).length = l.length := by simp [bcells]
theorem bcells_append (l m : List UInt8) : bcells (l ++ m) = bcells l ++ bcells m := by simp [bcells]
theorem bcells_one (l : List UInt8) : ∀ u ∈ bcells l, u.oneCell' = true := by
  intro u hu
  simp only [bcells, List.mem_map] at hu
  obtain ⟨b, _, rfl⟩ := hu
  rfl

/-- The value v holds the bytes l, in a row from block B on. -/
def Bytes (w : World) (B : Nat) (e : TypeId) (v : Value) (l : List UInt8) : Prop :=
  (v = .slice none 0 0 ∧ l = []) ∨
  ∃ g cap cur fz, v = .slice (some ⟨g, 0, none⟩) l.length cap ∧ B ≤ g ∧ w.heap[g]? = some (.cells cur e fz) ∧ (fz = (0, 0) ∨ cur.size ≤ fz.1) ∧ l.length ≤ cap ∧ cap ≤ maxLen ∧ cur.size = cap ∧ cur.toList.take l.length = bcells l

theorem bytes_room {w : World} {B : Nat} {e : TypeId} {g cap : Nat} {cur : Array Value} {fz : Nat × Nat} {l : List UInt8} (hb : B ≤ g) (hg : w.heap[g]? = some (.cells cur e fz)) (hfz : fz = (0, 0) ∨ cur.size ≤ fz.1) (hm : cap ≤ maxLen) (hs : cur.size = cap) (ht : cur.toList.take l.length = bcells l)
    (news : List UInt8) (hroom : l.length + news.length ≤ cap) :
    Bytes (w.setRow g (cur.toList.take l.length ++ bcells news ++ cur.toList.drop (l.length + news.length)).toArray) B e (.slice (some ⟨g, 0, none⟩) (l.length + news.length) cap) (l ++ news) := by
  have hsz : (cur.toList.take l.length ++ bcells news ++ cur.toList.drop (l.length + news.length)).toArray.size = cur.size := by
    simp only [List.size_toArray, List.length_append, List.length_take, List.length_drop, Array.length_toList, bcells_length]
    omega
  refine .inr ⟨g, cap, _, fz, by simp, hb, setRow_heap w g cur _ e _ hg, ?_, by simpa using hroom, hm, by rw [hsz, hs], ?_⟩
  · rw [hsz]; exact hfz
  · rw [ht, bcells_append]
    have : (l ++ news).length = (bcells l ++ bcells news).length := by simp [bcells]
    rw [this]
    exact List.take_left

theorem bytes_grown (w : World) {B : Nat} {e : TypeId} (l news : List UInt8) (cap : Nat) (hB : B ≤ w.heap.size) (hc : l.length + news.length ≤ cap) (hm : cap ≤ maxLen) (rest : Array Value) (hr : rest.size = cap - (l.length + news.length)) :
    Bytes (w.drew.alloc (.cells ((bcells l).toArray ++ (bcells news).toArray ++ rest) e)) B e (.slice (some ⟨w.heap.size, 0, none⟩) (l.length + news.length) cap) (l ++ news) := by
  refine .inr ⟨w.heap.size, cap, _, (0, 0), by simp, hB, heap_alloc_new w.drew _, .inl rfl, by simpa using hc, hm, ?_, ?_⟩
  · simp [bcells, hr]; omega
  · have : (l ++ news).length = (bcells l ++ bcells news).length := by simp [bcells]
    rw [this, bcells_append]
    simp only [Array.toList_append, List.append_assoc]
    rw [← List.append_assoc]
    exact List.take_left

theorem bytes_cells {w : World} {g _cap : Nat} {cur : Array Value} {e : TypeId} {fz : Nat × Nat} {l : List UInt8} (hg : w.heap[g]? = some (.cells cur e fz)) (ht : cur.toList.take l.length = bcells l) :
    ∀ j u, (bcells l)[j]? = some u → w.cell? ((⟨g, 0, none⟩ : Addr).add j) = some u := by
  intro j u hu
  have hadd : (⟨g, 0, none⟩ : Addr).add j = ⟨g, j, none⟩ := by unfold Addr.add; split <;> simp_all
  rw [hadd]
  rw [← ht, List.getElem?_take] at hu
  split at hu
  · simp only [World.cell?, hg]; simpa using hu
  · cases hu

theorem zeros_cells (n : Nat) : Builtin.zeroCells (Value.int .u8 0).cells n = (bcells (List.replicate n 0)).toArray := by
  simp only [Builtin.zeroCells, Value.cells, bcells]
  apply Array.ext
  · simp
  · intro i h1 h2
    simp [Nat.mod_one]

section
variable {P : Program} {t e : TypeId} {i : TypeInfo} (ht : P.underlying t = some (.slice e)) (hi : P.info? e = some i) (hz : i.zero = some (.int .u8 0)) (hs1 : i.size = 1) (hb1 : i.bytes = 1)
include ht hi hz hs1 hb1

/-- What an append yields: the bytes, and nothing below B is written. -/
def Out (P : Program) (args : Array TypeId) (ty : TypeId) (vs : Array Value) (w : World) (B : Nat) (e : TypeId) (l : List UInt8) : Prop :=
  ∃ v' w', (Builtin.append_ args ty vs).run P w = .ok v' w' ∧ Bytes w' B e v' l ∧ Below B w w'

omit ht hi hz hs1 hb1 in
theorem below_setRow (w : World) {B g : Nat} (h : B ≤ g) (cs : Array Value) : Below B w (w.setRow g cs) := ⟨rfl, rfl, rfl, by simp, fun k hk => setRow_other _ _ _ _ (by omega)⟩
omit ht hi hz hs1 hb1 in
theorem below_grown (w : World) {B : Nat} (h : B ≤ w.heap.size) (o : Obj) : Below B w (w.drew.alloc o) := ((Below.refl _ _).drew).alloc (by simpa using h) o

theorem append_cells (w : World) {B : Nat} {v : Value} {l : List UInt8} (h : Bytes w B e v l) (hB : B ≤ w.heap.size) (ty : TypeId) (ad : Addr) (c : Nat) (news : List UInt8) (hn : ∀ j u, (bcells news)[j]? = some u → w.cell? (ad.add j) = some u) (hl : l.length + news.length ≤ 1000000000) :
    Out P #[t, t] ty #[v, .slice (some ad) news.length c] w B e (l ++ news) := by
  rcases h with ⟨rfl, rfl⟩ | ⟨g, cap, cur, fz, rfl, hb, hg, hfz, hlc, hm, hcs, htk⟩
  · obtain ⟨v', w', r1, r2, r3, r4⟩ := run_append_own (P := P) w B t ty e i (.int .u8 0) 1 1 ht hi hz hs1 hb1 rfl (by decide) (.slice none 0 0) 0 [] ⟨rfl, .inl ⟨rfl, rfl⟩⟩ ad news.length c (bcells news) (by simp [bcells]) hn (bcells_one _) (by simp at hl; unfold maxLen; omega) (by simp at hl; omega) hB
    refine ⟨v', w', r1, ?_, (Below.refl _ _).grown r3 hB (fun k h => by cases h)⟩
    rcases r2.2 with ⟨rfl, hn0⟩ | ⟨g, cap, cur, rfl, h1, h2, h3, h4, h5, h6⟩
    · left
      refine ⟨rfl, List.eq_nil_of_length_eq_zero (by simpa using hn0)⟩
    · right
      simp at h3 h5 h6
      exact ⟨g, cap, cur, (0, 0), by simp, h1, h2, .inl rfl, by simpa using h3, h4, h5, by simpa using h6⟩
  · by_cases hroom : l.length + news.length ≤ cap
    · have hf := run_firstCells_some (P := P) w 1 news.length ad news.length c (bcells news) (by simp [bcells]) hn
      have hst := run_store P g l.length e fz (bcells news) 0 cur w hg hfz (by simp [bcells]; omega) (bcells_one _)
      simp only [Nat.add_zero, bcells_length] at hst
      refine ⟨_, _, ?_, bytes_room hb hg hfz hm hcs htk news hroom, below_setRow w hb _⟩
      simp [Builtin.append_, run_underlying ht, sizeOf, typeInfo, hi, hs1, Builtin.lenOf, hroom, hf, Addr.add_lit, hst]
    · have hr := run_append_grow (P := P) w t ty e i (.int .u8 0) ht hi hz ⟨g, 0, none⟩ l.length cap (bcells l) (by simp [bcells, hs1]) (bytes_cells (_cap := cap) hg htk) ad news.length c (bcells news) (by simp [bcells, hs1]) hn (by omega) (by omega) (growslice_fits (by omega) (by rw [hb1]; omega))
      have hge := grownCap_ge w (l.length + news.length) cap e
      have hcm := grownCap_le_maxLen w (l.length + news.length) cap e (by unfold maxLen; omega)
      refine ⟨_, _, hr, bytes_grown w l news _ hB hge hcm _ ?_, below_grown w hB _⟩
      simp [Builtin.zeroCells, Value.cells]

theorem append_text {u : TypeId} (hu : P.underlying u = some .string) (w : World) {B : Nat} {v : Value} {l : List UInt8} (h : Bytes w B e v l) (hB : B ≤ w.heap.size) (ty : TypeId) (s : ByteArray) (hl : l.length + s.size ≤ 1000000000) :
    Out P #[t, u] ty #[v, .string s] w B e (l ++ s.data.toList) := by
  have hls : s.data.toList.length = s.size := by simp
  rcases h with ⟨rfl, rfl⟩ | ⟨g, cap, cur, fz, rfl, hb, hg, hfz, hlc, hm, hcs, htk⟩
  · obtain ⟨v', w', r1, r2, r3, r4⟩ := run_append_own_string (P := P) w B t u ty e i ht hu hi hz hs1 hb1 (.slice none 0 0) 0 [] ⟨rfl, .inl ⟨rfl, rfl⟩⟩ s (by simp at hl; unfold maxLen; omega) (by simp at hl; omega) hB
    refine ⟨v', w', r1, ?_, (Below.refl _ _).grown r3 hB (fun k h => by cases h)⟩
    rcases r2.2 with ⟨rfl, hn0⟩ | ⟨g, cap, cur, rfl, h1, h2, h3, h4, h5, h6⟩
    · left
      refine ⟨rfl, List.eq_nil_of_length_eq_zero (by simp at hn0 ⊢; simpa using hn0)⟩
    · right
      simp at h3 h5 h6
      exact ⟨g, cap, cur, (0, 0), by simp, h1, h2, .inl rfl, by simpa using h3, h4, h5, by simpa [bcells, strCells] using h6⟩
  · by_cases hroom : l.length + s.size ≤ cap
    · have hf := run_firstCells_string (P := P) w 1 s
      have hst := run_store P g l.length e fz (strCells s) 0 cur w hg hfz (by simp [strCells_length]; omega) (strCells_oneCell s)
      simp only [Nat.add_zero, strCells_length] at hst
      have hbr := bytes_room hb hg hfz hm hcs htk s.data.toList (by rw [hls]; exact hroom)
      rw [hls] at hbr
      refine ⟨_, _, ?_, hbr, below_setRow w hb _⟩
      simp [Builtin.append_, run_underlying ht, run_underlying hu, sizeOf, typeInfo, hi, hs1, Builtin.lenOf, hroom, hf, Addr.add_lit, hst]
      rfl
    · have hr := run_append_grow_string (P := P) w t u ty e i (.int .u8 0) ht hu hi hz ⟨g, 0, none⟩ l.length cap (bcells l) (by simp [bcells, hs1]) (bytes_cells (_cap := cap) hg htk) s (by omega) (by omega) (growslice_fits (by omega) (by rw [hb1]; omega))
      have hge := grownCap_ge w (l.length + s.size) cap e
      have hcm := grownCap_le_maxLen w (l.length + s.size) cap e (by unfold maxLen; omega)
      have hbg := bytes_grown w (e := e) l s.data.toList _ hB (by rw [hls]; exact hge) hcm (Builtin.zeroCells (Value.int .u8 0).cells (grownCap w (l.length + s.size) cap e - (l.length + s.size))) (by simp [Builtin.zeroCells, Value.cells])
      rw [hls] at hbg
      exact ⟨_, _, hr, hbg, below_grown w hB _⟩

theorem append_zeros {u : TypeId} {kn kq : IntKind} (hu : P.underlying u = some (.int kn)) (w : World) {B : Nat} {v : Value} {l : List UInt8} (h : Bytes w B e v l) (hB : B ≤ w.heap.size) (hv : v ≠ .slice none 0 0) (ty : TypeId) (k : Nat) (hl : l.length + k ≤ 1000000000) :
    Out P #[t, u] ty #[v, .int kq k] w B e (l ++ List.replicate k 0) := by
  have hls : (List.replicate k (0 : UInt8)).length = k := by simp
  rcases h with ⟨rfl, rfl⟩ | ⟨g, cap, cur, fz, rfl, hb, hg, hfz, hlc, hm, hcs, htk⟩
  · exact absurd rfl hv
  · by_cases hroom : l.length + k ≤ cap
    · have hst := run_store P g l.length e fz (bcells (List.replicate k 0)) 0 cur w hg hfz (by simp [bcells]; omega) (bcells_one _)
      simp only [Nat.add_zero, bcells_length, hls] at hst
      have hbr := bytes_room hb hg hfz hm hcs htk (List.replicate k 0) (by rw [hls]; exact hroom)
      rw [hls] at hbr
      refine ⟨_, _, ?_, hbr, below_setRow w hb _⟩
      have hw : IntKind.i64.wrap (k : Int) = k := by rw [IntKind.wrap_i64]; omega
      have hneg : ¬ ((k : Int) < 0) := by omega
      have h48i : ¬ (281474976710656 < (k : Int)) := by omega
      by_cases hk : k = 0
      · subst hk
        simp at hst hroom
        have hw0 : IntKind.i64.wrap 0 = 0 := rfl
        simp [bcells] at hst
        simp [Builtin.append_, run_underlying ht, run_underlying hu, sizeOf, typeInfo, zeroValue, hi, hs1, hb1, hz, asInt, asIntOf, hw0, hroom, Addr.add_lit, hst, bcells]
      · simp [Builtin.append_, run_underlying ht, run_underlying hu, sizeOf, typeInfo, zeroValue, hi, hs1, hb1, hz, asInt, asIntOf, hw, hneg, h48i, hk, hroom, Addr.add_lit, zeros_cells, hst]
    · have hk : 0 < k := by omega
      have hfo := run_firstCells_some (P := P) w.drew i.size l.length ⟨g, 0, none⟩ l.length cap (bcells l) (by simp [bcells, hs1]) (by simpa using bytes_cells (_cap := cap) hg htk)
      have hr := run_append_grow_zeros (P := P) w t u ty e i (.int .u8 0) kq kn ht hu hi hz (some ⟨g, 0, none⟩) l.length cap (bcells l) hfo k hk (by omega) (by omega) (by omega) (by rw [hb1]; omega) (growslice_fits (by omega) (by rw [hb1]; omega))
      have hge := grownCap_ge w (l.length + k) cap e
      have hcm := grownCap_le_maxLen w (l.length + k) cap e (by unfold maxLen; omega)
      have hbg := bytes_grown w (e := e) l (List.replicate k 0) _ hB (by rw [hls]; exact hge) hcm (Builtin.zeroCells (Value.int .u8 0).cells (grownCap w (l.length + k) cap e - (l.length + k))) (by simp [Builtin.zeroCells, Value.cells])
      rw [hls] at hbg
      rw [zeros_cells k] at hr
      exact ⟨_, _, hr, hbg, below_grown w hB _⟩
end

theorem bytes_alloc {w : World} {B : Nat} {e : TypeId} {v : Value} {l : List UInt8} (h : Bytes w B e v l) (o : Obj) : Bytes (w.alloc o) B e v l := by
  rcases h with h | ⟨g, cap, cur, fz, rfl, hb, hg, r⟩
  · exact .inl h
  · refine .inr ⟨g, cap, cur, fz, rfl, hb, ?_, r⟩
    rw [Below.heap_alloc _ _ _ (Array.getElem?_eq_some_iff.1 hg).1]; exact hg

/-- The slice that '[]byte(s)' makes. -/
theorem bytes_conv (w : World) (e : TypeId) (s : ByteArray) (B : Nat) (hB : B ≤ w.heap.size) (hs : s.size ≤ 1000000000) :
    Bytes (w.drew.alloc (.cells (bytesRow s (grownCap w s.size 0 e)) e ((bytesRow s (grownCap w s.size 0 e)).size, (bytesRow s (grownCap w s.size 0 e)).size + 1))) B e (.slice (some ⟨w.heap.size, 0, none⟩) s.size (grownCap w s.size 0 e)) s.data.toList := by
  have hge := grownCap_ge w s.size 0 e
  have hcm := grownCap_le_maxLen w s.size 0 e (by unfold maxLen; omega)
  have hds : s.data.size = s.size := rfl
  refine .inr ⟨w.heap.size, _, _, _, by simp, hB, heap_alloc_new w.drew _, .inr (Nat.le_refl _), by simpa using hge, hcm, ?_, ?_⟩
  · simp [bytesRow]; omega
  · simp only [bytesRow, Array.toList_append]
    have : s.data.toList.length = (s.data.map (fun b => Value.int .u8 b.toNat)).toList.length := by simp
    rw [this, List.take_left]
    simp [bcells]

/-- 'string(b)'. -/
theorem bytes_string {P : Program} {w : World} {B e : Nat} {v : Value} {l : List UInt8} (src dst : TypeId)
    (hs : P.underlying src = some (.slice e)) (he : P.underlying e = some (.int .u8)) (hd : P.underlying dst = some .string)
    (h : Bytes w B e v l) : (convert src dst v).run P w = .ok (.string ⟨l.toArray⟩) w := by
  rcases h with ⟨rfl, rfl⟩ | ⟨g, cap, cur, fz, rfl, _, hg, _, _, _, _, htk⟩
  · exact run_convert_bytes_nil w src e hs he 0 0 dst hd
  · refine run_convert_bytes_back w src dst e _ cap l hs he hd fun j hj => ?_
    exact bytes_cells (_cap := cap) hg htk j _ (by simp [bcells, hj])

theorem bytes_of_own {w : World} {B e : Nat} {v : Value} {l : List UInt8} (h : w.ownsRow B e 1 v l.length (bcells l)) : Bytes w B e v l := by
  rcases h.2 with ⟨rfl, hn0⟩ | ⟨g, cap, cur, rfl, h1, h2, h3, h4, h5, h6⟩
  · exact .inl ⟨rfl, List.eq_nil_of_length_eq_zero hn0⟩
  · simp at h5 h6
    exact .inr ⟨g, cap, cur, (0, 0), rfl, h1, h2, .inl rfl, h3, h4, h5, h6⟩

theorem bytes_len {w : World} {B e : Nat} {v : Value} {l : List UInt8} (h : Bytes w B e v l) : ∃ a c, v = .slice a l.length c := by
  rcases h with ⟨rfl, rfl⟩ | ⟨g, cap, cur, fz, rfl, _⟩
  · exact ⟨none, 0, rfl⟩
  · exact ⟨_, _, rfl⟩

/-- The operation, for the walk. -/
theorem wpList_append_out {P : Program} {ops : Array Oper} {rest : List Oper} {o : Oper} {a : Act} {w : World} {Q : Exit → Act → World → Prop} (hgd : o.guard = none) (s x : Operand) (t tn : TypeId)
    (ho : o.op = .call { callee := .builtin .append, args := #[s, x], argTypes := #[t, tn] }) (vs vx : Value) (hs : a.eval s = vs) (hx : a.eval x = vx) {B : Nat} {e : TypeId} {l : List UInt8}
    (hr : Out P #[t, tn] o.type #[vs, vx] w B e l) (h : ∀ v' w', Bytes w' B e v' l → Below B w w' → wpList P ops Q rest (a.put o.dst v') w') : wpList P ops Q (o :: rest) a w := by
  obtain ⟨v', w', r, h1, h2⟩ := hr
  exact Lib.wpList_append_run w hgd s x t tn ho vs vx hs hx v' w' r (h v' w' h1 h2)
end Go.Proofs.YtcckhkihhhchbaaDoor.Byt
namespace Go.Proofs.YtcckhkihhhchbaaDoor.BitsM
open Go.RowKit

theorem bv8 (a : UInt8) : BitVec.ofInt 8 (a.toNat : Int) = a.toBitVec := by
  apply BitVec.eq_of_toNat_eq
  have := a.toNat_lt
  rw [BitVec.ofInt_natCast, BitVec.toNat_ofNat]
  exact Nat.mod_eq_of_lt (by simpa using this)
theorem wrap8 (b : BitVec 8) : IntKind.u8.wrap (b.toNat : Int) = ((⟨b⟩ : UInt8).toNat : Int) := by
  have := b.isLt
  rw [IntKind.wrap_u8]
  show (b.toNat : Int) % 256 = (b.toNat : Int)
  omega
theorem xor8 (a b : UInt8) : bits .xor .u8 (a.toNat : Int) (b.toNat : Int) = ((a ^^^ b).toNat : Int) := by
  show IntKind.u8.wrap ((BitVec.ofInt 8 (a.toNat : Int) ^^^ BitVec.ofInt 8 (b.toNat : Int)).toNat : Int) = _
  rw [bv8, bv8, wrap8]; rfl
theorem or8 (a b : UInt8) : bits .or .u8 (a.toNat : Int) (b.toNat : Int) = ((a ||| b).toNat : Int) := by
  show IntKind.u8.wrap ((BitVec.ofInt 8 (a.toNat : Int) ||| BitVec.ofInt 8 (b.toNat : Int)).toNat : Int) = _
  rw [bv8, bv8, wrap8]; rfl
theorem and8 (a b : UInt8) : bits .and .u8 (a.toNat : Int) (b.toNat : Int) = ((a &&& b).toNat : Int) := by
  show IntKind.u8.wrap ((BitVec.ofInt 8 (a.toNat : Int) &&& BitVec.ofInt 8 (b.toNat : Int)).toNat : Int) = _
  rw [bv8, bv8, wrap8]; rfl

theorem bv64 (a : Nat) (_h : a < 9223372036854775808) : BitVec.ofInt 64 (a : Int) = BitVec.ofNat 64 a := by
  rw [BitVec.ofInt_natCast]
theorem wrap64 (n : Nat) (h : n < 9223372036854775808) : IntKind.i64.wrap (n : Int) = (n : Int) := IntWalk.i64_in _ (by omega)
theorem or64 (a b : Nat) (ha : a < 9223372036854775808) (hb : b < 9223372036854775808) : bits .or .i64 (a : Int) (b : Int) = ((a ||| b : Nat) : Int) := by
  show IntKind.i64.wrap ((BitVec.ofInt 64 (a : Int) ||| BitVec.ofInt 64 (b : Int)).toNat : Int) = _
  have h := Nat.or_lt_two_pow (n := 63) ha hb
  rw [bv64 a ha, bv64 b hb, BitVec.toNat_or, BitVec.toNat_ofNat, BitVec.toNat_ofNat, Nat.mod_eq_of_lt (by omega), Nat.mod_eq_of_lt (by omega), wrap64 _ h]
theorem xor64 (a b : Nat) (ha : a < 9223372036854775808) (hb : b < 9223372036854775808) : bits .xor .i64 (a : Int) (b : Int) = ((a ^^^ b : Nat) : Int) := by
  show IntKind.i64.wrap ((BitVec.ofInt 64 (a : Int) ^^^ BitVec.ofInt 64 (b : Int)).toNat : Int) = _
  have h := Nat.xor_lt_two_pow (n := 63) ha hb
  rw [bv64 a ha, bv64 b hb, BitVec.toNat_xor, BitVec.toNat_ofNat, BitVec.toNat_ofNat, Nat.mod_eq_of_lt (by omega), Nat.mod_eq_of_lt (by omega), wrap64 _ h]
theorem and64 (a b : Nat) (ha : a < 9223372036854775808) (hb : b < 9223372036854775808) : bits .and .i64 (a : Int) (b : Int) = ((a &&& b : Nat) : Int) := by
  show IntKind.i64.wrap ((BitVec.ofInt 64 (a : Int) &&& BitVec.ofInt 64 (b : Int)).toNat : Int) = _
  have h := Nat.and_lt_two_pow (n := 63) a hb
  rw [bv64 a ha, bv64 b hb, BitVec.toNat_and, BitVec.toNat_ofNat, BitVec.toNat_ofNat, Nat.mod_eq_of_lt (by omega), Nat.mod_eq_of_lt (by omega), wrap64 _ h]
end Go.Proofs.YtcckhkihhhchbaaDoor.BitsM
namespace Go.Proofs.YtcckhkihhhchbaaDoor
open Go.RowKit Go.Proofs.YtcckhkihhhchbaaDoor.Hexa Go.Proofs.YtcckhkihhhchbaaDoor.Byt Go.Proofs.YtcckhkihhhchbaaDoor.BitsM

theorem infoByte : (Tryd.prog.info? 5).map (fun i => (i.zero, i.size, i.bytes)) = some (some (.int .u8 0), 1, 1) := by kernel_rfl
/-- One byte appended, in the block of the walk's own one-cell slice. -/
theorem outB (w : World) {B : Nat} {v : Value} {l : List UInt8} (h : Bytes w B 5 v l) (hB : B ≤ w.heap.size) (ty : TypeId) (c : UInt8) (x : Int) (hx : x = c.toNat) (hl : l.length ≤ 100000000) :
    Out Tryd.prog #[22, 22] ty #[v, .slice (some ⟨w.heap.size, 0, none⟩) 1 1] (w.alloc (.cells #[.int .u8 x] 5)) B 5 (l ++ [c]) := by
  obtain ⟨i0, hi, hz0, hz1, hz2⟩ := info_parts infoByte
  subst hx
  refine append_cells Tryd.underlying22 hi hz0 hz1 hz2 _ (bytes_alloc h _) (by simp; omega) ty ⟨w.heap.size, 0, none⟩ 1 [c] ?_ (by simp; omega)
  exact World.news_of_block (heap_alloc_new _ _)

/-- One byte n times. -/
def longB (n : Nat) (x : UInt8) : ByteArray := ⟨(List.replicate n x).toArray⟩
theorem longB_size (n : Nat) (x : UInt8) : (longB n x).size = n := by show (List.replicate n x).toArray.size = n; simp

theorem bytes_set {w : World} {B e g c : Nat} {l : List UInt8} (h : Bytes w B e (.slice (some ⟨g, 0, none⟩) l.length c) l) (k : Nat) (x : UInt8) :
    Bytes (w.setCell ⟨g, k, none⟩ (.int .u8 x.toNat)) B e (.slice (some ⟨g, 0, none⟩) l.length c) (l.set k x) := by
  rcases h with ⟨h, _⟩ | ⟨g', cap, cur, fz, hv, hb, hg, hfz, hlc, hm, hcs, htk⟩
  · cases h
  · simp at hv
    obtain ⟨rfl, rfl⟩ := hv
    rw [setCell_eq_setRow w g k cur e fz _ hg]
    refine .inr ⟨g, c, _, fz, by simp, hb, setRow_heap w g cur _ e fz hg, by simpa using hfz, by simpa using hlc, hm, by simpa using hcs, ?_⟩
    rw [Array.toList_setIfInBounds, List.length_set, List.take_set, htk]
    simp [bcells, List.map_set]
theorem bytes_at {w : World} {B e g c : Nat} {l : List UInt8} (h : Bytes w B e (.slice (some ⟨g, 0, none⟩) l.length c) l) (k : Nat) (hk : k < l.length) :
    w.cell? ⟨g, k, none⟩ = some (.int .u8 (l[k]).toNat) ∧ w.frozen? ⟨g, k, none⟩ = false ∧ B ≤ g := by
  rcases h with ⟨h, _⟩ | ⟨g', cap, cur, fz, hv, hb, hg, hfz, hlc, hm, hcs, htk⟩
  · cases h
  · simp at hv
    obtain ⟨rfl, rfl⟩ := hv
    refine ⟨?_, ?_, hb⟩
    · have := bytes_cells (_cap := c) hg htk k (.int .u8 (l[k]).toNat) (by simp [bcells, hk])
      have hadd : (⟨g, 0, none⟩ : Addr).add k = ⟨g, k, none⟩ := by unfold Addr.add; split <;> simp_all
      rwa [hadd] at this
    · obtain ⟨lo, hi'⟩ := fz
      simp only [World.frozen?, hg, Bool.and_eq_false_iff, decide_eq_false_iff_not]
      rcases hfz with h | h
      · right; cases h; omega
      · left; simp only at h; omega

end Go.Proofs.YtcckhkihhhchbaaDoor
