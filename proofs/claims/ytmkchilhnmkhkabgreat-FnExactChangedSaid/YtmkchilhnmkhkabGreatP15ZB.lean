/- Merged texts: LongMath, NumMath, NumBack, RecBase, EntryBase, RecMath, InoMath, TRecE, TEntryE, TInoE, LnkMath, SerMath, IntsBase, IntsAt, RangeSpec, AppI, StSpec, TIntE, TPartE, Says, Geo, OkMath, Made, WordsMath, StSpecC, PlcMath. -/
import Derived.Test.YtmkchilhnmkhkabGreatP15ZA
import Derived.WalkKit
import Derived.WalkSpells
import Derived.WalkLawsBesides
import Derived.Deep.RegionLaw
import Derived.Deep.AppendLies
import Derived.Lib.Hide
import Derived.Deep.QuietTactic
import Derived.BigQuiet
import Derived.Test.YtmkchilhnmkhkabGreatRows
import Derived.Below
import Derived.OwnWalk
import Derived.Maps.AppendAt
import Derived.Lib.AppendZeros
import Derived.RowKit3
import Derived.IntWalk
import Derived.OneCell
import Derived.Deep.RegionWith
import Derived.Laws.MakeOwn
import Derived.Lib.AppendStr
namespace Go.Proofs.YtmkchilhnmkhkabGreat
open Go.RowKit Go.Proofs.YtmkchilhnmkhkabGreat.Hexa Go.Proofs.YtmkchilhnmkhkabGreat.Byt Go.Proofs.YtmkchilhnmkhkabGreat.BitsM

theorem infoByte : (Tryz.prog.info? 5).map (fun i => (i.zero, i.size, i.bytes)) = some (some (.int .u8 0), 1, 1) := by kernel_rfl
/-- One byte appended, in the block of the walk's own one-cell slice. -/
theorem outB (w : World) {B : Nat} {v : Value} {l : List UInt8} (h : Bytes w B 5 v l) (hB : B ≤ w.heap.size) (ty : TypeId) (c : UInt8) (x : Int) (hx : x = c.toNat) (hl : l.length ≤ 100000000) :
    Out Tryz.prog #[85, 85] ty #[v, .slice (some ⟨w.heap.size, 0, none⟩) 1 1] (w.alloc (.cells #[.int .u8 x] 5)) B 5 (l ++ [c]) := by
  obtain ⟨i0, hi, hz0, hz1, hz2⟩ := info_parts infoByte
  subst hx
  refine append_cells Tryz.underlying85 hi hz0 hz1 hz2 _ (bytes_alloc h _) (by simp; omega) ty ⟨w.heap.size, 0, none⟩ 1 [c] ?_ (by simp; omega)
  exact World.news_of_block (heap_alloc_new _ _)

/-- One byte n times. -/
def longB (n : Nat) (x : UInt8) : ByteArray := ⟨(List.replicate n x).toArray⟩
theorem longB_size (n : Nat) (x : UInt8) : (longB n x).size = n := by show (List.replicate n x).toArray.size = n; simp

theorem bytes_set {w : World} {B e g c : Nat} {l : List UInt8} (h : Bytes w B e (.slice (some ⟨g, 0, none⟩) l.length c) l) (k : Nat) (x : UInt8) :
    Bytes (w.setCell ⟨g, k, none⟩ (.int .u8 x.toNat)) B e (.slice (some ⟨g, 0, none⟩) l.length c) (l.set k x) := by
  rcases h with ⟨h, _⟩ | ⟨g', cap, cur, fz, hv, hb, hg, hfz, hlc, hm, hcs, htk⟩
  · cases h
  · simp at hv
    obtain ⟨rfl, rfl⟩ := hv
    rw [setCell_eq_setRow w g k cur e fz _ hg]
    refine .inr ⟨g, c, _, fz, by simp, hb, setRow_heap w g cur _ e fz hg, by simpa using hfz, by simpa using hlc, hm, by simpa using hcs, ?_⟩
    rw [Array.toList_setIfInBounds, List.length_set, List.take_set, htk]
    simp [bcells, List.map_set]
theorem bytes_at {w : World} {B e g c : Nat} {l : List UInt8} (h : Bytes w B e (.slice (some ⟨g, 0, none⟩) l.length c) l) (k : Nat) (hk : k < l.length) :
    w.cell? ⟨g, k, none⟩ = some (.int .u8 (l[k]).toNat) ∧ w.frozen? ⟨g, k, none⟩ = false ∧ B ≤ g := by
  rcases h with ⟨h, _⟩ | ⟨g', cap, cur, fz, hv, hb, hg, hfz, hlc, hm, hcs, htk⟩
  · cases h
  · simp at hv
    obtain ⟨rfl, rfl⟩ := hv
    refine ⟨?_, ?_, hb⟩
    · have := bytes_cells (_cap := c) hg htk k (.int .u8 (l[k]).toNat) (by simp [bcells, hk])
      have hadd : (⟨g, 0, none⟩ : Addr).add k = ⟨g, k, none⟩ := by unfold Addr.add; split <;> simp_all
      rwa [hadd] at this
    · obtain ⟨lo, hi'⟩ := fz
      simp only [World.frozen?, hg, Bool.and_eq_false_iff, decide_eq_false_iff_not]
      rcases hfz with h | h
      · right; cases h; omega
      · left; simp only at h; omega

end Go.Proofs.YtmkchilhnmkhkabGreat
namespace Go.Proofs.YtmkchilhnmkhkabGreat
open Go.RowKit Go.Proofs.YtmkchilhnmkhkabGreat.Hexa Go.Proofs.YtmkchilhnmkhkabGreat.Byt Go.Proofs.YtmkchilhnmkhkabGreat.BitsM Go.Proofs.YtmkchilhnmkhkabGreat.Parts

/-- n zero bytes; none where n is not from 0 to 20000. -/
def zeroB (n : Int) : ByteArray := if 0 ≤ n ∧ n ≤ 20000 then longB n.toNat 0 else ⟨#[]⟩
/-- A text with zero bytes behind it, eight in all; none for a longer one. -/
def wordB (s : ByteArray) : ByteArray := if s.size ≤ 8 then s ++ longB (8 - s.size) 0 else ⟨#[]⟩
theorem zeroB_of (s : ByteArray) (h : s.size ≤ 8) : zeroB (8 - (s.size : Int)) = longB (8 - s.size) 0 := by
  unfold zeroB
  rw [if_pos (by omega), show (8 - (s.size : Int)).toNat = 8 - s.size by omega]
/-- Two texts of one length combined, the first k bytes of them. -/
def xorL (a b : ByteArray) (k : Nat) : List UInt8 := (List.zipWith (· ^^^ ·) a.data.toList b.data.toList).take k
def xorT (a b : ByteArray) : ByteArray := if a.size = b.size then ⟨(xorL a b a.size).toArray⟩ else ⟨#[]⟩
theorem xorL_length (a b : ByteArray) (hl : a.size = b.size) (k : Nat) (hk : k ≤ a.size) : (xorL a b k).length = k := by
  have h1 : a.data.toList.length = a.size := by simp
  have h2 : b.data.toList.length = b.size := by simp
  unfold xorL
  rw [List.length_take, List.length_zipWith]
  omega
theorem xorL_next (a b : ByteArray) (k : Nat) (ha : k < a.size) (hb : k < b.size) : bcells (xorL a b k) ++ [.int .u8 (((a[k]'ha) ^^^ (b[k]'hb)).toNat : Int)] = bcells (xorL a b (k + 1)) := by
  have h1 : k < a.data.toList.length := by simpa using ha
  have h2 : k < b.data.toList.length := by simpa using hb
  have e : (List.zipWith (· ^^^ ·) a.data.toList b.data.toList)[k]'(by rw [List.length_zipWith]; omega) = (a[k]'ha) ^^^ (b[k]'hb) := by rw [List.getElem_zipWith]; rfl
  unfold xorL
  rw [List.take_succ_eq_append_getElem (by rw [List.length_zipWith]; omega), e]
  simp [bcells]
/-- The first j of the k bytes of a number. -/
def numL (m k j : Nat) : List UInt8 := (List.range j).map fun t => UInt8.ofNat (m / 256 ^ (k - 1 - t))
def numB (m k : Nat) : ByteArray := ⟨(numL m k k).toArray⟩
theorem numL_length (m k j : Nat) : (numL m k j).length = j := by simp [numL]
theorem numL_next (m k j : Nat) : numL m k j ++ [UInt8.ofNat (m / 256 ^ (k - 1 - j))] = numL m k (j + 1) := by simp [numL, List.range_succ]
/-- The number has room in width bytes. -/
def NumFits (n width : Int) : Prop := 0 ≤ n ∧ (1 ≤ width ∧ width ≤ 7) ∧ n < 256 ^ width.toNat
theorem shift_zero {m k : Nat} (h : m < 256 ^ k) : (m : Int) / 2 ^ (8 * k) = 0 := by
  have e : (2 : Int) ^ (8 * k) = ((256 ^ k : Nat) : Int) := by rw [show (256 : Nat) ^ k = 2 ^ (8 * k) by rw [Nat.pow_mul]]; simp
  rw [e, ← Int.natCast_ediv, Nat.div_eq_of_lt h]; rfl
theorem shift_pos {m k : Nat} (h : 256 ^ k ≤ m) : 0 < (m : Int) / 2 ^ (8 * k) := by
  have e : (2 : Int) ^ (8 * k) = ((256 ^ k : Nat) : Int) := by rw [show (256 : Nat) ^ k = 2 ^ (8 * k) by rw [Nat.pow_mul]]; simp
  have hp : 0 < 256 ^ k := Nat.pow_pos (by omega)
  have := Nat.div_pos h hp
  rw [e, ← Int.natCast_ediv]; omega
theorem num_byte (m e : Nat) : (m : Int) / 2 ^ (8 * e) % 256 = ((UInt8.ofNat (m / 256 ^ e)).toNat : Int) := by
  rw [UInt8.toNat_ofNat', show (256 : Nat) ^ e = 2 ^ (8 * e) by rw [Nat.pow_mul]]
  have : (2 : Int) ^ (8 * e) = ((2 ^ (8 * e) : Nat) : Int) := by simp
  rw [this, ← Int.natCast_ediv]
  rfl
/-- The number that bytes say, the greatest first. -/
def numV (l : List UInt8) : Nat := l.foldl (fun n b => 256 * n + b.toNat) 0
theorem numV_snoc (l : List UInt8) (b : UInt8) : numV (l ++ [b]) = 256 * numV l + b.toNat := by simp [numV]
theorem fold_lt : ∀ (l : List UInt8) (acc : Nat), l.foldl (fun n b => 256 * n + b.toNat) acc < (acc + 1) * 256 ^ l.length
  | [], acc => by simp
  | b :: l, acc => by
    have h := fold_lt l (256 * acc + b.toNat)
    have hb := b.toNat_lt
    have h2 : (256 * acc + b.toNat + 1) * 256 ^ l.length ≤ (acc + 1) * 256 * 256 ^ l.length := Nat.mul_le_mul_right _ (by omega)
    rw [List.foldl_cons, List.length_cons, Nat.pow_succ, Nat.mul_comm (256 ^ l.length) 256, ← Nat.mul_assoc]
    omega
theorem numV_lt (l : List UInt8) : numV l < 256 ^ l.length := by
  have := fold_lt l 0
  simpa [numV] using this
/-- The bytes from offset a on, k of them. -/
def cutL (s : ByteArray) (a k : Nat) : List UInt8 := (s.data.toList.drop a).take k
theorem cutL_length (s : ByteArray) (a k : Nat) (h : a + k ≤ s.size) : (cutL s a k).length = k := by
  have : s.data.toList.length = s.size := by simp
  unfold cutL
  rw [List.length_take, List.length_drop]
  omega
theorem cutL_next (s : ByteArray) (a k : Nat) (h : a + k < s.size) : cutL s a k ++ [s[a + k]'h] = cutL s a (k + 1) := by
  have hl : s.data.toList.length = s.size := by simp
  unfold cutL
  rw [List.take_succ_eq_append_getElem (by rw [List.length_drop]; omega), List.getElem_drop]
  rfl
/-- These bytes exist. -/
def NumThere (s : ByteArray) (a width : Int) : Prop := (1 ≤ width ∧ width ≤ 7) ∧ (0 ≤ a ∧ a ≤ (s.size : Int) - width)
theorem ret_pair {a b : Int} {v : Value} (h : a = b) : Ending.returned (.tuple #[.int .i64 a, v]) = .returned (.tuple #[.int .i64 b, v]) := by rw [h]
/-- The number in its bytes; none where it has no room. -/
def numTextB (n width : Int) : ByteArray := if 0 ≤ n ∧ (1 ≤ width ∧ width ≤ 7) ∧ n < 256 ^ width.toNat then numB n.toNat width.toNat else ⟨#[]⟩
/-- The number at an offset, and whether it is there. -/
def numAtV (s : ByteArray) (a width : Int) : Int := if (1 ≤ width ∧ width ≤ 7) ∧ (0 ≤ a ∧ a ≤ (s.size : Int) - width) then (numV (cutL s a.toNat width.toNat) : Int) else 0
def numAtB (s : ByteArray) (a width : Int) : Bool := decide ((1 ≤ width ∧ width ≤ 7) ∧ (0 ≤ a ∧ a ≤ (s.size : Int) - width))
end Go.Proofs.YtmkchilhnmkhkabGreat
namespace Go.Proofs.YtmkchilhnmkhkabGreat
open Go.RowKit Go.Proofs.YtmkchilhnmkhkabGreat.Hexa Go.Proofs.YtmkchilhnmkhkabGreat.Byt

theorem numV_take (l : List UInt8) (i : Nat) (h : i < l.length) : numV (l.take (i + 1)) = 256 * numV (l.take i) + (l[i]'h).toNat := by
  rw [List.take_succ_eq_append_getElem h, numV_snoc]
theorem numV_div (l : List UInt8) : ∀ d i : Nat, i + d = l.length → numV l / 256 ^ d = numV (l.take i)
  | 0, i, h => by rw [List.take_of_length_le (by omega)]; simp
  | d + 1, i, h => by
    have h1 := numV_div l d (i + 1) (by omega)
    have h2 := numV_take l i (by omega)
    have hb := (l[i]'(by omega)).toNat_lt
    rw [Nat.pow_succ, ← Nat.div_div_eq_div_mul, h1, h2]
    omega
theorem numL_back (l : List UInt8) (k : Nat) (hk : l.length = k) : numL (numV l) k k = l := by
  subst hk
  apply List.ext_getElem
  · simp [numL_length]
  · intro j h1 h2
    have hd := numV_div l (l.length - 1 - j) (j + 1) (by omega)
    have ht := numV_take l j h2
    have e : (numL (numV l) l.length l.length)[j] = UInt8.ofNat (numV l / 256 ^ (l.length - 1 - j)) := by simp [numL]
    rw [e, hd, ht]
    apply UInt8.toNat_inj.1
    rw [UInt8.toNat_ofNat']
    have hb := (l[j]'h2).toNat_lt
    omega
theorem pow_cast {m k : Nat} (h : m < 256 ^ k) : (m : Int) < (256 : Int) ^ k := by
  have h2 := Int.ofNat_lt.2 h
  rw [Int.natCast_pow] at h2
  exact h2
/-- The number that a cut of a text says, written again. -/
theorem numText_back (s : ByteArray) (a k : Nat) (hk : 1 ≤ k ∧ k ≤ 7) (h : a + k ≤ s.size) : (numTextB (numAtV s a k) k).data.toList = cutL s a k := by
  have hl := cutL_length s a k h
  have hv : numAtV s a k = (numV (cutL s a k) : Int) := by
    unfold numAtV
    rw [if_pos ⟨by omega, by omega⟩]
    simp
  have hlt := numV_lt (cutL s a k)
  rw [hl] at hlt
  have hI := pow_cast hlt
  unfold numTextB
  rw [hv, if_pos ⟨by omega, by omega, by rw [Int.toNat_natCast]; exact hI⟩]
  simp only [Int.toNat_natCast, numB]
  exact numL_back _ _ hl
theorem numAtV_nat (s : ByteArray) (a k : Nat) (hk : 1 ≤ k ∧ k ≤ 7) (h : a + k ≤ s.size) : numAtV s a k = (numV (cutL s a k) : Int) := by
  unfold numAtV
  rw [if_pos ⟨by omega, by omega⟩]
  simp
theorem numAtV_lt (s : ByteArray) (a k : Nat) (hk : 1 ≤ k ∧ k ≤ 7) (h : a + k ≤ s.size) : 0 ≤ numAtV s a k ∧ numAtV s a k < 256 ^ k := by
  have hl := cutL_length s a k h
  have hlt := numV_lt (cutL s a k)
  rw [hl] at hlt
  rw [numAtV_nat s a k hk h]
  exact ⟨by omega, pow_cast hlt⟩
end Go.Proofs.YtmkchilhnmkhkabGreat
namespace Go.Proofs.YtmkchilhnmkhkabGreat
open Go.RowKit Go.Proofs.YtmkchilhnmkhkabGreat.Parts Go.Proofs.YtmkchilhnmkhkabGreat.Hexa

structure RecR where
  f0 : Int
  f1 : Int
  f2 : ByteArray
instance : Inhabited RecR := ⟨⟨0, 0, ByteArray.empty⟩⟩
def encRec : Enc RecR := ⟨3, fun s => [.int .i64 s.f0, .int .i64 s.f1, .string s.f2], fun _ => rfl⟩
theorem encRec_cells (s : RecR) : encRec.cells s = [.int .i64 s.f0, .int .i64 s.f1, .string s.f2] := rfl
theorem encRec_one (s : RecR) : ∀ v ∈ encRec.cells s, v.oneCell' = true := by
  intro v hv
  rw [encRec_cells] at hv
  simp only [List.mem_cons, List.not_mem_nil, or_false] at hv
  rcases hv with rfl | rfl | rfl <;> rfl
theorem cellsRec_one : ∀ L : List RecR, ∀ v ∈ cellsE encRec L, v.oneCell' = true
  | [], v, hv => by cases hv
  | x :: r, v, hv => by
    rw [cellsE, List.mem_append] at hv
    rcases hv with h | h
    · exact encRec_one x v h
    · exact cellsRec_one r v h
theorem cellsRec_length (L : List RecR) : (cellsE encRec L).length = L.length * 3 := cellsE_length encRec L
abbrev SrcRec (w : World) (a : Option Addr) (n : Nat) (L : List RecR) : Prop := SrcE encRec w a n L
theorem srcRec_at {w : World} {a : Option Addr} {n : Nat} {L : List RecR} (h : SrcRec w a n L) (j : Nat) (hj : j < n) : ∃ g off, a = some ⟨g, off, none⟩ ∧ g < w.heap.size ∧ w.cell? ⟨g, off + j * 3, none⟩ = some (.int .i64 (L.getD j default).f0) ∧ w.cell? ⟨g, off + j * 3 + 1, none⟩ = some (.int .i64 (L.getD j default).f1) ∧ w.cell? ⟨g, off + j * 3 + 2, none⟩ = some (.string (L.getD j default).f2) := by
  obtain ⟨g, off, e, hg, c⟩ := h.cell j hj
  exact ⟨g, off, e, hg, c 0 _ rfl, c 1 _ rfl, c 2 _ rfl⟩
/-- The same at a later world. -/
theorem srcRec_later {w w' : World} {a : Option Addr} {n : Nat} {L : List RecR} {B : Nat} (h : SrcRec w a n L) (hb : Below B w w') (hB : w.heap.size ≤ B) (j : Nat) (hj : j < n) : ∃ g off, a = some ⟨g, off, none⟩ ∧ g < w.heap.size ∧ w'.cell? ⟨g, off + j * 3, none⟩ = some (.int .i64 (L.getD j default).f0) ∧ w'.cell? ⟨g, off + j * 3 + 1, none⟩ = some (.int .i64 (L.getD j default).f1) ∧ w'.cell? ⟨g, off + j * 3 + 2, none⟩ = some (.string (L.getD j default).f2) := by
  obtain ⟨g, off, e, hg, _⟩ := h.cell j hj
  obtain ⟨g', off', e', _, c0, c1, c2⟩ := srcRec_at (h.below hb hB) j hj
  rw [e] at e'
  cases e'
  exact ⟨g, off, e, hg, c0, c1, c2⟩
theorem srcRec_of_own {w : World} {B e n cap : Nat} {a : Option Addr} {L : List RecR} (h : w.ownsRow B e 3 (.slice a n cap) n (cellsE encRec L)) : SrcRec w a n L := srcE_of_own (E := encRec) h (by decide)
theorem infoRec : (Tryz.prog.info? 94).map (fun i => (i.zero, i.size, i.bytes)) = some (some (.agg #[.int .i64 0, .int .i64 0, .string ByteArray.empty]), 3, 32) := by kernel_rfl
/-- What a slice of them holds: no text longer than b. -/
def FitRec (L : List RecR) (n b : Nat) : Prop := ∀ j, j < n → (L.getD j default).f2.size ≤ b
def FitTRec (L : List RecR) (b : Nat) : Prop := FitRec L L.length b
end Go.Proofs.YtmkchilhnmkhkabGreat
namespace Go.Proofs.YtmkchilhnmkhkabGreat
open Go.RowKit Go.Proofs.YtmkchilhnmkhkabGreat.Parts Go.Proofs.YtmkchilhnmkhkabGreat.Hexa

structure EntryR where
  f0 : Int
  f1 : ByteArray
instance : Inhabited EntryR := ⟨⟨0, ByteArray.empty⟩⟩
def encEntry : Enc EntryR := ⟨2, fun s => [.int .i64 s.f0, .string s.f1], fun _ => rfl⟩
theorem encEntry_cells (s : EntryR) : encEntry.cells s = [.int .i64 s.f0, .string s.f1] := rfl
theorem encEntry_one (s : EntryR) : ∀ v ∈ encEntry.cells s, v.oneCell' = true := by
  intro v hv
  rw [encEntry_cells] at hv
  simp only [List.mem_cons, List.not_mem_nil, or_false] at hv
  rcases hv with rfl | rfl <;> rfl
theorem cellsEntry_one : ∀ L : List EntryR, ∀ v ∈ cellsE encEntry L, v.oneCell' = true
  | [], v, hv => by cases hv
  | x :: r, v, hv => by
    rw [cellsE, List.mem_append] at hv
    rcases hv with h | h
    · exact encEntry_one x v h
    · exact cellsEntry_one r v h
theorem cellsEntry_length (L : List EntryR) : (cellsE encEntry L).length = L.length * 2 := cellsE_length encEntry L
abbrev SrcEntry (w : World) (a : Option Addr) (n : Nat) (L : List EntryR) : Prop := SrcE encEntry w a n L
theorem srcEntry_at {w : World} {a : Option Addr} {n : Nat} {L : List EntryR} (h : SrcEntry w a n L) (j : Nat) (hj : j < n) : ∃ g off, a = some ⟨g, off, none⟩ ∧ g < w.heap.size ∧ w.cell? ⟨g, off + j * 2, none⟩ = some (.int .i64 (L.getD j default).f0) ∧ w.cell? ⟨g, off + j * 2 + 1, none⟩ = some (.string (L.getD j default).f1) := by
  obtain ⟨g, off, e, hg, c⟩ := h.cell j hj
  exact ⟨g, off, e, hg, c 0 _ rfl, c 1 _ rfl⟩
/-- The same at a later world. -/
theorem srcEntry_later {w w' : World} {a : Option Addr} {n : Nat} {L : List EntryR} {B : Nat} (h : SrcEntry w a n L) (hb : Below B w w') (hB : w.heap.size ≤ B) (j : Nat) (hj : j < n) : ∃ g off, a = some ⟨g, off, none⟩ ∧ g < w.heap.size ∧ w'.cell? ⟨g, off + j * 2, none⟩ = some (.int .i64 (L.getD j default).f0) ∧ w'.cell? ⟨g, off + j * 2 + 1, none⟩ = some (.string (L.getD j default).f1) := by
  obtain ⟨g, off, e, hg, _⟩ := h.cell j hj
  obtain ⟨g', off', e', _, c0, c1⟩ := srcEntry_at (h.below hb hB) j hj
  rw [e] at e'
  cases e'
  exact ⟨g, off, e, hg, c0, c1⟩
theorem srcEntry_of_own {w : World} {B e n cap : Nat} {a : Option Addr} {L : List EntryR} (h : w.ownsRow B e 2 (.slice a n cap) n (cellsE encEntry L)) : SrcEntry w a n L := srcE_of_own (E := encEntry) h (by decide)
theorem infoEntry : (Tryz.prog.info? 77).map (fun i => (i.zero, i.size, i.bytes)) = some (some (.agg #[.int .i64 0, .string ByteArray.empty]), 2, 24) := by kernel_rfl
/-- What a slice of them holds: no text longer than b. -/
def FitEntry (L : List EntryR) (n b : Nat) : Prop := ∀ j, j < n → (L.getD j default).f1.size ≤ b
def FitTEntry (L : List EntryR) (b : Nat) : Prop := FitEntry L L.length b
end Go.Proofs.YtmkchilhnmkhkabGreat
namespace Go.Proofs.YtmkchilhnmkhkabGreat
open Go.RowKit Go.Proofs.YtmkchilhnmkhkabGreat.Parts Go.Proofs.YtmkchilhnmkhkabGreat.Hexa Go.Proofs.YtmkchilhnmkhkabGreat.Byt

def NameC (b : UInt8) : Prop := (97 ≤ b.toNat ∧ b.toNat ≤ 122) ∨ (48 ≤ b.toNat ∧ b.toNat ≤ 57)
instance (b : UInt8) : Decidable (NameC b) := by unfold NameC; infer_instance
def NameR (s : ByteArray) : Prop := (1 ≤ s.size ∧ s.size ≤ 7) ∧ ∀ b ∈ s.data.toList, NameC b
instance (s : ByteArray) : Decidable (NameR s) := by unfold NameR; infer_instance
def nameB (s : ByteArray) : Bool := decide (NameR s)
theorem nameB_yes {s : ByteArray} (h : NameR s) : nameB s = true := decide_eq_true h
theorem nameB_no {s : ByteArray} (h : ¬ NameR s) : nameB s = false := decide_eq_false h

def RecOk (r : RecR) : Prop := (1 ≤ r.f0 ∧ r.f0 ≤ 12) ∧ (1 ≤ r.f1 ∧ r.f1 ≤ 16777215) ∧ r.f2.size = 4
instance (r : RecR) : Decidable (RecOk r) := by unfold RecOk; infer_instance
def recWordB (r : RecR) : ByteArray := if RecOk r then numTextB r.f0 1 ++ numTextB r.f1 3 ++ r.f2 else ⟨#[]⟩
theorem recWordB_yes {r : RecR} (h : RecOk r) : recWordB r = numTextB r.f0 1 ++ numTextB r.f1 3 ++ r.f2 := if_pos h
theorem recWordB_no {r : RecR} (h : ¬ RecOk r) : recWordB r = ⟨#[]⟩ := if_neg h
def recOf (s : ByteArray) : RecR := ⟨numAtV s 0 1, numAtV s 1 3, s.extract 4 8⟩
def recReadB (s : ByteArray) : Bool := decide (s.size = 8 ∧ RecOk (recOf s))
def recReadR (s : ByteArray) : RecR := if s.size = 8 ∧ RecOk (recOf s) then recOf s else ⟨0, 0, ⟨#[]⟩⟩

def EntryOk (e : EntryR) : Prop := (1 ≤ e.f0 ∧ e.f0 ≤ 5) ∧ NameR e.f1
instance (e : EntryR) : Decidable (EntryOk e) := by unfold EntryOk; infer_instance
def entryWordB (e : EntryR) : ByteArray := if EntryOk e then wordB (numTextB e.f0 1 ++ e.f1) else ⟨#[]⟩
theorem entryWordB_yes {e : EntryR} (h : EntryOk e) : entryWordB e = wordB (numTextB e.f0 1 ++ e.f1) := if_pos h
theorem entryWordB_no {e : EntryR} (h : ¬ EntryOk e) : entryWordB e = ⟨#[]⟩ := if_neg h
def pagesZ (n : Int) : Int := if n ≤ 0 then 0 else (n - 1) / 32 + 1

theorem numText_size {n : Int} {k : Nat} (hk : 1 ≤ k ∧ k ≤ 7) (h0 : 0 ≤ n) (h1 : n < 256 ^ k) : (numTextB n k).size = k := by
  have e : numTextB n k = numB n.toNat k := by
    unfold numTextB
    rw [if_pos ⟨h0, by omega, by simpa using h1⟩]
    simp
  rw [e]
  show (numL n.toNat k k).toArray.size = k
  simp [numL_length]
theorem recWord_size {r : RecR} (h : RecOk r) : (recWordB r).size = 8 := by
  obtain ⟨⟨h0, h1⟩, ⟨h2, h3⟩, h4⟩ := h
  rw [recWordB_yes ⟨⟨h0, h1⟩, ⟨h2, h3⟩, h4⟩]
  have e1 : (numTextB r.f0 1).size = 1 := numText_size (k := 1) (by omega) (by omega) (by omega)
  have e2 : (numTextB r.f1 3).size = 3 := numText_size (k := 3) (by omega) (by omega) (by omega)
  rw [ByteArray.size_append, ByteArray.size_append, h4, e1, e2]
theorem recWord_empty {r : RecR} : recWordB r = ⟨#[]⟩ ↔ ¬ RecOk r := by
  refine ⟨fun h hr => ?_, recWordB_no⟩
  have := recWord_size hr
  rw [h] at this
  exact absurd this (by decide)
theorem cut_extract (s : ByteArray) (a k : Nat) : (s.extract a (a + k)).data.toList = cutL s a k := by
  unfold cutL
  simp [List.take_drop]
theorem rec_back {s : ByteArray} (h8 : s.size = 8) (h : RecOk (recOf s)) : recWordB (recOf s) = s := by
  rw [recWordB_yes h]
  have e1 := numText_back s 0 1 (by omega) (by omega)
  have e2 := numText_back s 1 3 (by omega) (by omega)
  have e3 : (s.extract 4 8).data.toList = cutL s 4 4 := cut_extract s 4 4
  have hl : s.data.toList.length = 8 := by simpa using h8
  cases s with
  | mk d =>
    apply ByteArray.ext
    apply Array.toList_inj.1
    simp only [ByteArray.data_append, Array.toList_append, recOf]
    rw [show ((0 : Int)) = ((0 : Nat) : Int) from rfl, show ((1 : Int)) = ((1 : Nat) : Int) from rfl, show ((3 : Int)) = ((3 : Nat) : Int) from rfl, e1, e2, e3]
    unfold cutL
    simp only at hl ⊢
    match d.toList, hl with
    | [b0, b1, b2, b3, b4, b5, b6, b7], _ => rfl
end Go.Proofs.YtmkchilhnmkhkabGreat
namespace Go.Proofs.YtmkchilhnmkhkabGreat
open Go.RowKit Go.Proofs.YtmkchilhnmkhkabGreat.Parts Go.Proofs.YtmkchilhnmkhkabGreat.Hexa Go.Proofs.YtmkchilhnmkhkabGreat.Byt

structure InoR where
  kd : Int
  sz : Int
  gn : Int
  key : ByteArray
  R : List RecR
  E : List EntryR
def textLt (a b : ByteArray) : Bool := Op.bytesLess a.toList b.toList
def RecsOk (R : List RecR) (m : Nat) : Prop := ∀ j, j < m → RecOk (R.getD j default) ∧ ∀ k, k < j → (R.getD k default).f0 ≠ (R.getD j default).f0
def EntsOk (E : List EntryR) (m : Nat) : Prop := ∀ j, j < m → EntryOk (E.getD j default) ∧ (0 < j → textLt (E.getD (j - 1) default).f1 (E.getD j default).f1 = true)
def FreeOk (n : InoR) : Prop := n.sz = 0 ∧ n.key.size = 0 ∧ n.R.length = 0 ∧ n.E.length = 0
def FileOk (n : InoR) : Prop := (0 ≤ n.sz ∧ n.sz ≤ 128) ∧ n.key.size = 8 ∧ (n.R.length : Int) = pagesZ n.sz ∧ n.E.length = 0 ∧ RecsOk n.R n.R.length
def DirOk (n : InoR) : Prop := n.sz = 0 ∧ n.key.size = 0 ∧ n.R.length = 0 ∧ n.E.length ≤ 6 ∧ EntsOk n.E n.E.length
def InoOk (n : InoR) : Prop := (0 ≤ n.gn ∧ n.gn ≤ 65535) ∧ ((n.kd = 0 ∧ FreeOk n) ∨ (n.kd = 1 ∧ FileOk n) ∨ (n.kd = 2 ∧ DirOk n))
noncomputable def inoB (n : InoR) : Bool := @decide (InoOk n) (Classical.propDecidable _)
theorem inoB_yes {n : InoR} (h : InoOk n) : inoB n = true := by unfold inoB; exact @decide_eq_true _ (Classical.propDecidable _) h
theorem inoB_no {n : InoR} (h : ¬ InoOk n) : inoB n = false := by unfold inoB; exact @decide_eq_false _ (Classical.propDecidable _) h
theorem recsOk_step {R : List RecR} {m : Nat} (h : RecsOk R m) (h1 : RecOk (R.getD m default)) (h2 : ∀ k, k < m → (R.getD k default).f0 ≠ (R.getD m default).f0) : RecsOk R (m + 1) := fun j hj => by
  by_cases e : j = m
  · subst e; exact ⟨h1, h2⟩
  · exact h j (by omega)
theorem entsOk_step {E : List EntryR} {m : Nat} (h : EntsOk E m) (h1 : EntryOk (E.getD m default)) (h2 : 0 < m → textLt (E.getD (m - 1) default).f1 (E.getD m default).f1 = true) : EntsOk E (m + 1) := fun j hj => by
  by_cases e : j = m
  · subst e; exact ⟨h1, h2⟩
  · exact h j (by omega)

/-- The words of an inode. -/
def headB (n : InoR) : ByteArray := wordB (numTextB n.kd 1 ++ numTextB n.sz 2 ++ numTextB n.gn 2)
def zero8 : ByteArray := zeroB 8
def wordsI (n : InoR) : List ByteArray := [headB n, wordB n.key] ++ n.R.map recWordB ++ n.E.map entryWordB
noncomputable def inoWordsB (n : InoR) : List ByteArray := if inoB n = true then wordsI n ++ List.replicate (8 - (wordsI n).length) zero8 else []
theorem wordsI_le {n : InoR} (h : InoOk n) : (wordsI n).length ≤ 8 := by
  unfold wordsI
  simp only [List.length_append, List.length_map, List.length_cons, List.length_nil]
  obtain ⟨_, ⟨_, h0⟩ | ⟨_, h0⟩ | ⟨_, h0⟩⟩ := h
  · obtain ⟨_, _, h1, h2⟩ := h0; omega
  · obtain ⟨h1, _, h2, h3, _⟩ := h0
    have : pagesZ n.sz ≤ 4 := by unfold pagesZ; split <;> omega
    omega
  · obtain ⟨_, _, h1, h2, _⟩ := h0; omega
theorem entryWord_size {r : EntryR} (h : EntryOk r) : (entryWordB r).size = 8 := by
  obtain ⟨⟨h0, h1⟩, h2⟩ := h
  rw [entryWordB_yes ⟨⟨h0, h1⟩, h2⟩]
  have e1 : (numTextB r.f0 1).size = 1 := numText_size (k := 1) (by omega) (by omega) (by omega)
  have e2 : (numTextB r.f0 1 ++ r.f1).size ≤ 8 := by rw [ByteArray.size_append, e1]; have := h2.1.2; omega
  unfold wordB
  rw [if_pos e2, ByteArray.size_append, longB_size]
  omega
end Go.Proofs.YtmkchilhnmkhkabGreat
namespace Go.Proofs.YtmkchilhnmkhkabGreat
open Go.RowKit Go.Proofs.YtmkchilhnmkhkabGreat.Parts Go.Proofs.YtmkchilhnmkhkabGreat.Hexa

def cRec : EncC RecR := ⟨94, 3, fun x => [.val (.int .i64 x.f0), .val (.int .i64 x.f1), .val (.string x.f2)], fun _ => rfl⟩
theorem infoRecD : (Tryz.prog.info? 94).map (fun i => (i.zero, i.size, i.bytes)) = some (some (.agg #[.int .i64 0, .int .i64 0, .string ⟨#[]⟩]), 3, 32) := by kernel_rfl
theorem cRec_form {w : World} {x : RecR} {vs : List Value} (h : RdL w (cRec.cels x) vs) : vs = [.int .i64 x.f0, .int .i64 x.f1, .string x.f2] := by
  obtain ⟨v0, r0, e0, h0, v1, r1, e1, h1, v2, r2, e2, h2, hend⟩ := h
  have f0 : v0 = .int .i64 x.f0 := h0
  have f1 : v1 = .int .i64 x.f1 := h1
  have f2 : v2 = .string x.f2 := h2
  have hend' : r2 = [] := hend
  rw [hend'] at e2
  rw [e2] at e1
  rw [e1] at e0
  rw [f0, f1, f2] at e0
  exact e0
theorem cRec_rd {w : World} {x : RecR}  : RdL w (cRec.cels x) [.int .i64 x.f0, .int .i64 x.f1, .string x.f2] :=
  ⟨_, _, rfl, rfl, ⟨_, _, rfl, rfl, ⟨_, _, rfl, rfl, rfl⟩⟩⟩
theorem cRec_at {w : World} {L : List RecR} {a : Option Addr} {n c : Nat} (h : (celRow cRec L).Rd w (.slice a n c)) (j : Nat) (hj : j < n) :
    ∃ (g off : Nat), a = some ⟨g, off, none⟩ ∧ g < w.heap.size ∧ w.cell? ⟨g, off + j * 3, none⟩ = some (.int .i64 (L.getD j default).f0) ∧ w.cell? ⟨g, off + j * 3 + 1, none⟩ = some (.int .i64 (L.getD j default).f1) ∧ w.cell? ⟨g, off + j * 3 + 2, none⟩ = some (.string (L.getD j default).f2) := by
  obtain ⟨g, off, vs, ha, hg, hr, hc⟩ := row_at h (by decide) j hj
  have hv := cRec_form hr
  subst hv
  exact ⟨g, off, ha, hg, hc 0 _ rfl, hc 1 _ rfl, hc 2 _ rfl⟩
theorem cRec_sz (x : RecR) : szL (cRec.cels x) = (0 + (0 + (x.f2.size + 0))) := rfl
theorem cRec_cnt (x : RecR) : cntL (cRec.cels x) = (1 + (1 + (1 + 0))) := rfl

end Go.Proofs.YtmkchilhnmkhkabGreat
namespace Go.Proofs.YtmkchilhnmkhkabGreat
open Go.RowKit Go.Proofs.YtmkchilhnmkhkabGreat.Parts Go.Proofs.YtmkchilhnmkhkabGreat.Hexa

def cEntry : EncC EntryR := ⟨77, 2, fun x => [.val (.int .i64 x.f0), .val (.string x.f1)], fun _ => rfl⟩
theorem infoEntryD : (Tryz.prog.info? 77).map (fun i => (i.zero, i.size, i.bytes)) = some (some (.agg #[.int .i64 0, .string ⟨#[]⟩]), 2, 24) := by kernel_rfl
theorem cEntry_form {w : World} {x : EntryR} {vs : List Value} (h : RdL w (cEntry.cels x) vs) : vs = [.int .i64 x.f0, .string x.f1] := by
  obtain ⟨v0, r0, e0, h0, v1, r1, e1, h1, hend⟩ := h
  have f0 : v0 = .int .i64 x.f0 := h0
  have f1 : v1 = .string x.f1 := h1
  have hend' : r1 = [] := hend
  rw [hend'] at e1
  rw [e1] at e0
  rw [f0, f1] at e0
  exact e0
theorem cEntry_rd {w : World} {x : EntryR}  : RdL w (cEntry.cels x) [.int .i64 x.f0, .string x.f1] :=
  ⟨_, _, rfl, rfl, ⟨_, _, rfl, rfl, rfl⟩⟩
theorem cEntry_at {w : World} {L : List EntryR} {a : Option Addr} {n c : Nat} (h : (celRow cEntry L).Rd w (.slice a n c)) (j : Nat) (hj : j < n) :
    ∃ (g off : Nat), a = some ⟨g, off, none⟩ ∧ g < w.heap.size ∧ w.cell? ⟨g, off + j * 2, none⟩ = some (.int .i64 (L.getD j default).f0) ∧ w.cell? ⟨g, off + j * 2 + 1, none⟩ = some (.string (L.getD j default).f1) := by
  obtain ⟨g, off, vs, ha, hg, hr, hc⟩ := row_at h (by decide) j hj
  have hv := cEntry_form hr
  subst hv
  exact ⟨g, off, ha, hg, hc 0 _ rfl, hc 1 _ rfl⟩
theorem cEntry_sz (x : EntryR) : szL (cEntry.cels x) = (0 + (x.f1.size + 0)) := rfl
theorem cEntry_cnt (x : EntryR) : cntL (cEntry.cels x) = (1 + (1 + 0)) := rfl

end Go.Proofs.YtmkchilhnmkhkabGreat
namespace Go.Proofs.YtmkchilhnmkhkabGreat
open Go.RowKit Go.Proofs.YtmkchilhnmkhkabGreat.Parts Go.Proofs.YtmkchilhnmkhkabGreat.Hexa

instance : Inhabited InoR := ⟨⟨0, 0, 0, ByteArray.empty, [], []⟩⟩
def cIno : EncC InoR := ⟨57, 6, fun x => [.val (.int .i64 x.kd), .val (.int .i64 x.sz), .val (.int .i64 x.gn), .val (.string x.key), celRow cRec x.R, celRow cEntry x.E], fun _ => rfl⟩
theorem infoInoD : (Tryz.prog.info? 57).map (fun i => (i.zero, i.size, i.bytes)) = some (some (.agg #[.int .i64 0, .int .i64 0, .int .i64 0, .string ⟨#[]⟩, .slice none 0 0, .slice none 0 0]), 6, 88) := by kernel_rfl
theorem cIno_form {w : World} {x : InoR} {vs : List Value} (h : RdL w (cIno.cels x) vs) : ∃ (a4 : Option Addr) (c4 : Nat) (a5 : Option Addr) (c5 : Nat), vs = [.int .i64 x.kd, .int .i64 x.sz, .int .i64 x.gn, .string x.key, .slice a4 x.R.length c4, .slice a5 x.E.length c5] ∧ (celRow cRec x.R).Rd w (.slice a4 x.R.length c4) ∧ (celRow cEntry x.E).Rd w (.slice a5 x.E.length c5) := by
  obtain ⟨v0, r0, e0, h0, v1, r1, e1, h1, v2, r2, e2, h2, v3, r3, e3, h3, v4, r4, e4, h4, v5, r5, e5, h5, hend⟩ := h
  have f0 : v0 = .int .i64 x.kd := h0
  have f1 : v1 = .int .i64 x.sz := h1
  have f2 : v2 = .int .i64 x.gn := h2
  have f3 : v3 = .string x.key := h3
  obtain ⟨a4, n4, c4, f4, g4⟩ := row_form (E := cRec) (L := x.R) h4
  obtain ⟨a5, n5, c5, f5, g5⟩ := row_form (E := cEntry) (L := x.E) h5
  have hend' : r5 = [] := hend
  subst g4 g5
  rw [hend'] at e5
  rw [e5] at e4
  rw [e4] at e3
  rw [e3] at e2
  rw [e2] at e1
  rw [e1] at e0
  rw [f0, f1, f2, f3, f4, f5] at e0
  rw [f4] at h4
  rw [f5] at h5
  exact ⟨a4, c4, a5, c5, e0, h4, h5⟩
theorem cIno_rd {w : World} {x : InoR} {a4 : Option Addr} {c4 : Nat} {a5 : Option Addr} {c5 : Nat} (h4 : (celRow cRec x.R).Rd w (.slice a4 x.R.length c4)) (h5 : (celRow cEntry x.E).Rd w (.slice a5 x.E.length c5)) : RdL w (cIno.cels x) [.int .i64 x.kd, .int .i64 x.sz, .int .i64 x.gn, .string x.key, .slice a4 x.R.length c4, .slice a5 x.E.length c5] :=
  ⟨_, _, rfl, rfl, ⟨_, _, rfl, rfl, ⟨_, _, rfl, rfl, ⟨_, _, rfl, rfl, ⟨_, _, rfl, h4, ⟨_, _, rfl, h5, rfl⟩⟩⟩⟩⟩⟩
theorem cIno_un {w : World} {x : InoR} {a4 : Option Addr} {c4 : Nat} {a5 : Option Addr} {c5 : Nat} (h : RdL w (cIno.cels x) [.int .i64 x.kd, .int .i64 x.sz, .int .i64 x.gn, .string x.key, .slice a4 x.R.length c4, .slice a5 x.E.length c5]) : (celRow cRec x.R).Rd w (.slice a4 x.R.length c4) ∧ (celRow cEntry x.E).Rd w (.slice a5 x.E.length c5) := by
  replace h := (rd_cons h).2
  replace h := (rd_cons h).2
  replace h := (rd_cons h).2
  replace h := (rd_cons h).2
  obtain ⟨h4, h⟩ := rd_cons h
  obtain ⟨h5, h⟩ := rd_cons h
  exact ⟨h4, h5⟩
theorem cIno_at {w : World} {L : List InoR} {a : Option Addr} {n c : Nat} (h : (celRow cIno L).Rd w (.slice a n c)) (j : Nat) (hj : j < n) :
    ∃ (g off : Nat) (a4 : Option Addr) (c4 : Nat) (a5 : Option Addr) (c5 : Nat), a = some ⟨g, off, none⟩ ∧ g < w.heap.size ∧ w.cell? ⟨g, off + j * 6, none⟩ = some (.int .i64 (L.getD j default).kd) ∧ w.cell? ⟨g, off + j * 6 + 1, none⟩ = some (.int .i64 (L.getD j default).sz) ∧ w.cell? ⟨g, off + j * 6 + 2, none⟩ = some (.int .i64 (L.getD j default).gn) ∧ w.cell? ⟨g, off + j * 6 + 3, none⟩ = some (.string (L.getD j default).key) ∧ w.cell? ⟨g, off + j * 6 + 4, none⟩ = some (.slice a4 (L.getD j default).R.length c4) ∧ w.cell? ⟨g, off + j * 6 + 5, none⟩ = some (.slice a5 (L.getD j default).E.length c5) ∧ (celRow cRec (L.getD j default).R).Rd w (.slice a4 (L.getD j default).R.length c4) ∧ (celRow cEntry (L.getD j default).E).Rd w (.slice a5 (L.getD j default).E.length c5) := by
  obtain ⟨g, off, vs, ha, hg, hr, hc⟩ := row_at h (by decide) j hj
  obtain ⟨a4, c4, a5, c5, hv, h4, h5⟩ := cIno_form hr
  subst hv
  exact ⟨g, off, a4, c4, a5, c5, ha, hg, hc 0 _ rfl, hc 1 _ rfl, hc 2 _ rfl, hc 3 _ rfl, hc 4 _ rfl, hc 5 _ rfl, h4, h5⟩
theorem cIno_sz (x : InoR) : szL (cIno.cels x) = (0 + (0 + (0 + (x.key.size + ((celRow cRec x.R).sz + ((celRow cEntry x.E).sz + 0)))))) := rfl
theorem cIno_cnt (x : InoR) : cntL (cIno.cels x) = (1 + (1 + (1 + (1 + ((celRow cRec x.R).cnt + ((celRow cEntry x.E).cnt + 0)))))) := rfl

end Go.Proofs.YtmkchilhnmkhkabGreat
namespace Go.Proofs.YtmkchilhnmkhkabGreat

def dirE (n : InoR) : List EntryR := if n.kd = 2 then n.E else []
def entsOf (L : List InoR) : List EntryR := L.flatMap dirE
def cntI (M : List EntryR) (i : Int) : Nat := M.countP (fun e => e.f0 == i)
def hasI (M : List EntryR) (i : Int) : Bool := M.any (fun e => e.f0 == i)
def filR (n : InoR) : List RecR := if n.kd = 1 then n.R else []
def recsOf (L : List InoR) : List RecR := L.flatMap filR
def cntP (M : List RecR) (pg : Int) : Nat := M.countP (fun r => r.f0 == pg + 1)

theorem take_next {α : Type} [Inhabited α] {M : List α} {j : Nat} (hj : j < M.length) : M.take (j + 1) = M.take j ++ [M.getD j default] := by
  rw [List.take_succ_eq_append_getElem hj]
  simp [List.getD, hj]
theorem entsOf_next {L : List InoR} {k : Nat} (hk : k < L.length) : entsOf (L.take (k + 1)) = entsOf (L.take k) ++ dirE (L.getD k default) := by
  unfold entsOf
  rw [take_next hk, List.flatMap_append, List.flatMap_singleton]
theorem recsOf_next {L : List InoR} {k : Nat} (hk : k < L.length) : recsOf (L.take (k + 1)) = recsOf (L.take k) ++ filR (L.getD k default) := by
  unfold recsOf
  rw [take_next hk, List.flatMap_append, List.flatMap_singleton]
theorem cntI_append (A B : List EntryR) (i : Int) : cntI (A ++ B) i = cntI A i + cntI B i := List.countP_append
theorem cntP_append (A B : List RecR) (i : Int) : cntP (A ++ B) i = cntP A i + cntP B i := List.countP_append
theorem cntI_nil (i : Int) : cntI [] i = 0 := rfl
theorem cntP_nil (i : Int) : cntP [] i = 0 := rfl
theorem cntI_yes {M : List EntryR} {j : Nat} {i : Int} (hj : j < M.length) (h : (M.getD j default).f0 = i) : cntI (M.take (j + 1)) i = cntI (M.take j) i + 1 := by
  rw [take_next hj, cntI_append]
  generalize M.getD j default = e at h ⊢
  simp [cntI, h]
theorem cntI_no {M : List EntryR} {j : Nat} {i : Int} (hj : j < M.length) (h : ¬ (M.getD j default).f0 = i) : cntI (M.take (j + 1)) i = cntI (M.take j) i := by
  rw [take_next hj, cntI_append]
  generalize M.getD j default = e at h ⊢
  simp [cntI, h]
theorem cntP_yes {M : List RecR} {j : Nat} {i : Int} (hj : j < M.length) (h : (M.getD j default).f0 = i + 1) : cntP (M.take (j + 1)) i = cntP (M.take j) i + 1 := by
  rw [take_next hj, cntP_append]
  generalize M.getD j default = e at h ⊢
  simp [cntP, h]
theorem cntP_no {M : List RecR} {j : Nat} {i : Int} (hj : j < M.length) (h : ¬ (M.getD j default).f0 = i + 1) : cntP (M.take (j + 1)) i = cntP (M.take j) i := by
  rw [take_next hj, cntP_append]
  generalize M.getD j default = e at h ⊢
  simp [cntP, h]
theorem cntI_le (M : List EntryR) (i : Int) : cntI M i ≤ M.length := List.countP_le_length
theorem cntP_le (M : List RecR) (i : Int) : cntP M i ≤ M.length := List.countP_le_length
theorem hasI_next {M : List EntryR} {j : Nat} {i : Int} (hj : j < M.length) : hasI (M.take (j + 1)) i = (hasI (M.take j) i || ((M.getD j default).f0 == i)) := by
  rw [take_next hj]
  simp [hasI]
theorem hasI_take {M : List EntryR} {j : Nat} {i : Int} (h : hasI (M.take j) i = true) : hasI M i = true := by
  rw [← List.take_append_drop j M]
  unfold hasI at h ⊢
  rw [List.any_append, h]
  rfl
theorem sz_row {α : Type} (E : EncC α) (L : List α) : (celRow E L).sz = L.length + szL (celsE E L) := rfl
theorem len_sz {α : Type} (E : EncC α) (L : List α) : L.length ≤ (celRow E L).sz := by rw [sz_row]; omega
theorem ents_len : ∀ L : List InoR, (entsOf L).length ≤ szL (celsE cIno L)
  | [] => Nat.zero_le _
  | n :: r => by
    have h1 := ents_len r
    have h2 := len_sz cEntry n.E
    have h3 := cIno_sz n
    unfold entsOf at h1 ⊢
    rw [List.flatMap_cons, List.length_append, celsE, szL_append, h3]
    have h4 : (dirE n).length ≤ n.E.length := by unfold dirE; split <;> simp
    omega
theorem recs_len : ∀ L : List InoR, (recsOf L).length ≤ szL (celsE cIno L)
  | [] => Nat.zero_le _
  | n :: r => by
    have h1 := recs_len r
    have h2 := len_sz cRec n.R
    have h3 := cIno_sz n
    unfold recsOf at h1 ⊢
    rw [List.flatMap_cons, List.length_append, celsE, szL_append, h3]
    have h4 : (filR n).length ≤ n.R.length := by unfold filR; split <;> simp
    omega
theorem ents_take (L : List InoR) (k : Nat) : (entsOf (L.take k)).length ≤ szL (celsE cIno L) := Nat.le_trans (ents_len _) (szL_take cIno L k)
theorem recs_take (L : List InoR) (k : Nat) : (recsOf (L.take k)).length ≤ szL (celsE cIno L) := Nat.le_trans (recs_len _) (szL_take cIno L k)

/-- The first directory with an entry of inode i, from number k on. -/
def aboveGo : List InoR → Int → Nat → Int
  | [], _, _ => -1
  | n :: r, i, k => if hasI (dirE n) i = true then (k : Int) else aboveGo r i (k + 1)
def aboveZ (L : List InoR) (i : Int) : Int := aboveGo L i 0
theorem aboveGo_none : ∀ (L : List InoR) (i : Int) (k : Nat), (∀ j, j < L.length → hasI (dirE (L.getD j default)) i = false) → aboveGo L i k = -1
  | [], _, _, _ => rfl
  | n :: r, i, k, h => by
    have h0 := h 0 (by simp)
    simp only [List.getD_cons_zero] at h0
    rw [aboveGo, h0, if_neg (by simp), aboveGo_none r i (k + 1) (fun j hj => by have := h (j + 1) (by simpa using hj); simpa using this)]
theorem aboveGo_some : ∀ (L : List InoR) (i : Int) (k q : Nat), q < L.length → (∀ j, j < q → hasI (dirE (L.getD j default)) i = false) → hasI (dirE (L.getD q default)) i = true → aboveGo L i k = ((k + q : Nat) : Int)
  | n :: r, i, k, 0, _, _, h1 => by
    simp only [List.getD_cons_zero] at h1
    rw [aboveGo, if_pos h1, Nat.add_zero]
  | n :: r, i, k, q + 1, hq, h, h1 => by
    have h0 := h 0 (by omega)
    simp only [List.getD_cons_zero] at h0
    rw [aboveGo, h0, if_neg (by simp), aboveGo_some r i (k + 1) q (by simpa using hq) (fun j hj => by have := h (j + 1) (by omega); simpa using this) (by simpa using h1)]
    congr 1
    omega
theorem above_none {L : List InoR} {i : Int} (h : ∀ j, j < L.length → hasI (dirE (L.getD j default)) i = false) : aboveZ L i = -1 := aboveGo_none L i 0 h
theorem above_some {L : List InoR} {i : Int} {q : Nat} (hq : q < L.length) (h : ∀ j, j < q → hasI (dirE (L.getD j default)) i = false) (h1 : hasI (dirE (L.getD q default)) i = true) : aboveZ L i = (q : Int) := by
  have := aboveGo_some L i 0 q hq h h1
  rw [Nat.zero_add] at this
  exact this
theorem above_cases (L : List InoR) (i : Int) : aboveZ L i = -1 ∨ ∃ q, q < L.length ∧ aboveZ L i = (q : Int) := by
  have key : ∀ (L : List InoR) (k : Nat), aboveGo L i k = -1 ∨ ∃ q, q < L.length ∧ aboveGo L i k = ((k + q : Nat) : Int) := by
    intro L
    induction L with
    | nil => intro k; exact .inl rfl
    | cons n r ih =>
      intro k
      by_cases h : hasI (dirE n) i = true
      · exact .inr ⟨0, by simp, by rw [aboveGo, if_pos h, Nat.add_zero]⟩
      · rcases ih (k + 1) with h1 | ⟨q, h1, h2⟩
        · exact .inl (by rw [aboveGo, if_neg h, h1])
        · exact .inr ⟨q + 1, by simpa using h1, by rw [aboveGo, if_neg h, h2]; congr 1; omega⟩
  rcases key L 0 with h | ⟨q, h1, h2⟩
  · exact .inl h
  · exact .inr ⟨q, h1, by rw [Nat.zero_add] at h2; exact h2⟩
/-- The way up, at most f steps from here, n of them gone. -/
def depthGo (L : List InoR) : Nat → Nat → Int → Int
  | 0, _, _ => -1
  | f + 1, n, i => if i = 0 then (n : Int) else if aboveZ L i < 0 then -1 else depthGo L f (n + 1) (aboveZ L i)
def depthZ (L : List InoR) (i : Int) : Int := depthGo L (L.length + 1) 0 i
theorem dirE_no {n : InoR} (h : ¬ n.kd = 2) : dirE n = [] := if_neg h
theorem dirE_yes {n : InoR} (h : n.kd = 2) : dirE n = n.E := if_pos h
theorem filR_no {n : InoR} (h : ¬ n.kd = 1) : filR n = [] := if_neg h
theorem filR_yes {n : InoR} (h : n.kd = 1) : filR n = n.R := if_pos h
end Go.Proofs.YtmkchilhnmkhkabGreat
namespace Go.Proofs.YtmkchilhnmkhkabGreat
open Go.Proofs.YtmkchilhnmkhkabGreat.Byt

def SerR (n : Int) : Prop := 0 ≤ n ∧ n ≤ 16777215
noncomputable def serB (n : Int) : ByteArray := @ite _ (SerR n) (Classical.propDecidable _) (wordB (numTextB n 3)) ⟨#[]⟩
theorem serB_yes {n : Int} (h : SerR n) : serB n = wordB (numTextB n 3) := by unfold serB; rw [if_pos h]
theorem serB_no {n : Int} (h : ¬ SerR n) : serB n = ⟨#[]⟩ := by unfold serB; rw [if_neg h]
end Go.Proofs.YtmkchilhnmkhkabGreat
namespace Go.Proofs.YtmkchilhnmkhkabGreat
open Go.RowKit Go.Proofs.YtmkchilhnmkhkabGreat.Parts Go.Proofs.YtmkchilhnmkhkabGreat.Hexa

theorem ret_i64' {a b : Int} (h : a = b) : Ending.returned (.int .i64 a) = .returned (.int .i64 b) := by rw [h]

/-- A row of ints as cells. -/
def icells (xs : List Int) : List Value := xs.map fun x => Value.int .i64 x
theorem icells_length (xs : List Int) : (icells xs).length = xs.length := by simp [icells]
theorem cell_int {w : World} {a : Addr} {P : List Int} {k : Nat} (hk : k < P.length) (h : w.cell? a = (icells P)[k]?) : w.cell? a = some (.int .i64 P[k]) := by
  rw [h]; simp [icells, hk]
end Go.Proofs.YtmkchilhnmkhkabGreat
namespace Go.Proofs.YtmkchilhnmkhkabGreat
open Go.RowKit Go.Proofs.YtmkchilhnmkhkabGreat.Parts Go.Proofs.YtmkchilhnmkhkabGreat.Hexa

theorem infoInt : (Tryz.prog.info? 3).map (fun i => (i.zero, i.size, i.bytes)) = some (some (.int .i64 0), 1, 8) := by kernel_rfl

/-- A slice of ints that came in. -/
structure SrcI (w : World) (a : Option Addr) (n : Nat) (zs : List Int) : Prop where
  len : zs.length = n
  cell : ∀ j, j < n → ∃ g off, a = some ⟨g, off, none⟩ ∧ g < w.heap.size ∧ w.cell? ⟨g, off + j, none⟩ = some (.int .i64 (zs.getD j 0))
theorem SrcI.later {w w' : World} {a : Option Addr} {n : Nat} {zs : List Int} (h : SrcI w a n zs) (hb : Below w.heap.size w w') : SrcI w' a n zs :=
  ⟨h.len, fun j hj => by
    obtain ⟨g, off, e, hg, hc⟩ := h.cell j hj
    exact ⟨g, off, e, Nat.lt_of_lt_of_le hg hb.size, by rw [hb.cell hg]; exact hc⟩⟩

/-- A slice at the head of its block reads as these ints. -/
structure IntsAt (w : World) (g n : Nat) (zs : List Int) : Prop where
  len : zs.length = n
  lt : g < w.heap.size
  cell : ∀ j, j < n → w.cell? ⟨g, j, none⟩ = some (.int .i64 (zs.getD j 0))
theorem IntsAt.later {w w' : World} {g n : Nat} {zs : List Int} (h : IntsAt w g n zs) (hb : Below w.heap.size w w') : IntsAt w' g n zs :=
  ⟨h.len, Nat.lt_of_lt_of_le h.lt hb.size, fun j hj => by rw [hb.cell h.lt]; exact h.cell j hj⟩
theorem own_lt {w : World} {B e : Nat} {g n cap : Nat} {xs : List Value} (h : w.ownsRow B e 1 (.slice (some ⟨g, 0, none⟩) n cap) n xs) : g < w.heap.size := by
  rcases h.2 with ⟨h', _⟩ | ⟨g', cap', cur, h', _, hg, _⟩
  · simp at h'
  · simp at h'
    rw [h'.1]
    exact (Array.getElem?_eq_some_iff.1 hg).1
theorem intsAt_of_own {w : World} {B e : Nat} {g n cap : Nat} {zs : List Int} (h : w.ownsRow B e 1 (.slice (some ⟨g, 0, none⟩) n cap) n (icells zs)) : IntsAt w g n zs := by
  have hl : zs.length = n := by have := own_length h; rwa [icells_length] at this
  refine ⟨hl, own_lt h, fun j hj => ?_⟩
  rw [h.cellAt j (by omega)]
  have hj' : j < zs.length := by omega
  simp [icells, List.getD, hj']
theorem IntsAt.reads {w : World} {g n : Nat} {zs : List Int} (h : IntsAt w g n zs) : Reads w (some ⟨g, 0, none⟩) (icells zs) := fun j hj => by
  rw [icells_length] at hj
  refine ⟨g, rfl, ?_⟩
  rw [h.cell j (by have := h.len; omega)]
  simp [icells, List.getD, hj]
theorem own_kept {w w' : World} {B e : Nat} {v : Value} {n : Nat} {xs : List Value} (h : w.ownsRow B e 1 v n xs) (hk : ∀ g, v.ownBlock = some g → w'.heap[g]? = w.heap[g]?) : w'.ownsRow B e 1 v n xs := by
  refine ⟨h.1, h.2.imp id fun ⟨g, cap, cur, hv, hg, hh, r⟩ => ⟨g, cap, cur, hv, hg, ?_, r⟩⟩
  rw [hk g (by rw [hv]; rfl)]; exact hh
theorem own_block_lt {w : World} {B e : Nat} {v : Value} {n : Nat} {xs : List Value} (h : w.ownsRow B e 1 v n xs) : ∀ g, v.ownBlock = some g → g < w.heap.size := by
  intro k hk
  rcases h.2 with ⟨rfl, _⟩ | ⟨g, cap, cur, rfl, _, hg, _⟩
  · simp [Value.ownBlock] at hk
  · simp [Value.ownBlock] at hk
    rw [← hk]
    exact (Array.getElem?_eq_some_iff.1 hg).1
end Go.Proofs.YtmkchilhnmkhkabGreat
namespace Go.Proofs.YtmkchilhnmkhkabGreat
open Go.RowKit Go.Proofs.YtmkchilhnmkhkabGreat.Hexa Go.Proofs.YtmkchilhnmkhkabGreat.Byt Go.Proofs.YtmkchilhnmkhkabGreat.BitsM

set_option maxRecDepth 100000 in
set_option maxHeartbeats 400000 in
theorem range_any (n a b : Int) (w : World) : Calls Tryz.prog 39 #[.int .i64 n, .int .i64 a, .int .i64 b] w fun e w' => e = .returned (.bool (decide (a ≤ n ∧ n ≤ b))) ∧ w' = w := by
  by_cases h1 : a ≤ n <;> by_cases h2 : n ≤ b
  all_goals
    go_enter Tryz.func39, Tryz.ntmps39
    go_wp2
    all_goals go_ret
    all_goals exact ⟨by simp [h1, h2], rfl⟩
theorem range_yes {n a b : Int} (w : World) (h : a ≤ n ∧ n ≤ b) : Calls Tryz.prog 39 #[.int .i64 n, .int .i64 a, .int .i64 b] w fun e w' => e = .returned (.bool true) ∧ w' = w :=
  (range_any n a b w).mono fun _ _ ⟨he, hw⟩ => ⟨by rw [he, decide_eq_true h], hw⟩
theorem range_no {n a b : Int} (w : World) (h : ¬ (a ≤ n ∧ n ≤ b)) : Calls Tryz.prog 39 #[.int .i64 n, .int .i64 a, .int .i64 b] w fun e w' => e = .returned (.bool false) ∧ w' = w :=
  (range_any n a b w).mono fun _ _ ⟨he, hw⟩ => ⟨by rw [he, decide_eq_false h], hw⟩
end Go.Proofs.YtmkchilhnmkhkabGreat
namespace Go.Proofs.YtmkchilhnmkhkabGreat
open Go.RowKit Go.Proofs.YtmkchilhnmkhkabGreat.Parts Go.Proofs.YtmkchilhnmkhkabGreat.Hexa

/-- What an append gives: a slice that owns the cells, in the row that it had or in a new one. -/
def AppG (P : Program) (args : Array TypeId) (ty : TypeId) (vs : Array Value) (w : World) (B e k n : Nat) (xs : List Value) (v : Value) : Prop :=
  ∃ v' w', (Builtin.append_ args ty vs).run P w = .ok v' w' ∧ w'.ownsRow B e k v' n xs ∧ w.grownBy w' v.ownBlock ∧ (v'.ownBlock = v.ownBlock ∨ v'.ownBlock = some w.heap.size)
theorem icells_append (L M : List Int) : icells (L ++ M) = icells L ++ icells M := by simp [icells]
theorem icells_one (L : List Int) : ∀ v ∈ icells L, v.oneCell' = true := by
  intro v hv
  simp only [icells, List.mem_map] at hv
  obtain ⟨x, _, rfl⟩ := hv
  rfl
/-- One int appended, in the block of the walk's own one-cell slice. -/
theorem appI (w : World) (ty : TypeId) (B : Nat) (v : Value) (n : Nat) (P : List Int) (hown : w.ownsRow B 3 1 v n (icells P)) (hB : B ≤ w.heap.size) (x : Int) (hn : n ≤ 100000000) :
    AppG Tryz.prog #[24, 24] ty #[v, .slice (some ⟨w.heap.size, 0, none⟩) 1 1] (w.alloc (.cells #[.int .i64 x] 3)) B 3 1 (n + 1) (icells (P ++ [x])) v := by
  obtain ⟨i0, hi, hz0, hz1, hz2⟩ := info_parts infoInt
  rw [icells_append]
  obtain ⟨v', w', hr, h2, h3, _, h5⟩ := run_append_own_at (P := Tryz.prog) (w := w.alloc (.cells #[.int .i64 x] 3)) B 24 ty 3 i0 _ 1 8 Tryz.underlying24 hi hz0 hz1 hz2 rfl (by decide) v n _ (own_below hown ((Below.refl _ _).alloc (Nat.le_refl _) _)) ⟨w.heap.size, 0, none⟩ 1 1 (icells [x]) rfl (World.news_of_block (heap_alloc_new _ _)) (icells_one [x]) (by unfold maxLen; omega) (by omega) (by simp; omega)
  exact ⟨v', w', hr, h2, h3, h5⟩
theorem wpList_appG {P : Program} {ops : Array Oper} {rest : List Oper} {o : Oper} {a : Act} {w : World} {Q : Exit → Act → World → Prop} (hgd : o.guard = none) (s x : Operand) (t tn : TypeId)
    (ho : o.op = .call { callee := .builtin .append, args := #[s, x], argTypes := #[t, tn] }) (vs vx : Value) (hs : a.eval s = vs) (hx : a.eval x = vx) {B e k n : Nat} {xs : List Value}
    (hr : AppG P #[t, tn] o.type #[vs, vx] w B e k n xs vs) (h : ∀ v' w', w'.ownsRow B e k v' n xs → w.grownBy w' vs.ownBlock → (v'.ownBlock = vs.ownBlock ∨ v'.ownBlock = some w.heap.size) → wpList P ops Q rest (a.put o.dst v') w') : wpList P ops Q (o :: rest) a w := by
  obtain ⟨v', w', r, h1, h2, h3⟩ := hr
  exact Lib.wpList_append_run w hgd s x t tn ho vs vx hs hx v' w' r (h v' w' h1 h2 h3)
end Go.Proofs.YtmkchilhnmkhkabGreat
namespace Go.Proofs.YtmkchilhnmkhkabGreat
open Go.RowKit Go.Proofs.YtmkchilhnmkhkabGreat.Parts Go.Proofs.YtmkchilhnmkhkabGreat.Hexa

def StR (zs : List Int) (n : Nat) : Prop := ∀ j, j < n → 0 ≤ zs.getD j 0 ∧ zs.getD j 0 ≤ 2
def StOk (zs : List Int) (p : Int) : Prop := StR zs zs.length ∧ (zs.length : Int) = p ∧ 1 ≤ p ∧ p ≤ 12
noncomputable def stB (zs : List Int) (p : Int) : Bool := @decide (StOk zs p) (Classical.propDecidable _)
theorem stB_yes {zs : List Int} {p : Int} (h : StOk zs p) : stB zs p = true := by unfold stB; exact @decide_eq_true _ (Classical.propDecidable _) h
theorem stB_no {zs : List Int} {p : Int} (h : ¬ StOk zs p) : stB zs p = false := by unfold stB; exact @decide_eq_false _ (Classical.propDecidable _) h
/-- Some slice of ints of the call's own. -/
def GivesI (P : List Int) (w : World) (e : Ending) (w' : World) : Prop :=
  ∃ v, e = .returned v ∧ w'.ownsRow w.heap.size 3 1 v P.length (icells P) ∧ Below w.heap.size w w'
/-- The pages below n that bear the state. -/
def withSt (zs : List Int) (s : Int) (n : Nat) : List Int := ((List.range n).filter fun j => zs.getD j 0 == s).map fun (j : Nat) => (j : Int)
theorem withSt_zero (zs : List Int) (s : Int) : withSt zs s 0 = [] := rfl
theorem withSt_yes {zs : List Int} {s : Int} {n : Nat} (h : zs.getD n 0 = s) : withSt zs s (n + 1) = withSt zs s n ++ [(n : Int)] := by
  unfold withSt; rw [List.range_succ, List.filter_append, List.filter_cons_of_pos (by rw [h]; simp)]; simp
theorem withSt_no {zs : List Int} {s : Int} {n : Nat} (h : zs.getD n 0 ≠ s) : withSt zs s (n + 1) = withSt zs s n := by
  unfold withSt; rw [List.range_succ, List.filter_append, List.filter_cons_of_neg (by simpa [List.getD] using h)]; simp
theorem withSt_len (zs : List Int) (s : Int) (n : Nat) : (withSt zs s n).length ≤ n := by
  unfold withSt; rw [List.length_map]; have := List.length_filter_le (fun j => zs.getD j 0 == s) (List.range n); simpa using this

set_option maxRecDepth 100000 in
set_option maxHeartbeats 1000000 in
theorem specStOk_any (a : Option Addr) (n c : Nat) (zs : List Int) (p : Int) (w : World) (hs : SrcI w a n zs) (hn : n ≤ 2000000) :
    Calls Tryz.prog 40 #[.slice a n c, .int .i64 p] w fun e w' => e = .returned (.bool (stB zs p)) ∧ w' = w := by
  have HS := Lib.hid hs
  have HL := Lib.hid hs.len
  clear hs
  go_enter Tryz.func40, Tryz.ntmps40
  go_wp2
  go_loop [5] (fun iv => ∃ k : Nat, k ≤ n ∧ iv = .int .i64 k ∧ Hid (StR zs k)) (fun iv => n - (intOf iv).toNat)
  case atStart => exact ⟨0, Nat.zero_le _, rfl, Lib.hid (fun j hj => by omega)⟩
  case round =>
    obtain ⟨k, hk, rfl, HR⟩ := hrel
    by_cases hlt : k < n
    · obtain ⟨g, off, rfl, _, d⟩ := HS.out.cell k hlt
      obtain ⟨x, hx⟩ : ∃ x, zs.getD k 0 = x := ⟨_, rfl⟩
      rw [hx] at d
      have HX := Lib.hid hx
      clear hx
      by_cases h : 0 ≤ x ∧ x ≤ 2
      · have HR2 : Hid (StR zs (k + 1)) := Lib.hid (fun j hj => by
          by_cases e : j = k
          · subst e; rw [HX.out]; exact h
          · exact HR.out j (by omega))
        go_wp2_with fail
        refine (range_yes _ h).mono ?_
        rintro e w1 ⟨rfl, rfl⟩
        clear h
        go_wp2
        go_round
        case rel => exact ⟨k + 1, by omega, by go_num, HR2⟩
        case measure => (simp [intOf]; try omega)
      · have HN := Lib.hid (stB_no (zs := zs) (p := p) (fun h9 => h (by rw [← HX.out]; exact h9.1 k (by have := HL.out; omega))))
        go_wp2_with fail
        refine (range_no _ h).mono ?_
        rintro e w1 ⟨rfl, rfl⟩
        clear h
        go_wp2
        go_ret
        exact ⟨by rw [HN.out]; rfl, rfl⟩
    · obtain rfl : n = k := by omega
      by_cases he : (n : Int) = p
      · subst he
        by_cases h : 1 ≤ (n : Int) ∧ (n : Int) ≤ 12
        · have HN := Lib.hid (stB_yes (zs := zs) (p := (n : Int)) ⟨by rw [HL.out]; exact HR.out, by rw [HL.out], h⟩)
          go_wp2_with fail
          refine (range_yes _ h).mono ?_
          rintro e w1 ⟨rfl, rfl⟩
          clear h
          go_wp2
          go_ret
          exact ⟨by rw [HN.out]; rfl, rfl⟩
        · have HN := Lib.hid (stB_no (zs := zs) (p := (n : Int)) (fun h9 => h h9.2.2))
          go_wp2_with fail
          refine (range_no _ h).mono ?_
          rintro e w1 ⟨rfl, rfl⟩
          clear h
          go_wp2
          go_ret
          exact ⟨by rw [HN.out]; rfl, rfl⟩
      · have HN := Lib.hid (stB_no (zs := zs) (p := p) (fun h9 => he (by rw [← h9.2.1, HL.out])))
        have e1 : ((n : Int) == p) = false := by simpa using he
        clear he
        go_wp2
        go_ret
        exact ⟨by rw [HN.out]; rfl, rfl⟩

set_option maxRecDepth 100000 in
set_option maxHeartbeats 1000000 in
theorem specPagesWith_any (a : Option Addr) (n c : Nat) (zs : List Int) (s : Int) (w : World) (hs : SrcI w a n zs) (hn : n ≤ 2000000) :
    Calls Tryz.prog 44 #[.slice a n c, .int .i64 s] w (GivesI (withSt zs s n) w) := by
  obtain ⟨i0, hi, hz0, hz1, hz2⟩ := info_parts infoInt
  have HS := Lib.hid hs
  clear hs
  go_enter Tryz.func44, Tryz.ntmps44
  have HB0 : Hid (Below w.heap.size w (w.alloc (.cells #[] 3))) := Lib.hid ((Below.refl _ _).alloc (Nat.le_refl _) _)
  have HO0 : Hid ((w.alloc (.cells #[] 3)).ownsRow w.heap.size 3 1 (.slice (some ⟨w.heap.size, 0, none⟩) 0 0) 0 (icells [])) :=
    Lib.hid (by simpa [icells] using World.ownsRow_lit (e := 3) (size := 1) (base := w.heap.size) w #[] 0 (Nat.le_refl _) (by decide) rfl)
  go_wp2
  go_loopw [5, 6] (fun v iv wr => ∃ (k : Nat) (P : List Int), k ≤ n ∧ iv = .int .i64 k ∧ Hid (P = withSt zs s k) ∧ Hid (wr.ownsRow w.heap.size 3 1 v P.length (icells P)) ∧ Hid (Below w.heap.size w wr)) (fun _ iv _ => n - (intOf iv).toNat)
  case atStart => exact ⟨0, [], Nat.zero_le _, rfl, Lib.hid rfl, HO0, HB0⟩
  case round =>
    obtain ⟨k, P, hk, rfl, HP, HO, HB⟩ := hrel
    clear HB0 HO0
    by_cases hlt : k < n
    · obtain ⟨g, off, rfl, _, d⟩ := (HS.out.later HB.out).cell k hlt
      obtain ⟨x, hx⟩ : ∃ x, zs.getD k 0 = x := ⟨_, rfl⟩
      rw [hx] at d
      have hpl : P.length ≤ 2000000 := by rw [HP.out]; have := withSt_len zs s k; omega
      have hsz := HB.out.size
      by_cases h : x = s
      · subst h
        have HE := Lib.hid (withSt_yes (zs := zs) (s := x) hx)
        clear hx
        go_wp2_with (at_builtin; refine wpList_append_own _ rfl (.tmp 20) (.tmp 22) 24 rfl w.heap.size 3 i0 (.int .i64 0) 1 8 Tryz.underlying24 hi hz0 hz1 hz2 rfl (by decide) _ _ _ rfl (HO.out.alloc _) ⟨wr.heap.size, 0, none⟩ 1 1 [.int .i64 k] rfl rfl (World.news_of_block (heap_alloc_new _ _)) (by simp [Value.oneCell']) (by unfold maxLen; omega) (by omega) (by simp; omega) ?_; intro v2 w2 hown2 hgrow2 hn2)
        have HB2 : Hid (Below w.heap.size w w2) := Lib.hid ((HB.out.alloc hsz _).grown hgrow2 (by simp; omega) (fun k e => (HO.out.lt k e).1))
        have HO2 : Hid (w2.ownsRow w.heap.size 3 1 v2 (P ++ [(k : Int)]).length (icells (P ++ [(k : Int)]))) := Lib.hid (by simpa [icells, List.length_append] using hown2)
        clear hown2 hgrow2 hn2 HO HB d
        go_wp2
        go_roundw
        case rel => exact ⟨k + 1, P ++ [(k : Int)], by omega, by go_num, Lib.hid (by rw [HP.out]; exact HE.out.symm), HO2, HB2⟩
        case measure => (simp [intOf]; try omega)
      · have HE := Lib.hid (withSt_no (zs := zs) (s := s) (n := k) (by rw [hx]; exact h))
        have e1 : (x == s) = false := by simpa using h
        clear hx h
        go_wp2
        go_roundw
        case rel => exact ⟨k + 1, P, by omega, by go_num, Lib.hid (by rw [HP.out]; exact HE.out.symm), HO, HB⟩
        case measure => (simp [intOf]; try omega)
    · obtain rfl : n = k := by omega
      go_wp2
      go_ret
      exact ⟨_, rfl, by rw [← HP.out]; exact HO.out, HB.out⟩
end Go.Proofs.YtmkchilhnmkhkabGreat
namespace Go.Proofs.YtmkchilhnmkhkabGreat
open Go.RowKit Go.Proofs.YtmkchilhnmkhkabGreat.Parts Go.Proofs.YtmkchilhnmkhkabGreat.Hexa

def cInt : EncC Int := ⟨3, 1, fun x => [.val (.int .i64 x)], fun _ => rfl⟩
theorem cInt_at {w : World} {L : List Int} {a : Option Addr} {n c : Nat} (h : (celRow cInt L).Rd w (.slice a n c)) (j : Nat) (hj : j < n) :
    ∃ (g off : Nat), a = some ⟨g, off, none⟩ ∧ g < w.heap.size ∧ w.cell? ⟨g, off + j, none⟩ = some (.int .i64 (L.getD j default)) := by
  obtain ⟨g, off, vs, ha, hg, hr, hc⟩ := row_at h (by decide) j hj
  obtain ⟨v, r, rfl, h0, h1⟩ := hr
  have h0' : v = .int .i64 (L.getD j default) := h0
  have h9 := hc 0 v rfl
  rw [h0', show off + j * cInt.k + 0 = off + j from by show off + j * 1 + 0 = _; omega] at h9
  exact ⟨g, off, ha, hg, h9⟩
theorem srcI_of_rd {w : World} {L : List Int} {a : Option Addr} {n c : Nat} (h : (celRow cInt L).Rd w (.slice a n c)) : SrcI w a n L := by
  obtain ⟨_, _, _, hv, hn⟩ := row_form h
  cases hv
  exact ⟨hn, fun j hj => cInt_at h j hj⟩
theorem rd_of_srcI {w : World} {L : List Int} {a : Option Addr} {n c : Nat} (h : SrcI w a n L) : (celRow cInt L).Rd w (.slice a n c) := by
  have hl := h.len
  subst hl
  refine ⟨by rw [celsE_length], a, c, icells L, rfl, ?_, ?_⟩
  · clear h
    induction L with
    | nil => exact rfl
    | cons x r ih => exact ⟨_, _, rfl, rfl, ih⟩
  · by_cases h0 : L.length = 0
    · exact .inl h0
    · obtain ⟨g, off, ha, hg, _⟩ := h.cell 0 (by omega)
      refine .inr ⟨g, off, ha, hg, fun j u hu => ?_⟩
      have hj : j < L.length := by
        rcases Nat.lt_or_ge j L.length with h9 | h9
        · exact h9
        · rw [List.getElem?_eq_none (by rw [icells_length]; exact h9)] at hu; cases hu
      obtain ⟨g2, off2, ha2, _, hc⟩ := h.cell j hj
      rw [ha] at ha2
      cases ha2
      rw [hc]
      simp only [icells, List.getElem?_map] at hu
      rw [List.getElem?_eq_getElem hj] at hu
      simp only [Option.map_some, Option.some.injEq] at hu
      rw [← hu]
      simp [List.getD, hj]
theorem own_ints {w : World} : ∀ L : List Int, OwnL w (celsE cInt L) [] (icells L)
  | [] => ⟨rfl, rfl⟩
  | x :: r => ⟨.int .i64 x, icells r, [], [], rfl, rfl, ⟨rfl, rfl⟩, own_ints r⟩
theorem obj_ints {w : World} {B n lo hi : Nat} {v : Value} {L : List Int} (h : w.ownsRow B 3 1 v n (icells L)) (h1 : lo ≤ B) (h2 : w.heap.size ≤ hi) : Obj1 w lo hi (celRow cInt L) v := by
  have hl : L.length = n := by have := h.1; rw [icells_length] at this; omega
  unfold celRow
  rw [hl]
  exact obj_of_row h (by rw [celsE_length, hl]) (own_ints L) List.nodup_nil (fun _ hg => by cases hg) (fun g hg => by have := h.lt g hg; exact ⟨by simp, by omega, by omega⟩)

theorem cInt_sz (x : Int) : szL (cInt.cels x) = 0 + 0 := rfl
theorem szInts_eq (L : List Int) : (celRow cInt L).sz = L.length := by
  have h1 : ∀ M : List Int, szL (celsE cInt M) = 0 := by
    intro M
    induction M with
    | nil => rfl
    | cons x r ih => rw [celsE, szL_append, ih]; rfl
  show L.length + szL (celsE cInt L) = _
  have := h1 L
  omega
end Go.Proofs.YtmkchilhnmkhkabGreat
namespace Go.Proofs.YtmkchilhnmkhkabGreat
open Go.RowKit Go.Proofs.YtmkchilhnmkhkabGreat.Parts Go.Proofs.YtmkchilhnmkhkabGreat.Hexa

structure PartR where
  ser : Int
  st : List Int
  ino : List InoR
instance : Inhabited PartR := ⟨⟨0, [], []⟩⟩
def cPart : EncC PartR := ⟨35, 3, fun x => [.val (.int .i64 x.ser), celRow cInt x.st, celRow cIno x.ino], fun _ => rfl⟩
theorem infoPartD : (Tryz.prog.info? 35).map (fun i => (i.zero, i.size, i.bytes)) = some (some (.agg #[.int .i64 0, .slice none 0 0, .slice none 0 0]), 3, 56) := by kernel_rfl
theorem cPart_form {w : World} {x : PartR} {vs : List Value} (h : RdL w (cPart.cels x) vs) : ∃ (a1 : Option Addr) (c1 : Nat) (a2 : Option Addr) (c2 : Nat), vs = [.int .i64 x.ser, .slice a1 x.st.length c1, .slice a2 x.ino.length c2] ∧ (celRow cInt x.st).Rd w (.slice a1 x.st.length c1) ∧ (celRow cIno x.ino).Rd w (.slice a2 x.ino.length c2) := by
  obtain ⟨v0, r0, e0, h0, v1, r1, e1, h1, v2, r2, e2, h2, hend⟩ := h
  have f0 : v0 = .int .i64 x.ser := h0
  obtain ⟨a1, n1, c1, f1, g1⟩ := row_form (E := cInt) (L := x.st) h1
  obtain ⟨a2, n2, c2, f2, g2⟩ := row_form (E := cIno) (L := x.ino) h2
  have hend' : r2 = [] := hend
  subst g1 g2
  rw [hend'] at e2
  rw [e2] at e1
  rw [e1] at e0
  rw [f0, f1, f2] at e0
  rw [f1] at h1
  rw [f2] at h2
  exact ⟨a1, c1, a2, c2, e0, h1, h2⟩
theorem cPart_rd {w : World} {x : PartR} {a1 : Option Addr} {c1 : Nat} {a2 : Option Addr} {c2 : Nat} (h1 : (celRow cInt x.st).Rd w (.slice a1 x.st.length c1)) (h2 : (celRow cIno x.ino).Rd w (.slice a2 x.ino.length c2)) : RdL w (cPart.cels x) [.int .i64 x.ser, .slice a1 x.st.length c1, .slice a2 x.ino.length c2] :=
  ⟨_, _, rfl, rfl, ⟨_, _, rfl, h1, ⟨_, _, rfl, h2, rfl⟩⟩⟩
theorem cPart_un {w : World} {x : PartR} {a1 : Option Addr} {c1 : Nat} {a2 : Option Addr} {c2 : Nat} (h : RdL w (cPart.cels x) [.int .i64 x.ser, .slice a1 x.st.length c1, .slice a2 x.ino.length c2]) : (celRow cInt x.st).Rd w (.slice a1 x.st.length c1) ∧ (celRow cIno x.ino).Rd w (.slice a2 x.ino.length c2) := by
  replace h := (rd_cons h).2
  obtain ⟨h1, h⟩ := rd_cons h
  obtain ⟨h2, h⟩ := rd_cons h
  exact ⟨h1, h2⟩
theorem cPart_at {w : World} {L : List PartR} {a : Option Addr} {n c : Nat} (h : (celRow cPart L).Rd w (.slice a n c)) (j : Nat) (hj : j < n) :
    ∃ (g off : Nat) (a1 : Option Addr) (c1 : Nat) (a2 : Option Addr) (c2 : Nat), a = some ⟨g, off, none⟩ ∧ g < w.heap.size ∧ w.cell? ⟨g, off + j * 3, none⟩ = some (.int .i64 (L.getD j default).ser) ∧ w.cell? ⟨g, off + j * 3 + 1, none⟩ = some (.slice a1 (L.getD j default).st.length c1) ∧ w.cell? ⟨g, off + j * 3 + 2, none⟩ = some (.slice a2 (L.getD j default).ino.length c2) ∧ (celRow cInt (L.getD j default).st).Rd w (.slice a1 (L.getD j default).st.length c1) ∧ (celRow cIno (L.getD j default).ino).Rd w (.slice a2 (L.getD j default).ino.length c2) := by
  obtain ⟨g, off, vs, ha, hg, hr, hc⟩ := row_at h (by decide) j hj
  obtain ⟨a1, c1, a2, c2, hv, h1, h2⟩ := cPart_form hr
  subst hv
  exact ⟨g, off, a1, c1, a2, c2, ha, hg, hc 0 _ rfl, hc 1 _ rfl, hc 2 _ rfl, h1, h2⟩
theorem cPart_sz (x : PartR) : szL (cPart.cels x) = (0 + ((celRow cInt x.st).sz + ((celRow cIno x.ino).sz + 0))) := rfl
theorem cPart_cnt (x : PartR) : cntL (cPart.cels x) = (1 + ((celRow cInt x.st).cnt + ((celRow cIno x.ino).cnt + 0))) := rfl

end Go.Proofs.YtmkchilhnmkhkabGreat
namespace Go.Proofs.YtmkchilhnmkhkabGreat
open Go.RowKit
def SaysB (b : Bool) (w : World) (e : Ending) (w' : World) : Prop := e = .returned (.bool b) ∧ Below w.heap.size w w'
end Go.Proofs.YtmkchilhnmkhkabGreat
namespace Go.Proofs.YtmkchilhnmkhkabGreat
open Go.RowKit

/-- A block of four cells. -/
def Four (w : World) (b : Nat) (T P I Q : Int) (t : TypeId) : Prop := w.heap[b]? = some (.cells #[.int .i64 T, .int .i64 P, .int .i64 I, .int .i64 Q] t (0, 0))
theorem Four.lt {w : World} {b : Nat} {T P I Q : Int} {t : TypeId} (h : Four w b T P I Q t) : b < w.heap.size := (Array.getElem?_eq_some_iff.1 h).1
theorem Four.later {w w' : World} {b : Nat} {T P I Q : Int} {t : TypeId} (h : Four w b T P I Q t) (hb : Below w.heap.size w w') : Four w' b T P I Q t := (hb.block b h.lt).trans h
theorem Four.alloc (w : World) (T P I Q : Int) (t : TypeId) : Four (w.alloc (.cells #[.int .i64 T, .int .i64 P, .int .i64 I, .int .i64 Q] t)) w.heap.size T P I Q t := heap_alloc_new w _
theorem Four.c0 {w : World} {b : Nat} {T P I Q : Int} {t : TypeId} (h : Four w b T P I Q t) : w.cell? ⟨b, 0, none⟩ = some (.int .i64 T) := by unfold Four at h; simp [World.cell?, h]
theorem Four.c1 {w : World} {b : Nat} {T P I Q : Int} {t : TypeId} (h : Four w b T P I Q t) : w.cell? ⟨b, 1, none⟩ = some (.int .i64 P) := by unfold Four at h; simp [World.cell?, h]
theorem Four.c2 {w : World} {b : Nat} {T P I Q : Int} {t : TypeId} (h : Four w b T P I Q t) : w.cell? ⟨b, 2, none⟩ = some (.int .i64 I) := by unfold Four at h; simp [World.cell?, h]
theorem Four.c3 {w : World} {b : Nat} {T P I Q : Int} {t : TypeId} (h : Four w b T P I Q t) : w.cell? ⟨b, 3, none⟩ = some (.int .i64 Q) := by unfold Four at h; simp [World.cell?, h]
theorem Four.fr {w : World} {b o : Nat} {T P I Q : Int} {t : TypeId} (h : Four w b T P I Q t) : w.frozen? ⟨b, o, none⟩ = false := by unfold Four at h; simp [World.frozen?, h]
theorem Four.drew {w : World} {b : Nat} {T P I Q : Int} {t : TypeId} (h : Four w b T P I Q t) : Four w.drew b T P I Q t := h
theorem Four.setOther' {w : World} {b c o : Nat} {T P I Q : Int} {t : TypeId} {v : Value} (h : Four w b T P I Q t) (hne : b ≠ c) : Four (w.setCell ⟨c, o, none⟩ v) b T P I Q t := (Below.heap_setCell _ _ _ _ hne).trans h
theorem below_al (w : World) (o : Obj) : Below w.heap.size w (w.alloc o) := (Below.refl _ _).alloc (Nat.le_refl _) _

/-- Whether a layout is valid. -/
def GeoR (T P I Q : Int) : Prop := 1 ≤ T ∧ T ≤ 3 ∧ 5 ≤ P ∧ P ≤ 12 ∧ 2 ≤ I ∧ I ≤ 6 ∧ 1 ≤ Q ∧ Q ≤ P - 4
instance (T P I Q : Int) : Decidable (GeoR T P I Q) := by unfold GeoR; infer_instance
def SaysI (n : Int) (w : World) (e : Ending) (w' : World) : Prop := e = .returned (.int .i64 n) ∧ Below w.heap.size w w'
theorem geo_cases {T P I Q : Int} (h : ¬ GeoR T P I Q) : (¬ (1 ≤ T ∧ T ≤ 3)) ∨ ((1 ≤ T ∧ T ≤ 3) ∧ ¬ (5 ≤ P ∧ P ≤ 12)) ∨ ((1 ≤ T ∧ T ≤ 3) ∧ (5 ≤ P ∧ P ≤ 12) ∧ ¬ (2 ≤ I ∧ I ≤ 6)) ∨ ((1 ≤ T ∧ T ≤ 3) ∧ (5 ≤ P ∧ P ≤ 12) ∧ (2 ≤ I ∧ I ≤ 6) ∧ ¬ (1 ≤ Q ∧ Q ≤ P - 4)) := by
  unfold GeoR at h; omega
theorem within_cases (n a b : Int) : (a ≤ n ∧ n ≤ b) ∨ n < a ∨ (a ≤ n ∧ b < n) := by omega

/-- The words of a part. -/
def wordsOf (P I : Int) : Int := 38 + 8 * I + 4 * P
end Go.Proofs.YtmkchilhnmkhkabGreat
namespace Go.Proofs.YtmkchilhnmkhkabGreat
open Go.Proofs.YtmkchilhnmkhkabGreat.Byt

def InosR (L : List InoR) : Prop := ∀ j, j < L.length → InoOk (L.getD j default)
def EntsR (L : List InoR) : Prop := ∀ e ∈ entsOf L, 0 ≤ e.f0 ∧ e.f0 < (L.length : Int)
def PlaceR (L : List InoR) (i : Nat) (kd : Int) : Prop :=
  (i = 0 → kd = 2 ∧ cntI (entsOf L) i = 0) ∧ (i ≠ 0 → (kd = 0 → cntI (entsOf L) i = 0) ∧ (kd ≠ 0 → cntI (entsOf L) i = 1 ∧ depthZ L i ≠ -1))
def LinksR (L : List InoR) : Prop := EntsR L ∧ ∀ i, i < L.length → PlaceR L i (L.getD i default).kd
def RecsR (L : List InoR) (s : Nat) : Prop := ∀ r ∈ recsOf L, 1 ≤ r.f0 ∧ r.f0 ≤ (s : Int)
def UserR (L : List InoR) (pg : Nat) (st : Int) : Prop := cntP (recsOf L) pg ≤ 1 ∧ (cntP (recsOf L) pg = 1 ↔ st = 2)
def UsersR (L : List InoR) (zs : List Int) : Prop := RecsR L zs.length ∧ ∀ pg, pg < zs.length → UserR L pg (zs.getD pg 0)
def PartOkR (T P I Q : Int) (p : PartR) : Prop :=
  GeoR T P I Q ∧ SerR p.ser ∧ StOk p.st P ∧ (p.ino.length : Int) = I ∧ InosR p.ino ∧ LinksR p.ino ∧ UsersR p.ino p.st ∧ ((withSt p.st 2 p.st.length).length : Int) ≤ Q
noncomputable def decB (q : Prop) : Bool := @decide q (Classical.propDecidable _)
theorem decB_yes {q : Prop} (h : q) : decB q = true := by unfold decB; exact @decide_eq_true _ (Classical.propDecidable _) h
theorem decB_no {q : Prop} (h : ¬ q) : decB q = false := by unfold decB; exact @decide_eq_false _ (Classical.propDecidable _) h
theorem decB_iff {q : Prop} : decB q = true ↔ q := by
  unfold decB
  exact @decide_eq_true_iff _ (Classical.propDecidable _)
noncomputable def ptB (T P I Q : Int) (p : PartR) : Bool := decB (PartOkR T P I Q p)

theorem getD_mem {α : Type} [Inhabited α] {L : List α} {j : Nat} (h : j < L.length) : L.getD j default ∈ L := by
  simp only [List.getD, List.getElem?_eq_getElem h, Option.getD_some]
  exact List.getElem_mem _
theorem mem_getD {α : Type} [Inhabited α] {L : List α} {x : α} (h : x ∈ L) : ∃ j, j < L.length ∧ L.getD j default = x := by
  obtain ⟨j, hj, rfl⟩ := List.getElem_of_mem h
  exact ⟨j, hj, by simp [List.getD, hj]⟩
theorem mem_ents {L : List InoR} {e : EntryR} (h : e ∈ entsOf L) : ∃ n ∈ L, n.kd = 2 ∧ e ∈ n.E := by
  unfold entsOf at h
  obtain ⟨n, hn, he⟩ := List.mem_flatMap.1 h
  by_cases hk : n.kd = 2
  · rw [dirE_yes hk] at he; exact ⟨n, hn, hk, he⟩
  · rw [dirE_no hk] at he; cases he
theorem mem_recs {L : List InoR} {r : RecR} (h : r ∈ recsOf L) : ∃ n ∈ L, n.kd = 1 ∧ r ∈ n.R := by
  unfold recsOf at h
  obtain ⟨n, hn, he⟩ := List.mem_flatMap.1 h
  by_cases hk : n.kd = 1
  · rw [filR_yes hk] at he; exact ⟨n, hn, hk, he⟩
  · rw [filR_no hk] at he; cases he
/-- What a valid inode's entries and records are. -/
theorem ok_ents {n : InoR} (h : InoOk n) : n.E = dirE n ∧ ∀ e ∈ n.E, 1 ≤ e.f0 := by
  rcases h.2 with ⟨hk, h1, h2, h3, h4⟩ | ⟨hk, h1, h2, h3, h4, h5⟩ | ⟨hk, h1, h2, h3, h4, h5⟩
  · have h9 : n.E = [] := List.length_eq_zero_iff.1 h4
    exact ⟨by rw [h9, dirE_no (by omega)], fun e he => by rw [h9] at he; cases he⟩
  · have h9 : n.E = [] := List.length_eq_zero_iff.1 h4
    exact ⟨by rw [h9, dirE_no (by omega)], fun e he => by rw [h9] at he; cases he⟩
  · refine ⟨(dirE_yes hk).symm, fun e he => ?_⟩
    obtain ⟨j, hj, rfl⟩ := mem_getD he
    exact (h5 j hj).1.1.1
theorem ok_recs {n : InoR} (h : InoOk n) : n.R = filR n ∧ ∀ r ∈ n.R, 1 ≤ r.f0 := by
  rcases h.2 with ⟨hk, h1, h2, h3, h4⟩ | ⟨hk, h1, h2, h3, h4, h5⟩ | ⟨hk, h1, h2, h3, h4, h5⟩
  · have h9 : n.R = [] := List.length_eq_zero_iff.1 h3
    exact ⟨by rw [h9, filR_no (by omega)], fun e he => by rw [h9] at he; cases he⟩
  · refine ⟨(filR_yes hk).symm, fun r hr => ?_⟩
    obtain ⟨j, hj, rfl⟩ := mem_getD hr
    exact (h5 j hj).1.1.1
  · have h9 : n.R = [] := List.length_eq_zero_iff.1 h3
    exact ⟨by rw [h9, filR_no (by omega)], fun e he => by rw [h9] at he; cases he⟩
/-- The records counted, inode by inode. -/
def sumR (L : List InoR) : Nat := (L.map fun n => n.R.length).sum
theorem sumR_next {L : List InoR} {k : Nat} (hk : k < L.length) : sumR (L.take (k + 1)) = sumR (L.take k) + (L.getD k default).R.length := by
  unfold sumR
  rw [take_next hk, List.map_append, List.sum_append]
  simp
theorem sumR_eq : ∀ L : List InoR, (∀ n ∈ L, InoOk n) → sumR L = (recsOf L).length
  | [], _ => rfl
  | n :: r, h => by
    have h1 := sumR_eq r (fun x hx => h x (List.mem_cons_of_mem _ hx))
    have h2 := (ok_recs (h n List.mem_cons_self)).1
    show n.R.length + sumR r = (recsOf (n :: r)).length
    unfold recsOf at h1 ⊢
    rw [List.flatMap_cons, List.length_append, ← h2, h1]
theorem sumR_le (L : List InoR) (k : Nat) : sumR (L.take k) ≤ szL (celsE cIno L) := by
  refine Nat.le_trans ?_ (szL_take cIno L k)
  generalize L.take k = M
  induction M with
  | nil => exact Nat.zero_le _
  | cons n r ih =>
    have h1 := cIno_sz n
    have h2 := len_sz cRec n.R
    show n.R.length + sumR r ≤ _
    rw [celsE, szL_append, h1]
    omega

theorem depth_ge (L : List InoR) : ∀ (f n : Nat) (i : Int), depthGo L f n i = -1 ∨ 0 ≤ depthGo L f n i
  | 0, _, _ => .inl rfl
  | f + 1, n, i => by
    rw [depthGo]
    split
    · exact .inr (by omega)
    · split
      · exact .inl rfl
      · exact depth_ge L f (n + 1) _
theorem depth_neg (L : List InoR) (i : Int) : depthZ L i < 0 ↔ depthZ L i = -1 := by
  have := depth_ge L (L.length + 1) 0 i
  unfold depthZ
  omega

/-! Users, counted. -/
theorem withSt_mem {zs : List Int} {s x : Int} {n : Nat} : x ∈ withSt zs s n ↔ ∃ j : Nat, j < n ∧ zs.getD j 0 = s ∧ x = (j : Int) := by
  unfold withSt
  simp only [List.mem_map, List.mem_filter, List.mem_range, beq_iff_eq]
  constructor
  · rintro ⟨j, ⟨h1, h2⟩, rfl⟩; exact ⟨j, h1, h2, rfl⟩
  · rintro ⟨j, h1, h2, rfl⟩; exact ⟨j, ⟨h1, h2⟩, rfl⟩
theorem withSt_nodup (zs : List Int) (s : Int) (n : Nat) : (withSt zs s n).Nodup := by
  unfold withSt
  rw [List.Nodup, List.pairwise_map]
  exact (List.nodup_range.filter _).imp (fun h e => h (by omega))
theorem sum_users (U : List Int) (hU : U.Nodup) : ∀ R : List RecR, (U.map (cntP R)).sum = R.countP (fun r => decide (r.f0 - 1 ∈ U))
  | [] => by
    have : ∀ V : List Int, (V.map (cntP [])).sum = 0 := by
      intro V
      induction V with
      | nil => rfl
      | cons x V ih => rw [List.map_cons, List.sum_cons, ih]; rfl
    rw [this]; rfl
  | r :: R => by
    have ih := sum_users U hU R
    have key : ∀ V : List Int, V.Nodup → (V.map (cntP (r :: R))).sum = (V.map (cntP R)).sum + if r.f0 - 1 ∈ V then 1 else 0 := by
      intro V
      induction V with
      | nil => intro _; rfl
      | cons x V ihV =>
        intro hn
        obtain ⟨h1, h2⟩ := List.nodup_cons.1 hn
        have h3 : cntP (r :: R) x = cntP R x + if r.f0 - 1 = x then 1 else 0 := by
          unfold cntP
          rw [List.countP_cons]
          congr 1
          by_cases h : r.f0 = x + 1
          · simp [h]
          · have h' : ¬ r.f0 - 1 = x := by omega
            simp [h, h']
        rw [List.map_cons, List.sum_cons, List.map_cons, List.sum_cons, ihV h2, h3]
        by_cases h : r.f0 - 1 = x
        · have h4 : r.f0 - 1 ∉ V := by rw [h]; exact h1
          rw [if_pos h, if_neg h4, if_pos (by rw [h]; exact List.mem_cons_self)]
          omega
        · by_cases h4 : r.f0 - 1 ∈ V
          · rw [if_neg h, if_pos h4, if_pos (List.mem_cons_of_mem _ h4)]; omega
          · have h5 : r.f0 - 1 ∉ x :: V := by simp only [List.mem_cons, not_or]; exact ⟨h, h4⟩
            rw [if_neg h, if_neg h4, if_neg h5]
            omega
    rw [key U hU, ih, List.countP_cons]
    congr 1
    by_cases h : r.f0 - 1 ∈ U <;> simp [h]
theorem sum_ones {U : List Int} {f : Int → Nat} (h : ∀ x ∈ U, f x = 1) : (U.map f).sum = U.length := by
  induction U with
  | nil => rfl
  | cons x V ih =>
    rw [List.map_cons, List.sum_cons, h x List.mem_cons_self, ih (fun y hy => h y (List.mem_cons_of_mem _ hy)), List.length_cons, Nat.add_comm]
theorem cntP_pos {R : List RecR} {r : RecR} (h : r ∈ R) : 1 ≤ cntP R (r.f0 - 1) := by
  unfold cntP
  rw [Nat.one_le_iff_ne_zero]
  intro h0
  have := List.countP_eq_zero.1 h0 r h
  simp at this
/-- Each used page one user, no other page any, no record elsewhere: told by the used pages alone, and by how many records there are. -/
theorem users_iff (L : List InoR) (zs : List Int) (h1 : ∀ r ∈ recsOf L, 1 ≤ r.f0) (hone : ∀ x ∈ withSt zs 2 zs.length, cntP (recsOf L) x = 1) :
    UsersR L zs ↔ (withSt zs 2 zs.length).length = (recsOf L).length := by
  have hs := sum_users _ (withSt_nodup zs 2 zs.length) (recsOf L)
  rw [sum_ones hone] at hs
  constructor
  · rintro ⟨ha, hb⟩
    rw [hs, List.countP_eq_length.2]
    intro r hr
    have h2 := ha r hr
    have h3 := hb (r.f0 - 1).toNat (by omega)
    have h4 : ((r.f0 - 1).toNat : Int) = r.f0 - 1 := by omega
    have h5 := cntP_pos hr
    unfold UserR at h3
    rw [h4] at h3
    have h6 : cntP (recsOf L) (r.f0 - 1) = 1 := by omega
    simp only [decide_eq_true_eq]
    exact withSt_mem.2 ⟨(r.f0 - 1).toNat, by omega, h3.2.1 h6, h4.symm⟩
  · intro hlen
    rw [hlen] at hs
    have hall := List.countP_eq_length.1 hs.symm
    have hin : ∀ r ∈ recsOf L, r.f0 - 1 ∈ withSt zs 2 zs.length := fun r hr => by simpa using hall r hr
    refine ⟨fun r hr => ?_, fun pg hpg => ?_⟩
    · obtain ⟨j, hj, _, e⟩ := withSt_mem.1 (hin r hr)
      exact ⟨h1 r hr, by omega⟩
    · by_cases hst : zs.getD pg 0 = 2
      · have := hone (pg : Int) (withSt_mem.2 ⟨pg, hpg, hst, rfl⟩)
        unfold UserR
        omega
      · have h0 : cntP (recsOf L) (pg : Int) = 0 := by
          unfold cntP
          rw [List.countP_eq_zero]
          intro r hr
          obtain ⟨j, hj, hj2, e⟩ := withSt_mem.1 (hin r hr)
          simp only [beq_iff_eq]
          intro h9
          have : j = pg := by omega
          rw [this] at hj2
          exact hst hj2
        unfold UserR
        rw [h0]
        omega
theorem users_one {L : List InoR} {zs : List Int} {x : Int} (h : UsersR L zs) (hx : x ∈ withSt zs 2 zs.length) : cntP (recsOf L) x = 1 := by
  obtain ⟨j, hj, h2, rfl⟩ := withSt_mem.1 hx
  exact (h.2 j hj).2.2 h2
end Go.Proofs.YtmkchilhnmkhkabGreat
namespace Go.Proofs.YtmkchilhnmkhkabGreat
open Go.RowKit Go.Lib Go.Proofs.YtmkchilhnmkhkabGreat.Hexa Go.Proofs.YtmkchilhnmkhkabGreat.Byt

theorem made_zero (n : Nat) : (madeCells (Value.int .u8 0).cells (n * 1)).toList = bcells (List.replicate n 0) := by
  apply List.ext_getElem?
  intro j
  have hcl : (Value.int .u8 0).cells = #[Value.int .u8 0] := rfl
  by_cases hj : j < n
  · simp [madeCells, hj, hcl, Nat.mod_one, bcells]
  · rw [List.getElem?_eq_none (by simp [madeCells]; omega), List.getElem?_eq_none (by simp [bcells]; omega)]

/-- The bytes A, and zeros up to n. -/
def partB (A : List UInt8) (n : Nat) : List UInt8 := A ++ List.replicate (n - A.length) 0
theorem partB_length (A : List UInt8) (n : Nat) (h : A.length ≤ n) : (partB A n).length = n := by simp [partB]; omega
theorem partB_nil (n : Nat) : partB [] n = List.replicate n 0 := by simp [partB]
theorem partB_full (A : List UInt8) (n : Nat) (h : A.length = n) : partB A n = A := by simp [partB, h]
theorem partB_set (A : List UInt8) (n : Nat) (x : UInt8) (h : A.length < n) : (partB A n).set A.length x = partB (A ++ [x]) n := by
  obtain ⟨m, hm⟩ : ∃ m, n - A.length = m + 1 := ⟨n - A.length - 1, by omega⟩
  have h2 : n - (A ++ [x]).length = m := by simp; omega
  unfold partB
  rw [h2, hm, List.replicate_succ, List.set_append_right _ _ (Nat.le_refl _), Nat.sub_self, List.set_cons_zero, List.append_assoc]
  rfl
theorem part_start {w : World} {B e g n : Nat} (h : w.ownsRow B e 1 (.slice (some ⟨g, 0, none⟩) n n) n (madeCells (Value.int .u8 0).cells (n * 1)).toList) :
    Bytes w B e (.slice (some ⟨g, 0, none⟩) n n) (partB [] n) := by
  rw [made_zero] at h
  rw [partB_nil]
  refine bytes_of_own ?_
  rw [List.length_replicate]
  exact h
/-- The next byte written. -/
theorem part_next {w : World} {B e g n : Nat} {A : List UInt8} (h : Bytes w B e (.slice (some ⟨g, 0, none⟩) n n) (partB A n)) (x : UInt8) (hl : A.length < n) :
    Bytes (w.setCell ⟨g, A.length, none⟩ (.int .u8 x.toNat)) B e (.slice (some ⟨g, 0, none⟩) n n) (partB (A ++ [x]) n) := by
  have hp := partB_length A n (by omega)
  have h' : Bytes w B e (.slice (some ⟨g, 0, none⟩) (partB A n).length n) (partB A n) := by rw [hp]; exact h
  have hs := bytes_set h' A.length x
  rw [partB_set A n x hl, hp] at hs
  exact hs
theorem part_at {w : World} {B e g n : Nat} {A : List UInt8} (h : Bytes w B e (.slice (some ⟨g, 0, none⟩) n n) (partB A n)) (hl : A.length < n) :
    (∃ v, w.cell? ⟨g, A.length, none⟩ = some v) ∧ w.frozen? ⟨g, A.length, none⟩ = false ∧ B ≤ g := by
  have hp := partB_length A n (by omega)
  have h' : Bytes w B e (.slice (some ⟨g, 0, none⟩) (partB A n).length n) (partB A n) := by rw [hp]; exact h
  obtain ⟨h1, h2, h3⟩ := bytes_at h' A.length (by omega)
  exact ⟨⟨_, h1⟩, h2, h3⟩

/-- 'copy(b, s)'. -/
theorem bytes_copy {P : Program} {t e u ty : TypeId} {i : TypeInfo} (ht : P.underlying t = some (.slice e)) (hi : P.info? e = some i) (hs1 : i.size = 1)
    {w : World} {B g c n : Nat} {l : List UInt8} (hn : l.length = n) (h : Bytes w B e (.slice (some ⟨g, 0, none⟩) n c) l) (s : ByteArray) (hs : s.size ≤ n) :
    ∃ w', (Builtin.copy_ #[t, u] ty #[.slice (some ⟨g, 0, none⟩) n c, .string s]).run P w = .ok (goInt s.size) w' ∧ Bytes w' B e (.slice (some ⟨g, 0, none⟩) n c) (s.data.toList ++ l.drop s.size) ∧ Below B w w' := by
  subst hn
  have hsl : s.data.toList.length = s.size := by simp
  rcases h with ⟨h, _⟩ | ⟨g', cap, cur, fz, hv, hb, hg, hfz, hlc, hm, hcs, htk⟩
  · cases h
  · simp at hv
    obtain ⟨rfl, rfl⟩ := hv
    have hst := Byt.run_store P g 0 e fz (strCells s) 0 cur w hg hfz (by rw [strCells_length]; omega) (strCells_oneCell s)
    have hf := run_firstCells_string (P := P) w 1 s
    have hln : (s.data.toList ++ l.drop s.size).length = l.length := by rw [List.length_append, List.length_drop, hsl]; omega
    simp only [Nat.add_zero, Nat.zero_add, strCells_length] at hst
    refine ⟨w.setRow g (List.take 0 cur.toList ++ strCells s ++ List.drop s.size cur.toList).toArray, ?_, .inr ⟨g, c, (List.take 0 cur.toList ++ strCells s ++ List.drop s.size cur.toList).toArray, fz, by rw [hln], hb, setRow_heap w g cur _ e fz hg, ?_, by rw [hln]; exact hlc, hm, ?_, ?_⟩, Byt.below_setRow w hb _⟩
    · simp [Builtin.copy_, run_underlying ht, Builtin.lenOf, sizeOf, typeInfo, hi, hs1, Nat.min_eq_left hs, hf, hst]
    · have hz : (List.take 0 cur.toList ++ strCells s ++ List.drop s.size cur.toList).toArray.size = cur.size := by simp [strCells_length]; omega
      rw [hz]; exact hfz
    · simp [strCells_length]; omega
    · rw [hln]
      have e1 : strCells s = bcells s.data.toList := rfl
      simp only [List.take_zero, List.nil_append, e1, bcells_append]
      have e2 : l.length = (bcells s.data.toList).length + (l.length - s.size) := by rw [bcells_length, hsl]; omega
      have e3 : bcells (l.drop s.size) = (bcells l).drop s.size := by simp [bcells]
      rw [e2, List.take_length_add_append, e3, ← htk, List.drop_take]

theorem wpList_copy_text {P : Program} {w : World} {ops : Array Oper} {rest : List Oper} {o : Oper} {a : Act} {Q : Exit → Act → World → Prop} (hgd : o.guard = none) (d s : Operand) (dT sT : TypeId)
    (ho : o.op = .call { callee := .builtin .copy, args := #[d, s], argTypes := #[dT, sT] }) (v0 v1 r : Value) (w' : World) (hd : a.eval d = v0) (hs : a.eval s = v1)
    (hrun : (Builtin.copy_ #[dT, sT] o.type #[v0, v1]).run P w = .ok r w') (h : wpList P ops Q rest (a.put o.dst r) w') : wpList P ops Q (o :: rest) a w := by
  refine wpList_plain hgd fun K hK => ?_
  unfold Oper.wp
  simp [execOp, ho, resolve, invoke, builtin, hd, hs, hrun, Result.andThen]
  exact hK _ _ h
end Go.Proofs.YtmkchilhnmkhkabGreat
namespace Go.Proofs.YtmkchilhnmkhkabGreat
open Go.RowKit Go.Proofs.YtmkchilhnmkhkabGreat.Hexa Go.Proofs.YtmkchilhnmkhkabGreat.Byt Go.Proofs.YtmkchilhnmkhkabGreat.BitsM Go.Proofs.YtmkchilhnmkhkabGreat.Parts

theorem infoText : (Tryz.prog.info? 9).map (fun i => (i.zero, i.size, i.bytes)) = some (some (.string ⟨#[]⟩), 1, 16) := by kernel_rfl
def wordsN (s : ByteArray) : Nat := (s.size + 7) / 8
/-- Word k of a text. -/
def wordAt (s : ByteArray) (k : Nat) : ByteArray := wordB (s.extract (8 * k) (min (8 * k + 8) s.size))
/-- The words of a text. -/
def wordsL (s : ByteArray) : List ByteArray := (List.range (wordsN s)).map (wordAt s)
theorem wordsL_length (s : ByteArray) : (wordsL s).length = wordsN s := by simp [wordsL]
def wordsTo (s : ByteArray) (k : Nat) : List ByteArray := (List.range k).map (wordAt s)
theorem wordsTo_next (s : ByteArray) (k : Nat) : scells (wordsTo s k) ++ [.string (wordAt s k)] = scells (wordsTo s (k + 1)) := by simp [wordsTo, scells, List.range_succ]
theorem wordsTo_all (s : ByteArray) : wordsTo s (wordsN s) = wordsL s := rfl

/-- Some slice of the call's own that holds these texts. -/
def GivesT (P : List ByteArray) (w : World) (e : Ending) (w' : World) : Prop :=
  ∃ v, e = .returned v ∧ w'.ownsRow w.heap.size 9 1 v P.length (scells P) ∧ Below w.heap.size w w'

end Go.Proofs.YtmkchilhnmkhkabGreat
namespace Go.Proofs.YtmkchilhnmkhkabGreat
open Go.RowKit Go.Proofs.YtmkchilhnmkhkabGreat.Parts Go.Proofs.YtmkchilhnmkhkabGreat.Hexa Go.Proofs.YtmkchilhnmkhkabGreat.Byt

theorem bytes_cut_text {P : Program} {w : World} {B e g c : Nat} {l : List UInt8} (src dst : TypeId)
    (hs : P.underlying src = some (.slice e)) (he : P.underlying e = some (.int .u8)) (hd : P.underlying dst = some .string)
    (h : Bytes w B e (.slice (some ⟨g, 0, none⟩) l.length c) l) (o n c' : Nat) (hon : o + n ≤ l.length) :
    (convert src dst (.slice (some ⟨g, o, none⟩) n c')).run P w = .ok (.string ⟨((l.drop o).take n).toArray⟩) w := by
  have hl : ((l.drop o).take n).length = n := by rw [List.length_take, List.length_drop]; omega
  have := run_convert_bytes_back (P := P) w src dst e ⟨g, o, none⟩ c' ((l.drop o).take n) hs he hd (fun j hj => by
    have hj' : o + j < l.length := by omega
    have h1 := (bytes_at h (o + j) hj').1
    have hadd : (⟨g, o, none⟩ : Addr).add j = ⟨g, o + j, none⟩ := by unfold Addr.add; split <;> simp_all
    rw [hadd, h1]
    simp)
  rw [hl] at this
  exact this

/-- The states as bytes. -/
def stT (zs : List Int) : List UInt8 := zs.map fun x => UInt8.ofNat x.toNat
theorem stT_len (zs : List Int) : (stT zs).length = zs.length := by simp [stT]
theorem stT_succ {zs : List Int} {k : Nat} (h : k < zs.length) : stT (zs.take (k + 1)) = stT (zs.take k) ++ [UInt8.ofNat (zs.getD k 0).toNat] := by
  have e : zs.getD k 0 = zs[k] := by simp [List.getD, h]
  unfold stT
  rw [List.take_succ_eq_append_getElem h, List.map_append, e]
  rfl
def cutSt (l : List UInt8) (o : Nat) : ByteArray := ⟨((l.drop o).take 8).toArray⟩
noncomputable def stWords (zs : List Int) : List ByteArray := if stB zs zs.length = true then [cutSt (partB (stT zs) 16) 0, cutSt (partB (stT zs) 16) 8] else []
theorem stWords_yes {zs : List Int} (h : StOk zs zs.length) : stWords zs = [cutSt (partB (stT zs) 16) 0, cutSt (partB (stT zs) 16) 8] := if_pos (stB_yes h)
theorem stWords_no {zs : List Int} (h : ¬ StOk zs zs.length) : stWords zs = [] := if_neg (by rw [stB_no h]; decide)
theorem st_byte {x : Int} (h : 0 ≤ x ∧ x ≤ 2) : IntKind.u8.wrap x = ((UInt8.ofNat x.toNat).toNat : Int) := by
  rw [IntKind.wrap_u8]
  obtain ⟨n, rfl⟩ : ∃ n : Nat, x = n := ⟨x.toNat, by omega⟩
  rw [Int.toNat_natCast, UInt8.toNat_ofNat']
  omega

set_option maxRecDepth 100000 in
set_option maxHeartbeats 1000000 in
theorem specStWords_any (a : Option Addr) (n c : Nat) (zs : List Int) (w : World) (hs : SrcI w a n zs) (hn : n ≤ 2000000) :
    Calls Tryz.prog 47 #[.slice a n c] w (GivesT (stWords zs) w) := by
  obtain ⟨i0, hi, hz0, hz1, hz2⟩ := info_parts infoByte
  have HL := Lib.hid hs.len
  have HS := Lib.hid hs
  clear hs
  by_cases hok : StOk zs n
  · have HB := Lib.hid (stB_yes hok)
    have HW : Hid (stWords zs = [cutSt (partB (stT zs) 16) 0, cutSt (partB (stT zs) 16) 8]) := Lib.hid (stWords_yes (by rw [HL.out]; exact hok))
    have h12 : n ≤ 12 := by have := hok.2.2.2; omega
    have HR : Hid (StR zs n) := Lib.hid (by rw [← HL.out]; exact hok.1)
    clear hok
    go_enter Tryz.func47, Tryz.ntmps47
    go_wp2_with fail
    refine (specStOk_any a n c zs n _ HS.out hn).mono ?_
    rw [HB.out]
    rintro e w1 ⟨rfl, rfl⟩
    go_wp2_with (at_make; refine wpList_make_full _ rfl _ _ 85 rfl w1.heap.size 5 i0 (.int .u8 0) 1 Tryz.underlying85 hi hz0 hz1 .i64 .i64 _ _ 16 rfl rfl rfl rfl (by rw [hz2]; omega) (by unfold maxLen; omega) (Nat.le_refl _) ?_; intro w0 hown0 hgrow0)
    have HG0 : Hid (Below w1.heap.size w1 w0) := Lib.hid ((Below.refl _ _).grown hgrow0 (Nat.le_refl _) (fun k h => by cases h))
    have HO0 := Lib.hid (part_start hown0)
    clear hown0 hgrow0
    go_wp2
    go_loopw [4] (fun iv wr => ∃ k : Nat, k ≤ n ∧ iv = .int .i64 k ∧ Hid (Bytes wr w1.heap.size 5 (.slice (some ⟨w1.heap.size, 0, none⟩) 16 16) (partB (stT (zs.take k)) 16)) ∧ Hid (Below w1.heap.size w1 wr)) (fun iv _ => n - (intOf iv).toNat)
    case atStart => exact ⟨0, Nat.zero_le _, rfl, HO0, HG0⟩
    case round =>
      obtain ⟨k, hk, rfl, HO, HG⟩ := hrel
      clear HO0 HG0
      have hl : (stT (zs.take k)).length = k := by rw [stT_len, List.length_take, HL.out]; omega
      by_cases hlt : k < n
      · obtain ⟨g, off, rfl, hg, d⟩ := HS.out.cell k hlt
        have d0 : wr.cell? ⟨g, off + k, none⟩ = some (.int .i64 (zs.getD k 0)) := by rw [HG.out.cell hg]; exact d
        have HX := Lib.hid (HR.out k hlt)
        have HE := Lib.hid (stT_succ (zs := zs) (k := k) (by rw [HL.out]; exact hlt))
        have hby := st_byte HX.out
        obtain ⟨⟨u, c3⟩, z3, _⟩ := part_at HO.out (by omega)
        have N3 := part_next HO.out (UInt8.ofNat (zs.getD k 0).toNat) (by omega)
        rw [hl] at c3 z3 N3
        rw [← HE.out] at N3
        obtain ⟨x, hx⟩ : ∃ x, zs.getD k 0 = x := ⟨_, rfl⟩
        rw [hx] at d0 hby N3
        clear hx d
        generalize UInt8.ofNat x.toNat = z at hby N3
        have N4 := Lib.hid N3
        have HG2 : Hid (Below w1.heap.size w1 (wr.setCell ⟨w1.heap.size, k, none⟩ (.int .u8 (z.toNat : Int)))) := Lib.hid (HG.out.setCell (Nat.le_refl _) _)
        have hb1 : ¬ g = w1.heap.size := by omega
        clear N3 hl HX HE
        go_wp2
        go_roundw
        case rel => exact ⟨k + 1, by omega, by go_num, N4, HG2⟩
        case measure => (simp [intOf]; try omega)
      · obtain rfl : n = k := by omega
        rw [show zs.take n = zs by rw [← HL.out, List.take_length]] at HO hl
        have hpl := partB_length (stT zs) 16 (by omega)
        have HO' : Bytes wr w1.heap.size 5 (.slice (some ⟨w1.heap.size, 0, none⟩) (partB (stT zs) 16).length 16) (partB (stT zs) 16) := by rw [hpl]; exact HO.out
        have HD' : Bytes wr.drew w1.heap.size 5 (.slice (some ⟨w1.heap.size, 0, none⟩) (partB (stT zs) 16).length 16) (partB (stT zs) 16) := HO'
        have k0 := bytes_cut_text (P := Tryz.prog) 85 9 Tryz.underlying85 Tryz.underlying5 Tryz.underlying9 HD' 0 8 16 (by rw [hpl]; omega)
        have k8 := bytes_cut_text (P := Tryz.prog) 85 9 Tryz.underlying85 Tryz.underlying5 Tryz.underlying9 HD' 8 8 8 (by rw [hpl]; omega)
        change _ = Result.ok (Value.string (cutSt (partB (stT zs) 16) 0)) wr.drew at k0
        change _ = Result.ok (Value.string (cutSt (partB (stT zs) 16) 8)) wr.drew at k8
        obtain ⟨A, hA⟩ : ∃ A, cutSt (partB (stT zs) 16) 0 = A := ⟨_, rfl⟩
        obtain ⟨B, hB⟩ : ∃ B, cutSt (partB (stT zs) 16) 8 = B := ⟨_, rfl⟩
        rw [hA] at k0 HW
        rw [hB] at k8 HW
        have hsz := HG.out.size
        have HOW : Hid ((wr.drew.alloc (.cells #[.string A, .string B] 9)).ownsRow w1.heap.size 9 1 (.slice (some ⟨wr.heap.size, 0, none⟩) 2 2) 2 (scells [A, B])) :=
          Lib.hid (World.ownsRow_lit (e := 9) (size := 1) (base := w1.heap.size) wr.drew #[.string A, .string B] 2 hsz (by decide) rfl)
        have HGW : Hid (Below w1.heap.size w1 (wr.drew.alloc (.cells #[.string A, .string B] 9))) := Lib.hid (HG.out.drew.alloc hsz _)
        clear hpl HO' HD' hA hB hl
        go_wp2
        go_region
        all_goals
          go_wp2
          go_ret
          rw [HW.out]
          exact ⟨_, rfl, HOW.out, HGW.out⟩
  · have HB := Lib.hid (stB_no hok)
    have HW : Hid (stWords zs = []) := Lib.hid (stWords_no (by rw [HL.out]; exact hok))
    clear hok
    have HOW : Hid ((w.alloc (.cells #[] 9)).ownsRow w.heap.size 9 1 (.slice (some ⟨w.heap.size, 0, none⟩) 0 0) 0 (scells [])) :=
      Lib.hid (World.ownsRow_lit (e := 9) (size := 1) (base := w.heap.size) w #[] 0 (Nat.le_refl _) (by decide) rfl)
    have HGW : Hid (Below w.heap.size w (w.alloc (.cells #[] 9))) := Lib.hid ((Below.refl _ _).alloc (Nat.le_refl _) _)
    go_enter Tryz.func47, Tryz.ntmps47
    go_wp2_with fail
    refine (specStOk_any a n c zs n _ HS.out hn).mono ?_
    rw [HB.out]
    rintro e w1 ⟨rfl, rfl⟩
    go_wp2
    go_ret
    rw [HW.out]
    exact ⟨_, rfl, HOW.out, HGW.out⟩
end Go.Proofs.YtmkchilhnmkhkabGreat
namespace Go.Proofs.YtmkchilhnmkhkabGreat
namespace Plc

/-- The kind of the word k of a part. -/
def kindZ (I k : Int) : Int := if k = 0 then 1 else if k = 2 then 2 else if k < 4 then 0 else if k < 36 then 3 else if k < 38 then 4 else if k < 38 + 8 * I then 5 else 6
/-- The j-th place of a part, counted without the words that have no place of their own. -/
def pl (j : Nat) : Nat := if j = 0 then 0 else if j = 1 then 2 else if j < 34 then j + 2 else j + 4
def kd (I : Int) (j : Nat) : Int := if j = 0 then 1 else if j = 1 then 2 else if j < 34 then 3 else if (j : Int) < 34 + 8 * I then 5 else 6
theorem pl_mono {i j : Nat} (h : i < j) : pl i < pl j := by unfold pl; (repeat' split) <;> omega
theorem pl_le (j : Nat) : pl j ≤ j + 4 := by unfold pl; split <;> (try split) <;> (try split) <;> omega
theorem pl_journal {i : Nat} (h : i < 32) : pl (2 + i) = 4 + i := by unfold pl; rw [if_neg (by omega), if_neg (by omega), if_pos (by omega)]; omega
theorem pl_later (i : Nat) : pl (34 + i) = 38 + i := by unfold pl; rw [if_neg (by omega), if_neg (by omega), if_neg (by omega)]; omega
theorem kd_journal {I : Int} {i : Nat} (h : i < 32) : kd I (2 + i) = 3 := by unfold kd; rw [if_neg (by omega), if_neg (by omega), if_pos (by omega)]
theorem kd_inode {I : Int} {i : Nat} (h : (i : Int) < 8 * I) : kd I (34 + i) = 5 := by unfold kd; rw [if_neg (by omega), if_neg (by omega), if_neg (by omega), if_pos (by omega)]
theorem kd_page {I : Int} {i : Nat} (h : 8 * I ≤ (i : Int)) : kd I (34 + i) = 6 := by unfold kd; rw [if_neg (by omega), if_neg (by omega), if_neg (by omega), if_neg (by omega)]
theorem kindZ_pl (I : Int) (j : Nat) : kindZ I (pl j) = kd I j := by
  unfold kindZ kd pl
  by_cases h0 : j = 0
  · subst h0; simp
  by_cases h1 : j = 1
  · subst h1; simp
  rw [if_neg h0, if_neg h1, if_neg h0, if_neg h1]
  by_cases h2 : j < 34
  · rw [if_pos h2, if_pos h2, if_neg (by omega), if_neg (by omega), if_neg (by omega), if_pos (by omega)]
  · rw [if_neg h2, if_neg h2, if_neg (by omega), if_neg (by omega), if_neg (by omega), if_neg (by omega), if_neg (by omega)]
    by_cases h3 : (j : Int) < 34 + 8 * I
    · rw [if_pos h3, if_pos (by omega)]
    · rw [if_neg h3, if_neg (by omega)]

/-- The places of a tenant whose part begins at c, and their kinds. -/
def atL (c : Int) (k : Nat) : List Int := (List.range k).map fun j => c + pl j
def kdL (I : Int) (k : Nat) : List Int := (List.range k).map fun j => kd I j
theorem atL_length (c : Int) (k : Nat) : (atL c k).length = k := by simp [atL]
theorem kdL_length (I : Int) (k : Nat) : (kdL I k).length = k := by simp [kdL]
theorem atL_succ (c : Int) (k : Nat) : atL c (k + 1) = atL c k ++ [c + pl k] := by simp [atL, List.range_succ]
theorem kdL_succ (I : Int) (k : Nat) : kdL I (k + 1) = kdL I k ++ [kd I k] := by simp [kdL, List.range_succ]
theorem atL_at (c : Int) {j k : Nat} (h : j < k) : (atL c k).getD j 0 = c + pl j := by simp [atL, List.getD, h]
theorem kdL_at (I : Int) {j k : Nat} (h : j < k) : (kdL I k).getD j 0 = kd I j := by simp [kdL, List.getD, h]
theorem atL_two (c : Int) : atL c 2 = [c, c + 2] := by simp [atL, List.range_succ, pl]
theorem kdL_two (I : Int) : kdL I 2 = [1, 2] := by simp [kdL, List.range_succ, kd]

/-- A place's tenant and the word in its part. -/
theorem at_div {W t : Int} {k : Nat} (hW : (k : Int) < W) : (t * W + k) / W = t := by
  have h0 : (0 : Int) < W := by omega
  rw [Int.add_comm, Int.add_mul_ediv_right _ _ (by omega), Int.ediv_eq_zero_of_lt (by omega) hW]; omega
theorem at_mod {W t : Int} {k : Nat} (hW : (k : Int) < W) : (t * W + k) % W = k := by
  rw [Int.add_comm, Int.add_mul_emod_self_right, Int.emod_eq_of_lt (by omega) hW]
theorem three {t : Int} (h0 : 0 ≤ t) (h1 : t ≤ 2) : t = 0 ∨ t = 1 ∨ t = 2 := by omega
/-- A part's beginning: a multiple of its words, with bounds. -/
theorem mul_le {t T W : Int} (h1 : t < T) (hW : 0 ≤ W) : t * W + W ≤ T * W := by
  have h : (t + 1) * W ≤ T * W := Int.mul_le_mul_of_nonneg_right (by omega) hW
  rw [Int.add_mul, Int.one_mul] at h; exact h
theorem mul_nonneg' {t W : Int} (h0 : 0 ≤ t) (hW : 0 ≤ W) : 0 ≤ t * W := Int.mul_nonneg h0 hW
theorem mul_bd {T W : Int} (h0 : 0 ≤ T) (h1 : T ≤ 3) (hW : 0 ≤ W) (h2 : W ≤ 134) : 0 ≤ T * W ∧ T * W ≤ 402 := by
  refine ⟨Int.mul_nonneg h0 hW, ?_⟩
  have h : T * W ≤ 3 * W := Int.mul_le_mul_of_nonneg_right h1 hW
  omega
end Plc
end Go.Proofs.YtmkchilhnmkhkabGreat
