/- A byte appended to, written into, read from a slice of the call's own; a text of one byte many times. -/
import Derived.Test.YtmcelfiljnlmoaaBytes
import Derived.Test.YtmcelfiljnlmoaaBitsMath
import Derived.WalkKit
import Derived.WalkSpells
import Derived.WalkLawsBesides
import Derived.Deep.RegionLaw
import Derived.Deep.AppendLies
import Derived.Lib.Hide
namespace Go.Proofs.Ytmcelfiljnlmoaa
open Go.RowKit Go.Proofs.Ytmcelfiljnlmoaa.Hexa Go.Proofs.Ytmcelfiljnlmoaa.Byt Go.Proofs.Ytmcelfiljnlmoaa.BitsM

theorem infoByte : (Try.prog.info? 5).map (fun i => (i.zero, i.size, i.bytes)) = some (some (.int .u8 0), 1, 1) := by kernel_rfl
/-- One byte appended, in the block of the walk's own one-cell slice. -/
theorem outB (w : World) {B : Nat} {v : Value} {l : List UInt8} (h : Bytes w B 5 v l) (hB : B ≤ w.heap.size) (ty : TypeId) (c : UInt8) (x : Int) (hx : x = c.toNat) (hl : l.length ≤ 100000000) :
    Out Try.prog #[48, 48] ty #[v, .slice (some ⟨w.heap.size, 0, none⟩) 1 1] (w.alloc (.cells #[.int .u8 x] 5)) B 5 (l ++ [c]) := by
  obtain ⟨i0, hi, hz0, hz1, hz2⟩ := info_parts infoByte
  subst hx
  refine append_cells Try.underlying48 hi hz0 hz1 hz2 _ (bytes_alloc h _) (by simp; omega) ty ⟨w.heap.size, 0, none⟩ 1 [c] ?_ (by simp; omega)
  exact World.news_of_block (heap_alloc_new _ _)

/-- One byte n times. -/
def longB (n : Nat) (x : UInt8) : ByteArray := ⟨(List.replicate n x).toArray⟩
theorem longB_size (n : Nat) (x : UInt8) : (longB n x).size = n := by show (List.replicate n x).toArray.size = n; simp

theorem bytes_set {w : World} {B e g c : Nat} {l : List UInt8} (h : Bytes w B e (.slice (some ⟨g, 0, none⟩) l.length c) l) (k : Nat) (x : UInt8) :
    Bytes (w.setCell ⟨g, k, none⟩ (.int .u8 x.toNat)) B e (.slice (some ⟨g, 0, none⟩) l.length c) (l.set k x) := by
  rcases h with ⟨h, _⟩ | ⟨g', cap, cur, fz, hv, hb, hg, hfz, hlc, hm, hcs, htk⟩
  · cases h
  · simp at hv
    obtain ⟨rfl, rfl⟩ := hv
    rw [setCell_eq_setRow w g k cur e fz _ hg]
    refine .inr ⟨g, c, _, fz, by simp, hb, setRow_heap w g cur _ e fz hg, by simpa using hfz, by simpa using hlc, hm, by simpa using hcs, ?_⟩
    rw [Array.toList_setIfInBounds, List.length_set, List.take_set, htk]
    simp [bcells, List.map_set]
theorem bytes_at {w : World} {B e g c : Nat} {l : List UInt8} (h : Bytes w B e (.slice (some ⟨g, 0, none⟩) l.length c) l) (k : Nat) (hk : k < l.length) :
    w.cell? ⟨g, k, none⟩ = some (.int .u8 (l[k]).toNat) ∧ w.frozen? ⟨g, k, none⟩ = false ∧ B ≤ g := by
  rcases h with ⟨h, _⟩ | ⟨g', cap, cur, fz, hv, hb, hg, hfz, hlc, hm, hcs, htk⟩
  · cases h
  · simp at hv
    obtain ⟨rfl, rfl⟩ := hv
    refine ⟨?_, ?_, hb⟩
    · have := bytes_cells (_cap := c) hg htk k (.int .u8 (l[k]).toNat) (by simp [bcells, hk])
      have hadd : (⟨g, 0, none⟩ : Addr).add k = ⟨g, k, none⟩ := by unfold Addr.add; split <;> simp_all
      rwa [hadd] at this
    · obtain ⟨lo, hi'⟩ := fz
      simp only [World.frozen?, hg, Bool.and_eq_false_iff, decide_eq_false_iff_not]
      rcases hfz with h | h
      · right; cases h; omega
      · left; simp only at h; omega

end Go.Proofs.Ytmcelfiljnlmoaa
