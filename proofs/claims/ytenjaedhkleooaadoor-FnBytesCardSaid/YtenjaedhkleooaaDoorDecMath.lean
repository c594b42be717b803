/- Plain facts about decimal numerals; a table that is still there in a later world. -/
import Derived.Test.YtenjaedhkleooaaDoorPartsMath
import Derived.Lib.ItoaNum
import Derived.Lib.LaidTab
import Derived.WalkSmall
import Derived.Sort.Grow
namespace Go.Proofs.YtenjaedhkleooaaDoor.Parts
open Go.RowKit

theorem digs_eq (k : Nat) (h : 0 < k) : digs k = Lib.decDigits k := by
  induction k using Nat.strongRecOn with
  | _ k ih =>
    rw [digs_step k h]
    by_cases h10 : k < 10
    · have e : k / 10 = 0 := by omega
      have e2 : k % 10 = k := by omega
      rw [e, digs_zero, Lib.decDigits, dif_pos h10, e2]; rfl
    · rw [Lib.decDigits, dif_neg h10, ih (k / 10) (by omega) (by omega)]

theorem digs_len2 (k : Nat) : (digs k).length ≤ k / 2 + 1 := by
  induction k using Nat.strongRecOn with
  | _ k ih =>
    by_cases h : k = 0
    · subst h; rw [digs_zero]; simp
    · rw [digs_step k (by omega)]
      by_cases h10 : k < 10
      · have e : k / 10 = 0 := by omega
        rw [e, digs_zero]; simp
      · have := ih (k / 10) (by omega)
        simp; omega
theorem digs_size2 {k j : Nat} {t : ByteArray} (h : digs j ++ t.data.toList = digs k) : t.size ≤ k / 2 + 1 := by
  have := digs_len2 k
  rw [← h, List.length_append] at this
  simp at this; omega

theorem itoa_zero : (⟨(Lib.itoa 0).toArray⟩ : ByteArray) = ⟨#[48]⟩ := by
  unfold Lib.itoa; rw [if_neg (by omega), Lib.decDigits, dif_pos (by decide)]; rfl
theorem itoa_pos {k : Nat} {t : ByteArray} (hk : 0 < k) (h : digs 0 ++ t.data.toList = digs k) : t = ⟨(Lib.itoa (k : Int)).toArray⟩ := by
  rw [digs_zero, List.nil_append, digs_eq k hk] at h
  unfold Lib.itoa
  rw [if_neg (by omega), Int.toNat_natCast, ← h]
theorem itoa_neg {k : Nat} {t : ByteArray} (hk : 0 < k) (h : digs 0 ++ t.data.toList = digs k) : (⟨#[45]⟩ : ByteArray) ++ t = ⟨(Lib.itoa (-(k : Int))).toArray⟩ := by
  rw [digs_zero, List.nil_append, digs_eq k hk] at h
  unfold Lib.itoa
  rw [if_pos (by omega), Int.natAbs_neg, Int.natAbs_natCast, ← h]
  apply ByteArray.ext
  apply Array.toList_inj.1
  rw [data_append]; rfl

theorem nib_digit (j : Nat) : (UInt8.ofNat (48 + j % 10)).toNat = 48 + j % 10 := by rw [UInt8.toNat_ofNat']; omega
theorem fig_digit (j : Nat) : Hexa.figI ((j : Int) % 10) = ((UInt8.ofNat (48 + j % 10)).toNat : Int) := by
  unfold Hexa.figI
  have e : ((j : Int) % 10).toNat = j % 10 := by omega
  rw [e, Hexa.nib_toNat _ (by omega), if_pos (by omega), nib_digit]

theorem neg_tmod (j : Nat) : (-(j : Int)).tmod 10 = -((j : Int) % 10) := by
  rw [Int.neg_tmod, Int.tmod_eq_emod_of_nonneg (by omega)]
theorem neg_tdiv (j : Nat) : (-(j : Int)).tdiv 10 = -((j : Int) / 10) := by
  rw [Int.neg_tdiv, Int.tdiv_eq_ediv_of_nonneg (by omega)]

/-- A table that the program laid reads the same behind whatever writes nothing that was there. -/
theorem tab_below {P : Program} {w w' : World} {name : String} {k : IntKind} {zs : List Int} {g : Nat} (h : Lib.TabIs P w name k zs) (hg : P.globalNamed name = some g) (hb : Below w.heap.size w w') : Lib.TabIs P w' name k zs := by
  unfold Lib.TabIs at h ⊢
  refine var?_below hb hg ?_ h
  rcases Nat.lt_or_ge g w.heap.size with hlt | hge
  · exact hlt
  · unfold World.var? at h
    simp [hg, Array.getElem?_eq_none hge] at h
theorem below_grow (w : World) (k : Nat) (os : Array Obj) : Below w.heap.size w (Sort.grow (w.drewN k) os) :=
  ⟨rfl, rfl, rfl, by show w.heap.size ≤ (w.heap ++ os).size; simp, fun i hi => by show (w.heap ++ os)[i]? = _; rw [Array.getElem?_append_left hi]⟩
end Go.Proofs.YtenjaedhkleooaaDoor.Parts
