/- Ints appended to ints that the call owns. -/
import Derived.Test.YtppdjhchangikaaAppE
import Derived.Test.YtppdjhchangikaaIntsAt
import Derived.Maps.AppendAt
namespace Go.Proofs.Ytppdjhchangikaa
open Go.RowKit Go.Proofs.Ytppdjhchangikaa.Parts Go.Proofs.Ytppdjhchangikaa.Hexa

def encI : Enc Int := ⟨1, fun x => [.int .i64 x], fun _ => rfl⟩
theorem cellsI_eq : ∀ L : List Int, cellsE encI L = icells L
  | [] => rfl
  | x :: r => by rw [cellsE, cellsI_eq r]; rfl
theorem srcE_of_srcI {w : World} {a : Option Addr} {n : Nat} {zs : List Int} (h : SrcI w a n zs) : SrcE encI w a n zs := by
  refine ⟨h.len, fun j hj => ?_⟩
  obtain ⟨g, off, e, hg, hc⟩ := h.cell j hj
  refine ⟨g, off, e, hg, fun r v hr => ?_⟩
  cases r with
  | zero =>
    cases hr
    rw [show off + j * encI.k + 0 = off + j from by show off + j * 1 + 0 = off + j; omega]
    exact hc
  | succ r => cases hr
theorem srcI_of_srcE {w : World} {a : Option Addr} {n : Nat} {zs : List Int} (h : SrcE encI w a n zs) : SrcI w a n zs := by
  refine ⟨h.len, fun j hj => ?_⟩
  obtain ⟨g, off, e, hg, hc⟩ := h.cell j hj
  have h9 := hc 0 _ rfl
  rw [show off + j * encI.k + 0 = off + j from by show off + j * 1 + 0 = off + j; omega] at h9
  exact ⟨g, off, e, hg, h9⟩
theorem srcI_of_own {w : World} {B e n cap : Nat} {a : Option Addr} {zs : List Int} (h : w.ownsRow B e 1 (.slice a n cap) n (icells zs)) : SrcI w a n zs :=
  srcI_of_srcE (srcE_of_own (E := encI) (by rw [cellsI_eq]; exact h) (by decide))
theorem srcI_take {w : World} {a : Option Addr} {n q : Nat} {zs : List Int} (h : SrcI w a n zs) (hq : q ≤ n) : SrcI w a q (zs.take q) :=
  ⟨by rw [List.length_take, h.len]; omega, fun j hj => by
    obtain ⟨g, off, e, hg, hc⟩ := h.cell j (by omega)
    refine ⟨g, off, e, hg, ?_⟩
    rw [hc]
    simp only [List.getD, List.getElem?_take]
    rw [if_pos hj]⟩
theorem emptyI (w : World) (B : Nat) (hB : B ≤ w.heap.size) : (w.alloc (.cells #[] 3)).ownsRow B 3 1 (.slice (some ⟨w.heap.size, 0, none⟩) 0 0) 0 (icells []) := World.ownsRow_lit w #[] 0 hB (by decide) rfl
theorem appIs (w : World) (ty : TypeId) (B : Nat) (v : Value) (n : Nat) (L : List Int) (hown : w.ownsRow B 3 1 v n (icells L)) (hB : B ≤ w.heap.size) (a : Option Addr) (m c : Nat) (M : List Int) (hs : SrcI w a m M) (hnm : n + m ≤ 100000000) :
    AppE Try.prog #[24, 24] ty #[v, .slice a m c] w B 3 1 (n + m) (icells (L ++ M)) v := by
  obtain ⟨i0, hi, hz0, hz1, hz2⟩ := info_parts infoInt
  rw [show icells (L ++ M) = icells L ++ icells M by simp [icells]]
  cases a with
  | none =>
    have hm0 : m = 0 := by
      rcases Nat.eq_zero_or_pos m with h | h
      · exact h
      · obtain ⟨g, off, e, _⟩ := hs.cell 0 h; cases e
    subst hm0
    have hM : M = [] := List.length_eq_zero_iff.1 hs.len
    subst hM
    exact ⟨v, w, run_append_nothing w B _ ty _ i0 1 Try.underlying24 hi v n c _ hown, by simpa [icells] using hown, ⟨rfl, rfl, rfl, Nat.le_refl _, fun _ _ _ => rfl⟩, .inl rfl⟩
  | some p =>
    obtain ⟨v', w', hr, h2, h3, _, h5⟩ := run_append_own_at (P := Try.prog) w B 24 ty 3 i0 _ 1 8 Try.underlying24 hi hz0 hz1 hz2 rfl (by decide) v n _ hown p m c (icells M) (by rw [icells_length, hs.len]; omega) (by rw [← cellsI_eq]; exact (srcE_of_srcI hs).news (by decide)) (by simp [icells, Value.oneCell']) (by unfold maxLen; omega) (by omega) hB
    exact ⟨v', w', hr, h2, h3, h5⟩
end Go.Proofs.Ytppdjhchangikaa
