/- A memory copied: the program's and the model's. -/
import Derived.Test.YtlemlgadjapamaaAppC
import Derived.Test.YtlemlgadjapamaaPtr
namespace Go.Proofs.Ytlemlgadjapamaa
open Go.RowKit Go.Proofs.Ytlemlgadjapamaa.Parts Go.Proofs.Ytlemlgadjapamaa.Hexa

theorem set_same {xs : List Value} {j : Nat} {v : Value} (h : xs[j]? = some v) : xs.set j v = xs := by
  apply List.ext_getElem?
  intro i
  by_cases e : i = j
  · subst e
    rw [List.getElem?_set_self (by rcases Nat.lt_or_ge i xs.length with h' | h'; exact h'; rw [List.getElem?_eq_none h'] at h; cases h), h]
  · rw [List.getElem?_set_ne (fun h => e h.symm)]
theorem cellsC_text {L : List C3} {k : Nat} (hk : k < L.length) : (cellsE encC L)[k * 3 + 1]? = some (.string (L.getD k default).t) := by
  have := cellsE_at encC L k 1 hk (by decide)
  exact this
theorem cellsC_flag {L : List C3} {k : Nat} (hk : k < L.length) : (cellsE encC L)[k * 3 + 2]? = some (.bool (L.getD k default).f) := by
  have := cellsE_at encC L k 2 hk (by decide)
  exact this
theorem own_block_geE {w : World} {B e k : Nat} {v : Value} {n : Nat} {xs : List Value} (h : w.ownsRow B e k v n xs) : ∀ g, v.ownBlock = some g → B ≤ g := fun g hg => (h.lt g hg).1
def FitT (L : List C3) (b : Nat) : Prop := ∀ j, j < L.length → (L.getD j default).t.size ≤ b

set_option maxRecDepth 100000 in
set_option maxHeartbeats 1000000 in
theorem memoryCopy_any (K : ByteArray) (a : Option Addr) (n c : Nat) (L : List C3) (w : World) (hs : SrcC w a n L) (hn : n ≤ 1048600) (hK : K.size ≤ 1048600) (hF : FitT L 1048600) :
    Calls Try.prog 48 #[.agg #[.string K, .slice a n c]] w (GivesM K L w) := by
  have HS := Lib.hid hs
  have HL := Lib.hid hs.len
  have HF := Lib.hid hF
  have HK := Lib.hid hK
  have hb0 : Below w.heap.size w ((w.alloc (.cells #[.string K, .slice a n c] 26)).alloc (.cells #[.string ⟨#[]⟩, .slice none 0 0] 26)) := ((Below.refl _ _).alloc (Nat.le_refl _) _).alloc (by simp) _
  have k0 : Two ((w.alloc (.cells #[.string K, .slice a n c] 26)).alloc (.cells #[.string ⟨#[]⟩, .slice none 0 0] 26)) w.heap.size (.string K) (.slice a n c) 26 := (Two.alloc w _ _ _).later (below_alloc _ _)
  have k1 : Two ((w.alloc (.cells #[.string K, .slice a n c] 26)).alloc (.cells #[.string ⟨#[]⟩, .slice none 0 0] 26)) (w.heap.size + 1) (.string ⟨#[]⟩) (.slice none 0 0) 26 := by
    have h := Two.alloc (w.alloc (.cells #[.string K, .slice a n c] 26)) (.string ⟨#[]⟩) (.slice none 0 0) 26
    simpa using h
  have k3 : ((w.alloc (.cells #[.string K, .slice a n c] 26)).alloc (.cells #[.string ⟨#[]⟩, .slice none 0 0] 26)).heap.size = w.heap.size + 2 := by simp
  have K0 := Lib.hid k0
  have K1 := Lib.hid k1
  have K3 := Lib.hid k3
  have B0 := Lib.hid hb0
  clear hs hF hb0 k0 k1 k3 hK
  go_enter Try.func48, Try.ntmps48
  go_wp2_with fail
  obtain ⟨W2, hW⟩ : ∃ x, x = (w.alloc (.cells #[.string K, .slice a n c] 26)).alloc (.cells #[.string ⟨#[]⟩, .slice none 0 0] 26) := ⟨_, rfl⟩
  rw [← hW] at K0 K1 K3 B0 ⊢
  clear hW
  refine (cloneC_any a n c L W2 (HS.out.later B0.out) hn).mono ?_
  rintro e w1 ⟨v, rfl, hown, hb1⟩
  have hown' := hown
  rw [HL.out, K3.out] at hown'
  obtain ⟨ad, cap, rfl, hnc, hcm, hpl⟩ := ownE_form hown'
  have T1 := Lib.hid (K0.out.later hb1)
  have R1 := Lib.hid (K1.out.later hb1)
  have B1 : Hid (Below w.heap.size w w1) := Lib.hid (B0.out.trans (hb1.mono B0.out.size))
  have O1 := Lib.hid hown'
  have S1 : Hid (w.heap.size + 2 ≤ w1.heap.size) := Lib.hid (by have := hb1.size; rw [K3.out] at this; exact this)
  unfold maxLen at hcm
  have HPL := Lib.hid hpl
  clear hown hown' hb1 hpl K0 K1
  go_wp2
  go_loopw [10] (fun iv wr => ∃ k : Nat, k ≤ n ∧ iv = .int .i64 k ∧ Hid (Below (w.heap.size + 2) w1 wr) ∧ Hid (wr.ownsRow (w.heap.size + 2) 68 3 (.slice ad n cap) n (cellsE encC L))) (fun iv _ => n - (intOf iv).toNat)
  case atStart => exact ⟨0, Nat.zero_le _, rfl, Lib.hid (Below.refl _ _), O1⟩
  case round =>
    obtain ⟨k, hk, rfl, HB, HO⟩ := hrel
    by_cases hlt : k < n
    · obtain ⟨g, off, rfl, hg, d1, d2, d3⟩ := (srcC_of_own HO.out).cells3 k hlt
      obtain ⟨g0, e0, hg0, hg1⟩ := HPL.out _ rfl
      cases e0
      have hts := HF.out k (by have := HL.out; omega)
      have hct := Lib.hid (cellsC_text (L := L) (k := k) (by have := HL.out; omega))
      obtain ⟨x, hx⟩ : ∃ x, L.getD k default = x := ⟨_, rfl⟩
      rw [hx] at d1 d2 d3 hts hct
      clear hx
      simp only [Nat.zero_add] at d1 d2 d3
      go_wp2_with fail
      refine (textClone_c _ _ hts).mono ?_
      rintro e w2 ⟨rfl, hb2⟩
      have O2 := Lib.hid (own_below HO.out hb2)
      obtain ⟨v2, e2⟩ := ownE_cell O2.out (j := k * 3 + 1) (by omega)
      have f2 := O2.out.frozenAt (k * 3 + 1)
      have O3 : Hid ((w2.setCell ⟨g, k * 3 + 1, none⟩ (.string x.t)).ownsRow (w.heap.size + 2) 68 3 (.slice (some ⟨g, 0, none⟩) n cap) n (cellsE encC L)) := Lib.hid (by
        have h := (O2.out.stored (k * 3 + 1) (.string x.t)).1
        rw [set_same hct.out] at h; exact h)
      have hb3 : Hid (Below (w.heap.size + 2) w1 (w2.setCell ⟨g, k * 3 + 1, none⟩ (.string x.t))) := Lib.hid ((HB.out.trans (hb2.mono (by have := HB.out.size; have := S1.out; omega))).setCell hg0 _)
      clear d1 d2 d3 hb2
      go_wp2
      go_roundw
      case rel => exact ⟨k + 1, by omega, by go_num, hb3, O3⟩
      case measure => (simp [intOf]; try omega)
    · obtain rfl : k = n := by omega
      have Tr : Hid (Two wr w.heap.size (.string K) (.slice a k c) 26) := Lib.hid ((HB.out.block _ (by omega)).trans T1.out)
      have Rr : Hid (Two wr (w.heap.size + 1) (.string ⟨#[]⟩) (.slice none 0 0) 26) := Lib.hid ((HB.out.block _ (by omega)).trans R1.out)
      have Br : Hid (Below w.heap.size w wr) := Lib.hid (B1.out.trans (HB.out.mono (by omega)))
      have c0 := Tr.out.c0
      have Sr : Hid (w.heap.size + 2 ≤ wr.heap.size) := Lib.hid (Nat.le_trans S1.out HB.out.size)
      go_wp2_with fail
      refine (textClone_c _ _ HK.out).mono ?_
      rintro e w2 ⟨rfl, hb2⟩
      have R2 := Rr.out.later hb2
      have O2 := Lib.hid (own_below HO.out hb2)
      have r0 := R2.c0
      have r1 := R2.c1
      have f0 := R2.fr (o := 0)
      have f1 := R2.fr (o := 1)
      have q := two_set1 (two_set0 R2 (x := .string K)) (x := .slice ad k cap)
      have q0 := cell0_of_two q
      have q1 := cell1_of_two q
      have B2 := Lib.hid (Br.out.trans (hb2.mono Br.out.size))
      have HL2 := HL.out
      clear q R2 hb2 hlt
      go_wp2
      refine bodyPost_ret (v := .agg #[.string K, .slice ad k cap]) ?_ rfl ⟨_, rfl, ?_, (B2.out.setCell (by simp) _).setCell (by simp) _⟩
      · simp [results, Try.results48, go_sem, q0, q1]
      · rw [HL2]
        have hne : ∀ g, (Value.slice ad k cap).ownBlock = some g → w.heap.size + 2 ≤ g := fun g hg => own_block_geE O2.out g hg
        exact ownsRow_setCell_other (ownsRow_setCell_other (ownE_mono O2.out (by omega)) (fun h => by have := hne _ h; simp at this) _) (fun h => by have := hne _ h; simp at this) _
end Go.Proofs.Ytlemlgadjapamaa
