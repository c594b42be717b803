/- A memory copied: the model's. -/
import Derived.Test.YtlemlgadjapamaaAppC
namespace Go.Proofs.Ytlemlgadjapamaa
open Go.RowKit Go.Proofs.Ytlemlgadjapamaa.Parts Go.Proofs.Ytlemlgadjapamaa.Hexa

set_option maxRecDepth 100000 in
set_option maxHeartbeats 1000000 in
theorem specCopy_any (K : ByteArray) (a : Option Addr) (n c : Nat) (L : List C3) (w : World) (hs : SrcC w a n L) (hn : n ≤ 1048600) :
    Calls Try.prog 53 #[.agg #[.string K, .slice a n c]] w (GivesM K L w) := by
  have HL := Lib.hid hs.len
  have hb0 : Below w.heap.size w ((w.alloc (.cells #[.string K, .slice a n c] 26)).alloc (.cells #[.string ⟨#[]⟩, .slice none 0 0] 26)) := ((Below.refl _ _).alloc (Nat.le_refl _) _).alloc (by simp) _
  have k0 : Two ((w.alloc (.cells #[.string K, .slice a n c] 26)).alloc (.cells #[.string ⟨#[]⟩, .slice none 0 0] 26)) w.heap.size (.string K) (.slice a n c) 26 := (Two.alloc w _ _ _).later (below_alloc _ _)
  have k1 : Two ((w.alloc (.cells #[.string K, .slice a n c] 26)).alloc (.cells #[.string ⟨#[]⟩, .slice none 0 0] 26)) (w.heap.size + 1) (.string ⟨#[]⟩) (.slice none 0 0) 26 := by
    have h := Two.alloc (w.alloc (.cells #[.string K, .slice a n c] 26)) (.string ⟨#[]⟩) (.slice none 0 0) 26
    simpa using h
  have k3 : ((w.alloc (.cells #[.string K, .slice a n c] 26)).alloc (.cells #[.string ⟨#[]⟩, .slice none 0 0] 26)).heap.size = w.heap.size + 2 := by simp
  go_enter Try.func53, Try.ntmps53
  go_wp2_with fail
  obtain ⟨W2, hW⟩ : ∃ x, x = (w.alloc (.cells #[.string K, .slice a n c] 26)).alloc (.cells #[.string ⟨#[]⟩, .slice none 0 0] 26) := ⟨_, rfl⟩
  rw [← hW] at k0 k1 k3 hb0 ⊢
  clear hW
  have hb2 : Below w.heap.size w (W2.drew.alloc (.cells #[] 68)) := hb0.drew.alloc hb0.size _
  have HA := Lib.hid (appC (W2.drew.alloc (.cells #[] 68)) 24 (w.heap.size + 2) _ 0 [] (emptyC W2.drew (w.heap.size + 2) (by rw [← k3]; exact Nat.le_refl _)) (by rw [← k3]; simp) a n c L (hs.later hb2) (by omega))
  rw [Nat.zero_add, List.nil_append] at HA
  have hbd : Below W2.heap.size W2 (W2.drew.alloc (.cells #[] 68)) := (Below.refl _ _).drew.alloc (Nat.le_refl _) _
  have K0 := Lib.hid (k0.later hbd)
  have K1 := Lib.hid (k1.later hbd)
  have c0 := k0.drew.c0
  have c1 := k0.drew.c1
  have z0 : (W2.alloc (.cells #[] 68)).cell? ⟨w.heap.size, 0, none⟩ = some (.string K) := K0.out.c0
  have z1 : (W2.alloc (.cells #[] 68)).cell? ⟨w.heap.size, 1, none⟩ = some (.slice a n c) := K0.out.c1
  have B2 := Lib.hid hb2
  have SZ : Hid ((W2.drew.alloc (.cells #[] 68)).heap.size = w.heap.size + 3) := Lib.hid (by
    have : (W2.drew.alloc (.cells #[] 68)).heap.size = W2.heap.size + 1 := by simp
    omega)
  have K3 := Lib.hid k3
  clear hs hb0 k0 k1 k3 hb2 hbd
  go_region_law (first
    | (refine step_appE rfl (.tmp 5) (.tmp 7) 24 24 rfl (.slice (some ⟨W2.heap.size, 0, none⟩) 0 0) (.slice a n c) (by simp [Act.eval]) (by simp [Act.eval]) HA.out ?_
       intro v1 w1 hown1 hgrow1 hat1
       have R1 : Two w1 (w.heap.size + 1) (.string ⟨#[]⟩) (.slice none 0 0) 26 := (hgrow1.block _ (by first | (have h : (W2.alloc (.cells #[] 68)).drew.heap.size = w.heap.size + 3 := SZ.out; omega) | (have h := SZ.out; omega)) (by have := K3.out; simp [Value.ownBlock]; omega)).trans K1.out
       have Y1 : Two w1 w.heap.size (.string K) (.slice a n c) 26 := (hgrow1.block _ (by first | (have h : (W2.alloc (.cells #[] 68)).drew.heap.size = w.heap.size + 3 := SZ.out; omega) | (have h := SZ.out; omega)) (by have := K3.out; simp [Value.ownBlock]; omega)).trans K0.out
       have y0 := Y1.c0
       have y1 := Y1.c1
       have r0 := R1.c0
       have r1 := R1.c1
       have f0 := R1.fr (o := 0)
       have f1 := R1.fr (o := 1)
       have B1 := Lib.hid (B2.out.grown hgrow1 (by first | (have h : (W2.alloc (.cells #[] 68)).drew.heap.size = w.heap.size + 3 := SZ.out; omega) | (have h := SZ.out; omega)) (fun k hk => by cases hk; have := K3.out; show w.heap.size ≤ W2.heap.size; omega))
       obtain ⟨ad1, cap1, rfl, _, _, _⟩ := ownE_form hown1
       have O1 := Lib.hid hown1
       have RR1 := Lib.hid R1
       clear hown1 hgrow1 hat1 R1 Y1))
  all_goals
    have q := two_set1 (two_set0 RR1.out (x := .string K)) (x := .slice ad1 n cap1)
    have q0 := cell0_of_two q
    have q1 := cell1_of_two q
    clear q
    go_wp2
    refine bodyPost_ret (v := .agg #[.string K, .slice ad1 n cap1]) ?_ rfl ⟨_, rfl, ?_, (B1.out.setCell (by simp) _).setCell (by simp) _⟩
    · simp [results, Try.results53, go_sem, q0, q1]
    · rw [HL.out]
      have hne : ∀ g, (Value.slice ad1 n cap1).ownBlock = some g → w.heap.size + 2 ≤ g := fun g hg => (O1.out.lt g hg).1
      exact ownsRow_setCell_other (ownsRow_setCell_other (ownE_mono O1.out (by omega)) (fun h => by have := hne _ h; simp at this) _) (fun h => by have := hne _ h; simp at this) _
end Go.Proofs.Ytlemlgadjapamaa
