/- StoreWord: the model's and the program's. -/
import Derived.Test.YtlemlgadjapamaaFence
import Derived.Test.YtlemlgadjapamaaStorePtr
import Derived.Test.YtlemlgadjapamaaWordAtSpec
namespace Go.Proofs.Ytlemlgadjapamaa
open Go.RowKit Go.Proofs.Ytlemlgadjapamaa.Parts Go.Proofs.Ytlemlgadjapamaa.Hexa

noncomputable def storedL (K : ByteArray) (L : List C3) (i : Int) (x : ByteArray) : List C3 := if memOkB K L = true ∧ x.size = 8 ∧ Has K i then storeL K L i.toNat x else L
theorem storedL_yes {K : ByteArray} {L : List C3} {m : Nat} {x : ByteArray} (h : MemOk K L) (hx : x.size = 8) (hm : m < K.size / 8) : storedL K L (m : Int) x = storeL K L m x := by
  unfold storedL Has
  rw [if_pos ⟨memOkB_yes h, hx, by omega⟩]; rfl
theorem storedL_bad {K : ByteArray} {L : List C3} {i : Int} {x : ByteArray} (h : ¬ MemOk K L) : storedL K L i x = L := if_neg (by rw [memOkB_no h]; simp)
theorem storedL_size {K : ByteArray} {L : List C3} {i : Int} {x : ByteArray} (h : ¬ x.size = 8) : storedL K L i x = L := if_neg (fun y => h y.2.1)
theorem storedL_no {K : ByteArray} {L : List C3} {i : Int} {x : ByteArray} (h : ¬ Has K i) : storedL K L i x = L := if_neg (fun y => h y.2.2)
theorem insL_len (l : Int) (x : C3) : ∀ L : List C3, (insL l x L).length ≤ L.length + 1
  | [] => by simp [insL]
  | c :: r => by
    rw [insL]
    split
    · have := insL_len l x r
      simp only [List.length_cons]; omega
    · have := List.length_filter_le (fun c : C3 => !decide (c.l = l)) (c :: r)
      simp only [List.length_cons] at this ⊢; omega
theorem storedL_len (K : ByteArray) (L : List C3) (i : Int) (x : ByteArray) : (storedL K L i x).length ≤ L.length + 1 := by
  unfold storedL storeL
  split
  · exact insL_len _ _ _
  · omega

set_option maxRecDepth 100000 in
set_option maxHeartbeats 2000000 in
theorem implStore_any (K : ByteArray) (a : Option Addr) (n c : Nat) (L : List C3) (i : Int) (x : ByteArray) (w : World) (hs : SrcC w a n L) (hn : n ≤ 1048600) (hK : K.size ≤ 1048600) (hF : FitT L 1048600) (hx9 : x.size ≤ 1048600) :
    Calls Try.prog 15 #[.agg #[.string K, .slice a n c], .int .i64 i, .string x] w (GivesM K (storedL K L i x) w) := by
  have HS := Lib.hid hs
  have HL := Lib.hid hs.len
  have HF := Lib.hid hF
  have hb0 : Below w.heap.size w ((w.alloc (.cells #[.string K, .slice a n c] 26)).alloc (.cells #[.string ⟨#[]⟩, .slice none 0 0] 26)) := ((Below.refl _ _).alloc (Nat.le_refl _) _).alloc (by simp) _
  have k0 : Two ((w.alloc (.cells #[.string K, .slice a n c] 26)).alloc (.cells #[.string ⟨#[]⟩, .slice none 0 0] 26)) w.heap.size (.string K) (.slice a n c) 26 := (Two.alloc w _ _ _).later (below_alloc _ _)
  have k1 : Two ((w.alloc (.cells #[.string K, .slice a n c] 26)).alloc (.cells #[.string ⟨#[]⟩, .slice none 0 0] 26)) (w.heap.size + 1) (.string ⟨#[]⟩) (.slice none 0 0) 26 := by
    have h := Two.alloc (w.alloc (.cells #[.string K, .slice a n c] 26)) (.string ⟨#[]⟩) (.slice none 0 0) 26
    simpa using h
  have k3 : ((w.alloc (.cells #[.string K, .slice a n c] 26)).alloc (.cells #[.string ⟨#[]⟩, .slice none 0 0] 26)).heap.size = w.heap.size + 2 := by simp
  have K0 := Lib.hid k0
  have K1 := Lib.hid k1
  have K3 := Lib.hid k3
  have B0 := Lib.hid hb0
  clear hs hF hb0 k0 k1 k3
  go_enter Try.func15, Try.ntmps15
  go_wp2_with fail
  obtain ⟨W2, hW⟩ : ∃ x, x = (w.alloc (.cells #[.string K, .slice a n c] 26)).alloc (.cells #[.string ⟨#[]⟩, .slice none 0 0] 26) := ⟨_, rfl⟩
  rw [← hW] at K0 K1 K3 B0 ⊢
  clear hW
  refine (memoryCopy_any K a n c L W2 (HS.out.later B0.out) hn hK HF.out).mono ?_
  rintro e w1 ⟨v, rfl, hown, hb1⟩
  rw [HL.out, K3.out] at hown
  obtain ⟨ad, cap, rfl, hnc, hcm, hpl⟩ := ownE_form hown
  have T3 := Lib.hid ((K0.out.later hb1).later (below_alloc w1 (.cells #[.string K, .slice ad n cap] 26)))
  have R3 := Lib.hid ((K1.out.later hb1).later (below_alloc w1 (.cells #[.string K, .slice ad n cap] 26)))
  have X3 : Hid (BoxM (w1.alloc (.cells #[.string K, .slice ad n cap] 26)) (w.heap.size + 2) w1.heap.size K ad n cap L) := Lib.hid ⟨Two.alloc w1 _ _ _, own_below hown (below_alloc w1 _), by have := hb1.size; rw [K3.out] at this; exact this, fun p hp => by
    obtain ⟨g, e, _, hg⟩ := hpl p hp
    rw [e]; exact Nat.ne_of_lt hg⟩
  have B3 : Hid (Below w.heap.size w (w1.alloc (.cells #[.string K, .slice ad n cap] 26))) := Lib.hid (B0.out.trans ((hb1.trans ((below_alloc w1 _).mono hb1.size)).mono B0.out.size))
  have c0 := T3.out.c0
  have c1 := T3.out.c1
  unfold maxLen at hcm
  clear hown hb1 hpl K0 K1
  go_wp2_with fail
  clear c0 c1
  obtain ⟨b, hb⟩ : ∃ b, w1.heap.size = b := ⟨_, rfl⟩
  obtain ⟨w3, h3⟩ : ∃ x, x = w1.alloc (.cells #[.string K, .slice ad n cap] 26) := ⟨_, rfl⟩
  rw [hb] at X3 ⊢
  rw [← h3] at X3 T3 R3 B3 ⊢
  clear hb h3
  refine (implOk_any K a n c L w3 (HS.out.later B3.out) hn hK).mono ?_
  rintro e w4 ⟨rfl, hb4⟩
  have R4 := Lib.hid (R3.out.later hb4)
  have T4 := Lib.hid (T3.out.later hb4)
  have X4 := Lib.hid (X3.out.later hb4)
  have B4 : Hid (Below w.heap.size w w4) := Lib.hid (B3.out.trans (hb4.mono B3.out.size))
  clear hb4
  by_cases hok : MemOk K L
  · rw [memOkB_yes hok]
    go_wp2_with fail
    refine (hasWord_any _ K _ _ _ T4.out hK).mono ?_
    by_cases hh : Has K i
    · rw [decide_eq_true hh]
      rintro e w4' ⟨rfl, hw4'⟩
      subst w4'
      by_cases hs8 : x.size = 8
      · obtain ⟨m, rfl⟩ : ∃ m : Nat, i = m := ⟨i.toNat, by have := hh.1; omega⟩
        have hm : m < K.size / 8 := by have := hh.2; omega
        have HOK := Lib.hid hok
        have HE := Lib.hid (storedL_yes hok hs8 hm)
        have hi8 : (x.size : Int) = 8 := by omega
        have HM := Lib.hid hm
        have HS8 := Lib.hid hs8
        clear hok hh hm hs8
        go_wp2_with fail
        refine (store_any (w.heap.size + 2) b K ad n cap L m x w4 X4.out hn HOK.out HM.out HS8.out).mono ?_
        rintro e w5 ⟨rfl, a2, n2, c2, hx5, hb5⟩
        have X5 := Lib.hid hx5
        have R5 : Hid (Two w5 (w.heap.size + 1) (.string ⟨#[]⟩) (.slice none 0 0) 26) := Lib.hid ((hb5.block _ (by omega)).trans R4.out)
        have B5 : Hid (Below w.heap.size w w5) := Lib.hid (B4.out.trans (hb5.mono (by omega)))
        clear hx5 hb5
        have c0 := X5.out.two.c0
        have c1 := X5.out.two.c1
        have r0 := R5.out.c0
        have r1 := R5.out.c1
        have f0 := R5.out.fr (o := 0)
        have f1 := R5.out.fr (o := 1)
        have q := two_set1 (two_set0 R5.out (x := .string K)) (x := .slice a2 n2 c2)
        have q0 := cell0_of_two q
        have q1 := cell1_of_two q
        have HG := Lib.hid (gives_box (w := w) (b2 := w.heap.size + 1) (u := .string K) (v := .slice a2 n2 c2) X5.out (by omega) B5.out (by omega) (fun p hp => by
          obtain ⟨ad9, cap9, hv9, _, _, hpl9⟩ := ownE_form X5.out.own
          cases hv9
          obtain ⟨g9, e9, h9, _⟩ := hpl9 p hp
          rw [e9]; show g9 ≠ w.heap.size + 1; omega))
        clear q
        go_wp2
        refine bodyPost_ret (v := .agg #[.string K, .slice a2 n2 c2]) ?_ rfl ⟨_, rfl, by rw [HE.out]; exact HG.out.1, HG.out.2⟩
        simp [results, Try.results15, go_sem, q0, q1]
      · have HE := Lib.hid (storedL_size (K := K) (L := L) (i := i) hs8)
        have hi8 : ((x.size : Int) == 8) = false := by have : ¬ ((x.size : Int) = 8) := by omega
                                                       simpa using this
        clear hok hh hs8
        have c0 := X4.out.two.c0
        have c1 := X4.out.two.c1
        have r0 := R4.out.c0
        have r1 := R4.out.c1
        have f0 := R4.out.fr (o := 0)
        have f1 := R4.out.fr (o := 1)
        have q := two_set1 (two_set0 R4.out (x := .string K)) (x := .slice ad n cap)
        have q0 := cell0_of_two q
        have q1 := cell1_of_two q
        have HG := Lib.hid (gives_box (w := w) (b2 := w.heap.size + 1) (u := .string K) (v := .slice ad n cap) X4.out (by omega) B4.out (by omega) (fun p hp => by
          obtain ⟨ad9, cap9, hv9, _, _, hpl9⟩ := ownE_form X4.out.own
          cases hv9
          obtain ⟨g9, e9, h9, _⟩ := hpl9 p hp
          rw [e9]; show g9 ≠ w.heap.size + 1; omega))
        clear q
        go_wp2
        refine bodyPost_ret (v := .agg #[.string K, .slice ad n cap]) ?_ rfl ⟨_, rfl, by rw [HE.out]; exact HG.out.1, HG.out.2⟩
        simp [results, Try.results15, go_sem, q0, q1]
    · rw [decide_eq_false hh]
      rintro e w4' ⟨rfl, hw4'⟩
      subst w4'
      have HE := Lib.hid (storedL_no (L := L) (x := x) hh)
      clear hok hh
      have c0 := X4.out.two.c0
      have c1 := X4.out.two.c1
      have r0 := R4.out.c0
      have r1 := R4.out.c1
      have f0 := R4.out.fr (o := 0)
      have f1 := R4.out.fr (o := 1)
      have q := two_set1 (two_set0 R4.out (x := .string K)) (x := .slice ad n cap)
      have q0 := cell0_of_two q
      have q1 := cell1_of_two q
      have HG := Lib.hid (gives_box (w := w) (b2 := w.heap.size + 1) (u := .string K) (v := .slice ad n cap) X4.out (by omega) B4.out (by omega) (fun p hp => by
        obtain ⟨ad9, cap9, hv9, _, _, hpl9⟩ := ownE_form X4.out.own
        cases hv9
        obtain ⟨g9, e9, h9, _⟩ := hpl9 p hp
        rw [e9]; show g9 ≠ w.heap.size + 1; omega))
      clear q
      go_wp2
      refine bodyPost_ret (v := .agg #[.string K, .slice ad n cap]) ?_ rfl ⟨_, rfl, by rw [HE.out]; exact HG.out.1, HG.out.2⟩
      simp [results, Try.results15, go_sem, q0, q1]
  · rw [memOkB_no hok]
    have HE := Lib.hid (storedL_bad (i := i) (x := x) hok)
    clear hok
    have c0 := X4.out.two.c0
    have c1 := X4.out.two.c1
    have r0 := R4.out.c0
    have r1 := R4.out.c1
    have f0 := R4.out.fr (o := 0)
    have f1 := R4.out.fr (o := 1)
    have q := two_set1 (two_set0 R4.out (x := .string K)) (x := .slice ad n cap)
    have q0 := cell0_of_two q
    have q1 := cell1_of_two q
    have HG := Lib.hid (gives_box (w := w) (b2 := w.heap.size + 1) (u := .string K) (v := .slice ad n cap) X4.out (by omega) B4.out (by omega) (fun p hp => by
      obtain ⟨ad9, cap9, hv9, _, _, hpl9⟩ := ownE_form X4.out.own
      cases hv9
      obtain ⟨g9, e9, h9, _⟩ := hpl9 p hp
      rw [e9]; show g9 ≠ w.heap.size + 1; omega))
    clear q
    go_wp2
    refine bodyPost_ret (v := .agg #[.string K, .slice ad n cap]) ?_ rfl ⟨_, rfl, by rw [HE.out]; exact HG.out.1, HG.out.2⟩
    simp [results, Try.results15, go_sem, q0, q1]
end Go.Proofs.Ytlemlgadjapamaa
