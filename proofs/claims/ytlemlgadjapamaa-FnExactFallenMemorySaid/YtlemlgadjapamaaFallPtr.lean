/- The program's fall, behind a pointer. -/
import Derived.Test.YtlemlgadjapamaaFencePtr
import Derived.Test.YtlemlgadjapamaaPickMath
namespace Go.Proofs.Ytlemlgadjapamaa
open Go.RowKit Go.Proofs.Ytlemlgadjapamaa.Parts Go.Proofs.Ytlemlgadjapamaa.Hexa

theorem fallL_append (p : Int) : ∀ (A B : List C3) (i : Nat), fallL p i (A ++ B) = fallL p i A ++ fallL p (i + A.length) B
  | [], B, i => rfl
  | c :: A, B, i => by
    rw [List.cons_append, fallL, fallL, fallL_append p A B (i + 1), List.cons_append, List.length_cons, show i + 1 + A.length = i + (A.length + 1) by omega]
/-- The first k flags are the picks. -/
def mixL (p : Int) (L : List C3) (k : Nat) : List C3 := fallL p 0 (L.take k) ++ L.drop k
theorem mixL_zero (p : Int) (L : List C3) : mixL p L 0 = L := by simp [mixL, fallL]
theorem mixL_all (p : Int) (L : List C3) : mixL p L L.length = fallL p 0 L := by simp [mixL]
theorem mixL_length (p : Int) (L : List C3) (k : Nat) : (mixL p L k).length = L.length := by
  unfold mixL; rw [List.length_append, fallL_length, List.length_take, List.length_drop]; omega
theorem mixL_at {p : Int} {L : List C3} {k : Nat} (h : k < L.length) : (mixL p L k).getD k default = L.getD k default := by
  unfold mixL
  have hl : (fallL p 0 (L.take k)).length = k := by rw [fallL_length, List.length_take]; omega
  simp only [List.getD]
  rw [List.getElem?_append_right (by omega), hl, Nat.sub_self, List.getElem?_drop, Nat.add_zero]
theorem mixL_succ {p : Int} {L : List C3} {k : Nat} (h : k < L.length) : (mixL p L k).set k ⟨(L.getD k default).l, (L.getD k default).t, pickB p k⟩ = mixL p L (k + 1) := by
  unfold mixL
  have hl : (fallL p 0 (L.take k)).length = k := by rw [fallL_length, List.length_take]; omega
  have hlt : (L.take k).length = k := by rw [List.length_take]; omega
  rw [List.set_append_right _ _ (by omega), hl, Nat.sub_self, drop_cons h, List.set_cons_zero, take_succ h, fallL_append, hlt, Nat.zero_add, List.append_assoc]
  rfl
theorem BoxM.drew {w : World} {M b : Nat} {K : ByteArray} {a : Option Addr} {n c : Nat} {L : List C3} (h : BoxM w M b K a n c L) : BoxM w.drew M b K a n c L := ⟨h.two, h.own, h.low, h.ne⟩
theorem fall_lies {K : ByteArray} {L : List C3} (p : Int) (h : Lies K L) : Lies K (fallL p 0 L) := fun j hj => by
  rw [fallL_length] at hj
  rw [fallL_at p L 0 j hj]
  exact h j hj

set_option maxRecDepth 100000 in
set_option maxHeartbeats 2000000 in
theorem fall_any (M b : Nat) (K : ByteArray) (a : Option Addr) (n c : Nat) (L : List C3) (p : Int) (w : World) (hB : BoxM w M b K a n c L) (hn : n ≤ 1048600) (hK : K.size ≤ 16000) (hli : Lies K L) (hp : 0 ≤ p) (hp2 : p ≤ 9223372036854775807) :
    Calls Try.prog 61 #[.pointer (some ⟨b, 0, none⟩), .int .i64 p] w fun e w' => e = .returned (.tuple #[]) ∧ BoxM w' M b (fallK K L p) none 0 0 [] ∧ Below M w w' := by
  have HB := Lib.hid hB
  have HL := Lib.hid hB.len
  have HLI := Lib.hid hli
  have q1 := hB.two.c1
  clear hB hli
  go_enter Try.func61, Try.ntmps61
  go_wp2
  clear q1
  go_loopw [10] (fun iv wr => ∃ k : Nat, k ≤ n ∧ iv = .int .i64 k ∧ Hid (BoxM wr M b K a n c (mixL p L k)) ∧ Hid (Below M w wr)) (fun iv _ => n - (intOf iv).toNat)
  case atStart => exact ⟨0, Nat.zero_le _, rfl, Lib.hid (by rw [mixL_zero]; exact HB.out), Lib.hid (Below.refl _ _)⟩
  case round =>
    obtain ⟨k, hk, rfl, HX, HW⟩ := hrel
    by_cases hlt : k < n
    · have hkl : Hid (k < L.length) := Lib.hid (by rw [HL.out]; exact hlt)
      obtain ⟨g, off, rfl, hg, d1, d2, d3⟩ := HX.out.src.cells3 k hlt
      obtain ⟨ad9, cap9, hv, _, _, hpl⟩ := ownE_form HX.out.own
      cases hv
      obtain ⟨g0, e0, hg0, hg1⟩ := hpl _ rfl
      cases e0
      have q1 := HX.out.two.c1
      have f3 := HX.out.own.frozenAt (k * 3 + 2)
      obtain ⟨pk, hpk⟩ : ∃ pk, pickB p k = pk := ⟨_, rfl⟩
      have X2 : Hid (BoxM (wr.setCell ⟨g, k * 3 + 2, none⟩ (.bool pk)) M b K (some ⟨g, 0, none⟩) n c (mixL p L (k + 1))) := Lib.hid (HX.out.stored (k * 3 + 2) (.bool pk) (by
        rw [set_flag pk (by rw [mixL_length]; exact hkl.out), mixL_at hkl.out, ← hpk, mixL_succ hkl.out]))
      have W2 : Hid (Below M w (wr.setCell ⟨g, k * 3 + 2, none⟩ (.bool pk))) := Lib.hid (HW.out.setCell hg0 _)
      have HPK := Lib.hid hpk
      simp only [Nat.zero_add] at d1 d2 d3
      clear hpl hpk
      go_wp2
      have hbit : (bits BinOp.and IntKind.i64 (p / 2 ^ min k 64) 1 == 1) = pk := by rw [pick_bit k hp hp2]; exact HPK.out
      go_still_tail 12, (by kernel_rfl)
      change wpList _ _ _ _ _ wr.drew
      have d3' : ∃ v3, wr.drew.cell? ⟨g, k * 3 + 2, none⟩ = some v3 := ⟨_, d3⟩
      have f3' : wr.drew.frozen? ⟨g, k * 3 + 2, none⟩ = false := f3
      go_wp2
      trace_state
      go_roundw
      case rel => exact ⟨k + 1, by omega, by go_num, Lib.hid (BoxM.drew X2.out), Lib.hid W2.out.drew⟩
      case measure => (simp [intOf]; try omega)
    · obtain rfl : k = n := by omega
      have hall : mixL p L k = fallL p 0 L := by rw [← mixL_all, HL.out]
      have X1 : Hid (BoxM wr M b K a k c (fallL p 0 L)) := Lib.hid (by rw [← hall]; exact HX.out)
      clear hall
      go_wp2_with fail
      refine (fence_any M b K a k c (fallL p 0 L) wr X1.out hn hK (fall_lies p HLI.out)).mono ?_
      rintro e w2 ⟨rfl, a2, n2, c2, hx2, hb2⟩
      have e0 := hx2.two.c0
      have e1 := hx2.two.c1
      have f1 := hx2.two.fr (o := 1)
      have X2 : Hid (BoxM (w2.setCell ⟨b, 1, none⟩ (.slice none 0 0)) M b (fallK K L p) none 0 0 []) := Lib.hid ⟨two_set1 hx2.two, nilC _ _, hx2.low, fun p hp => by cases hp⟩
      have W2 : Hid (Below M w (w2.setCell ⟨b, 1, none⟩ (.slice none 0 0))) := Lib.hid ((HW.out.trans hb2).setCell hx2.low _)
      clear hx2 hb2
      go_wp2
      exact end_void rfl rfl ⟨rfl, X2.out, W2.out⟩
end Go.Proofs.Ytlemlgadjapamaa
