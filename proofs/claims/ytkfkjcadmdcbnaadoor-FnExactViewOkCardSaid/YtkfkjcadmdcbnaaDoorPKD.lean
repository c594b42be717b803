/- Merged texts: TViewC, TItemQ, TItemQS, TViewQ, Drews, TStrQS, TStrMS, TStrHS, KidsOfLaw, RowCells, RowTree, TStrR, TBoolE, TBoolR, TItemR, TItemRS, TViewR, TViewRT. -/
import Derived.Test.YtkfkjcadmdcbnaaDoorPKC
import Derived.Deep.Strs
import Derived.ProofKit
import Derived.Deep.Fields
import Derived.OpenShut
namespace Go.Proofs.YtkfkjcadmdcbnaaDoor
open Go.RowKit Go.Proofs.YtkfkjcadmdcbnaaDoor.Parts Go.Proofs.YtkfkjcadmdcbnaaDoor.Hexa

set_option maxRecDepth 100000 in
set_option maxHeartbeats 1000000 in
theorem toView_st (x : ViewR) (a0 : Option Addr) (c0 : Nat) (w : World) (h0 : (celRow cItem x.items).Rd w (.slice a0 x.items.length c0)) (hz : szL (cView.cels x) ≤ 1048576) :
    Calls Tryd.prog 8 #[.agg #[.slice a0 x.items.length c0]] w (ToPostS (cView.cels x) w) := by
  rw [cView_sz] at hz
  have HS0 := Lib.hid h0
  clear h0
  have B0 := Lib.hid (below_bk w (.cells #[.slice a0 x.items.length c0] 24))
  have W1 : Hid (Bk (w.alloc (.cells #[.slice a0 x.items.length c0] 24)) w.heap.size #[.slice a0 x.items.length c0] 24) := Lib.hid (Bk.alloc w _ _)
  go_enter Tryd.func8, Tryd.ntmps8
  go_wp2_with fail
  have hb1 := below_bk (w.alloc (.cells #[.slice a0 x.items.length c0] 24)) (.cells #[.slice none 0 0] 30)
  have hb2 := below_bk ((w.alloc (.cells #[.slice a0 x.items.length c0] 24)).alloc (.cells #[.slice none 0 0] 30)) (.cells #[.slice none 0 0] 30)
  have T0 := Lib.hid ((W1.out.later hb1).later hb2)
  have Z0 : Hid (Bk (((w.alloc (.cells #[.slice a0 x.items.length c0] 24)).alloc (.cells #[.slice none 0 0] 30)).alloc (.cells #[.slice none 0 0] 30)) (w.heap.size + 1) #[.slice none 0 0] 30) := Lib.hid (by
    have h := (Bk.alloc (w.alloc (.cells #[.slice a0 x.items.length c0] 24)) #[.slice none 0 0] 30).later hb2
    simpa using h)
  have O0 : Hid (Bk (((w.alloc (.cells #[.slice a0 x.items.length c0] 24)).alloc (.cells #[.slice none 0 0] 30)).alloc (.cells #[.slice none 0 0] 30)) (w.heap.size + 1 + 1) #[.slice none 0 0] 30) := Lib.hid (by
    have h := Bk.alloc ((w.alloc (.cells #[.slice a0 x.items.length c0] 24)).alloc (.cells #[.slice none 0 0] 30)) #[.slice none 0 0] 30
    simpa using h)
  have B3 : Hid (Below w.heap.size w (((w.alloc (.cells #[.slice a0 x.items.length c0] 24)).alloc (.cells #[.slice none 0 0] 30)).alloc (.cells #[.slice none 0 0] 30))) := Lib.hid ((B0.out.alloc B0.out.size _).alloc (by simp; omega) _)
  have N0 : Hid ((((w.alloc (.cells #[.slice a0 x.items.length c0] 24)).alloc (.cells #[.slice none 0 0] 30)).alloc (.cells #[.slice none 0 0] 30)).heap.size = w.heap.size + 3) := Lib.hid (by simp)
  obtain ⟨V0, hV0⟩ : ∃ y, y = (((w.alloc (.cells #[.slice a0 x.items.length c0] 24)).alloc (.cells #[.slice none 0 0] 30)).alloc (.cells #[.slice none 0 0] 30)) := ⟨_, rfl⟩
  rw [← hV0] at T0 Z0 O0 B3 N0 ⊢
  clear hV0 hb1 hb2 B0 W1
  have SZ0 : Hid (w.heap.size + 3 ≤ V0.heap.size) := Lib.hid (by have := N0.out; omega)
  clear N0
  refine (toItemS_any _ x.items _ (Cel.Rd.later B3.out _ _ HS0.out) (by omega)).mono ?_
  rintro e w1 ⟨u0, rfl, ho, hb⟩
  obtain ⟨p0, m0, s0, rfl, hm⟩ := row_form ho.rd
  subst hm
  have T1a := Lib.hid (T0.out.later hb)
  have Z1a := Lib.hid (Z0.out.later hb)
  have O1a := Lib.hid (O0.out.later hb)
  have B1a : Hid (Below w.heap.size w w1) := Lib.hid (B3.out.trans (hb.mono B3.out.size))
  have SZ1a : Hid (V0.heap.size ≤ w1.heap.size) := Lib.hid hb.size
  have J0_1 := Lib.hid ho
  clear hb ho T0 Z0 O0 B3
  have x0 := O1a.out.cell (j := 0) rfl
  have f0 := O1a.out.fr (o := 0)
  have O2 := Lib.hid (O1a.out.set 0 (.slice p0 x.items.length s0))
  have T2 := Lib.hid (T1a.out.other (c := w.heap.size + 1 + 1) (o := 0) (by omega) (.slice p0 x.items.length s0))
  have Z2 := Lib.hid (Z1a.out.other (c := w.heap.size + 1 + 1) (o := 0) (by omega) (.slice p0 x.items.length s0))
  have B2 : Hid (Below w.heap.size w (w1.setCell ⟨w.heap.size + 1 + 1, 0, none⟩ (.slice p0 x.items.length s0))) := Lib.hid (B1a.out.setCell (by show w.heap.size ≤ w.heap.size + 1 + 1; omega) _)
  have J0_2 := Lib.hid (J0_1.out.kept (w' := w1.setCell ⟨w.heap.size + 1 + 1, 0, none⟩ (.slice p0 x.items.length s0)) (fun g h1 h2 => Below.heap_setCell _ _ _ _ (by show g ≠ w.heap.size + 1 + 1; have := SZ0.out; have := SZ1a.out; omega)))
  clear J0_1
  clear B1a T1a Z1a O1a
  have y0 := O2.out.cell (j := 0) rfl
  have z0 := Z2.out.cell (j := 0) rfl
  have g0 := Z2.out.fr (o := 0)
  have qf := (Z2.out.set 0 (.slice p0 x.items.length s0))
  have q0 := qf.cell (j := 0) rfl
  clear qf
  have BE := Lib.hid (B2.out.setCell (p := ⟨w.heap.size + 1, 0, none⟩) (by show w.heap.size ≤ w.heap.size + 1; omega) (.slice p0 x.items.length s0))
  have JE0 := Lib.hid (J0_2.out.kept (w' := ((w1.setCell ⟨w.heap.size + 1 + 1, 0, none⟩ (.slice p0 x.items.length s0))).setCells (w.heap.size + 1) 0 [.slice p0 x.items.length s0]) (fun g h1 h2 => heap_setCells_ne (by have := SZ0.out; have := SZ1a.out; omega) _ _ _))
  have SE : Hid (w1.heap.size ≤ (((w1.setCell ⟨w.heap.size + 1 + 1, 0, none⟩ (.slice p0 x.items.length s0))).setCells (w.heap.size + 1) 0 [.slice p0 x.items.length s0]).heap.size) := Lib.hid (by rw [size_setCells]; simp [World.setCell])
  go_wp2
  refine bodyPost_ret (v := .agg #[.slice p0 x.items.length s0]) ?_ rfl ⟨_, rfl, ((Objs.cons (lo := V0.heap.size) JE0.out (Objs.nil _ w1.heap.size (((w1.setCell ⟨w.heap.size + 1 + 1, 0, none⟩ (.slice p0 x.items.length s0))).setCells (w.heap.size + 1) 0 [.slice p0 x.items.length s0]).heap.size) (by have := SZ0.out; have := SZ1a.out; omega) (by have := SZ0.out; have := SZ1a.out; omega) (by have := SZ0.out; have := SZ1a.out; have := SE.out; omega))).mono (by have := SZ0.out; have := SZ1a.out; omega) (Nat.le_refl _), BE.out⟩
  simp [results, Tryd.results8, go_sem, q0]

end Go.Proofs.YtkfkjcadmdcbnaaDoor
namespace Go.Proofs.YtkfkjcadmdcbnaaDoor
open Go.RowKit Go.Proofs.YtkfkjcadmdcbnaaDoor.Parts Go.Proofs.YtkfkjcadmdcbnaaDoor.Hexa

set_option maxRecDepth 100000 in
set_option maxHeartbeats 1000000 in
theorem eqItem_st (x : ItemR) (w : World) :
    Calls Tryd.prog 50 #[.agg #[.string x.path, .bool x.dir, .string x.text], .agg #[.string x.path, .bool x.dir, .string x.text]] w fun e w' => e = .returned (.bool true) ∧ Below w.heap.size w w' := by
  go_enter Tryd.func50, Tryd.ntmps50
  go_wp2
  go_ret
  exact ⟨rfl, ((Below.refl _ _).alloc (Nat.le_refl _) _).alloc (by simp) _⟩

end Go.Proofs.YtkfkjcadmdcbnaaDoor
namespace Go.Proofs.YtkfkjcadmdcbnaaDoor
open Go.RowKit Go.Proofs.YtkfkjcadmdcbnaaDoor.Parts Go.Proofs.YtkfkjcadmdcbnaaDoor.Hexa

set_option maxRecDepth 100000 in
set_option maxHeartbeats 1000000 in
theorem eqItemS_any (v v2 : Value) (L : List ItemR) (w : World) (s1 : (celRow cItem L).Rd w v) (s2 : (celRow cItem L).Rd w v2) (hz : L.length ≤ 100000000) :
    Calls Tryd.prog 27 #[v, v2] w fun e w' => e = .returned (.bool true) ∧ Below w.heap.size w w' := by
  obtain ⟨a, n, c, rfl, hn⟩ := row_form s1
  obtain ⟨a', n', c', rfl, hn'⟩ := row_form s2
  obtain rfl : n' = n := by rw [← hn, ← hn']
  have R1 := Lib.hid s1
  have R2 := Lib.hid s2
  have hz' : n' ≤ 100000000 := by rw [← hn]; exact hz
  have hn1 : n' ≤ 100000000 := by omega
  have HN := Lib.hid hn
  clear s1 s2 hz hz' hn hn'
  go_enter Tryd.func27, Tryd.ntmps27
  go_wp2
  go_loopw [5] (fun iv wr => ∃ k : Nat, k ≤ n' ∧ iv = .int .i64 k ∧ Below w.heap.size w wr) (fun iv _ => n' - (intOf iv).toNat)
  case atStart => exact ⟨0, Nat.zero_le _, rfl, Below.refl _ _⟩
  case round =>
    obtain ⟨k, hk, rfl, hbel⟩ := hrel
    by_cases hlt : k < n'
    · obtain ⟨g, off, rfl, hg, d0, d1, d2⟩ := cItem_at (Cel.Rd.later hbel _ _ R1.out) k hlt
      obtain ⟨g2, off2, rfl, hg2, m0, m1, m2⟩ := cItem_at (Cel.Rd.later hbel _ _ R2.out) k hlt
      obtain ⟨x, hx⟩ : ∃ x, L.getD k default = x := ⟨_, rfl⟩
      rw [hx] at d0 d1 d2 m0 m1 m2
      clear hx

      go_wp2
      go_region_with (go_at_call 50; refine (eqItem_st x _).mono ?_; rintro e w1 ⟨rfl, hb1⟩)
      all_goals
        have hb2 : Below w.heap.size w w1 := hbel.drew.trans (hb1.mono hbel.size)
        clear d0 d1 d2 m0 m1 m2   hb1
        go_wp2
        go_roundw
        case rel => exact ⟨k + 1, by omega, by go_num, hb2⟩
        case measure => (simp [intOf]; try omega)
    · obtain rfl : k = n' := by omega
      go_wp2
      go_ret
      exact ⟨rfl, hbel⟩

end Go.Proofs.YtkfkjcadmdcbnaaDoor
namespace Go.Proofs.YtkfkjcadmdcbnaaDoor
open Go.RowKit Go.Proofs.YtkfkjcadmdcbnaaDoor.Parts Go.Proofs.YtkfkjcadmdcbnaaDoor.Hexa

set_option maxRecDepth 100000 in
set_option maxHeartbeats 1000000 in
theorem eqView_st (x : ViewR) (a0 : Option Addr) (c0 : Nat) (b0 : Option Addr) (s0 : Nat) (w : World) (h0 : (celRow cItem x.items).Rd w (.slice a0 x.items.length c0)) (k0 : (celRow cItem x.items).Rd w (.slice b0 x.items.length s0)) (hz : x.items.length ≤ 100000000) :
    Calls Tryd.prog 11 #[.agg #[.slice a0 x.items.length c0], .agg #[.slice b0 x.items.length s0]] w fun e w' => e = .returned (.bool true) ∧ Below w.heap.size w w' := by
  have hb1 := below_bk w (.cells #[.slice a0 x.items.length c0] 30)
  have hb2 := below_bk (w.alloc (.cells #[.slice a0 x.items.length c0] 30)) (.cells #[.slice b0 x.items.length s0] 30)
  have T0 := Lib.hid ((Bk.alloc w #[.slice a0 x.items.length c0] 30).later hb2)
  have U0 : Hid (Bk ((w.alloc (.cells #[.slice a0 x.items.length c0] 30)).alloc (.cells #[.slice b0 x.items.length s0] 30)) (w.heap.size + 1) #[.slice b0 x.items.length s0] 30) := Lib.hid (by
    have h := Bk.alloc (w.alloc (.cells #[.slice a0 x.items.length c0] 30)) #[.slice b0 x.items.length s0] 30
    simpa using h)
  have B0 : Hid (Below w.heap.size w ((w.alloc (.cells #[.slice a0 x.items.length c0] 30)).alloc (.cells #[.slice b0 x.items.length s0] 30))) := Lib.hid (hb1.trans (hb2.mono hb1.size))
  have HS0 := Lib.hid h0
  have HU0 := Lib.hid k0
  clear hb1 hb2 h0 k0
  go_enter Tryd.func11, Tryd.ntmps11
  go_wp2_with fail
  refine (eqItemS_any _ _ x.items _ (Cel.Rd.later B0.out _ _ HS0.out) (Cel.Rd.later B0.out _ _ HU0.out) (by omega)).mono ?_
  rintro e w1 ⟨rfl, hb⟩
  have T1 := Lib.hid (T0.out.later hb)
  have U1 := Lib.hid (U0.out.later hb)
  have B1 : Hid (Below w.heap.size w w1) := Lib.hid (B0.out.trans (hb.mono B0.out.size))
  clear hb
  go_wp2
  go_ret
  exact ⟨rfl, B1.out⟩

end Go.Proofs.YtkfkjcadmdcbnaaDoor
namespace Go.Proofs.YtkfkjcadmdcbnaaDoor
open Go.RowKit

theorem below_drewsN {B : Nat} {a w : World} (h : Below B a w) (m : Nat) : Below B a (w.drewN m) := ⟨h.os, h.tape, h.output, h.size, h.block⟩
end Go.Proofs.YtkfkjcadmdcbnaaDoor
namespace Go.Proofs.YtkfkjcadmdcbnaaDoor
open Go.RowKit Go.Proofs.YtkfkjcadmdcbnaaDoor.Parts Go.Proofs.YtkfkjcadmdcbnaaDoor.Hexa

set_option maxRecDepth 100000 in
set_option maxHeartbeats 1000000 in
theorem eqStrS_any (v v2 : Value) (L : List ByteArray) (w : World) (s1 : (celRow cStr L).Rd w v) (s2 : (celRow cStr L).Rd w v2) (hz : (celRow cStr L).sz ≤ 100000000) :
    Calls Tryd.prog 10 #[v, v2] w fun e w' => e = .returned (.bool true) ∧ Below w.heap.size w w' := by
  obtain ⟨a, n, c, rfl, hn⟩ := row_form s1
  obtain ⟨a', n', c', rfl, hn'⟩ := row_form s2
  obtain rfl : n' = n := by rw [← hn, ← hn']
  have hz' : n' + szL (celsE cStr L) ≤ 100000000 := by rw [← hn]; exact hz
  have hn9 : n' ≤ 100000000 := by omega
  have R1 := Lib.hid s1
  have R2 := Lib.hid s2
  clear s1 s2 hn hn' hz hz'
  go_enter Tryd.func10, Tryd.ntmps10
  go_wp2
  go_loopw [5] (fun iv wr => ∃ k m : Nat, k ≤ n' ∧ iv = .int .i64 k ∧ wr = w.drewN m) (fun iv _ => n' - (intOf iv).toNat)
  case atStart => exact ⟨0, 0, Nat.zero_le _, rfl, rfl⟩
  case round =>
    obtain ⟨k, m, hk, rfl, rfl⟩ := hrel
    by_cases hlt : k < n'
    · obtain ⟨g1, o1, rfl, h1, d1⟩ := cStr_at R1.out k hlt
      obtain ⟨g2, o2, rfl, h2, d2⟩ := cStr_at R2.out k hlt
      obtain ⟨x, hx⟩ : ∃ x, L.getD k default = x := ⟨_, rfl⟩
      rw [hx] at d1 d2
      clear hx h1 h2
      go_wp2
      go_quiet (fail)
      go_wp2
      go_roundw
      case rel => exact ⟨k + 1, _, by omega, by go_num, rfl⟩
      case measure => (simp [intOf]; try omega)
    · obtain rfl : k = n' := by omega
      go_wp2
      go_ret
      exact ⟨rfl, below_drewsN (Below.refl _ _) _⟩
end Go.Proofs.YtkfkjcadmdcbnaaDoor
namespace Go.Proofs.YtkfkjcadmdcbnaaDoor
open Go.RowKit Go.Proofs.YtkfkjcadmdcbnaaDoor.Parts Go.Proofs.YtkfkjcadmdcbnaaDoor.Hexa

set_option maxRecDepth 100000 in
set_option maxHeartbeats 1000000 in
theorem markStrS_any (v : Value) (L : List ByteArray) (F : List Nat) (k : Nat) (kz : Int) (w : World) (hkz : kz = (k : Int)) (h0 : 0 < k) (hk : k + (celRow cStr L).cnt ≤ 100000000) (hz : (celRow cStr L).sz ≤ 100000000) (hF : F.Nodup) (ho : (celRow cStr L).Own w F v) :
    Calls Tryd.prog 13 #[v, .int .i64 kz] w (MarkPost (celRow cStr L) F v k w) := by
  subst hkz
  obtain ⟨a, n, c, rfl, hn⟩ := row_form (Cel.Own.rd _ _ _ ho)
  have HN := Lib.hid hn
  have hz' : n + szL (celsE cStr L) ≤ 100000000 := by rw [← hn]; exact hz
  have hn9 : n ≤ 100000000 := by omega
  have HZ : Hid (szL (celsE cStr L) ≤ 100000000) := Lib.hid (by omega)
  have HF := Lib.hid hF
  have HC : Hid ((celRow cStr L).cnt = cntL (celsE cStr L)) := Lib.hid rfl
  have hk' : k + cntL (celsE cStr L) ≤ 100000000 := hk
  have HL : Hid ((celsE cStr L).length = n * 1) := Lib.hid (by rw [celsE_length, hn]; rfl)
  have HO : Hid ((Cel.sl cStr.e 1 n (stM (celsE cStr L) k 0)).Own w F (.slice a n c)) := Lib.hid (by rw [stM_zero]; have h9 := ho; unfold celRow at h9; rw [hn] at h9; exact h9)
  clear hn hF ho hk hz hz'
  go_enter Tryd.func13, Tryd.ntmps13
  go_wp2
  go_loopw [1, 5] (fun kv iv wr => ∃ (j q : Nat), j ≤ n ∧ 0 < q ∧ q ≤ 100000000 ∧ Hid (q = k + cntL (celsE cStr (L.take j))) ∧ iv = .int .i64 j ∧ kv = .int .i64 q ∧ Hid ((Cel.sl cStr.e 1 n (stM (celsE cStr L) k (j * 1))).Own wr F (.slice a n c)) ∧ Hid (OutF F w wr)) (fun _ iv _ => n - (intOf iv).toNat)
  case atStart => exact ⟨0, k, Nat.zero_le _, h0, by omega, Lib.hid (by simp only [List.take_zero, celsE, cntL]; rfl), rfl, rfl, by rw [Nat.zero_mul]; exact HO, Lib.hid (OutF.refl _ _)⟩
  case round =>
    clear HO
    obtain ⟨j, q, hj, hq0, hq9, HQ, rfl, rfl, HW, HU⟩ := hrel
    by_cases hlt : j < n
    · have hjL : j < L.length := by rw [HN.out]; exact hlt
      have HX := Lib.hid (cntL_next cStr hjL)
      have hm := cntL_take cStr L (j + 1)
      have HY := Lib.hid (Nat.le_trans (szL_at cStr L j hjL) HZ.out)
      have HG : Hid (∀ o, o < 1 → (celsE cStr L).getD (j * 1 + o) default = (cStr.cels (L.getD j default)).getD o default) := Lib.hid (fun o ho => celsE_getD cStr L j o hjL ho)
      have HA : Hid (∀ o, o ≤ 1 → atM (celsE cStr L) k (j * 1 + o) = q + cntL ((cStr.cels (L.getD j default)).take o)) := Lib.hid (fun o ho => by rw [HQ.out]; exact atM_in cStr hjL ho)
      obtain ⟨x, hx⟩ : ∃ x, L.getD j default = x := ⟨_, rfl⟩
      rw [hx] at HX HG HA HY
      have hm2 : q + cntL (cStr.cels x) ≤ 100000000 := by have := HQ.out; have := HX.out; omega
      have HM2 := Lib.hid hm2
      have hm3 : q + 1 ≤ 100000000 := by have : cntL (cStr.cels x) = (1 + 0) := rfl; omega
      clear hx hjL hm hm2
      rw [Nat.mul_one] at HW
      go_wp2_with fail
      refine (markText_n _ q _ (by omega) (by omega) (by omega)).mono ?_
      rintro e y0 ⟨rfl, hb⟩
      have W0t := Lib.hid (Cel.Own.kept _ _ _ (fun g hg => hb.block g (Cel.Own.lt _ _ _ HW.out g hg)) HW.out)
      have U0t := Lib.hid (HU.out.trans (OutF.of_below hb))
      clear hb HW HU
      obtain ⟨g0, hg0, _, ⟨v0, e0⟩, z0, ho0, hu0⟩ := mark_val W0t.out HF.out (i := j) (by omega) HL.out ((by have h9 := HG.out 0 (by decide); rw [Nat.mul_one, Nat.add_zero] at h9; exact h9))
      subst hg0
      have e9 : atM (celsE cStr L) k (j) = q + cntL ((cStr.cels x).take 0) := (by have h9 := HA.out 0 (by decide); rw [Nat.mul_one, Nat.add_zero] at h9; exact h9)
      have e8 : markV (.string x) (atM (celsE cStr L) k (j)) = (.string (markT q)) := by rw [e9]; show Value.string (markT (q + 0)) = _; rw [show q + 0 = q from by omega]
      rw [e8] at ho0 hu0
      clear e8 e9
      have W0 := Lib.hid ho0
      have U0 := Lib.hid (U0t.out.trans hu0)
      clear ho0 hu0 W0t U0t
      go_wp2
      clear e0 z0
      have HR : Hid ((q + 1) = k + cntL (celsE cStr (L.take (j + 1)))) := Lib.hid (by have := HQ.out; have := HX.out; have : cntL (cStr.cels x) = (1 + 0) := rfl; omega)
      have hr9 : (q + 1) ≤ 100000000 := by have := HM2.out; have : cntL (cStr.cels x) = (1 + 0) := rfl; omega
      go_roundw
      case rel => exact ⟨j + 1, (q + 1), by omega, by omega, hr9, HR, by go_num, by go_num, by rw [Nat.mul_one]; exact W0, U0⟩
      case measure => (simp [intOf]; try omega)
    · obtain rfl : j = n := by omega
      have ho := HW.out
      rw [stM_all _ _ (by rw [HL.out]; omega)] at ho
      have HO := Lib.hid ho
      clear ho
      go_wp2
      go_ret
      refine ⟨ret_i64m (by have := HQ.out; rw [List.take_of_length_le (by rw [HN.out]; omega)] at this; rw [HC.out]; omega), HU.out, ?_⟩
      have h9 := HO.out
      rw [← HN.out] at h9 ⊢
      exact h9

theorem markStrS_obj (v : Value) (L : List ByteArray) (lo hi k : Nat) (kz : Int) (w : World) (hkz : kz = (k : Int)) (h0 : 0 < k) (hk : k + (celRow cStr L).cnt ≤ 100000000) (hz : (celRow cStr L).sz ≤ 100000000) (ho : Obj1 w lo hi (celRow cStr L) v) :
    Calls Tryd.prog 13 #[v, .int .i64 kz] w fun e w' => e = .returned (.int .i64 ((k + (celRow cStr L).cnt : Nat) : Int)) ∧ OutR lo hi w w' ∧ Obj1 w' lo hi ((celRow cStr L).mk k) v := by
  obtain ⟨F, hn, hb, ho⟩ := ho
  refine (markStrS_any v L F k kz w hkz h0 hk hz hn ho).mono ?_
  rintro e w' ⟨he, hu, hw⟩
  exact ⟨he, OutR.of hu hb, F, hn, hb, hw⟩
end Go.Proofs.YtkfkjcadmdcbnaaDoor
namespace Go.Proofs.YtkfkjcadmdcbnaaDoor
open Go.RowKit Go.Proofs.YtkfkjcadmdcbnaaDoor.Parts Go.Proofs.YtkfkjcadmdcbnaaDoor.Hexa

theorem cStr_m {w : World} {L : List ByteArray} {a : Option Addr} {n c k : Nat} (h : ((celRow cStr L).mk k).Rd w (.slice a n c)) (j q : Nat) (hj : j < n) (hq : q = k + cntL (celsE cStr (L.take j))) :
    ∃ (g off : Nat), a = some ⟨g, off, none⟩ ∧ g < w.heap.size ∧ w.cell? ⟨g, off + j, none⟩ = some (.string (markT q)) := by
  obtain ⟨g, off, vs, ha, hg, hr, hc⟩ := rowM_at h (by decide) j hj
  rw [← hq] at hr
  obtain ⟨v0, r0, e0, h0, hend⟩ := hr
  have hend' : r0 = [] := hend
  rw [hend'] at e0
  subst e0
  exact ⟨g, off, ha, hg, (by have h9 := hc 0 _ rfl; rw [show v0 = _ from h0, show off + j * cStr.k + 0 = off + j from by show off + j * 1 + 0 = _; omega] at h9; exact h9)⟩
set_option maxRecDepth 100000 in
set_option maxHeartbeats 1000000 in
theorem heldStrS_any (v : Value) (L : List ByteArray) (k : Nat) (kz : Int) (w : World) (hkz : kz = (k : Int)) (h0 : 0 < k) (hk : k + (celRow cStr L).cnt ≤ 100000000) (hz : (celRow cStr L).sz ≤ 100000000) (hs : ((celRow cStr L).mk k).Rd w v) :
    Calls Tryd.prog 14 #[v, .int .i64 kz] w fun e w' => e = .returned (.int .i64 ((k + (celRow cStr L).cnt : Nat) : Int)) ∧ Below w.heap.size w w' := by
  subst hkz
  obtain ⟨a, n, c, rfl, hn⟩ := rowK_form hs
  have HN := Lib.hid hn
  have HC : Hid ((celRow cStr L).cnt = cntL (celsE cStr L)) := Lib.hid rfl
  have hk' : k + cntL (celsE cStr L) ≤ 100000000 := hk
  have hz' : n + szL (celsE cStr L) ≤ 100000000 := by rw [← hn]; exact hz
  have hn9 : n ≤ 100000000 := by omega
  have HZ : Hid (szL (celsE cStr L) ≤ 100000000) := Lib.hid (by omega)
  have HS := Lib.hid hs
  clear hn hs hk hz hz'
  go_enter Tryd.func14, Tryd.ntmps14
  go_wp2
  go_loopw [1, 5] (fun kv iv wr => ∃ (j q : Nat), j ≤ n ∧ 0 < q ∧ q ≤ 100000000 ∧ Hid (q = k + cntL (celsE cStr (L.take j))) ∧ iv = .int .i64 j ∧ kv = .int .i64 q ∧ Below w.heap.size w wr) (fun _ iv _ => n - (intOf iv).toNat)
  case atStart => exact ⟨0, k, Nat.zero_le _, h0, by omega, Lib.hid (by simp only [List.take_zero, celsE, cntL]; rfl), rfl, rfl, Below.refl _ _⟩
  case round =>
    obtain ⟨j, q, hj, hq0, hq9, HQ, rfl, rfl, hbel⟩ := hrel
    by_cases hlt : j < n
    · have hjL : j < L.length := by rw [HN.out]; exact hlt
      have HX := Lib.hid (cntL_next cStr hjL)
      have hm := cntL_take cStr L (j + 1)
      have HY := Lib.hid (Nat.le_trans (szL_at cStr L j hjL) HZ.out)
      obtain ⟨g, off, rfl, hg, d0⟩ := cStr_m (Cel.Rd.later hbel _ _ HS.out) j q hlt HQ.out
      obtain ⟨x, hx⟩ : ∃ x, L.getD j default = x := ⟨_, rfl⟩
      rw [hx] at HX HY 
      have hm2 : q + cntL (cStr.cels x) ≤ 100000000 := by have := HQ.out; have := HX.out; omega
      have HM2 := Lib.hid hm2
      have hm3 : q + 1 ≤ 100000000 := by have : cntL (cStr.cels x) = (1 + 0) := rfl; omega
      clear hx hjL hm hm2
      go_wp2
      have hc1s : Hid (((q : Int)) = ((q : Nat) : Int)) := Lib.hid (by omega)
      go_region_with (go_at_call 29; refine (markText_n ((q : Int)) q _ hc1s.out (by omega) (by omega)).mono ?_; rintro e w1x ⟨rfl, hb⟩; have n1_0 := (hb.cell (p := ⟨g, off + j, none⟩) hg).trans d0)
      all_goals
        have B1 : Below w.heap.size w w1x := hbel.drew.trans (hb.mono hbel.size)
        have hg1 : g < w1x.heap.size := Nat.lt_of_lt_of_le hg hb.size
        clear d0 hb
        go_wp2
        have HR : Hid ((q + 1) = k + cntL (celsE cStr (L.take (j + 1)))) := Lib.hid (by have := HQ.out; have := HX.out; have : cntL (cStr.cels x) = (1 + 0) := rfl; omega)
        have hr9 : (q + 1) ≤ 100000000 := by have := HM2.out; have : cntL (cStr.cels x) = (1 + 0) := rfl; omega
        go_roundw
        case rel => exact ⟨j + 1, (q + 1), by omega, by omega, hr9, HR, by go_num, by go_num, B1⟩
        case measure => (simp [intOf]; try omega)
    · obtain rfl : j = n := by omega
      go_wp2
      go_ret
      exact ⟨ret_i64m (by have := HQ.out; rw [List.take_of_length_le (by rw [HN.out]; omega)] at this; rw [HC.out]; omega), hbel⟩

end Go.Proofs.YtkfkjcadmdcbnaaDoor
namespace Go.Proofs.YtkfkjcadmdcbnaaDoor
open Go.RowKit Go.Proofs.YtkfkjcadmdcbnaaDoor.Parts Go.Proofs.YtkfkjcadmdcbnaaDoor.Hexa

set_option maxRecDepth 100000 in
set_option maxHeartbeats 4000000 in
theorem kidsOf_law (v : ViewR) (a0_v : Option Addr) (c0_v : Nat) (p : ByteArray) (w : World) (ht_v : TyL (cView.cels v)) (h0_v : (celRow cItem v.items).Rd w (.slice a0_v v.items.length c0_v)) (hq : p.size ≤ 1048576) (hE : ErrIs w) :
    Calls Tryd.prog 3 #[.agg #[.slice a0_v v.items.length c0_v], .string p] w fun e w' => e = .returned (.bool true) ∧ Below w.heap.size w w' := by
  have HT_v := Lib.hid ht_v
  clear ht_v
  have HS0_v := Lib.hid h0_v
  clear h0_v
  have HE := Lib.hid hE
  clear hE
  obtain ⟨r, hr⟩ : ∃ d, kidsR v.items p = d := ⟨_, rfl⟩
  have HR := Lib.hid hr
  clear hr
  have Xv_0 := Lib.hid (Bk.alloc w #[.slice a0_v v.items.length c0_v] 24)
  have BW_0 := Lib.hid (below_bk w (.cells #[.slice a0_v v.items.length c0_v] 24))
  go_enter Tryd.func3, Tryd.ntmps3
  have dv0 := Xv_0.out.cell (j := 0) rfl
  go_wp2_with fail
  obtain ⟨V0, hV⟩ : ∃ y, y = (w.alloc (.cells #[.slice a0_v v.items.length c0_v] 24)) := ⟨_, rfl⟩
  clear dv0
  rw [← hV] at Xv_0 BW_0 ⊢
  have SZ_V0 : Hid (w.heap.size + 1 ≤ V0.heap.size) := Lib.hid (by rw [hV]; simp)
  clear hV
  refine (szView_st v a0_v c0_v 1048576 _ (by decide) (by decide) (Cel.Rd.later BW_0.out _ _ HS0_v.out) HT_v.out).mono ?_
  rintro e w1 ⟨l_v, rfl, hr, hb⟩
  have Xv_1 := Lib.hid (Xv_0.out.later hb)
  have BW_1 : Hid (Below w.heap.size w w1) := Lib.hid (BW_0.out.trans (hb.mono BW_0.out.size))
  have SZ_w1 : Hid (V0.heap.size ≤ w1.heap.size) := Lib.hid hb.size
  clear hb Xv_0 BW_0
  rcases hr with hr | ⟨hl0, hl1⟩
  · go_wp2
    go_ret
    exact ⟨rfl, BW_1.out⟩
  have HZ_v : Hid (szL (cView.cels v) ≤ 1048576) := Lib.hid (by omega)
  have HZB_v : Hid (szL (cView.cels v) ≤ 100000000) := Lib.hid (by omega)
  have hq_v : ¬ (l_v < 0) := by omega
  have hp_v : l_v ≤ 1048576 := by omega
  clear hl1
  have HVL : Hid (v.items.length ≤ 1048576) := Lib.hid (view_len HZ_v.out)
  have HSV : Hid ((celRow cItem v.items).sz ≤ 2000000) := Lib.hid (by have := HZ_v.out; rw [cView_sz] at this; omega)
  have HVC := Lib.hid (view_marks v HVL.out (by decide))
  have HRZ : Hid ((celRow cStr r).sz ≤ 100000000) := Lib.hid (by rw [← HR.out]; exact kids_sz HVL.out)
  have HRC : Hid (1 + (celRow cStr r).cnt ≤ 100000000) := Lib.hid (by rw [← HR.out]; exact kids_cnt HVL.out)
  have dv0 := Xv_1.out.cell (j := 0) rfl
  go_wp2_with fail
  clear dv0
  refine (toView_st v a0_v c0_v _ (Cel.Rd.later BW_1.out _ _ HS0_v.out) HZ_v.out).mono ?_
  rintro e w2 ⟨vs, rfl, ho, hb⟩
  have Xv_2 := Lib.hid (Xv_1.out.later hb)
  have BW_2 : Hid (Below w.heap.size w w2) := Lib.hid (BW_1.out.trans (hb.mono BW_1.out.size))
  have SZ_w2 : Hid (w1.heap.size ≤ w2.heap.size) := Lib.hid hb.size
  clear hb Xv_1 BW_1
  obtain ⟨a0_y, c0_y, rfl, _⟩ := cView_form ho.rd
  have Oy_2x := Lib.hid ho
  clear ho
  have dv0 := Xv_2.out.cell (j := 0) rfl
  go_wp2_with fail
  clear dv0
  refine ((specKids_any _ _ v.items p _ (cView_un Oy_2x.out.rd) HSV.out).mono (fun _ _ h => h.post)).mono ?_
  rw [HR.out]
  rintro e w3 ⟨v_w, rfl, ho, hb⟩
  have Xv_3 := Lib.hid (Xv_2.out.later hb)
  have Oy_3 := Lib.hid (Oy_2x.out.later hb)
  have BW_3 : Hid (Below w.heap.size w w3) := Lib.hid (BW_2.out.trans (hb.mono BW_2.out.size))
  have SZ_w3 : Hid (w2.heap.size ≤ w3.heap.size) := Lib.hid hb.size
  clear hb Xv_2 Oy_2x BW_2
  have Ow_3x := Lib.hid ho
  clear ho
  clear Oy_3
  have dv0 := Xv_3.out.cell (j := 0) rfl
  go_wp2_with fail
  clear dv0
  refine (toView_st v a0_v c0_v _ (Cel.Rd.later BW_3.out _ _ HS0_v.out) HZ_v.out).mono ?_
  rintro e w4 ⟨vs, rfl, ho, hb⟩
  have Xv_4 := Lib.hid (Xv_3.out.later hb)
  have Ow_4 := Lib.hid (Ow_3x.out.later hb)
  have BW_4 : Hid (Below w.heap.size w w4) := Lib.hid (BW_3.out.trans (hb.mono BW_3.out.size))
  have SZ_w4 : Hid (w3.heap.size ≤ w4.heap.size) := Lib.hid hb.size
  clear hb Xv_3 Ow_3x BW_3
  obtain ⟨a0_x, c0_x, rfl, _⟩ := cView_form ho.rd
  have Ox_4x := Lib.hid ho
  clear ho
  have hba := below_bk w4 (.cells #[.slice a0_x v.items.length c0_x] 30)
  have Xv_5 := Lib.hid (Xv_4.out.later hba)
  have Ow_5 := Lib.hid (Ow_4.out.later hba)
  have Ox_5 := Lib.hid (Ox_4x.out.later hba)
  have BW_5 : Hid (Below w.heap.size w (w4.alloc (.cells #[.slice a0_x v.items.length c0_x] 30))) := Lib.hid (BW_4.out.trans (hba.mono BW_4.out.size))
  have Xx_5 := Lib.hid (Bk.alloc w4 #[.slice a0_x v.items.length c0_x] 30)
  clear hba Xv_4 Ow_4 Ox_4x BW_4
  have dv0 := Xv_5.out.cell (j := 0) rfl
  have dx0 := Xx_5.out.cell (j := 0) rfl
  go_wp2_with fail
  obtain ⟨V4, hV⟩ : ∃ y, y = (w4.alloc (.cells #[.slice a0_x v.items.length c0_x] 30)) := ⟨_, rfl⟩
  clear dv0 dx0
  rw [← hV] at Xv_5 Xx_5 Ow_5 Ox_5 BW_5 ⊢
  have SZ_V4 : Hid (w4.heap.size + 1 ≤ V4.heap.size) := Lib.hid (by rw [hV]; simp)
  clear hV
  refine ((implKids_any _ _ v.items p _ (cView_un Ox_5.out.rd) HSV.out (HE.out.later rfl BW_5.out)).mono (fun _ _ h => h.post)).mono ?_
  rw [HR.out]
  rintro e w5 ⟨v_g0, rfl, ho, hb⟩
  have Xv_6 := Lib.hid (Xv_5.out.later hb)
  have Xx_6 := Lib.hid (Xx_5.out.later hb)
  have Ow_6 := Lib.hid (Ow_5.out.later hb)
  have Ox_6 := Lib.hid (Ox_5.out.later hb)
  have BW_6 : Hid (Below w.heap.size w w5) := Lib.hid (BW_5.out.trans (hb.mono BW_5.out.size))
  have SZ_w5 : Hid (V4.heap.size ≤ w5.heap.size) := Lib.hid hb.size
  clear hb Xv_5 Xx_5 Ow_5 Ox_5 BW_5
  have Og0_6x := Lib.hid ho
  clear ho
  have dv0 := Xv_6.out.cell (j := 0) rfl
  have dx0 := Xx_6.out.cell (j := 0) rfl
  go_wp2_with fail
  clear dv0 dx0
  refine (eqStrS_any _ _ r _ Og0_6x.out.rd Ow_6.out.rd HRZ.out).mono ?_
  rintro e w6 ⟨rfl, hb⟩
  have Xv_7 := Lib.hid (Xv_6.out.later hb)
  have Xx_7 := Lib.hid (Xx_6.out.later hb)
  have Ow_7 := Lib.hid (Ow_6.out.later hb)
  have Ox_7 := Lib.hid (Ox_6.out.later hb)
  have Og0_7 := Lib.hid (Og0_6x.out.later hb)
  have BW_7 : Hid (Below w.heap.size w w6) := Lib.hid (BW_6.out.trans (hb.mono BW_6.out.size))
  have SZ_w6 : Hid (w5.heap.size ≤ w6.heap.size) := Lib.hid hb.size
  clear hb Xv_6 Xx_6 Ow_6 Ox_6 Og0_6x BW_6
  go_wp2
  have XD := Lib.hid Xx_7.out.drew
  have AD := Lib.hid Xv_7.out.drew
  have BD := Lib.hid BW_7.out.drew
  have OD : Hid (Objs w6.drew w3.heap.size w4.heap.size _ _) := Lib.hid (Ox_7.out.later (Below.refl _ _).drew)
  have PDw := Lib.hid (Ow_7.out.later (Below.refl _ _).drew)
  have PDg0 := Lib.hid (Og0_7.out.later (Below.refl _ _).drew)
  go_region_held3 (fun w' => w'.cell? ⟨w4.heap.size, 0, none⟩ = some (.slice a0_x v.items.length c0_x) ∧ w'.cell? ⟨w.heap.size, 0, none⟩ = some (.slice a0_v v.items.length c0_v))
    (first
      | exact ⟨XD.out.cell rfl, AD.out.cell rfl⟩
      | exact ⟨XE.out.cell rfl, AE.out.cell rfl⟩
      | exact ⟨XF.out.cell rfl, AF.out.cell rfl⟩
      | go_keep)
    (first
      | (go_at_call 8; (with_reducible refine (toView_st v a0_v c0_v _ (Cel.Rd.later BD.out _ _ HS0_v.out) HZ_v.out).mono ?_); rintro e wa8 ⟨vs, rfl, ho, hb⟩; obtain ⟨a0_z9, c0_z9, rfl, q0⟩ := cView_form ho.rd; have XE := Lib.hid (XD.out.later hb); have AE := Lib.hid (AD.out.later hb); have OE := Lib.hid (OD.out.later hb); have BE : Hid (Below w.heap.size w wa8) := Lib.hid (BD.out.trans (hb.mono BD.out.size)); have SZ_wa8 : Hid (w6.heap.size ≤ wa8.heap.size) := Lib.hid hb.size; have PEw := Lib.hid (PDw.out.later hb); have PEg0 := Lib.hid (PDg0.out.later hb); clear hb ho)
      | (go_at_call 11; (with_reducible refine (eqView_st v a0_x c0_x a0_z9 c0_z9 _ (cView_un OE.out.rd) q0 (view_len HZB_v.out)).mono ?_); rintro e wb8 ⟨rfl, hb⟩; have XF := Lib.hid (XE.out.later hb); have AF := Lib.hid (AE.out.later hb); have OF := Lib.hid (OE.out.later hb); have BF : Hid (Below w.heap.size w wb8) := Lib.hid (BE.out.trans (hb.mono BE.out.size)); have SZ_wb8 : Hid (wa8.heap.size ≤ wb8.heap.size) := Lib.hid hb.size; have PFw := Lib.hid (PEw.out.later hb); have PFg0 := Lib.hid (PEg0.out.later hb); clear hb))
  have Xx_8 := XF
  have Xv_8 := AF
  have BW_8 := BF
  have Ox_8 := OF
  have Ow_8 := PFw
  have Og0_8 := PFg0
  clear Xv_7 Xx_7 Ow_7 Ox_7 Og0_7 BW_7 XD XE XF AD AE AF BD BE BF OD OE OF PDw PEw PFw PDg0 PEg0 PFg0
  have dv0 := Xv_8.out.cell (j := 0) rfl
  have dx0 := Xx_8.out.cell (j := 0) rfl
  go_wp2_with fail
  clear dv0 dx0
  refine (markView_st v a0_x c0_x w3.heap.size w4.heap.size 1 _ _ (by omega) (by omega) HVC.out (Nat.le_trans HVL.out (by decide)) Ox_8.out).mono ?_
  rintro e w7 ⟨he, hu, ho⟩
  obtain ⟨k, hk⟩ : ∃ y, 1 + cntTop (cView.cels v) = y := ⟨_, rfl⟩
  rw [hk] at he
  subst he
  have Xv_9 := Lib.hid (hu.bk Xv_8.out (by have := SZ_V0.out; have := SZ_w1.out; have := SZ_w2.out; have := SZ_w3.out; have := SZ_w4.out; have := SZ_V4.out; have := SZ_w5.out; have := SZ_w6.out; have := SZ_wa8.out; have := SZ_wb8.out; omega))
  have Xx_9 := Lib.hid (hu.bk Xx_8.out (by have := SZ_V0.out; have := SZ_w1.out; have := SZ_w2.out; have := SZ_w3.out; have := SZ_w4.out; have := SZ_V4.out; have := SZ_w5.out; have := SZ_w6.out; have := SZ_wa8.out; have := SZ_wb8.out; omega))
  have Ow_9 := Lib.hid (Ow_8.out.out hu (by have := SZ_V0.out; have := SZ_w1.out; have := SZ_w2.out; have := SZ_w3.out; have := SZ_w4.out; have := SZ_V4.out; have := SZ_w5.out; have := SZ_w6.out; have := SZ_wa8.out; have := SZ_wb8.out; omega))
  have Ox_9 := Lib.hid ho
  have Og0_9 := Lib.hid (Og0_8.out.out hu (by have := SZ_V0.out; have := SZ_w1.out; have := SZ_w2.out; have := SZ_w3.out; have := SZ_w4.out; have := SZ_V4.out; have := SZ_w5.out; have := SZ_w6.out; have := SZ_wa8.out; have := SZ_wb8.out; omega))
  have BW_9 : Hid (Below w.heap.size w w7) := Lib.hid (BW_8.out.trans (hu.below (by have := SZ_V0.out; have := SZ_w1.out; have := SZ_w2.out; have := SZ_w3.out; have := SZ_w4.out; have := SZ_V4.out; have := SZ_w5.out; have := SZ_w6.out; have := SZ_wa8.out; have := SZ_wb8.out; omega) (by have := SZ_V0.out; have := SZ_w1.out; have := SZ_w2.out; have := SZ_w3.out; have := SZ_w4.out; have := SZ_V4.out; have := SZ_w5.out; have := SZ_w6.out; have := SZ_wa8.out; have := SZ_wb8.out; omega)))
  have SZ_w7 : Hid (wb8.heap.size ≤ w7.heap.size) := Lib.hid hu.size
  have HC_k := Lib.hid hk
  have hp_k : k ≤ 100000000 := by have h9 := HVC.out; omega
  have hq_k : 0 < k := by omega
  have hr_k : ¬ ((k : Int) < 0) := by omega
  clear hu ho hk Xv_8 Xx_8 Ow_8 Ox_8 Og0_8 BW_8
  have dv0 := Xv_9.out.cell (j := 0) rfl
  have dx0 := Xx_9.out.cell (j := 0) rfl
  go_wp2_with fail
  clear dv0 dx0
  refine (eqStrS_any _ _ r _ Og0_9.out.rd Ow_9.out.rd HRZ.out).mono ?_
  rintro e w8 ⟨rfl, hb⟩
  have Xv_10 := Lib.hid (Xv_9.out.later hb)
  have Xx_10 := Lib.hid (Xx_9.out.later hb)
  have Ow_10 := Lib.hid (Ow_9.out.later hb)
  have Ox_10 := Lib.hid (Ox_9.out.later hb)
  have Og0_10 := Lib.hid (Og0_9.out.later hb)
  have BW_10 : Hid (Below w.heap.size w w8) := Lib.hid (BW_9.out.trans (hb.mono BW_9.out.size))
  have SZ_w8 : Hid (w7.heap.size ≤ w8.heap.size) := Lib.hid hb.size
  clear hb Xv_9 Xx_9 Ow_9 Ox_9 Og0_9 BW_9
  have dv0 := Xv_10.out.cell (j := 0) rfl
  have dx0 := Xx_10.out.cell (j := 0) rfl
  go_wp2_with fail
  clear dv0 dx0
  refine (markStrS_obj _ r V4.heap.size w5.heap.size 1 _ _ (by omega) (by omega) HRC.out HRZ.out Og0_10.out).mono ?_
  rintro e w9 ⟨he, hu, ho⟩
  obtain ⟨m, hm⟩ : ∃ y, 1 + (celRow cStr r).cnt = y := ⟨_, rfl⟩
  rw [hm] at he
  subst he
  have Xv_11 := Lib.hid (hu.bk Xv_10.out (by have := SZ_V0.out; have := SZ_w1.out; have := SZ_w2.out; have := SZ_w3.out; have := SZ_w4.out; have := SZ_V4.out; have := SZ_w5.out; have := SZ_w6.out; have := SZ_wa8.out; have := SZ_wb8.out; have := SZ_w7.out; have := SZ_w8.out; omega))
  have Xx_11 := Lib.hid (hu.bk Xx_10.out (by have := SZ_V0.out; have := SZ_w1.out; have := SZ_w2.out; have := SZ_w3.out; have := SZ_w4.out; have := SZ_V4.out; have := SZ_w5.out; have := SZ_w6.out; have := SZ_wa8.out; have := SZ_wb8.out; have := SZ_w7.out; have := SZ_w8.out; omega))
  have Ow_11 := Lib.hid (Ow_10.out.out hu (by have := SZ_V0.out; have := SZ_w1.out; have := SZ_w2.out; have := SZ_w3.out; have := SZ_w4.out; have := SZ_V4.out; have := SZ_w5.out; have := SZ_w6.out; have := SZ_wa8.out; have := SZ_wb8.out; have := SZ_w7.out; have := SZ_w8.out; omega))
  have Ox_11 := Lib.hid (Ox_10.out.out hu (by have := SZ_V0.out; have := SZ_w1.out; have := SZ_w2.out; have := SZ_w3.out; have := SZ_w4.out; have := SZ_V4.out; have := SZ_w5.out; have := SZ_w6.out; have := SZ_wa8.out; have := SZ_wb8.out; have := SZ_w7.out; have := SZ_w8.out; omega))
  have Og0_11 := Lib.hid ho
  have BW_11 : Hid (Below w.heap.size w w9) := Lib.hid (BW_10.out.trans (hu.below (by have := SZ_V0.out; have := SZ_w1.out; have := SZ_w2.out; have := SZ_w3.out; have := SZ_w4.out; have := SZ_V4.out; have := SZ_w5.out; have := SZ_w6.out; have := SZ_wa8.out; have := SZ_wb8.out; have := SZ_w7.out; have := SZ_w8.out; omega) (by have := SZ_V0.out; have := SZ_w1.out; have := SZ_w2.out; have := SZ_w3.out; have := SZ_w4.out; have := SZ_V4.out; have := SZ_w5.out; have := SZ_w6.out; have := SZ_wa8.out; have := SZ_wb8.out; have := SZ_w7.out; have := SZ_w8.out; omega)))
  have SZ_w9 : Hid (w8.heap.size ≤ w9.heap.size) := Lib.hid hu.size
  have HC_m := Lib.hid hm
  have hp_m : m ≤ 100000000 := by have h9 := HRC.out; omega
  have hq_m : 0 < m := by omega
  have hr_m : ¬ ((m : Int) < 0) := by omega
  clear hu ho hm Xv_10 Xx_10 Ow_10 Ox_10 Og0_10 BW_10
  have dv0 := Xv_11.out.cell (j := 0) rfl
  have dx0 := Xx_11.out.cell (j := 0) rfl
  go_wp2_with fail
  clear dv0 dx0
  refine (heldStrS_any _ r 1 _ _ (by rfl) (by decide) HRC.out HRZ.out Og0_11.out.rd).mono ?_
  rintro e w10 ⟨he, hb⟩
  rw [HC_m.out] at he
  subst he
  have Xv_12 := Lib.hid (Xv_11.out.later hb)
  have Xx_12 := Lib.hid (Xx_11.out.later hb)
  have Ow_12 := Lib.hid (Ow_11.out.later hb)
  have Ox_12 := Lib.hid (Ox_11.out.later hb)
  have Og0_12 := Lib.hid (Og0_11.out.later hb)
  have BW_12 : Hid (Below w.heap.size w w10) := Lib.hid (BW_11.out.trans (hb.mono BW_11.out.size))
  have SZ_w10 : Hid (w9.heap.size ≤ w10.heap.size) := Lib.hid hb.size
  clear hb Xv_11 Xx_11 Ow_11 Ox_11 Og0_11 BW_11
  have dv0 := Xv_12.out.cell (j := 0) rfl
  have dx0 := Xx_12.out.cell (j := 0) rfl
  go_wp2_with fail
  clear dv0 dx0
  refine (toView_st v a0_v c0_v _ (Cel.Rd.later BW_12.out _ _ HS0_v.out) HZ_v.out).mono ?_
  rintro e w11 ⟨vs, rfl, ho, hb⟩
  have Xv_13 := Lib.hid (Xv_12.out.later hb)
  have Xx_13 := Lib.hid (Xx_12.out.later hb)
  have Ow_13 := Lib.hid (Ow_12.out.later hb)
  have Ox_13 := Lib.hid (Ox_12.out.later hb)
  have Og0_13 := Lib.hid (Og0_12.out.later hb)
  have BW_13 : Hid (Below w.heap.size w w11) := Lib.hid (BW_12.out.trans (hb.mono BW_12.out.size))
  have SZ_w11 : Hid (w10.heap.size ≤ w11.heap.size) := Lib.hid hb.size
  clear hb Xv_12 Xx_12 Ow_12 Ox_12 Og0_12 BW_12
  obtain ⟨a0_z, c0_z, rfl, _⟩ := cView_form ho.rd
  have Oz_13x := Lib.hid ho
  clear ho
  have dv0 := Xv_13.out.cell (j := 0) rfl
  have dx0 := Xx_13.out.cell (j := 0) rfl
  go_wp2_with fail
  clear dv0 dx0
  refine ((implKids_any _ _ v.items p _ (cView_un Oz_13x.out.rd) HSV.out (HE.out.later rfl BW_13.out)).mono (fun _ _ h => h.post)).mono ?_
  rw [HR.out]
  rintro e w12 ⟨v_h0, rfl, ho, hb⟩
  have Xv_14 := Lib.hid (Xv_13.out.later hb)
  have Xx_14 := Lib.hid (Xx_13.out.later hb)
  have Ow_14 := Lib.hid (Ow_13.out.later hb)
  have Ox_14 := Lib.hid (Ox_13.out.later hb)
  have Og0_14 := Lib.hid (Og0_13.out.later hb)
  have Oz_14 := Lib.hid (Oz_13x.out.later hb)
  have BW_14 : Hid (Below w.heap.size w w12) := Lib.hid (BW_13.out.trans (hb.mono BW_13.out.size))
  have SZ_w12 : Hid (w11.heap.size ≤ w12.heap.size) := Lib.hid hb.size
  clear hb Xv_13 Xx_13 Ow_13 Ox_13 Og0_13 Oz_13x BW_13
  have Oh0_14x := Lib.hid ho
  clear ho
  clear Oz_14
  have dv0 := Xv_14.out.cell (j := 0) rfl
  have dx0 := Xx_14.out.cell (j := 0) rfl
  go_wp2_with fail
  clear dv0 dx0
  refine (eqStrS_any _ _ r _ Oh0_14x.out.rd Ow_14.out.rd HRZ.out).mono ?_
  rintro e w13 ⟨rfl, hb⟩
  have Xv_15 := Lib.hid (Xv_14.out.later hb)
  have Xx_15 := Lib.hid (Xx_14.out.later hb)
  have Ow_15 := Lib.hid (Ow_14.out.later hb)
  have Ox_15 := Lib.hid (Ox_14.out.later hb)
  have Og0_15 := Lib.hid (Og0_14.out.later hb)
  have Oh0_15 := Lib.hid (Oh0_14x.out.later hb)
  have BW_15 : Hid (Below w.heap.size w w13) := Lib.hid (BW_14.out.trans (hb.mono BW_14.out.size))
  have SZ_w13 : Hid (w12.heap.size ≤ w13.heap.size) := Lib.hid hb.size
  clear hb Xv_14 Xx_14 Ow_14 Ox_14 Og0_14 Oh0_14x BW_14
  have dv0 := Xv_15.out.cell (j := 0) rfl
  have dx0 := Xx_15.out.cell (j := 0) rfl
  go_wp2_with fail
  clear dv0 dx0
  refine (heldStrS_any _ r 1 _ _ (by rfl) (by decide) HRC.out HRZ.out Og0_15.out.rd).mono ?_
  rintro e w14 ⟨he, hb⟩
  rw [HC_m.out] at he
  subst he
  have Xv_16 := Lib.hid (Xv_15.out.later hb)
  have Xx_16 := Lib.hid (Xx_15.out.later hb)
  have Ow_16 := Lib.hid (Ow_15.out.later hb)
  have Ox_16 := Lib.hid (Ox_15.out.later hb)
  have Og0_16 := Lib.hid (Og0_15.out.later hb)
  have Oh0_16 := Lib.hid (Oh0_15.out.later hb)
  have BW_16 : Hid (Below w.heap.size w w14) := Lib.hid (BW_15.out.trans (hb.mono BW_15.out.size))
  have SZ_w14 : Hid (w13.heap.size ≤ w14.heap.size) := Lib.hid hb.size
  clear hb Xv_15 Xx_15 Ow_15 Ox_15 Og0_15 Oh0_15 BW_15
  go_wp2
  go_ret
  exact ⟨rfl, BW_16.out⟩
set_option maxRecDepth 100000 in
set_option maxHeartbeats 1000000 in
theorem kidsOf_law_all (v : ViewR) (a0_v : Option Addr) (c0_v : Nat) (p : ByteArray) (w : World) (ht_v : TyL (cView.cels v)) (h0_v : (celRow cItem v.items).Rd w (.slice a0_v v.items.length c0_v)) (hE : ErrIs w) :
    Calls Tryd.prog 3 #[.agg #[.slice a0_v v.items.length c0_v], .string p] w fun e w' => e = .returned (.bool true) ∧ Below w.heap.size w w' := by
  by_cases hqp : p.size ≤ 1048576
  case neg =>
    have hnp : 1048576 < p.size := by omega
    go_enter Tryd.func3, Tryd.ntmps3
    go_wp2
    go_ret
    exact ⟨rfl, below_bk w _⟩
  exact kidsOf_law v a0_v c0_v p w ht_v h0_v hqp hE
end Go.Proofs.YtkfkjcadmdcbnaaDoor
namespace Go.Proofs.YtkfkjcadmdcbnaaDoor
open Go.Deep Go.ChangeShapes Go.WideShapes Go.RowKit

theorem add_at1 (a : Addr) (k : Nat) (h : a.spot = none) : a.add k = ⟨a.block, a.off + k, none⟩ := by
  obtain ⟨b, o, s⟩ := a
  simp only at h
  subst h
  unfold Addr.add
  split <;> simp_all
/-- A row of elements that came in, for whatever element. -/
theorem row_of_cells {α : Type} [Inhabited α] (E : Enc α) {W : World} {ad : Addr} {len : Nat} (h0 : 0 < E.k) (each : ∀ i, i < len → ∃ s : α, W.cells? 0 (ad.add (i * E.k)) E.k = some (E.cells s)) :
    ∃ L : List α, SrcE E W (some ad) len L ∧ (∀ i, i < len → W.cells? 0 (ad.add (i * E.k)) E.k = some (E.cells (L.getD i default))) := by
  obtain ⟨S, hS⟩ := choose_lt each
  have hget : ∀ i, i < len → ((List.range len).map S).getD i default = S i := fun i hi => by simp [List.getD, hi]
  refine ⟨(List.range len).map S, ⟨by simp, fun j hj => ?_⟩, fun i hi => by rw [hget i hi]; exact hS i hi⟩
  rw [hget j hj]
  have hj3 := (World.cells?_some (hS j hj)).2.2
  have e0 := hj3 0 h0
  have hlen := E.len (S j)
  rw [show (E.cells (S j))[0]? = some ((E.cells (S j))[0]'(by omega)) from List.getElem?_eq_getElem _] at e0
  have h00 := (World.cells?_some (hS 0 (by omega))).2.2 0 h0
  have hlen0 := E.len (S 0)
  rw [show (E.cells (S 0))[0]? = some ((E.cells (S 0))[0]'(by omega)) from List.getElem?_eq_getElem _] at h00
  have hspot : ad.spot = none := by
    have := World.cell?_spot h00
    simpa [Addr.add] using this
  simp only [add_add] at e0 hj3
  rw [add_at1 ad _ hspot] at e0
  have hb : ad.block < W.heap.size := by
    rcases Nat.lt_or_ge ad.block W.heap.size with hlt | hge
    · exact hlt
    · simp [World.cell?, Array.getElem?_eq_none hge] at e0
  refine ⟨ad.block, ad.off, by obtain ⟨b, o, s⟩ := ad; simp only at hspot; rw [hspot], hb, fun o v hv => ?_⟩
  have ho : o < E.k := by
    rcases Nat.lt_or_ge o E.k with h | h
    · exact h
    · rw [List.getElem?_eq_none (by omega)] at hv; cases hv
  have e1 := hj3 o ho
  rw [add_at1 ad _ hspot, hv] at e1
  rw [Nat.add_assoc]
  exact e1
end Go.Proofs.YtkfkjcadmdcbnaaDoor
namespace Go.Proofs.YtkfkjcadmdcbnaaDoor
open Go.Deep Go.ChangeShapes Go.WideShapes Go.RowKit

theorem RdL.append {w : World} : ∀ (A B : List Cel) (us vs : List Value), RdL w A us → RdL w B vs → RdL w (A ++ B) (us ++ vs)
  | [], _, _, _, h, h2 => by rw [show _ = [] from h]; exact h2
  | c :: A, B, _, vs, ⟨v, r, hv, h1, h2⟩, h => by
    rw [hv]
    exact ⟨v, r ++ vs, rfl, h1, RdL.append A B r vs h2 h⟩
theorem flat_rd {α : Type} {E : EncC α} {W : World} {S : Nat → α × List Value} : ∀ l : List Nat, (∀ i ∈ l, RdL W (E.cels (S i).1) (S i).2) → RdL W (celsE E (l.map fun i => (S i).1)) (l.flatMap fun i => (S i).2)
  | [], _ => rfl
  | i :: l, h => by
    rw [List.map_cons, List.flatMap_cons, celsE]
    exact RdL.append _ _ _ _ (h i List.mem_cons_self) (flat_rd l fun j hj => h j (List.mem_cons_of_mem _ hj))
theorem flat_ty {α : Type} {E : EncC α} {S : Nat → α × List Value} : ∀ l : List Nat, (∀ i ∈ l, TyL (E.cels (S i).1)) → TyL (celsE E (l.map fun i => (S i).1))
  | [], _ => trivial
  | i :: l, h => by
    rw [List.map_cons, celsE]
    exact (TyL_append _ _).2 ⟨h i List.mem_cons_self, flat_ty l fun j hj => h j (List.mem_cons_of_mem _ hj)⟩
theorem flat_len {f : Nat → List Value} {k : Nat} : ∀ n, (∀ i, i < n → (f i).length = k) → ((List.range n).flatMap f).length = n * k
  | 0, _ => by simp
  | n + 1, h => by
    rw [List.range_succ, List.flatMap_append, List.length_append, flat_len n (fun i hi => h i (by omega)), List.flatMap_singleton, h n (by omega), Nat.add_mul, Nat.one_mul]
theorem flat_at {f : Nat → List Value} {k : Nat} : ∀ (n j : Nat) (u : Value), (∀ i, i < n → (f i).length = k) → ((List.range n).flatMap f)[j]? = some u → ∃ i o, i < n ∧ o < k ∧ j = i * k + o ∧ (f i)[o]? = some u
  | 0, j, u, _, h => by simp at h
  | n + 1, j, u, hk, h => by
    have hl := flat_len n (fun i hi => hk i (Nat.lt_succ_of_lt hi))
    rw [List.range_succ, List.flatMap_append] at h
    by_cases hj : j < n * k
    · rw [List.getElem?_append_left (by rw [hl]; exact hj)] at h
      obtain ⟨i, o, h1, h2, h3, h4⟩ := flat_at n j u (fun i hi => hk i (by omega)) h
      exact ⟨i, o, by omega, h2, h3, h4⟩
    · rw [List.getElem?_append_right (by rw [hl]; omega), hl, List.flatMap_singleton] at h
      have ho : j - n * k < k := by
        have := (List.getElem?_eq_some_iff.1 h).1
        rwa [hk n (by omega)] at this
      exact ⟨n, j - n * k, by omega, ho, by omega, h⟩
theorem rowC_of_cells {α : Type} [Inhabited α] (E : EncC α) {W : World} {ad : Addr} {len cap : Nat} (h0 : 0 < E.k) (hl : len ≤ 9223372036854775807)
    (each : ∀ i, i < len → ∃ p : α × List Value, W.cells? 0 (ad.add (i * E.k)) E.k = some p.2 ∧ RdL W (E.cels p.1) p.2 ∧ TyL (E.cels p.1)) :
    ∃ L : List α, (celRow E L).Rd W (.slice (some ad) len cap) ∧ (celRow E L).Ty := by
  rcases Nat.eq_zero_or_pos len with rfl | hpos
  · exact ⟨[], ⟨by simp [celsE], some ad, cap, [], rfl, rfl, .inl rfl⟩, by show (0 ≤ _) ∧ True; exact ⟨by omega, trivial⟩⟩
  obtain ⟨S, hS⟩ := choose_lt each
  have hlen : ∀ i, i < len → (S i).2.length = E.k := fun i hi => by rw [RdL.length _ _ (hS i hi).2.1, E.len]
  have hat : ∀ i, i < len → ∀ o u, (S i).2[o]? = some u → W.cell? ((ad.add (i * E.k)).add o) = some u := fun i hi o u hu => by
    have hj3 := (World.cells?_some (hS i hi).1).2.2
    have ho : o < E.k := by
      have := (List.getElem?_eq_some_iff.1 hu).1
      rwa [hlen i hi] at this
    rw [hj3 o ho]
    exact hu
  have hspot : ad.spot = none := by
    have h9 := hlen 0 hpos
    have h00 := hat 0 hpos 0 ((S 0).2[0]'(by omega)) (List.getElem?_eq_getElem _)
    have := World.cell?_spot h00
    simpa [Addr.add] using this
  have hat2 : ∀ i, i < len → ∀ o u, (S i).2[o]? = some u → W.cell? ⟨ad.block, ad.off + (i * E.k + o), none⟩ = some u := fun i hi o u hu => by
    have h9 := hat i hi o u hu
    rw [add_add, add_at1 ad _ hspot] at h9
    exact h9
  have hb : ad.block < W.heap.size := by
    have h9 := hlen 0 hpos
    have h00 := hat2 0 hpos 0 ((S 0).2[0]'(by omega)) (List.getElem?_eq_getElem _)
    rcases Nat.lt_or_ge ad.block W.heap.size with hlt | hge
    · exact hlt
    · simp [World.cell?, Array.getElem?_eq_none hge] at h00
  have hml : ((List.range len).map fun i => (S i).1).length = len := by simp
  refine ⟨(List.range len).map fun i => (S i).1, ?_, ?_⟩
  · unfold celRow
    rw [hml]
    refine ⟨by rw [celsE_length, hml], some ad, cap, (List.range len).flatMap fun i => (S i).2, rfl, flat_rd _ (fun i hi => (hS i (List.mem_range.1 hi)).2.1), .inr ⟨ad.block, ad.off, ?_, hb, fun j u hu => ?_⟩⟩
    · obtain ⟨b, o, s⟩ := ad; simp only at hspot; rw [hspot]
    · obtain ⟨i, o, h1, h2, rfl, h4⟩ := flat_at len j u hlen hu
      exact hat2 i h1 o u h4
  · unfold celRow
    rw [hml]
    exact ⟨hl, flat_ty _ (fun i hi => (hS i (List.mem_range.1 hi)).2.2)⟩
end Go.Proofs.YtkfkjcadmdcbnaaDoor
namespace Go.Proofs.YtkfkjcadmdcbnaaDoor
open Go.Deep Go.ChangeShapes Go.WideShapes Go.RowKit

theorem cellsStrT : Tryd.prog.cellsOf 9 = 1 := by kernel_rfl
theorem Str_trod {H : Type} {enc : TypeId × Value → H} {W : World} {base fuel : Nat} {sp : Nat → Bool} {held : Bool} {cs : List Value} {x : DataW H × List MemPlace} (h : DataW.trod enc Tryd.prog W base sp held fuel 9 cs = some x) : ∃ s : ByteArray, RdL W (cStr.cels s) cs ∧ TyL (cStr.cels s) := by
  obtain ⟨s, e, _, b⟩ := DataW.trod_string Tryd.underlying9 h
  subst e
  exact ⟨s, ⟨_, _, rfl, rfl, rfl⟩, b, trivial⟩
end Go.Proofs.YtkfkjcadmdcbnaaDoor
namespace Go.Proofs.YtkfkjcadmdcbnaaDoor
open Go.RowKit Go.Proofs.YtkfkjcadmdcbnaaDoor.Parts Go.Proofs.YtkfkjcadmdcbnaaDoor.Hexa

def cBool : EncC Bool := ⟨4, 1, fun x => [.val (.bool x)], fun _ => rfl⟩
end Go.Proofs.YtkfkjcadmdcbnaaDoor
namespace Go.Proofs.YtkfkjcadmdcbnaaDoor
open Go.Deep Go.ChangeShapes Go.WideShapes Go.RowKit

theorem cellsBoolT : Tryd.prog.cellsOf 4 = 1 := by kernel_rfl
theorem Bool_trod {H : Type} {enc : TypeId × Value → H} {W : World} {base fuel : Nat} {sp : Nat → Bool} {held : Bool} {cs : List Value} {x : DataW H × List MemPlace} (h : DataW.trod enc Tryd.prog W base sp held fuel 4 cs = some x) : ∃ s : Bool, RdL W (cBool.cels s) cs ∧ TyL (cBool.cels s) := by
  obtain ⟨s, e, _⟩ := DataW.trod_bool Tryd.underlying4 h
  subst e
  exact ⟨s, ⟨_, _, rfl, rfl, rfl⟩, trivial, trivial⟩
end Go.Proofs.YtkfkjcadmdcbnaaDoor
namespace Go.Proofs.YtkfkjcadmdcbnaaDoor
open Go.Deep Go.ChangeShapes Go.WideShapes Go.RowKit

theorem cellsItemT : Tryd.prog.cellsOf 63 = 3 := by kernel_rfl
set_option maxRecDepth 100000 in
theorem Item_trod {H : Type} {enc : TypeId × Value → H} {W : World} {fuel : Nat} {cs : List Value} {x : DataW H × List MemPlace} (h : DataW.trod enc Tryd.prog W 0 (fun _ => true) true fuel 63 cs = some x) : ∃ s : ItemR, RdL W (cItem.cels s) cs ∧ TyL (cItem.cels s) := by
  obtain ⟨xs, n, _, _, hl, hlen, hg⟩ := DataW.trod_struct Tryd.underlying63 h
  have hl' : cs.length = 3 := hl.trans cellsItemT
  clear hl h
  match cs, hl' with
  | [c0, c1, c2], _ =>
    match xs, hlen with
    | [y0, y1, y2], _ =>
      have g0 : DataW.trod enc Tryd.prog W 0 (fun _ => true) true n 9 [c0] = some y0 := by have h := hg 0 _ rfl; simpa [cellsStrT, Value.cells] using h
      have g1 : DataW.trod enc Tryd.prog W 0 (fun _ => true) true n 4 [c1] = some y1 := by have h := hg 1 _ rfl; simpa [cellsBoolT, Value.cells] using h
      have g2 : DataW.trod enc Tryd.prog W 0 (fun _ => true) true n 9 [c2] = some y2 := by have h := hg 2 _ rfl; simpa [cellsStrT, Value.cells] using h
      obtain ⟨s0, ⟨_, _, e0, r0, q0⟩, t0, _⟩ := Str_trod g0
      obtain ⟨s1, ⟨_, _, e1, r1, q1⟩, t1, _⟩ := Bool_trod g1
      obtain ⟨s2, ⟨_, _, e2, r2, q2⟩, t2, _⟩ := Str_trod g2
      exact ⟨⟨s0, s1, s2⟩, ⟨_, _, rfl, by have h9 := List.head_eq_of_cons_eq e0; rw [h9]; exact r0, ⟨_, _, rfl, by have h9 := List.head_eq_of_cons_eq e1; rw [h9]; exact r1, ⟨_, _, rfl, by have h9 := List.head_eq_of_cons_eq e2; rw [h9]; exact r2, rfl⟩⟩⟩, t0, t1, t2, trivial⟩
end Go.Proofs.YtkfkjcadmdcbnaaDoor
namespace Go.Proofs.YtkfkjcadmdcbnaaDoor
open Go.Deep Go.ChangeShapes Go.WideShapes Go.RowKit

theorem cellsItemST : Tryd.prog.cellsOf 22 = 1 := by kernel_rfl
theorem ItemS_trod {H : Type} {enc : TypeId × Value → H} {W : World} {fuel : Nat} {v : Value} {x : DataW H × List MemPlace} (h : DataW.trod enc Tryd.prog W 0 (fun _ => true) true fuel 22 [v] = some x) : ∃ L, (celRow cItem L).Rd W v ∧ (celRow cItem L).Ty := by
  rcases open_slice Tryd.underlying22 h with ⟨hcs, _⟩ | ⟨ad, l, c, m, n, D, Pl, hcs, _, hl, hm, hmm, _, hx⟩
  · simp only [List.cons.injEq, and_true] at hcs
    subst hcs
    exact ⟨[], ⟨rfl, none, 0, [], rfl, rfl, .inl rfl⟩, by show (0 ≤ _) ∧ True; exact ⟨by omega, trivial⟩⟩
  · simp only [List.cons.injEq, and_true] at hcs
    subst hcs
    simp at hmm
    rw [cellsItemT] at hx
    exact rowC_of_cells cItem (by decide) (Nat.le_trans hl (Nat.le_trans hm (by decide))) (fun i hi => by
      obtain ⟨cs, h1, h2⟩ := hx i (by omega)
      obtain ⟨s, h3, h4⟩ := Item_trod h2
      exact ⟨(s, cs), h1, h3, h4⟩)
end Go.Proofs.YtkfkjcadmdcbnaaDoor
namespace Go.Proofs.YtkfkjcadmdcbnaaDoor
open Go.Deep Go.ChangeShapes Go.WideShapes Go.RowKit

theorem cellsViewT : Tryd.prog.cellsOf 24 = 1 := by kernel_rfl
set_option maxRecDepth 100000 in
theorem View_trod {H : Type} {enc : TypeId × Value → H} {W : World} {fuel : Nat} {cs : List Value} {x : DataW H × List MemPlace} (h : DataW.trod enc Tryd.prog W 0 (fun _ => true) true fuel 24 cs = some x) : ∃ s : ViewR, RdL W (cView.cels s) cs ∧ TyL (cView.cels s) := by
  obtain ⟨xs, n, _, _, hl, hlen, hg⟩ := DataW.trod_struct Tryd.underlying24 h
  have hl' : cs.length = 1 := hl.trans cellsViewT
  clear hl h
  match cs, hl' with
  | [c0], _ =>
    match xs, hlen with
    | [y0], _ =>
      have g0 : DataW.trod enc Tryd.prog W 0 (fun _ => true) true n 22 [c0] = some y0 := by have h := hg 0 _ rfl; simpa [cellsItemST, Value.cells] using h
      obtain ⟨s0, r0, t0⟩ := ItemS_trod g0
      exact ⟨⟨s0⟩, ⟨_, _, rfl, r0, rfl⟩, t0, trivial⟩
end Go.Proofs.YtkfkjcadmdcbnaaDoor
namespace Go.Proofs.YtkfkjcadmdcbnaaDoor
open Go.Deep Go.ChangeShapes Go.WideShapes Go.RowKit

set_option maxRecDepth 100000 in
/-- One that came in. -/
theorem View_of_trod {H : Type} {enc : TypeId × Value → H} {W : World} {r : Reach} {b0 : Nat} {v : Value} {d : DataW H} {p : List MemPlace} (hv : Value.okWide Tryd.prog W r b0 24 v) (h : DataW.Trod enc Tryd.prog W 0 (fun _ => true) true 24 v d p) :
    ∃ (s : ViewR) (a0 : Option Addr) (c0 : Nat), v = .agg #[.slice a0 s.items.length c0] ∧ TyL (cView.cels s) ∧ (celRow cItem s.items).Rd W (.slice a0 s.items.length c0) := by
  obtain ⟨cs, rfl, hsz⟩ := okWide_struct Tryd.underlying24 hv
  obtain ⟨l⟩ := cs
  obtain ⟨fuel, hf⟩ := h
  obtain ⟨s, h1, h2⟩ := View_trod hf
  obtain ⟨a0, c0, hv, h0x⟩ := cView_form h1
  have hv2 : l = _ := hv
  subst hv2
  exact ⟨s, a0, c0, rfl, h2, h0x⟩
end Go.Proofs.YtkfkjcadmdcbnaaDoor
