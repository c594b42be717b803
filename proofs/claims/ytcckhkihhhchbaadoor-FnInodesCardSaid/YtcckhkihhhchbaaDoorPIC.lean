/- Merged texts: Draw12B, AppE, App12, InoMath, RangeSpec, Long, ZeroSpec, NumTSpec, NumSpec, RecSpec, TextEq. -/
import Derived.Test.YtcckhkihhhchbaaDoorPIB
import Derived.Maps.AppendAt
import Derived.Lib.AppendZeros
import Derived.Lib.SliceRun
import Derived.Deep.AppendLies
import Derived.Deep.DeepCutAuto
import Derived.Deep.RegionHeld3
import Derived.Test.YtcckhkihhhchbaaDoorRows
import Derived.WalkKit
import Derived.WalkSpells
namespace Go.Proofs.YtcckhkihhhchbaaDoor
open Go.RowKit Go.Proofs.YtcckhkihhhchbaaDoor.Hexa Go.Proofs.YtcckhkihhhchbaaDoor.Byt
namespace Draw

/-- A new box beside the cursor, filled with what a draw returned. -/
theorem box_new {w w' : World} {c : Nat} {ad : Option Addr} {len cap : Nat} (cs : Array Value) (t : TypeId) (hc : Cur w' c ad len cap) (hs : Src w' c ad len) (hg : w.grownBy w' (some c)) : Cur (w'.alloc (.cells cs t)) c ad len cap ∧ Src (w'.alloc (.cells cs t)) c ad len ∧ w.grownBy (w'.alloc (.cells cs t)) (some c) ∧ Bk (w'.alloc (.cells cs t)) w'.heap.size cs t ∧ ¬ c = w'.heap.size ∧ w.heap.size ≤ w'.heap.size := by
  have hlt := cur_lt hc
  have ga := grown_alloc w' (.cells cs t) (some c)
  exact ⟨cur_grown hc (grown_alloc w' (.cells cs t) none) (by simp), src_grown hs ga hlt, grownBy_trans hg ga, Bk.alloc w' cs t, by omega, hg.size⟩

set_option maxRecDepth 100000 in
set_option maxHeartbeats 2000000 in
theorem anyRec12_any (c : Nat) (ad : Option Addr) (len cap : Nat) (w : World) (hlen : len ≤ 1048576) (hc : Cur w c ad len cap) (hs : Src w c ad len) :
    Calls Tryd.prog 73 #[.pointer (some ⟨c, 0, none⟩)] w (RecPost (fun r => r.f2.size ≤ 8) w c ad len cap) := by
  have hlt := cur_lt hc
  have ga := grown_alloc w (.cells #[.int .i64 0, .int .i64 0, .string ⟨#[]⟩] 36) (some c)
  have C0 := Lib.hid (cur_grown hc (grown_alloc w (.cells #[.int .i64 0, .int .i64 0, .string ⟨#[]⟩] 36) none) (by simp))
  have S0 := Lib.hid (src_grown hs ga hlt)
  have R0 := Lib.hid (Bk.alloc w #[.int .i64 0, .int .i64 0, .string ⟨#[]⟩] 36)
  have G0 := Lib.hid ga
  have HCN : Hid (¬ c = w.heap.size) := Lib.hid (by omega)
  have HLT := Lib.hid hlt
  clear hc hs ga
  go_enter Tryd.func73, Tryd.ntmps73
  go_wp2_with fail
  refine (rec12_any c ad len cap _ hlen C0.out S0.out).mono ?_
  rintro e w1 ⟨p, q, m, hok, rfl, hc1, hg1⟩
  have S1 := Lib.hid (src_grown S0.out hg1 (cur_lt C0.out))
  have C1 := Lib.hid hc1
  have G1 := Lib.hid (grownBy_trans G0.out hg1)
  have R1 := Lib.hid (bk_kept R0.out hg1 HCN.out)
  have HM : Hid (m.size ≤ 8) := Lib.hid (by have := hok.2.2; simp only at this; omega)
  obtain ⟨bx, hbx⟩ : ∃ b, w1.heap.size = b := ⟨_, rfl⟩
  obtain ⟨c2, s2, g2, x2, n2, z2⟩ := box_new #[.int .i64 p, .int .i64 q, .string m] 36 C1.out S1.out G1.out
  have R2 := Lib.hid (R1.out.later (below_bk w1 (.cells #[.int .i64 p, .int .i64 q, .string m] 36)))
  rw [hbx] at x2 n2 z2
  have C2 := Lib.hid c2
  have S2 := Lib.hid s2
  have G2 := Lib.hid g2
  have X2 := Lib.hid x2
  have HCX := Lib.hid n2
  have HWX : Hid (w.heap.size < bx) := Lib.hid (by have := R1.out.lt; omega)
  have hb1 : ¬ bx = w.heap.size := by have := HWX.out; omega
  have hb2 : ¬ w.heap.size = bx := by have := HWX.out; omega
  clear hc1 hg1 hok c2 s2 g2 x2 n2 z2
  go_wp2_with fail
  obtain ⟨w2, h2⟩ : ∃ x, x = w1.alloc (.cells #[.int .i64 p, .int .i64 q, .string m] 36) := ⟨_, rfl⟩
  rw [← h2] at C2 S2 G2 X2 R2 ⊢
  clear h2 hbx
  refine (below_small c ad len cap 8 _ hlen (by decide) (by decide) C2.out S2.out).mono ?_
  rintro e w3 ⟨x, x0, x1, rfl, hc3, hg3⟩
  have S3 := Lib.hid (src_grown S2.out hg3 (cur_lt C2.out))
  have C3 := Lib.hid hc3
  have G3 := Lib.hid (grownBy_trans G2.out hg3)
  have R3 := Lib.hid (bk_kept R2.out hg3 HCN.out)
  have X3 := Lib.hid (bk_kept X2.out hg3 HCX.out)
  clear hc3 hg3 x0 x1
  by_cases h0 : x = 0
  · subst h0
    go_wp2_with fail
    refine (pickNum_new c ad len cap 3 [0, 13, -1] _ _ w3 rfl hlen (by decide) (by decide) rfl C3.out S3.out).mono ?_
    rintro e w4 ⟨z, _, rfl, hc4, hg4⟩
    have S4 := Lib.hid (src_grown S3.out hg4 (cur_lt C3.out))
    have C4 := Lib.hid hc4
    have G4 := Lib.hid (grownBy_trans G3.out hg4)
    have R4 := Lib.hid (bk_kept R3.out hg4 HCN.out)
    have X4 := Lib.hid (bk_kept X3.out hg4 HCX.out)
    have y := X4.out.cell (j := 0) rfl
    have fy := X4.out.fr (o := 0)
    have hk5 := set_kept bx 0 (.int .i64 z) C4.out G4.out HCX.out (Nat.le_of_lt HWX.out)
    have C5 := Lib.hid hk5.1
    have G5 := Lib.hid hk5.2
    have X5 := Lib.hid (X4.out.set 0 (.int .i64 z))
    have R5 := Lib.hid (R4.out.other (c := bx) (o := 0) (by have := HWX.out; omega) (.int .i64 z))
    clear hc4 hg4 hk5
    have x0 := X5.out.cell (j := 0) rfl
    have x1 := X5.out.cell (j := 1) rfl
    have x2 := X5.out.cell (j := 2) rfl
    have r0 := R5.out.cell (j := 0) rfl
    have f0 := R5.out.fr (o := 0)
    have r1 := R5.out.cell (j := 1) rfl
    have f1 := R5.out.fr (o := 1)
    have r2 := R5.out.cell (j := 2) rfl
    have f2 := R5.out.fr (o := 2)
    have qf := (((R5.out.set 0 (.int .i64 z)).set 1 (.int .i64 q)).set 2 (.string m))
    have q0 := qf.cell (j := 0) (v := .int .i64 z) rfl
    have q1 := qf.cell (j := 1) (v := .int .i64 q) rfl
    have q2 := qf.cell (j := 2) (v := .string m) rfl
    have RZ := Lib.hid (sets_kept w.heap.size 0 [.int .i64 z, .int .i64 q, .string m] C5.out G5.out HCN.out (Nat.le_refl _))
    clear qf
    go_wp2
    refine bodyPost_ret (v := .agg #[.int .i64 z, .int .i64 q, .string m]) ?_ rfl ⟨_, _, _, HM.out, rfl, RZ.out.1, RZ.out.2⟩
    simp [results, Tryd.results73, go_sem, q0, q1, q2]
  have e0 : (x == 0) = false := by simpa using h0
  by_cases h1 : x = 1
  · subst h1
    go_wp2_with fail
    refine (pickNum_new c ad len cap 3 [0, 16777215, 16777216] _ _ w3 rfl hlen (by decide) (by decide) rfl C3.out S3.out).mono ?_
    rintro e w4 ⟨z, _, rfl, hc4, hg4⟩
    have S4 := Lib.hid (src_grown S3.out hg4 (cur_lt C3.out))
    have C4 := Lib.hid hc4
    have G4 := Lib.hid (grownBy_trans G3.out hg4)
    have R4 := Lib.hid (bk_kept R3.out hg4 HCN.out)
    have X4 := Lib.hid (bk_kept X3.out hg4 HCX.out)
    have y := X4.out.cell (j := 1) rfl
    have fy := X4.out.fr (o := 1)
    have hk5 := set_kept bx 1 (.int .i64 z) C4.out G4.out HCX.out (Nat.le_of_lt HWX.out)
    have C5 := Lib.hid hk5.1
    have G5 := Lib.hid hk5.2
    have X5 := Lib.hid (X4.out.set 1 (.int .i64 z))
    have R5 := Lib.hid (R4.out.other (c := bx) (o := 1) (by have := HWX.out; omega) (.int .i64 z))
    clear hc4 hg4 hk5
    have x0 := X5.out.cell (j := 0) rfl
    have x1 := X5.out.cell (j := 1) rfl
    have x2 := X5.out.cell (j := 2) rfl
    have r0 := R5.out.cell (j := 0) rfl
    have f0 := R5.out.fr (o := 0)
    have r1 := R5.out.cell (j := 1) rfl
    have f1 := R5.out.fr (o := 1)
    have r2 := R5.out.cell (j := 2) rfl
    have f2 := R5.out.fr (o := 2)
    have qf := (((R5.out.set 0 (.int .i64 p)).set 1 (.int .i64 z)).set 2 (.string m))
    have q0 := qf.cell (j := 0) (v := .int .i64 p) rfl
    have q1 := qf.cell (j := 1) (v := .int .i64 z) rfl
    have q2 := qf.cell (j := 2) (v := .string m) rfl
    have RZ := Lib.hid (sets_kept w.heap.size 0 [.int .i64 p, .int .i64 z, .string m] C5.out G5.out HCN.out (Nat.le_refl _))
    clear qf
    go_wp2
    refine bodyPost_ret (v := .agg #[.int .i64 p, .int .i64 z, .string m]) ?_ rfl ⟨_, _, _, HM.out, rfl, RZ.out.1, RZ.out.2⟩
    simp [results, Tryd.results73, go_sem, q0, q1, q2]
  have e1 : (x == 1) = false := by simpa using h1
  by_cases h2 : x = 2
  · subst h2
    go_wp2_with fail
    refine (below_small c ad len cap 6 _ hlen (by decide) (by decide) C3.out S3.out).mono ?_
    rintro e w4 ⟨u, u0, u1, rfl, hc4, hg4⟩
    have S4 := Lib.hid (src_grown S3.out hg4 (cur_lt C3.out))
    have C4 := Lib.hid hc4
    have G4 := Lib.hid (grownBy_trans G3.out hg4)
    have R4 := Lib.hid (bk_kept R3.out hg4 HCN.out)
    have X4 := Lib.hid (bk_kept X3.out hg4 HCX.out)
    obtain ⟨k, rfl⟩ : ∃ k : Nat, u = k := ⟨u.toNat, by omega⟩
    have hk : k < 6 := by omega
    clear hc4 hg4 u0 u1
    go_wp2_with fail
    refine (text_any c ad len cap k _ hlen (by omega) C4.out S4.out).mono ?_
    rintro e w5 ⟨v, ⟨m2, rfl, hm2⟩, rfl, hc5, hg5⟩
    have S5 := Lib.hid (src_grown S4.out hg5 (cur_lt C4.out))
    have C5 := Lib.hid hc5
    have G5 := Lib.hid (grownBy_trans G4.out hg5)
    have R5 := Lib.hid (bk_kept R4.out hg5 HCN.out)
    have X5 := Lib.hid (bk_kept X4.out hg5 HCX.out)
    have HM2 : Hid (m2.size ≤ 8) := Lib.hid (by omega)
    have y := X5.out.cell (j := 2) rfl
    have fy := X5.out.fr (o := 2)
    have hk6 := set_kept bx 2 (.string m2) C5.out G5.out HCX.out (Nat.le_of_lt HWX.out)
    have C6 := Lib.hid hk6.1
    have G6 := Lib.hid hk6.2
    have X6 := Lib.hid (X5.out.set 2 (.string m2))
    have R6 := Lib.hid (R5.out.other (c := bx) (o := 2) (by have := HWX.out; omega) (.string m2))
    clear hc5 hg5 hk6 hm2
    have x0 := X6.out.cell (j := 0) rfl
    have x1 := X6.out.cell (j := 1) rfl
    have x2 := X6.out.cell (j := 2) rfl
    have r0 := R6.out.cell (j := 0) rfl
    have f0 := R6.out.fr (o := 0)
    have r1 := R6.out.cell (j := 1) rfl
    have f1 := R6.out.fr (o := 1)
    have r2 := R6.out.cell (j := 2) rfl
    have f2 := R6.out.fr (o := 2)
    have qf := (((R6.out.set 0 (.int .i64 p)).set 1 (.int .i64 q)).set 2 (.string m2))
    have q0 := qf.cell (j := 0) (v := .int .i64 p) rfl
    have q1 := qf.cell (j := 1) (v := .int .i64 q) rfl
    have q2 := qf.cell (j := 2) (v := .string m2) rfl
    have RZ := Lib.hid (sets_kept w.heap.size 0 [.int .i64 p, .int .i64 q, .string m2] C6.out G6.out HCN.out (Nat.le_refl _))
    clear qf
    go_wp2
    refine bodyPost_ret (v := .agg #[.int .i64 p, .int .i64 q, .string m2]) ?_ rfl ⟨_, _, _, HM2.out, rfl, RZ.out.1, RZ.out.2⟩
    simp [results, Tryd.results73, go_sem, q0, q1, q2]
  have e2 : (x == 2) = false := by simpa using h2
  clear h0 h1 h2
  have x0 := X3.out.cell (j := 0) rfl
  have x1 := X3.out.cell (j := 1) rfl
  have x2 := X3.out.cell (j := 2) rfl
  have r0 := R3.out.cell (j := 0) rfl
  have f0 := R3.out.fr (o := 0)
  have r1 := R3.out.cell (j := 1) rfl
  have f1 := R3.out.fr (o := 1)
  have r2 := R3.out.cell (j := 2) rfl
  have f2 := R3.out.fr (o := 2)
  have qf := (((R3.out.set 0 (.int .i64 p)).set 1 (.int .i64 q)).set 2 (.string m))
  have q0 := qf.cell (j := 0) (v := .int .i64 p) rfl
  have q1 := qf.cell (j := 1) (v := .int .i64 q) rfl
  have q2 := qf.cell (j := 2) (v := .string m) rfl
  have RZ := Lib.hid (sets_kept w.heap.size 0 [.int .i64 p, .int .i64 q, .string m] C3.out G3.out HCN.out (Nat.le_refl _))
  clear qf
  go_wp2
  refine bodyPost_ret (v := .agg #[.int .i64 p, .int .i64 q, .string m]) ?_ rfl ⟨_, _, _, HM.out, rfl, RZ.out.1, RZ.out.2⟩
  simp [results, Tryd.results73, go_sem, q0, q1, q2]

set_option maxRecDepth 100000 in
set_option maxHeartbeats 2000000 in
theorem name12_any (c : Nat) (ad : Option Addr) (len cap : Nat) (w : World) (hlen : len ≤ 1048576) (hc : Cur w c ad len cap) (hs : Src w c ad len) :
    Calls Tryd.prog 101 #[.pointer (some ⟨c, 0, none⟩)] w (DrawPost (fun v => ∃ t : ByteArray, v = .string t ∧ t.size ≤ 8) w c ad len cap) := by
  have HC := Lib.hid hc
  have HS := Lib.hid hs
  clear hc hs
  go_enter Tryd.func101, Tryd.ntmps101
  go_wp2_with fail
  refine (pickNew_any c ad len cap 7 [⟨#[97]⟩, ⟨#[98]⟩, ⟨#[99]⟩, ⟨#[100]⟩, ⟨#[97, 98]⟩, ⟨#[120, 49]⟩, ⟨#[97, 98, 99, 100, 101, 102, 103]⟩] _ _ w rfl hlen (by decide) (by decide) rfl HC.out HS.out).mono ?_
  rintro e w1 ⟨z, hz, rfl, hc1, hg1⟩
  have C1 := Lib.hid hc1
  have G1 := Lib.hid hg1
  have HZ : Hid (z.size ≤ 8) := Lib.hid ((by decide : ∀ t ∈ ([⟨#[97]⟩, ⟨#[98]⟩, ⟨#[99]⟩, ⟨#[100]⟩, ⟨#[97, 98]⟩, ⟨#[120, 49]⟩, ⟨#[97, 98, 99, 100, 101, 102, 103]⟩] : List ByteArray), t.size ≤ 8) z hz)
  clear hc1 hg1 hz
  go_wp2
  go_ret
  exact ⟨_, ⟨z, rfl, HZ.out⟩, rfl, C1.out, G1.out⟩

set_option maxRecDepth 100000 in
set_option maxHeartbeats 2000000 in
theorem anyName12_any (c : Nat) (ad : Option Addr) (len cap : Nat) (w : World) (hlen : len ≤ 1048576) (hc : Cur w c ad len cap) (hs : Src w c ad len) :
    Calls Tryd.prog 96 #[.pointer (some ⟨c, 0, none⟩)] w (DrawPost (fun v => ∃ t : ByteArray, v = .string t ∧ t.size ≤ 8) w c ad len cap) := by
  have HC := Lib.hid hc
  have HS := Lib.hid hs
  clear hc hs
  go_enter Tryd.func96, Tryd.ntmps96
  go_wp2_with fail
  refine (once12_any c ad len cap 3 w hlen (by decide) (by decide) HC.out HS.out).mono ?_
  rintro e w1 ⟨v, ⟨b, rfl⟩, rfl, hc1, hg1⟩
  have C1 := Lib.hid hc1
  have S1 := Lib.hid (src_grown HS.out hg1 (cur_lt HC.out))
  have G1 := Lib.hid hg1
  clear hc1 hg1
  cases b
  · go_wp2_with fail
    refine (name12_any c ad len cap _ hlen C1.out S1.out).mono ?_
    rintro e w2 ⟨v, ⟨t, rfl, ht⟩, rfl, hc2, hg2⟩
    have C2 := Lib.hid hc2
    have G2 := Lib.hid (grownBy_trans G1.out hg2)
    have HZ := Lib.hid ht
    clear hc2 hg2 ht
    go_wp2
    go_ret
    exact ⟨_, ⟨t, rfl, HZ.out⟩, rfl, C2.out, G2.out⟩
  · go_wp2_with fail
    refine (pickNew_any c ad len cap 8 [⟨#[]⟩, ⟨#[65]⟩, ⟨#[97, 98, 99, 100, 101, 102, 103, 104]⟩, ⟨#[97, 32, 98]⟩, ⟨#[97, 47, 98]⟩, ⟨#[0]⟩, ⟨#[195, 169]⟩, ⟨#[97, 45, 98]⟩] _ _ w1 rfl hlen (by decide) (by decide) rfl C1.out S1.out).mono ?_
    rintro e w2 ⟨z, hz, rfl, hc2, hg2⟩
    have C2 := Lib.hid hc2
    have G2 := Lib.hid (grownBy_trans G1.out hg2)
    have HZ : Hid (z.size ≤ 8) := Lib.hid ((by decide : ∀ t ∈ ([⟨#[]⟩, ⟨#[65]⟩, ⟨#[97, 98, 99, 100, 101, 102, 103, 104]⟩, ⟨#[97, 32, 98]⟩, ⟨#[97, 47, 98]⟩, ⟨#[0]⟩, ⟨#[195, 169]⟩, ⟨#[97, 45, 98]⟩] : List ByteArray), t.size ≤ 8) z hz)
    clear hc2 hg2 hz
    go_wp2
    go_ret
    exact ⟨_, ⟨z, rfl, HZ.out⟩, rfl, C2.out, G2.out⟩

/-- A drawn entry. -/
def EntPost (P : EntryR → Prop) (w : World) (c : Nat) (ad : Option Addr) (len cap : Nat) (e : Ending) (w' : World) : Prop :=
  ∃ p m, P ⟨p, m⟩ ∧ e = .returned (.agg #[.int .i64 p, .string m]) ∧ Cur w' c ad len cap ∧ w.grownBy w' (some c)
set_option maxRecDepth 100000 in
set_option maxHeartbeats 2000000 in
theorem anyEntry12_any (c : Nat) (ad : Option Addr) (len cap : Nat) (w : World) (hlen : len ≤ 1048576) (hc : Cur w c ad len cap) (hs : Src w c ad len) :
    Calls Tryd.prog 74 #[.pointer (some ⟨c, 0, none⟩)] w (EntPost (fun r => r.f1.size ≤ 8) w c ad len cap) := by
  have hlt := cur_lt hc
  have ga := grown_alloc w (.cells #[.int .i64 0, .string ⟨#[]⟩] 41) (some c)
  have C0 := Lib.hid (cur_grown hc (grown_alloc w (.cells #[.int .i64 0, .string ⟨#[]⟩] 41) none) (by simp))
  have S0 := Lib.hid (src_grown hs ga hlt)
  have R0 := Lib.hid (Bk.alloc w #[.int .i64 0, .string ⟨#[]⟩] 41)
  have G0 := Lib.hid ga
  have HCN : Hid (¬ c = w.heap.size) := Lib.hid (by omega)
  have HLT := Lib.hid hlt
  clear hc hs ga
  go_enter Tryd.func74, Tryd.ntmps74
  go_wp2_with fail
  have hz9 : w.heap.size + 1 = (w.alloc (.cells #[.int .i64 0, .string ⟨#[]⟩] 41)).heap.size := by simp
  rw [hz9]
  clear hz9
  obtain ⟨W0, hw0⟩ : ∃ x, x = w.alloc (.cells #[.int .i64 0, .string ⟨#[]⟩] 41) := ⟨_, rfl⟩
  rw [← hw0] at C0 S0 R0 G0 ⊢
  clear hw0
  refine (pickNum_new c ad len cap 9 [1, 2, 3, 4, 5, 5, 0, 6, -1] _ _ W0 rfl hlen (by decide) (by decide) rfl C0.out S0.out).mono ?_
  rintro e w1 ⟨z, _, rfl, hc1, hg1⟩
  have S1 := Lib.hid (src_grown S0.out hg1 (cur_lt C0.out))
  have C1 := Lib.hid hc1
  have G1 := Lib.hid (grownBy_trans G0.out hg1)
  have R1 := Lib.hid (bk_kept R0.out hg1 HCN.out)
  clear hc1 hg1
  go_wp2_with fail
  refine (anyName12_any c ad len cap _ hlen C1.out S1.out).mono ?_
  rintro e w2 ⟨v, ⟨t, rfl, ht⟩, rfl, hc2, hg2⟩
  have S2 := Lib.hid (src_grown S1.out hg2 (cur_lt C1.out))
  have C2 := Lib.hid hc2
  have G2 := Lib.hid (grownBy_trans G1.out hg2)
  have R2 := Lib.hid (bk_kept R1.out hg2 HCN.out)
  have HM := Lib.hid ht
  clear hc2 hg2 ht
  have r0 := R2.out.cell (j := 0) rfl
  have f0 := R2.out.fr (o := 0)
  have r1 := R2.out.cell (j := 1) rfl
  have f1 := R2.out.fr (o := 1)
  have qf := ((R2.out.set 0 (.int .i64 z)).set 1 (.string t))
  have q0 := qf.cell (j := 0) (v := .int .i64 z) rfl
  have q1 := qf.cell (j := 1) (v := .string t) rfl
  have RZ := Lib.hid (sets_kept w.heap.size 0 [.int .i64 z, .string t] C2.out G2.out HCN.out (Nat.le_refl _))
  clear qf
  go_wp2
  refine bodyPost_ret (v := .agg #[.int .i64 z, .string t]) ?_ rfl ⟨z, t, HM.out, rfl, RZ.out.1, RZ.out.2⟩
  simp [results, Tryd.results74, go_sem, q0, q1]
end Draw
end Go.Proofs.YtcckhkihhhchbaaDoor
namespace Go.Proofs.YtcckhkihhhchbaaDoor
open Go.RowKit Go.Proofs.YtcckhkihhhchbaaDoor.Parts Go.Proofs.YtcckhkihhhchbaaDoor.Hexa

theorem SrcE.news {α : Type} [Inhabited α] {E : Enc α} {w : World} {p : Addr} {n : Nat} {L : List α} (h : SrcE E w (some p) n L) (hk0 : 0 < E.k) : ∀ j u, (cellsE E L)[j]? = some u → w.cell? (p.add j) = some u := by
  intro j u hu
  have hj : j < L.length * E.k := by
    rcases Nat.lt_or_ge j (L.length * E.k) with h | h
    · exact h
    · rw [List.getElem?_eq_none (by rw [cellsE_length]; exact h)] at hu; cases hu
  have hd : j = j / E.k * E.k + j % E.k := by rw [Nat.mul_comm]; exact (Nat.div_add_mod j E.k).symm
  have hq : j / E.k < L.length := (Nat.div_lt_iff_lt_mul hk0).2 hj
  have hr := Nat.mod_lt j hk0
  rw [hd, cellsE_at E L _ _ hq hr] at hu
  obtain ⟨g, off, e, _, c⟩ := h.cell (j / E.k) (by rw [← h.len]; exact hq)
  cases e
  have := c _ _ hu
  rw [Nat.add_assoc, ← hd] at this
  rw [Addr.add_lit]; exact this

/-- What an append gives: a slice that owns the cells, in the row that it had or in a new one. -/
def AppE (P : Program) (args : Array TypeId) (ty : TypeId) (vs : Array Value) (w : World) (B e k n : Nat) (xs : List Value) (v : Value) : Prop :=
  ∃ v' w', (Builtin.append_ args ty vs).run P w = .ok v' w' ∧ w'.ownsRow B e k v' n xs ∧ w.grownBy w' v.ownBlock ∧ (v'.ownBlock = v.ownBlock ∨ v'.ownBlock = some w.heap.size)

theorem run_append_nothing {P : Program} (w : World) (base : Nat) (t ty e : TypeId) (i : TypeInfo) (size : Nat) (ht : P.underlying t = some (.slice e)) (hi : P.info? e = some i)
    (v : Value) (n c : Nat) (xs : List Value) (hown : w.ownsRow base e size v n xs) :
    (Builtin.append_ #[t, t] ty #[v, .slice none 0 c]).run P w = .ok v w := by
  rcases hown.2 with ⟨rfl, rfl⟩ | ⟨g, cap, cur, rfl, _, _, hnc, _⟩
  · simp [Builtin.append_, run_underlying ht, sizeOf, typeInfo, hi, Builtin.lenOf, Builtin.firstCells]
  · simp [Builtin.append_, run_underlying ht, sizeOf, typeInfo, hi, Builtin.lenOf, Builtin.firstCells, hnc, storeCells]

theorem wpList_appE {P : Program} {ops : Array Oper} {rest : List Oper} {o : Oper} {a : Act} {w : World} {Q : Exit → Act → World → Prop} (hgd : o.guard = none) (s x : Operand) (t tn : TypeId)
    (ho : o.op = .call { callee := .builtin .append, args := #[s, x], argTypes := #[t, tn] }) (vs vx : Value) (hs : a.eval s = vs) (hx : a.eval x = vx) {B e k n : Nat} {xs : List Value}
    (hr : AppE P #[t, tn] o.type #[vs, vx] w B e k n xs vs) (h : ∀ v' w', w'.ownsRow B e k v' n xs → w.grownBy w' vs.ownBlock → (v'.ownBlock = vs.ownBlock ∨ v'.ownBlock = some w.heap.size) → wpList P ops Q rest (a.put o.dst v') w') : wpList P ops Q (o :: rest) a w := by
  obtain ⟨v', w', r, h1, h2, h3⟩ := hr
  exact Lib.wpList_append_run w hgd s x t tn ho vs vx hs hx v' w' r (h v' w' h1 h2 h3)
/-- At a step of a region that draws its order. -/
theorem step_appE {P : Program} {ops : Array Oper} {o : Oper} {a : Act} {w : World} {K : Act → World → Prop} {Q : Exit → Act → World → Prop} {E : Prop} (hgd : o.guard = none) (s x : Operand) (t tn : TypeId)
    (ho : o.op = .call { callee := .builtin .append, args := #[s, x], argTypes := #[t, tn] }) (vs vx : Value) (hs : a.eval s = vs) (hx : a.eval x = vx) {B e k n : Nat} {xs : List Value}
    (hr : AppE P #[t, tn] o.type #[vs, vx] w B e k n xs vs) (h : ∀ v' w', w'.ownsRow B e k v' n xs → w.grownBy w' vs.ownBlock → (v'.ownBlock = vs.ownBlock ∨ v'.ownBlock = some w.heap.size) → K (a.put o.dst v') w') :
    if Region.wanted o (yielded ops a.tmps) = true then Oper.wp P o a w K Q else E := by
  obtain ⟨v', w', r, h1, h2, h3⟩ := hr
  rw [if_pos (by simp [Region.wanted, hgd])]
  exact Lib.wp_append_run w s x t tn ho vs vx hs hx v' w' r (h v' w' h1 h2 h3)

end Go.Proofs.YtcckhkihhhchbaaDoor
namespace Go.Proofs.YtcckhkihhhchbaaDoor
open Go.RowKit Go.Proofs.YtcckhkihhhchbaaDoor.Parts Go.Proofs.YtcckhkihhhchbaaDoor.Hexa

theorem appRec1 (w : World) (ty : TypeId) (B : Nat) (v : Value) (n : Nat) (L : List RecR) (hown : w.ownsRow B 36 3 v n (cellsE encRec L)) (hB : B ≤ w.heap.size) (x : RecR) (hn : n ≤ 100000) :
    AppE Tryd.prog #[24, 24] ty #[v, .slice (some ⟨w.heap.size, 0, none⟩) 1 1] (w.alloc (.cells #[.int .i64 x.f0, .int .i64 x.f1, .string x.f2] 36)) B 36 3 (n + 1) (cellsE encRec (L ++ [x])) v := by
  obtain ⟨i0, hi, hz0, hz1, hz2⟩ := info_parts infoRec
  rw [cellsE_append, cellsE_one]
  obtain ⟨v', w', hr, h2, h3, _, h5⟩ := run_append_own_at (P := Tryd.prog) (w := w.alloc (.cells #[.int .i64 x.f0, .int .i64 x.f1, .string x.f2] 36)) B 24 ty 36 i0 _ 3 32 Tryd.underlying24 hi hz0 hz1 hz2 rfl (by decide) v n _ (own_below hown ((Below.refl _ _).alloc (Nat.le_refl _) _)) ⟨w.heap.size, 0, none⟩ 1 1 (encRec.cells x) rfl (World.news_of_block (heap_alloc_new _ _)) (encRec_one x) (by unfold maxLen; omega) (by omega) (by simp; omega)
  exact ⟨v', w', hr, h2, h3, h5⟩
theorem appEntry1 (w : World) (ty : TypeId) (B : Nat) (v : Value) (n : Nat) (L : List EntryR) (hown : w.ownsRow B 41 2 v n (cellsE encEntry L)) (hB : B ≤ w.heap.size) (x : EntryR) (hn : n ≤ 100000) :
    AppE Tryd.prog #[25, 25] ty #[v, .slice (some ⟨w.heap.size, 0, none⟩) 1 1] (w.alloc (.cells #[.int .i64 x.f0, .string x.f1] 41)) B 41 2 (n + 1) (cellsE encEntry (L ++ [x])) v := by
  obtain ⟨i0, hi, hz0, hz1, hz2⟩ := info_parts infoEntry
  rw [cellsE_append, cellsE_one]
  obtain ⟨v', w', hr, h2, h3, _, h5⟩ := run_append_own_at (P := Tryd.prog) (w := w.alloc (.cells #[.int .i64 x.f0, .string x.f1] 41)) B 25 ty 41 i0 _ 2 24 Tryd.underlying25 hi hz0 hz1 hz2 rfl (by decide) v n _ (own_below hown ((Below.refl _ _).alloc (Nat.le_refl _) _)) ⟨w.heap.size, 0, none⟩ 1 1 (encEntry.cells x) rfl (World.news_of_block (heap_alloc_new _ _)) (encEntry_one x) (by unfold maxLen; omega) (by omega) (by simp; omega)
  exact ⟨v', w', hr, h2, h3, h5⟩
end Go.Proofs.YtcckhkihhhchbaaDoor
namespace Go.Proofs.YtcckhkihhhchbaaDoor
open Go.RowKit Go.Proofs.YtcckhkihhhchbaaDoor.Parts Go.Proofs.YtcckhkihhhchbaaDoor.Hexa Go.Proofs.YtcckhkihhhchbaaDoor.Byt

structure InoR where
  kd : Int
  sz : Int
  gn : Int
  key : ByteArray
  R : List RecR
  E : List EntryR
def textLt (a b : ByteArray) : Bool := Op.bytesLess a.toList b.toList
def RecsOk (R : List RecR) (m : Nat) : Prop := ∀ j, j < m → RecOk (R.getD j default) ∧ ∀ k, k < j → (R.getD k default).f0 ≠ (R.getD j default).f0
def EntsOk (E : List EntryR) (m : Nat) : Prop := ∀ j, j < m → EntryOk (E.getD j default) ∧ (0 < j → textLt (E.getD (j - 1) default).f1 (E.getD j default).f1 = true)
def FreeOk (n : InoR) : Prop := n.sz = 0 ∧ n.key.size = 0 ∧ n.R.length = 0 ∧ n.E.length = 0
def FileOk (n : InoR) : Prop := (0 ≤ n.sz ∧ n.sz ≤ 128) ∧ n.key.size = 8 ∧ (n.R.length : Int) = pagesZ n.sz ∧ n.E.length = 0 ∧ RecsOk n.R n.R.length
def DirOk (n : InoR) : Prop := n.sz = 0 ∧ n.key.size = 0 ∧ n.R.length = 0 ∧ n.E.length ≤ 6 ∧ EntsOk n.E n.E.length
def InoOk (n : InoR) : Prop := (0 ≤ n.gn ∧ n.gn ≤ 65535) ∧ ((n.kd = 0 ∧ FreeOk n) ∨ (n.kd = 1 ∧ FileOk n) ∨ (n.kd = 2 ∧ DirOk n))
noncomputable def inoB (n : InoR) : Bool := @decide (InoOk n) (Classical.propDecidable _)
theorem inoB_yes {n : InoR} (h : InoOk n) : inoB n = true := by unfold inoB; exact @decide_eq_true _ (Classical.propDecidable _) h
theorem inoB_no {n : InoR} (h : ¬ InoOk n) : inoB n = false := by unfold inoB; exact @decide_eq_false _ (Classical.propDecidable _) h
theorem recsOk_step {R : List RecR} {m : Nat} (h : RecsOk R m) (h1 : RecOk (R.getD m default)) (h2 : ∀ k, k < m → (R.getD k default).f0 ≠ (R.getD m default).f0) : RecsOk R (m + 1) := fun j hj => by
  by_cases e : j = m
  · subst e; exact ⟨h1, h2⟩
  · exact h j (by omega)
theorem entsOk_step {E : List EntryR} {m : Nat} (h : EntsOk E m) (h1 : EntryOk (E.getD m default)) (h2 : 0 < m → textLt (E.getD (m - 1) default).f1 (E.getD m default).f1 = true) : EntsOk E (m + 1) := fun j hj => by
  by_cases e : j = m
  · subst e; exact ⟨h1, h2⟩
  · exact h j (by omega)

/-- The words of an inode. -/
def headB (n : InoR) : ByteArray := wordB (numTextB n.kd 1 ++ numTextB n.sz 2 ++ numTextB n.gn 2)
def zero8 : ByteArray := zeroB 8
def wordsI (n : InoR) : List ByteArray := [headB n, wordB n.key] ++ n.R.map recWordB ++ n.E.map entryWordB
noncomputable def inoWordsB (n : InoR) : List ByteArray := if inoB n = true then wordsI n ++ List.replicate (8 - (wordsI n).length) zero8 else []
theorem wordsI_le {n : InoR} (h : InoOk n) : (wordsI n).length ≤ 8 := by
  unfold wordsI
  simp only [List.length_append, List.length_map, List.length_cons, List.length_nil]
  obtain ⟨_, ⟨_, h0⟩ | ⟨_, h0⟩ | ⟨_, h0⟩⟩ := h
  · obtain ⟨_, _, h1, h2⟩ := h0; omega
  · obtain ⟨h1, _, h2, h3, _⟩ := h0
    have : pagesZ n.sz ≤ 4 := by unfold pagesZ; split <;> omega
    omega
  · obtain ⟨_, _, h1, h2, _⟩ := h0; omega
theorem entryWord_size {r : EntryR} (h : EntryOk r) : (entryWordB r).size = 8 := by
  obtain ⟨⟨h0, h1⟩, h2⟩ := h
  rw [entryWordB_yes ⟨⟨h0, h1⟩, h2⟩]
  have e1 : (numTextB r.f0 1).size = 1 := numText_size (k := 1) (by omega) (by omega) (by omega)
  have e2 : (numTextB r.f0 1 ++ r.f1).size ≤ 8 := by rw [ByteArray.size_append, e1]; have := h2.1.2; omega
  unfold wordB
  rw [if_pos e2, ByteArray.size_append, longB_size]
  omega
end Go.Proofs.YtcckhkihhhchbaaDoor
namespace Go.Proofs.YtcckhkihhhchbaaDoor
open Go.RowKit Go.Proofs.YtcckhkihhhchbaaDoor.Hexa Go.Proofs.YtcckhkihhhchbaaDoor.Byt Go.Proofs.YtcckhkihhhchbaaDoor.BitsM

set_option maxRecDepth 100000 in
set_option maxHeartbeats 400000 in
theorem range_any (n a b : Int) (w : World) : Calls Tryd.prog 40 #[.int .i64 n, .int .i64 a, .int .i64 b] w fun e w' => e = .returned (.bool (decide (a ≤ n ∧ n ≤ b))) ∧ w' = w := by
  by_cases h1 : a ≤ n <;> by_cases h2 : n ≤ b
  all_goals
    go_enter Tryd.func40, Tryd.ntmps40
    go_wp2
    all_goals go_ret
    all_goals exact ⟨by simp [h1, h2], rfl⟩
theorem range_yes {n a b : Int} (w : World) (h : a ≤ n ∧ n ≤ b) : Calls Tryd.prog 40 #[.int .i64 n, .int .i64 a, .int .i64 b] w fun e w' => e = .returned (.bool true) ∧ w' = w :=
  (range_any n a b w).mono fun _ _ ⟨he, hw⟩ => ⟨by rw [he, decide_eq_true h], hw⟩
theorem range_no {n a b : Int} (w : World) (h : ¬ (a ≤ n ∧ n ≤ b)) : Calls Tryd.prog 40 #[.int .i64 n, .int .i64 a, .int .i64 b] w fun e w' => e = .returned (.bool false) ∧ w' = w :=
  (range_any n a b w).mono fun _ _ ⟨he, hw⟩ => ⟨by rw [he, decide_eq_false h], hw⟩
end Go.Proofs.YtcckhkihhhchbaaDoor
namespace Go.Proofs.YtcckhkihhhchbaaDoor
open Go.RowKit Go.Proofs.YtcckhkihhhchbaaDoor.Hexa Go.Proofs.YtcckhkihhhchbaaDoor.Byt Go.Proofs.YtcckhkihhhchbaaDoor.BitsM

set_option maxRecDepth 100000 in
set_option maxHeartbeats 1000000 in
theorem long_any (n : Nat) (x : UInt8) (w : World) (hn : n ≤ 8000000) :
    Calls Tryd.prog 94 #[.int .i64 n, .int .u8 x.toNat] w fun e w' => e = .returned (.string (longB n x)) ∧ Below w.heap.size w w' := by
  obtain ⟨i0, hi, hz0, hz1, hz2⟩ := info_parts infoByte
  obtain ⟨xv, hxv⟩ : ∃ xv : Int, (x.toNat : Int) = xv := ⟨_, rfl⟩
  rw [hxv]
  have HXV := Lib.hid hxv
  clear hxv
  go_enter Tryd.func94, Tryd.ntmps94
  go_wp2_with (at_make; refine wpList_make_full _ rfl _ _ 22 rfl w.heap.size 5 i0 (.int .u8 0) 1 Tryd.underlying22 hi hz0 hz1 .i64 .i64 _ _ n rfl rfl rfl rfl (by rw [hz2]; omega) (by unfold maxLen; omega) (Nat.le_refl _) ?_; intro w0 hown0 hgrow0)
  have hg0 : Below w.heap.size w w0 := (Below.refl _ _).grown hgrow0 (Nat.le_refl _) (fun k h => by cases h)
  have HO0 := Lib.hid hown0
  clear hown0 hgrow0
  go_loopw [6] (fun iv wr => ∃ (k : Nat) (xs : List Value), k ≤ n ∧ iv = .int .i64 k ∧ Hid (wr.ownsRow w.heap.size 5 1 (.slice (some ⟨w.heap.size, 0, none⟩) n n) n xs) ∧ Hid (∀ j, j < k → xs[j]? = some (.int .u8 xv)) ∧ Below w.heap.size w wr)
    (fun iv _ => n - (intOf iv).toNat)
  case atStart => exact ⟨0, _, Nat.zero_le _, rfl, HO0, Lib.hid (fun j hj => by omega), hg0⟩
  case round =>
    clear HO0 hg0
    obtain ⟨k, xs, hk, rfl, HW, HX, hbel⟩ := hrel
    have hxl : Hid (xs.length = n) := Lib.hid (own_length HW.out)
    by_cases hlt : k < n
    · have c3 : ∃ v, wr.cell? ⟨w.heap.size, k, none⟩ = some v := ⟨xs[k]'(by have := hxl.out; omega), by rw [HW.out.cellAt k (by omega)]; simp [hxl.out, hlt]⟩
      obtain ⟨v3, c3⟩ := c3
      have z3 := HW.out.frozenAt k
      have O1 := Lib.hid (HW.out.stored k (.int .u8 xv)).1
      have hb1 : Below w.heap.size w (wr.setCell ⟨w.heap.size, k, none⟩ (.int .u8 xv)) := hbel.setCell (Nat.le_refl _) _
      have X1 : Hid (∀ j, j < k + 1 → (xs.set k (.int .u8 xv))[j]? = some (.int .u8 xv)) := Lib.hid (fun j hj => by
        by_cases e : j = k
        · subst e; rw [List.getElem?_set_self (by have := hxl.out; omega)]
        · rw [List.getElem?_set_ne (by omega)]; exact HX.out j (by omega))
      go_wp2
      go_roundw
      case rel => exact ⟨k + 1, _, by omega, by go_num, O1, X1, hb1⟩
      case measure => (simp [intOf]; try omega)
    · obtain rfl : k = n := by omega
      have hfin : xs = bcells (List.replicate k x) := by
        apply List.ext_getElem?
        intro j
        by_cases hj : j < k
        · rw [HX.out j hj, ← HXV.out]; simp [bcells, hj]
        · rw [List.getElem?_eq_none (by have := hxl.out; omega), List.getElem?_eq_none (by rw [bcells_length]; simp; omega)]
      have ho := HW.out
      rw [hfin] at ho
      have hconv := own_string (P := Tryd.prog) 22 9 Tryd.underlying22 Tryd.underlying5 Tryd.underlying9 ho
      clear hfin ho
      go_wp2
      go_ret
      exact ⟨rfl, hbel⟩

end Go.Proofs.YtcckhkihhhchbaaDoor
namespace Go.Proofs.YtcckhkihhhchbaaDoor
open Go.RowKit Go.Proofs.YtcckhkihhhchbaaDoor.Hexa Go.Proofs.YtcckhkihhhchbaaDoor.Byt Go.Proofs.YtcckhkihhhchbaaDoor.BitsM Go.Proofs.YtcckhkihhhchbaaDoor.Parts

set_option maxRecDepth 100000 in
set_option maxHeartbeats 400000 in
theorem specZero_any (n : Int) (w : World) :
    Calls Tryd.prog 62 #[.int .i64 n] w fun e w' => e = .returned (.string (zeroB n)) ∧ Below w.heap.size w w' := by
  by_cases h : 0 ≤ n ∧ n ≤ 20000
  · have HE : Hid (zeroB n = longB n.toNat 0) := Lib.hid (if_pos h)
    have HR := Lib.hid h
    obtain ⟨k, rfl⟩ : ∃ k : Nat, n = k := ⟨n.toNat, by omega⟩
    have KL := Lib.hid fun w => long_any k 0 w (by omega)
    clear h
    go_enter Tryd.func62, Tryd.ntmps62
    go_wp2_with (first
      | (go_at_call 40; refine (range_yes _ HR.out).mono ?_; rintro e w1 ⟨rfl, rfl⟩)
      | (go_at_call 94; refine (KL.out _).mono ?_; rintro e w2 ⟨rfl, hb2⟩))
    go_ret
    exact ⟨by rw [HE.out]; rfl, hb2⟩
  · have HE : Hid (zeroB n = ⟨#[]⟩) := Lib.hid (if_neg h)
    have HR := Lib.hid h
    clear h
    go_enter Tryd.func62, Tryd.ntmps62
    go_wp2_with (first
      | (go_at_call 40; refine (range_no _ HR.out).mono ?_; rintro e w1 ⟨rfl, rfl⟩))
    go_ret
    exact ⟨by rw [HE.out]; rfl, Below.refl _ _⟩

end Go.Proofs.YtcckhkihhhchbaaDoor
namespace Go.Proofs.YtcckhkihhhchbaaDoor
open Go.RowKit Go.Proofs.YtcckhkihhhchbaaDoor.Hexa Go.Proofs.YtcckhkihhhchbaaDoor.Byt Go.Proofs.YtcckhkihhhchbaaDoor.BitsM Go.Proofs.YtcckhkihhhchbaaDoor.Parts

set_option maxRecDepth 100000 in
set_option maxHeartbeats 1000000 in
theorem specNum_yes (m k : Nat) (w : World) (hk : 1 ≤ k) (hk' : k ≤ 7) (hm : m < 256 ^ k) :
    Calls Tryd.prog 76 #[.int .i64 m, .int .i64 k] w fun e w' => e = .returned (.string (numB m k)) ∧ Below w.heap.size w w' := by
  have hmb : m < 72057594037927936 := Nat.lt_of_lt_of_le hm (Nat.le_trans (Nat.pow_le_pow_right (by omega) hk') (by decide))
  have hq := shift_zero hm
  have h0 : ¬ ((m : Int) < 0) := by omega
  have HR : Hid ((1 : Int) ≤ (k : Int) ∧ (k : Int) ≤ 7) := Lib.hid (by omega)
  clear hm
  go_enter Tryd.func76, Tryd.ntmps76
  go_wp2_with (first
    | (go_at_call 40; refine (range_yes _ HR.out).mono ?_; rintro e w1 ⟨rfl, rfl⟩))
  try rw [hq]
  clear hq
  go_loopw [5, 6] (fun v iv wr => ∃ j : Nat, j ≤ k ∧ iv = .int .i64 ((k : Int) - 1 - j) ∧ Bytes wr w1.heap.size 5 v (numL m k j) ∧ Below w1.heap.size w1 wr)
    (fun _ iv _ => (intOf iv + 1).toNat)
  case atStart => exact ⟨0, Nat.zero_le _, by go_num, bytes_of_own (l := []) (World.ownsRow_lit w1 #[] 0 (Nat.le_refl _) (by decide) rfl), (Below.refl _ _).alloc (Nat.le_refl _) _⟩
  case round =>
    obtain ⟨j, hj, rfl, hb, hg⟩ := hrel
    obtain ⟨a, c, rfl⟩ := bytes_len hb
    have hl := numL_length m k j
    by_cases hlt : j < k
    · have hw : IntKind.u64.wrap ((k : Int) - 1 - j) = (k : Int) - 1 - j := IntWalk.u64_in _ (by omega)
      have hsh : ((k : Int) - 1 - j).toNat = k - 1 - j := by omega
      have hge : 0 ≤ (k : Int) - 1 - j := by omega
      go_wp2_with (first
        | (at_builtin; refine wpList_append_out rfl (.tmp 29) (.tmp 36) 22 22 rfl _ _ rfl rfl (outB _ hb hg.size _ (UInt8.ofNat (m / 256 ^ (k - 1 - j))) _ (num_byte m (k - 1 - j)) (by omega)) ?_; intro v1 w2 hb1 hg1))
      rw [numL_next] at hb1
      go_roundw
      case rel => exact ⟨j + 1, by omega, by go_num, hb1, (hg.alloc hg.size _).trans hg1⟩
      case measure => simp [intOf]; omega
    · obtain rfl : j = k := by omega
      have hconv := bytes_string (P := Tryd.prog) 22 9 Tryd.underlying22 Tryd.underlying5 Tryd.underlying9 hb
      rw [hl] at hconv
      go_wp2
      go_ret
      exact ⟨rfl, hg⟩

set_option maxRecDepth 100000 in
set_option maxHeartbeats 1000000 in
theorem specNum_no (n width : Int) (w : World) (h : ¬ NumFits n width) (hn : n ≤ 9223372036854775807) :
    Calls Tryd.prog 76 #[.int .i64 n, .int .i64 width] w fun e w' => e = .returned (.string ⟨#[]⟩) ∧ w' = w := by
  by_cases h0 : n < 0
  · go_enter Tryd.func76, Tryd.ntmps76
    go_wp2
    go_ret
    exact ⟨rfl, rfl⟩
  · by_cases hr : 1 ≤ width ∧ width ≤ 7
    · have hbig : ¬ n < 256 ^ width.toNat := fun hlt => h ⟨by omega, hr, hlt⟩
      obtain ⟨k, rfl⟩ : ∃ k : Nat, width = k := ⟨width.toNat, by omega⟩
      obtain ⟨m, rfl⟩ : ∃ m : Nat, n = m := ⟨n.toNat, by omega⟩
      have hm : 256 ^ k ≤ m := by
        have e : ((k : Int).toNat) = k := by omega
        rw [e] at hbig
        have e2 : (256 : Int) ^ k = ((256 ^ k : Nat) : Int) := by simp
        rw [e2] at hbig
        omega
      have hq := shift_pos hm
      have HR := Lib.hid hr
      have hk7 : k ≤ 7 := by omega
      clear h hbig hm hr
      go_enter Tryd.func76, Tryd.ntmps76
      go_wp2_with (first
        | (go_at_call 40; refine (range_yes _ HR.out).mono ?_; rintro e w1 ⟨rfl, rfl⟩))
      go_ret
      exact ⟨rfl, rfl⟩
    · have HR := Lib.hid hr
      clear h hr
      go_enter Tryd.func76, Tryd.ntmps76
      go_wp2_with (first
        | (go_at_call 40; refine (range_no _ HR.out).mono ?_; rintro e w1 ⟨rfl, rfl⟩))
      go_ret
      exact ⟨rfl, rfl⟩

theorem specNum_any (n width : Int) (w : World) (hn : n ≤ 9223372036854775807) :
    Calls Tryd.prog 76 #[.int .i64 n, .int .i64 width] w fun e w' => e = .returned (.string (numTextB n width)) ∧ Below w.heap.size w w' := by
  by_cases h : NumFits n width
  · have hE : numTextB n width = numB n.toNat width.toNat := by unfold numTextB; exact if_pos h
    obtain ⟨h0, ⟨h1, h7⟩, hf⟩ := h
    obtain ⟨m, rfl⟩ : ∃ m : Nat, n = m := ⟨n.toNat, by omega⟩
    obtain ⟨k, rfl⟩ : ∃ k : Nat, width = k := ⟨width.toNat, by omega⟩
    rw [hE]
    simp only [Int.toNat_natCast] at hf ⊢
    have e2 : (256 : Int) ^ k = ((256 ^ k : Nat) : Int) := by simp
    rw [e2] at hf
    exact specNum_yes m k w (by omega) (by omega) (by omega)
  · have hE : numTextB n width = ⟨#[]⟩ := by unfold numTextB; exact if_neg h
    rw [hE]
    exact (specNum_no n width w h hn).mono fun e w' ⟨he, hw⟩ => ⟨he, by rw [hw]; exact Below.refl _ _⟩
end Go.Proofs.YtcckhkihhhchbaaDoor
namespace Go.Proofs.YtcckhkihhhchbaaDoor
open Go.RowKit Go.Proofs.YtcckhkihhhchbaaDoor.Hexa Go.Proofs.YtcckhkihhhchbaaDoor.Byt Go.Proofs.YtcckhkihhhchbaaDoor.BitsM Go.Proofs.YtcckhkihhhchbaaDoor.Parts

set_option maxRecDepth 100000 in
set_option maxHeartbeats 400000 in
theorem specWord_any (s : ByteArray) (w : World) :
    Calls Tryd.prog 78 #[.string s] w fun e w' => e = .returned (.string (wordB s)) ∧ Below w.heap.size w w' := by
  by_cases h : s.size ≤ 8
  · have HE : Hid (wordB s = s ++ longB (8 - s.size) 0) := Lib.hid (if_pos h)
    have hsz : s.size + (longB (8 - s.size) 0).size ≤ 8 := by rw [longB_size]; omega
    have hz := zeroB_of s h
    go_enter Tryd.func78, Tryd.ntmps78
    go_wp2_with (first
      | (go_at_call 62; refine (specZero_any _ _).mono ?_; rintro e w2 ⟨rfl, hb2⟩; rw [hz]))
    go_ret
    exact ⟨by rw [HE.out]; rfl, hb2⟩
  · have HE : Hid (wordB s = ⟨#[]⟩) := Lib.hid (if_neg h)
    have hlt : 8 < s.size := by omega
    go_enter Tryd.func78, Tryd.ntmps78
    go_wp2
    go_ret
    exact ⟨by rw [HE.out]; rfl, Below.refl _ _⟩

set_option maxRecDepth 100000 in
set_option maxHeartbeats 1000000 in
theorem specNumAt_yes (s : ByteArray) (a k : Nat) (w : World) (hs : s.size ≤ 100000000) (hk : 1 ≤ k) (hk' : k ≤ 7) (ha : a + k ≤ s.size) :
    Calls Tryd.prog 61 #[.string s, .int .i64 a, .int .i64 k] w fun e w' => e = .returned (.tuple #[.int .i64 (numV (cutL s a k)), .bool true]) ∧ w' = w := by
  have HR : Hid ((1 : Int) ≤ (k : Int) ∧ (k : Int) ≤ 7) := Lib.hid (by omega)
  have HR2 : Hid ((0 : Int) ≤ (a : Int) ∧ (a : Int) ≤ (s.size : Int) - k) := Lib.hid (by omega)
  go_enter Tryd.func61, Tryd.ntmps61
  go_wp2_with fail
  refine (range_yes _ HR.out).mono ?_
  rintro e w0 ⟨rfl, rfl⟩
  go_wp2_with fail
  refine (range_yes _ HR2.out).mono ?_
  rintro e w1 ⟨rfl, rfl⟩
  go_wp2
  go_loopw [8, 9] (fun nv iv wr => ∃ (j v : Nat), j ≤ k ∧ iv = .int .i64 ((a : Int) + j) ∧ nv = .int .i64 v ∧ v < 72057594037927936 ∧ Hid (v = numV (cutL s a j)) ∧ wr = w1) (fun _ iv _ => ((a : Int) + k - intOf iv).toNat)
  case atStart => exact ⟨0, 0, Nat.zero_le _, by go_num, rfl, by omega, Lib.hid (by simp [cutL, numV]), rfl⟩
  case round =>
    obtain ⟨j, v, hj, rfl, rfl, hv, HV, rfl⟩ := hrel
    by_cases hlt : j < k
    · have hin : a + j < s.size := by omega
      have hb := (s[a + j]'hin).toNat_lt
      have e1 : ((a : Int) + j).toNat = a + j := by omega
      have hv2 : v < 256 ^ j := by
        have := numV_lt (cutL s a j)
        rw [cutL_length s a j (by omega)] at this
        rw [HV.out]; exact this
      have hv3 : 256 * v + (s[a + j]'hin).toNat < 72057594037927936 := by
        have h7 : 256 ^ j ≤ 256 ^ 6 := Nat.pow_le_pow_right (by omega) (by omega)
        have h8 : 256 * 256 ^ 6 = 72057594037927936 := by decide
        omega
      have HN : Hid (256 * v + (s[a + j]'hin).toNat = numV (cutL s a (j + 1))) := Lib.hid (by rw [← cutL_next s a j hin, numV_snoc, HV.out])
      clear hv2
      go_wp2
      go_roundw
      case rel => exact ⟨j + 1, 256 * v + (s[a + j]'hin).toNat, by omega, by go_num, by go_num, hv3, HN, by first | rfl | trivial⟩
      case measure => simp [intOf]; omega
    · obtain rfl : j = k := by omega
      go_wp2
      go_ret2
      exact ⟨ret_pair (by rw [HV.out]), rfl⟩

set_option maxRecDepth 100000 in
set_option maxHeartbeats 1000000 in
theorem specNumAt_no (s : ByteArray) (a width : Int) (w : World) (hs : s.size ≤ 100000000) (hw0 : -9223372036854775808 ≤ width) (hw1 : width ≤ 9223372036854775807) (h : ¬ NumThere s a width) :
    Calls Tryd.prog 61 #[.string s, .int .i64 a, .int .i64 width] w fun e w' => e = .returned (.tuple #[.int .i64 0, .bool false]) ∧ w' = w := by
  by_cases hr : 1 ≤ width ∧ width ≤ 7
  · have hq : ¬ (0 ≤ a ∧ a ≤ (s.size : Int) - width) := fun hq => h ⟨hr, hq⟩
    have HR := Lib.hid hr
    have HQ := Lib.hid hq
    obtain ⟨h1, h2⟩ := hr
    clear h hq
    go_enter Tryd.func61, Tryd.ntmps61
    go_wp2_with fail
    refine (range_yes _ HR.out).mono ?_
    rintro e w0 ⟨rfl, rfl⟩
    go_wp2_with fail
    refine (range_no _ HQ.out).mono ?_
    rintro e w1 ⟨rfl, rfl⟩
    go_wp2
    go_ret2
    exact ⟨rfl, rfl⟩
  · have HR := Lib.hid hr
    clear h hr
    go_enter Tryd.func61, Tryd.ntmps61
    go_wp2_with (first
      | (go_at_call 40; refine (range_no _ HR.out).mono ?_; rintro e w1 ⟨rfl, rfl⟩))
    go_ret2
    exact ⟨rfl, rfl⟩
theorem specNumAt_any (s : ByteArray) (a width : Int) (w : World) (hs : s.size ≤ 100000000) (hw0 : -9223372036854775808 ≤ width) (hw1 : width ≤ 9223372036854775807) :
    Calls Tryd.prog 61 #[.string s, .int .i64 a, .int .i64 width] w fun e w' => e = .returned (.tuple #[.int .i64 (numAtV s a width), .bool (numAtB s a width)]) ∧ Below w.heap.size w w' := by
  by_cases h : NumThere s a width
  · have hV : numAtV s a width = numV (cutL s a.toNat width.toNat) := by unfold numAtV; exact if_pos h
    have hB : numAtB s a width = true := decide_eq_true h
    rw [hV, hB]
    obtain ⟨⟨h1, h7⟩, h0, ha⟩ := h
    obtain ⟨k, rfl⟩ : ∃ k : Nat, width = k := ⟨width.toNat, by omega⟩
    obtain ⟨j, rfl⟩ : ∃ j : Nat, a = j := ⟨a.toNat, by omega⟩
    simp only [Int.toNat_natCast]
    exact (specNumAt_yes s j k w hs (by omega) (by omega) (by omega)).mono fun e w' ⟨he, hw⟩ => ⟨he, by rw [hw]; exact Below.refl _ _⟩
  · have hV : numAtV s a width = 0 := by unfold numAtV; exact if_neg h
    have hB : numAtB s a width = false := decide_eq_false h
    rw [hV, hB]
    exact (specNumAt_no s a width w hs hw0 hw1 h).mono fun e w' ⟨he, hw⟩ => ⟨he, by rw [hw]; exact Below.refl _ _⟩
end Go.Proofs.YtcckhkihhhchbaaDoor
namespace Go.Proofs.YtcckhkihhhchbaaDoor
open Go.RowKit Go.Proofs.YtcckhkihhhchbaaDoor.Parts Go.Proofs.YtcckhkihhhchbaaDoor.Hexa Go.Proofs.YtcckhkihhhchbaaDoor.Byt

theorem name_all {s : ByteArray} (hl : 1 ≤ s.size ∧ s.size ≤ 7) (h : ∀ j (hj : j < s.size), NameC s[j]) : NameR s := by
  refine ⟨hl, fun b hb => ?_⟩
  obtain ⟨j, hj, rfl⟩ := List.getElem_of_mem hb
  exact h j (by simpa using hj)
theorem name_at {s : ByteArray} (h : NameR s) (j : Nat) (hj : j < s.size) : NameC s[j] := by
  refine h.2 _ ?_
  have hj' : j < s.data.toList.length := by simpa using hj
  exact List.getElem_mem hj'

set_option maxRecDepth 100000 in
set_option maxHeartbeats 1000000 in
theorem specName_any (s : ByteArray) (w : World) (hs : s.size ≤ 2000000) :
    Calls Tryd.prog 77 #[.string s] w fun e w' => e = .returned (.bool (nameB s)) ∧ w' = w := by
  go_enter Tryd.func77, Tryd.ntmps77
  go_wp2
  go_loop [3] (fun i => ∃ k : Nat, k ≤ s.size ∧ i = .int .i64 k ∧ Hid (∀ j (hj : j < s.size), j < k → NameC s[j])) (fun i => s.size - (intOf i).toNat)
  case atStart => exact ⟨0, Nat.zero_le _, rfl, Lib.hid (fun j hj h => by omega)⟩
  case round =>
    obtain ⟨k, hk, rfl, HA⟩ := hrel
    by_cases hlt : k < s.size
    · obtain ⟨b, hb⟩ : ∃ b, s[k]'hlt = b := ⟨_, rfl⟩
      have hb255 := b.toNat_lt
      have HB := Lib.hid hb
      by_cases h1 : 97 ≤ (b.toNat : Int) ∧ (b.toNat : Int) ≤ 122
      · have HR := Lib.hid h1
        have HA2 : Hid (∀ j (hj : j < s.size), j < k + 1 → NameC s[j]) := Lib.hid (fun j hj h => by
          by_cases e : j = k
          · subst e; rw [HB.out]; exact .inl (by omega)
          · exact HA.out j hj (by omega))
        clear h1
        go_wp2_with ((with_reducible refine (range_yes _ HR.out).mono ?_); rintro e w1 ⟨rfl, rfl⟩)
        go_round
        case rel => exact ⟨k + 1, by omega, by go_num, HA2⟩
        case measure => (simp [intOf]; try omega)
      · by_cases h2 : 48 ≤ (b.toNat : Int) ∧ (b.toNat : Int) ≤ 57
        · have HR := Lib.hid h1
          have HR2 := Lib.hid h2
          have HA2 : Hid (∀ j (hj : j < s.size), j < k + 1 → NameC s[j]) := Lib.hid (fun j hj h => by
            by_cases e : j = k
            · subst e; rw [HB.out]; exact .inr (by omega)
            · exact HA.out j hj (by omega))
          clear h1 h2
          go_wp2_with (first | ((with_reducible refine (range_no _ HR.out).mono ?_); rintro e w1 ⟨rfl, rfl⟩) | ((with_reducible refine (range_yes _ HR2.out).mono ?_); rintro e w1 ⟨rfl, rfl⟩))
          go_round
          case rel => exact ⟨k + 1, by omega, by go_num, HA2⟩
          case measure => (simp [intOf]; try omega)
        · have HR := Lib.hid h1
          have HR2 := Lib.hid h2
          have HN : Hid (nameB s = false) := Lib.hid (nameB_no (fun h => by
            have h3 := name_at h k hlt
            rw [hb] at h3
            rcases h3 with h4 | h4
            · exact h1 (by omega)
            · exact h2 (by omega)))
          clear h1 h2
          go_wp2_with (first | ((with_reducible refine (range_no _ HR.out).mono ?_); rintro e w1 ⟨rfl, rfl⟩) | ((with_reducible refine (range_no _ HR2.out).mono ?_); rintro e w1 ⟨rfl, rfl⟩))
          go_ret
          exact ⟨by rw [HN.out]; rfl, rfl⟩
    · obtain rfl : k = s.size := by omega
      go_wp2_with fail
      refine (range_any _ _ _ _).mono ?_
      rintro e w1 ⟨rfl, rfl⟩
      have HN : Hid (decide ((1 : Int) ≤ (s.size : Int) ∧ (s.size : Int) ≤ 7) = nameB s) := Lib.hid (by
        by_cases hl : 1 ≤ s.size ∧ s.size ≤ 7
        · rw [nameB_yes (name_all hl (fun j hj => HA.out j hj hj))]; exact decide_eq_true (by omega)
        · rw [nameB_no (fun h => hl h.1)]; exact decide_eq_false (by omega))
      rw [HN.out]
      go_wp2
      go_ret
      exact ⟨rfl, rfl⟩

theorem specPages_any (n : Int) (w : World) (h0 : -9223372036854775808 ≤ n) (h1 : n ≤ 9223372036854775807) : Calls Tryd.prog 41 #[.int .i64 n] w fun e w' => e = .returned (.int .i64 (pagesZ n)) ∧ w' = w := by
  by_cases h : n ≤ 0
  · have HE : Hid (pagesZ n = 0) := Lib.hid (if_pos h)
    go_enter Tryd.func41, Tryd.ntmps41
    go_wp2
    go_ret
    exact ⟨by rw [HE.out]; rfl, rfl⟩
  · have HE : Hid (pagesZ n = (n - 1) / 32 + 1) := Lib.hid (if_neg h)
    have hp : 1 ≤ n := by omega
    have hd : (n - 1) / 32 ≤ 288230376151711743 := by omega
    have hd0 : 0 ≤ (n - 1) / 32 := by omega
    go_enter Tryd.func41, Tryd.ntmps41
    go_wp2
    go_ret
    exact ⟨by rw [HE.out]; rfl, rfl⟩

def SaysT (s : ByteArray) (w : World) (e : Ending) (w' : World) : Prop := e = .returned (.string s) ∧ Below w.heap.size w w'
set_option maxRecDepth 100000 in
set_option maxHeartbeats 1000000 in
theorem specRecWord_no (p q : Int) (m : ByteArray) (w : World) (_hm : m.size ≤ 2000000) (h : ¬ RecOk ⟨p, q, m⟩) :
    Calls Tryd.prog 42 #[.agg #[.int .i64 p, .int .i64 q, .string m]] w (SaysT ⟨#[]⟩ w) := by
  by_cases h0 : 1 ≤ p ∧ p ≤ 12
  · have H0 := Lib.hid h0
    by_cases h1 : 1 ≤ q ∧ q ≤ 16777215
    · have H1 := Lib.hid h1
      have h2 : ¬ m.size = 4 := fun e => h ⟨h0, h1, e⟩
      have e8 : ((m.size : Int) == 4) = false := by simp; omega
      have e9 : ((m.size : Int) != 4) = true := by simp; omega
      clear h0 h1 h
      go_enter Tryd.func42, Tryd.ntmps42
      go_wp2_with (first | ((with_reducible refine (range_yes _ H0.out).mono ?_); rintro e w1 ⟨rfl, rfl⟩) | ((with_reducible refine (range_yes _ H1.out).mono ?_); rintro e w1 ⟨rfl, rfl⟩))
      go_ret
      exact ⟨rfl, below_bk w _⟩
    · have H1 := Lib.hid h1
      clear h0 h1 h
      go_enter Tryd.func42, Tryd.ntmps42
      go_wp2_with (first | ((with_reducible refine (range_yes _ H0.out).mono ?_); rintro e w1 ⟨rfl, rfl⟩) | ((with_reducible refine (range_no _ H1.out).mono ?_); rintro e w1 ⟨rfl, rfl⟩))
      go_ret
      exact ⟨rfl, below_bk w _⟩
  · have H0 := Lib.hid h0
    clear h0 h
    go_enter Tryd.func42, Tryd.ntmps42
    go_wp2_with ((with_reducible refine (range_no _ H0.out).mono ?_); rintro e w1 ⟨rfl, rfl⟩)
    go_ret
    exact ⟨rfl, below_bk w _⟩

set_option maxRecDepth 100000 in
set_option maxHeartbeats 1000000 in
theorem specRecWord_yes (p q : Int) (m : ByteArray) (w : World) (h : RecOk ⟨p, q, m⟩) :
    Calls Tryd.prog 42 #[.agg #[.int .i64 p, .int .i64 q, .string m]] w (SaysT (recWordB ⟨p, q, m⟩) w) := by
  have HE := Lib.hid (recWordB_yes h)
  obtain ⟨h0, h1, h2⟩ := h
  have H0 : Hid (1 ≤ p ∧ p ≤ 12) := Lib.hid h0
  have H1 : Hid (1 ≤ q ∧ q ≤ 16777215) := Lib.hid h1
  have hm4 : m.size = 4 := h2
  have e8 : ((m.size : Int) == 4) = true := by simp; omega
  have e9 : ((m.size : Int) != 4) = false := by simp; omega
  have T0 := Lib.hid (Bk.alloc w #[.int .i64 p, .int .i64 q, .string m] 36)
  have B0 := Lib.hid (below_bk w (.cells #[.int .i64 p, .int .i64 q, .string m] 36))
  have hA : (numTextB p 1).size = 1 := numText_size (k := 1) (by omega) (by have := H0.out.1; omega) (by have := H0.out.2; omega)
  have hB : (numTextB q 3).size = 3 := numText_size (k := 3) (by omega) (by have := H1.out.1; omega) (by have := H1.out.2; omega)
  obtain ⟨A, hAe⟩ : ∃ A, numTextB p 1 = A := ⟨_, rfl⟩
  obtain ⟨D, hDe⟩ : ∃ D, numTextB q 3 = D := ⟨_, rfl⟩
  have HA := Lib.hid hAe
  have HD := Lib.hid hDe
  rw [hAe] at hA
  rw [hDe] at hB
  have hA1 : A.size ≤ 1 := by omega
  have hB1 : D.size ≤ 3 := by omega
  have hAD : ¬ (9223372036854775807 < A.size + D.size) := by omega
  have hADm : ¬ (9223372036854775807 < A.size + D.size + 4) := by omega
  clear h0 h1 h2 hAe hDe hA hB
  go_enter Tryd.func42, Tryd.ntmps42
  go_wp2_with (first | ((with_reducible refine (range_yes _ H0.out).mono ?_); rintro e w1 ⟨rfl, rfl⟩) | ((with_reducible refine (range_yes _ H1.out).mono ?_); rintro e w1 ⟨rfl, rfl⟩))
  have T0d := Lib.hid T0.out.drew
  have B0d : Hid (Below w.heap.size w (w.alloc (.cells #[.int .i64 p, .int .i64 q, .string m] 36)).drew) := Lib.hid B0.out.drew
  go_region_held3 (fun w' => w'.cell? ⟨w.heap.size, 0, none⟩ = some (.int .i64 p) ∧ w'.cell? ⟨w.heap.size, 1, none⟩ = some (.int .i64 q) ∧ w'.cell? ⟨w.heap.size, 2, none⟩ = some (.string m))
    (first
      | exact ⟨T0d.out.cell rfl, T0d.out.cell rfl, T0d.out.cell rfl⟩
      | exact ⟨T1.out.cell rfl, T1.out.cell rfl, T1.out.cell rfl⟩
      | exact ⟨T2.out.cell rfl, T2.out.cell rfl, T2.out.cell rfl⟩
      | go_keep)
    (first
      | (go_at_call 76; (with_reducible refine (specNum_any p 1 _ (by have := H0.out.2; omega)).mono ?_); rw [HA.out]; rintro e w1 ⟨rfl, hb⟩; have T1 := Lib.hid (T0d.out.later hb); have B1 : Hid (Below w.heap.size w w1) := Lib.hid (B0d.out.trans (hb.mono B0d.out.size)); clear hb)
      | (go_at_call 76; (with_reducible refine (specNum_any q 3 _ (by have := H1.out.2; omega)).mono ?_); rw [HD.out]; rintro e w2 ⟨rfl, hb⟩; have T2 := Lib.hid (T1.out.later hb); have B2 : Hid (Below w.heap.size w w2) := Lib.hid (B1.out.trans (hb.mono B1.out.size)); clear hb))
  go_wp2
  go_ret
  exact ⟨by rw [HE.out, HA.out, HD.out]; rfl, B2.out⟩
theorem specRecWord_any (p q : Int) (m : ByteArray) (w : World) (hm : m.size ≤ 2000000) :
    Calls Tryd.prog 42 #[.agg #[.int .i64 p, .int .i64 q, .string m]] w (SaysT (recWordB ⟨p, q, m⟩) w) := by
  by_cases h : RecOk ⟨p, q, m⟩
  · exact specRecWord_yes p q m w h
  · rw [recWordB_no h]; exact specRecWord_no p q m w hm h
end Go.Proofs.YtcckhkihhhchbaaDoor
namespace Go.Proofs.YtcckhkihhhchbaaDoor
open Go.RowKit

theorem text_full (x : ByteArray) (h : 0 < x.size) : (x.toList == []) = false := by
  apply beq_eq_false_iff_ne.2
  intro e
  have h1 : x.toList.length = x.size := by rw [Go.ByteArray.toList_eq]; simp
  rw [e] at h1
  simp at h1
  omega
theorem text_full' (x : ByteArray) (h : 0 < x.size) : ([] == x.toList) = false := by
  have h1 := text_full x h
  apply beq_eq_false_iff_ne.2
  intro e
  rw [← e] at h1
  simp at h1
theorem text_ne {x y : ByteArray} (h : ¬ x = y) : ¬ (x.toList = y.toList) := by
  intro e
  apply h
  rw [Go.ByteArray.toList_eq, Go.ByteArray.toList_eq] at e
  cases x; cases y
  simp at e
  rw [e]
theorem text_neB {x y : ByteArray} (h : ¬ x = y) : (x.toList == y.toList) = false := beq_eq_false_iff_ne.2 (text_ne h)
end Go.Proofs.YtcckhkihhhchbaaDoor
