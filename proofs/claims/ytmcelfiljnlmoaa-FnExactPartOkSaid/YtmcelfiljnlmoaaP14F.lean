/- Merged texts: DepImpl, DepthOfLaw, SerMath, RangeSpec, AppI, StSpec, OkMath, OkFits, UsrSpec, Long, ZeroSpec, NumTSpec, WordSpec, RecSpec, TextEq, EntSpec, InoSpecA, InoSpecB. -/
import Derived.Test.YtmcelfiljnlmoaaP14E
import Derived.Test.YtmcelfiljnlmoaaRows
import Derived.Below
import Derived.Maps.AppendAt
import Derived.Lib.AppendZeros
import Derived.Deep.AppendLies
import Derived.Lib.Hide
import Derived.Deep.DeepCutAuto
import Derived.Deep.RegionHeld3
import Derived.WalkKit
import Derived.WalkSpells
namespace Go.Proofs.Ytmcelfiljnlmoaa
open Go.RowKit Go.Proofs.Ytmcelfiljnlmoaa.Parts Go.Proofs.Ytmcelfiljnlmoaa.Hexa

/-- A box that holds one int. -/
def IntBox (w : World) (b : Nat) (i : Int) : Prop := b < w.heap.size ∧ w.cell? ⟨b, 0, none⟩ = some (.int .i64 i)
theorem IntBox.later {w w' : World} {b : Nat} {i : Int} (h : IntBox w b i) (hb : Below w.heap.size w w') : IntBox w' b i := ⟨Nat.lt_of_lt_of_le h.1 hb.size, by rw [hb.cell (p := ⟨b, 0, none⟩) h.1]; exact h.2⟩
theorem IntBox.alloc (w : World) (i : Int) : IntBox (w.alloc (.cells #[.int .i64 i] 3)) w.heap.size i := by
  exact ⟨by simp, (Bk.alloc w #[.int .i64 i] 3).cell (j := 0) rfl⟩

set_option maxRecDepth 100000 in
set_option maxHeartbeats 1000000 in
theorem implIs_any (x : EntryR) (b : Nat) (i : Int) (w : World) (h : IntBox w b i) :
    Calls Try.prog 94 #[.agg #[.int .i64 x.f0, .string x.f1], .pointer (some ⟨b, 0, none⟩)] w (SaysB (x.f0 == i) w) := by
  have h1 := (h.later (below_bk w (.cells #[.int .i64 x.f0, .string x.f1] 66))).2
  have B0 := Lib.hid (below_bk w (.cells #[.int .i64 x.f0, .string x.f1] 66))
  clear h
  go_enter Try.func94, Try.ntmps94
  go_wp2
  go_ret
  exact ⟨rfl, B0.out⟩

/-- The first entry of inode i, or -1. -/
def findZ (M : List EntryR) (i : Int) : Int := if hasI M i = true then (((M.findIdx (fun e => e.f0 == i)) : Nat) : Int) else -1

set_option maxRecDepth 100000 in
set_option maxHeartbeats 1000000 in
theorem implFind_any (a : Option Addr) (n c : Nat) (M : List EntryR) (b : Nat) (i : Int) (w : World) (hs : (celRow cEntry M).Rd w (.slice a n c)) (hl : M.length = n) (hn : n ≤ 100000000) (h : IntBox w b i) :
    Calls Try.prog 112 #[.slice a n c, .func (.func 94) #[] #[.pointer (some ⟨b, 0, none⟩)]] w fun e w' => ∃ r : Int, e = .returned (.int .i64 r) ∧ (0 ≤ r ↔ hasI M i = true) ∧ Below w.heap.size w w' := by
  have HS := Lib.hid hs
  have HI := Lib.hid h
  have HL := Lib.hid hl
  clear hs h hl
  go_enter Try.func112, Try.ntmps112
  go_wp2
  go_loopw [8] (fun kv wr => ∃ (k : Nat), k ≤ n ∧ kv = .int .i64 k ∧ Hid (hasI (M.take k) i = false) ∧ Below w.heap.size w wr) (fun kv _ => n - (intOf kv).toNat)
  case atStart => exact ⟨0, Nat.zero_le _, rfl, Lib.hid rfl, Below.refl _ _⟩
  case round =>
    obtain ⟨k, hk, rfl, HM, hbel⟩ := hrel
    by_cases hlt : k < n
    · have HN := Lib.hid (hasI_next (M := M) (j := k) (i := i) (by rw [HL.out]; exact hlt))
      obtain ⟨g, off, rfl, hg, d0, d1⟩ := cEntry_at (Cel.Rd.later hbel _ _ HS.out) k hlt
      obtain ⟨x, hx⟩ : ∃ x, M.getD k default = x := ⟨_, rfl⟩
      rw [hx] at d0 d1 HN
      clear hx
      go_wp2_with fail
      refine (implIs_any x b i _ (HI.out.later hbel)).mono ?_
      rintro e w1 ⟨rfl, hb⟩
      have hb2 : Below w.heap.size w w1 := hbel.trans (hb.mono hbel.size)
      clear hb d0 d1
      by_cases hq : (x.f0 == i) = true
      · have HC : Hid (hasI M i = true) := Lib.hid (hasI_take (j := k + 1) (by rw [HN.out, hq]; simp))
        go_wp2
        go_ret
        exact ⟨_, rfl, ⟨fun _ => HC.out, fun _ => by omega⟩, hb2⟩
      · have hq' : (x.f0 == i) = false := by simpa using hq
        have HC : Hid (hasI (M.take (k + 1)) i = false) := Lib.hid (by rw [HN.out, hq', HM.out]; rfl)
        clear hq
        go_wp2
        go_roundw
        case rel => exact ⟨k + 1, by omega, by go_num, HC, hb2⟩
        case measure => (simp [intOf]; try omega)
    · obtain rfl : k = n := by omega
      have HC : Hid (hasI M i = false) := Lib.hid (by have h9 := HM.out; rw [List.take_of_length_le (by rw [HL.out]; omega)] at h9; exact h9)
      go_wp2
      go_ret
      exact ⟨-1, rfl, ⟨fun h => by omega, fun h => by rw [HC.out] at h; cases h⟩, hbel⟩
set_option maxRecDepth 100000 in
set_option maxHeartbeats 1000000 in
theorem implHas_any (a : Option Addr) (n c : Nat) (M : List EntryR) (b : Nat) (i : Int) (w : World) (hs : (celRow cEntry M).Rd w (.slice a n c)) (hl : M.length = n) (hn : n ≤ 100000000) (h : IntBox w b i) :
    Calls Try.prog 93 #[.slice a n c, .func (.func 94) #[] #[.pointer (some ⟨b, 0, none⟩)]] w (SaysB (hasI M i) w) := by
  have HS := Lib.hid hs
  have HI := Lib.hid h
  have HL := Lib.hid hl
  clear hs h hl
  go_enter Try.func93, Try.ntmps93
  go_wp2_with fail
  refine (implFind_any a n c M b i _ HS.out HL.out hn HI.out).mono ?_
  rintro e w1 ⟨r, rfl, hr, hb⟩
  by_cases h0 : 0 ≤ r
  · have HT := Lib.hid (hr.1 h0)
    have HB := Lib.hid hb
    clear hr hb
    go_wp2
    go_ret
    exact ⟨by rw [HT.out]; rfl, HB.out⟩
  · have HT : Hid (hasI M i = false) := Lib.hid (by
      cases hq : hasI M i with
      | false => rfl
      | true => exact absurd (hr.2 hq) h0)
    have HB := Lib.hid hb
    have hd : decide (0 ≤ r) = false := decide_eq_false h0
    clear hr hb
    go_wp2
    go_ret
    exact ⟨by rw [HT.out]; rfl, HB.out⟩

/-- What folderOf tells. -/
def SaysAbove (L : List InoR) (i : Int) (w : World) (e : Ending) (w' : World) : Prop :=
  ((aboveZ L i = -1 ∧ e = .returned (.tuple #[.int .i64 0, .bool false])) ∨ ∃ q : Nat, q < L.length ∧ aboveZ L i = (q : Int) ∧ e = .returned (.tuple #[.int .i64 q, .bool true])) ∧ Below w.heap.size w w'
set_option maxRecDepth 100000 in
set_option maxHeartbeats 2000000 in
theorem implAbove_any (p : PartR) (a1 : Option Addr) (c1 : Nat) (a2 : Option Addr) (c2 : Nat) (i : Int) (w : World) (h2 : (celRow cIno p.ino).Rd w (.slice a2 p.ino.length c2)) (hz : szL (cPart.cels p) ≤ 100000000) :
    Calls Try.prog 63 #[.agg #[.int .i64 p.ser, .slice a1 p.st.length c1, .slice a2 p.ino.length c2], .int .i64 i] w (SaysAbove p.ino i w) := by
  have B0 := Lib.hid (below_bk w (.cells #[.int .i64 p.ser, .slice a1 p.st.length c1, .slice a2 p.ino.length c2] 27))
  have HS := Lib.hid h2
  rw [cPart_sz] at hz
  have hn : p.ino.length ≤ 100000000 := by have := sz_row cIno p.ino; omega
  have HY : Hid (∀ k, k < p.ino.length → (p.ino.getD k default).E.length ≤ 100000000) := Lib.hid (fun k hk => by
    have h3 := szL_at cIno p.ino k hk
    rw [cIno_sz] at h3
    have := len_sz cEntry (p.ino.getD k default).E
    have := sz_row cIno p.ino
    omega)
  clear h2 hz
  have hbx := below_bk (w.alloc (.cells #[.int .i64 p.ser, .slice a1 p.st.length c1, .slice a2 p.ino.length c2] 27)) (.cells #[.int .i64 i] 3)
  have B1 := Lib.hid (B0.out.trans (hbx.mono B0.out.size))
  have I1 := Lib.hid (IntBox.alloc (w.alloc (.cells #[.int .i64 p.ser, .slice a1 p.st.length c1, .slice a2 p.ino.length c2] 27)) i)
  have T1 := Lib.hid ((Bk.alloc w #[.int .i64 p.ser, .slice a1 p.st.length c1, .slice a2 p.ino.length c2] 27).later hbx)
  have t2 := T1.out.cell (j := 2) rfl
  clear hbx
  go_enter Try.func63, Try.ntmps63
  go_wp2
  obtain ⟨W1, hW1⟩ : ∃ x, x = (w.alloc (.cells #[.int .i64 p.ser, .slice a1 p.st.length c1, .slice a2 p.ino.length c2] 27)).alloc (.cells #[.int .i64 i] 3) := ⟨_, rfl⟩
  have I2 : Hid (IntBox W1 (w.heap.size + 1) i) := Lib.hid (by rw [hW1]; have h := I1.out; simpa using h)
  rw [← hW1] at B1 T1 ⊢
  clear I1 hW1 t2 B0
  go_loopw [11] (fun kv wr => ∃ (k : Nat), k ≤ p.ino.length ∧ kv = .int .i64 k ∧ Hid (∀ j, j < k → hasI (dirE (p.ino.getD j default)) i = false) ∧ Below w.heap.size w wr ∧ Below W1.heap.size W1 wr) (fun kv _ => p.ino.length - (intOf kv).toNat)
  case atStart => exact ⟨0, Nat.zero_le _, rfl, Lib.hid (fun j hj => by omega), B1.out, Below.refl _ _⟩
  case round =>
    obtain ⟨k, hk, rfl, HM, hbel, hb1⟩ := hrel
    by_cases hlt : k < p.ino.length
    · have hy := HY.out k hlt
      have HA : Hid (hasI (dirE (p.ino.getD k default)) i = true → aboveZ p.ino i = (k : Int)) := Lib.hid (fun h => above_some hlt HM.out h)
      have HB : Hid (hasI (dirE (p.ino.getD k default)) i = false → ∀ j, j < k + 1 → hasI (dirE (p.ino.getD j default)) i = false) := Lib.hid (fun h j hj => by
        by_cases e : j = k
        · rw [e]; exact h
        · exact HM.out j (by omega))
      obtain ⟨g, off, a4, c4, a5, c5, rfl, hg, d0, d1, d2, d3, d4, d5, r4, r5⟩ := cIno_at (Cel.Rd.later hbel _ _ HS.out) k hlt
      obtain ⟨x, hx⟩ : ∃ x, p.ino.getD k default = x := ⟨_, rfl⟩
      rw [hx] at d0 d1 d2 d3 d4 d5 r5 hy HA HB
      obtain ⟨kd, hkd0⟩ : ∃ y, x.kd = y := ⟨_, rfl⟩
      rw [hkd0] at d0
      have HK0 := Lib.hid hkd0
      clear hkd0 hx r4
      have hbx := below_bk wr (.cells #[.int .i64 kd, .int .i64 x.sz, .int .i64 x.gn, .string x.key, .slice a4 x.R.length c4, .slice a5 x.E.length c5] 59)
      have T2 := Lib.hid (Bk.alloc wr #[.int .i64 kd, .int .i64 x.sz, .int .i64 x.gn, .string x.key, .slice a4 x.R.length c4, .slice a5 x.E.length c5] 59)
      have R5 := Lib.hid (Cel.Rd.later hbx _ _ r5)
      have B2 : Hid (Below w.heap.size w (wr.alloc (.cells #[.int .i64 kd, .int .i64 x.sz, .int .i64 x.gn, .string x.key, .slice a4 x.R.length c4, .slice a5 x.E.length c5] 59))) := Lib.hid (hbel.trans (hbx.mono hbel.size))
      have C2 : Hid (Below W1.heap.size W1 (wr.alloc (.cells #[.int .i64 kd, .int .i64 x.sz, .int .i64 x.gn, .string x.key, .slice a4 x.R.length c4, .slice a5 x.E.length c5] 59))) := Lib.hid (hb1.trans (hbx.mono hb1.size))
      clear hbx r5
      have t0 := T2.out.cell (j := 0) rfl
      have t5 := T2.out.cell (j := 5) rfl
      by_cases hkd : kd = 2
      · subst hkd
        go_wp2_with fail
        refine (implHas_any a5 x.E.length c5 x.E (w.heap.size + 1) i _ R5.out rfl hy (I2.out.later C2.out)).mono ?_
        rintro e w2 ⟨rfl, hb⟩
        have B3 : Below w.heap.size w w2 := B2.out.trans (hb.mono B2.out.size)
        have C3 : Below W1.heap.size W1 w2 := C2.out.trans (hb.mono C2.out.size)
        clear hb d0 d1 d2 d3 d4 d5 t0 t5
        cases hq : hasI x.E i with
        | true =>
          have HC : Hid (aboveZ p.ino i = (k : Int)) := Lib.hid (HA.out (by rw [dirE_yes HK0.out]; exact hq))
          go_wp2
          refine bodyPost_ret (v := .tuple #[.int .i64 k, .bool true]) ?_ rfl ⟨.inr ⟨k, hlt, HC.out, rfl⟩, B3⟩
          simp [results, Try.results63, go_sem]
        | false =>
          have HC := Lib.hid (HB.out (by rw [dirE_yes HK0.out]; exact hq))
          go_wp2
          go_roundw
          case rel => exact ⟨k + 1, by omega, by go_num, HC, B3, C3⟩
          case measure => (simp [intOf]; try omega)
      · have HC := Lib.hid (HB.out (by rw [dirE_no (by rw [HK0.out]; exact hkd)]; rfl))
        go_wp2
        go_roundw
        case rel => exact ⟨k + 1, by omega, by go_num, HC, B2.out, C2.out⟩
        case measure => (simp [intOf]; try omega)
    · obtain rfl : k = p.ino.length := by omega
      have HC := Lib.hid (above_none HM.out)
      go_wp2
      refine bodyPost_ret (v := .tuple #[.int .i64 0, .bool false]) ?_ rfl ⟨.inl ⟨HC.out, rfl⟩, hbel⟩
      simp [results, Try.results63, go_sem]

set_option maxRecDepth 100000 in
set_option maxHeartbeats 2000000 in
theorem implDepth_any (p : PartR) (a1 : Option Addr) (c1 : Nat) (a2 : Option Addr) (c2 : Nat) (i : Int) (w : World) (h2 : (celRow cIno p.ino).Rd w (.slice a2 p.ino.length c2)) (hz : szL (cPart.cels p) ≤ 100000000) :
    Calls Try.prog 28 #[.agg #[.int .i64 p.ser, .slice a1 p.st.length c1, .slice a2 p.ino.length c2], .int .i64 i] w (SaysI (depthZ p.ino i) w) := by
  have B0 := Lib.hid (below_bk w (.cells #[.int .i64 p.ser, .slice a1 p.st.length c1, .slice a2 p.ino.length c2] 27))
  have T0 := Lib.hid (Bk.alloc w #[.int .i64 p.ser, .slice a1 p.st.length c1, .slice a2 p.ino.length c2] 27)
  have HS := Lib.hid h2
  have HZ := Lib.hid hz
  rw [cPart_sz] at hz
  have hn : p.ino.length ≤ 100000000 := by have := sz_row cIno p.ino; omega
  clear h2 hz
  obtain ⟨d, hd⟩ : ∃ d, depthZ p.ino i = d := ⟨_, rfl⟩
  rw [hd]
  have HD : Hid (depthGo p.ino (p.ino.length + 1) 0 i = d) := Lib.hid hd
  clear hd
  have t2 := T0.out.cell (j := 2) rfl
  go_enter Try.func28, Try.ntmps28
  go_wp2
  clear t2
  go_loopw [1, 12] (fun iv nv wr => ∃ (n : Nat) (z : Int), n ≤ p.ino.length + 1 ∧ nv = .int .i64 n ∧ iv = .int .i64 z ∧ Hid (depthGo p.ino (p.ino.length + 1 - n) n z = d) ∧ Below w.heap.size w wr ∧ Hid (Bk wr w.heap.size #[.int .i64 p.ser, .slice a1 p.st.length c1, .slice a2 p.ino.length c2] 27)) (fun _ nv _ => p.ino.length + 1 - (intOf nv).toNat)
  case atStart => exact ⟨0, i, Nat.zero_le _, rfl, rfl, HD, B0.out, T0⟩
  case round =>
    clear HD T0
    obtain ⟨n, z, hnn, rfl, rfl, HG, hbel, HT⟩ := hrel
    have t0 := HT.out.cell (j := 0) rfl
    have t1 := HT.out.cell (j := 1) rfl
    have t2 := HT.out.cell (j := 2) rfl
    by_cases hlt : n < p.ino.length + 1
    · have hd0 : decide ((n : Int) < (p.ino.length : Int) + 1) = true := decide_eq_true (by omega)
      have HG2 : Hid ((if z = 0 then (n : Int) else if aboveZ p.ino z < 0 then -1 else depthGo p.ino (p.ino.length + 1 - (n + 1)) (n + 1) (aboveZ p.ino z)) = d) := Lib.hid (by
        have h9 := HG.out
        rw [show p.ino.length + 1 - n = (p.ino.length + 1 - (n + 1)) + 1 by omega, depthGo] at h9
        exact h9)
      clear HG
      by_cases hz0 : z = 0
      · have HE : Hid ((n : Int) = d) := Lib.hid (by have h9 := HG2.out; rw [if_pos hz0] at h9; exact h9)
        subst hz0
        go_wp2
        go_ret
        exact ⟨ret_i64m HE.out, hbel⟩
      · go_wp2_with fail
        refine (implAbove_any p a1 c1 a2 c2 z _ (Cel.Rd.later hbel _ _ HS.out) HZ.out).mono ?_
        rintro e w1 ⟨⟨hq, rfl⟩ | ⟨q, hql, hq, rfl⟩, hb⟩
        · have hb2 : Below w.heap.size w w1 := hbel.trans (hb.mono hbel.size)
          have HE : Hid (-1 = d) := Lib.hid (by have h9 := HG2.out; rw [if_neg hz0, hq, if_pos (by omega)] at h9; exact h9)
          clear hb hq t0 t1 t2
          go_wp2
          go_ret
          exact ⟨ret_i64m HE.out, hb2⟩
        · have hb2 : Below w.heap.size w w1 := hbel.trans (hb.mono hbel.size)
          have HT1 := Lib.hid (HT.out.later hb)
          have HE : Hid (depthGo p.ino (p.ino.length + 1 - (n + 1)) (n + 1) (q : Int) = d) := Lib.hid (by have h9 := HG2.out; rw [if_neg hz0, hq, if_neg (by omega)] at h9; exact h9)
          clear hb hq t0 t1 t2
          go_wp2
          go_roundw
          case rel => exact ⟨n + 1, (q : Int), by omega, by go_num, rfl, HE, hb2, HT1⟩
          case measure => (simp [intOf]; try omega)
    · obtain rfl : n = p.ino.length + 1 := by omega
      have HE : Hid (-1 = d) := Lib.hid (by have h9 := HG.out; rw [Nat.sub_self] at h9; exact h9)
      go_wp2
      go_ret
      exact ⟨ret_i64m HE.out, hbel⟩
end Go.Proofs.Ytmcelfiljnlmoaa
namespace Go.Proofs.Ytmcelfiljnlmoaa
open Go.RowKit Go.Proofs.Ytmcelfiljnlmoaa.Parts Go.Proofs.Ytmcelfiljnlmoaa.Hexa Go.Proofs.Ytmcelfiljnlmoaa.Byt

set_option maxRecDepth 100000 in
set_option maxHeartbeats 4000000 in
theorem depthOf_law (p : PartR) (a1_p : Option Addr) (c1_p : Nat) (a2_p : Option Addr) (c2_p : Nat) (i : Int) (w : World) (ht_p : TyL (cPart.cels p)) (h1_p : (celRow cInt p.st).Rd w (.slice a1_p p.st.length c1_p)) (h2_p : (celRow cIno p.ino).Rd w (.slice a2_p p.ino.length c2_p)) :
    Calls Try.prog 6 #[.agg #[.int .i64 p.ser, .slice a1_p p.st.length c1_p, .slice a2_p p.ino.length c2_p], .int .i64 i] w fun e w' => e = .returned (.bool true) ∧ Below w.heap.size w w' := by
  have HT_p := Lib.hid ht_p
  clear ht_p
  have HS1_p := Lib.hid h1_p
  clear h1_p
  have HS2_p := Lib.hid h2_p
  clear h2_p
  obtain ⟨rv, hrv⟩ : ∃ d : Int, depthZ p.ino i = d := ⟨_, rfl⟩
  have HRV := Lib.hid hrv
  clear hrv
  have Xp_0 := Lib.hid (Bk.alloc w #[.int .i64 p.ser, .slice a1_p p.st.length c1_p, .slice a2_p p.ino.length c2_p] 36)
  have BW_0 := Lib.hid (below_bk w (.cells #[.int .i64 p.ser, .slice a1_p p.st.length c1_p, .slice a2_p p.ino.length c2_p] 36))
  go_enter Try.func6, Try.ntmps6
  have dp0 := Xp_0.out.cell (j := 0) rfl
  have dp1 := Xp_0.out.cell (j := 1) rfl
  have dp2 := Xp_0.out.cell (j := 2) rfl
  go_wp2_with fail
  obtain ⟨V0, hV⟩ : ∃ y, y = (w.alloc (.cells #[.int .i64 p.ser, .slice a1_p p.st.length c1_p, .slice a2_p p.ino.length c2_p] 36)) := ⟨_, rfl⟩
  clear dp0 dp1 dp2
  rw [← hV] at Xp_0 BW_0 ⊢
  have SZ_V0 : Hid (w.heap.size + 1 ≤ V0.heap.size) := Lib.hid (by rw [hV]; simp)
  clear hV
  refine (szPart_st p a1_p c1_p a2_p c2_p 1048576 _ (by decide) (by decide) (Cel.Rd.later BW_0.out _ _ HS1_p.out) (Cel.Rd.later BW_0.out _ _ HS2_p.out) HT_p.out).mono ?_
  rintro e w1 ⟨l_p, rfl, hr, hb⟩
  have Xp_1 := Lib.hid (Xp_0.out.later hb)
  have BW_1 : Hid (Below w.heap.size w w1) := Lib.hid (BW_0.out.trans (hb.mono BW_0.out.size))
  have SZ_w1 : Hid (V0.heap.size ≤ w1.heap.size) := Lib.hid hb.size
  clear hb Xp_0 BW_0
  rcases hr with hr | ⟨hl0, hl1⟩
  · go_wp2
    go_ret
    exact ⟨rfl, BW_1.out⟩
  have HZ_p : Hid (szL (cPart.cels p) ≤ 1048576) := Lib.hid (by omega)
  have HZB_p : Hid (szL (cPart.cels p) ≤ 100000000) := Lib.hid (by omega)
  have hq_p : ¬ (l_p < 0) := by omega
  have hp_p : l_p ≤ 1048576 := by omega
  clear hl1
  have dp0 := Xp_1.out.cell (j := 0) rfl
  have dp1 := Xp_1.out.cell (j := 1) rfl
  have dp2 := Xp_1.out.cell (j := 2) rfl
  go_wp2_with fail
  clear dp0 dp1 dp2
  refine (toPart_st p a1_p c1_p a2_p c2_p _ (Cel.Rd.later BW_1.out _ _ HS1_p.out) (Cel.Rd.later BW_1.out _ _ HS2_p.out) HZ_p.out).mono ?_
  rintro e w2 ⟨vs, rfl, ho, hb⟩
  have Xp_2 := Lib.hid (Xp_1.out.later hb)
  have BW_2 : Hid (Below w.heap.size w w2) := Lib.hid (BW_1.out.trans (hb.mono BW_1.out.size))
  have SZ_w2 : Hid (w1.heap.size ≤ w2.heap.size) := Lib.hid hb.size
  clear hb Xp_1 BW_1
  obtain ⟨a1_y, c1_y, a2_y, c2_y, rfl, _, _⟩ := cPart_form ho.rd
  have Oy_2x := Lib.hid ho
  clear ho
  have dp0 := Xp_2.out.cell (j := 0) rfl
  have dp1 := Xp_2.out.cell (j := 1) rfl
  have dp2 := Xp_2.out.cell (j := 2) rfl
  go_wp2_with fail
  clear dp0 dp1 dp2
  refine (specDepth_any p a1_y c1_y a2_y c2_y i _ (cPart_un Oy_2x.out.rd).2 HZB_p.out).mono ?_
  rw [HRV.out]
  rintro e w3 ⟨rfl, hb⟩
  have Xp_3 := Lib.hid (Xp_2.out.later hb)
  have Oy_3 := Lib.hid (Oy_2x.out.later hb)
  have BW_3 : Hid (Below w.heap.size w w3) := Lib.hid (BW_2.out.trans (hb.mono BW_2.out.size))
  have SZ_w3 : Hid (w2.heap.size ≤ w3.heap.size) := Lib.hid hb.size
  clear hb Xp_2 Oy_2x BW_2
  clear Oy_3
  have dp0 := Xp_3.out.cell (j := 0) rfl
  have dp1 := Xp_3.out.cell (j := 1) rfl
  have dp2 := Xp_3.out.cell (j := 2) rfl
  go_wp2_with fail
  clear dp0 dp1 dp2
  refine (toPart_st p a1_p c1_p a2_p c2_p _ (Cel.Rd.later BW_3.out _ _ HS1_p.out) (Cel.Rd.later BW_3.out _ _ HS2_p.out) HZ_p.out).mono ?_
  rintro e w4 ⟨vs, rfl, ho, hb⟩
  have Xp_4 := Lib.hid (Xp_3.out.later hb)
  have BW_4 : Hid (Below w.heap.size w w4) := Lib.hid (BW_3.out.trans (hb.mono BW_3.out.size))
  have SZ_w4 : Hid (w3.heap.size ≤ w4.heap.size) := Lib.hid hb.size
  clear hb Xp_3 BW_3
  obtain ⟨a1_x, c1_x, a2_x, c2_x, rfl, _, _⟩ := cPart_form ho.rd
  have Ox_4x := Lib.hid ho
  clear ho
  have hba := below_bk w4 (.cells #[.int .i64 p.ser, .slice a1_x p.st.length c1_x, .slice a2_x p.ino.length c2_x] 27)
  have Xp_5 := Lib.hid (Xp_4.out.later hba)
  have Ox_5 := Lib.hid (Ox_4x.out.later hba)
  have BW_5 : Hid (Below w.heap.size w (w4.alloc (.cells #[.int .i64 p.ser, .slice a1_x p.st.length c1_x, .slice a2_x p.ino.length c2_x] 27))) := Lib.hid (BW_4.out.trans (hba.mono BW_4.out.size))
  have Xx_5 := Lib.hid (Bk.alloc w4 #[.int .i64 p.ser, .slice a1_x p.st.length c1_x, .slice a2_x p.ino.length c2_x] 27)
  clear hba Xp_4 Ox_4x BW_4
  have dp0 := Xp_5.out.cell (j := 0) rfl
  have dp1 := Xp_5.out.cell (j := 1) rfl
  have dp2 := Xp_5.out.cell (j := 2) rfl
  have dx0 := Xx_5.out.cell (j := 0) rfl
  have dx1 := Xx_5.out.cell (j := 1) rfl
  have dx2 := Xx_5.out.cell (j := 2) rfl
  go_wp2_with fail
  obtain ⟨V4, hV⟩ : ∃ y, y = (w4.alloc (.cells #[.int .i64 p.ser, .slice a1_x p.st.length c1_x, .slice a2_x p.ino.length c2_x] 27)) := ⟨_, rfl⟩
  clear dp0 dp1 dp2 dx0 dx1 dx2
  rw [← hV] at Xp_5 Xx_5 Ox_5 BW_5 ⊢
  have SZ_V4 : Hid (w4.heap.size + 1 ≤ V4.heap.size) := Lib.hid (by rw [hV]; simp)
  clear hV
  refine (implDepth_any p a1_x c1_x a2_x c2_x i _ (cPart_un Ox_5.out.rd).2 HZB_p.out).mono ?_
  rw [HRV.out]
  rintro e w5 ⟨rfl, hb⟩
  have Xp_6 := Lib.hid (Xp_5.out.later hb)
  have Xx_6 := Lib.hid (Xx_5.out.later hb)
  have Ox_6 := Lib.hid (Ox_5.out.later hb)
  have BW_6 : Hid (Below w.heap.size w w5) := Lib.hid (BW_5.out.trans (hb.mono BW_5.out.size))
  have SZ_w5 : Hid (V4.heap.size ≤ w5.heap.size) := Lib.hid hb.size
  clear hb Xp_5 Xx_5 Ox_5 BW_5
  go_wp2
  have XD := Lib.hid Xx_6.out.drew
  have AD := Lib.hid Xp_6.out.drew
  have BD := Lib.hid BW_6.out.drew
  have OD : Hid (Objs w5.drew w3.heap.size w4.heap.size _ _) := Lib.hid (Ox_6.out.later (Below.refl _ _).drew)
  go_region_held3 (fun w' => w'.cell? ⟨w4.heap.size, 0, none⟩ = some (.int .i64 p.ser) ∧ w'.cell? ⟨w4.heap.size, 1, none⟩ = some (.slice a1_x p.st.length c1_x) ∧ w'.cell? ⟨w4.heap.size, 2, none⟩ = some (.slice a2_x p.ino.length c2_x) ∧ w'.cell? ⟨w.heap.size, 0, none⟩ = some (.int .i64 p.ser) ∧ w'.cell? ⟨w.heap.size, 1, none⟩ = some (.slice a1_p p.st.length c1_p) ∧ w'.cell? ⟨w.heap.size, 2, none⟩ = some (.slice a2_p p.ino.length c2_p))
    (first
      | exact ⟨XD.out.cell rfl, XD.out.cell rfl, XD.out.cell rfl, AD.out.cell rfl, AD.out.cell rfl, AD.out.cell rfl⟩
      | exact ⟨XE.out.cell rfl, XE.out.cell rfl, XE.out.cell rfl, AE.out.cell rfl, AE.out.cell rfl, AE.out.cell rfl⟩
      | exact ⟨XF.out.cell rfl, XF.out.cell rfl, XF.out.cell rfl, AF.out.cell rfl, AF.out.cell rfl, AF.out.cell rfl⟩
      | go_keep)
    (first
      | (go_at_call 23; (with_reducible refine (toPart_st p a1_p c1_p a2_p c2_p _ (Cel.Rd.later BD.out _ _ HS1_p.out) (Cel.Rd.later BD.out _ _ HS2_p.out) HZ_p.out).mono ?_); rintro e wa7 ⟨vs, rfl, ho, hb⟩; obtain ⟨a1_q, c1_q, a2_q, c2_q, rfl, q1, q2⟩ := cPart_form ho.rd; have XE := Lib.hid (XD.out.later hb); have AE := Lib.hid (AD.out.later hb); have OE := Lib.hid (OD.out.later hb); have BE : Hid (Below w.heap.size w wa7) := Lib.hid (BD.out.trans (hb.mono BD.out.size)); have SZ_wa7 : Hid (w5.heap.size ≤ wa7.heap.size) := Lib.hid hb.size; clear hb ho)
      | (go_at_call 18; (with_reducible refine (eqPart_st p a1_x c1_x a2_x c2_x a1_q c1_q a2_q c2_q _ (cPart_un OE.out.rd).1 (cPart_un OE.out.rd).2 q1 q2 HZB_p.out).mono ?_); rintro e wb7 ⟨rfl, hb⟩; have XF := Lib.hid (XE.out.later hb); have AF := Lib.hid (AE.out.later hb); have OF := Lib.hid (OE.out.later hb); have BF : Hid (Below w.heap.size w wb7) := Lib.hid (BE.out.trans (hb.mono BE.out.size)); have SZ_wb7 : Hid (wa7.heap.size ≤ wb7.heap.size) := Lib.hid hb.size; clear hb))
  have Xx_7 := XF
  have Xp_7 := AF
  have BW_7 := BF
  have Ox_7 := OF
  clear Xp_6 Xx_6 Ox_6 BW_6 XD XE XF AD AE AF BD BE BF OD OE OF
  go_wp2
  go_ret
  exact ⟨rfl, BW_7.out⟩
end Go.Proofs.Ytmcelfiljnlmoaa
namespace Go.Proofs.Ytmcelfiljnlmoaa
open Go.Proofs.Ytmcelfiljnlmoaa.Byt

def SerR (n : Int) : Prop := 0 ≤ n ∧ n ≤ 16777215
noncomputable def serB (n : Int) : ByteArray := @ite _ (SerR n) (Classical.propDecidable _) (wordB (numTextB n 3)) ⟨#[]⟩
theorem serB_yes {n : Int} (h : SerR n) : serB n = wordB (numTextB n 3) := by unfold serB; rw [if_pos h]
theorem serB_no {n : Int} (h : ¬ SerR n) : serB n = ⟨#[]⟩ := by unfold serB; rw [if_neg h]
end Go.Proofs.Ytmcelfiljnlmoaa
namespace Go.Proofs.Ytmcelfiljnlmoaa
open Go.RowKit Go.Proofs.Ytmcelfiljnlmoaa.Hexa Go.Proofs.Ytmcelfiljnlmoaa.Byt Go.Proofs.Ytmcelfiljnlmoaa.BitsM

set_option maxRecDepth 100000 in
set_option maxHeartbeats 400000 in
theorem range_any (n a b : Int) (w : World) : Calls Try.prog 64 #[.int .i64 n, .int .i64 a, .int .i64 b] w fun e w' => e = .returned (.bool (decide (a ≤ n ∧ n ≤ b))) ∧ w' = w := by
  by_cases h1 : a ≤ n <;> by_cases h2 : n ≤ b
  all_goals
    go_enter Try.func64, Try.ntmps64
    go_wp2
    all_goals go_ret
    all_goals exact ⟨by simp [h1, h2], rfl⟩
theorem range_yes {n a b : Int} (w : World) (h : a ≤ n ∧ n ≤ b) : Calls Try.prog 64 #[.int .i64 n, .int .i64 a, .int .i64 b] w fun e w' => e = .returned (.bool true) ∧ w' = w :=
  (range_any n a b w).mono fun _ _ ⟨he, hw⟩ => ⟨by rw [he, decide_eq_true h], hw⟩
theorem range_no {n a b : Int} (w : World) (h : ¬ (a ≤ n ∧ n ≤ b)) : Calls Try.prog 64 #[.int .i64 n, .int .i64 a, .int .i64 b] w fun e w' => e = .returned (.bool false) ∧ w' = w :=
  (range_any n a b w).mono fun _ _ ⟨he, hw⟩ => ⟨by rw [he, decide_eq_false h], hw⟩
end Go.Proofs.Ytmcelfiljnlmoaa
namespace Go.Proofs.Ytmcelfiljnlmoaa
open Go.RowKit Go.Proofs.Ytmcelfiljnlmoaa.Parts Go.Proofs.Ytmcelfiljnlmoaa.Hexa

/-- What an append gives: a slice that owns the cells, in the row that it had or in a new one. -/
def AppG (P : Program) (args : Array TypeId) (ty : TypeId) (vs : Array Value) (w : World) (B e k n : Nat) (xs : List Value) (v : Value) : Prop :=
  ∃ v' w', (Builtin.append_ args ty vs).run P w = .ok v' w' ∧ w'.ownsRow B e k v' n xs ∧ w.grownBy w' v.ownBlock ∧ (v'.ownBlock = v.ownBlock ∨ v'.ownBlock = some w.heap.size)
theorem icells_append (L M : List Int) : icells (L ++ M) = icells L ++ icells M := by simp [icells]
theorem icells_one (L : List Int) : ∀ v ∈ icells L, v.oneCell' = true := by
  intro v hv
  simp only [icells, List.mem_map] at hv
  obtain ⟨x, _, rfl⟩ := hv
  rfl
/-- One int appended, in the block of the walk's own one-cell slice. -/
theorem appI (w : World) (ty : TypeId) (B : Nat) (v : Value) (n : Nat) (P : List Int) (hown : w.ownsRow B 3 1 v n (icells P)) (hB : B ≤ w.heap.size) (x : Int) (hn : n ≤ 100000000) :
    AppG Try.prog #[24, 24] ty #[v, .slice (some ⟨w.heap.size, 0, none⟩) 1 1] (w.alloc (.cells #[.int .i64 x] 3)) B 3 1 (n + 1) (icells (P ++ [x])) v := by
  obtain ⟨i0, hi, hz0, hz1, hz2⟩ := info_parts infoInt
  rw [icells_append]
  obtain ⟨v', w', hr, h2, h3, _, h5⟩ := run_append_own_at (P := Try.prog) (w := w.alloc (.cells #[.int .i64 x] 3)) B 24 ty 3 i0 _ 1 8 Try.underlying24 hi hz0 hz1 hz2 rfl (by decide) v n _ (own_below hown ((Below.refl _ _).alloc (Nat.le_refl _) _)) ⟨w.heap.size, 0, none⟩ 1 1 (icells [x]) rfl (World.news_of_block (heap_alloc_new _ _)) (icells_one [x]) (by unfold maxLen; omega) (by omega) (by simp; omega)
  exact ⟨v', w', hr, h2, h3, h5⟩
theorem wpList_appG {P : Program} {ops : Array Oper} {rest : List Oper} {o : Oper} {a : Act} {w : World} {Q : Exit → Act → World → Prop} (hgd : o.guard = none) (s x : Operand) (t tn : TypeId)
    (ho : o.op = .call { callee := .builtin .append, args := #[s, x], argTypes := #[t, tn] }) (vs vx : Value) (hs : a.eval s = vs) (hx : a.eval x = vx) {B e k n : Nat} {xs : List Value}
    (hr : AppG P #[t, tn] o.type #[vs, vx] w B e k n xs vs) (h : ∀ v' w', w'.ownsRow B e k v' n xs → w.grownBy w' vs.ownBlock → (v'.ownBlock = vs.ownBlock ∨ v'.ownBlock = some w.heap.size) → wpList P ops Q rest (a.put o.dst v') w') : wpList P ops Q (o :: rest) a w := by
  obtain ⟨v', w', r, h1, h2, h3⟩ := hr
  exact Lib.wpList_append_run w hgd s x t tn ho vs vx hs hx v' w' r (h v' w' h1 h2 h3)
end Go.Proofs.Ytmcelfiljnlmoaa
namespace Go.Proofs.Ytmcelfiljnlmoaa
open Go.RowKit Go.Proofs.Ytmcelfiljnlmoaa.Parts Go.Proofs.Ytmcelfiljnlmoaa.Hexa

def StR (zs : List Int) (n : Nat) : Prop := ∀ j, j < n → 0 ≤ zs.getD j 0 ∧ zs.getD j 0 ≤ 2
def StOk (zs : List Int) (p : Int) : Prop := StR zs zs.length ∧ (zs.length : Int) = p ∧ 1 ≤ p ∧ p ≤ 12
noncomputable def stB (zs : List Int) (p : Int) : Bool := @decide (StOk zs p) (Classical.propDecidable _)
theorem stB_yes {zs : List Int} {p : Int} (h : StOk zs p) : stB zs p = true := by unfold stB; exact @decide_eq_true _ (Classical.propDecidable _) h
theorem stB_no {zs : List Int} {p : Int} (h : ¬ StOk zs p) : stB zs p = false := by unfold stB; exact @decide_eq_false _ (Classical.propDecidable _) h
/-- Some slice of ints of the call's own. -/
def GivesI (P : List Int) (w : World) (e : Ending) (w' : World) : Prop :=
  ∃ v, e = .returned v ∧ w'.ownsRow w.heap.size 3 1 v P.length (icells P) ∧ Below w.heap.size w w'
/-- The pages below n that bear the state. -/
def withSt (zs : List Int) (s : Int) (n : Nat) : List Int := ((List.range n).filter fun j => zs.getD j 0 == s).map fun (j : Nat) => (j : Int)
theorem withSt_zero (zs : List Int) (s : Int) : withSt zs s 0 = [] := rfl
theorem withSt_yes {zs : List Int} {s : Int} {n : Nat} (h : zs.getD n 0 = s) : withSt zs s (n + 1) = withSt zs s n ++ [(n : Int)] := by
  unfold withSt; rw [List.range_succ, List.filter_append, List.filter_cons_of_pos (by rw [h]; simp)]; simp
theorem withSt_no {zs : List Int} {s : Int} {n : Nat} (h : zs.getD n 0 ≠ s) : withSt zs s (n + 1) = withSt zs s n := by
  unfold withSt; rw [List.range_succ, List.filter_append, List.filter_cons_of_neg (by simpa [List.getD] using h)]; simp
theorem withSt_len (zs : List Int) (s : Int) (n : Nat) : (withSt zs s n).length ≤ n := by
  unfold withSt; rw [List.length_map]; have := List.length_filter_le (fun j => zs.getD j 0 == s) (List.range n); simpa using this

set_option maxRecDepth 100000 in
set_option maxHeartbeats 1000000 in
theorem specStOk_any (a : Option Addr) (n c : Nat) (zs : List Int) (p : Int) (w : World) (hs : SrcI w a n zs) (hn : n ≤ 2000000) :
    Calls Try.prog 65 #[.slice a n c, .int .i64 p] w fun e w' => e = .returned (.bool (stB zs p)) ∧ w' = w := by
  have HS := Lib.hid hs
  have HL := Lib.hid hs.len
  clear hs
  go_enter Try.func65, Try.ntmps65
  go_wp2
  go_loop [5] (fun iv => ∃ k : Nat, k ≤ n ∧ iv = .int .i64 k ∧ Hid (StR zs k)) (fun iv => n - (intOf iv).toNat)
  case atStart => exact ⟨0, Nat.zero_le _, rfl, Lib.hid (fun j hj => by omega)⟩
  case round =>
    obtain ⟨k, hk, rfl, HR⟩ := hrel
    by_cases hlt : k < n
    · obtain ⟨g, off, rfl, _, d⟩ := HS.out.cell k hlt
      obtain ⟨x, hx⟩ : ∃ x, zs.getD k 0 = x := ⟨_, rfl⟩
      rw [hx] at d
      have HX := Lib.hid hx
      clear hx
      by_cases h : 0 ≤ x ∧ x ≤ 2
      · have HR2 : Hid (StR zs (k + 1)) := Lib.hid (fun j hj => by
          by_cases e : j = k
          · subst e; rw [HX.out]; exact h
          · exact HR.out j (by omega))
        go_wp2_with fail
        refine (range_yes _ h).mono ?_
        rintro e w1 ⟨rfl, rfl⟩
        clear h
        go_wp2
        go_round
        case rel => exact ⟨k + 1, by omega, by go_num, HR2⟩
        case measure => (simp [intOf]; try omega)
      · have HN := Lib.hid (stB_no (zs := zs) (p := p) (fun h9 => h (by rw [← HX.out]; exact h9.1 k (by have := HL.out; omega))))
        go_wp2_with fail
        refine (range_no _ h).mono ?_
        rintro e w1 ⟨rfl, rfl⟩
        clear h
        go_wp2
        go_ret
        exact ⟨by rw [HN.out]; rfl, rfl⟩
    · obtain rfl : n = k := by omega
      by_cases he : (n : Int) = p
      · subst he
        by_cases h : 1 ≤ (n : Int) ∧ (n : Int) ≤ 12
        · have HN := Lib.hid (stB_yes (zs := zs) (p := (n : Int)) ⟨by rw [HL.out]; exact HR.out, by rw [HL.out], h⟩)
          go_wp2_with fail
          refine (range_yes _ h).mono ?_
          rintro e w1 ⟨rfl, rfl⟩
          clear h
          go_wp2
          go_ret
          exact ⟨by rw [HN.out]; rfl, rfl⟩
        · have HN := Lib.hid (stB_no (zs := zs) (p := (n : Int)) (fun h9 => h h9.2.2))
          go_wp2_with fail
          refine (range_no _ h).mono ?_
          rintro e w1 ⟨rfl, rfl⟩
          clear h
          go_wp2
          go_ret
          exact ⟨by rw [HN.out]; rfl, rfl⟩
      · have HN := Lib.hid (stB_no (zs := zs) (p := p) (fun h9 => he (by rw [← h9.2.1, HL.out])))
        have e1 : ((n : Int) == p) = false := by simpa using he
        clear he
        go_wp2
        go_ret
        exact ⟨by rw [HN.out]; rfl, rfl⟩

set_option maxRecDepth 100000 in
set_option maxHeartbeats 1000000 in
theorem specPagesWith_any (a : Option Addr) (n c : Nat) (zs : List Int) (s : Int) (w : World) (hs : SrcI w a n zs) (hn : n ≤ 2000000) :
    Calls Try.prog 67 #[.slice a n c, .int .i64 s] w (GivesI (withSt zs s n) w) := by
  obtain ⟨i0, hi, hz0, hz1, hz2⟩ := info_parts infoInt
  have HS := Lib.hid hs
  clear hs
  go_enter Try.func67, Try.ntmps67
  have HB0 : Hid (Below w.heap.size w (w.alloc (.cells #[] 3))) := Lib.hid ((Below.refl _ _).alloc (Nat.le_refl _) _)
  have HO0 : Hid ((w.alloc (.cells #[] 3)).ownsRow w.heap.size 3 1 (.slice (some ⟨w.heap.size, 0, none⟩) 0 0) 0 (icells [])) :=
    Lib.hid (by simpa [icells] using World.ownsRow_lit (e := 3) (size := 1) (base := w.heap.size) w #[] 0 (Nat.le_refl _) (by decide) rfl)
  go_wp2
  go_loopw [5, 6] (fun v iv wr => ∃ (k : Nat) (P : List Int), k ≤ n ∧ iv = .int .i64 k ∧ Hid (P = withSt zs s k) ∧ Hid (wr.ownsRow w.heap.size 3 1 v P.length (icells P)) ∧ Hid (Below w.heap.size w wr)) (fun _ iv _ => n - (intOf iv).toNat)
  case atStart => exact ⟨0, [], Nat.zero_le _, rfl, Lib.hid rfl, HO0, HB0⟩
  case round =>
    obtain ⟨k, P, hk, rfl, HP, HO, HB⟩ := hrel
    clear HB0 HO0
    by_cases hlt : k < n
    · obtain ⟨g, off, rfl, _, d⟩ := (HS.out.later HB.out).cell k hlt
      obtain ⟨x, hx⟩ : ∃ x, zs.getD k 0 = x := ⟨_, rfl⟩
      rw [hx] at d
      have hpl : P.length ≤ 2000000 := by rw [HP.out]; have := withSt_len zs s k; omega
      have hsz := HB.out.size
      by_cases h : x = s
      · subst h
        have HE := Lib.hid (withSt_yes (zs := zs) (s := x) hx)
        clear hx
        go_wp2_with (at_builtin; refine wpList_append_own _ rfl (.tmp 20) (.tmp 22) 24 rfl w.heap.size 3 i0 (.int .i64 0) 1 8 Try.underlying24 hi hz0 hz1 hz2 rfl (by decide) _ _ _ rfl (HO.out.alloc _) ⟨wr.heap.size, 0, none⟩ 1 1 [.int .i64 k] rfl rfl (World.news_of_block (heap_alloc_new _ _)) (by simp [Value.oneCell']) (by unfold maxLen; omega) (by omega) (by simp; omega) ?_; intro v2 w2 hown2 hgrow2 hn2)
        have HB2 : Hid (Below w.heap.size w w2) := Lib.hid ((HB.out.alloc hsz _).grown hgrow2 (by simp; omega) (fun k e => (HO.out.lt k e).1))
        have HO2 : Hid (w2.ownsRow w.heap.size 3 1 v2 (P ++ [(k : Int)]).length (icells (P ++ [(k : Int)]))) := Lib.hid (by simpa [icells, List.length_append] using hown2)
        clear hown2 hgrow2 hn2 HO HB d
        go_wp2
        go_roundw
        case rel => exact ⟨k + 1, P ++ [(k : Int)], by omega, by go_num, Lib.hid (by rw [HP.out]; exact HE.out.symm), HO2, HB2⟩
        case measure => (simp [intOf]; try omega)
      · have HE := Lib.hid (withSt_no (zs := zs) (s := s) (n := k) (by rw [hx]; exact h))
        have e1 : (x == s) = false := by simpa using h
        clear hx h
        go_wp2
        go_roundw
        case rel => exact ⟨k + 1, P, by omega, by go_num, Lib.hid (by rw [HP.out]; exact HE.out.symm), HO, HB⟩
        case measure => (simp [intOf]; try omega)
    · obtain rfl : n = k := by omega
      go_wp2
      go_ret
      exact ⟨_, rfl, by rw [← HP.out]; exact HO.out, HB.out⟩
end Go.Proofs.Ytmcelfiljnlmoaa
namespace Go.Proofs.Ytmcelfiljnlmoaa
open Go.Proofs.Ytmcelfiljnlmoaa.Byt

def InosR (L : List InoR) : Prop := ∀ j, j < L.length → InoOk (L.getD j default)
def EntsR (L : List InoR) : Prop := ∀ e ∈ entsOf L, 0 ≤ e.f0 ∧ e.f0 < (L.length : Int)
def PlaceR (L : List InoR) (i : Nat) (kd : Int) : Prop :=
  (i = 0 → kd = 2 ∧ cntI (entsOf L) i = 0) ∧ (i ≠ 0 → (kd = 0 → cntI (entsOf L) i = 0) ∧ (kd ≠ 0 → cntI (entsOf L) i = 1 ∧ depthZ L i ≠ -1))
def LinksR (L : List InoR) : Prop := EntsR L ∧ ∀ i, i < L.length → PlaceR L i (L.getD i default).kd
def RecsR (L : List InoR) (s : Nat) : Prop := ∀ r ∈ recsOf L, 1 ≤ r.f0 ∧ r.f0 ≤ (s : Int)
def UserR (L : List InoR) (pg : Nat) (st : Int) : Prop := cntP (recsOf L) pg ≤ 1 ∧ (cntP (recsOf L) pg = 1 ↔ st = 2)
def UsersR (L : List InoR) (zs : List Int) : Prop := RecsR L zs.length ∧ ∀ pg, pg < zs.length → UserR L pg (zs.getD pg 0)
def PartOkR (T P I Q : Int) (p : PartR) : Prop :=
  GeoR T P I Q ∧ SerR p.ser ∧ StOk p.st P ∧ (p.ino.length : Int) = I ∧ InosR p.ino ∧ LinksR p.ino ∧ UsersR p.ino p.st ∧ ((withSt p.st 2 p.st.length).length : Int) ≤ Q
noncomputable def decB (q : Prop) : Bool := @decide q (Classical.propDecidable _)
theorem decB_yes {q : Prop} (h : q) : decB q = true := by unfold decB; exact @decide_eq_true _ (Classical.propDecidable _) h
theorem decB_no {q : Prop} (h : ¬ q) : decB q = false := by unfold decB; exact @decide_eq_false _ (Classical.propDecidable _) h
theorem decB_iff {q : Prop} : decB q = true ↔ q := by
  unfold decB
  exact @decide_eq_true_iff _ (Classical.propDecidable _)
noncomputable def ptB (T P I Q : Int) (p : PartR) : Bool := decB (PartOkR T P I Q p)

theorem getD_mem {α : Type} [Inhabited α] {L : List α} {j : Nat} (h : j < L.length) : L.getD j default ∈ L := by
  simp only [List.getD, List.getElem?_eq_getElem h, Option.getD_some]
  exact List.getElem_mem _
theorem mem_getD {α : Type} [Inhabited α] {L : List α} {x : α} (h : x ∈ L) : ∃ j, j < L.length ∧ L.getD j default = x := by
  obtain ⟨j, hj, rfl⟩ := List.getElem_of_mem h
  exact ⟨j, hj, by simp [List.getD, hj]⟩
theorem mem_ents {L : List InoR} {e : EntryR} (h : e ∈ entsOf L) : ∃ n ∈ L, n.kd = 2 ∧ e ∈ n.E := by
  unfold entsOf at h
  obtain ⟨n, hn, he⟩ := List.mem_flatMap.1 h
  by_cases hk : n.kd = 2
  · rw [dirE_yes hk] at he; exact ⟨n, hn, hk, he⟩
  · rw [dirE_no hk] at he; cases he
theorem mem_recs {L : List InoR} {r : RecR} (h : r ∈ recsOf L) : ∃ n ∈ L, n.kd = 1 ∧ r ∈ n.R := by
  unfold recsOf at h
  obtain ⟨n, hn, he⟩ := List.mem_flatMap.1 h
  by_cases hk : n.kd = 1
  · rw [filR_yes hk] at he; exact ⟨n, hn, hk, he⟩
  · rw [filR_no hk] at he; cases he
/-- What a valid inode's entries and records are. -/
theorem ok_ents {n : InoR} (h : InoOk n) : n.E = dirE n ∧ ∀ e ∈ n.E, 1 ≤ e.f0 := by
  rcases h.2 with ⟨hk, h1, h2, h3, h4⟩ | ⟨hk, h1, h2, h3, h4, h5⟩ | ⟨hk, h1, h2, h3, h4, h5⟩
  · have h9 : n.E = [] := List.length_eq_zero_iff.1 h4
    exact ⟨by rw [h9, dirE_no (by omega)], fun e he => by rw [h9] at he; cases he⟩
  · have h9 : n.E = [] := List.length_eq_zero_iff.1 h4
    exact ⟨by rw [h9, dirE_no (by omega)], fun e he => by rw [h9] at he; cases he⟩
  · refine ⟨(dirE_yes hk).symm, fun e he => ?_⟩
    obtain ⟨j, hj, rfl⟩ := mem_getD he
    exact (h5 j hj).1.1.1
theorem ok_recs {n : InoR} (h : InoOk n) : n.R = filR n ∧ ∀ r ∈ n.R, 1 ≤ r.f0 := by
  rcases h.2 with ⟨hk, h1, h2, h3, h4⟩ | ⟨hk, h1, h2, h3, h4, h5⟩ | ⟨hk, h1, h2, h3, h4, h5⟩
  · have h9 : n.R = [] := List.length_eq_zero_iff.1 h3
    exact ⟨by rw [h9, filR_no (by omega)], fun e he => by rw [h9] at he; cases he⟩
  · refine ⟨(filR_yes hk).symm, fun r hr => ?_⟩
    obtain ⟨j, hj, rfl⟩ := mem_getD hr
    exact (h5 j hj).1.1.1
  · have h9 : n.R = [] := List.length_eq_zero_iff.1 h3
    exact ⟨by rw [h9, filR_no (by omega)], fun e he => by rw [h9] at he; cases he⟩
/-- The records counted, inode by inode. -/
def sumR (L : List InoR) : Nat := (L.map fun n => n.R.length).sum
theorem sumR_next {L : List InoR} {k : Nat} (hk : k < L.length) : sumR (L.take (k + 1)) = sumR (L.take k) + (L.getD k default).R.length := by
  unfold sumR
  rw [take_next hk, List.map_append, List.sum_append]
  simp
theorem sumR_eq : ∀ L : List InoR, (∀ n ∈ L, InoOk n) → sumR L = (recsOf L).length
  | [], _ => rfl
  | n :: r, h => by
    have h1 := sumR_eq r (fun x hx => h x (List.mem_cons_of_mem _ hx))
    have h2 := (ok_recs (h n List.mem_cons_self)).1
    show n.R.length + sumR r = (recsOf (n :: r)).length
    unfold recsOf at h1 ⊢
    rw [List.flatMap_cons, List.length_append, ← h2, h1]
theorem sumR_le (L : List InoR) (k : Nat) : sumR (L.take k) ≤ szL (celsE cIno L) := by
  refine Nat.le_trans ?_ (szL_take cIno L k)
  generalize L.take k = M
  induction M with
  | nil => exact Nat.zero_le _
  | cons n r ih =>
    have h1 := cIno_sz n
    have h2 := len_sz cRec n.R
    show n.R.length + sumR r ≤ _
    rw [celsE, szL_append, h1]
    omega

theorem depth_ge (L : List InoR) : ∀ (f n : Nat) (i : Int), depthGo L f n i = -1 ∨ 0 ≤ depthGo L f n i
  | 0, _, _ => .inl rfl
  | f + 1, n, i => by
    rw [depthGo]
    split
    · exact .inr (by omega)
    · split
      · exact .inl rfl
      · exact depth_ge L f (n + 1) _
theorem depth_neg (L : List InoR) (i : Int) : depthZ L i < 0 ↔ depthZ L i = -1 := by
  have := depth_ge L (L.length + 1) 0 i
  unfold depthZ
  omega

/-! Users, counted. -/
theorem withSt_mem {zs : List Int} {s x : Int} {n : Nat} : x ∈ withSt zs s n ↔ ∃ j : Nat, j < n ∧ zs.getD j 0 = s ∧ x = (j : Int) := by
  unfold withSt
  simp only [List.mem_map, List.mem_filter, List.mem_range, beq_iff_eq]
  constructor
  · rintro ⟨j, ⟨h1, h2⟩, rfl⟩; exact ⟨j, h1, h2, rfl⟩
  · rintro ⟨j, h1, h2, rfl⟩; exact ⟨j, ⟨h1, h2⟩, rfl⟩
theorem withSt_nodup (zs : List Int) (s : Int) (n : Nat) : (withSt zs s n).Nodup := by
  unfold withSt
  rw [List.Nodup, List.pairwise_map]
  exact (List.nodup_range.filter _).imp (fun h e => h (by omega))
theorem sum_users (U : List Int) (hU : U.Nodup) : ∀ R : List RecR, (U.map (cntP R)).sum = R.countP (fun r => decide (r.f0 - 1 ∈ U))
  | [] => by
    have : ∀ V : List Int, (V.map (cntP [])).sum = 0 := by
      intro V
      induction V with
      | nil => rfl
      | cons x V ih => rw [List.map_cons, List.sum_cons, ih]; rfl
    rw [this]; rfl
  | r :: R => by
    have ih := sum_users U hU R
    have key : ∀ V : List Int, V.Nodup → (V.map (cntP (r :: R))).sum = (V.map (cntP R)).sum + if r.f0 - 1 ∈ V then 1 else 0 := by
      intro V
      induction V with
      | nil => intro _; rfl
      | cons x V ihV =>
        intro hn
        obtain ⟨h1, h2⟩ := List.nodup_cons.1 hn
        have h3 : cntP (r :: R) x = cntP R x + if r.f0 - 1 = x then 1 else 0 := by
          unfold cntP
          rw [List.countP_cons]
          congr 1
          by_cases h : r.f0 = x + 1
          · simp [h]
          · have h' : ¬ r.f0 - 1 = x := by omega
            simp [h, h']
        rw [List.map_cons, List.sum_cons, List.map_cons, List.sum_cons, ihV h2, h3]
        by_cases h : r.f0 - 1 = x
        · have h4 : r.f0 - 1 ∉ V := by rw [h]; exact h1
          rw [if_pos h, if_neg h4, if_pos (by rw [h]; exact List.mem_cons_self)]
          omega
        · by_cases h4 : r.f0 - 1 ∈ V
          · rw [if_neg h, if_pos h4, if_pos (List.mem_cons_of_mem _ h4)]; omega
          · have h5 : r.f0 - 1 ∉ x :: V := by simp only [List.mem_cons, not_or]; exact ⟨h, h4⟩
            rw [if_neg h, if_neg h4, if_neg h5]
            omega
    rw [key U hU, ih, List.countP_cons]
    congr 1
    by_cases h : r.f0 - 1 ∈ U <;> simp [h]
theorem sum_ones {U : List Int} {f : Int → Nat} (h : ∀ x ∈ U, f x = 1) : (U.map f).sum = U.length := by
  induction U with
  | nil => rfl
  | cons x V ih =>
    rw [List.map_cons, List.sum_cons, h x List.mem_cons_self, ih (fun y hy => h y (List.mem_cons_of_mem _ hy)), List.length_cons, Nat.add_comm]
theorem cntP_pos {R : List RecR} {r : RecR} (h : r ∈ R) : 1 ≤ cntP R (r.f0 - 1) := by
  unfold cntP
  rw [Nat.one_le_iff_ne_zero]
  intro h0
  have := List.countP_eq_zero.1 h0 r h
  simp at this
/-- Each used page one user, no other page any, no record elsewhere: told by the used pages alone, and by how many records there are. -/
theorem users_iff (L : List InoR) (zs : List Int) (h1 : ∀ r ∈ recsOf L, 1 ≤ r.f0) (hone : ∀ x ∈ withSt zs 2 zs.length, cntP (recsOf L) x = 1) :
    UsersR L zs ↔ (withSt zs 2 zs.length).length = (recsOf L).length := by
  have hs := sum_users _ (withSt_nodup zs 2 zs.length) (recsOf L)
  rw [sum_ones hone] at hs
  constructor
  · rintro ⟨ha, hb⟩
    rw [hs, List.countP_eq_length.2]
    intro r hr
    have h2 := ha r hr
    have h3 := hb (r.f0 - 1).toNat (by omega)
    have h4 : ((r.f0 - 1).toNat : Int) = r.f0 - 1 := by omega
    have h5 := cntP_pos hr
    unfold UserR at h3
    rw [h4] at h3
    have h6 : cntP (recsOf L) (r.f0 - 1) = 1 := by omega
    simp only [decide_eq_true_eq]
    exact withSt_mem.2 ⟨(r.f0 - 1).toNat, by omega, h3.2.1 h6, h4.symm⟩
  · intro hlen
    rw [hlen] at hs
    have hall := List.countP_eq_length.1 hs.symm
    have hin : ∀ r ∈ recsOf L, r.f0 - 1 ∈ withSt zs 2 zs.length := fun r hr => by simpa using hall r hr
    refine ⟨fun r hr => ?_, fun pg hpg => ?_⟩
    · obtain ⟨j, hj, _, e⟩ := withSt_mem.1 (hin r hr)
      exact ⟨h1 r hr, by omega⟩
    · by_cases hst : zs.getD pg 0 = 2
      · have := hone (pg : Int) (withSt_mem.2 ⟨pg, hpg, hst, rfl⟩)
        unfold UserR
        omega
      · have h0 : cntP (recsOf L) (pg : Int) = 0 := by
          unfold cntP
          rw [List.countP_eq_zero]
          intro r hr
          obtain ⟨j, hj, hj2, e⟩ := withSt_mem.1 (hin r hr)
          simp only [beq_iff_eq]
          intro h9
          have : j = pg := by omega
          rw [this] at hj2
          exact hst hj2
        unfold UserR
        rw [h0]
        omega
theorem users_one {L : List InoR} {zs : List Int} {x : Int} (h : UsersR L zs) (hx : x ∈ withSt zs 2 zs.length) : cntP (recsOf L) x = 1 := by
  obtain ⟨j, hj, h2, rfl⟩ := withSt_mem.1 hx
  exact (h.2 j hj).2.2 h2
end Go.Proofs.Ytmcelfiljnlmoaa
namespace Go.Proofs.Ytmcelfiljnlmoaa
open Go.RowKit Go.Proofs.Ytmcelfiljnlmoaa.Parts

/-- How great an inode's parts are. -/
theorem ino_fits {x : InoR} (h : szL (cIno.cels x) ≤ 1048576) (ht : TyL (cIno.cels x)) : (-9223372036854775808 ≤ x.sz ∧ x.sz ≤ 9223372036854775807) ∧ x.R.length ≤ 1048576 ∧ x.E.length ≤ 1048576 ∧ FitRec x.R x.R.length 2000000 ∧ FitEntry x.E x.E.length 2000000 := by
  rw [cIno_sz] at h
  have h1 := len_sz cRec x.R
  have h2 := len_sz cEntry x.E
  obtain ⟨_, t1, _, _, _, _, _⟩ := ht
  refine ⟨t1, by omega, by omega, fun j hj => ?_, fun j hj => ?_⟩
  · have h3 := szL_at cRec x.R j hj
    rw [cRec_sz] at h3
    have := sz_row' cRec x.R
    omega
  · have h3 := szL_at cEntry x.E j hj
    rw [cEntry_sz] at h3
    have := sz_row' cEntry x.E
    omega
theorem part_ino {p : PartR} (hz : szL (cPart.cels p) ≤ 1048576) : p.ino.length ≤ 1048576 ∧ ∀ k, k < p.ino.length → szL (cIno.cels (p.ino.getD k default)) ≤ 1048576 := by
  rw [cPart_sz] at hz
  have h1 := sz_row' cIno p.ino
  exact ⟨by omega, fun k hk => by have := szL_at cIno p.ino k hk; omega⟩
end Go.Proofs.Ytmcelfiljnlmoaa
namespace Go.Proofs.Ytmcelfiljnlmoaa
open Go.RowKit Go.Proofs.Ytmcelfiljnlmoaa.Parts Go.Proofs.Ytmcelfiljnlmoaa.Hexa

set_option maxRecDepth 100000 in
set_option maxHeartbeats 2000000 in
theorem specUsers_any (p : PartR) (a1 : Option Addr) (c1 : Nat) (a2 : Option Addr) (c2 : Nat) (i : Int) (w : World) (h2 : (celRow cIno p.ino).Rd w (.slice a2 p.ino.length c2)) (hz : szL (cPart.cels p) ≤ 100000000) (ht : TyL (celsE cIno p.ino)) (hi : 0 ≤ i ∧ i ≤ 1000000) :
    Calls Try.prog 25 #[.agg #[.int .i64 p.ser, .slice a1 p.st.length c1, .slice a2 p.ino.length c2], .int .i64 i] w (SaysI (cntP (recsOf p.ino) i : Nat) w) := by
  have B0 := Lib.hid (below_bk w (.cells #[.int .i64 p.ser, .slice a1 p.st.length c1, .slice a2 p.ino.length c2] 27))
  have T0 := Lib.hid (Bk.alloc w #[.int .i64 p.ser, .slice a1 p.st.length c1, .slice a2 p.ino.length c2] 27)
  have HS := Lib.hid (Cel.Rd.later B0.out _ _ h2)
  rw [cPart_sz] at hz
  have hz1 : p.ino.length + szL (celsE cIno p.ino) ≤ 100000000 := by have := sz_row cIno p.ino; omega
  have HE : Hid (∀ k, (recsOf (p.ino.take k)).length ≤ 100000000) := Lib.hid (fun k => by have := recs_take p.ino k; omega)
  have hn : p.ino.length ≤ 100000000 := by omega
  have HY : Hid (∀ k, k < p.ino.length → (p.ino.getD k default).R.length ≤ 100000000) := Lib.hid (fun k hk => by
    have h3 := szL_at cIno p.ino k hk
    rw [cIno_sz] at h3
    have := len_sz cRec (p.ino.getD k default).R
    omega)
  have HT := Lib.hid ht
  obtain ⟨hi0, hi1⟩ := hi
  clear h2 hz hz1 ht
  obtain ⟨W0, hW0⟩ : ∃ x, x = w.alloc (.cells #[.int .i64 p.ser, .slice a1 p.st.length c1, .slice a2 p.ino.length c2] 27) := ⟨_, rfl⟩
  rw [← hW0] at B0 T0 HS
  have HW0 := Lib.hid hW0
  clear hW0
  have c2' := T0.out.cell (j := 2) rfl
  go_enter Try.func25, Try.ntmps25
  go_wp2
  rw [← HW0.out]
  go_loopw [5, 6] (fun nv kv wr => ∃ (k m : Nat), k ≤ p.ino.length ∧ kv = .int .i64 k ∧ nv = .int .i64 (m : Int) ∧ m ≤ 100000000 ∧ Hid (m = cntP (recsOf (p.ino.take k)) i) ∧ W0 = wr) (fun _ kv _ => p.ino.length - (intOf kv).toNat)
  case atStart => exact ⟨0, 0, Nat.zero_le _, rfl, rfl, by omega, Lib.hid rfl, rfl⟩
  case round =>
    obtain ⟨k, m, hk, rfl, rfl, hm, HM, rfl⟩ := hrel
    by_cases hlt : k < p.ino.length
    · have HE1 := Lib.hid (HE.out (k + 1))
      have HN := Lib.hid (recsOf_next hlt)
      have hy := HY.out k hlt
      obtain ⟨g, off, a4, c4, a5, c5, rfl, hg, d0, d1, d2, d3, d4, d5, r4, r5⟩ := cIno_at HS.out k hlt
      obtain ⟨x, hx⟩ : ∃ x, p.ino.getD k default = x := ⟨_, rfl⟩
      have HTx := Lib.hid (TyL_at cIno p.ino k HT.out hlt)
      rw [hx] at d0 d4 r4 HN hy HTx
      clear hx d1 d2 d3 d5 r5
      have R5 := Lib.hid r4
      clear r4
      have HTr : Hid (TyL (celsE cRec x.R)) := Lib.hid HTx.out.2.2.2.2.1.2
      clear HTx
      go_wp2
      go_loopw [5, 7] (fun nv jv wr => ∃ (j m' : Nat), j ≤ x.R.length ∧ jv = .int .i64 j ∧ nv = .int .i64 (m' : Int) ∧ m' ≤ 100000000 ∧ Hid (m' = m + cntP (x.R.take j) i) ∧ (x.kd = 1 ∨ j = 0) ∧ W0 = wr) (fun _ jv _ => x.R.length - (intOf jv).toNat)
      case atStart => exact ⟨0, m, Nat.zero_le _, rfl, rfl, hm, Lib.hid rfl, .inr rfl, rfl⟩
      case round =>
        obtain ⟨j, m', hj, rfl, rfl, hm', HM', hor, rfl⟩ := hrel
        by_cases hjt : j < x.R.length
        · by_cases hkd : x.kd = 1
          · rw [hkd] at d0
            obtain ⟨ge, oe, rfl, hge, q0, q1, q2⟩ := cRec_at R5.out j hjt
            have hb : -9223372036854775808 ≤ (x.R.getD j default).f0 ∧ (x.R.getD j default).f0 ≤ 9223372036854775807 := (TyL_at cRec x.R j HTr.out hjt).1
            obtain ⟨ev, hev⟩ : ∃ e, (x.R.getD j default).f0 = e := ⟨_, rfl⟩
            rw [hev] at q0 hb
            clear q1 q2
            by_cases hq : ev = i + 1
            · have HC := Lib.hid (cntP_yes hjt (hev.trans hq))
              subst hq
              clear hev
              have hm9 : m' + 1 ≤ 100000000 := by
                have h1 := HM'.out
                have h2 := HC.out
                have h3 := HE1.out
                rw [HN.out, filR_yes hkd, List.length_append] at h3
                have h4 := HM.out
                have h5 := cntP_le (recsOf (p.ino.take k)) i
                have h6 := cntP_le (x.R.take (j + 1)) i
                have h7 : (x.R.take (j + 1)).length ≤ x.R.length := by rw [List.length_take]; omega
                omega
              go_wp2
              go_roundw
              case rel => exact ⟨j + 1, m' + 1, by omega, by go_num, by go_num, hm9, Lib.hid (by have := HM'.out; have := HC.out; omega), by simp [hkd], by first | rfl | trivial⟩
              case measure => (simp [intOf]; try omega)
            · have HC := Lib.hid (cntP_no hjt (fun e => hq (hev.symm.trans e)))
              clear hev
              by_cases hmin : ev = -9223372036854775808
              case pos =>
                have hwr : wrap64 (-9223372036854775809) = 9223372036854775807 := by unfold wrap64; omega
                have hne : ¬ ((9223372036854775807 : Int) = i) := by omega
                clear hq
                go_wp2
                go_roundw
                case rel => exact ⟨j + 1, m', by omega, by go_num, rfl, hm', Lib.hid (by have := HM'.out; have := HC.out; omega), by simp [hkd], by first | rfl | trivial⟩
                case measure => (simp [intOf]; try omega)
              have hne : ¬ (ev - 1 = i) := by omega
              have hge1 : -9223372036854775807 ≤ ev := by omega
              go_wp2
              go_roundw
              case rel => exact ⟨j + 1, m', by omega, by go_num, rfl, hm', Lib.hid (by have := HM'.out; have := HC.out; omega), by simp [hkd], by first | rfl | trivial⟩
              case measure => (simp [intOf]; try omega)
          · obtain rfl : j = 0 := by
              rcases hor with h | h
              · exact absurd h hkd
              · exact h
            have HM2 : Hid (m' = cntP (recsOf (p.ino.take (k + 1))) i) := Lib.hid (by
              rw [HN.out, filR_no hkd, List.append_nil, HM'.out, ← HM.out]; rfl)
            go_wp2
            go_roundw
            case rel => exact ⟨k + 1, m', by omega, by go_num, rfl, hm', HM2, by first | rfl | trivial⟩
            case measure => (simp [intOf]; try omega)
        · obtain rfl : j = x.R.length := by omega
          have HM2 : Hid (m' = cntP (recsOf (p.ino.take (k + 1))) i) := Lib.hid (by
            rw [HN.out, cntP_append, ← HM.out, HM'.out, List.take_length]
            rcases hor with h | h
            · rw [filR_yes h]
            · have h9 : x.R = [] := List.length_eq_zero_iff.1 h
              by_cases hkd : x.kd = 1
              · rw [filR_yes hkd]
              · rw [filR_no hkd, h9])
          go_wp2
          go_roundw
          case rel => exact ⟨k + 1, m', by omega, by go_num, rfl, hm', HM2, by first | rfl | trivial⟩
          case measure => (simp [intOf]; try omega)
    · obtain rfl : k = p.ino.length := by omega
      have h9 := HM.out
      rw [List.take_length] at h9
      subst h9
      go_wp2
      go_ret
      exact ⟨rfl, B0.out⟩
end Go.Proofs.Ytmcelfiljnlmoaa
namespace Go.Proofs.Ytmcelfiljnlmoaa
open Go.RowKit Go.Proofs.Ytmcelfiljnlmoaa.Hexa Go.Proofs.Ytmcelfiljnlmoaa.Byt Go.Proofs.Ytmcelfiljnlmoaa.BitsM

set_option maxRecDepth 100000 in
set_option maxHeartbeats 1000000 in
theorem long_any (n : Nat) (x : UInt8) (w : World) (hn : n ≤ 8000000) :
    Calls Try.prog 117 #[.int .i64 n, .int .u8 x.toNat] w fun e w' => e = .returned (.string (longB n x)) ∧ Below w.heap.size w w' := by
  obtain ⟨i0, hi, hz0, hz1, hz2⟩ := info_parts infoByte
  obtain ⟨xv, hxv⟩ : ∃ xv : Int, (x.toNat : Int) = xv := ⟨_, rfl⟩
  rw [hxv]
  have HXV := Lib.hid hxv
  clear hxv
  go_enter Try.func117, Try.ntmps117
  go_wp2_with (at_make; refine wpList_make_full _ rfl _ _ 48 rfl w.heap.size 5 i0 (.int .u8 0) 1 Try.underlying48 hi hz0 hz1 .i64 .i64 _ _ n rfl rfl rfl rfl (by rw [hz2]; omega) (by unfold maxLen; omega) (Nat.le_refl _) ?_; intro w0 hown0 hgrow0)
  have hg0 : Below w.heap.size w w0 := (Below.refl _ _).grown hgrow0 (Nat.le_refl _) (fun k h => by cases h)
  have HO0 := Lib.hid hown0
  clear hown0 hgrow0
  go_loopw [6] (fun iv wr => ∃ (k : Nat) (xs : List Value), k ≤ n ∧ iv = .int .i64 k ∧ Hid (wr.ownsRow w.heap.size 5 1 (.slice (some ⟨w.heap.size, 0, none⟩) n n) n xs) ∧ Hid (∀ j, j < k → xs[j]? = some (.int .u8 xv)) ∧ Below w.heap.size w wr)
    (fun iv _ => n - (intOf iv).toNat)
  case atStart => exact ⟨0, _, Nat.zero_le _, rfl, HO0, Lib.hid (fun j hj => by omega), hg0⟩
  case round =>
    clear HO0 hg0
    obtain ⟨k, xs, hk, rfl, HW, HX, hbel⟩ := hrel
    have hxl : Hid (xs.length = n) := Lib.hid (own_length HW.out)
    by_cases hlt : k < n
    · have c3 : ∃ v, wr.cell? ⟨w.heap.size, k, none⟩ = some v := ⟨xs[k]'(by have := hxl.out; omega), by rw [HW.out.cellAt k (by omega)]; simp [hxl.out, hlt]⟩
      obtain ⟨v3, c3⟩ := c3
      have z3 := HW.out.frozenAt k
      have O1 := Lib.hid (HW.out.stored k (.int .u8 xv)).1
      have hb1 : Below w.heap.size w (wr.setCell ⟨w.heap.size, k, none⟩ (.int .u8 xv)) := hbel.setCell (Nat.le_refl _) _
      have X1 : Hid (∀ j, j < k + 1 → (xs.set k (.int .u8 xv))[j]? = some (.int .u8 xv)) := Lib.hid (fun j hj => by
        by_cases e : j = k
        · subst e; rw [List.getElem?_set_self (by have := hxl.out; omega)]
        · rw [List.getElem?_set_ne (by omega)]; exact HX.out j (by omega))
      go_wp2
      go_roundw
      case rel => exact ⟨k + 1, _, by omega, by go_num, O1, X1, hb1⟩
      case measure => (simp [intOf]; try omega)
    · obtain rfl : k = n := by omega
      have hfin : xs = bcells (List.replicate k x) := by
        apply List.ext_getElem?
        intro j
        by_cases hj : j < k
        · rw [HX.out j hj, ← HXV.out]; simp [bcells, hj]
        · rw [List.getElem?_eq_none (by have := hxl.out; omega), List.getElem?_eq_none (by rw [bcells_length]; simp; omega)]
      have ho := HW.out
      rw [hfin] at ho
      have hconv := own_string (P := Try.prog) 48 9 Try.underlying48 Try.underlying5 Try.underlying9 ho
      clear hfin ho
      go_wp2
      go_ret
      exact ⟨rfl, hbel⟩

end Go.Proofs.Ytmcelfiljnlmoaa
namespace Go.Proofs.Ytmcelfiljnlmoaa
open Go.RowKit Go.Proofs.Ytmcelfiljnlmoaa.Hexa Go.Proofs.Ytmcelfiljnlmoaa.Byt Go.Proofs.Ytmcelfiljnlmoaa.BitsM Go.Proofs.Ytmcelfiljnlmoaa.Parts

set_option maxRecDepth 100000 in
set_option maxHeartbeats 400000 in
theorem specZero_any (n : Int) (w : World) :
    Calls Try.prog 100 #[.int .i64 n] w fun e w' => e = .returned (.string (zeroB n)) ∧ Below w.heap.size w w' := by
  by_cases h : 0 ≤ n ∧ n ≤ 20000
  · have HE : Hid (zeroB n = longB n.toNat 0) := Lib.hid (if_pos h)
    have HR := Lib.hid h
    obtain ⟨k, rfl⟩ : ∃ k : Nat, n = k := ⟨n.toNat, by omega⟩
    have KL := Lib.hid fun w => long_any k 0 w (by omega)
    clear h
    go_enter Try.func100, Try.ntmps100
    go_wp2_with (first
      | (go_at_call 64; refine (range_yes _ HR.out).mono ?_; rintro e w1 ⟨rfl, rfl⟩)
      | (go_at_call 117; refine (KL.out _).mono ?_; rintro e w2 ⟨rfl, hb2⟩))
    go_ret
    exact ⟨by rw [HE.out]; rfl, hb2⟩
  · have HE : Hid (zeroB n = ⟨#[]⟩) := Lib.hid (if_neg h)
    have HR := Lib.hid h
    clear h
    go_enter Try.func100, Try.ntmps100
    go_wp2_with (first
      | (go_at_call 64; refine (range_no _ HR.out).mono ?_; rintro e w1 ⟨rfl, rfl⟩))
    go_ret
    exact ⟨by rw [HE.out]; rfl, Below.refl _ _⟩

end Go.Proofs.Ytmcelfiljnlmoaa
namespace Go.Proofs.Ytmcelfiljnlmoaa
open Go.RowKit Go.Proofs.Ytmcelfiljnlmoaa.Hexa Go.Proofs.Ytmcelfiljnlmoaa.Byt Go.Proofs.Ytmcelfiljnlmoaa.BitsM Go.Proofs.Ytmcelfiljnlmoaa.Parts

set_option maxRecDepth 100000 in
set_option maxHeartbeats 1000000 in
theorem specNum_yes (m k : Nat) (w : World) (hk : 1 ≤ k) (hk' : k ≤ 7) (hm : m < 256 ^ k) :
    Calls Try.prog 75 #[.int .i64 m, .int .i64 k] w fun e w' => e = .returned (.string (numB m k)) ∧ Below w.heap.size w w' := by
  have hmb : m < 72057594037927936 := Nat.lt_of_lt_of_le hm (Nat.le_trans (Nat.pow_le_pow_right (by omega) hk') (by decide))
  have hq := shift_zero hm
  have h0 : ¬ ((m : Int) < 0) := by omega
  have HR : Hid ((1 : Int) ≤ (k : Int) ∧ (k : Int) ≤ 7) := Lib.hid (by omega)
  clear hm
  go_enter Try.func75, Try.ntmps75
  go_wp2_with (first
    | (go_at_call 64; refine (range_yes _ HR.out).mono ?_; rintro e w1 ⟨rfl, rfl⟩))
  try rw [hq]
  clear hq
  go_loopw [5, 6] (fun v iv wr => ∃ j : Nat, j ≤ k ∧ iv = .int .i64 ((k : Int) - 1 - j) ∧ Bytes wr w1.heap.size 5 v (numL m k j) ∧ Below w1.heap.size w1 wr)
    (fun _ iv _ => (intOf iv + 1).toNat)
  case atStart => exact ⟨0, Nat.zero_le _, by go_num, bytes_of_own (l := []) (World.ownsRow_lit w1 #[] 0 (Nat.le_refl _) (by decide) rfl), (Below.refl _ _).alloc (Nat.le_refl _) _⟩
  case round =>
    obtain ⟨j, hj, rfl, hb, hg⟩ := hrel
    obtain ⟨a, c, rfl⟩ := bytes_len hb
    have hl := numL_length m k j
    by_cases hlt : j < k
    · have hw : IntKind.u64.wrap ((k : Int) - 1 - j) = (k : Int) - 1 - j := IntWalk.u64_in _ (by omega)
      have hsh : ((k : Int) - 1 - j).toNat = k - 1 - j := by omega
      have hge : 0 ≤ (k : Int) - 1 - j := by omega
      go_wp2_with (first
        | (at_builtin; refine wpList_append_out rfl (.tmp 29) (.tmp 36) 48 48 rfl _ _ rfl rfl (outB _ hb hg.size _ (UInt8.ofNat (m / 256 ^ (k - 1 - j))) _ (num_byte m (k - 1 - j)) (by omega)) ?_; intro v1 w2 hb1 hg1))
      rw [numL_next] at hb1
      go_roundw
      case rel => exact ⟨j + 1, by omega, by go_num, hb1, (hg.alloc hg.size _).trans hg1⟩
      case measure => simp [intOf]; omega
    · obtain rfl : j = k := by omega
      have hconv := bytes_string (P := Try.prog) 48 9 Try.underlying48 Try.underlying5 Try.underlying9 hb
      rw [hl] at hconv
      go_wp2
      go_ret
      exact ⟨rfl, hg⟩

set_option maxRecDepth 100000 in
set_option maxHeartbeats 1000000 in
theorem specNum_no (n width : Int) (w : World) (h : ¬ NumFits n width) (hn : n ≤ 9223372036854775807) :
    Calls Try.prog 75 #[.int .i64 n, .int .i64 width] w fun e w' => e = .returned (.string ⟨#[]⟩) ∧ w' = w := by
  by_cases h0 : n < 0
  · go_enter Try.func75, Try.ntmps75
    go_wp2
    go_ret
    exact ⟨rfl, rfl⟩
  · by_cases hr : 1 ≤ width ∧ width ≤ 7
    · have hbig : ¬ n < 256 ^ width.toNat := fun hlt => h ⟨by omega, hr, hlt⟩
      obtain ⟨k, rfl⟩ : ∃ k : Nat, width = k := ⟨width.toNat, by omega⟩
      obtain ⟨m, rfl⟩ : ∃ m : Nat, n = m := ⟨n.toNat, by omega⟩
      have hm : 256 ^ k ≤ m := by
        have e : ((k : Int).toNat) = k := by omega
        rw [e] at hbig
        have e2 : (256 : Int) ^ k = ((256 ^ k : Nat) : Int) := by simp
        rw [e2] at hbig
        omega
      have hq := shift_pos hm
      have HR := Lib.hid hr
      have hk7 : k ≤ 7 := by omega
      clear h hbig hm hr
      go_enter Try.func75, Try.ntmps75
      go_wp2_with (first
        | (go_at_call 64; refine (range_yes _ HR.out).mono ?_; rintro e w1 ⟨rfl, rfl⟩))
      go_ret
      exact ⟨rfl, rfl⟩
    · have HR := Lib.hid hr
      clear h hr
      go_enter Try.func75, Try.ntmps75
      go_wp2_with (first
        | (go_at_call 64; refine (range_no _ HR.out).mono ?_; rintro e w1 ⟨rfl, rfl⟩))
      go_ret
      exact ⟨rfl, rfl⟩

theorem specNum_any (n width : Int) (w : World) (hn : n ≤ 9223372036854775807) :
    Calls Try.prog 75 #[.int .i64 n, .int .i64 width] w fun e w' => e = .returned (.string (numTextB n width)) ∧ Below w.heap.size w w' := by
  by_cases h : NumFits n width
  · have hE : numTextB n width = numB n.toNat width.toNat := by unfold numTextB; exact if_pos h
    obtain ⟨h0, ⟨h1, h7⟩, hf⟩ := h
    obtain ⟨m, rfl⟩ : ∃ m : Nat, n = m := ⟨n.toNat, by omega⟩
    obtain ⟨k, rfl⟩ : ∃ k : Nat, width = k := ⟨width.toNat, by omega⟩
    rw [hE]
    simp only [Int.toNat_natCast] at hf ⊢
    have e2 : (256 : Int) ^ k = ((256 ^ k : Nat) : Int) := by simp
    rw [e2] at hf
    exact specNum_yes m k w (by omega) (by omega) (by omega)
  · have hE : numTextB n width = ⟨#[]⟩ := by unfold numTextB; exact if_neg h
    rw [hE]
    exact (specNum_no n width w h hn).mono fun e w' ⟨he, hw⟩ => ⟨he, by rw [hw]; exact Below.refl _ _⟩
end Go.Proofs.Ytmcelfiljnlmoaa
namespace Go.Proofs.Ytmcelfiljnlmoaa
open Go.RowKit Go.Proofs.Ytmcelfiljnlmoaa.Hexa Go.Proofs.Ytmcelfiljnlmoaa.Byt Go.Proofs.Ytmcelfiljnlmoaa.BitsM Go.Proofs.Ytmcelfiljnlmoaa.Parts

set_option maxRecDepth 100000 in
set_option maxHeartbeats 400000 in
theorem specWord_any (s : ByteArray) (w : World) :
    Calls Try.prog 74 #[.string s] w fun e w' => e = .returned (.string (wordB s)) ∧ Below w.heap.size w w' := by
  by_cases h : s.size ≤ 8
  · have HE : Hid (wordB s = s ++ longB (8 - s.size) 0) := Lib.hid (if_pos h)
    have hsz : s.size + (longB (8 - s.size) 0).size ≤ 8 := by rw [longB_size]; omega
    have hz := zeroB_of s h
    go_enter Try.func74, Try.ntmps74
    go_wp2_with (first
      | (go_at_call 100; refine (specZero_any _ _).mono ?_; rintro e w2 ⟨rfl, hb2⟩; rw [hz]))
    go_ret
    exact ⟨by rw [HE.out]; rfl, hb2⟩
  · have HE : Hid (wordB s = ⟨#[]⟩) := Lib.hid (if_neg h)
    have hlt : 8 < s.size := by omega
    go_enter Try.func74, Try.ntmps74
    go_wp2
    go_ret
    exact ⟨by rw [HE.out]; rfl, Below.refl _ _⟩

end Go.Proofs.Ytmcelfiljnlmoaa
namespace Go.Proofs.Ytmcelfiljnlmoaa
open Go.RowKit Go.Proofs.Ytmcelfiljnlmoaa.Parts Go.Proofs.Ytmcelfiljnlmoaa.Hexa Go.Proofs.Ytmcelfiljnlmoaa.Byt

theorem name_all {s : ByteArray} (hl : 1 ≤ s.size ∧ s.size ≤ 7) (h : ∀ j (hj : j < s.size), NameC s[j]) : NameR s := by
  refine ⟨hl, fun b hb => ?_⟩
  obtain ⟨j, hj, rfl⟩ := List.getElem_of_mem hb
  exact h j (by simpa using hj)
theorem name_at {s : ByteArray} (h : NameR s) (j : Nat) (hj : j < s.size) : NameC s[j] := by
  refine h.2 _ ?_
  have hj' : j < s.data.toList.length := by simpa using hj
  exact List.getElem_mem hj'

set_option maxRecDepth 100000 in
set_option maxHeartbeats 1000000 in
theorem specName_any (s : ByteArray) (w : World) (hs : s.size ≤ 2000000) :
    Calls Try.prog 113 #[.string s] w fun e w' => e = .returned (.bool (nameB s)) ∧ w' = w := by
  go_enter Try.func113, Try.ntmps113
  go_wp2
  go_loop [3] (fun i => ∃ k : Nat, k ≤ s.size ∧ i = .int .i64 k ∧ Hid (∀ j (hj : j < s.size), j < k → NameC s[j])) (fun i => s.size - (intOf i).toNat)
  case atStart => exact ⟨0, Nat.zero_le _, rfl, Lib.hid (fun j hj h => by omega)⟩
  case round =>
    obtain ⟨k, hk, rfl, HA⟩ := hrel
    by_cases hlt : k < s.size
    · obtain ⟨b, hb⟩ : ∃ b, s[k]'hlt = b := ⟨_, rfl⟩
      have hb255 := b.toNat_lt
      have HB := Lib.hid hb
      by_cases h1 : 97 ≤ (b.toNat : Int) ∧ (b.toNat : Int) ≤ 122
      · have HR := Lib.hid h1
        have HA2 : Hid (∀ j (hj : j < s.size), j < k + 1 → NameC s[j]) := Lib.hid (fun j hj h => by
          by_cases e : j = k
          · subst e; rw [HB.out]; exact .inl (by omega)
          · exact HA.out j hj (by omega))
        clear h1
        go_wp2_with ((with_reducible refine (range_yes _ HR.out).mono ?_); rintro e w1 ⟨rfl, rfl⟩)
        go_round
        case rel => exact ⟨k + 1, by omega, by go_num, HA2⟩
        case measure => (simp [intOf]; try omega)
      · by_cases h2 : 48 ≤ (b.toNat : Int) ∧ (b.toNat : Int) ≤ 57
        · have HR := Lib.hid h1
          have HR2 := Lib.hid h2
          have HA2 : Hid (∀ j (hj : j < s.size), j < k + 1 → NameC s[j]) := Lib.hid (fun j hj h => by
            by_cases e : j = k
            · subst e; rw [HB.out]; exact .inr (by omega)
            · exact HA.out j hj (by omega))
          clear h1 h2
          go_wp2_with (first | ((with_reducible refine (range_no _ HR.out).mono ?_); rintro e w1 ⟨rfl, rfl⟩) | ((with_reducible refine (range_yes _ HR2.out).mono ?_); rintro e w1 ⟨rfl, rfl⟩))
          go_round
          case rel => exact ⟨k + 1, by omega, by go_num, HA2⟩
          case measure => (simp [intOf]; try omega)
        · have HR := Lib.hid h1
          have HR2 := Lib.hid h2
          have HN : Hid (nameB s = false) := Lib.hid (nameB_no (fun h => by
            have h3 := name_at h k hlt
            rw [hb] at h3
            rcases h3 with h4 | h4
            · exact h1 (by omega)
            · exact h2 (by omega)))
          clear h1 h2
          go_wp2_with (first | ((with_reducible refine (range_no _ HR.out).mono ?_); rintro e w1 ⟨rfl, rfl⟩) | ((with_reducible refine (range_no _ HR2.out).mono ?_); rintro e w1 ⟨rfl, rfl⟩))
          go_ret
          exact ⟨by rw [HN.out]; rfl, rfl⟩
    · obtain rfl : k = s.size := by omega
      go_wp2_with fail
      refine (range_any _ _ _ _).mono ?_
      rintro e w1 ⟨rfl, rfl⟩
      have HN : Hid (decide ((1 : Int) ≤ (s.size : Int) ∧ (s.size : Int) ≤ 7) = nameB s) := Lib.hid (by
        by_cases hl : 1 ≤ s.size ∧ s.size ≤ 7
        · rw [nameB_yes (name_all hl (fun j hj => HA.out j hj hj))]; exact decide_eq_true (by omega)
        · rw [nameB_no (fun h => hl h.1)]; exact decide_eq_false (by omega))
      rw [HN.out]
      go_wp2
      go_ret
      exact ⟨rfl, rfl⟩

theorem specPages_any (n : Int) (w : World) (h0 : -9223372036854775808 ≤ n) (h1 : n ≤ 9223372036854775807) : Calls Try.prog 95 #[.int .i64 n] w fun e w' => e = .returned (.int .i64 (pagesZ n)) ∧ w' = w := by
  by_cases h : n ≤ 0
  · have HE : Hid (pagesZ n = 0) := Lib.hid (if_pos h)
    go_enter Try.func95, Try.ntmps95
    go_wp2
    go_ret
    exact ⟨by rw [HE.out]; rfl, rfl⟩
  · have HE : Hid (pagesZ n = (n - 1) / 32 + 1) := Lib.hid (if_neg h)
    have hp : 1 ≤ n := by omega
    have hd : (n - 1) / 32 ≤ 288230376151711743 := by omega
    have hd0 : 0 ≤ (n - 1) / 32 := by omega
    go_enter Try.func95, Try.ntmps95
    go_wp2
    go_ret
    exact ⟨by rw [HE.out]; rfl, rfl⟩

def SaysT (s : ByteArray) (w : World) (e : Ending) (w' : World) : Prop := e = .returned (.string s) ∧ Below w.heap.size w w'
set_option maxRecDepth 100000 in
set_option maxHeartbeats 1000000 in
theorem specRecWord_no (p q : Int) (m : ByteArray) (w : World) (_hm : m.size ≤ 2000000) (h : ¬ RecOk ⟨p, q, m⟩) :
    Calls Try.prog 96 #[.agg #[.int .i64 p, .int .i64 q, .string m]] w (SaysT ⟨#[]⟩ w) := by
  by_cases h0 : 1 ≤ p ∧ p ≤ 12
  · have H0 := Lib.hid h0
    by_cases h1 : 1 ≤ q ∧ q ≤ 16777215
    · have H1 := Lib.hid h1
      have h2 : ¬ m.size = 4 := fun e => h ⟨h0, h1, e⟩
      have e8 : ((m.size : Int) == 4) = false := by simp; omega
      have e9 : ((m.size : Int) != 4) = true := by simp; omega
      clear h0 h1 h
      go_enter Try.func96, Try.ntmps96
      go_wp2_with (first | ((with_reducible refine (range_yes _ H0.out).mono ?_); rintro e w1 ⟨rfl, rfl⟩) | ((with_reducible refine (range_yes _ H1.out).mono ?_); rintro e w1 ⟨rfl, rfl⟩))
      go_ret
      exact ⟨rfl, below_bk w _⟩
    · have H1 := Lib.hid h1
      clear h0 h1 h
      go_enter Try.func96, Try.ntmps96
      go_wp2_with (first | ((with_reducible refine (range_yes _ H0.out).mono ?_); rintro e w1 ⟨rfl, rfl⟩) | ((with_reducible refine (range_no _ H1.out).mono ?_); rintro e w1 ⟨rfl, rfl⟩))
      go_ret
      exact ⟨rfl, below_bk w _⟩
  · have H0 := Lib.hid h0
    clear h0 h
    go_enter Try.func96, Try.ntmps96
    go_wp2_with ((with_reducible refine (range_no _ H0.out).mono ?_); rintro e w1 ⟨rfl, rfl⟩)
    go_ret
    exact ⟨rfl, below_bk w _⟩

set_option maxRecDepth 100000 in
set_option maxHeartbeats 1000000 in
theorem specRecWord_yes (p q : Int) (m : ByteArray) (w : World) (h : RecOk ⟨p, q, m⟩) :
    Calls Try.prog 96 #[.agg #[.int .i64 p, .int .i64 q, .string m]] w (SaysT (recWordB ⟨p, q, m⟩) w) := by
  have HE := Lib.hid (recWordB_yes h)
  obtain ⟨h0, h1, h2⟩ := h
  have H0 : Hid (1 ≤ p ∧ p ≤ 12) := Lib.hid h0
  have H1 : Hid (1 ≤ q ∧ q ≤ 16777215) := Lib.hid h1
  have hm4 : m.size = 4 := h2
  have e8 : ((m.size : Int) == 4) = true := by simp; omega
  have e9 : ((m.size : Int) != 4) = false := by simp; omega
  have T0 := Lib.hid (Bk.alloc w #[.int .i64 p, .int .i64 q, .string m] 71)
  have B0 := Lib.hid (below_bk w (.cells #[.int .i64 p, .int .i64 q, .string m] 71))
  have hA : (numTextB p 1).size = 1 := numText_size (k := 1) (by omega) (by have := H0.out.1; omega) (by have := H0.out.2; omega)
  have hB : (numTextB q 3).size = 3 := numText_size (k := 3) (by omega) (by have := H1.out.1; omega) (by have := H1.out.2; omega)
  obtain ⟨A, hAe⟩ : ∃ A, numTextB p 1 = A := ⟨_, rfl⟩
  obtain ⟨D, hDe⟩ : ∃ D, numTextB q 3 = D := ⟨_, rfl⟩
  have HA := Lib.hid hAe
  have HD := Lib.hid hDe
  rw [hAe] at hA
  rw [hDe] at hB
  have hA1 : A.size ≤ 1 := by omega
  have hB1 : D.size ≤ 3 := by omega
  have hAD : ¬ (9223372036854775807 < A.size + D.size) := by omega
  have hADm : ¬ (9223372036854775807 < A.size + D.size + 4) := by omega
  clear h0 h1 h2 hAe hDe hA hB
  go_enter Try.func96, Try.ntmps96
  go_wp2_with (first | ((with_reducible refine (range_yes _ H0.out).mono ?_); rintro e w1 ⟨rfl, rfl⟩) | ((with_reducible refine (range_yes _ H1.out).mono ?_); rintro e w1 ⟨rfl, rfl⟩))
  have T0d := Lib.hid T0.out.drew
  have B0d : Hid (Below w.heap.size w (w.alloc (.cells #[.int .i64 p, .int .i64 q, .string m] 71)).drew) := Lib.hid B0.out.drew
  go_region_held3 (fun w' => w'.cell? ⟨w.heap.size, 0, none⟩ = some (.int .i64 p) ∧ w'.cell? ⟨w.heap.size, 1, none⟩ = some (.int .i64 q) ∧ w'.cell? ⟨w.heap.size, 2, none⟩ = some (.string m))
    (first
      | exact ⟨T0d.out.cell rfl, T0d.out.cell rfl, T0d.out.cell rfl⟩
      | exact ⟨T1.out.cell rfl, T1.out.cell rfl, T1.out.cell rfl⟩
      | exact ⟨T2.out.cell rfl, T2.out.cell rfl, T2.out.cell rfl⟩
      | go_keep)
    (first
      | (go_at_call 75; (with_reducible refine (specNum_any p 1 _ (by have := H0.out.2; omega)).mono ?_); rw [HA.out]; rintro e w1 ⟨rfl, hb⟩; have T1 := Lib.hid (T0d.out.later hb); have B1 : Hid (Below w.heap.size w w1) := Lib.hid (B0d.out.trans (hb.mono B0d.out.size)); clear hb)
      | (go_at_call 75; (with_reducible refine (specNum_any q 3 _ (by have := H1.out.2; omega)).mono ?_); rw [HD.out]; rintro e w2 ⟨rfl, hb⟩; have T2 := Lib.hid (T1.out.later hb); have B2 : Hid (Below w.heap.size w w2) := Lib.hid (B1.out.trans (hb.mono B1.out.size)); clear hb))
  go_wp2
  go_ret
  exact ⟨by rw [HE.out, HA.out, HD.out]; rfl, B2.out⟩
theorem specRecWord_any (p q : Int) (m : ByteArray) (w : World) (hm : m.size ≤ 2000000) :
    Calls Try.prog 96 #[.agg #[.int .i64 p, .int .i64 q, .string m]] w (SaysT (recWordB ⟨p, q, m⟩) w) := by
  by_cases h : RecOk ⟨p, q, m⟩
  · exact specRecWord_yes p q m w h
  · rw [recWordB_no h]; exact specRecWord_no p q m w hm h
end Go.Proofs.Ytmcelfiljnlmoaa
namespace Go.Proofs.Ytmcelfiljnlmoaa
open Go.RowKit

theorem text_full (x : ByteArray) (h : 0 < x.size) : (x.toList == []) = false := by
  apply beq_eq_false_iff_ne.2
  intro e
  have h1 : x.toList.length = x.size := by rw [Go.ByteArray.toList_eq]; simp
  rw [e] at h1
  simp at h1
  omega
theorem text_full' (x : ByteArray) (h : 0 < x.size) : ([] == x.toList) = false := by
  have h1 := text_full x h
  apply beq_eq_false_iff_ne.2
  intro e
  rw [← e] at h1
  simp at h1
theorem text_ne {x y : ByteArray} (h : ¬ x = y) : ¬ (x.toList = y.toList) := by
  intro e
  apply h
  rw [Go.ByteArray.toList_eq, Go.ByteArray.toList_eq] at e
  cases x; cases y
  simp at e
  rw [e]
theorem text_neB {x y : ByteArray} (h : ¬ x = y) : (x.toList == y.toList) = false := beq_eq_false_iff_ne.2 (text_ne h)
end Go.Proofs.Ytmcelfiljnlmoaa
namespace Go.Proofs.Ytmcelfiljnlmoaa
open Go.RowKit Go.Proofs.Ytmcelfiljnlmoaa.Parts Go.Proofs.Ytmcelfiljnlmoaa.Hexa Go.Proofs.Ytmcelfiljnlmoaa.Byt

set_option maxRecDepth 100000 in
set_option maxHeartbeats 1000000 in
theorem specEntryWord_no (p : Int) (m : ByteArray) (w : World) (hm : m.size ≤ 2000000) (h : ¬ EntryOk ⟨p, m⟩) :
    Calls Try.prog 97 #[.agg #[.int .i64 p, .string m]] w (SaysT ⟨#[]⟩ w) := by
  by_cases h0 : 1 ≤ p ∧ p ≤ 5
  · have H0 := Lib.hid h0
    have h2 : ¬ NameR m := fun e => h ⟨h0, e⟩
    have HN := Lib.hid (nameB_no h2)
    clear h0 h h2
    go_enter Try.func97, Try.ntmps97
    go_wp2_with (first | ((with_reducible refine (range_yes _ H0.out).mono ?_); rintro e w1 ⟨rfl, rfl⟩) | (go_at_call 113; refine (specName_any m _ hm).mono ?_; rw [HN.out]; rintro e w1 ⟨rfl, rfl⟩))
    go_ret
    exact ⟨rfl, below_bk w _⟩
  · have H0 := Lib.hid h0
    clear h0 h
    go_enter Try.func97, Try.ntmps97
    go_wp2_with ((with_reducible refine (range_no _ H0.out).mono ?_); rintro e w1 ⟨rfl, rfl⟩)
    go_ret
    exact ⟨rfl, below_bk w _⟩

set_option maxRecDepth 100000 in
set_option maxHeartbeats 1000000 in
theorem specEntryWord_yes (p : Int) (m : ByteArray) (w : World) (h : EntryOk ⟨p, m⟩) :
    Calls Try.prog 97 #[.agg #[.int .i64 p, .string m]] w (SaysT (entryWordB ⟨p, m⟩) w) := by
  have HE := Lib.hid (entryWordB_yes h)
  obtain ⟨h0, h1⟩ := h
  have H0 : Hid (1 ≤ p ∧ p ≤ 5) := Lib.hid h0
  have HN := Lib.hid (nameB_yes h1)
  have hm : m.size ≤ 7 := h1.1.2
  have T0 := Lib.hid (Bk.alloc w #[.int .i64 p, .string m] 66)
  have B0 := Lib.hid (below_bk w (.cells #[.int .i64 p, .string m] 66))
  have hA : (numTextB p 1).size = 1 := numText_size (k := 1) (by omega) (by have := H0.out.1; omega) (by have := H0.out.2; omega)
  obtain ⟨A, hAe⟩ : ∃ A, numTextB p 1 = A := ⟨_, rfl⟩
  have HA := Lib.hid hAe
  rw [hAe] at hA
  have hA1 : ¬ (9223372036854775807 < A.size + m.size) := by omega
  have T0d := Lib.hid T0.out.drew
  have B0d : Hid (Below w.heap.size w (w.alloc (.cells #[.int .i64 p, .string m] 66)).drew) := Lib.hid B0.out.drew
  clear h0 h1 hAe hA
  go_enter Try.func97, Try.ntmps97
  go_wp2_with (first | ((with_reducible refine (range_yes _ H0.out).mono ?_); rintro e w1 ⟨rfl, rfl⟩) | (go_at_call 113; refine (specName_any m _ (by omega)).mono ?_; rw [HN.out]; rintro e w1 ⟨rfl, rfl⟩))
  go_region_held3 (fun w' => w'.cell? ⟨w.heap.size, 0, none⟩ = some (.int .i64 p) ∧ w'.cell? ⟨w.heap.size, 1, none⟩ = some (.string m))
    (first
      | exact ⟨T0d.out.cell rfl, T0d.out.cell rfl⟩
      | exact ⟨T1.out.cell rfl, T1.out.cell rfl⟩
      | exact ⟨T2.out.cell rfl, T2.out.cell rfl⟩
      | go_keep)
    (first
      | (go_at_call 75; (with_reducible refine (specNum_any p 1 _ (by have := H0.out.2; omega)).mono ?_); rw [HA.out]; rintro e w1 ⟨rfl, hb⟩; have T1 := Lib.hid (T0d.out.later hb); have B1 : Hid (Below w.heap.size w w1) := Lib.hid (B0d.out.trans (hb.mono B0d.out.size)); clear hb)
      | (go_at_call 74; (with_reducible refine (specWord_any (A ++ m) _).mono ?_); rintro e w2 ⟨rfl, hb⟩; have T2 := Lib.hid (T1.out.later hb); have B2 : Hid (Below w.heap.size w w2) := Lib.hid (B1.out.trans (hb.mono B1.out.size)); clear hb))
  go_wp2
  go_ret
  exact ⟨by rw [HE.out, HA.out]; rfl, B2.out⟩
theorem specEntryWord_any (p : Int) (m : ByteArray) (w : World) (hm : m.size ≤ 2000000) :
    Calls Try.prog 97 #[.agg #[.int .i64 p, .string m]] w (SaysT (entryWordB ⟨p, m⟩) w) := by
  by_cases h : EntryOk ⟨p, m⟩
  · exact specEntryWord_yes p m w h
  · rw [entryWordB_no h]; exact specEntryWord_no p m w hm h
end Go.Proofs.Ytmcelfiljnlmoaa
namespace Go.Proofs.Ytmcelfiljnlmoaa
open Go.RowKit Go.Proofs.Ytmcelfiljnlmoaa.Parts Go.Proofs.Ytmcelfiljnlmoaa.Hexa Go.Proofs.Ytmcelfiljnlmoaa.Byt

abbrev inoCs (kd sz gn : Int) (key : ByteArray) (aR : Option Addr) (nR cR : Nat) (aE : Option Addr) (nE cE : Nat) : Array Value :=
  #[.int .i64 kd, .int .i64 sz, .int .i64 gn, .string key, .slice aR nR cR, .slice aE nE cE]
abbrev inoObj (kd sz gn : Int) (key : ByteArray) (aR : Option Addr) (nR cR : Nat) (aE : Option Addr) (nE cE : Nat) : Obj :=
  .cells #[.int .i64 kd, .int .i64 sz, .int .i64 gn, .string key, .slice aR nR cR, .slice aE nE cE] 59

theorem text_nothing {x : ByteArray} (h : x.size = 0) : x = ⟨#[]⟩ := by
  cases x with
  | mk d => rw [show d = #[] from Array.eq_empty_of_size_eq_zero h]
theorem bool_no {b : Bool} {p : Prop} (hb : b = true ↔ p) (h : ¬ p) : b = false := by
  cases b
  · rfl
  · exact absurd (hb.1 rfl) h

section
variable (kd sz gn : Int) (key : ByteArray) (aR : Option Addr) (nR cR : Nat) (aE : Option Addr) (nE cE : Nat) (w : World)

set_option maxRecDepth 100000 in
set_option maxHeartbeats 1000000 in
theorem specIno_gen (h : ¬ (0 ≤ gn ∧ gn ≤ 65535)) :
    Calls Try.prog 66 #[.agg #[.int .i64 kd, .int .i64 sz, .int .i64 gn, .string key, .slice aR nR cR, .slice aE nE cE]] w (SaysB false w) := by
  have H0 := Lib.hid h
  have B0 := Lib.hid (below_bk w (inoObj kd sz gn key aR nR cR aE nE cE))
  clear h
  go_enter Try.func66, Try.ntmps66
  go_wp2_with ((with_reducible refine (range_no _ H0.out).mono ?_); rintro e w1 ⟨rfl, rfl⟩)
  go_ret
  exact ⟨rfl, B0.out⟩

set_option maxRecDepth 100000 in
set_option maxHeartbeats 1000000 in
theorem specIno_other (h : 0 ≤ gn ∧ gn ≤ 65535) (h0 : ¬ kd = 0) (h1 : ¬ kd = 1) (h2 : ¬ kd = 2) :
    Calls Try.prog 66 #[.agg #[.int .i64 kd, .int .i64 sz, .int .i64 gn, .string key, .slice aR nR cR, .slice aE nE cE]] w (SaysB false w) := by
  have H0 := Lib.hid h
  have B0 := Lib.hid (below_bk w (inoObj kd sz gn key aR nR cR aE nE cE))
  clear h
  go_enter Try.func66, Try.ntmps66
  go_wp2_with ((with_reducible refine (range_yes _ H0.out).mono ?_); rintro e w1 ⟨rfl, rfl⟩)
  go_ret
  exact ⟨rfl, B0.out⟩

set_option maxRecDepth 100000 in
set_option maxHeartbeats 1000000 in
theorem specIno_free (h : 0 ≤ gn ∧ gn ≤ 65535) (b : Bool) (hb : b = true ↔ (sz = 0 ∧ key.size = 0 ∧ nR = 0 ∧ nE = 0)) :
    Calls Try.prog 66 #[.agg #[.int .i64 0, .int .i64 sz, .int .i64 gn, .string key, .slice aR nR cR, .slice aE nE cE]] w (SaysB b w) := by
  have H0 := Lib.hid h
  have B0 := Lib.hid (below_bk w (inoObj 0 sz gn key aR nR cR aE nE cE))
  clear h
  by_cases h1 : sz = 0
  · subst h1
    by_cases h2 : key.size = 0
    · obtain rfl : key = ⟨#[]⟩ := text_nothing h2
      by_cases h3 : nR = 0
      · subst h3
        by_cases h4 : nE = 0
        · subst h4
          obtain rfl : b = true := hb.2 ⟨rfl, rfl, rfl, rfl⟩
          clear hb
          go_enter Try.func66, Try.ntmps66
          go_wp2_with ((with_reducible refine (range_yes _ H0.out).mono ?_); rintro e w1 ⟨rfl, rfl⟩)
          go_ret
          exact ⟨rfl, B0.out⟩
        · obtain rfl : b = false := bool_no hb (fun x => h4 x.2.2.2)
          have e4 : ((nE : Int) == 0) = false := by simp; omega
          clear hb
          go_enter Try.func66, Try.ntmps66
          go_wp2_with ((with_reducible refine (range_yes _ H0.out).mono ?_); rintro e w1 ⟨rfl, rfl⟩)
          go_ret
          exact ⟨rfl, B0.out⟩
      · obtain rfl : b = false := bool_no hb (fun x => h3 x.2.2.1)
        have e4 : ((nR : Int) == 0) = false := by simp; omega
        clear hb
        go_enter Try.func66, Try.ntmps66
        go_wp2_with ((with_reducible refine (range_yes _ H0.out).mono ?_); rintro e w1 ⟨rfl, rfl⟩)
        go_ret
        exact ⟨rfl, B0.out⟩
    · obtain rfl : b = false := bool_no hb (fun x => h2 x.2.1)
      have e4 : (key.toList == []) = false := text_full key (by omega)
      clear hb
      go_enter Try.func66, Try.ntmps66
      go_wp2_with ((with_reducible refine (range_yes _ H0.out).mono ?_); rintro e w1 ⟨rfl, rfl⟩)
      go_ret
      exact ⟨rfl, B0.out⟩
  · obtain rfl : b = false := bool_no hb (fun x => h1 x.1)
    clear hb
    go_enter Try.func66, Try.ntmps66
    go_wp2_with ((with_reducible refine (range_yes _ H0.out).mono ?_); rintro e w1 ⟨rfl, rfl⟩)
    go_ret
    exact ⟨rfl, B0.out⟩
end
end Go.Proofs.Ytmcelfiljnlmoaa
namespace Go.Proofs.Ytmcelfiljnlmoaa
open Go.RowKit Go.Proofs.Ytmcelfiljnlmoaa.Parts Go.Proofs.Ytmcelfiljnlmoaa.Hexa Go.Proofs.Ytmcelfiljnlmoaa.Byt

section
variable (sz gn : Int) (key : ByteArray) (aR : Option Addr) (nR cR : Nat) (aE : Option Addr) (nE cE : Nat) (w : World)

set_option maxRecDepth 100000 in
set_option maxHeartbeats 1000000 in
theorem specIno_fileNo (h : 0 ≤ gn ∧ gn ≤ 65535) (hz : -9223372036854775808 ≤ sz ∧ sz ≤ 9223372036854775807) (hno : ¬ ((0 ≤ sz ∧ sz ≤ 128) ∧ key.size = 8 ∧ (nR : Int) = pagesZ sz ∧ nE = 0)) :
    Calls Try.prog 66 #[.agg #[.int .i64 1, .int .i64 sz, .int .i64 gn, .string key, .slice aR nR cR, .slice aE nE cE]] w (SaysB false w) := by
  have H0 := Lib.hid h
  have HZ := Lib.hid hz
  have B0 := Lib.hid (below_bk w (inoObj 1 sz gn key aR nR cR aE nE cE))
  clear h hz
  by_cases h1 : 0 ≤ sz ∧ sz ≤ 128
  · have H1 := Lib.hid h1
    by_cases h2 : key.size = 8
    · have e2 : ((key.size : Int) != 8) = false := by simp; omega
      by_cases h3 : (nR : Int) = pagesZ sz
      · have h4 : ¬ nE = 0 := fun e => hno ⟨h1, h2, h3, e⟩
        have e4 : (0 : Int) < (nE : Int) := by omega
        have HQ : Hid (∀ W : World, Calls Try.prog 95 #[.int .i64 sz] W fun e w' => e = .returned (.int .i64 nR) ∧ w' = W) := Lib.hid (fun W => by
          rw [h3]; exact specPages_any sz W HZ.out.1 HZ.out.2)
        clear hno h1 h3
        go_enter Try.func66, Try.ntmps66
        go_wp2_with ((with_reducible refine (range_yes _ H0.out).mono ?_); rintro e w1 ⟨rfl, rfl⟩)
        go_quiet (first
          | (go_at_call 64; exact Calls.quiet_of_same (range_yes _ H1.out))
          | (go_at_call 95; exact Calls.quiet_of_same (HQ.out _)))
        go_wp2
        go_ret
        exact ⟨rfl, below_drewsN B0.out _⟩
      · obtain ⟨p, hp⟩ : ∃ p, pagesZ sz = p := ⟨_, rfl⟩
        have HQ : Hid (∀ W : World, Calls Try.prog 95 #[.int .i64 sz] W fun e w' => e = .returned (.int .i64 p) ∧ w' = W) := Lib.hid (fun W => by
          rw [← hp]; exact specPages_any sz W HZ.out.1 HZ.out.2)
        rw [hp] at h3
        have e3 : ((nR : Int) != p) = true := by simpa using h3
        clear hno h1 h3 hp
        go_enter Try.func66, Try.ntmps66
        go_wp2_with ((with_reducible refine (range_yes _ H0.out).mono ?_); rintro e w1 ⟨rfl, rfl⟩)
        go_quiet (first
          | (go_at_call 64; exact Calls.quiet_of_same (range_yes _ H1.out))
          | (go_at_call 95; exact Calls.quiet_of_same (HQ.out _)))
        go_wp2
        go_ret
        exact ⟨rfl, below_drewsN B0.out _⟩
    · have e2 : ((key.size : Int) != 8) = true := by have : ¬ ((key.size : Int) = 8) := by omega
                                                     simpa using this
      clear hno h1 h2
      go_enter Try.func66, Try.ntmps66
      go_wp2_with ((with_reducible refine (range_yes _ H0.out).mono ?_); rintro e w1 ⟨rfl, rfl⟩)
      go_quiet ((go_at_call 64; exact Calls.quiet_of_same (range_yes _ H1.out)))
      go_wp2
      go_ret
      exact ⟨rfl, below_drewsN B0.out _⟩
  · have H1 := Lib.hid h1
    clear hno h1
    go_enter Try.func66, Try.ntmps66
    go_wp2_with ((with_reducible refine (range_yes _ H0.out).mono ?_); rintro e w1 ⟨rfl, rfl⟩)
    go_quiet ((go_at_call 64; exact Calls.quiet_of_same (range_no _ H1.out)))
    go_wp2
    go_ret
    exact ⟨rfl, below_drewsN B0.out _⟩
end
end Go.Proofs.Ytmcelfiljnlmoaa
