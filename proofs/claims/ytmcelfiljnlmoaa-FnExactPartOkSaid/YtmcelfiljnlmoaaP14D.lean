/- Merged texts: TInoMS, TPartM, TIntHS, TRecHS, TEntryHS, TInoHS, TPartH, PartNewLaw, TIntZS, TRecZ, TRecZS, TEntryZ, TEntryZS, TInoZ, TInoZS, TPartZ, TRecC, TRecCS, TEntryC, TEntryCS. -/
import Derived.Test.YtmcelfiljnlmoaaP14C
namespace Go.Proofs.Ytmcelfiljnlmoaa
open Go.RowKit Go.Proofs.Ytmcelfiljnlmoaa.Parts Go.Proofs.Ytmcelfiljnlmoaa.Hexa

set_option maxRecDepth 100000 in
set_option maxHeartbeats 1000000 in
theorem markInoS_any (v : Value) (L : List InoR) (F : List Nat) (k : Nat) (kz : Int) (w : World) (hkz : kz = (k : Int)) (h0 : 0 < k) (hk : k + (celRow cIno L).cnt ≤ 100000000) (hz : (celRow cIno L).sz ≤ 100000000) (hF : F.Nodup) (ho : (celRow cIno L).Own w F v) :
    Calls Try.prog 53 #[v, .int .i64 kz] w (MarkPost (celRow cIno L) F v k w) := by
  subst hkz
  obtain ⟨a, n, c, rfl, hn⟩ := row_form (Cel.Own.rd _ _ _ ho)
  have HN := Lib.hid hn
  have hz' : n + szL (celsE cIno L) ≤ 100000000 := by rw [← hn]; exact hz
  have hn9 : n ≤ 100000000 := by omega
  have HZ : Hid (szL (celsE cIno L) ≤ 100000000) := Lib.hid (by omega)
  have HF := Lib.hid hF
  have HC : Hid ((celRow cIno L).cnt = cntL (celsE cIno L)) := Lib.hid rfl
  have hk' : k + cntL (celsE cIno L) ≤ 100000000 := hk
  have HL : Hid ((celsE cIno L).length = n * 6) := Lib.hid (by rw [celsE_length, hn]; rfl)
  have HO : Hid ((Cel.sl cIno.e 6 n (stM (celsE cIno L) k 0)).Own w F (.slice a n c)) := Lib.hid (by rw [stM_zero]; have h9 := ho; unfold celRow at h9; rw [hn] at h9; exact h9)
  clear hn hF ho hk hz hz'
  go_enter Try.func53, Try.ntmps53
  go_wp2
  go_loopw [1, 5] (fun kv iv wr => ∃ (j q : Nat), j ≤ n ∧ 0 < q ∧ q ≤ 100000000 ∧ Hid (q = k + cntL (celsE cIno (L.take j))) ∧ iv = .int .i64 j ∧ kv = .int .i64 q ∧ Hid ((Cel.sl cIno.e 6 n (stM (celsE cIno L) k (j * 6))).Own wr F (.slice a n c)) ∧ Hid (OutF F w wr)) (fun _ iv _ => n - (intOf iv).toNat)
  case atStart => exact ⟨0, k, Nat.zero_le _, h0, by omega, Lib.hid (by simp only [List.take_zero, celsE, cntL]; rfl), rfl, rfl, by rw [Nat.zero_mul]; exact HO, Lib.hid (OutF.refl _ _)⟩
  case round =>
    clear HO
    obtain ⟨j, q, hj, hq0, hq9, HQ, rfl, rfl, HW, HU⟩ := hrel
    by_cases hlt : j < n
    · have hjL : j < L.length := by rw [HN.out]; exact hlt
      have HX := Lib.hid (cntL_next cIno hjL)
      have hm := cntL_take cIno L (j + 1)
      have HY := Lib.hid (Nat.le_trans (szL_at cIno L j hjL) HZ.out)
      have HG : Hid (∀ o, o < 6 → (celsE cIno L).getD (j * 6 + o) default = (cIno.cels (L.getD j default)).getD o default) := Lib.hid (fun o ho => celsE_getD cIno L j o hjL ho)
      have HA : Hid (∀ o, o ≤ 6 → atM (celsE cIno L) k (j * 6 + o) = q + cntL ((cIno.cels (L.getD j default)).take o)) := Lib.hid (fun o ho => by rw [HQ.out]; exact atM_in cIno hjL ho)
      obtain ⟨x, hx⟩ : ∃ x, L.getD j default = x := ⟨_, rfl⟩
      rw [hx] at HX HG HA HY
      have hm2 : q + cntL (cIno.cels x) ≤ 100000000 := by have := HQ.out; have := HX.out; omega
      have HM2 := Lib.hid hm2
      have hm3 : q + 4 ≤ 100000000 := by have : cntL (cIno.cels x) = (1 + (1 + (1 + (1 + ((celRow cRec x.R).cnt + ((celRow cEntry x.E).cnt + 0)))))) := rfl; omega
      clear hx hjL hm hm2
      obtain ⟨g0, hg0, _, ⟨v0, e0⟩, z0, ho0, hu0⟩ := mark_val HW.out HF.out (i := j * 6) (by omega) HL.out (HG.out 0 (by decide))
      subst hg0
      have e9 : atM (celsE cIno L) k (j * 6) = q + cntL ((cIno.cels x).take 0) := HA.out 0 (by decide)
      have e8 : markV (.int .i64 x.kd) (atM (celsE cIno L) k (j * 6)) = (.int .i64 ((q : Int))) := by rw [e9]; show Value.int .i64 ((q + 0 : Nat) : Int) = _; rw [show ((q + 0 : Nat) : Int) = (q : Int) from by omega]
      rw [e8] at ho0 hu0
      clear e8 e9
      have W0 := Lib.hid ho0
      have U0 := Lib.hid (HU.out.trans hu0)
      clear ho0 hu0 HW HU
      obtain ⟨g1, hg1, _, ⟨v1, e1⟩, z1, ho1, hu1⟩ := mark_val W0.out HF.out (i := j * 6 + 1) (by omega) HL.out (HG.out 1 (by decide))
      obtain rfl : g0 = g1 := by simpa using hg1
      have e9 : atM (celsE cIno L) k (j * 6 + 1) = q + cntL ((cIno.cels x).take 1) := HA.out 1 (by decide)
      have e8 : markV (.int .i64 x.sz) (atM (celsE cIno L) k (j * 6 + 1)) = (.int .i64 ((q : Int) + 1)) := by rw [e9]; show Value.int .i64 ((q + (1 + 0) : Nat) : Int) = _; rw [show ((q + (1 + 0) : Nat) : Int) = (q : Int) + 1 from by omega]
      rw [e8] at ho1 hu1
      clear e8 e9
      have W1 := Lib.hid ho1
      have U1 := Lib.hid (U0.out.trans hu1)
      clear ho1 hu1 W0 U0
      obtain ⟨g2, hg2, _, ⟨v2, e2⟩, z2, ho2, hu2⟩ := mark_val W1.out HF.out (i := j * 6 + 2) (by omega) HL.out (HG.out 2 (by decide))
      obtain rfl : g0 = g2 := by simpa using hg2
      have e9 : atM (celsE cIno L) k (j * 6 + 2) = q + cntL ((cIno.cels x).take 2) := HA.out 2 (by decide)
      have e8 : markV (.int .i64 x.gn) (atM (celsE cIno L) k (j * 6 + 2)) = (.int .i64 ((q : Int) + 1 + 1)) := by rw [e9]; show Value.int .i64 ((q + (1 + (1 + 0)) : Nat) : Int) = _; rw [show ((q + (1 + (1 + 0)) : Nat) : Int) = (q : Int) + 1 + 1 from by omega]
      rw [e8] at ho2 hu2
      clear e8 e9
      have W2 := Lib.hid ho2
      have U2 := Lib.hid (U1.out.trans hu2)
      clear ho2 hu2 W1 U1
      go_wp2_with fail
      clear e0 z0 e1 z1 e2 z2
      obtain ⟨wa3, hwa⟩ : ∃ y, y = (((wr.setCell ⟨g0, j * 6, none⟩ (.int .i64 ((q : Int)))).setCell ⟨g0, j * 6 + 1, none⟩ (.int .i64 ((q : Int) + 1))).setCell ⟨g0, j * 6 + 2, none⟩ (.int .i64 ((q : Int) + 1 + 1))) := ⟨_, rfl⟩
      rw [← hwa] at W2 U2 ⊢
      clear hwa
      refine (markText_n _ (q + 3) _ (by omega) (by omega) (by omega)).mono ?_
      rintro e y3 ⟨rfl, hb⟩
      have W3t := Lib.hid (Cel.Own.kept _ _ _ (fun g hg => hb.block g (Cel.Own.lt _ _ _ W2.out g hg)) W2.out)
      have U3t := Lib.hid (U2.out.trans (OutF.of_below hb))
      clear hb W2 U2
      obtain ⟨g3, hg3, _, ⟨v3, e3⟩, z3, ho3, hu3⟩ := mark_val W3t.out HF.out (i := j * 6 + 3) (by omega) HL.out (HG.out 3 (by decide))
      obtain rfl : g0 = g3 := by simpa using hg3
      have e9 : atM (celsE cIno L) k (j * 6 + 3) = q + cntL ((cIno.cels x).take 3) := HA.out 3 (by decide)
      have e8 : markV (.string x.key) (atM (celsE cIno L) k (j * 6 + 3)) = (.string (markT (q + 3))) := by rw [e9]; show Value.string (markT (q + (1 + (1 + (1 + 0))))) = _; rw [show q + (1 + (1 + (1 + 0))) = (q + 3) from by omega]
      rw [e8] at ho3 hu3
      clear e8 e9
      have W3 := Lib.hid ho3
      have U3 := Lib.hid (U3t.out.trans hu3)
      clear ho3 hu3 W3t U3t
      obtain ⟨g4, G4, u4, hg4, hG4, e4, ho4, hK4⟩ := mark_sub W3.out HF.out (i := j * 6 + 4) (by omega) HL.out
      obtain rfl : g0 = g4 := by simpa using hg4
      rw [HG.out 4 (by decide)] at ho4 hK4
      change (celRow cRec x.R).Own _ _ _ at ho4
      obtain ⟨p4, m4, s4, rfl, hm4⟩ := row_form (Cel.Own.rd _ _ _ ho4)
      subst hm4
      have HO4 := Lib.hid ho4
      have HG4 := Lib.hid hG4
      have HK4 : Hid (∀ w', OutF G4 (y3.setCell ⟨g0, j * 6 + 3, none⟩ (.string (markT (q + 3)))) w' → ((celRow cRec x.R).mk (q + 4)).Own w' G4 (.slice p4 x.R.length s4) → (Cel.sl cIno.e 6 n (stM (celsE cIno L) k (j * 6 + 4 + 1))).Own w' F (.slice (some ⟨g0, 0, none⟩) n c) ∧ OutF F (y3.setCell ⟨g0, j * 6 + 3, none⟩ (.string (markT (q + 3)))) w') := Lib.hid (by
        have e9 := HA.out 4 (by decide)
        rw [show q + cntL ((cIno.cels x).take 4) = (q + 4) by show q + (1 + (1 + (1 + (1 + 0)))) = _; omega] at e9
        rw [e9] at hK4
        exact hK4)
      clear ho4 hG4 hK4
      go_wp2_with fail
      clear e3 z3
      refine (markRecS_any _ x.R G4 (q + 4) _ _ (by omega) (by omega) (by have := HM2.out; have : cntL (cIno.cels x) = (1 + (1 + (1 + (1 + ((celRow cRec x.R).cnt + ((celRow cEntry x.E).cnt + 0)))))) := rfl; omega) (by have := HY.out; rw [cIno_sz] at this; omega) HG4.out HO4.out).mono ?_
      rintro e y4 ⟨he, hu, hw⟩
      obtain ⟨q4, hq4⟩ : ∃ y, (q + 4) + (celRow cRec x.R).cnt = y := ⟨_, rfl⟩
      rw [hq4] at he
      subst he
      have HQ4 := Lib.hid hq4
      have hl4 : q4 + 0 ≤ 100000000 := by have := HM2.out; have : cntL (cIno.cels x) = (1 + (1 + (1 + (1 + ((celRow cRec x.R).cnt + ((celRow cEntry x.E).cnt + 0)))))) := rfl; omega
      obtain ⟨hw1, hu1⟩ := HK4.out _ hu hw
      have W4 := Lib.hid hw1
      have U4 := Lib.hid (U3.out.trans hu1)
      have hb4 : 0 < q4 := by omega
      clear hw1 hu1 hu hw HK4 hq4 e4 HO4 W3 U3
      obtain ⟨g5, G5, u5, hg5, hG5, e5, ho5, hK5⟩ := mark_sub W4.out HF.out (i := j * 6 + 5) (by omega) HL.out
      obtain rfl : g0 = g5 := by simpa using hg5
      rw [HG.out 5 (by decide)] at ho5 hK5
      change (celRow cEntry x.E).Own _ _ _ at ho5
      obtain ⟨p5, m5, s5, rfl, hm5⟩ := row_form (Cel.Own.rd _ _ _ ho5)
      subst hm5
      have HO5 := Lib.hid ho5
      have HG5 := Lib.hid hG5
      have HK5 : Hid (∀ w', OutF G5 y4 w' → ((celRow cEntry x.E).mk q4).Own w' G5 (.slice p5 x.E.length s5) → (Cel.sl cIno.e 6 n (stM (celsE cIno L) k (j * 6 + 5 + 1))).Own w' F (.slice (some ⟨g0, 0, none⟩) n c) ∧ OutF F y4 w') := Lib.hid (by
        have e9 := HA.out 5 (by decide)
        rw [show q + cntL ((cIno.cels x).take 5) = q4 by have := HQ4.out; show q + (1 + (1 + (1 + (1 + ((celRow cRec x.R).cnt + 0))))) = _; omega] at e9
        rw [e9] at hK5
        exact hK5)
      clear ho5 hG5 hK5
      go_wp2_with fail
      refine (markEntryS_any _ x.E G5 q4 _ _ (by omega) (by omega) (by have := HM2.out; have := HQ4.out; have : cntL (cIno.cels x) = (1 + (1 + (1 + (1 + ((celRow cRec x.R).cnt + ((celRow cEntry x.E).cnt + 0)))))) := rfl; omega) (by have := HY.out; rw [cIno_sz] at this; omega) HG5.out HO5.out).mono ?_
      rintro e y5 ⟨he, hu, hw⟩
      obtain ⟨q5, hq5⟩ : ∃ y, q4 + (celRow cEntry x.E).cnt = y := ⟨_, rfl⟩
      rw [hq5] at he
      subst he
      have HQ5 := Lib.hid hq5
      have hl5 : q5 + 0 ≤ 100000000 := by have := HM2.out; have := HQ4.out; have : cntL (cIno.cels x) = (1 + (1 + (1 + (1 + ((celRow cRec x.R).cnt + ((celRow cEntry x.E).cnt + 0)))))) := rfl; omega
      obtain ⟨hw1, hu1⟩ := HK5.out _ hu hw
      have W5 := Lib.hid hw1
      have U5 := Lib.hid (U4.out.trans hu1)
      have hb5 : 0 < q5 := by omega
      clear hw1 hu1 hu hw HK5 hq5 e5 HO5 W4 U4
      go_wp2
      have HR : Hid (q5 = k + cntL (celsE cIno (L.take (j + 1)))) := Lib.hid (by have := HQ.out; have := HX.out; have := HQ4.out; have := HQ5.out; have : cntL (cIno.cels x) = (1 + (1 + (1 + (1 + ((celRow cRec x.R).cnt + ((celRow cEntry x.E).cnt + 0)))))) := rfl; omega)
      have hr9 : q5 ≤ 100000000 := by have := HM2.out; have := HQ4.out; have := HQ5.out; have : cntL (cIno.cels x) = (1 + (1 + (1 + (1 + ((celRow cRec x.R).cnt + ((celRow cEntry x.E).cnt + 0)))))) := rfl; omega
      go_roundw
      case rel => exact ⟨j + 1, q5, by omega, by omega, hr9, HR, by go_num, by go_num, by rw [Nat.add_mul, Nat.one_mul]; exact W5, U5⟩
      case measure => (simp [intOf]; try omega)
    · obtain rfl : j = n := by omega
      have ho := HW.out
      rw [stM_all _ _ (by rw [HL.out]; omega)] at ho
      have HO := Lib.hid ho
      clear ho
      go_wp2
      go_ret
      refine ⟨ret_i64m (by have := HQ.out; rw [List.take_of_length_le (by rw [HN.out]; omega)] at this; rw [HC.out]; omega), HU.out, ?_⟩
      have h9 := HO.out
      rw [← HN.out] at h9 ⊢
      exact h9

theorem markInoS_obj (v : Value) (L : List InoR) (lo hi k : Nat) (kz : Int) (w : World) (hkz : kz = (k : Int)) (h0 : 0 < k) (hk : k + (celRow cIno L).cnt ≤ 100000000) (hz : (celRow cIno L).sz ≤ 100000000) (ho : Obj1 w lo hi (celRow cIno L) v) :
    Calls Try.prog 53 #[v, .int .i64 kz] w fun e w' => e = .returned (.int .i64 ((k + (celRow cIno L).cnt : Nat) : Int)) ∧ OutR lo hi w w' ∧ Obj1 w' lo hi ((celRow cIno L).mk k) v := by
  obtain ⟨F, hn, hb, ho⟩ := ho
  refine (markInoS_any v L F k kz w hkz h0 hk hz hn ho).mono ?_
  rintro e w' ⟨he, hu, hw⟩
  exact ⟨he, OutR.of hu hb, F, hn, hb, hw⟩
end Go.Proofs.Ytmcelfiljnlmoaa
namespace Go.Proofs.Ytmcelfiljnlmoaa
open Go.RowKit Go.Proofs.Ytmcelfiljnlmoaa.Parts Go.Proofs.Ytmcelfiljnlmoaa.Hexa

theorem cPart_top (x : PartR) : cntTop (cPart.cels x) = ((celRow cInt x.st).cnt + ((celRow cIno x.ino).cnt + 0)) := rfl
set_option maxRecDepth 100000 in
set_option maxHeartbeats 1000000 in
theorem markPart_st (x : PartR) (a1 : Option Addr) (c1 : Nat) (a2 : Option Addr) (c2 : Nat) (lo hi k : Nat) (kz : Int) (w : World) (hkz : kz = (k : Int)) (h0 : 0 < k) (hk : k + cntTop (cPart.cels x) ≤ 100000000) (hz : szL (cPart.cels x) ≤ 100000000) (ho : Objs w lo hi (cPart.cels x) [.int .i64 x.ser, .slice a1 x.st.length c1, .slice a2 x.ino.length c2]) :
    Calls Try.prog 19 #[.agg #[.int .i64 x.ser, .slice a1 x.st.length c1, .slice a2 x.ino.length c2], .int .i64 kz] w fun e w' => e = .returned (.int .i64 ((k + cntTop (cPart.cels x) : Nat) : Int)) ∧ OutR lo hi w w' ∧ Objs w' lo hi (mkTop (cPart.cels x) k) [.int .i64 x.ser, .slice a1 x.st.length c1, .slice a2 x.ino.length c2] := by
  subst hkz
  obtain ⟨F0, hn, hb, hO⟩ := ho
  replace hO := own_cons_val hO
  obtain ⟨F1a, R1, e1, o1, hO⟩ := own_cons hO
  obtain ⟨F2a, R2, e2, o2, hO⟩ := own_cons hO
  have en := own_nil hO
  clear hO
  rw [en] at e2
  rw [e2] at e1
  rw [e1] at hn hb
  clear en e1 e2
  have HN := Lib.hid hn
  have HB := Lib.hid hb
  have N1 : Hid (F1a.Nodup) := Lib.hid (by have := hn; simp only [List.nodup_append] at this; simp_all)
  have N2 : Hid (F2a.Nodup) := Lib.hid (by have := hn; simp only [List.nodup_append] at this; simp_all)
  have D1_2 : Hid (∀ g ∈ F1a, g ∉ F2a) := Lib.hid (fun g h1 h2 => by have h3 := hn; simp only [List.nodup_append, List.mem_append] at h3; simp only [List.not_mem_nil, or_false] at h3; grind)
  have D2_1 : Hid (∀ g ∈ F2a, g ∉ F1a) := Lib.hid (fun g h1 h2 => by have h3 := hn; simp only [List.nodup_append, List.mem_append] at h3; simp only [List.not_mem_nil, or_false] at h3; grind)
  have O1 := Lib.hid o1
  have P1 : Hid (∀ g ∈ F1a, g < w.heap.size) := Lib.hid (Cel.Own.lt _ _ _ o1)
  have O2 := Lib.hid o2
  have P2 : Hid (∀ g ∈ F2a, g < w.heap.size) := Lib.hid (Cel.Own.lt _ _ _ o2)
  rw [cPart_top] at hk
  have HZ := Lib.hid hz
  have HK := Lib.hid hk
  clear hn hb hz hk o1 o2
  have B0 := Lib.hid (below_bk w (.cells #[.int .i64 x.ser, .slice a1 x.st.length c1, .slice a2 x.ino.length c2] 27))
  have T0 := Lib.hid (Bk.alloc w #[.int .i64 x.ser, .slice a1 x.st.length c1, .slice a2 x.ino.length c2] 27)
  have U0 := Lib.hid (OutF.of_below (F := (F1a ++ (F2a ++ []))) B0.out)
  have O1_0 : Hid ((celRow cInt x.st).Own _ F1a _) := Lib.hid (Cel.Own.kept _ _ _ (fun g hg => B0.out.block g (P1.out g hg)) O1.out)
  have O2_0 : Hid ((celRow cIno x.ino).Own _ F2a _) := Lib.hid (Cel.Own.kept _ _ _ (fun g hg => B0.out.block g (P2.out g hg)) O2.out)
  clear O1 O2
  go_enter Try.func19, Try.ntmps19
  go_wp2_with fail
  refine (markIntS_any _ x.st F1a k _ _ (by omega) (by omega) (by have := HK.out; omega) (by have := HZ.out; rw [cPart_sz] at this; omega) N1.out O1_0.out).mono ?_
  rintro e w1 ⟨he, hu, hw⟩
  obtain ⟨k1, hq1⟩ : ∃ y, k + (celRow cInt x.st).cnt = y := ⟨_, rfl⟩
  rw [hq1] at he
  subst he
  have HQ1 := Lib.hid hq1
  have hb1 : 0 < k1 := by omega
  have hl1 : k1 ≤ 100000000 := by have := HK.out; omega
  have T1 : Hid (Bk w1 w.heap.size #[.int .i64 x.ser, .slice a1 x.st.length c1, .slice a2 x.ino.length c2] 27) := Lib.hid ((hu.block w.heap.size (fun h => by have := P1.out _ h; omega) T0.out.lt).trans T0.out)
  have U1 := Lib.hid (U0.out.trans (hu.mono (G := (F1a ++ (F2a ++ []))) (fun g hg => by simp only [List.mem_append]; simp [hg])))
  have O1_1 := Lib.hid hw
  have O2_1 := Lib.hid (Cel.Own.kept _ _ _ (fun g hg => hu.block g (D2_1.out g hg) (Cel.Own.lt _ _ _ O2_0.out g hg)) O2_0.out)
  have d1 := T1.out.cell (j := 2) rfl
  clear hu hw hq1 T0 U0 O1_0 O2_0
  go_wp2_with fail
  refine (markInoS_any _ x.ino F2a k1 _ _ (by omega) (by omega) (by have := HK.out; have := HQ1.out; omega) (by have := HZ.out; rw [cPart_sz] at this; omega) N2.out O2_1.out).mono ?_
  rintro e w2 ⟨he, hu, hw⟩
  obtain ⟨k2, hq2⟩ : ∃ y, k1 + (celRow cIno x.ino).cnt = y := ⟨_, rfl⟩
  rw [hq2] at he
  subst he
  have HQ2 := Lib.hid hq2
  have hb2 : 0 < k2 := by omega
  have hl2 : k2 ≤ 100000000 := by have := HK.out; have := HQ1.out; omega
  have T2 : Hid (Bk w2 w.heap.size #[.int .i64 x.ser, .slice a1 x.st.length c1, .slice a2 x.ino.length c2] 27) := Lib.hid ((hu.block w.heap.size (fun h => by have := P2.out _ h; omega) T1.out.lt).trans T1.out)
  have U2 := Lib.hid (U1.out.trans (hu.mono (G := (F1a ++ (F2a ++ []))) (fun g hg => by simp only [List.mem_append]; simp [hg])))
  have O2_2 := Lib.hid hw
  have O1_2 := Lib.hid (Cel.Own.kept _ _ _ (fun g hg => hu.block g (D1_2.out g hg) (Cel.Own.lt _ _ _ O1_1.out g hg)) O1_1.out)
  clear hu hw hq2 T1 U1 O1_1 O2_1
  go_wp2
  go_ret
  have E1 : ((celRow cInt x.st).mk k).Own w2 F1a (.slice a1 x.st.length c1) := by exact O1_2.out
  have E2 : ((celRow cIno x.ino).mk (k + (celRow cInt x.st).cnt)).Own w2 F2a (.slice a2 x.ino.length c2) := by rw [show (k + (celRow cInt x.st).cnt) = k1 by have := HQ1.out; have := HQ2.out; omega]; exact O2_2.out
  refine ⟨ret_i64m (by rw [cPart_top]; have := HQ1.out; have := HQ2.out; omega), OutR.of U2.out HB.out, (F1a ++ (F2a ++ [])), HN.out, HB.out, ⟨_, _, [], _, rfl, rfl, ⟨rfl, rfl⟩, ⟨_, _, F1a, _, rfl, rfl, E1, ⟨_, _, F2a, _, rfl, rfl, E2, ⟨rfl, rfl⟩⟩⟩⟩⟩
end Go.Proofs.Ytmcelfiljnlmoaa
namespace Go.Proofs.Ytmcelfiljnlmoaa
open Go.RowKit Go.Proofs.Ytmcelfiljnlmoaa.Parts Go.Proofs.Ytmcelfiljnlmoaa.Hexa

theorem cInt_m {w : World} {L : List Int} {a : Option Addr} {n c k : Nat} (h : ((celRow cInt L).mk k).Rd w (.slice a n c)) (j q : Nat) (hj : j < n) (hq : q = k + cntL (celsE cInt (L.take j))) :
    ∃ (g off : Nat), a = some ⟨g, off, none⟩ ∧ g < w.heap.size ∧ w.cell? ⟨g, off + j, none⟩ = some (.int .i64 ((q : Int))) := by
  obtain ⟨g, off, vs, ha, hg, hr, hc⟩ := rowM_at h (by decide) j hj
  rw [← hq] at hr
  obtain ⟨v0, r0, e0, h0, hend⟩ := hr
  have hend' : r0 = [] := hend
  rw [hend'] at e0
  subst e0
  exact ⟨g, off, ha, hg, (by have h9 := hc 0 _ rfl; rw [show v0 = _ from h0, show off + j * cInt.k + 0 = off + j from by show off + j * 1 + 0 = _; omega] at h9; exact h9)⟩
set_option maxRecDepth 100000 in
set_option maxHeartbeats 1000000 in
theorem heldIntS_any (v : Value) (L : List Int) (k : Nat) (kz : Int) (w : World) (hkz : kz = (k : Int)) (h0 : 0 < k) (hk : k + (celRow cInt L).cnt ≤ 100000000) (hz : (celRow cInt L).sz ≤ 100000000) (hs : ((celRow cInt L).mk k).Rd w v) :
    Calls Try.prog 54 #[v, .int .i64 kz] w fun e w' => e = .returned (.int .i64 ((k + (celRow cInt L).cnt : Nat) : Int)) ∧ Below w.heap.size w w' := by
  subst hkz
  obtain ⟨a, n, c, rfl, hn⟩ := rowK_form hs
  have HN := Lib.hid hn
  have HC : Hid ((celRow cInt L).cnt = cntL (celsE cInt L)) := Lib.hid rfl
  have hk' : k + cntL (celsE cInt L) ≤ 100000000 := hk
  have hz' : n + szL (celsE cInt L) ≤ 100000000 := by rw [← hn]; exact hz
  have hn9 : n ≤ 100000000 := by omega
  have HZ : Hid (szL (celsE cInt L) ≤ 100000000) := Lib.hid (by omega)
  have HS := Lib.hid hs
  clear hn hs hk hz hz'
  go_enter Try.func54, Try.ntmps54
  go_wp2
  go_loopw [1, 5] (fun kv iv wr => ∃ (j q : Nat), j ≤ n ∧ 0 < q ∧ q ≤ 100000000 ∧ Hid (q = k + cntL (celsE cInt (L.take j))) ∧ iv = .int .i64 j ∧ kv = .int .i64 q ∧ Below w.heap.size w wr) (fun _ iv _ => n - (intOf iv).toNat)
  case atStart => exact ⟨0, k, Nat.zero_le _, h0, by omega, Lib.hid (by simp only [List.take_zero, celsE, cntL]; rfl), rfl, rfl, Below.refl _ _⟩
  case round =>
    obtain ⟨j, q, hj, hq0, hq9, HQ, rfl, rfl, hbel⟩ := hrel
    by_cases hlt : j < n
    · have hjL : j < L.length := by rw [HN.out]; exact hlt
      have HX := Lib.hid (cntL_next cInt hjL)
      have hm := cntL_take cInt L (j + 1)
      have HY := Lib.hid (Nat.le_trans (szL_at cInt L j hjL) HZ.out)
      obtain ⟨g, off, rfl, hg, d0⟩ := cInt_m (Cel.Rd.later hbel _ _ HS.out) j q hlt HQ.out
      obtain ⟨x, hx⟩ : ∃ x, L.getD j default = x := ⟨_, rfl⟩
      rw [hx] at HX HY 
      have hm2 : q + cntL (cInt.cels x) ≤ 100000000 := by have := HQ.out; have := HX.out; omega
      have HM2 := Lib.hid hm2
      have hm3 : q + 1 ≤ 100000000 := by have : cntL (cInt.cels x) = (1 + 0) := rfl; omega
      clear hx hjL hm hm2
      go_wp2
      have HR : Hid ((q + 1) = k + cntL (celsE cInt (L.take (j + 1)))) := Lib.hid (by have := HQ.out; have := HX.out; have : cntL (cInt.cels x) = (1 + 0) := rfl; omega)
      have hr9 : (q + 1) ≤ 100000000 := by have := HM2.out; have : cntL (cInt.cels x) = (1 + 0) := rfl; omega
      go_roundw
      case rel => exact ⟨j + 1, (q + 1), by omega, by omega, hr9, HR, by go_num, by go_num, hbel⟩
      case measure => (simp [intOf]; try omega)
    · obtain rfl : j = n := by omega
      go_wp2
      go_ret
      exact ⟨ret_i64m (by have := HQ.out; rw [List.take_of_length_le (by rw [HN.out]; omega)] at this; rw [HC.out]; omega), hbel⟩

end Go.Proofs.Ytmcelfiljnlmoaa
namespace Go.Proofs.Ytmcelfiljnlmoaa
open Go.RowKit Go.Proofs.Ytmcelfiljnlmoaa.Parts Go.Proofs.Ytmcelfiljnlmoaa.Hexa

theorem cRec_m {w : World} {L : List RecR} {a : Option Addr} {n c k : Nat} (h : ((celRow cRec L).mk k).Rd w (.slice a n c)) (j q : Nat) (hj : j < n) (hq : q = k + cntL (celsE cRec (L.take j))) :
    ∃ (g off : Nat), a = some ⟨g, off, none⟩ ∧ g < w.heap.size ∧ w.cell? ⟨g, off + j * 3, none⟩ = some (.int .i64 ((q : Int))) ∧ w.cell? ⟨g, off + j * 3 + 1, none⟩ = some (.int .i64 ((q : Int) + 1)) ∧ w.cell? ⟨g, off + j * 3 + 2, none⟩ = some (.string (markT ((q + 1) + 1))) := by
  obtain ⟨g, off, vs, ha, hg, hr, hc⟩ := rowM_at h (by decide) j hj
  rw [← hq] at hr
  obtain ⟨v0, r0, e0, h0, v1, r1, e1, h1, v2, r2, e2, h2, hend⟩ := hr
  have hend' : r2 = [] := hend
  rw [hend'] at e2
  rw [e2] at e1
  rw [e1] at e0
  subst e0
  exact ⟨g, off, ha, hg, (by have h9 := hc 0 _ rfl; rw [show v0 = _ from h0] at h9; exact h9), (by have h9 := hc 1 _ rfl; rw [show v1 = _ from h1] at h9; exact h9), (by have h9 := hc 2 _ rfl; rw [show v2 = _ from h2] at h9; exact h9)⟩
set_option maxRecDepth 100000 in
set_option maxHeartbeats 1000000 in
theorem heldRecS_any (v : Value) (L : List RecR) (k : Nat) (kz : Int) (w : World) (hkz : kz = (k : Int)) (h0 : 0 < k) (hk : k + (celRow cRec L).cnt ≤ 100000000) (hz : (celRow cRec L).sz ≤ 100000000) (hs : ((celRow cRec L).mk k).Rd w v) :
    Calls Try.prog 89 #[v, .int .i64 kz] w fun e w' => e = .returned (.int .i64 ((k + (celRow cRec L).cnt : Nat) : Int)) ∧ Below w.heap.size w w' := by
  subst hkz
  obtain ⟨a, n, c, rfl, hn⟩ := rowK_form hs
  have HN := Lib.hid hn
  have HC : Hid ((celRow cRec L).cnt = cntL (celsE cRec L)) := Lib.hid rfl
  have hk' : k + cntL (celsE cRec L) ≤ 100000000 := hk
  have hz' : n + szL (celsE cRec L) ≤ 100000000 := by rw [← hn]; exact hz
  have hn9 : n ≤ 100000000 := by omega
  have HZ : Hid (szL (celsE cRec L) ≤ 100000000) := Lib.hid (by omega)
  have HS := Lib.hid hs
  clear hn hs hk hz hz'
  go_enter Try.func89, Try.ntmps89
  go_wp2
  go_loopw [1, 5] (fun kv iv wr => ∃ (j q : Nat), j ≤ n ∧ 0 < q ∧ q ≤ 100000000 ∧ Hid (q = k + cntL (celsE cRec (L.take j))) ∧ iv = .int .i64 j ∧ kv = .int .i64 q ∧ Below w.heap.size w wr) (fun _ iv _ => n - (intOf iv).toNat)
  case atStart => exact ⟨0, k, Nat.zero_le _, h0, by omega, Lib.hid (by simp only [List.take_zero, celsE, cntL]; rfl), rfl, rfl, Below.refl _ _⟩
  case round =>
    obtain ⟨j, q, hj, hq0, hq9, HQ, rfl, rfl, hbel⟩ := hrel
    by_cases hlt : j < n
    · have hjL : j < L.length := by rw [HN.out]; exact hlt
      have HX := Lib.hid (cntL_next cRec hjL)
      have hm := cntL_take cRec L (j + 1)
      have HY := Lib.hid (Nat.le_trans (szL_at cRec L j hjL) HZ.out)
      obtain ⟨g, off, rfl, hg, d0, d1, d2⟩ := cRec_m (Cel.Rd.later hbel _ _ HS.out) j q hlt HQ.out
      obtain ⟨x, hx⟩ : ∃ x, L.getD j default = x := ⟨_, rfl⟩
      rw [hx] at HX HY 
      have hm2 : q + cntL (cRec.cels x) ≤ 100000000 := by have := HQ.out; have := HX.out; omega
      have HM2 := Lib.hid hm2
      have hm3 : q + 3 ≤ 100000000 := by have : cntL (cRec.cels x) = (1 + (1 + (1 + 0))) := rfl; omega
      clear hx hjL hm hm2
      go_wp2
      have hc1s : Hid (((q : Int) + 1 + 1) = (((q + 2) : Nat) : Int)) := Lib.hid (by omega)
      go_region_with (go_at_call 86; refine (markText_n ((q : Int) + 1 + 1) (q + 2) _ hc1s.out (by omega) (by omega)).mono ?_; rintro e w1x ⟨rfl, hb⟩; have n1_2 := (hb.cell (p := ⟨g, off + j * 3 + 2, none⟩) hg).trans d2)
      all_goals
        have B1 : Below w.heap.size w w1x := hbel.drew.trans (hb.mono hbel.size)
        have hg1 : g < w1x.heap.size := Nat.lt_of_lt_of_le hg hb.size
        clear d0 d1 d2 hb
        go_wp2
        have HR : Hid ((q + 3) = k + cntL (celsE cRec (L.take (j + 1)))) := Lib.hid (by have := HQ.out; have := HX.out; have : cntL (cRec.cels x) = (1 + (1 + (1 + 0))) := rfl; omega)
        have hr9 : (q + 3) ≤ 100000000 := by have := HM2.out; have : cntL (cRec.cels x) = (1 + (1 + (1 + 0))) := rfl; omega
        go_roundw
        case rel => exact ⟨j + 1, (q + 3), by omega, by omega, hr9, HR, by go_num, by go_num, B1⟩
        case measure => (simp [intOf]; try omega)
    · obtain rfl : j = n := by omega
      go_wp2
      go_ret
      exact ⟨ret_i64m (by have := HQ.out; rw [List.take_of_length_le (by rw [HN.out]; omega)] at this; rw [HC.out]; omega), hbel⟩

end Go.Proofs.Ytmcelfiljnlmoaa
namespace Go.Proofs.Ytmcelfiljnlmoaa
open Go.RowKit Go.Proofs.Ytmcelfiljnlmoaa.Parts Go.Proofs.Ytmcelfiljnlmoaa.Hexa

theorem cEntry_m {w : World} {L : List EntryR} {a : Option Addr} {n c k : Nat} (h : ((celRow cEntry L).mk k).Rd w (.slice a n c)) (j q : Nat) (hj : j < n) (hq : q = k + cntL (celsE cEntry (L.take j))) :
    ∃ (g off : Nat), a = some ⟨g, off, none⟩ ∧ g < w.heap.size ∧ w.cell? ⟨g, off + j * 2, none⟩ = some (.int .i64 ((q : Int))) ∧ w.cell? ⟨g, off + j * 2 + 1, none⟩ = some (.string (markT (q + 1))) := by
  obtain ⟨g, off, vs, ha, hg, hr, hc⟩ := rowM_at h (by decide) j hj
  rw [← hq] at hr
  obtain ⟨v0, r0, e0, h0, v1, r1, e1, h1, hend⟩ := hr
  have hend' : r1 = [] := hend
  rw [hend'] at e1
  rw [e1] at e0
  subst e0
  exact ⟨g, off, ha, hg, (by have h9 := hc 0 _ rfl; rw [show v0 = _ from h0] at h9; exact h9), (by have h9 := hc 1 _ rfl; rw [show v1 = _ from h1] at h9; exact h9)⟩
set_option maxRecDepth 100000 in
set_option maxHeartbeats 1000000 in
theorem heldEntryS_any (v : Value) (L : List EntryR) (k : Nat) (kz : Int) (w : World) (hkz : kz = (k : Int)) (h0 : 0 < k) (hk : k + (celRow cEntry L).cnt ≤ 100000000) (hz : (celRow cEntry L).sz ≤ 100000000) (hs : ((celRow cEntry L).mk k).Rd w v) :
    Calls Try.prog 90 #[v, .int .i64 kz] w fun e w' => e = .returned (.int .i64 ((k + (celRow cEntry L).cnt : Nat) : Int)) ∧ Below w.heap.size w w' := by
  subst hkz
  obtain ⟨a, n, c, rfl, hn⟩ := rowK_form hs
  have HN := Lib.hid hn
  have HC : Hid ((celRow cEntry L).cnt = cntL (celsE cEntry L)) := Lib.hid rfl
  have hk' : k + cntL (celsE cEntry L) ≤ 100000000 := hk
  have hz' : n + szL (celsE cEntry L) ≤ 100000000 := by rw [← hn]; exact hz
  have hn9 : n ≤ 100000000 := by omega
  have HZ : Hid (szL (celsE cEntry L) ≤ 100000000) := Lib.hid (by omega)
  have HS := Lib.hid hs
  clear hn hs hk hz hz'
  go_enter Try.func90, Try.ntmps90
  go_wp2
  go_loopw [1, 5] (fun kv iv wr => ∃ (j q : Nat), j ≤ n ∧ 0 < q ∧ q ≤ 100000000 ∧ Hid (q = k + cntL (celsE cEntry (L.take j))) ∧ iv = .int .i64 j ∧ kv = .int .i64 q ∧ Below w.heap.size w wr) (fun _ iv _ => n - (intOf iv).toNat)
  case atStart => exact ⟨0, k, Nat.zero_le _, h0, by omega, Lib.hid (by simp only [List.take_zero, celsE, cntL]; rfl), rfl, rfl, Below.refl _ _⟩
  case round =>
    obtain ⟨j, q, hj, hq0, hq9, HQ, rfl, rfl, hbel⟩ := hrel
    by_cases hlt : j < n
    · have hjL : j < L.length := by rw [HN.out]; exact hlt
      have HX := Lib.hid (cntL_next cEntry hjL)
      have hm := cntL_take cEntry L (j + 1)
      have HY := Lib.hid (Nat.le_trans (szL_at cEntry L j hjL) HZ.out)
      obtain ⟨g, off, rfl, hg, d0, d1⟩ := cEntry_m (Cel.Rd.later hbel _ _ HS.out) j q hlt HQ.out
      obtain ⟨x, hx⟩ : ∃ x, L.getD j default = x := ⟨_, rfl⟩
      rw [hx] at HX HY 
      have hm2 : q + cntL (cEntry.cels x) ≤ 100000000 := by have := HQ.out; have := HX.out; omega
      have HM2 := Lib.hid hm2
      have hm3 : q + 2 ≤ 100000000 := by have : cntL (cEntry.cels x) = (1 + (1 + 0)) := rfl; omega
      clear hx hjL hm hm2
      go_wp2
      have hc1s : Hid (((q : Int) + 1) = (((q + 1) : Nat) : Int)) := Lib.hid (by omega)
      go_region_with (go_at_call 86; refine (markText_n ((q : Int) + 1) (q + 1) _ hc1s.out (by omega) (by omega)).mono ?_; rintro e w1x ⟨rfl, hb⟩; have n1_1 := (hb.cell (p := ⟨g, off + j * 2 + 1, none⟩) hg).trans d1)
      all_goals
        have B1 : Below w.heap.size w w1x := hbel.drew.trans (hb.mono hbel.size)
        have hg1 : g < w1x.heap.size := Nat.lt_of_lt_of_le hg hb.size
        clear d0 d1 hb
        go_wp2
        have HR : Hid ((q + 2) = k + cntL (celsE cEntry (L.take (j + 1)))) := Lib.hid (by have := HQ.out; have := HX.out; have : cntL (cEntry.cels x) = (1 + (1 + 0)) := rfl; omega)
        have hr9 : (q + 2) ≤ 100000000 := by have := HM2.out; have : cntL (cEntry.cels x) = (1 + (1 + 0)) := rfl; omega
        go_roundw
        case rel => exact ⟨j + 1, (q + 2), by omega, by omega, hr9, HR, by go_num, by go_num, B1⟩
        case measure => (simp [intOf]; try omega)
    · obtain rfl : j = n := by omega
      go_wp2
      go_ret
      exact ⟨ret_i64m (by have := HQ.out; rw [List.take_of_length_le (by rw [HN.out]; omega)] at this; rw [HC.out]; omega), hbel⟩

end Go.Proofs.Ytmcelfiljnlmoaa
namespace Go.Proofs.Ytmcelfiljnlmoaa
open Go.RowKit Go.Proofs.Ytmcelfiljnlmoaa.Parts Go.Proofs.Ytmcelfiljnlmoaa.Hexa

theorem cIno_m {w : World} {L : List InoR} {a : Option Addr} {n c k : Nat} (h : ((celRow cIno L).mk k).Rd w (.slice a n c)) (j q : Nat) (hj : j < n) (hq : q = k + cntL (celsE cIno (L.take j))) :
    ∃ (g off : Nat) (a4 : Option Addr) (c4 : Nat) (a5 : Option Addr) (c5 : Nat), a = some ⟨g, off, none⟩ ∧ g < w.heap.size ∧ w.cell? ⟨g, off + j * 6, none⟩ = some (.int .i64 ((q : Int))) ∧ w.cell? ⟨g, off + j * 6 + 1, none⟩ = some (.int .i64 ((q : Int) + 1)) ∧ w.cell? ⟨g, off + j * 6 + 2, none⟩ = some (.int .i64 ((q : Int) + 1 + 1)) ∧ w.cell? ⟨g, off + j * 6 + 3, none⟩ = some (.string (markT (((q + 1) + 1) + 1))) ∧ w.cell? ⟨g, off + j * 6 + 4, none⟩ = some (.slice a4 (L.getD j default).R.length c4) ∧ w.cell? ⟨g, off + j * 6 + 5, none⟩ = some (.slice a5 (L.getD j default).E.length c5) ∧ ((celRow cRec (L.getD j default).R).mk ((((q + 1) + 1) + 1) + 1)).Rd w (.slice a4 (L.getD j default).R.length c4) ∧ ((celRow cEntry (L.getD j default).E).mk (((((q + 1) + 1) + 1) + 1) + (celRow cRec (L.getD j default).R).cnt)).Rd w (.slice a5 (L.getD j default).E.length c5) := by
  obtain ⟨g, off, vs, ha, hg, hr, hc⟩ := rowM_at h (by decide) j hj
  rw [← hq] at hr
  obtain ⟨v0, r0, e0, h0, v1, r1, e1, h1, v2, r2, e2, h2, v3, r3, e3, h3, v4, r4, e4, h4, v5, r5, e5, h5, hend⟩ := hr
  obtain ⟨a4, n4, c4, f4, g4⟩ := rowK_form h4
  subst f4 g4
  obtain ⟨a5, n5, c5, f5, g5⟩ := rowK_form h5
  subst f5 g5
  have hend' : r5 = [] := hend
  rw [hend'] at e5
  rw [e5] at e4
  rw [e4] at e3
  rw [e3] at e2
  rw [e2] at e1
  rw [e1] at e0
  subst e0
  exact ⟨g, off, a4, c4, a5, c5, ha, hg, (by have h9 := hc 0 _ rfl; rw [show v0 = _ from h0] at h9; exact h9), (by have h9 := hc 1 _ rfl; rw [show v1 = _ from h1] at h9; exact h9), (by have h9 := hc 2 _ rfl; rw [show v2 = _ from h2] at h9; exact h9), (by have h9 := hc 3 _ rfl; rw [show v3 = _ from h3] at h9; exact h9), hc 4 _ rfl, hc 5 _ rfl, h4, h5⟩
set_option maxRecDepth 100000 in
set_option maxHeartbeats 1000000 in
theorem heldInoS_any (v : Value) (L : List InoR) (k : Nat) (kz : Int) (w : World) (hkz : kz = (k : Int)) (h0 : 0 < k) (hk : k + (celRow cIno L).cnt ≤ 100000000) (hz : (celRow cIno L).sz ≤ 100000000) (hs : ((celRow cIno L).mk k).Rd w v) :
    Calls Try.prog 55 #[v, .int .i64 kz] w fun e w' => e = .returned (.int .i64 ((k + (celRow cIno L).cnt : Nat) : Int)) ∧ Below w.heap.size w w' := by
  subst hkz
  obtain ⟨a, n, c, rfl, hn⟩ := rowK_form hs
  have HN := Lib.hid hn
  have HC : Hid ((celRow cIno L).cnt = cntL (celsE cIno L)) := Lib.hid rfl
  have hk' : k + cntL (celsE cIno L) ≤ 100000000 := hk
  have hz' : n + szL (celsE cIno L) ≤ 100000000 := by rw [← hn]; exact hz
  have hn9 : n ≤ 100000000 := by omega
  have HZ : Hid (szL (celsE cIno L) ≤ 100000000) := Lib.hid (by omega)
  have HS := Lib.hid hs
  clear hn hs hk hz hz'
  go_enter Try.func55, Try.ntmps55
  go_wp2
  go_loopw [1, 5] (fun kv iv wr => ∃ (j q : Nat), j ≤ n ∧ 0 < q ∧ q ≤ 100000000 ∧ Hid (q = k + cntL (celsE cIno (L.take j))) ∧ iv = .int .i64 j ∧ kv = .int .i64 q ∧ Below w.heap.size w wr) (fun _ iv _ => n - (intOf iv).toNat)
  case atStart => exact ⟨0, k, Nat.zero_le _, h0, by omega, Lib.hid (by simp only [List.take_zero, celsE, cntL]; rfl), rfl, rfl, Below.refl _ _⟩
  case round =>
    obtain ⟨j, q, hj, hq0, hq9, HQ, rfl, rfl, hbel⟩ := hrel
    by_cases hlt : j < n
    · have hjL : j < L.length := by rw [HN.out]; exact hlt
      have HX := Lib.hid (cntL_next cIno hjL)
      have hm := cntL_take cIno L (j + 1)
      have HY := Lib.hid (Nat.le_trans (szL_at cIno L j hjL) HZ.out)
      obtain ⟨g, off, a4, c4, a5, c5, rfl, hg, d0, d1, d2, d3, d4, d5, r4, r5⟩ := cIno_m (Cel.Rd.later hbel _ _ HS.out) j q hlt HQ.out
      obtain ⟨x, hx⟩ : ∃ x, L.getD j default = x := ⟨_, rfl⟩
      rw [hx] at HX HY d4 r4 d5 r5
      have hm2 : q + cntL (cIno.cels x) ≤ 100000000 := by have := HQ.out; have := HX.out; omega
      have HM2 := Lib.hid hm2
      have hm3 : q + 4 ≤ 100000000 := by have : cntL (cIno.cels x) = (1 + (1 + (1 + (1 + ((celRow cRec x.R).cnt + ((celRow cEntry x.E).cnt + 0)))))) := rfl; omega
      clear hx hjL hm hm2
      go_wp2
      have hc1s : Hid (((q : Int) + 1 + 1 + 1) = (((q + 3) : Nat) : Int)) := Lib.hid (by omega)
      go_region_with (go_at_call 86; refine (markText_n ((q : Int) + 1 + 1 + 1) (q + 3) _ hc1s.out (by omega) (by omega)).mono ?_; rintro e w1x ⟨rfl, hb⟩; have n1_3 := (hb.cell (p := ⟨g, off + j * 6 + 3, none⟩) hg).trans d3; have n1_4 := (hb.cell (p := ⟨g, off + j * 6 + 4, none⟩) hg).trans d4; have n1_5 := (hb.cell (p := ⟨g, off + j * 6 + 5, none⟩) hg).trans d5)
      all_goals
        have B1 : Below w.heap.size w w1x := hbel.drew.trans (hb.mono hbel.size)
        have hg1 : g < w1x.heap.size := Nat.lt_of_lt_of_le hg hb.size
        have rr1_4 := Cel.Rd.later hb _ _ (Cel.Rd.drew r4)
        have rr1_5 := Cel.Rd.later hb _ _ (Cel.Rd.drew r5)
        clear d0 d1 d2 d3 d4 d5 hb
        go_wp2_with fail
        refine (heldRecS_any _ x.R (q + 4) _ _ (by omega) (by omega) (by have := HM2.out; have : cntL (cIno.cels x) = (1 + (1 + (1 + (1 + ((celRow cRec x.R).cnt + ((celRow cEntry x.E).cnt + 0)))))) := rfl; omega) (by have := HY.out; rw [cIno_sz] at this; omega) (by have h9 := rr1_4; rw [show ((((q + 1) + 1) + 1) + 1) = (q + 4) by omega] at h9; exact h9)).mono ?_
        rintro e w2x ⟨he, hb⟩
        obtain ⟨q4, hq4⟩ : ∃ y, (q + 4) + (celRow cRec x.R).cnt = y := ⟨_, rfl⟩
        rw [hq4] at he
        subst he
        have HQ4 := Lib.hid hq4
        have hl4 : q4 + 0 ≤ 100000000 := by have := HM2.out; have : cntL (cIno.cels x) = (1 + (1 + (1 + (1 + ((celRow cRec x.R).cnt + ((celRow cEntry x.E).cnt + 0)))))) := rfl; omega
        have hb4 : 0 < q4 := by omega
        have hc4 : ¬ ((q4 : Int) < 0) := by omega
        have B2 : Below w.heap.size w w2x := B1.trans (hb.mono B1.size)
        have n2_5 := (hb.cell (p := ⟨g, off + j * 6 + 5, none⟩) (by have := B1.size; omega)).trans n1_5
        have hg2 : g < w2x.heap.size := Nat.lt_of_lt_of_le hg1 hb.size
        have rr2_5 := Cel.Rd.later hb _ _ rr1_5
        clear n1_3 n1_4 n1_5 hb hq4
        go_wp2_with fail
        refine (heldEntryS_any _ x.E q4 _ _ (by omega) (by omega) (by have := HM2.out; have := HQ4.out; have : cntL (cIno.cels x) = (1 + (1 + (1 + (1 + ((celRow cRec x.R).cnt + ((celRow cEntry x.E).cnt + 0)))))) := rfl; omega) (by have := HY.out; rw [cIno_sz] at this; omega) (by have := HQ4.out; have h9 := rr2_5; rw [show (((((q + 1) + 1) + 1) + 1) + (celRow cRec x.R).cnt) = q4 by omega] at h9; exact h9)).mono ?_
        rintro e w3x ⟨he, hb⟩
        obtain ⟨q5, hq5⟩ : ∃ y, q4 + (celRow cEntry x.E).cnt = y := ⟨_, rfl⟩
        rw [hq5] at he
        subst he
        have HQ5 := Lib.hid hq5
        have hl5 : q5 + 0 ≤ 100000000 := by have := HM2.out; have := HQ4.out; have : cntL (cIno.cels x) = (1 + (1 + (1 + (1 + ((celRow cRec x.R).cnt + ((celRow cEntry x.E).cnt + 0)))))) := rfl; omega
        have hb5 : 0 < q5 := by omega
        have hc5 : ¬ ((q5 : Int) < 0) := by omega
        have B3 : Below w.heap.size w w3x := B2.trans (hb.mono B2.size)
        have hg3 : g < w3x.heap.size := Nat.lt_of_lt_of_le hg2 hb.size
        clear n2_5 hb hq5
        go_wp2
        have HR : Hid (q5 = k + cntL (celsE cIno (L.take (j + 1)))) := Lib.hid (by have := HQ.out; have := HX.out; have := HQ4.out; have := HQ5.out; have : cntL (cIno.cels x) = (1 + (1 + (1 + (1 + ((celRow cRec x.R).cnt + ((celRow cEntry x.E).cnt + 0)))))) := rfl; omega)
        have hr9 : q5 ≤ 100000000 := by have := HM2.out; have := HQ4.out; have := HQ5.out; have : cntL (cIno.cels x) = (1 + (1 + (1 + (1 + ((celRow cRec x.R).cnt + ((celRow cEntry x.E).cnt + 0)))))) := rfl; omega
        go_roundw
        case rel => exact ⟨j + 1, q5, by omega, by omega, hr9, HR, by go_num, by go_num, B3⟩
        case measure => (simp [intOf]; try omega)
    · obtain rfl : j = n := by omega
      go_wp2
      go_ret
      exact ⟨ret_i64m (by have := HQ.out; rw [List.take_of_length_le (by rw [HN.out]; omega)] at this; rw [HC.out]; omega), hbel⟩

end Go.Proofs.Ytmcelfiljnlmoaa
namespace Go.Proofs.Ytmcelfiljnlmoaa
open Go.RowKit Go.Proofs.Ytmcelfiljnlmoaa.Parts Go.Proofs.Ytmcelfiljnlmoaa.Hexa

set_option maxRecDepth 100000 in
set_option maxHeartbeats 1000000 in
theorem heldPart_st (x : PartR) (a1 : Option Addr) (c1 : Nat) (a2 : Option Addr) (c2 : Nat) (k : Nat) (kz : Int) (w : World) (hkz : kz = (k : Int)) (h0 : 0 < k) (hk : k + ((celRow cInt x.st).cnt + ((celRow cIno x.ino).cnt + 0)) ≤ 100000000) (hz : szL (cPart.cels x) ≤ 100000000) (hr : RdL w (mkTop (cPart.cels x) k) [.int .i64 x.ser, .slice a1 x.st.length c1, .slice a2 x.ino.length c2]) :
    Calls Try.prog 20 #[.agg #[.int .i64 x.ser, .slice a1 x.st.length c1, .slice a2 x.ino.length c2], .int .i64 kz] w fun e w' => e = .returned (.int .i64 ((k + ((celRow cInt x.st).cnt + ((celRow cIno x.ino).cnt + 0)) : Nat) : Int)) ∧ Below w.heap.size w w' := by
  subst hkz
  replace hr := (rd_cons hr).2
  obtain ⟨h1, hr⟩ := rd_cons hr
  obtain ⟨h2, hr⟩ := rd_cons hr
  have HS1 : Hid (((celRow cInt x.st).mk k).Rd w (.slice a1 x.st.length c1)) := Lib.hid h1
  have HS2 : Hid (((celRow cIno x.ino).mk (k + (celRow cInt x.st).cnt)).Rd w (.slice a2 x.ino.length c2)) := Lib.hid h2
  have HZ := Lib.hid hz
  have HK := Lib.hid hk
  clear hr hz hk h1 h2
  have B0 := Lib.hid (below_bk w (.cells #[.int .i64 x.ser, .slice a1 x.st.length c1, .slice a2 x.ino.length c2] 27))
  have T0 := Lib.hid (Bk.alloc w #[.int .i64 x.ser, .slice a1 x.st.length c1, .slice a2 x.ino.length c2] 27)
  go_enter Try.func20, Try.ntmps20
  go_wp2_with fail
  refine (heldIntS_any _ x.st k _ _ (by omega) (by omega) (by have := HK.out; omega) (by have := HZ.out; rw [cPart_sz] at this; omega) (Cel.Rd.later B0.out _ _ HS1.out)).mono ?_
  rintro e w1 ⟨he, hb⟩
  obtain ⟨k1, hq1⟩ : ∃ y, k + (celRow cInt x.st).cnt = y := ⟨_, rfl⟩
  rw [hq1] at he
  subst he
  have HQ1 := Lib.hid hq1
  have hb1 : 0 < k1 := by omega
  have hl1 : k1 ≤ 100000000 := by have := HK.out; omega
  have hm1 : ¬ ((k1 : Int) < 0) := by omega
  have T1 := Lib.hid (T0.out.later hb)
  have B1 : Hid (Below w.heap.size w w1) := Lib.hid (B0.out.trans (hb.mono B0.out.size))
  have d1 := T1.out.cell (j := 2) rfl
  clear hb hq1
  go_wp2_with fail
  refine (heldInoS_any _ x.ino k1 _ _ (by omega) (by omega) (by have := HK.out; have := HQ1.out; omega) (by have := HZ.out; rw [cPart_sz] at this; omega) (by have h9 := HS2.out; rw [show (k + (celRow cInt x.st).cnt) = k1 by have := HQ1.out; omega] at h9; exact Cel.Rd.later B1.out _ _ h9)).mono ?_
  rintro e w2 ⟨he, hb⟩
  obtain ⟨k2, hq2⟩ : ∃ y, k1 + (celRow cIno x.ino).cnt = y := ⟨_, rfl⟩
  rw [hq2] at he
  subst he
  have HQ2 := Lib.hid hq2
  have hb2 : 0 < k2 := by omega
  have hl2 : k2 ≤ 100000000 := by have := HK.out; have := HQ1.out; omega
  have hm2 : ¬ ((k2 : Int) < 0) := by omega
  have T2 := Lib.hid (T1.out.later hb)
  have B2 : Hid (Below w.heap.size w w2) := Lib.hid (B1.out.trans (hb.mono B1.out.size))
  clear hb hq2
  go_wp2
  go_ret
  exact ⟨ret_i64m (by have := HQ1.out; have := HQ2.out; omega), B2.out⟩
end Go.Proofs.Ytmcelfiljnlmoaa
namespace Go.Proofs.Ytmcelfiljnlmoaa
open Go.RowKit Go.Proofs.Ytmcelfiljnlmoaa.Parts Go.Proofs.Ytmcelfiljnlmoaa.Hexa Go.Proofs.Ytmcelfiljnlmoaa.Byt

set_option maxRecDepth 100000 in
set_option maxHeartbeats 4000000 in
theorem partNew_law (Tg Pg Ig Qg : Int) (w : World)  :
    Calls Try.prog 3 #[.agg #[.int .i64 Tg, .int .i64 Pg, .int .i64 Ig, .int .i64 Qg]] w fun e w' => e = .returned (.bool true) ∧ Below w.heap.size w w' := by
  obtain ⟨r, hr⟩ : ∃ d, partNew Tg Pg Ig Qg = d := ⟨_, rfl⟩
  have HR := Lib.hid hr
  have HRZ : Hid (szL (cPart.cels r) ≤ 100000000) := Lib.hid (by rw [← hr]; exact Nat.le_trans (partNew_sz _ _ _ _) (by decide))
  have HRC : Hid (1 + cntTop (cPart.cels r) ≤ 100000000) := Lib.hid (by rw [← hr]; have := partNew_cnt Tg Pg Ig Qg; omega)
  clear hr
  have Xg_0 := Lib.hid (Bk.alloc w #[.int .i64 Tg, .int .i64 Pg, .int .i64 Ig, .int .i64 Qg] 23)
  have BW_0 := Lib.hid (below_bk w (.cells #[.int .i64 Tg, .int .i64 Pg, .int .i64 Ig, .int .i64 Qg] 23))
  go_enter Try.func3, Try.ntmps3
  have dg0 := Xg_0.out.cell (j := 0) rfl
  have dg1 := Xg_0.out.cell (j := 1) rfl
  have dg2 := Xg_0.out.cell (j := 2) rfl
  have dg3 := Xg_0.out.cell (j := 3) rfl
  go_wp2_with fail
  obtain ⟨V0, hV⟩ : ∃ y, y = (w.alloc (.cells #[.int .i64 Tg, .int .i64 Pg, .int .i64 Ig, .int .i64 Qg] 23)) := ⟨_, rfl⟩
  clear dg0 dg1 dg2 dg3
  rw [← hV] at Xg_0 BW_0 ⊢
  have SZ_V0 : Hid (w.heap.size + 1 ≤ V0.heap.size) := Lib.hid (by rw [hV]; simp)
  clear hV
  refine (toGeo_any Tg Pg Ig Qg _).mono ?_
  rintro e w1 ⟨rfl, hb⟩
  have Xg_1 := Lib.hid (Xg_0.out.later hb)
  have BW_1 : Hid (Below w.heap.size w w1) := Lib.hid (BW_0.out.trans (hb.mono BW_0.out.size))
  have SZ_w1 : Hid (V0.heap.size ≤ w1.heap.size) := Lib.hid hb.size
  clear hb Xg_0 BW_0
  have dg0 := Xg_1.out.cell (j := 0) rfl
  have dg1 := Xg_1.out.cell (j := 1) rfl
  have dg2 := Xg_1.out.cell (j := 2) rfl
  have dg3 := Xg_1.out.cell (j := 3) rfl
  go_wp2_with fail
  clear dg0 dg1 dg2 dg3
  refine (specNew_any Tg Pg Ig Qg _).mono ?_
  rw [HR.out]
  rintro e w2 ⟨vs, rfl, ho, hb⟩
  have Xg_2 := Lib.hid (Xg_1.out.later hb)
  have BW_2 : Hid (Below w.heap.size w w2) := Lib.hid (BW_1.out.trans (hb.mono BW_1.out.size))
  have SZ_w2 : Hid (w1.heap.size ≤ w2.heap.size) := Lib.hid hb.size
  clear hb Xg_1 BW_1
  obtain ⟨a1_w, c1_w, a2_w, c2_w, rfl, _, _⟩ := cPart_form ho.rd
  have Ow_2x := Lib.hid ho
  clear ho
  have hba := below_bk w2 (.cells #[.int .i64 r.ser, .slice a1_w r.st.length c1_w, .slice a2_w r.ino.length c2_w] 27)
  have Xg_3 := Lib.hid (Xg_2.out.later hba)
  have Ow_3 := Lib.hid (Ow_2x.out.later hba)
  have BW_3 : Hid (Below w.heap.size w (w2.alloc (.cells #[.int .i64 r.ser, .slice a1_w r.st.length c1_w, .slice a2_w r.ino.length c2_w] 27))) := Lib.hid (BW_2.out.trans (hba.mono BW_2.out.size))
  have Xw_3 := Lib.hid (Bk.alloc w2 #[.int .i64 r.ser, .slice a1_w r.st.length c1_w, .slice a2_w r.ino.length c2_w] 27)
  clear hba Xg_2 Ow_2x BW_2
  have dg0 := Xg_3.out.cell (j := 0) rfl
  have dg1 := Xg_3.out.cell (j := 1) rfl
  have dg2 := Xg_3.out.cell (j := 2) rfl
  have dg3 := Xg_3.out.cell (j := 3) rfl
  have dw0 := Xw_3.out.cell (j := 0) rfl
  have dw1 := Xw_3.out.cell (j := 1) rfl
  have dw2 := Xw_3.out.cell (j := 2) rfl
  go_wp2_with fail
  obtain ⟨V2, hV⟩ : ∃ y, y = (w2.alloc (.cells #[.int .i64 r.ser, .slice a1_w r.st.length c1_w, .slice a2_w r.ino.length c2_w] 27)) := ⟨_, rfl⟩
  clear dg0 dg1 dg2 dg3 dw0 dw1 dw2
  rw [← hV] at Xg_3 Xw_3 Ow_3 BW_3 ⊢
  have SZ_V2 : Hid (w2.heap.size + 1 ≤ V2.heap.size) := Lib.hid (by rw [hV]; simp)
  clear hV
  refine (toGeo_any Tg Pg Ig Qg _).mono ?_
  rintro e w3 ⟨rfl, hb⟩
  have Xg_4 := Lib.hid (Xg_3.out.later hb)
  have Xw_4 := Lib.hid (Xw_3.out.later hb)
  have Ow_4 := Lib.hid (Ow_3.out.later hb)
  have BW_4 : Hid (Below w.heap.size w w3) := Lib.hid (BW_3.out.trans (hb.mono BW_3.out.size))
  have SZ_w3 : Hid (V2.heap.size ≤ w3.heap.size) := Lib.hid hb.size
  clear hb Xg_3 Xw_3 Ow_3 BW_3
  have dg0 := Xg_4.out.cell (j := 0) rfl
  have dg1 := Xg_4.out.cell (j := 1) rfl
  have dg2 := Xg_4.out.cell (j := 2) rfl
  have dg3 := Xg_4.out.cell (j := 3) rfl
  have dw0 := Xw_4.out.cell (j := 0) rfl
  have dw1 := Xw_4.out.cell (j := 1) rfl
  have dw2 := Xw_4.out.cell (j := 2) rfl
  go_wp2_with fail
  clear dg0 dg1 dg2 dg3 dw0 dw1 dw2
  refine (implNew_any Tg Pg Ig Qg _).mono ?_
  rw [HR.out]
  rintro e w4 ⟨vs, rfl, ho, hb⟩
  have Xg_5 := Lib.hid (Xg_4.out.later hb)
  have Xw_5 := Lib.hid (Xw_4.out.later hb)
  have Ow_5 := Lib.hid (Ow_4.out.later hb)
  have BW_5 : Hid (Below w.heap.size w w4) := Lib.hid (BW_4.out.trans (hb.mono BW_4.out.size))
  have SZ_w4 : Hid (w3.heap.size ≤ w4.heap.size) := Lib.hid hb.size
  clear hb Xg_4 Xw_4 Ow_4 BW_4
  obtain ⟨a1_g0, c1_g0, a2_g0, c2_g0, rfl, _, _⟩ := cPart_form ho.rd
  have Og0_5x := Lib.hid ho
  clear ho
  have hba := below_bk w4 (.cells #[.int .i64 r.ser, .slice a1_g0 r.st.length c1_g0, .slice a2_g0 r.ino.length c2_g0] 27)
  have Xg_6 := Lib.hid (Xg_5.out.later hba)
  have Xw_6 := Lib.hid (Xw_5.out.later hba)
  have Ow_6 := Lib.hid (Ow_5.out.later hba)
  have Og0_6 := Lib.hid (Og0_5x.out.later hba)
  have BW_6 : Hid (Below w.heap.size w (w4.alloc (.cells #[.int .i64 r.ser, .slice a1_g0 r.st.length c1_g0, .slice a2_g0 r.ino.length c2_g0] 27))) := Lib.hid (BW_5.out.trans (hba.mono BW_5.out.size))
  have Xg0_6 := Lib.hid (Bk.alloc w4 #[.int .i64 r.ser, .slice a1_g0 r.st.length c1_g0, .slice a2_g0 r.ino.length c2_g0] 27)
  clear hba Xg_5 Xw_5 Ow_5 Og0_5x BW_5
  have dg0 := Xg_6.out.cell (j := 0) rfl
  have dg1 := Xg_6.out.cell (j := 1) rfl
  have dg2 := Xg_6.out.cell (j := 2) rfl
  have dg3 := Xg_6.out.cell (j := 3) rfl
  have dw0 := Xw_6.out.cell (j := 0) rfl
  have dw1 := Xw_6.out.cell (j := 1) rfl
  have dw2 := Xw_6.out.cell (j := 2) rfl
  have dg00 := Xg0_6.out.cell (j := 0) rfl
  have dg01 := Xg0_6.out.cell (j := 1) rfl
  have dg02 := Xg0_6.out.cell (j := 2) rfl
  go_wp2_with fail
  obtain ⟨V4, hV⟩ : ∃ y, y = (w4.alloc (.cells #[.int .i64 r.ser, .slice a1_g0 r.st.length c1_g0, .slice a2_g0 r.ino.length c2_g0] 27)) := ⟨_, rfl⟩
  clear dg0 dg1 dg2 dg3 dw0 dw1 dw2 dg00 dg01 dg02
  rw [← hV] at Xg_6 Xw_6 Xg0_6 Ow_6 Og0_6 BW_6 ⊢
  have SZ_V4 : Hid (w4.heap.size + 1 ≤ V4.heap.size) := Lib.hid (by rw [hV]; simp)
  clear hV
  refine (eqPart_st r a1_g0 c1_g0 a2_g0 c2_g0 a1_w c1_w a2_w c2_w _ (cPart_un Og0_6.out.rd).1 (cPart_un Og0_6.out.rd).2 (cPart_un Ow_6.out.rd).1 (cPart_un Ow_6.out.rd).2 HRZ.out).mono ?_
  rintro e w5 ⟨rfl, hb⟩
  have Xg_7 := Lib.hid (Xg_6.out.later hb)
  have Xw_7 := Lib.hid (Xw_6.out.later hb)
  have Xg0_7 := Lib.hid (Xg0_6.out.later hb)
  have Ow_7 := Lib.hid (Ow_6.out.later hb)
  have Og0_7 := Lib.hid (Og0_6.out.later hb)
  have BW_7 : Hid (Below w.heap.size w w5) := Lib.hid (BW_6.out.trans (hb.mono BW_6.out.size))
  have SZ_w5 : Hid (V4.heap.size ≤ w5.heap.size) := Lib.hid hb.size
  clear hb Xg_6 Xw_6 Xg0_6 Ow_6 Og0_6 BW_6
  have dg0 := Xg_7.out.cell (j := 0) rfl
  have dg1 := Xg_7.out.cell (j := 1) rfl
  have dg2 := Xg_7.out.cell (j := 2) rfl
  have dg3 := Xg_7.out.cell (j := 3) rfl
  have dw0 := Xw_7.out.cell (j := 0) rfl
  have dw1 := Xw_7.out.cell (j := 1) rfl
  have dw2 := Xw_7.out.cell (j := 2) rfl
  have dg00 := Xg0_7.out.cell (j := 0) rfl
  have dg01 := Xg0_7.out.cell (j := 1) rfl
  have dg02 := Xg0_7.out.cell (j := 2) rfl
  go_wp2_with fail
  clear dg0 dg1 dg2 dg3 dw0 dw1 dw2 dg00 dg01 dg02
  refine (markPart_st r a1_g0 c1_g0 a2_g0 c2_g0 w3.heap.size w4.heap.size 1 _ _ (by omega) (by omega) HRC.out HRZ.out Og0_7.out).mono ?_
  rintro e w6 ⟨he, hu, ho⟩
  obtain ⟨m, hm⟩ : ∃ y, 1 + cntTop (cPart.cels r) = y := ⟨_, rfl⟩
  rw [hm] at he
  subst he
  have Xg_8 := Lib.hid (hu.bk Xg_7.out (by have := SZ_V0.out; have := SZ_w1.out; have := SZ_w2.out; have := SZ_V2.out; have := SZ_w3.out; have := SZ_w4.out; have := SZ_V4.out; have := SZ_w5.out; omega))
  have Xw_8 := Lib.hid (hu.bk Xw_7.out (by have := SZ_V0.out; have := SZ_w1.out; have := SZ_w2.out; have := SZ_V2.out; have := SZ_w3.out; have := SZ_w4.out; have := SZ_V4.out; have := SZ_w5.out; omega))
  have Xg0_8 := Lib.hid (hu.bk Xg0_7.out (by have := SZ_V0.out; have := SZ_w1.out; have := SZ_w2.out; have := SZ_V2.out; have := SZ_w3.out; have := SZ_w4.out; have := SZ_V4.out; have := SZ_w5.out; omega))
  have Ow_8 := Lib.hid (Ow_7.out.out hu (by have := SZ_V0.out; have := SZ_w1.out; have := SZ_w2.out; have := SZ_V2.out; have := SZ_w3.out; have := SZ_w4.out; have := SZ_V4.out; have := SZ_w5.out; omega))
  have Og0_8 := Lib.hid ho
  have BW_8 : Hid (Below w.heap.size w w6) := Lib.hid (BW_7.out.trans (hu.below (by have := SZ_V0.out; have := SZ_w1.out; have := SZ_w2.out; have := SZ_V2.out; have := SZ_w3.out; have := SZ_w4.out; have := SZ_V4.out; have := SZ_w5.out; omega) (by have := SZ_V0.out; have := SZ_w1.out; have := SZ_w2.out; have := SZ_V2.out; have := SZ_w3.out; have := SZ_w4.out; have := SZ_V4.out; have := SZ_w5.out; omega)))
  have SZ_w6 : Hid (w5.heap.size ≤ w6.heap.size) := Lib.hid hu.size
  have HC_m := Lib.hid hm
  have hp_m : m ≤ 100000000 := by have h9 := HRC.out; omega
  have hq_m : 0 < m := by omega
  have hr_m : ¬ ((m : Int) < 0) := by omega
  clear hu ho hm Xg_7 Xw_7 Xg0_7 Ow_7 Og0_7 BW_7
  have dg0 := Xg_8.out.cell (j := 0) rfl
  have dg1 := Xg_8.out.cell (j := 1) rfl
  have dg2 := Xg_8.out.cell (j := 2) rfl
  have dg3 := Xg_8.out.cell (j := 3) rfl
  have dw0 := Xw_8.out.cell (j := 0) rfl
  have dw1 := Xw_8.out.cell (j := 1) rfl
  have dw2 := Xw_8.out.cell (j := 2) rfl
  have dg00 := Xg0_8.out.cell (j := 0) rfl
  have dg01 := Xg0_8.out.cell (j := 1) rfl
  have dg02 := Xg0_8.out.cell (j := 2) rfl
  go_wp2_with fail
  clear dg0 dg1 dg2 dg3 dw0 dw1 dw2 dg00 dg01 dg02
  refine (heldPart_st r a1_g0 c1_g0 a2_g0 c2_g0 1 _ _ (by rfl) (by decide) (by rw [← cPart_top]; exact HRC.out) HRZ.out Og0_8.out.rd).mono ?_
  rintro e w7 ⟨he, hb⟩
  rw [← cPart_top, HC_m.out] at he
  subst he
  have Xg_9 := Lib.hid (Xg_8.out.later hb)
  have Xw_9 := Lib.hid (Xw_8.out.later hb)
  have Xg0_9 := Lib.hid (Xg0_8.out.later hb)
  have Ow_9 := Lib.hid (Ow_8.out.later hb)
  have Og0_9 := Lib.hid (Og0_8.out.later hb)
  have BW_9 : Hid (Below w.heap.size w w7) := Lib.hid (BW_8.out.trans (hb.mono BW_8.out.size))
  have SZ_w7 : Hid (w6.heap.size ≤ w7.heap.size) := Lib.hid hb.size
  clear hb Xg_8 Xw_8 Xg0_8 Ow_8 Og0_8 BW_8
  have dg0 := Xg_9.out.cell (j := 0) rfl
  have dg1 := Xg_9.out.cell (j := 1) rfl
  have dg2 := Xg_9.out.cell (j := 2) rfl
  have dg3 := Xg_9.out.cell (j := 3) rfl
  have dw0 := Xw_9.out.cell (j := 0) rfl
  have dw1 := Xw_9.out.cell (j := 1) rfl
  have dw2 := Xw_9.out.cell (j := 2) rfl
  have dg00 := Xg0_9.out.cell (j := 0) rfl
  have dg01 := Xg0_9.out.cell (j := 1) rfl
  have dg02 := Xg0_9.out.cell (j := 2) rfl
  go_wp2_with fail
  clear dg0 dg1 dg2 dg3 dw0 dw1 dw2 dg00 dg01 dg02
  refine (toGeo_any Tg Pg Ig Qg _).mono ?_
  rintro e w8 ⟨rfl, hb⟩
  have Xg_10 := Lib.hid (Xg_9.out.later hb)
  have Xw_10 := Lib.hid (Xw_9.out.later hb)
  have Xg0_10 := Lib.hid (Xg0_9.out.later hb)
  have Ow_10 := Lib.hid (Ow_9.out.later hb)
  have Og0_10 := Lib.hid (Og0_9.out.later hb)
  have BW_10 : Hid (Below w.heap.size w w8) := Lib.hid (BW_9.out.trans (hb.mono BW_9.out.size))
  have SZ_w8 : Hid (w7.heap.size ≤ w8.heap.size) := Lib.hid hb.size
  clear hb Xg_9 Xw_9 Xg0_9 Ow_9 Og0_9 BW_9
  have dg0 := Xg_10.out.cell (j := 0) rfl
  have dg1 := Xg_10.out.cell (j := 1) rfl
  have dg2 := Xg_10.out.cell (j := 2) rfl
  have dg3 := Xg_10.out.cell (j := 3) rfl
  have dw0 := Xw_10.out.cell (j := 0) rfl
  have dw1 := Xw_10.out.cell (j := 1) rfl
  have dw2 := Xw_10.out.cell (j := 2) rfl
  have dg00 := Xg0_10.out.cell (j := 0) rfl
  have dg01 := Xg0_10.out.cell (j := 1) rfl
  have dg02 := Xg0_10.out.cell (j := 2) rfl
  go_wp2_with fail
  clear dg0 dg1 dg2 dg3 dw0 dw1 dw2 dg00 dg01 dg02
  refine (implNew_any Tg Pg Ig Qg _).mono ?_
  rw [HR.out]
  rintro e w9 ⟨vs, rfl, ho, hb⟩
  have Xg_11 := Lib.hid (Xg_10.out.later hb)
  have Xw_11 := Lib.hid (Xw_10.out.later hb)
  have Xg0_11 := Lib.hid (Xg0_10.out.later hb)
  have Ow_11 := Lib.hid (Ow_10.out.later hb)
  have Og0_11 := Lib.hid (Og0_10.out.later hb)
  have BW_11 : Hid (Below w.heap.size w w9) := Lib.hid (BW_10.out.trans (hb.mono BW_10.out.size))
  have SZ_w9 : Hid (w8.heap.size ≤ w9.heap.size) := Lib.hid hb.size
  clear hb Xg_10 Xw_10 Xg0_10 Ow_10 Og0_10 BW_10
  obtain ⟨a1_h0, c1_h0, a2_h0, c2_h0, rfl, _, _⟩ := cPart_form ho.rd
  have Oh0_11x := Lib.hid ho
  clear ho
  have hba := below_bk w9 (.cells #[.int .i64 r.ser, .slice a1_h0 r.st.length c1_h0, .slice a2_h0 r.ino.length c2_h0] 27)
  have Xg_12 := Lib.hid (Xg_11.out.later hba)
  have Xw_12 := Lib.hid (Xw_11.out.later hba)
  have Xg0_12 := Lib.hid (Xg0_11.out.later hba)
  have Ow_12 := Lib.hid (Ow_11.out.later hba)
  have Og0_12 := Lib.hid (Og0_11.out.later hba)
  have Oh0_12 := Lib.hid (Oh0_11x.out.later hba)
  have BW_12 : Hid (Below w.heap.size w (w9.alloc (.cells #[.int .i64 r.ser, .slice a1_h0 r.st.length c1_h0, .slice a2_h0 r.ino.length c2_h0] 27))) := Lib.hid (BW_11.out.trans (hba.mono BW_11.out.size))
  have Xh0_12 := Lib.hid (Bk.alloc w9 #[.int .i64 r.ser, .slice a1_h0 r.st.length c1_h0, .slice a2_h0 r.ino.length c2_h0] 27)
  clear hba Xg_11 Xw_11 Xg0_11 Ow_11 Og0_11 Oh0_11x BW_11
  have dg0 := Xg_12.out.cell (j := 0) rfl
  have dg1 := Xg_12.out.cell (j := 1) rfl
  have dg2 := Xg_12.out.cell (j := 2) rfl
  have dg3 := Xg_12.out.cell (j := 3) rfl
  have dw0 := Xw_12.out.cell (j := 0) rfl
  have dw1 := Xw_12.out.cell (j := 1) rfl
  have dw2 := Xw_12.out.cell (j := 2) rfl
  have dg00 := Xg0_12.out.cell (j := 0) rfl
  have dg01 := Xg0_12.out.cell (j := 1) rfl
  have dg02 := Xg0_12.out.cell (j := 2) rfl
  have dh00 := Xh0_12.out.cell (j := 0) rfl
  have dh01 := Xh0_12.out.cell (j := 1) rfl
  have dh02 := Xh0_12.out.cell (j := 2) rfl
  go_wp2_with fail
  obtain ⟨V9, hV⟩ : ∃ y, y = (w9.alloc (.cells #[.int .i64 r.ser, .slice a1_h0 r.st.length c1_h0, .slice a2_h0 r.ino.length c2_h0] 27)) := ⟨_, rfl⟩
  clear dg0 dg1 dg2 dg3 dw0 dw1 dw2 dg00 dg01 dg02 dh00 dh01 dh02
  rw [← hV] at Xg_12 Xw_12 Xg0_12 Xh0_12 Ow_12 Og0_12 Oh0_12 BW_12 ⊢
  have SZ_V9 : Hid (w9.heap.size + 1 ≤ V9.heap.size) := Lib.hid (by rw [hV]; simp)
  clear hV
  refine (eqPart_st r a1_h0 c1_h0 a2_h0 c2_h0 a1_w c1_w a2_w c2_w _ (cPart_un Oh0_12.out.rd).1 (cPart_un Oh0_12.out.rd).2 (cPart_un Ow_12.out.rd).1 (cPart_un Ow_12.out.rd).2 HRZ.out).mono ?_
  rintro e w10 ⟨rfl, hb⟩
  have Xg_13 := Lib.hid (Xg_12.out.later hb)
  have Xw_13 := Lib.hid (Xw_12.out.later hb)
  have Xg0_13 := Lib.hid (Xg0_12.out.later hb)
  have Xh0_13 := Lib.hid (Xh0_12.out.later hb)
  have Ow_13 := Lib.hid (Ow_12.out.later hb)
  have Og0_13 := Lib.hid (Og0_12.out.later hb)
  have Oh0_13 := Lib.hid (Oh0_12.out.later hb)
  have BW_13 : Hid (Below w.heap.size w w10) := Lib.hid (BW_12.out.trans (hb.mono BW_12.out.size))
  have SZ_w10 : Hid (V9.heap.size ≤ w10.heap.size) := Lib.hid hb.size
  clear hb Xg_12 Xw_12 Xg0_12 Xh0_12 Ow_12 Og0_12 Oh0_12 BW_12
  have dg0 := Xg_13.out.cell (j := 0) rfl
  have dg1 := Xg_13.out.cell (j := 1) rfl
  have dg2 := Xg_13.out.cell (j := 2) rfl
  have dg3 := Xg_13.out.cell (j := 3) rfl
  have dw0 := Xw_13.out.cell (j := 0) rfl
  have dw1 := Xw_13.out.cell (j := 1) rfl
  have dw2 := Xw_13.out.cell (j := 2) rfl
  have dg00 := Xg0_13.out.cell (j := 0) rfl
  have dg01 := Xg0_13.out.cell (j := 1) rfl
  have dg02 := Xg0_13.out.cell (j := 2) rfl
  have dh00 := Xh0_13.out.cell (j := 0) rfl
  have dh01 := Xh0_13.out.cell (j := 1) rfl
  have dh02 := Xh0_13.out.cell (j := 2) rfl
  go_wp2_with fail
  clear dg0 dg1 dg2 dg3 dw0 dw1 dw2 dg00 dg01 dg02 dh00 dh01 dh02
  refine (heldPart_st r a1_g0 c1_g0 a2_g0 c2_g0 1 _ _ (by rfl) (by decide) (by rw [← cPart_top]; exact HRC.out) HRZ.out Og0_13.out.rd).mono ?_
  rintro e w11 ⟨he, hb⟩
  rw [← cPart_top, HC_m.out] at he
  subst he
  have Xg_14 := Lib.hid (Xg_13.out.later hb)
  have Xw_14 := Lib.hid (Xw_13.out.later hb)
  have Xg0_14 := Lib.hid (Xg0_13.out.later hb)
  have Xh0_14 := Lib.hid (Xh0_13.out.later hb)
  have Ow_14 := Lib.hid (Ow_13.out.later hb)
  have Og0_14 := Lib.hid (Og0_13.out.later hb)
  have Oh0_14 := Lib.hid (Oh0_13.out.later hb)
  have BW_14 : Hid (Below w.heap.size w w11) := Lib.hid (BW_13.out.trans (hb.mono BW_13.out.size))
  have SZ_w11 : Hid (w10.heap.size ≤ w11.heap.size) := Lib.hid hb.size
  clear hb Xg_13 Xw_13 Xg0_13 Xh0_13 Ow_13 Og0_13 Oh0_13 BW_13
  go_wp2
  go_ret
  exact ⟨rfl, BW_14.out⟩
end Go.Proofs.Ytmcelfiljnlmoaa
namespace Go.Proofs.Ytmcelfiljnlmoaa
open Go.RowKit Go.Proofs.Ytmcelfiljnlmoaa.Parts Go.Proofs.Ytmcelfiljnlmoaa.Hexa

set_option maxRecDepth 100000 in
set_option maxHeartbeats 1000000 in
theorem szIntS_any (v : Value) (L : List Int) (l0 : Int) (w : World) (hl0 : 0 ≤ l0) (hl1 : l0 ≤ 1048576) (hs : (celRow cInt L).Rd w v) (ht : (celRow cInt L).Ty) :
    Calls Try.prog 56 #[v, .int .i64 l0] w (SzPost ((celRow cInt L).sz) l0 w) := by
  obtain ⟨a, n, c, rfl, hn⟩ := row_form hs
  have hn0 : n ≤ 9223372036854775807 := by rw [← hn]; exact ht.1
  have hz : (celRow cInt L).sz = n := by
    have h1 : ∀ M : List Int, szL (celsE cInt M) = 0 := by
      intro M
      induction M with
      | nil => rfl
      | cons x r ih => rw [celsE, szL_append, ih]; rfl
    show L.length + szL (celsE cInt L) = n
    have := h1 L
    omega
  clear hs ht hn
  by_cases hlt0 : l0 - (n : Int) < 0
  · go_enter Try.func56, Try.ntmps56
    go_wp2
    go_ret
    exact ⟨-1, rfl, .inl (by omega), Below.refl _ _⟩
  · go_enter Try.func56, Try.ntmps56
    go_wp2
    go_ret
    refine ⟨_, rfl, .inr ⟨by omega, ?_⟩, Below.refl _ _⟩
    first | omega | (rw [hz]; omega)
end Go.Proofs.Ytmcelfiljnlmoaa
namespace Go.Proofs.Ytmcelfiljnlmoaa
open Go.RowKit Go.Proofs.Ytmcelfiljnlmoaa.Parts Go.Proofs.Ytmcelfiljnlmoaa.Hexa

set_option maxRecDepth 100000 in
set_option maxHeartbeats 1000000 in
theorem szRec_st (x : RecR) (l : Int) (w : World) (l0 : 0 ≤ l) (l1 : l ≤ 1048576) (ht : TyL (cRec.cels x)) :
    Calls Try.prog 121 #[.agg #[.int .i64 x.f0, .int .i64 x.f1, .string x.f2], .int .i64 l] w (SzPost (szL (cRec.cels x)) l w) := by
  have hz := cRec_sz x
  obtain ⟨t0, t1, t2, _⟩ := ht
  have k2 : x.f2.size ≤ 9223372036854775807 := Nat.le_trans t2 (by decide)
  clear t0 t1 t2
  have B0 := Lib.hid (below_bk w (.cells #[.int .i64 x.f0, .int .i64 x.f1, .string x.f2] 131))
  have T0 := Lib.hid (Bk.alloc w #[.int .i64 x.f0, .int .i64 x.f1, .string x.f2] 131)
  by_cases b2 : l - (x.f2.size : Int) < 0
  · go_enter Try.func121, Try.ntmps121
    go_wp2
    go_ret
    exact ⟨-1, rfl, .inl (by omega), B0.out⟩
  go_enter Try.func121, Try.ntmps121
  go_wp2
  go_ret
  refine ⟨_, rfl, .inr ⟨by omega, ?_⟩, B0.out⟩
  first | omega | (rw [hz]; omega)

end Go.Proofs.Ytmcelfiljnlmoaa
namespace Go.Proofs.Ytmcelfiljnlmoaa
open Go.RowKit Go.Proofs.Ytmcelfiljnlmoaa.Parts Go.Proofs.Ytmcelfiljnlmoaa.Hexa

set_option maxRecDepth 100000 in
set_option maxHeartbeats 1000000 in
theorem szRecS_any (v : Value) (L : List RecR) (l0 : Int) (w : World) (hl0 : 0 ≤ l0) (hl1 : l0 ≤ 1048576) (hs : (celRow cRec L).Rd w v) (ht : (celRow cRec L).Ty) :
    Calls Try.prog 108 #[v, .int .i64 l0] w (SzPost ((celRow cRec L).sz) l0 w) := by
  obtain ⟨a, n, c, rfl, hn⟩ := row_form hs
  have HS := Lib.hid hs
  have HT : Hid (TyL (celsE cRec L)) := Lib.hid ht.2
  have hn0 : n ≤ 9223372036854775807 := by rw [← hn]; exact ht.1
  have HZ : Hid ((celRow cRec L).sz = n + szL (celsE cRec L)) := Lib.hid (by rw [← hn]; rfl)
  have HN := Lib.hid hn
  clear hs ht hn
  by_cases hlt0 : l0 - (n : Int) < 0
  · go_enter Try.func108, Try.ntmps108
    go_wp2
    go_ret
    exact ⟨-1, rfl, .inl (by omega), Below.refl _ _⟩
  · go_enter Try.func108, Try.ntmps108
    go_wp2
    go_loopw [1, 5] (fun lv iv wr => ∃ (k : Nat) (l : Int), k ≤ n ∧ iv = .int .i64 k ∧ lv = .int .i64 l ∧ 0 ≤ l ∧ l ≤ l0 ∧ Hid (l + (n : Int) + (szL (celsE cRec (L.take k)) : Int) = l0) ∧ Below w.heap.size w wr) (fun _ iv _ => n - (intOf iv).toNat)
    case atStart => exact ⟨0, _, Nat.zero_le _, rfl, rfl, by omega, by omega, Lib.hid (by simp only [List.take_zero, celsE, szL]; omega), Below.refl _ _⟩
    case round =>
      obtain ⟨k, l, hk, rfl, rfl, h0, hl, HA, hbel⟩ := hrel
      by_cases hlt : k < n
      · have HX := Lib.hid (TyL_at cRec L k HT.out (by rw [HN.out]; exact hlt))
        have HQ := Lib.hid (szL_next cRec (L := L) (j := k) (by rw [HN.out]; exact hlt))
        obtain ⟨g, off, rfl, hg, d0, d1, d2⟩ := cRec_at (Cel.Rd.later hbel _ _ HS.out) k hlt
        obtain ⟨x, hx⟩ : ∃ x, L.getD k default = x := ⟨_, rfl⟩
        rw [hx] at d0 d1 d2  HX HQ
        clear hx
        go_wp2_with fail
        refine (szRec_st x l _ h0 (by omega) HX.out).mono ?_
        rintro e w1 ⟨r, rfl, hr, hb1⟩
        have hb2 : Below w.heap.size w w1 := hbel.trans (hb1.mono hbel.size)
        clear d0 d1 d2  hb1
        rcases hr with h1 | ⟨h1, h2⟩
        · go_wp2
          go_ret
          exact ⟨-1, rfl, .inl (by omega), hb2⟩
        · have HA2 : Hid (r + (n : Int) + (szL (celsE cRec (L.take (k + 1))) : Int) = l0) := Lib.hid (by have h3 := HQ.out; have h4 := HA.out; omega)
          have hr2 : r ≤ l0 := by omega
          clear HA HQ h2
          go_wp2
          go_roundw
          case rel => exact ⟨k + 1, r, by omega, by go_num, rfl, h1, hr2, HA2, hb2⟩
          case measure => (simp [intOf]; try omega)
      · obtain rfl : k = n := by omega
        go_wp2
        go_ret
        refine ⟨l, rfl, .inr ⟨h0, ?_⟩, hbel⟩
        have h9 := HA.out
        rw [List.take_of_length_le (by rw [HN.out]; omega)] at h9
        rw [HZ.out]
        omega

end Go.Proofs.Ytmcelfiljnlmoaa
namespace Go.Proofs.Ytmcelfiljnlmoaa
open Go.RowKit Go.Proofs.Ytmcelfiljnlmoaa.Parts Go.Proofs.Ytmcelfiljnlmoaa.Hexa

set_option maxRecDepth 100000 in
set_option maxHeartbeats 1000000 in
theorem szEntry_st (x : EntryR) (l : Int) (w : World) (l0 : 0 ≤ l) (l1 : l ≤ 1048576) (ht : TyL (cEntry.cels x)) :
    Calls Try.prog 122 #[.agg #[.int .i64 x.f0, .string x.f1], .int .i64 l] w (SzPost (szL (cEntry.cels x)) l w) := by
  have hz := cEntry_sz x
  obtain ⟨t0, t1, _⟩ := ht
  have k1 : x.f1.size ≤ 9223372036854775807 := Nat.le_trans t1 (by decide)
  clear t0 t1
  have B0 := Lib.hid (below_bk w (.cells #[.int .i64 x.f0, .string x.f1] 133))
  have T0 := Lib.hid (Bk.alloc w #[.int .i64 x.f0, .string x.f1] 133)
  by_cases b1 : l - (x.f1.size : Int) < 0
  · go_enter Try.func122, Try.ntmps122
    go_wp2
    go_ret
    exact ⟨-1, rfl, .inl (by omega), B0.out⟩
  go_enter Try.func122, Try.ntmps122
  go_wp2
  go_ret
  refine ⟨_, rfl, .inr ⟨by omega, ?_⟩, B0.out⟩
  first | omega | (rw [hz]; omega)

end Go.Proofs.Ytmcelfiljnlmoaa
namespace Go.Proofs.Ytmcelfiljnlmoaa
open Go.RowKit Go.Proofs.Ytmcelfiljnlmoaa.Parts Go.Proofs.Ytmcelfiljnlmoaa.Hexa

set_option maxRecDepth 100000 in
set_option maxHeartbeats 1000000 in
theorem szEntryS_any (v : Value) (L : List EntryR) (l0 : Int) (w : World) (hl0 : 0 ≤ l0) (hl1 : l0 ≤ 1048576) (hs : (celRow cEntry L).Rd w v) (ht : (celRow cEntry L).Ty) :
    Calls Try.prog 109 #[v, .int .i64 l0] w (SzPost ((celRow cEntry L).sz) l0 w) := by
  obtain ⟨a, n, c, rfl, hn⟩ := row_form hs
  have HS := Lib.hid hs
  have HT : Hid (TyL (celsE cEntry L)) := Lib.hid ht.2
  have hn0 : n ≤ 9223372036854775807 := by rw [← hn]; exact ht.1
  have HZ : Hid ((celRow cEntry L).sz = n + szL (celsE cEntry L)) := Lib.hid (by rw [← hn]; rfl)
  have HN := Lib.hid hn
  clear hs ht hn
  by_cases hlt0 : l0 - (n : Int) < 0
  · go_enter Try.func109, Try.ntmps109
    go_wp2
    go_ret
    exact ⟨-1, rfl, .inl (by omega), Below.refl _ _⟩
  · go_enter Try.func109, Try.ntmps109
    go_wp2
    go_loopw [1, 5] (fun lv iv wr => ∃ (k : Nat) (l : Int), k ≤ n ∧ iv = .int .i64 k ∧ lv = .int .i64 l ∧ 0 ≤ l ∧ l ≤ l0 ∧ Hid (l + (n : Int) + (szL (celsE cEntry (L.take k)) : Int) = l0) ∧ Below w.heap.size w wr) (fun _ iv _ => n - (intOf iv).toNat)
    case atStart => exact ⟨0, _, Nat.zero_le _, rfl, rfl, by omega, by omega, Lib.hid (by simp only [List.take_zero, celsE, szL]; omega), Below.refl _ _⟩
    case round =>
      obtain ⟨k, l, hk, rfl, rfl, h0, hl, HA, hbel⟩ := hrel
      by_cases hlt : k < n
      · have HX := Lib.hid (TyL_at cEntry L k HT.out (by rw [HN.out]; exact hlt))
        have HQ := Lib.hid (szL_next cEntry (L := L) (j := k) (by rw [HN.out]; exact hlt))
        obtain ⟨g, off, rfl, hg, d0, d1⟩ := cEntry_at (Cel.Rd.later hbel _ _ HS.out) k hlt
        obtain ⟨x, hx⟩ : ∃ x, L.getD k default = x := ⟨_, rfl⟩
        rw [hx] at d0 d1  HX HQ
        clear hx
        go_wp2_with fail
        refine (szEntry_st x l _ h0 (by omega) HX.out).mono ?_
        rintro e w1 ⟨r, rfl, hr, hb1⟩
        have hb2 : Below w.heap.size w w1 := hbel.trans (hb1.mono hbel.size)
        clear d0 d1  hb1
        rcases hr with h1 | ⟨h1, h2⟩
        · go_wp2
          go_ret
          exact ⟨-1, rfl, .inl (by omega), hb2⟩
        · have HA2 : Hid (r + (n : Int) + (szL (celsE cEntry (L.take (k + 1))) : Int) = l0) := Lib.hid (by have h3 := HQ.out; have h4 := HA.out; omega)
          have hr2 : r ≤ l0 := by omega
          clear HA HQ h2
          go_wp2
          go_roundw
          case rel => exact ⟨k + 1, r, by omega, by go_num, rfl, h1, hr2, HA2, hb2⟩
          case measure => (simp [intOf]; try omega)
      · obtain rfl : k = n := by omega
        go_wp2
        go_ret
        refine ⟨l, rfl, .inr ⟨h0, ?_⟩, hbel⟩
        have h9 := HA.out
        rw [List.take_of_length_le (by rw [HN.out]; omega)] at h9
        rw [HZ.out]
        omega

end Go.Proofs.Ytmcelfiljnlmoaa
namespace Go.Proofs.Ytmcelfiljnlmoaa
open Go.RowKit Go.Proofs.Ytmcelfiljnlmoaa.Parts Go.Proofs.Ytmcelfiljnlmoaa.Hexa

set_option maxRecDepth 100000 in
set_option maxHeartbeats 1000000 in
theorem szIno_st (x : InoR) (a4 : Option Addr) (c4 : Nat) (a5 : Option Addr) (c5 : Nat) (l : Int) (w : World) (l0 : 0 ≤ l) (l1 : l ≤ 1048576) (h4 : (celRow cRec x.R).Rd w (.slice a4 x.R.length c4)) (h5 : (celRow cEntry x.E).Rd w (.slice a5 x.E.length c5)) (ht : TyL (cIno.cels x)) :
    Calls Try.prog 91 #[.agg #[.int .i64 x.kd, .int .i64 x.sz, .int .i64 x.gn, .string x.key, .slice a4 x.R.length c4, .slice a5 x.E.length c5], .int .i64 l] w (SzPost (szL (cIno.cels x)) l w) := by
  have hz := cIno_sz x
  obtain ⟨t0, t1, t2, t3, t4, t5, _⟩ := ht
  have k3 : x.key.size ≤ 9223372036854775807 := Nat.le_trans t3 (by decide)
  clear t0 t1 t2 t3
  have HS4 := Lib.hid h4
  have HT4 := Lib.hid t4
  have HS5 := Lib.hid h5
  have HT5 := Lib.hid t5
  clear h4 t4 h5 t5
  have B0 := Lib.hid (below_bk w (.cells #[.int .i64 x.kd, .int .i64 x.sz, .int .i64 x.gn, .string x.key, .slice a4 x.R.length c4, .slice a5 x.E.length c5] 95))
  have T0 := Lib.hid (Bk.alloc w #[.int .i64 x.kd, .int .i64 x.sz, .int .i64 x.gn, .string x.key, .slice a4 x.R.length c4, .slice a5 x.E.length c5] 95)
  by_cases b3 : l - (x.key.size : Int) < 0
  · go_enter Try.func91, Try.ntmps91
    go_wp2
    go_ret
    exact ⟨-1, rfl, .inl (by omega), B0.out⟩
  obtain ⟨m0, hm0⟩ : ∃ m : Int, l - (x.key.size : Int) = m := ⟨_, rfl⟩
  have g0 : 0 ≤ m0 := by omega
  have g1 : m0 ≤ 1048576 := by omega
  have HM0 := Lib.hid hm0
  clear b3 k3
  have HZ := Lib.hid hz
  clear hz
  go_enter Try.func91, Try.ntmps91
  go_wp2_with fail
  clear hm0
  refine (szRecS_any _ x.R m0 _ g0 g1 (Cel.Rd.later B0.out _ _ HS4.out) HT4.out).mono ?_
  rintro e w1 ⟨m1, rfl, hr, hb⟩
  have B1 : Hid (Below w.heap.size w w1) := Lib.hid (B0.out.trans (hb.mono B0.out.size))
  have T1 := Lib.hid (T0.out.later hb)
  have d5 := T1.out.cell (j := 5) rfl
  clear hb
  rcases hr with hr | ⟨p0, p1⟩
  · go_wp2
    go_ret
    exact ⟨-1, rfl, .inl (by omega), B1.out⟩
  have HM1 := Lib.hid p1
  have g10 := p0
  have g11 : m1 ≤ 1048576 := by omega
  have q1 : ¬ (m1 < 0) := by omega
  clear p0 p1
  go_wp2_with fail
  refine (szEntryS_any _ x.E m1 _ g10 g11 (Cel.Rd.later B1.out _ _ HS5.out) HT5.out).mono ?_
  rintro e w2 ⟨m2, rfl, hr, hb⟩
  have B2 : Hid (Below w.heap.size w w2) := Lib.hid (B1.out.trans (hb.mono B1.out.size))
  have T2 := Lib.hid (T1.out.later hb)
  clear hb
  rcases hr with hr | ⟨p0, p1⟩
  · go_wp2
    go_ret
    exact ⟨-1, rfl, .inl (by omega), B2.out⟩
  have HM2 := Lib.hid p1
  have g20 := p0
  have g21 : m2 ≤ 1048576 := by omega
  have q2 : ¬ (m2 < 0) := by omega
  clear p0 p1
  go_wp2
  go_ret
  exact ⟨m2, rfl, .inr ⟨g20, by have := HZ.out; have := HM0.out; have := HM1.out; have := HM2.out; omega⟩, B2.out⟩

end Go.Proofs.Ytmcelfiljnlmoaa
namespace Go.Proofs.Ytmcelfiljnlmoaa
open Go.RowKit Go.Proofs.Ytmcelfiljnlmoaa.Parts Go.Proofs.Ytmcelfiljnlmoaa.Hexa

set_option maxRecDepth 100000 in
set_option maxHeartbeats 1000000 in
theorem szInoS_any (v : Value) (L : List InoR) (l0 : Int) (w : World) (hl0 : 0 ≤ l0) (hl1 : l0 ≤ 1048576) (hs : (celRow cIno L).Rd w v) (ht : (celRow cIno L).Ty) :
    Calls Try.prog 57 #[v, .int .i64 l0] w (SzPost ((celRow cIno L).sz) l0 w) := by
  obtain ⟨a, n, c, rfl, hn⟩ := row_form hs
  have HS := Lib.hid hs
  have HT : Hid (TyL (celsE cIno L)) := Lib.hid ht.2
  have hn0 : n ≤ 9223372036854775807 := by rw [← hn]; exact ht.1
  have HZ : Hid ((celRow cIno L).sz = n + szL (celsE cIno L)) := Lib.hid (by rw [← hn]; rfl)
  have HN := Lib.hid hn
  clear hs ht hn
  by_cases hlt0 : l0 - (n : Int) < 0
  · go_enter Try.func57, Try.ntmps57
    go_wp2
    go_ret
    exact ⟨-1, rfl, .inl (by omega), Below.refl _ _⟩
  · go_enter Try.func57, Try.ntmps57
    go_wp2
    go_loopw [1, 5] (fun lv iv wr => ∃ (k : Nat) (l : Int), k ≤ n ∧ iv = .int .i64 k ∧ lv = .int .i64 l ∧ 0 ≤ l ∧ l ≤ l0 ∧ Hid (l + (n : Int) + (szL (celsE cIno (L.take k)) : Int) = l0) ∧ Below w.heap.size w wr) (fun _ iv _ => n - (intOf iv).toNat)
    case atStart => exact ⟨0, _, Nat.zero_le _, rfl, rfl, by omega, by omega, Lib.hid (by simp only [List.take_zero, celsE, szL]; omega), Below.refl _ _⟩
    case round =>
      obtain ⟨k, l, hk, rfl, rfl, h0, hl, HA, hbel⟩ := hrel
      by_cases hlt : k < n
      · have HX := Lib.hid (TyL_at cIno L k HT.out (by rw [HN.out]; exact hlt))
        have HQ := Lib.hid (szL_next cIno (L := L) (j := k) (by rw [HN.out]; exact hlt))
        obtain ⟨g, off, a4, c4, a5, c5, rfl, hg, d0, d1, d2, d3, d4, d5, r4, r5⟩ := cIno_at (Cel.Rd.later hbel _ _ HS.out) k hlt
        obtain ⟨x, hx⟩ : ∃ x, L.getD k default = x := ⟨_, rfl⟩
        rw [hx] at d0 d1 d2 d3 d4 d5 r4 r5 HX HQ
        clear hx
        go_wp2_with fail
        refine (szIno_st x a4 c4 a5 c5 l _ h0 (by omega) r4 r5 HX.out).mono ?_
        rintro e w1 ⟨r, rfl, hr, hb1⟩
        have hb2 : Below w.heap.size w w1 := hbel.trans (hb1.mono hbel.size)
        clear d0 d1 d2 d3 d4 d5 r4 r5 hb1
        rcases hr with h1 | ⟨h1, h2⟩
        · go_wp2
          go_ret
          exact ⟨-1, rfl, .inl (by omega), hb2⟩
        · have HA2 : Hid (r + (n : Int) + (szL (celsE cIno (L.take (k + 1))) : Int) = l0) := Lib.hid (by have h3 := HQ.out; have h4 := HA.out; omega)
          have hr2 : r ≤ l0 := by omega
          clear HA HQ h2
          go_wp2
          go_roundw
          case rel => exact ⟨k + 1, r, by omega, by go_num, rfl, h1, hr2, HA2, hb2⟩
          case measure => (simp [intOf]; try omega)
      · obtain rfl : k = n := by omega
        go_wp2
        go_ret
        refine ⟨l, rfl, .inr ⟨h0, ?_⟩, hbel⟩
        have h9 := HA.out
        rw [List.take_of_length_le (by rw [HN.out]; omega)] at h9
        rw [HZ.out]
        omega

end Go.Proofs.Ytmcelfiljnlmoaa
namespace Go.Proofs.Ytmcelfiljnlmoaa
open Go.RowKit Go.Proofs.Ytmcelfiljnlmoaa.Parts Go.Proofs.Ytmcelfiljnlmoaa.Hexa

set_option maxRecDepth 100000 in
set_option maxHeartbeats 1000000 in
theorem szPart_st (x : PartR) (a1 : Option Addr) (c1 : Nat) (a2 : Option Addr) (c2 : Nat) (l : Int) (w : World) (l0 : 0 ≤ l) (l1 : l ≤ 1048576) (h1 : (celRow cInt x.st).Rd w (.slice a1 x.st.length c1)) (h2 : (celRow cIno x.ino).Rd w (.slice a2 x.ino.length c2)) (ht : TyL (cPart.cels x)) :
    Calls Try.prog 21 #[.agg #[.int .i64 x.ser, .slice a1 x.st.length c1, .slice a2 x.ino.length c2], .int .i64 l] w (SzPost (szL (cPart.cels x)) l w) := by
  have hz := cPart_sz x
  obtain ⟨t0, t1, t2, _⟩ := ht
  clear t0
  have HS1 := Lib.hid h1
  have HT1 := Lib.hid t1
  have HS2 := Lib.hid h2
  have HT2 := Lib.hid t2
  clear h1 t1 h2 t2
  have B0 := Lib.hid (below_bk w (.cells #[.int .i64 x.ser, .slice a1 x.st.length c1, .slice a2 x.ino.length c2] 36))
  have T0 := Lib.hid (Bk.alloc w #[.int .i64 x.ser, .slice a1 x.st.length c1, .slice a2 x.ino.length c2] 36)
  obtain ⟨m0, hm0⟩ : ∃ m : Int, l = m := ⟨_, rfl⟩
  subst hm0
  have hm0 : l = l := rfl
  have g0 := l0
  have g1 := l1
  have HM0 : Hid (l = l) := Lib.hid hm0
  have HZ := Lib.hid hz
  clear hz
  go_enter Try.func21, Try.ntmps21
  go_wp2_with fail
  refine (szIntS_any _ x.st l _ g0 g1 (Cel.Rd.later B0.out _ _ HS1.out) HT1.out).mono ?_
  rintro e w1 ⟨m1, rfl, hr, hb⟩
  have B1 : Hid (Below w.heap.size w w1) := Lib.hid (B0.out.trans (hb.mono B0.out.size))
  have T1 := Lib.hid (T0.out.later hb)
  have d2 := T1.out.cell (j := 2) rfl
  clear hb
  rcases hr with hr | ⟨p0, p1⟩
  · go_wp2
    go_ret
    exact ⟨-1, rfl, .inl (by omega), B1.out⟩
  have HM1 := Lib.hid p1
  have g10 := p0
  have g11 : m1 ≤ 1048576 := by omega
  have q1 : ¬ (m1 < 0) := by omega
  clear p0 p1
  go_wp2_with fail
  refine (szInoS_any _ x.ino m1 _ g10 g11 (Cel.Rd.later B1.out _ _ HS2.out) HT2.out).mono ?_
  rintro e w2 ⟨m2, rfl, hr, hb⟩
  have B2 : Hid (Below w.heap.size w w2) := Lib.hid (B1.out.trans (hb.mono B1.out.size))
  have T2 := Lib.hid (T1.out.later hb)
  clear hb
  rcases hr with hr | ⟨p0, p1⟩
  · go_wp2
    go_ret
    exact ⟨-1, rfl, .inl (by omega), B2.out⟩
  have HM2 := Lib.hid p1
  have g20 := p0
  have g21 : m2 ≤ 1048576 := by omega
  have q2 : ¬ (m2 < 0) := by omega
  clear p0 p1
  go_wp2
  go_ret
  exact ⟨m2, rfl, .inr ⟨g20, by have := HZ.out; have := HM0.out; have := HM1.out; have := HM2.out; omega⟩, B2.out⟩

end Go.Proofs.Ytmcelfiljnlmoaa
namespace Go.Proofs.Ytmcelfiljnlmoaa
open Go.RowKit Go.Proofs.Ytmcelfiljnlmoaa.Parts Go.Proofs.Ytmcelfiljnlmoaa.Hexa

set_option maxRecDepth 100000 in
set_option maxHeartbeats 1000000 in
theorem toRec_st (x : RecR) (w : World) (_ : szL (cRec.cels x) ≤ 1048576) :
    Calls Try.prog 123 #[.agg #[.int .i64 x.f0, .int .i64 x.f1, .string x.f2]] w (ToPostS (cRec.cels x) w) := by
  go_enter Try.func123, Try.ntmps123
  go_wp2
  refine bodyPost_ret (v := .agg #[.int .i64 x.f0, .int .i64 x.f1, .string x.f2]) ?_ rfl ⟨_, rfl, (((Objs.nil _ _ _).val _).val _).val _, (((Below.refl _ _).alloc (Nat.le_refl _) _).alloc (by simp) _).alloc (by simp; omega) _⟩
  simp [results, Try.results123, go_sem]

end Go.Proofs.Ytmcelfiljnlmoaa
namespace Go.Proofs.Ytmcelfiljnlmoaa
open Go.RowKit Go.Proofs.Ytmcelfiljnlmoaa.Parts Go.Proofs.Ytmcelfiljnlmoaa.Hexa

set_option maxRecDepth 100000 in
set_option maxHeartbeats 1000000 in
theorem toRecS_any (v : Value) (L : List RecR) (w : World) (hs : (celRow cRec L).Rd w v) (hz : (celRow cRec L).sz ≤ 1048576) :
    Calls Try.prog 110 #[v] w (ToPost (celRow cRec L) w) := by
  obtain ⟨i0, hi, hz0, hz1, hz2⟩ := info_parts infoRecD
  obtain ⟨a, n, c, rfl, hn⟩ := row_form hs
  have HS := Lib.hid hs
  have hz' : n + szL (celsE cRec L) ≤ 1048576 := by rw [← hn]; exact hz
  have hn1 : n ≤ 1048576 := by omega
  have HZ : Hid (szL (celsE cRec L) ≤ 1048576) := Lib.hid (by omega)
  have HN := Lib.hid hn
  clear hs hz hz' hn
  go_enter Try.func110, Try.ntmps110
  go_wp2_with (at_make; refine wpList_make_full _ rfl _ _ 56 rfl w.heap.size 71 i0 _ 3 Try.underlying56 hi hz0 hz1 .i64 .i64 _ _ n rfl rfl rfl rfl (by rw [hz2]; omega) (by unfold maxLen; omega) (Nat.le_refl _) ?_; intro w0 hown0 hgrow0)
  have hg0 : Below w.heap.size w w0 := (Below.refl _ _).grown hgrow0 (Nat.le_refl _) (fun k h => by cases h)
  have HO0 : Hid (Part2 cRec L w0 w.heap.size n 0) := Lib.hid (Part2.start hown0)
  clear hown0 hgrow0
  go_loopw [4] (fun iv wr => ∃ (k : Nat), k ≤ n ∧ iv = .int .i64 k ∧ Hid (Part2 cRec L wr w.heap.size n k) ∧ Below w.heap.size w wr)
    (fun iv _ => n - (intOf iv).toNat)
  case atStart => exact ⟨0, Nat.zero_le _, rfl, HO0, hg0⟩
  case round =>
    clear HO0 hg0
    obtain ⟨k, hk, rfl, HW, hbel⟩ := hrel
    by_cases hlt : k < n
    · have HX : Hid (szL (cRec.cels (L.getD k default)) ≤ 1048576) := Lib.hid (Nat.le_trans (szL_at cRec L k (by rw [HN.out]; exact hlt)) HZ.out)
      obtain ⟨g, off, rfl, hg, d0, d1, d2⟩ := cRec_at (Cel.Rd.later hbel _ _ HS.out) k hlt
      have HV : Hid (∀ (w1 : World) (hi : Nat) (vs : List Value), Below wr.heap.size wr w1 → Objs w1 wr.heap.size hi (cRec.cels (L.getD k default)) vs → Part2 cRec L (w1.setCells w.heap.size (k * 3) vs) w.heap.size n (k + 1)) :=
        Lib.hid (fun w1 hi vs hb ho => HW.out.next HN.out hlt hb ho)
      obtain ⟨x, hx⟩ : ∃ x, L.getD k default = x := ⟨_, rfl⟩
      rw [hx] at d0 d1 d2  HX HV
      clear hx
      go_wp2_with fail
      refine (toRec_st x _ HX.out).mono ?_
      rintro e w1 ⟨vs, rfl, ho, hb1⟩
      have hbx : Below w.heap.size w w1 := hbel.trans (hb1.mono hbel.size)
      have O1 := Lib.hid (HV.out w1 _ vs hb1 ho)
      obtain rfl := cRec_form ho.rd
      obtain ⟨xs, G, hrow, _, _, _⟩ := (HW.out.later hb1).ex
      have HW1 := Lib.hid hrow
      clear hrow
      obtain ⟨v0, e0⟩ := ownE_cell HW1.out (j := k * 3) (by show k * 3 < n * 3; omega)
      obtain ⟨v1, e1⟩ := ownE_cell HW1.out (j := k * 3 + 1) (by show k * 3 + 1 < n * 3; omega)
      obtain ⟨v2, e2⟩ := ownE_cell HW1.out (j := k * 3 + 2) (by show k * 3 + 2 < n * 3; omega)
      have z0 := HW1.out.frozenAt (k * 3)
      have z1 := HW1.out.frozenAt (k * 3 + 1)
      have z2 := HW1.out.frozenAt (k * 3 + 2)
      have hb2 := Lib.hid (below_sets (Nat.le_refl w.heap.size) [.int .i64 x.f0, .int .i64 x.f1, .string x.f2] (k * 3) hbx)
      clear d0 d1 d2  hb1 hbx ho HW
      go_wp2
      go_roundw
      case rel => exact ⟨k + 1, by omega, by go_num, O1, hb2.out⟩
      case measure => (simp [intOf]; try omega)
    · obtain rfl : k = n := by omega
      have HO := Lib.hid (HW.out.done HN.out)
      go_wp2
      go_ret
      exact ⟨_, rfl, HO.out, hbel⟩

end Go.Proofs.Ytmcelfiljnlmoaa
namespace Go.Proofs.Ytmcelfiljnlmoaa
open Go.RowKit Go.Proofs.Ytmcelfiljnlmoaa.Parts Go.Proofs.Ytmcelfiljnlmoaa.Hexa

set_option maxRecDepth 100000 in
set_option maxHeartbeats 1000000 in
theorem toEntry_st (x : EntryR) (w : World) (_ : szL (cEntry.cels x) ≤ 1048576) :
    Calls Try.prog 124 #[.agg #[.int .i64 x.f0, .string x.f1]] w (ToPostS (cEntry.cels x) w) := by
  go_enter Try.func124, Try.ntmps124
  go_wp2
  refine bodyPost_ret (v := .agg #[.int .i64 x.f0, .string x.f1]) ?_ rfl ⟨_, rfl, ((Objs.nil _ _ _).val _).val _, (((Below.refl _ _).alloc (Nat.le_refl _) _).alloc (by simp) _).alloc (by simp; omega) _⟩
  simp [results, Try.results124, go_sem]

end Go.Proofs.Ytmcelfiljnlmoaa
namespace Go.Proofs.Ytmcelfiljnlmoaa
open Go.RowKit Go.Proofs.Ytmcelfiljnlmoaa.Parts Go.Proofs.Ytmcelfiljnlmoaa.Hexa

set_option maxRecDepth 100000 in
set_option maxHeartbeats 1000000 in
theorem toEntryS_any (v : Value) (L : List EntryR) (w : World) (hs : (celRow cEntry L).Rd w v) (hz : (celRow cEntry L).sz ≤ 1048576) :
    Calls Try.prog 111 #[v] w (ToPost (celRow cEntry L) w) := by
  obtain ⟨i0, hi, hz0, hz1, hz2⟩ := info_parts infoEntryD
  obtain ⟨a, n, c, rfl, hn⟩ := row_form hs
  have HS := Lib.hid hs
  have hz' : n + szL (celsE cEntry L) ≤ 1048576 := by rw [← hn]; exact hz
  have hn1 : n ≤ 1048576 := by omega
  have HZ : Hid (szL (celsE cEntry L) ≤ 1048576) := Lib.hid (by omega)
  have HN := Lib.hid hn
  clear hs hz hz' hn
  go_enter Try.func111, Try.ntmps111
  go_wp2_with (at_make; refine wpList_make_full _ rfl _ _ 57 rfl w.heap.size 66 i0 _ 2 Try.underlying57 hi hz0 hz1 .i64 .i64 _ _ n rfl rfl rfl rfl (by rw [hz2]; omega) (by unfold maxLen; omega) (Nat.le_refl _) ?_; intro w0 hown0 hgrow0)
  have hg0 : Below w.heap.size w w0 := (Below.refl _ _).grown hgrow0 (Nat.le_refl _) (fun k h => by cases h)
  have HO0 : Hid (Part2 cEntry L w0 w.heap.size n 0) := Lib.hid (Part2.start hown0)
  clear hown0 hgrow0
  go_loopw [4] (fun iv wr => ∃ (k : Nat), k ≤ n ∧ iv = .int .i64 k ∧ Hid (Part2 cEntry L wr w.heap.size n k) ∧ Below w.heap.size w wr)
    (fun iv _ => n - (intOf iv).toNat)
  case atStart => exact ⟨0, Nat.zero_le _, rfl, HO0, hg0⟩
  case round =>
    clear HO0 hg0
    obtain ⟨k, hk, rfl, HW, hbel⟩ := hrel
    by_cases hlt : k < n
    · have HX : Hid (szL (cEntry.cels (L.getD k default)) ≤ 1048576) := Lib.hid (Nat.le_trans (szL_at cEntry L k (by rw [HN.out]; exact hlt)) HZ.out)
      obtain ⟨g, off, rfl, hg, d0, d1⟩ := cEntry_at (Cel.Rd.later hbel _ _ HS.out) k hlt
      have HV : Hid (∀ (w1 : World) (hi : Nat) (vs : List Value), Below wr.heap.size wr w1 → Objs w1 wr.heap.size hi (cEntry.cels (L.getD k default)) vs → Part2 cEntry L (w1.setCells w.heap.size (k * 2) vs) w.heap.size n (k + 1)) :=
        Lib.hid (fun w1 hi vs hb ho => HW.out.next HN.out hlt hb ho)
      obtain ⟨x, hx⟩ : ∃ x, L.getD k default = x := ⟨_, rfl⟩
      rw [hx] at d0 d1  HX HV
      clear hx
      go_wp2_with fail
      refine (toEntry_st x _ HX.out).mono ?_
      rintro e w1 ⟨vs, rfl, ho, hb1⟩
      have hbx : Below w.heap.size w w1 := hbel.trans (hb1.mono hbel.size)
      have O1 := Lib.hid (HV.out w1 _ vs hb1 ho)
      obtain rfl := cEntry_form ho.rd
      obtain ⟨xs, G, hrow, _, _, _⟩ := (HW.out.later hb1).ex
      have HW1 := Lib.hid hrow
      clear hrow
      obtain ⟨v0, e0⟩ := ownE_cell HW1.out (j := k * 2) (by show k * 2 < n * 2; omega)
      obtain ⟨v1, e1⟩ := ownE_cell HW1.out (j := k * 2 + 1) (by show k * 2 + 1 < n * 2; omega)
      have z0 := HW1.out.frozenAt (k * 2)
      have z1 := HW1.out.frozenAt (k * 2 + 1)
      have hb2 := Lib.hid (below_sets (Nat.le_refl w.heap.size) [.int .i64 x.f0, .string x.f1] (k * 2) hbx)
      clear d0 d1  hb1 hbx ho HW
      go_wp2
      go_roundw
      case rel => exact ⟨k + 1, by omega, by go_num, O1, hb2.out⟩
      case measure => (simp [intOf]; try omega)
    · obtain rfl : k = n := by omega
      have HO := Lib.hid (HW.out.done HN.out)
      go_wp2
      go_ret
      exact ⟨_, rfl, HO.out, hbel⟩

end Go.Proofs.Ytmcelfiljnlmoaa
