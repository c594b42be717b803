/- Merged texts: TIntMS, TRecMS, TEntryMS, TInoMS, TPartM, PwObj, ToGeo, TIntZS, TRecZ, TRecZS, TEntryZ, TEntryZS, TInoZ, TInoZS, TPartZ, ToInts, TIntCS, TRecC, TRecCS, TEntryC, TEntryCS, TInoC, TInoCS. -/
import Derived.Test.YtmkchilhnmkhkabGreatP15ZG
namespace Go.Proofs.YtmkchilhnmkhkabGreat
open Go.RowKit Go.Proofs.YtmkchilhnmkhkabGreat.Parts Go.Proofs.YtmkchilhnmkhkabGreat.Hexa

set_option maxRecDepth 100000 in
set_option maxHeartbeats 1000000 in
theorem markIntS_any (v : Value) (L : List Int) (F : List Nat) (k : Nat) (kz : Int) (w : World) (hkz : kz = (k : Int)) (h0 : 0 < k) (hk : k + (celRow cInt L).cnt ≤ 100000000) (hz : (celRow cInt L).sz ≤ 100000000) (hF : F.Nodup) (ho : (celRow cInt L).Own w F v) :
    Calls Tryz.prog 34 #[v, .int .i64 kz] w (MarkPost (celRow cInt L) F v k w) := by
  subst hkz
  obtain ⟨a, n, c, rfl, hn⟩ := row_form (Cel.Own.rd _ _ _ ho)
  have HN := Lib.hid hn
  have hz' : n + szL (celsE cInt L) ≤ 100000000 := by rw [← hn]; exact hz
  have hn9 : n ≤ 100000000 := by omega
  have HZ : Hid (szL (celsE cInt L) ≤ 100000000) := Lib.hid (by omega)
  have HF := Lib.hid hF
  have HC : Hid ((celRow cInt L).cnt = cntL (celsE cInt L)) := Lib.hid rfl
  have hk' : k + cntL (celsE cInt L) ≤ 100000000 := hk
  have HL : Hid ((celsE cInt L).length = n * 1) := Lib.hid (by rw [celsE_length, hn]; rfl)
  have HO : Hid ((Cel.sl cInt.e 1 n (stM (celsE cInt L) k 0)).Own w F (.slice a n c)) := Lib.hid (by rw [stM_zero]; have h9 := ho; unfold celRow at h9; rw [hn] at h9; exact h9)
  clear hn hF ho hk hz hz'
  go_enter Tryz.func34, Tryz.ntmps34
  go_wp2
  go_loopw [1, 5] (fun kv iv wr => ∃ (j q : Nat), j ≤ n ∧ 0 < q ∧ q ≤ 100000000 ∧ Hid (q = k + cntL (celsE cInt (L.take j))) ∧ iv = .int .i64 j ∧ kv = .int .i64 q ∧ Hid ((Cel.sl cInt.e 1 n (stM (celsE cInt L) k (j * 1))).Own wr F (.slice a n c)) ∧ Hid (OutF F w wr)) (fun _ iv _ => n - (intOf iv).toNat)
  case atStart => exact ⟨0, k, Nat.zero_le _, h0, by omega, Lib.hid (by simp only [List.take_zero, celsE, cntL]; rfl), rfl, rfl, by rw [Nat.zero_mul]; exact HO, Lib.hid (OutF.refl _ _)⟩
  case round =>
    clear HO
    obtain ⟨j, q, hj, hq0, hq9, HQ, rfl, rfl, HW, HU⟩ := hrel
    by_cases hlt : j < n
    · have hjL : j < L.length := by rw [HN.out]; exact hlt
      have HX := Lib.hid (cntL_next cInt hjL)
      have hm := cntL_take cInt L (j + 1)
      have HY := Lib.hid (Nat.le_trans (szL_at cInt L j hjL) HZ.out)
      have HG : Hid (∀ o, o < 1 → (celsE cInt L).getD (j * 1 + o) default = (cInt.cels (L.getD j default)).getD o default) := Lib.hid (fun o ho => celsE_getD cInt L j o hjL ho)
      have HA : Hid (∀ o, o ≤ 1 → atM (celsE cInt L) k (j * 1 + o) = q + cntL ((cInt.cels (L.getD j default)).take o)) := Lib.hid (fun o ho => by rw [HQ.out]; exact atM_in cInt hjL ho)
      obtain ⟨x, hx⟩ : ∃ x, L.getD j default = x := ⟨_, rfl⟩
      rw [hx] at HX HG HA HY
      have hm2 : q + cntL (cInt.cels x) ≤ 100000000 := by have := HQ.out; have := HX.out; omega
      have HM2 := Lib.hid hm2
      have hm3 : q + 1 ≤ 100000000 := by have : cntL (cInt.cels x) = (1 + 0) := rfl; omega
      clear hx hjL hm hm2
      rw [Nat.mul_one] at HW
      obtain ⟨g0, hg0, _, ⟨v0, e0⟩, z0, ho0, hu0⟩ := mark_val HW.out HF.out (i := j) (by omega) HL.out ((by have h9 := HG.out 0 (by decide); rw [Nat.mul_one, Nat.add_zero] at h9; exact h9))
      subst hg0
      have e9 : atM (celsE cInt L) k (j) = q + cntL ((cInt.cels x).take 0) := (by have h9 := HA.out 0 (by decide); rw [Nat.mul_one, Nat.add_zero] at h9; exact h9)
      have e8 : markV (.int .i64 x) (atM (celsE cInt L) k (j)) = (.int .i64 ((q : Int))) := by rw [e9]; show Value.int .i64 ((q + 0 : Nat) : Int) = _; rw [show ((q + 0 : Nat) : Int) = (q : Int) from by omega]
      rw [e8] at ho0 hu0
      clear e8 e9
      have W0 := Lib.hid ho0
      have U0 := Lib.hid (HU.out.trans hu0)
      clear ho0 hu0 HW HU
      go_wp2
      clear e0 z0
      have HR : Hid ((q + 1) = k + cntL (celsE cInt (L.take (j + 1)))) := Lib.hid (by have := HQ.out; have := HX.out; have : cntL (cInt.cels x) = (1 + 0) := rfl; omega)
      have hr9 : (q + 1) ≤ 100000000 := by have := HM2.out; have : cntL (cInt.cels x) = (1 + 0) := rfl; omega
      go_roundw
      case rel => exact ⟨j + 1, (q + 1), by omega, by omega, hr9, HR, by go_num, by go_num, by rw [Nat.mul_one]; exact W0, U0⟩
      case measure => (simp [intOf]; try omega)
    · obtain rfl : j = n := by omega
      have ho := HW.out
      rw [stM_all _ _ (by rw [HL.out]; omega)] at ho
      have HO := Lib.hid ho
      clear ho
      go_wp2
      go_ret
      refine ⟨ret_i64m (by have := HQ.out; rw [List.take_of_length_le (by rw [HN.out]; omega)] at this; rw [HC.out]; omega), HU.out, ?_⟩
      have h9 := HO.out
      rw [← HN.out] at h9 ⊢
      exact h9

theorem markIntS_obj (v : Value) (L : List Int) (lo hi k : Nat) (kz : Int) (w : World) (hkz : kz = (k : Int)) (h0 : 0 < k) (hk : k + (celRow cInt L).cnt ≤ 100000000) (hz : (celRow cInt L).sz ≤ 100000000) (ho : Obj1 w lo hi (celRow cInt L) v) :
    Calls Tryz.prog 34 #[v, .int .i64 kz] w fun e w' => e = .returned (.int .i64 ((k + (celRow cInt L).cnt : Nat) : Int)) ∧ OutR lo hi w w' ∧ Obj1 w' lo hi ((celRow cInt L).mk k) v := by
  obtain ⟨F, hn, hb, ho⟩ := ho
  refine (markIntS_any v L F k kz w hkz h0 hk hz hn ho).mono ?_
  rintro e w' ⟨he, hu, hw⟩
  exact ⟨he, OutR.of hu hb, F, hn, hb, hw⟩
end Go.Proofs.YtmkchilhnmkhkabGreat
namespace Go.Proofs.YtmkchilhnmkhkabGreat
open Go.RowKit Go.Proofs.YtmkchilhnmkhkabGreat.Parts Go.Proofs.YtmkchilhnmkhkabGreat.Hexa

set_option maxRecDepth 100000 in
set_option maxHeartbeats 1000000 in
theorem markRecS_any (v : Value) (L : List RecR) (F : List Nat) (k : Nat) (kz : Int) (w : World) (hkz : kz = (k : Int)) (h0 : 0 < k) (hk : k + (celRow cRec L).cnt ≤ 100000000) (hz : (celRow cRec L).sz ≤ 100000000) (hF : F.Nodup) (ho : (celRow cRec L).Own w F v) :
    Calls Tryz.prog 71 #[v, .int .i64 kz] w (MarkPost (celRow cRec L) F v k w) := by
  subst hkz
  obtain ⟨a, n, c, rfl, hn⟩ := row_form (Cel.Own.rd _ _ _ ho)
  have HN := Lib.hid hn
  have hz' : n + szL (celsE cRec L) ≤ 100000000 := by rw [← hn]; exact hz
  have hn9 : n ≤ 100000000 := by omega
  have HZ : Hid (szL (celsE cRec L) ≤ 100000000) := Lib.hid (by omega)
  have HF := Lib.hid hF
  have HC : Hid ((celRow cRec L).cnt = cntL (celsE cRec L)) := Lib.hid rfl
  have hk' : k + cntL (celsE cRec L) ≤ 100000000 := hk
  have HL : Hid ((celsE cRec L).length = n * 3) := Lib.hid (by rw [celsE_length, hn]; rfl)
  have HO : Hid ((Cel.sl cRec.e 3 n (stM (celsE cRec L) k 0)).Own w F (.slice a n c)) := Lib.hid (by rw [stM_zero]; have h9 := ho; unfold celRow at h9; rw [hn] at h9; exact h9)
  clear hn hF ho hk hz hz'
  go_enter Tryz.func71, Tryz.ntmps71
  go_wp2
  go_loopw [1, 5] (fun kv iv wr => ∃ (j q : Nat), j ≤ n ∧ 0 < q ∧ q ≤ 100000000 ∧ Hid (q = k + cntL (celsE cRec (L.take j))) ∧ iv = .int .i64 j ∧ kv = .int .i64 q ∧ Hid ((Cel.sl cRec.e 3 n (stM (celsE cRec L) k (j * 3))).Own wr F (.slice a n c)) ∧ Hid (OutF F w wr)) (fun _ iv _ => n - (intOf iv).toNat)
  case atStart => exact ⟨0, k, Nat.zero_le _, h0, by omega, Lib.hid (by simp only [List.take_zero, celsE, cntL]; rfl), rfl, rfl, by rw [Nat.zero_mul]; exact HO, Lib.hid (OutF.refl _ _)⟩
  case round =>
    clear HO
    obtain ⟨j, q, hj, hq0, hq9, HQ, rfl, rfl, HW, HU⟩ := hrel
    by_cases hlt : j < n
    · have hjL : j < L.length := by rw [HN.out]; exact hlt
      have HX := Lib.hid (cntL_next cRec hjL)
      have hm := cntL_take cRec L (j + 1)
      have HY := Lib.hid (Nat.le_trans (szL_at cRec L j hjL) HZ.out)
      have HG : Hid (∀ o, o < 3 → (celsE cRec L).getD (j * 3 + o) default = (cRec.cels (L.getD j default)).getD o default) := Lib.hid (fun o ho => celsE_getD cRec L j o hjL ho)
      have HA : Hid (∀ o, o ≤ 3 → atM (celsE cRec L) k (j * 3 + o) = q + cntL ((cRec.cels (L.getD j default)).take o)) := Lib.hid (fun o ho => by rw [HQ.out]; exact atM_in cRec hjL ho)
      obtain ⟨x, hx⟩ : ∃ x, L.getD j default = x := ⟨_, rfl⟩
      rw [hx] at HX HG HA HY
      have hm2 : q + cntL (cRec.cels x) ≤ 100000000 := by have := HQ.out; have := HX.out; omega
      have HM2 := Lib.hid hm2
      have hm3 : q + 3 ≤ 100000000 := by have : cntL (cRec.cels x) = (1 + (1 + (1 + 0))) := rfl; omega
      clear hx hjL hm hm2
      obtain ⟨g0, hg0, _, ⟨v0, e0⟩, z0, ho0, hu0⟩ := mark_val HW.out HF.out (i := j * 3) (by omega) HL.out (HG.out 0 (by decide))
      subst hg0
      have e9 : atM (celsE cRec L) k (j * 3) = q + cntL ((cRec.cels x).take 0) := HA.out 0 (by decide)
      have e8 : markV (.int .i64 x.f0) (atM (celsE cRec L) k (j * 3)) = (.int .i64 ((q : Int))) := by rw [e9]; show Value.int .i64 ((q + 0 : Nat) : Int) = _; rw [show ((q + 0 : Nat) : Int) = (q : Int) from by omega]
      rw [e8] at ho0 hu0
      clear e8 e9
      have W0 := Lib.hid ho0
      have U0 := Lib.hid (HU.out.trans hu0)
      clear ho0 hu0 HW HU
      obtain ⟨g1, hg1, _, ⟨v1, e1⟩, z1, ho1, hu1⟩ := mark_val W0.out HF.out (i := j * 3 + 1) (by omega) HL.out (HG.out 1 (by decide))
      obtain rfl : g0 = g1 := by simpa using hg1
      have e9 : atM (celsE cRec L) k (j * 3 + 1) = q + cntL ((cRec.cels x).take 1) := HA.out 1 (by decide)
      have e8 : markV (.int .i64 x.f1) (atM (celsE cRec L) k (j * 3 + 1)) = (.int .i64 ((q : Int) + 1)) := by rw [e9]; show Value.int .i64 ((q + (1 + 0) : Nat) : Int) = _; rw [show ((q + (1 + 0) : Nat) : Int) = (q : Int) + 1 from by omega]
      rw [e8] at ho1 hu1
      clear e8 e9
      have W1 := Lib.hid ho1
      have U1 := Lib.hid (U0.out.trans hu1)
      clear ho1 hu1 W0 U0
      go_wp2_with fail
      clear e0 z0 e1 z1
      obtain ⟨wa2, hwa⟩ : ∃ y, y = ((wr.setCell ⟨g0, j * 3, none⟩ (.int .i64 ((q : Int)))).setCell ⟨g0, j * 3 + 1, none⟩ (.int .i64 ((q : Int) + 1))) := ⟨_, rfl⟩
      rw [← hwa] at W1 U1 ⊢
      clear hwa
      refine (markText_n _ (q + 2) _ (by omega) (by omega) (by omega)).mono ?_
      rintro e y2 ⟨rfl, hb⟩
      have W2t := Lib.hid (Cel.Own.kept _ _ _ (fun g hg => hb.block g (Cel.Own.lt _ _ _ W1.out g hg)) W1.out)
      have U2t := Lib.hid (U1.out.trans (OutF.of_below hb))
      clear hb W1 U1
      obtain ⟨g2, hg2, _, ⟨v2, e2⟩, z2, ho2, hu2⟩ := mark_val W2t.out HF.out (i := j * 3 + 2) (by omega) HL.out (HG.out 2 (by decide))
      obtain rfl : g0 = g2 := by simpa using hg2
      have e9 : atM (celsE cRec L) k (j * 3 + 2) = q + cntL ((cRec.cels x).take 2) := HA.out 2 (by decide)
      have e8 : markV (.string x.f2) (atM (celsE cRec L) k (j * 3 + 2)) = (.string (markT (q + 2))) := by rw [e9]; show Value.string (markT (q + (1 + (1 + 0)))) = _; rw [show q + (1 + (1 + 0)) = (q + 2) from by omega]
      rw [e8] at ho2 hu2
      clear e8 e9
      have W2 := Lib.hid ho2
      have U2 := Lib.hid (U2t.out.trans hu2)
      clear ho2 hu2 W2t U2t
      go_wp2
      clear e2 z2
      have HR : Hid ((q + 3) = k + cntL (celsE cRec (L.take (j + 1)))) := Lib.hid (by have := HQ.out; have := HX.out; have : cntL (cRec.cels x) = (1 + (1 + (1 + 0))) := rfl; omega)
      have hr9 : (q + 3) ≤ 100000000 := by have := HM2.out; have : cntL (cRec.cels x) = (1 + (1 + (1 + 0))) := rfl; omega
      go_roundw
      case rel => exact ⟨j + 1, (q + 3), by omega, by omega, hr9, HR, by go_num, by go_num, by rw [Nat.add_mul, Nat.one_mul]; exact W2, U2⟩
      case measure => (simp [intOf]; try omega)
    · obtain rfl : j = n := by omega
      have ho := HW.out
      rw [stM_all _ _ (by rw [HL.out]; omega)] at ho
      have HO := Lib.hid ho
      clear ho
      go_wp2
      go_ret
      refine ⟨ret_i64m (by have := HQ.out; rw [List.take_of_length_le (by rw [HN.out]; omega)] at this; rw [HC.out]; omega), HU.out, ?_⟩
      have h9 := HO.out
      rw [← HN.out] at h9 ⊢
      exact h9

theorem markRecS_obj (v : Value) (L : List RecR) (lo hi k : Nat) (kz : Int) (w : World) (hkz : kz = (k : Int)) (h0 : 0 < k) (hk : k + (celRow cRec L).cnt ≤ 100000000) (hz : (celRow cRec L).sz ≤ 100000000) (ho : Obj1 w lo hi (celRow cRec L) v) :
    Calls Tryz.prog 71 #[v, .int .i64 kz] w fun e w' => e = .returned (.int .i64 ((k + (celRow cRec L).cnt : Nat) : Int)) ∧ OutR lo hi w w' ∧ Obj1 w' lo hi ((celRow cRec L).mk k) v := by
  obtain ⟨F, hn, hb, ho⟩ := ho
  refine (markRecS_any v L F k kz w hkz h0 hk hz hn ho).mono ?_
  rintro e w' ⟨he, hu, hw⟩
  exact ⟨he, OutR.of hu hb, F, hn, hb, hw⟩
end Go.Proofs.YtmkchilhnmkhkabGreat
namespace Go.Proofs.YtmkchilhnmkhkabGreat
open Go.RowKit Go.Proofs.YtmkchilhnmkhkabGreat.Parts Go.Proofs.YtmkchilhnmkhkabGreat.Hexa

set_option maxRecDepth 100000 in
set_option maxHeartbeats 1000000 in
theorem markEntryS_any (v : Value) (L : List EntryR) (F : List Nat) (k : Nat) (kz : Int) (w : World) (hkz : kz = (k : Int)) (h0 : 0 < k) (hk : k + (celRow cEntry L).cnt ≤ 100000000) (hz : (celRow cEntry L).sz ≤ 100000000) (hF : F.Nodup) (ho : (celRow cEntry L).Own w F v) :
    Calls Tryz.prog 72 #[v, .int .i64 kz] w (MarkPost (celRow cEntry L) F v k w) := by
  subst hkz
  obtain ⟨a, n, c, rfl, hn⟩ := row_form (Cel.Own.rd _ _ _ ho)
  have HN := Lib.hid hn
  have hz' : n + szL (celsE cEntry L) ≤ 100000000 := by rw [← hn]; exact hz
  have hn9 : n ≤ 100000000 := by omega
  have HZ : Hid (szL (celsE cEntry L) ≤ 100000000) := Lib.hid (by omega)
  have HF := Lib.hid hF
  have HC : Hid ((celRow cEntry L).cnt = cntL (celsE cEntry L)) := Lib.hid rfl
  have hk' : k + cntL (celsE cEntry L) ≤ 100000000 := hk
  have HL : Hid ((celsE cEntry L).length = n * 2) := Lib.hid (by rw [celsE_length, hn]; rfl)
  have HO : Hid ((Cel.sl cEntry.e 2 n (stM (celsE cEntry L) k 0)).Own w F (.slice a n c)) := Lib.hid (by rw [stM_zero]; have h9 := ho; unfold celRow at h9; rw [hn] at h9; exact h9)
  clear hn hF ho hk hz hz'
  go_enter Tryz.func72, Tryz.ntmps72
  go_wp2
  go_loopw [1, 5] (fun kv iv wr => ∃ (j q : Nat), j ≤ n ∧ 0 < q ∧ q ≤ 100000000 ∧ Hid (q = k + cntL (celsE cEntry (L.take j))) ∧ iv = .int .i64 j ∧ kv = .int .i64 q ∧ Hid ((Cel.sl cEntry.e 2 n (stM (celsE cEntry L) k (j * 2))).Own wr F (.slice a n c)) ∧ Hid (OutF F w wr)) (fun _ iv _ => n - (intOf iv).toNat)
  case atStart => exact ⟨0, k, Nat.zero_le _, h0, by omega, Lib.hid (by simp only [List.take_zero, celsE, cntL]; rfl), rfl, rfl, by rw [Nat.zero_mul]; exact HO, Lib.hid (OutF.refl _ _)⟩
  case round =>
    clear HO
    obtain ⟨j, q, hj, hq0, hq9, HQ, rfl, rfl, HW, HU⟩ := hrel
    by_cases hlt : j < n
    · have hjL : j < L.length := by rw [HN.out]; exact hlt
      have HX := Lib.hid (cntL_next cEntry hjL)
      have hm := cntL_take cEntry L (j + 1)
      have HY := Lib.hid (Nat.le_trans (szL_at cEntry L j hjL) HZ.out)
      have HG : Hid (∀ o, o < 2 → (celsE cEntry L).getD (j * 2 + o) default = (cEntry.cels (L.getD j default)).getD o default) := Lib.hid (fun o ho => celsE_getD cEntry L j o hjL ho)
      have HA : Hid (∀ o, o ≤ 2 → atM (celsE cEntry L) k (j * 2 + o) = q + cntL ((cEntry.cels (L.getD j default)).take o)) := Lib.hid (fun o ho => by rw [HQ.out]; exact atM_in cEntry hjL ho)
      obtain ⟨x, hx⟩ : ∃ x, L.getD j default = x := ⟨_, rfl⟩
      rw [hx] at HX HG HA HY
      have hm2 : q + cntL (cEntry.cels x) ≤ 100000000 := by have := HQ.out; have := HX.out; omega
      have HM2 := Lib.hid hm2
      have hm3 : q + 2 ≤ 100000000 := by have : cntL (cEntry.cels x) = (1 + (1 + 0)) := rfl; omega
      clear hx hjL hm hm2
      obtain ⟨g0, hg0, _, ⟨v0, e0⟩, z0, ho0, hu0⟩ := mark_val HW.out HF.out (i := j * 2) (by omega) HL.out (HG.out 0 (by decide))
      subst hg0
      have e9 : atM (celsE cEntry L) k (j * 2) = q + cntL ((cEntry.cels x).take 0) := HA.out 0 (by decide)
      have e8 : markV (.int .i64 x.f0) (atM (celsE cEntry L) k (j * 2)) = (.int .i64 ((q : Int))) := by rw [e9]; show Value.int .i64 ((q + 0 : Nat) : Int) = _; rw [show ((q + 0 : Nat) : Int) = (q : Int) from by omega]
      rw [e8] at ho0 hu0
      clear e8 e9
      have W0 := Lib.hid ho0
      have U0 := Lib.hid (HU.out.trans hu0)
      clear ho0 hu0 HW HU
      go_wp2_with fail
      clear e0 z0
      obtain ⟨wa1, hwa⟩ : ∃ y, y = (wr.setCell ⟨g0, j * 2, none⟩ (.int .i64 ((q : Int)))) := ⟨_, rfl⟩
      rw [← hwa] at W0 U0 ⊢
      clear hwa
      refine (markText_n _ (q + 1) _ (by omega) (by omega) (by omega)).mono ?_
      rintro e y1 ⟨rfl, hb⟩
      have W1t := Lib.hid (Cel.Own.kept _ _ _ (fun g hg => hb.block g (Cel.Own.lt _ _ _ W0.out g hg)) W0.out)
      have U1t := Lib.hid (U0.out.trans (OutF.of_below hb))
      clear hb W0 U0
      obtain ⟨g1, hg1, _, ⟨v1, e1⟩, z1, ho1, hu1⟩ := mark_val W1t.out HF.out (i := j * 2 + 1) (by omega) HL.out (HG.out 1 (by decide))
      obtain rfl : g0 = g1 := by simpa using hg1
      have e9 : atM (celsE cEntry L) k (j * 2 + 1) = q + cntL ((cEntry.cels x).take 1) := HA.out 1 (by decide)
      have e8 : markV (.string x.f1) (atM (celsE cEntry L) k (j * 2 + 1)) = (.string (markT (q + 1))) := by rw [e9]; show Value.string (markT (q + (1 + 0))) = _; rw [show q + (1 + 0) = (q + 1) from by omega]
      rw [e8] at ho1 hu1
      clear e8 e9
      have W1 := Lib.hid ho1
      have U1 := Lib.hid (U1t.out.trans hu1)
      clear ho1 hu1 W1t U1t
      go_wp2
      clear e1 z1
      have HR : Hid ((q + 2) = k + cntL (celsE cEntry (L.take (j + 1)))) := Lib.hid (by have := HQ.out; have := HX.out; have : cntL (cEntry.cels x) = (1 + (1 + 0)) := rfl; omega)
      have hr9 : (q + 2) ≤ 100000000 := by have := HM2.out; have : cntL (cEntry.cels x) = (1 + (1 + 0)) := rfl; omega
      go_roundw
      case rel => exact ⟨j + 1, (q + 2), by omega, by omega, hr9, HR, by go_num, by go_num, by rw [Nat.add_mul, Nat.one_mul]; exact W1, U1⟩
      case measure => (simp [intOf]; try omega)
    · obtain rfl : j = n := by omega
      have ho := HW.out
      rw [stM_all _ _ (by rw [HL.out]; omega)] at ho
      have HO := Lib.hid ho
      clear ho
      go_wp2
      go_ret
      refine ⟨ret_i64m (by have := HQ.out; rw [List.take_of_length_le (by rw [HN.out]; omega)] at this; rw [HC.out]; omega), HU.out, ?_⟩
      have h9 := HO.out
      rw [← HN.out] at h9 ⊢
      exact h9

theorem markEntryS_obj (v : Value) (L : List EntryR) (lo hi k : Nat) (kz : Int) (w : World) (hkz : kz = (k : Int)) (h0 : 0 < k) (hk : k + (celRow cEntry L).cnt ≤ 100000000) (hz : (celRow cEntry L).sz ≤ 100000000) (ho : Obj1 w lo hi (celRow cEntry L) v) :
    Calls Tryz.prog 72 #[v, .int .i64 kz] w fun e w' => e = .returned (.int .i64 ((k + (celRow cEntry L).cnt : Nat) : Int)) ∧ OutR lo hi w w' ∧ Obj1 w' lo hi ((celRow cEntry L).mk k) v := by
  obtain ⟨F, hn, hb, ho⟩ := ho
  refine (markEntryS_any v L F k kz w hkz h0 hk hz hn ho).mono ?_
  rintro e w' ⟨he, hu, hw⟩
  exact ⟨he, OutR.of hu hb, F, hn, hb, hw⟩
end Go.Proofs.YtmkchilhnmkhkabGreat
namespace Go.Proofs.YtmkchilhnmkhkabGreat
open Go.RowKit Go.Proofs.YtmkchilhnmkhkabGreat.Parts Go.Proofs.YtmkchilhnmkhkabGreat.Hexa

set_option maxRecDepth 100000 in
set_option maxHeartbeats 1000000 in
theorem markInoS_any (v : Value) (L : List InoR) (F : List Nat) (k : Nat) (kz : Int) (w : World) (hkz : kz = (k : Int)) (h0 : 0 < k) (hk : k + (celRow cIno L).cnt ≤ 100000000) (hz : (celRow cIno L).sz ≤ 100000000) (hF : F.Nodup) (ho : (celRow cIno L).Own w F v) :
    Calls Tryz.prog 35 #[v, .int .i64 kz] w (MarkPost (celRow cIno L) F v k w) := by
  subst hkz
  obtain ⟨a, n, c, rfl, hn⟩ := row_form (Cel.Own.rd _ _ _ ho)
  have HN := Lib.hid hn
  have hz' : n + szL (celsE cIno L) ≤ 100000000 := by rw [← hn]; exact hz
  have hn9 : n ≤ 100000000 := by omega
  have HZ : Hid (szL (celsE cIno L) ≤ 100000000) := Lib.hid (by omega)
  have HF := Lib.hid hF
  have HC : Hid ((celRow cIno L).cnt = cntL (celsE cIno L)) := Lib.hid rfl
  have hk' : k + cntL (celsE cIno L) ≤ 100000000 := hk
  have HL : Hid ((celsE cIno L).length = n * 6) := Lib.hid (by rw [celsE_length, hn]; rfl)
  have HO : Hid ((Cel.sl cIno.e 6 n (stM (celsE cIno L) k 0)).Own w F (.slice a n c)) := Lib.hid (by rw [stM_zero]; have h9 := ho; unfold celRow at h9; rw [hn] at h9; exact h9)
  clear hn hF ho hk hz hz'
  go_enter Tryz.func35, Tryz.ntmps35
  go_wp2
  go_loopw [1, 5] (fun kv iv wr => ∃ (j q : Nat), j ≤ n ∧ 0 < q ∧ q ≤ 100000000 ∧ Hid (q = k + cntL (celsE cIno (L.take j))) ∧ iv = .int .i64 j ∧ kv = .int .i64 q ∧ Hid ((Cel.sl cIno.e 6 n (stM (celsE cIno L) k (j * 6))).Own wr F (.slice a n c)) ∧ Hid (OutF F w wr)) (fun _ iv _ => n - (intOf iv).toNat)
  case atStart => exact ⟨0, k, Nat.zero_le _, h0, by omega, Lib.hid (by simp only [List.take_zero, celsE, cntL]; rfl), rfl, rfl, by rw [Nat.zero_mul]; exact HO, Lib.hid (OutF.refl _ _)⟩
  case round =>
    clear HO
    obtain ⟨j, q, hj, hq0, hq9, HQ, rfl, rfl, HW, HU⟩ := hrel
    by_cases hlt : j < n
    · have hjL : j < L.length := by rw [HN.out]; exact hlt
      have HX := Lib.hid (cntL_next cIno hjL)
      have hm := cntL_take cIno L (j + 1)
      have HY := Lib.hid (Nat.le_trans (szL_at cIno L j hjL) HZ.out)
      have HG : Hid (∀ o, o < 6 → (celsE cIno L).getD (j * 6 + o) default = (cIno.cels (L.getD j default)).getD o default) := Lib.hid (fun o ho => celsE_getD cIno L j o hjL ho)
      have HA : Hid (∀ o, o ≤ 6 → atM (celsE cIno L) k (j * 6 + o) = q + cntL ((cIno.cels (L.getD j default)).take o)) := Lib.hid (fun o ho => by rw [HQ.out]; exact atM_in cIno hjL ho)
      obtain ⟨x, hx⟩ : ∃ x, L.getD j default = x := ⟨_, rfl⟩
      rw [hx] at HX HG HA HY
      have hm2 : q + cntL (cIno.cels x) ≤ 100000000 := by have := HQ.out; have := HX.out; omega
      have HM2 := Lib.hid hm2
      have hm3 : q + 4 ≤ 100000000 := by have : cntL (cIno.cels x) = (1 + (1 + (1 + (1 + ((celRow cRec x.R).cnt + ((celRow cEntry x.E).cnt + 0)))))) := rfl; omega
      clear hx hjL hm hm2
      obtain ⟨g0, hg0, _, ⟨v0, e0⟩, z0, ho0, hu0⟩ := mark_val HW.out HF.out (i := j * 6) (by omega) HL.out (HG.out 0 (by decide))
      subst hg0
      have e9 : atM (celsE cIno L) k (j * 6) = q + cntL ((cIno.cels x).take 0) := HA.out 0 (by decide)
      have e8 : markV (.int .i64 x.kd) (atM (celsE cIno L) k (j * 6)) = (.int .i64 ((q : Int))) := by rw [e9]; show Value.int .i64 ((q + 0 : Nat) : Int) = _; rw [show ((q + 0 : Nat) : Int) = (q : Int) from by omega]
      rw [e8] at ho0 hu0
      clear e8 e9
      have W0 := Lib.hid ho0
      have U0 := Lib.hid (HU.out.trans hu0)
      clear ho0 hu0 HW HU
      obtain ⟨g1, hg1, _, ⟨v1, e1⟩, z1, ho1, hu1⟩ := mark_val W0.out HF.out (i := j * 6 + 1) (by omega) HL.out (HG.out 1 (by decide))
      obtain rfl : g0 = g1 := by simpa using hg1
      have e9 : atM (celsE cIno L) k (j * 6 + 1) = q + cntL ((cIno.cels x).take 1) := HA.out 1 (by decide)
      have e8 : markV (.int .i64 x.sz) (atM (celsE cIno L) k (j * 6 + 1)) = (.int .i64 ((q : Int) + 1)) := by rw [e9]; show Value.int .i64 ((q + (1 + 0) : Nat) : Int) = _; rw [show ((q + (1 + 0) : Nat) : Int) = (q : Int) + 1 from by omega]
      rw [e8] at ho1 hu1
      clear e8 e9
      have W1 := Lib.hid ho1
      have U1 := Lib.hid (U0.out.trans hu1)
      clear ho1 hu1 W0 U0
      obtain ⟨g2, hg2, _, ⟨v2, e2⟩, z2, ho2, hu2⟩ := mark_val W1.out HF.out (i := j * 6 + 2) (by omega) HL.out (HG.out 2 (by decide))
      obtain rfl : g0 = g2 := by simpa using hg2
      have e9 : atM (celsE cIno L) k (j * 6 + 2) = q + cntL ((cIno.cels x).take 2) := HA.out 2 (by decide)
      have e8 : markV (.int .i64 x.gn) (atM (celsE cIno L) k (j * 6 + 2)) = (.int .i64 ((q : Int) + 1 + 1)) := by rw [e9]; show Value.int .i64 ((q + (1 + (1 + 0)) : Nat) : Int) = _; rw [show ((q + (1 + (1 + 0)) : Nat) : Int) = (q : Int) + 1 + 1 from by omega]
      rw [e8] at ho2 hu2
      clear e8 e9
      have W2 := Lib.hid ho2
      have U2 := Lib.hid (U1.out.trans hu2)
      clear ho2 hu2 W1 U1
      go_wp2_with fail
      clear e0 z0 e1 z1 e2 z2
      obtain ⟨wa3, hwa⟩ : ∃ y, y = (((wr.setCell ⟨g0, j * 6, none⟩ (.int .i64 ((q : Int)))).setCell ⟨g0, j * 6 + 1, none⟩ (.int .i64 ((q : Int) + 1))).setCell ⟨g0, j * 6 + 2, none⟩ (.int .i64 ((q : Int) + 1 + 1))) := ⟨_, rfl⟩
      rw [← hwa] at W2 U2 ⊢
      clear hwa
      refine (markText_n _ (q + 3) _ (by omega) (by omega) (by omega)).mono ?_
      rintro e y3 ⟨rfl, hb⟩
      have W3t := Lib.hid (Cel.Own.kept _ _ _ (fun g hg => hb.block g (Cel.Own.lt _ _ _ W2.out g hg)) W2.out)
      have U3t := Lib.hid (U2.out.trans (OutF.of_below hb))
      clear hb W2 U2
      obtain ⟨g3, hg3, _, ⟨v3, e3⟩, z3, ho3, hu3⟩ := mark_val W3t.out HF.out (i := j * 6 + 3) (by omega) HL.out (HG.out 3 (by decide))
      obtain rfl : g0 = g3 := by simpa using hg3
      have e9 : atM (celsE cIno L) k (j * 6 + 3) = q + cntL ((cIno.cels x).take 3) := HA.out 3 (by decide)
      have e8 : markV (.string x.key) (atM (celsE cIno L) k (j * 6 + 3)) = (.string (markT (q + 3))) := by rw [e9]; show Value.string (markT (q + (1 + (1 + (1 + 0))))) = _; rw [show q + (1 + (1 + (1 + 0))) = (q + 3) from by omega]
      rw [e8] at ho3 hu3
      clear e8 e9
      have W3 := Lib.hid ho3
      have U3 := Lib.hid (U3t.out.trans hu3)
      clear ho3 hu3 W3t U3t
      obtain ⟨g4, G4, u4, hg4, hG4, e4, ho4, hK4⟩ := mark_sub W3.out HF.out (i := j * 6 + 4) (by omega) HL.out
      obtain rfl : g0 = g4 := by simpa using hg4
      rw [HG.out 4 (by decide)] at ho4 hK4
      change (celRow cRec x.R).Own _ _ _ at ho4
      obtain ⟨p4, m4, s4, rfl, hm4⟩ := row_form (Cel.Own.rd _ _ _ ho4)
      subst hm4
      have HO4 := Lib.hid ho4
      have HG4 := Lib.hid hG4
      have HK4 : Hid (∀ w', OutF G4 (y3.setCell ⟨g0, j * 6 + 3, none⟩ (.string (markT (q + 3)))) w' → ((celRow cRec x.R).mk (q + 4)).Own w' G4 (.slice p4 x.R.length s4) → (Cel.sl cIno.e 6 n (stM (celsE cIno L) k (j * 6 + 4 + 1))).Own w' F (.slice (some ⟨g0, 0, none⟩) n c) ∧ OutF F (y3.setCell ⟨g0, j * 6 + 3, none⟩ (.string (markT (q + 3)))) w') := Lib.hid (by
        have e9 := HA.out 4 (by decide)
        rw [show q + cntL ((cIno.cels x).take 4) = (q + 4) by show q + (1 + (1 + (1 + (1 + 0)))) = _; omega] at e9
        rw [e9] at hK4
        exact hK4)
      clear ho4 hG4 hK4
      go_wp2_with fail
      clear e3 z3
      refine (markRecS_any _ x.R G4 (q + 4) _ _ (by omega) (by omega) (by have := HM2.out; have : cntL (cIno.cels x) = (1 + (1 + (1 + (1 + ((celRow cRec x.R).cnt + ((celRow cEntry x.E).cnt + 0)))))) := rfl; omega) (by have := HY.out; rw [cIno_sz] at this; omega) HG4.out HO4.out).mono ?_
      rintro e y4 ⟨he, hu, hw⟩
      obtain ⟨q4, hq4⟩ : ∃ y, (q + 4) + (celRow cRec x.R).cnt = y := ⟨_, rfl⟩
      rw [hq4] at he
      subst he
      have HQ4 := Lib.hid hq4
      have hl4 : q4 + 0 ≤ 100000000 := by have := HM2.out; have : cntL (cIno.cels x) = (1 + (1 + (1 + (1 + ((celRow cRec x.R).cnt + ((celRow cEntry x.E).cnt + 0)))))) := rfl; omega
      obtain ⟨hw1, hu1⟩ := HK4.out _ hu hw
      have W4 := Lib.hid hw1
      have U4 := Lib.hid (U3.out.trans hu1)
      have hb4 : 0 < q4 := by omega
      clear hw1 hu1 hu hw HK4 hq4 e4 HO4 W3 U3
      obtain ⟨g5, G5, u5, hg5, hG5, e5, ho5, hK5⟩ := mark_sub W4.out HF.out (i := j * 6 + 5) (by omega) HL.out
      obtain rfl : g0 = g5 := by simpa using hg5
      rw [HG.out 5 (by decide)] at ho5 hK5
      change (celRow cEntry x.E).Own _ _ _ at ho5
      obtain ⟨p5, m5, s5, rfl, hm5⟩ := row_form (Cel.Own.rd _ _ _ ho5)
      subst hm5
      have HO5 := Lib.hid ho5
      have HG5 := Lib.hid hG5
      have HK5 : Hid (∀ w', OutF G5 y4 w' → ((celRow cEntry x.E).mk q4).Own w' G5 (.slice p5 x.E.length s5) → (Cel.sl cIno.e 6 n (stM (celsE cIno L) k (j * 6 + 5 + 1))).Own w' F (.slice (some ⟨g0, 0, none⟩) n c) ∧ OutF F y4 w') := Lib.hid (by
        have e9 := HA.out 5 (by decide)
        rw [show q + cntL ((cIno.cels x).take 5) = q4 by have := HQ4.out; show q + (1 + (1 + (1 + (1 + ((celRow cRec x.R).cnt + 0))))) = _; omega] at e9
        rw [e9] at hK5
        exact hK5)
      clear ho5 hG5 hK5
      go_wp2_with fail
      refine (markEntryS_any _ x.E G5 q4 _ _ (by omega) (by omega) (by have := HM2.out; have := HQ4.out; have : cntL (cIno.cels x) = (1 + (1 + (1 + (1 + ((celRow cRec x.R).cnt + ((celRow cEntry x.E).cnt + 0)))))) := rfl; omega) (by have := HY.out; rw [cIno_sz] at this; omega) HG5.out HO5.out).mono ?_
      rintro e y5 ⟨he, hu, hw⟩
      obtain ⟨q5, hq5⟩ : ∃ y, q4 + (celRow cEntry x.E).cnt = y := ⟨_, rfl⟩
      rw [hq5] at he
      subst he
      have HQ5 := Lib.hid hq5
      have hl5 : q5 + 0 ≤ 100000000 := by have := HM2.out; have := HQ4.out; have : cntL (cIno.cels x) = (1 + (1 + (1 + (1 + ((celRow cRec x.R).cnt + ((celRow cEntry x.E).cnt + 0)))))) := rfl; omega
      obtain ⟨hw1, hu1⟩ := HK5.out _ hu hw
      have W5 := Lib.hid hw1
      have U5 := Lib.hid (U4.out.trans hu1)
      have hb5 : 0 < q5 := by omega
      clear hw1 hu1 hu hw HK5 hq5 e5 HO5 W4 U4
      go_wp2
      have HR : Hid (q5 = k + cntL (celsE cIno (L.take (j + 1)))) := Lib.hid (by have := HQ.out; have := HX.out; have := HQ4.out; have := HQ5.out; have : cntL (cIno.cels x) = (1 + (1 + (1 + (1 + ((celRow cRec x.R).cnt + ((celRow cEntry x.E).cnt + 0)))))) := rfl; omega)
      have hr9 : q5 ≤ 100000000 := by have := HM2.out; have := HQ4.out; have := HQ5.out; have : cntL (cIno.cels x) = (1 + (1 + (1 + (1 + ((celRow cRec x.R).cnt + ((celRow cEntry x.E).cnt + 0)))))) := rfl; omega
      go_roundw
      case rel => exact ⟨j + 1, q5, by omega, by omega, hr9, HR, by go_num, by go_num, by rw [Nat.add_mul, Nat.one_mul]; exact W5, U5⟩
      case measure => (simp [intOf]; try omega)
    · obtain rfl : j = n := by omega
      have ho := HW.out
      rw [stM_all _ _ (by rw [HL.out]; omega)] at ho
      have HO := Lib.hid ho
      clear ho
      go_wp2
      go_ret
      refine ⟨ret_i64m (by have := HQ.out; rw [List.take_of_length_le (by rw [HN.out]; omega)] at this; rw [HC.out]; omega), HU.out, ?_⟩
      have h9 := HO.out
      rw [← HN.out] at h9 ⊢
      exact h9

theorem markInoS_obj (v : Value) (L : List InoR) (lo hi k : Nat) (kz : Int) (w : World) (hkz : kz = (k : Int)) (h0 : 0 < k) (hk : k + (celRow cIno L).cnt ≤ 100000000) (hz : (celRow cIno L).sz ≤ 100000000) (ho : Obj1 w lo hi (celRow cIno L) v) :
    Calls Tryz.prog 35 #[v, .int .i64 kz] w fun e w' => e = .returned (.int .i64 ((k + (celRow cIno L).cnt : Nat) : Int)) ∧ OutR lo hi w w' ∧ Obj1 w' lo hi ((celRow cIno L).mk k) v := by
  obtain ⟨F, hn, hb, ho⟩ := ho
  refine (markInoS_any v L F k kz w hkz h0 hk hz hn ho).mono ?_
  rintro e w' ⟨he, hu, hw⟩
  exact ⟨he, OutR.of hu hb, F, hn, hb, hw⟩
end Go.Proofs.YtmkchilhnmkhkabGreat
namespace Go.Proofs.YtmkchilhnmkhkabGreat
open Go.RowKit Go.Proofs.YtmkchilhnmkhkabGreat.Parts Go.Proofs.YtmkchilhnmkhkabGreat.Hexa

theorem cPart_top (x : PartR) : cntTop (cPart.cels x) = ((celRow cInt x.st).cnt + ((celRow cIno x.ino).cnt + 0)) := rfl
set_option maxRecDepth 100000 in
set_option maxHeartbeats 1000000 in
theorem markPart_st (x : PartR) (a1 : Option Addr) (c1 : Nat) (a2 : Option Addr) (c2 : Nat) (lo hi k : Nat) (kz : Int) (w : World) (hkz : kz = (k : Int)) (h0 : 0 < k) (hk : k + cntTop (cPart.cels x) ≤ 100000000) (hz : szL (cPart.cels x) ≤ 100000000) (ho : Objs w lo hi (cPart.cels x) [.int .i64 x.ser, .slice a1 x.st.length c1, .slice a2 x.ino.length c2]) :
    Calls Tryz.prog 12 #[.agg #[.int .i64 x.ser, .slice a1 x.st.length c1, .slice a2 x.ino.length c2], .int .i64 kz] w fun e w' => e = .returned (.int .i64 ((k + cntTop (cPart.cels x) : Nat) : Int)) ∧ OutR lo hi w w' ∧ Objs w' lo hi (mkTop (cPart.cels x) k) [.int .i64 x.ser, .slice a1 x.st.length c1, .slice a2 x.ino.length c2] := by
  subst hkz
  obtain ⟨F0, hn, hb, hO⟩ := ho
  replace hO := own_cons_val hO
  obtain ⟨F1a, R1, e1, o1, hO⟩ := own_cons hO
  obtain ⟨F2a, R2, e2, o2, hO⟩ := own_cons hO
  have en := own_nil hO
  clear hO
  rw [en] at e2
  rw [e2] at e1
  rw [e1] at hn hb
  clear en e1 e2
  have HN := Lib.hid hn
  have HB := Lib.hid hb
  have N1 : Hid (F1a.Nodup) := Lib.hid (by have := hn; simp only [List.nodup_append] at this; simp_all)
  have N2 : Hid (F2a.Nodup) := Lib.hid (by have := hn; simp only [List.nodup_append] at this; simp_all)
  have D1_2 : Hid (∀ g ∈ F1a, g ∉ F2a) := Lib.hid (fun g h1 h2 => by have h3 := hn; simp only [List.nodup_append, List.mem_append] at h3; simp only [List.not_mem_nil, or_false] at h3; grind)
  have D2_1 : Hid (∀ g ∈ F2a, g ∉ F1a) := Lib.hid (fun g h1 h2 => by have h3 := hn; simp only [List.nodup_append, List.mem_append] at h3; simp only [List.not_mem_nil, or_false] at h3; grind)
  have O1 := Lib.hid o1
  have P1 : Hid (∀ g ∈ F1a, g < w.heap.size) := Lib.hid (Cel.Own.lt _ _ _ o1)
  have O2 := Lib.hid o2
  have P2 : Hid (∀ g ∈ F2a, g < w.heap.size) := Lib.hid (Cel.Own.lt _ _ _ o2)
  rw [cPart_top] at hk
  have HZ := Lib.hid hz
  have HK := Lib.hid hk
  clear hn hb hz hk o1 o2
  have B0 := Lib.hid (below_bk w (.cells #[.int .i64 x.ser, .slice a1 x.st.length c1, .slice a2 x.ino.length c2] 35))
  have T0 := Lib.hid (Bk.alloc w #[.int .i64 x.ser, .slice a1 x.st.length c1, .slice a2 x.ino.length c2] 35)
  have U0 := Lib.hid (OutF.of_below (F := (F1a ++ (F2a ++ []))) B0.out)
  have O1_0 : Hid ((celRow cInt x.st).Own _ F1a _) := Lib.hid (Cel.Own.kept _ _ _ (fun g hg => B0.out.block g (P1.out g hg)) O1.out)
  have O2_0 : Hid ((celRow cIno x.ino).Own _ F2a _) := Lib.hid (Cel.Own.kept _ _ _ (fun g hg => B0.out.block g (P2.out g hg)) O2.out)
  clear O1 O2
  go_enter Tryz.func12, Tryz.ntmps12
  go_wp2_with fail
  refine (markIntS_any _ x.st F1a k _ _ (by omega) (by omega) (by have := HK.out; omega) (by have := HZ.out; rw [cPart_sz] at this; omega) N1.out O1_0.out).mono ?_
  rintro e w1 ⟨he, hu, hw⟩
  obtain ⟨k1, hq1⟩ : ∃ y, k + (celRow cInt x.st).cnt = y := ⟨_, rfl⟩
  rw [hq1] at he
  subst he
  have HQ1 := Lib.hid hq1
  have hb1 : 0 < k1 := by omega
  have hl1 : k1 ≤ 100000000 := by have := HK.out; omega
  have T1 : Hid (Bk w1 w.heap.size #[.int .i64 x.ser, .slice a1 x.st.length c1, .slice a2 x.ino.length c2] 35) := Lib.hid ((hu.block w.heap.size (fun h => by have := P1.out _ h; omega) T0.out.lt).trans T0.out)
  have U1 := Lib.hid (U0.out.trans (hu.mono (G := (F1a ++ (F2a ++ []))) (fun g hg => by simp only [List.mem_append]; simp [hg])))
  have O1_1 := Lib.hid hw
  have O2_1 := Lib.hid (Cel.Own.kept _ _ _ (fun g hg => hu.block g (D2_1.out g hg) (Cel.Own.lt _ _ _ O2_0.out g hg)) O2_0.out)
  have d1 := T1.out.cell (j := 2) rfl
  clear hu hw hq1 T0 U0 O1_0 O2_0
  go_wp2_with fail
  refine (markInoS_any _ x.ino F2a k1 _ _ (by omega) (by omega) (by have := HK.out; have := HQ1.out; omega) (by have := HZ.out; rw [cPart_sz] at this; omega) N2.out O2_1.out).mono ?_
  rintro e w2 ⟨he, hu, hw⟩
  obtain ⟨k2, hq2⟩ : ∃ y, k1 + (celRow cIno x.ino).cnt = y := ⟨_, rfl⟩
  rw [hq2] at he
  subst he
  have HQ2 := Lib.hid hq2
  have hb2 : 0 < k2 := by omega
  have hl2 : k2 ≤ 100000000 := by have := HK.out; have := HQ1.out; omega
  have T2 : Hid (Bk w2 w.heap.size #[.int .i64 x.ser, .slice a1 x.st.length c1, .slice a2 x.ino.length c2] 35) := Lib.hid ((hu.block w.heap.size (fun h => by have := P2.out _ h; omega) T1.out.lt).trans T1.out)
  have U2 := Lib.hid (U1.out.trans (hu.mono (G := (F1a ++ (F2a ++ []))) (fun g hg => by simp only [List.mem_append]; simp [hg])))
  have O2_2 := Lib.hid hw
  have O1_2 := Lib.hid (Cel.Own.kept _ _ _ (fun g hg => hu.block g (D1_2.out g hg) (Cel.Own.lt _ _ _ O1_1.out g hg)) O1_1.out)
  clear hu hw hq2 T1 U1 O1_1 O2_1
  go_wp2
  go_ret
  have E1 : ((celRow cInt x.st).mk k).Own w2 F1a (.slice a1 x.st.length c1) := by exact O1_2.out
  have E2 : ((celRow cIno x.ino).mk (k + (celRow cInt x.st).cnt)).Own w2 F2a (.slice a2 x.ino.length c2) := by rw [show (k + (celRow cInt x.st).cnt) = k1 by have := HQ1.out; have := HQ2.out; omega]; exact O2_2.out
  refine ⟨ret_i64m (by rw [cPart_top]; have := HQ1.out; have := HQ2.out; omega), OutR.of U2.out HB.out, (F1a ++ (F2a ++ [])), HN.out, HB.out, ⟨_, _, [], _, rfl, rfl, ⟨rfl, rfl⟩, ⟨_, _, F1a, _, rfl, rfl, E1, ⟨_, _, F2a, _, rfl, rfl, E2, ⟨rfl, rfl⟩⟩⟩⟩⟩
end Go.Proofs.YtmkchilhnmkhkabGreat
namespace Go.Proofs.YtmkchilhnmkhkabGreat
open Go.RowKit Go.Proofs.YtmkchilhnmkhkabGreat.Parts Go.Proofs.YtmkchilhnmkhkabGreat.Hexa Go.Proofs.YtmkchilhnmkhkabGreat.Byt

theorem specPW_obj (T P I Q t : Int) (p : PartR) (a1 : Option Addr) (c1 : Nat) (a2 : Option Addr) (c2 : Nat) (w : World) (h1 : (celRow cInt p.st).Rd w (.slice a1 p.st.length c1)) (h2 : (celRow cIno p.ino).Rd w (.slice a2 p.ino.length c2)) (hz : szL (cPart.cels p) ≤ 1048576) (ht : TyL (celsE cIno p.ino)) {r : List WriteR} (hr : pwR T P I Q t p = r) :
    Calls Tryz.prog 6 #[.agg #[.int .i64 T, .int .i64 P, .int .i64 I, .int .i64 Q], .int .i64 t, .agg #[.int .i64 p.ser, .slice a1 p.st.length c1, .slice a2 p.ino.length c2]] w fun e w' => ∃ v, e = .returned v ∧ Obj1 w' w.heap.size w'.heap.size (celRow cWrite r) v ∧ Below w.heap.size w w' := by
  subst hr
  exact (specPW_any T P I Q t p a1 c1 a2 c2 w h1 h2 hz ht).mono fun e w' h => h.obj
theorem implPW_obj (T P I Q t : Int) (p : PartR) (a1 : Option Addr) (c1 : Nat) (a2 : Option Addr) (c2 : Nat) (w : World) (h1 : (celRow cInt p.st).Rd w (.slice a1 p.st.length c1)) (h2 : (celRow cIno p.ino).Rd w (.slice a2 p.ino.length c2)) (hz : szL (cPart.cels p) ≤ 1048576) (ht : TyL (celsE cIno p.ino)) {r : List WriteR} (hr : pwR T P I Q t p = r) :
    Calls Tryz.prog 9 #[.agg #[.int .i64 T, .int .i64 P, .int .i64 I, .int .i64 Q], .int .i64 t, .agg #[.int .i64 p.ser, .slice a1 p.st.length c1, .slice a2 p.ino.length c2]] w fun e w' => ∃ v, e = .returned v ∧ Obj1 w' w.heap.size w'.heap.size (celRow cWrite r) v ∧ Below w.heap.size w w' := by
  subst hr
  exact (implPWr_any T P I Q t p a1 c1 a2 c2 w h1 h2 hz ht).mono fun e w' h => h.obj
theorem cntRecs : ∀ L : List RecR, cntL (celsE cRec L) = 3 * L.length
  | [] => rfl
  | x :: r => by rw [celsE, cntL_append, cRec_cnt, cntRecs r, List.length_cons]; omega
theorem cntEnts : ∀ L : List EntryR, cntL (celsE cEntry L) = 2 * L.length
  | [] => rfl
  | x :: r => by rw [celsE, cntL_append, cEntry_cnt, cntEnts r, List.length_cons]; omega
theorem cntNums : ∀ L : List Int, cntL (celsE cInt L) = L.length
  | [] => rfl
  | x :: r => by rw [celsE, cntL_append, cntNums r, List.length_cons]; show 1 + 0 + _ = _; omega
theorem cntInos : ∀ L : List InoR, cntL (celsE cIno L) ≤ 4 * (L.length + szL (celsE cIno L))
  | [] => Nat.zero_le _
  | x :: r => by
    have h1 := cntInos r
    have h2 : cntL (cIno.cels x) ≤ 4 + 4 * szL (cIno.cels x) := by
      rw [cIno_cnt, cIno_sz]
      have e1 : (celRow cRec x.R).cnt = cntL (celsE cRec x.R) := rfl
      have e2 : (celRow cEntry x.E).cnt = cntL (celsE cEntry x.E) := rfl
      have e3 := sz_row' cRec x.R
      have e4 := sz_row' cEntry x.E
      have e5 := cntRecs x.R
      have e6 := cntEnts x.E
      omega
    rw [celsE, cntL_append, szL_append, List.length_cons]
    omega
theorem part_marks (p : PartR) (h : szL (cPart.cels p) ≤ 1048576) : 1 + cntTop (cPart.cels p) ≤ 100000000 := by
  rw [cPart_top]
  rw [cPart_sz] at h
  have e1 : (celRow cInt p.st).cnt = cntL (celsE cInt p.st) := rfl
  have e2 : (celRow cIno p.ino).cnt = cntL (celsE cIno p.ino) := rfl
  have e3 := sz_row' cInt p.st
  have e4 := sz_row' cIno p.ino
  have e5 := cntNums p.st
  have e6 := cntInos p.ino
  omega
end Go.Proofs.YtmkchilhnmkhkabGreat
namespace Go.Proofs.YtmkchilhnmkhkabGreat
open Go.RowKit

set_option maxRecDepth 100000 in
set_option maxHeartbeats 1000000 in
theorem toGeo_any (T P I Q : Int) (w : World) : Calls Tryz.prog 7 #[.agg #[.int .i64 T, .int .i64 P, .int .i64 I, .int .i64 Q]] w fun e w' => e = .returned (.agg #[.int .i64 T, .int .i64 P, .int .i64 I, .int .i64 Q]) ∧ Below w.heap.size w w' := by
  go_enter Tryz.func7, Tryz.ntmps7
  go_wp2
  refine bodyPost_ret (v := .agg #[.int .i64 T, .int .i64 P, .int .i64 I, .int .i64 Q]) ?_ rfl ⟨rfl, ?_⟩
  · simp [results, Tryz.results7, go_sem]
  · exact (((Below.refl _ _).alloc (Nat.le_refl _) _).alloc (by simp) _).alloc (by simp; omega) _
end Go.Proofs.YtmkchilhnmkhkabGreat
namespace Go.Proofs.YtmkchilhnmkhkabGreat
open Go.RowKit Go.Proofs.YtmkchilhnmkhkabGreat.Parts Go.Proofs.YtmkchilhnmkhkabGreat.Hexa

set_option maxRecDepth 100000 in
set_option maxHeartbeats 1000000 in
theorem szIntS_any (v : Value) (L : List Int) (l0 : Int) (w : World) (hl0 : 0 ≤ l0) (hl1 : l0 ≤ 1048576) (hs : (celRow cInt L).Rd w v) (ht : (celRow cInt L).Ty) :
    Calls Tryz.prog 17 #[v, .int .i64 l0] w (SzPost ((celRow cInt L).sz) l0 w) := by
  obtain ⟨a, n, c, rfl, hn⟩ := row_form hs
  have hn0 : n ≤ 9223372036854775807 := by rw [← hn]; exact ht.1
  have hz : (celRow cInt L).sz = n := by
    have h1 : ∀ M : List Int, szL (celsE cInt M) = 0 := by
      intro M
      induction M with
      | nil => rfl
      | cons x r ih => rw [celsE, szL_append, ih]; rfl
    show L.length + szL (celsE cInt L) = n
    have := h1 L
    omega
  clear hs ht hn
  by_cases hlt0 : l0 - (n : Int) < 0
  · go_enter Tryz.func17, Tryz.ntmps17
    go_wp2
    go_ret
    exact ⟨-1, rfl, .inl (by omega), Below.refl _ _⟩
  · go_enter Tryz.func17, Tryz.ntmps17
    go_wp2
    go_ret
    refine ⟨_, rfl, .inr ⟨by omega, ?_⟩, Below.refl _ _⟩
    first | omega | (rw [hz]; omega)
end Go.Proofs.YtmkchilhnmkhkabGreat
namespace Go.Proofs.YtmkchilhnmkhkabGreat
open Go.RowKit Go.Proofs.YtmkchilhnmkhkabGreat.Parts Go.Proofs.YtmkchilhnmkhkabGreat.Hexa

set_option maxRecDepth 100000 in
set_option maxHeartbeats 1000000 in
theorem szRec_st (x : RecR) (l : Int) (w : World) (l0 : 0 ≤ l) (l1 : l ≤ 1048576) (ht : TyL (cRec.cels x)) :
    Calls Tryz.prog 95 #[.agg #[.int .i64 x.f0, .int .i64 x.f1, .string x.f2], .int .i64 l] w (SzPost (szL (cRec.cels x)) l w) := by
  have hz := cRec_sz x
  obtain ⟨t0, t1, t2, _⟩ := ht
  have k2 : x.f2.size ≤ 9223372036854775807 := Nat.le_trans t2 (by decide)
  clear t0 t1 t2
  have B0 := Lib.hid (below_bk w (.cells #[.int .i64 x.f0, .int .i64 x.f1, .string x.f2] 119))
  have T0 := Lib.hid (Bk.alloc w #[.int .i64 x.f0, .int .i64 x.f1, .string x.f2] 119)
  by_cases b2 : l - (x.f2.size : Int) < 0
  · go_enter Tryz.func95, Tryz.ntmps95
    go_wp2
    go_ret
    exact ⟨-1, rfl, .inl (by omega), B0.out⟩
  go_enter Tryz.func95, Tryz.ntmps95
  go_wp2
  go_ret
  refine ⟨_, rfl, .inr ⟨by omega, ?_⟩, B0.out⟩
  first | omega | (rw [hz]; omega)

end Go.Proofs.YtmkchilhnmkhkabGreat
namespace Go.Proofs.YtmkchilhnmkhkabGreat
open Go.RowKit Go.Proofs.YtmkchilhnmkhkabGreat.Parts Go.Proofs.YtmkchilhnmkhkabGreat.Hexa

set_option maxRecDepth 100000 in
set_option maxHeartbeats 1000000 in
theorem szRecS_any (v : Value) (L : List RecR) (l0 : Int) (w : World) (hl0 : 0 ≤ l0) (hl1 : l0 ≤ 1048576) (hs : (celRow cRec L).Rd w v) (ht : (celRow cRec L).Ty) :
    Calls Tryz.prog 73 #[v, .int .i64 l0] w (SzPost ((celRow cRec L).sz) l0 w) := by
  obtain ⟨a, n, c, rfl, hn⟩ := row_form hs
  have HS := Lib.hid hs
  have HT : Hid (TyL (celsE cRec L)) := Lib.hid ht.2
  have hn0 : n ≤ 9223372036854775807 := by rw [← hn]; exact ht.1
  have HZ : Hid ((celRow cRec L).sz = n + szL (celsE cRec L)) := Lib.hid (by rw [← hn]; rfl)
  have HN := Lib.hid hn
  clear hs ht hn
  by_cases hlt0 : l0 - (n : Int) < 0
  · go_enter Tryz.func73, Tryz.ntmps73
    go_wp2
    go_ret
    exact ⟨-1, rfl, .inl (by omega), Below.refl _ _⟩
  · go_enter Tryz.func73, Tryz.ntmps73
    go_wp2
    go_loopw [1, 5] (fun lv iv wr => ∃ (k : Nat) (l : Int), k ≤ n ∧ iv = .int .i64 k ∧ lv = .int .i64 l ∧ 0 ≤ l ∧ l ≤ l0 ∧ Hid (l + (n : Int) + (szL (celsE cRec (L.take k)) : Int) = l0) ∧ Below w.heap.size w wr) (fun _ iv _ => n - (intOf iv).toNat)
    case atStart => exact ⟨0, _, Nat.zero_le _, rfl, rfl, by omega, by omega, Lib.hid (by simp only [List.take_zero, celsE, szL]; omega), Below.refl _ _⟩
    case round =>
      obtain ⟨k, l, hk, rfl, rfl, h0, hl, HA, hbel⟩ := hrel
      by_cases hlt : k < n
      · have HX := Lib.hid (TyL_at cRec L k HT.out (by rw [HN.out]; exact hlt))
        have HQ := Lib.hid (szL_next cRec (L := L) (j := k) (by rw [HN.out]; exact hlt))
        obtain ⟨g, off, rfl, hg, d0, d1, d2⟩ := cRec_at (Cel.Rd.later hbel _ _ HS.out) k hlt
        obtain ⟨x, hx⟩ : ∃ x, L.getD k default = x := ⟨_, rfl⟩
        rw [hx] at d0 d1 d2  HX HQ
        clear hx
        go_wp2_with fail
        refine (szRec_st x l _ h0 (by omega) HX.out).mono ?_
        rintro e w1 ⟨r, rfl, hr, hb1⟩
        have hb2 : Below w.heap.size w w1 := hbel.trans (hb1.mono hbel.size)
        clear d0 d1 d2  hb1
        rcases hr with h1 | ⟨h1, h2⟩
        · go_wp2
          go_ret
          exact ⟨-1, rfl, .inl (by omega), hb2⟩
        · have HA2 : Hid (r + (n : Int) + (szL (celsE cRec (L.take (k + 1))) : Int) = l0) := Lib.hid (by have h3 := HQ.out; have h4 := HA.out; omega)
          have hr2 : r ≤ l0 := by omega
          clear HA HQ h2
          go_wp2
          go_roundw
          case rel => exact ⟨k + 1, r, by omega, by go_num, rfl, h1, hr2, HA2, hb2⟩
          case measure => (simp [intOf]; try omega)
      · obtain rfl : k = n := by omega
        go_wp2
        go_ret
        refine ⟨l, rfl, .inr ⟨h0, ?_⟩, hbel⟩
        have h9 := HA.out
        rw [List.take_of_length_le (by rw [HN.out]; omega)] at h9
        rw [HZ.out]
        omega

end Go.Proofs.YtmkchilhnmkhkabGreat
namespace Go.Proofs.YtmkchilhnmkhkabGreat
open Go.RowKit Go.Proofs.YtmkchilhnmkhkabGreat.Parts Go.Proofs.YtmkchilhnmkhkabGreat.Hexa

set_option maxRecDepth 100000 in
set_option maxHeartbeats 1000000 in
theorem szEntry_st (x : EntryR) (l : Int) (w : World) (l0 : 0 ≤ l) (l1 : l ≤ 1048576) (ht : TyL (cEntry.cels x)) :
    Calls Tryz.prog 96 #[.agg #[.int .i64 x.f0, .string x.f1], .int .i64 l] w (SzPost (szL (cEntry.cels x)) l w) := by
  have hz := cEntry_sz x
  obtain ⟨t0, t1, _⟩ := ht
  have k1 : x.f1.size ≤ 9223372036854775807 := Nat.le_trans t1 (by decide)
  clear t0 t1
  have B0 := Lib.hid (below_bk w (.cells #[.int .i64 x.f0, .string x.f1] 121))
  have T0 := Lib.hid (Bk.alloc w #[.int .i64 x.f0, .string x.f1] 121)
  by_cases b1 : l - (x.f1.size : Int) < 0
  · go_enter Tryz.func96, Tryz.ntmps96
    go_wp2
    go_ret
    exact ⟨-1, rfl, .inl (by omega), B0.out⟩
  go_enter Tryz.func96, Tryz.ntmps96
  go_wp2
  go_ret
  refine ⟨_, rfl, .inr ⟨by omega, ?_⟩, B0.out⟩
  first | omega | (rw [hz]; omega)

end Go.Proofs.YtmkchilhnmkhkabGreat
namespace Go.Proofs.YtmkchilhnmkhkabGreat
open Go.RowKit Go.Proofs.YtmkchilhnmkhkabGreat.Parts Go.Proofs.YtmkchilhnmkhkabGreat.Hexa

set_option maxRecDepth 100000 in
set_option maxHeartbeats 1000000 in
theorem szEntryS_any (v : Value) (L : List EntryR) (l0 : Int) (w : World) (hl0 : 0 ≤ l0) (hl1 : l0 ≤ 1048576) (hs : (celRow cEntry L).Rd w v) (ht : (celRow cEntry L).Ty) :
    Calls Tryz.prog 74 #[v, .int .i64 l0] w (SzPost ((celRow cEntry L).sz) l0 w) := by
  obtain ⟨a, n, c, rfl, hn⟩ := row_form hs
  have HS := Lib.hid hs
  have HT : Hid (TyL (celsE cEntry L)) := Lib.hid ht.2
  have hn0 : n ≤ 9223372036854775807 := by rw [← hn]; exact ht.1
  have HZ : Hid ((celRow cEntry L).sz = n + szL (celsE cEntry L)) := Lib.hid (by rw [← hn]; rfl)
  have HN := Lib.hid hn
  clear hs ht hn
  by_cases hlt0 : l0 - (n : Int) < 0
  · go_enter Tryz.func74, Tryz.ntmps74
    go_wp2
    go_ret
    exact ⟨-1, rfl, .inl (by omega), Below.refl _ _⟩
  · go_enter Tryz.func74, Tryz.ntmps74
    go_wp2
    go_loopw [1, 5] (fun lv iv wr => ∃ (k : Nat) (l : Int), k ≤ n ∧ iv = .int .i64 k ∧ lv = .int .i64 l ∧ 0 ≤ l ∧ l ≤ l0 ∧ Hid (l + (n : Int) + (szL (celsE cEntry (L.take k)) : Int) = l0) ∧ Below w.heap.size w wr) (fun _ iv _ => n - (intOf iv).toNat)
    case atStart => exact ⟨0, _, Nat.zero_le _, rfl, rfl, by omega, by omega, Lib.hid (by simp only [List.take_zero, celsE, szL]; omega), Below.refl _ _⟩
    case round =>
      obtain ⟨k, l, hk, rfl, rfl, h0, hl, HA, hbel⟩ := hrel
      by_cases hlt : k < n
      · have HX := Lib.hid (TyL_at cEntry L k HT.out (by rw [HN.out]; exact hlt))
        have HQ := Lib.hid (szL_next cEntry (L := L) (j := k) (by rw [HN.out]; exact hlt))
        obtain ⟨g, off, rfl, hg, d0, d1⟩ := cEntry_at (Cel.Rd.later hbel _ _ HS.out) k hlt
        obtain ⟨x, hx⟩ : ∃ x, L.getD k default = x := ⟨_, rfl⟩
        rw [hx] at d0 d1  HX HQ
        clear hx
        go_wp2_with fail
        refine (szEntry_st x l _ h0 (by omega) HX.out).mono ?_
        rintro e w1 ⟨r, rfl, hr, hb1⟩
        have hb2 : Below w.heap.size w w1 := hbel.trans (hb1.mono hbel.size)
        clear d0 d1  hb1
        rcases hr with h1 | ⟨h1, h2⟩
        · go_wp2
          go_ret
          exact ⟨-1, rfl, .inl (by omega), hb2⟩
        · have HA2 : Hid (r + (n : Int) + (szL (celsE cEntry (L.take (k + 1))) : Int) = l0) := Lib.hid (by have h3 := HQ.out; have h4 := HA.out; omega)
          have hr2 : r ≤ l0 := by omega
          clear HA HQ h2
          go_wp2
          go_roundw
          case rel => exact ⟨k + 1, r, by omega, by go_num, rfl, h1, hr2, HA2, hb2⟩
          case measure => (simp [intOf]; try omega)
      · obtain rfl : k = n := by omega
        go_wp2
        go_ret
        refine ⟨l, rfl, .inr ⟨h0, ?_⟩, hbel⟩
        have h9 := HA.out
        rw [List.take_of_length_le (by rw [HN.out]; omega)] at h9
        rw [HZ.out]
        omega

end Go.Proofs.YtmkchilhnmkhkabGreat
namespace Go.Proofs.YtmkchilhnmkhkabGreat
open Go.RowKit Go.Proofs.YtmkchilhnmkhkabGreat.Parts Go.Proofs.YtmkchilhnmkhkabGreat.Hexa

set_option maxRecDepth 100000 in
set_option maxHeartbeats 1000000 in
theorem szIno_st (x : InoR) (a4 : Option Addr) (c4 : Nat) (a5 : Option Addr) (c5 : Nat) (l : Int) (w : World) (l0 : 0 ≤ l) (l1 : l ≤ 1048576) (h4 : (celRow cRec x.R).Rd w (.slice a4 x.R.length c4)) (h5 : (celRow cEntry x.E).Rd w (.slice a5 x.E.length c5)) (ht : TyL (cIno.cels x)) :
    Calls Tryz.prog 37 #[.agg #[.int .i64 x.kd, .int .i64 x.sz, .int .i64 x.gn, .string x.key, .slice a4 x.R.length c4, .slice a5 x.E.length c5], .int .i64 l] w (SzPost (szL (cIno.cels x)) l w) := by
  have hz := cIno_sz x
  obtain ⟨t0, t1, t2, t3, t4, t5, _⟩ := ht
  have k3 : x.key.size ≤ 9223372036854775807 := Nat.le_trans t3 (by decide)
  clear t0 t1 t2 t3
  have HS4 := Lib.hid h4
  have HT4 := Lib.hid t4
  have HS5 := Lib.hid h5
  have HT5 := Lib.hid t5
  clear h4 t4 h5 t5
  have B0 := Lib.hid (below_bk w (.cells #[.int .i64 x.kd, .int .i64 x.sz, .int .i64 x.gn, .string x.key, .slice a4 x.R.length c4, .slice a5 x.E.length c5] 71))
  have T0 := Lib.hid (Bk.alloc w #[.int .i64 x.kd, .int .i64 x.sz, .int .i64 x.gn, .string x.key, .slice a4 x.R.length c4, .slice a5 x.E.length c5] 71)
  by_cases b3 : l - (x.key.size : Int) < 0
  · go_enter Tryz.func37, Tryz.ntmps37
    go_wp2
    go_ret
    exact ⟨-1, rfl, .inl (by omega), B0.out⟩
  obtain ⟨m0, hm0⟩ : ∃ m : Int, l - (x.key.size : Int) = m := ⟨_, rfl⟩
  have g0 : 0 ≤ m0 := by omega
  have g1 : m0 ≤ 1048576 := by omega
  have HM0 := Lib.hid hm0
  clear b3 k3
  have HZ := Lib.hid hz
  clear hz
  go_enter Tryz.func37, Tryz.ntmps37
  go_wp2_with fail
  clear hm0
  refine (szRecS_any _ x.R m0 _ g0 g1 (Cel.Rd.later B0.out _ _ HS4.out) HT4.out).mono ?_
  rintro e w1 ⟨m1, rfl, hr, hb⟩
  have B1 : Hid (Below w.heap.size w w1) := Lib.hid (B0.out.trans (hb.mono B0.out.size))
  have T1 := Lib.hid (T0.out.later hb)
  have d5 := T1.out.cell (j := 5) rfl
  clear hb
  rcases hr with hr | ⟨p0, p1⟩
  · go_wp2
    go_ret
    exact ⟨-1, rfl, .inl (by omega), B1.out⟩
  have HM1 := Lib.hid p1
  have g10 := p0
  have g11 : m1 ≤ 1048576 := by omega
  have q1 : ¬ (m1 < 0) := by omega
  clear p0 p1
  go_wp2_with fail
  refine (szEntryS_any _ x.E m1 _ g10 g11 (Cel.Rd.later B1.out _ _ HS5.out) HT5.out).mono ?_
  rintro e w2 ⟨m2, rfl, hr, hb⟩
  have B2 : Hid (Below w.heap.size w w2) := Lib.hid (B1.out.trans (hb.mono B1.out.size))
  have T2 := Lib.hid (T1.out.later hb)
  clear hb
  rcases hr with hr | ⟨p0, p1⟩
  · go_wp2
    go_ret
    exact ⟨-1, rfl, .inl (by omega), B2.out⟩
  have HM2 := Lib.hid p1
  have g20 := p0
  have g21 : m2 ≤ 1048576 := by omega
  have q2 : ¬ (m2 < 0) := by omega
  clear p0 p1
  go_wp2
  go_ret
  exact ⟨m2, rfl, .inr ⟨g20, by have := HZ.out; have := HM0.out; have := HM1.out; have := HM2.out; omega⟩, B2.out⟩

end Go.Proofs.YtmkchilhnmkhkabGreat
namespace Go.Proofs.YtmkchilhnmkhkabGreat
open Go.RowKit Go.Proofs.YtmkchilhnmkhkabGreat.Parts Go.Proofs.YtmkchilhnmkhkabGreat.Hexa

set_option maxRecDepth 100000 in
set_option maxHeartbeats 1000000 in
theorem szInoS_any (v : Value) (L : List InoR) (l0 : Int) (w : World) (hl0 : 0 ≤ l0) (hl1 : l0 ≤ 1048576) (hs : (celRow cIno L).Rd w v) (ht : (celRow cIno L).Ty) :
    Calls Tryz.prog 18 #[v, .int .i64 l0] w (SzPost ((celRow cIno L).sz) l0 w) := by
  obtain ⟨a, n, c, rfl, hn⟩ := row_form hs
  have HS := Lib.hid hs
  have HT : Hid (TyL (celsE cIno L)) := Lib.hid ht.2
  have hn0 : n ≤ 9223372036854775807 := by rw [← hn]; exact ht.1
  have HZ : Hid ((celRow cIno L).sz = n + szL (celsE cIno L)) := Lib.hid (by rw [← hn]; rfl)
  have HN := Lib.hid hn
  clear hs ht hn
  by_cases hlt0 : l0 - (n : Int) < 0
  · go_enter Tryz.func18, Tryz.ntmps18
    go_wp2
    go_ret
    exact ⟨-1, rfl, .inl (by omega), Below.refl _ _⟩
  · go_enter Tryz.func18, Tryz.ntmps18
    go_wp2
    go_loopw [1, 5] (fun lv iv wr => ∃ (k : Nat) (l : Int), k ≤ n ∧ iv = .int .i64 k ∧ lv = .int .i64 l ∧ 0 ≤ l ∧ l ≤ l0 ∧ Hid (l + (n : Int) + (szL (celsE cIno (L.take k)) : Int) = l0) ∧ Below w.heap.size w wr) (fun _ iv _ => n - (intOf iv).toNat)
    case atStart => exact ⟨0, _, Nat.zero_le _, rfl, rfl, by omega, by omega, Lib.hid (by simp only [List.take_zero, celsE, szL]; omega), Below.refl _ _⟩
    case round =>
      obtain ⟨k, l, hk, rfl, rfl, h0, hl, HA, hbel⟩ := hrel
      by_cases hlt : k < n
      · have HX := Lib.hid (TyL_at cIno L k HT.out (by rw [HN.out]; exact hlt))
        have HQ := Lib.hid (szL_next cIno (L := L) (j := k) (by rw [HN.out]; exact hlt))
        obtain ⟨g, off, a4, c4, a5, c5, rfl, hg, d0, d1, d2, d3, d4, d5, r4, r5⟩ := cIno_at (Cel.Rd.later hbel _ _ HS.out) k hlt
        obtain ⟨x, hx⟩ : ∃ x, L.getD k default = x := ⟨_, rfl⟩
        rw [hx] at d0 d1 d2 d3 d4 d5 r4 r5 HX HQ
        clear hx
        go_wp2_with fail
        refine (szIno_st x a4 c4 a5 c5 l _ h0 (by omega) r4 r5 HX.out).mono ?_
        rintro e w1 ⟨r, rfl, hr, hb1⟩
        have hb2 : Below w.heap.size w w1 := hbel.trans (hb1.mono hbel.size)
        clear d0 d1 d2 d3 d4 d5 r4 r5 hb1
        rcases hr with h1 | ⟨h1, h2⟩
        · go_wp2
          go_ret
          exact ⟨-1, rfl, .inl (by omega), hb2⟩
        · have HA2 : Hid (r + (n : Int) + (szL (celsE cIno (L.take (k + 1))) : Int) = l0) := Lib.hid (by have h3 := HQ.out; have h4 := HA.out; omega)
          have hr2 : r ≤ l0 := by omega
          clear HA HQ h2
          go_wp2
          go_roundw
          case rel => exact ⟨k + 1, r, by omega, by go_num, rfl, h1, hr2, HA2, hb2⟩
          case measure => (simp [intOf]; try omega)
      · obtain rfl : k = n := by omega
        go_wp2
        go_ret
        refine ⟨l, rfl, .inr ⟨h0, ?_⟩, hbel⟩
        have h9 := HA.out
        rw [List.take_of_length_le (by rw [HN.out]; omega)] at h9
        rw [HZ.out]
        omega

end Go.Proofs.YtmkchilhnmkhkabGreat
namespace Go.Proofs.YtmkchilhnmkhkabGreat
open Go.RowKit Go.Proofs.YtmkchilhnmkhkabGreat.Parts Go.Proofs.YtmkchilhnmkhkabGreat.Hexa

set_option maxRecDepth 100000 in
set_option maxHeartbeats 1000000 in
theorem szPart_st (x : PartR) (a1 : Option Addr) (c1 : Nat) (a2 : Option Addr) (c2 : Nat) (l : Int) (w : World) (l0 : 0 ≤ l) (l1 : l ≤ 1048576) (h1 : (celRow cInt x.st).Rd w (.slice a1 x.st.length c1)) (h2 : (celRow cIno x.ino).Rd w (.slice a2 x.ino.length c2)) (ht : TyL (cPart.cels x)) :
    Calls Tryz.prog 5 #[.agg #[.int .i64 x.ser, .slice a1 x.st.length c1, .slice a2 x.ino.length c2], .int .i64 l] w (SzPost (szL (cPart.cels x)) l w) := by
  have hz := cPart_sz x
  obtain ⟨t0, t1, t2, _⟩ := ht
  clear t0
  have HS1 := Lib.hid h1
  have HT1 := Lib.hid t1
  have HS2 := Lib.hid h2
  have HT2 := Lib.hid t2
  clear h1 t1 h2 t2
  have B0 := Lib.hid (below_bk w (.cells #[.int .i64 x.ser, .slice a1 x.st.length c1, .slice a2 x.ino.length c2] 27))
  have T0 := Lib.hid (Bk.alloc w #[.int .i64 x.ser, .slice a1 x.st.length c1, .slice a2 x.ino.length c2] 27)
  obtain ⟨m0, hm0⟩ : ∃ m : Int, l = m := ⟨_, rfl⟩
  subst hm0
  have hm0 : l = l := rfl
  have g0 := l0
  have g1 := l1
  have HM0 : Hid (l = l) := Lib.hid hm0
  have HZ := Lib.hid hz
  clear hz
  go_enter Tryz.func5, Tryz.ntmps5
  go_wp2_with fail
  refine (szIntS_any _ x.st l _ g0 g1 (Cel.Rd.later B0.out _ _ HS1.out) HT1.out).mono ?_
  rintro e w1 ⟨m1, rfl, hr, hb⟩
  have B1 : Hid (Below w.heap.size w w1) := Lib.hid (B0.out.trans (hb.mono B0.out.size))
  have T1 := Lib.hid (T0.out.later hb)
  have d2 := T1.out.cell (j := 2) rfl
  clear hb
  rcases hr with hr | ⟨p0, p1⟩
  · go_wp2
    go_ret
    exact ⟨-1, rfl, .inl (by omega), B1.out⟩
  have HM1 := Lib.hid p1
  have g10 := p0
  have g11 : m1 ≤ 1048576 := by omega
  have q1 : ¬ (m1 < 0) := by omega
  clear p0 p1
  go_wp2_with fail
  refine (szInoS_any _ x.ino m1 _ g10 g11 (Cel.Rd.later B1.out _ _ HS2.out) HT2.out).mono ?_
  rintro e w2 ⟨m2, rfl, hr, hb⟩
  have B2 : Hid (Below w.heap.size w w2) := Lib.hid (B1.out.trans (hb.mono B1.out.size))
  have T2 := Lib.hid (T1.out.later hb)
  clear hb
  rcases hr with hr | ⟨p0, p1⟩
  · go_wp2
    go_ret
    exact ⟨-1, rfl, .inl (by omega), B2.out⟩
  have HM2 := Lib.hid p1
  have g20 := p0
  have g21 : m2 ≤ 1048576 := by omega
  have q2 : ¬ (m2 < 0) := by omega
  clear p0 p1
  go_wp2
  go_ret
  exact ⟨m2, rfl, .inr ⟨g20, by have := HZ.out; have := HM0.out; have := HM1.out; have := HM2.out; omega⟩, B2.out⟩

end Go.Proofs.YtmkchilhnmkhkabGreat
namespace Go.Proofs.YtmkchilhnmkhkabGreat
open Go.RowKit Go.Proofs.YtmkchilhnmkhkabGreat.Parts Go.Proofs.YtmkchilhnmkhkabGreat.Hexa

/-- What the copy returns. -/
def CopyPost (n : Nat) (zs : List Int) (w : World) (e : Ending) (w' : World) : Prop :=
  e = .returned (.slice (some ⟨w.heap.size, 0, none⟩) n n) ∧ w'.ownsRow w.heap.size 3 1 (.slice (some ⟨w.heap.size, 0, none⟩) n n) n (icells zs) ∧ Below w.heap.size w w'

set_option maxRecDepth 100000 in
set_option maxHeartbeats 1000000 in
theorem toInts_any (a : Option Addr) (n c : Nat) (zs : List Int) (w : World) (hs : SrcI w a n zs) (hn : n ≤ 10000000) :
    Calls Tryz.prog 22 #[.slice a n c] w (CopyPost n zs w) := by
  obtain ⟨i0, hi, hz0, hz1, hz2⟩ := info_parts infoInt
  have HS := Lib.hid hs
  clear hs
  go_enter Tryz.func22, Tryz.ntmps22
  go_wp2_with (at_make; refine wpList_make_full _ rfl _ _ 24 rfl w.heap.size 3 i0 (.int .i64 0) 1 Tryz.underlying24 hi hz0 hz1 .i64 .i64 _ _ n rfl rfl rfl rfl (by rw [hz2]; omega) (by unfold maxLen; omega) (Nat.le_refl _) ?_; intro w0 hown0 hgrow0)
  have hg0 : Below w.heap.size w w0 := (Below.refl _ _).grown hgrow0 (Nat.le_refl _) (fun k h => by cases h)
  have HO0 := Lib.hid hown0
  clear hown0 hgrow0
  go_loopw [4] (fun iv wr => ∃ (k : Nat) (xs : List Value), k ≤ n ∧ iv = .int .i64 k ∧ Hid (wr.ownsRow w.heap.size 3 1 (.slice (some ⟨w.heap.size, 0, none⟩) n n) n xs) ∧ Hid (∀ j, j < k → xs[j]? = (icells zs)[j]?) ∧ Below w.heap.size w wr)
    (fun iv _ => n - (intOf iv).toNat)
  case atStart => exact ⟨0, _, Nat.zero_le _, rfl, HO0, Lib.hid (fun j hj => by omega), hg0⟩
  case round =>
    clear HO0 hg0
    obtain ⟨k, xs, hk, rfl, HW, HX, hbel⟩ := hrel
    have hxl : Hid (xs.length = n) := Lib.hid (own_length HW.out)
    by_cases hlt : k < n
    · obtain ⟨g, off, rfl, hgl, hc⟩ := HS.out.cell k hlt
      have hc0 : wr.cell? ⟨g, off + k, none⟩ = some (.int .i64 (zs.getD k 0)) := by rw [hbel.cell hgl]; exact hc
      have HE : Hid ((icells zs)[k]? = some (.int .i64 (zs.getD k 0))) := Lib.hid (by
        have hk' : k < zs.length := by have := HS.out.len; omega
        simp [icells, List.getD, hk'])
      obtain ⟨z, hz⟩ : ∃ z, zs.getD k 0 = z := ⟨_, rfl⟩
      rw [hz] at hc0 HE
      have c3 : ∃ v, wr.cell? ⟨w.heap.size, k, none⟩ = some v := ⟨xs[k]'(by have := hxl.out; omega), by rw [HW.out.cellAt k (by omega)]; simp [hxl.out, hlt]⟩
      obtain ⟨v3, c3⟩ := c3
      have z3 := HW.out.frozenAt k
      have O1 := Lib.hid (HW.out.stored k (.int .i64 z)).1
      have hb1 : Below w.heap.size w (wr.setCell ⟨w.heap.size, k, none⟩ (.int .i64 z)) := hbel.setCell (Nat.le_refl _) _
      have X1 : Hid (∀ j, j < k + 1 → (xs.set k (.int .i64 z))[j]? = (icells zs)[j]?) := Lib.hid (fun j hj => by
        by_cases e : j = k
        · subst e; rw [List.getElem?_set_self (by have := hxl.out; omega), HE.out]
        · rw [List.getElem?_set_ne (by omega)]; exact HX.out j (by omega))
      clear hc hz
      go_wp2
      go_roundw
      case rel => exact ⟨k + 1, _, by omega, by go_num, O1, X1, hb1⟩
      case measure => (simp [intOf]; try omega)
    · obtain rfl : k = n := by omega
      have hfin : xs = icells zs := by
        apply List.ext_getElem?
        intro j
        by_cases hj : j < k
        · exact HX.out j hj
        · rw [List.getElem?_eq_none (by have := hxl.out; omega), List.getElem?_eq_none (by rw [icells_length]; have := HS.out.len; omega)]
      have ho := HW.out
      rw [hfin] at ho
      have HO := Lib.hid ho
      clear ho hfin
      go_wp2
      go_ret
      exact ⟨rfl, HO.out, hbel⟩

end Go.Proofs.YtmkchilhnmkhkabGreat
namespace Go.Proofs.YtmkchilhnmkhkabGreat
open Go.RowKit Go.Proofs.YtmkchilhnmkhkabGreat.Parts Go.Proofs.YtmkchilhnmkhkabGreat.Hexa

theorem toIntS_any (v : Value) (L : List Int) (w : World) (hs : (celRow cInt L).Rd w v) (hz : (celRow cInt L).sz ≤ 1048576) :
    Calls Tryz.prog 22 #[v] w (ToPost (celRow cInt L) w) := by
  obtain ⟨a, n, c, rfl, hn⟩ := row_form hs
  rw [szInts_eq, hn] at hz
  refine (toInts_any a n c L w (srcI_of_rd hs) (by omega)).mono ?_
  rintro e w' ⟨rfl, ho, hb⟩
  exact ⟨_, rfl, obj_ints ho (Nat.le_refl _) (Nat.le_refl _), hb⟩
end Go.Proofs.YtmkchilhnmkhkabGreat
namespace Go.Proofs.YtmkchilhnmkhkabGreat
open Go.RowKit Go.Proofs.YtmkchilhnmkhkabGreat.Parts Go.Proofs.YtmkchilhnmkhkabGreat.Hexa

set_option maxRecDepth 100000 in
set_option maxHeartbeats 1000000 in
theorem toRec_st (x : RecR) (w : World) (_ : szL (cRec.cels x) ≤ 1048576) :
    Calls Tryz.prog 99 #[.agg #[.int .i64 x.f0, .int .i64 x.f1, .string x.f2]] w (ToPostS (cRec.cels x) w) := by
  go_enter Tryz.func99, Tryz.ntmps99
  go_wp2
  refine bodyPost_ret (v := .agg #[.int .i64 x.f0, .int .i64 x.f1, .string x.f2]) ?_ rfl ⟨_, rfl, (((Objs.nil _ _ _).val _).val _).val _, (((Below.refl _ _).alloc (Nat.le_refl _) _).alloc (by simp) _).alloc (by simp; omega) _⟩
  simp [results, Tryz.results99, go_sem]

end Go.Proofs.YtmkchilhnmkhkabGreat
namespace Go.Proofs.YtmkchilhnmkhkabGreat
open Go.RowKit Go.Proofs.YtmkchilhnmkhkabGreat.Parts Go.Proofs.YtmkchilhnmkhkabGreat.Hexa

set_option maxRecDepth 100000 in
set_option maxHeartbeats 1000000 in
theorem toRecS_any (v : Value) (L : List RecR) (w : World) (hs : (celRow cRec L).Rd w v) (hz : (celRow cRec L).sz ≤ 1048576) :
    Calls Tryz.prog 83 #[v] w (ToPost (celRow cRec L) w) := by
  obtain ⟨i0, hi, hz0, hz1, hz2⟩ := info_parts infoRecD
  obtain ⟨a, n, c, rfl, hn⟩ := row_form hs
  have HS := Lib.hid hs
  have hz' : n + szL (celsE cRec L) ≤ 1048576 := by rw [← hn]; exact hz
  have hn1 : n ≤ 1048576 := by omega
  have HZ : Hid (szL (celsE cRec L) ≤ 1048576) := Lib.hid (by omega)
  have HN := Lib.hid hn
  clear hs hz hz' hn
  go_enter Tryz.func83, Tryz.ntmps83
  go_wp2_with (at_make; refine wpList_make_full _ rfl _ _ 54 rfl w.heap.size 94 i0 _ 3 Tryz.underlying54 hi hz0 hz1 .i64 .i64 _ _ n rfl rfl rfl rfl (by rw [hz2]; omega) (by unfold maxLen; omega) (Nat.le_refl _) ?_; intro w0 hown0 hgrow0)
  have hg0 : Below w.heap.size w w0 := (Below.refl _ _).grown hgrow0 (Nat.le_refl _) (fun k h => by cases h)
  have HO0 : Hid (Part2 cRec L w0 w.heap.size n 0) := Lib.hid (Part2.start hown0)
  clear hown0 hgrow0
  go_loopw [4] (fun iv wr => ∃ (k : Nat), k ≤ n ∧ iv = .int .i64 k ∧ Hid (Part2 cRec L wr w.heap.size n k) ∧ Below w.heap.size w wr)
    (fun iv _ => n - (intOf iv).toNat)
  case atStart => exact ⟨0, Nat.zero_le _, rfl, HO0, hg0⟩
  case round =>
    clear HO0 hg0
    obtain ⟨k, hk, rfl, HW, hbel⟩ := hrel
    by_cases hlt : k < n
    · have HX : Hid (szL (cRec.cels (L.getD k default)) ≤ 1048576) := Lib.hid (Nat.le_trans (szL_at cRec L k (by rw [HN.out]; exact hlt)) HZ.out)
      obtain ⟨g, off, rfl, hg, d0, d1, d2⟩ := cRec_at (Cel.Rd.later hbel _ _ HS.out) k hlt
      have HV : Hid (∀ (w1 : World) (hi : Nat) (vs : List Value), Below wr.heap.size wr w1 → Objs w1 wr.heap.size hi (cRec.cels (L.getD k default)) vs → Part2 cRec L (w1.setCells w.heap.size (k * 3) vs) w.heap.size n (k + 1)) :=
        Lib.hid (fun w1 hi vs hb ho => HW.out.next HN.out hlt hb ho)
      obtain ⟨x, hx⟩ : ∃ x, L.getD k default = x := ⟨_, rfl⟩
      rw [hx] at d0 d1 d2  HX HV
      clear hx
      go_wp2_with fail
      refine (toRec_st x _ HX.out).mono ?_
      rintro e w1 ⟨vs, rfl, ho, hb1⟩
      have hbx : Below w.heap.size w w1 := hbel.trans (hb1.mono hbel.size)
      have O1 := Lib.hid (HV.out w1 _ vs hb1 ho)
      obtain rfl := cRec_form ho.rd
      obtain ⟨xs, G, hrow, _, _, _⟩ := (HW.out.later hb1).ex
      have HW1 := Lib.hid hrow
      clear hrow
      obtain ⟨v0, e0⟩ := ownE_cell HW1.out (j := k * 3) (by show k * 3 < n * 3; omega)
      obtain ⟨v1, e1⟩ := ownE_cell HW1.out (j := k * 3 + 1) (by show k * 3 + 1 < n * 3; omega)
      obtain ⟨v2, e2⟩ := ownE_cell HW1.out (j := k * 3 + 2) (by show k * 3 + 2 < n * 3; omega)
      have z0 := HW1.out.frozenAt (k * 3)
      have z1 := HW1.out.frozenAt (k * 3 + 1)
      have z2 := HW1.out.frozenAt (k * 3 + 2)
      have hb2 := Lib.hid (below_sets (Nat.le_refl w.heap.size) [.int .i64 x.f0, .int .i64 x.f1, .string x.f2] (k * 3) hbx)
      clear d0 d1 d2  hb1 hbx ho HW
      go_wp2
      go_roundw
      case rel => exact ⟨k + 1, by omega, by go_num, O1, hb2.out⟩
      case measure => (simp [intOf]; try omega)
    · obtain rfl : k = n := by omega
      have HO := Lib.hid (HW.out.done HN.out)
      go_wp2
      go_ret
      exact ⟨_, rfl, HO.out, hbel⟩

end Go.Proofs.YtmkchilhnmkhkabGreat
namespace Go.Proofs.YtmkchilhnmkhkabGreat
open Go.RowKit Go.Proofs.YtmkchilhnmkhkabGreat.Parts Go.Proofs.YtmkchilhnmkhkabGreat.Hexa

set_option maxRecDepth 100000 in
set_option maxHeartbeats 1000000 in
theorem toEntry_st (x : EntryR) (w : World) (_ : szL (cEntry.cels x) ≤ 1048576) :
    Calls Tryz.prog 100 #[.agg #[.int .i64 x.f0, .string x.f1]] w (ToPostS (cEntry.cels x) w) := by
  go_enter Tryz.func100, Tryz.ntmps100
  go_wp2
  refine bodyPost_ret (v := .agg #[.int .i64 x.f0, .string x.f1]) ?_ rfl ⟨_, rfl, ((Objs.nil _ _ _).val _).val _, (((Below.refl _ _).alloc (Nat.le_refl _) _).alloc (by simp) _).alloc (by simp; omega) _⟩
  simp [results, Tryz.results100, go_sem]

end Go.Proofs.YtmkchilhnmkhkabGreat
namespace Go.Proofs.YtmkchilhnmkhkabGreat
open Go.RowKit Go.Proofs.YtmkchilhnmkhkabGreat.Parts Go.Proofs.YtmkchilhnmkhkabGreat.Hexa

set_option maxRecDepth 100000 in
set_option maxHeartbeats 1000000 in
theorem toEntryS_any (v : Value) (L : List EntryR) (w : World) (hs : (celRow cEntry L).Rd w v) (hz : (celRow cEntry L).sz ≤ 1048576) :
    Calls Tryz.prog 84 #[v] w (ToPost (celRow cEntry L) w) := by
  obtain ⟨i0, hi, hz0, hz1, hz2⟩ := info_parts infoEntryD
  obtain ⟨a, n, c, rfl, hn⟩ := row_form hs
  have HS := Lib.hid hs
  have hz' : n + szL (celsE cEntry L) ≤ 1048576 := by rw [← hn]; exact hz
  have hn1 : n ≤ 1048576 := by omega
  have HZ : Hid (szL (celsE cEntry L) ≤ 1048576) := Lib.hid (by omega)
  have HN := Lib.hid hn
  clear hs hz hz' hn
  go_enter Tryz.func84, Tryz.ntmps84
  go_wp2_with (at_make; refine wpList_make_full _ rfl _ _ 55 rfl w.heap.size 77 i0 _ 2 Tryz.underlying55 hi hz0 hz1 .i64 .i64 _ _ n rfl rfl rfl rfl (by rw [hz2]; omega) (by unfold maxLen; omega) (Nat.le_refl _) ?_; intro w0 hown0 hgrow0)
  have hg0 : Below w.heap.size w w0 := (Below.refl _ _).grown hgrow0 (Nat.le_refl _) (fun k h => by cases h)
  have HO0 : Hid (Part2 cEntry L w0 w.heap.size n 0) := Lib.hid (Part2.start hown0)
  clear hown0 hgrow0
  go_loopw [4] (fun iv wr => ∃ (k : Nat), k ≤ n ∧ iv = .int .i64 k ∧ Hid (Part2 cEntry L wr w.heap.size n k) ∧ Below w.heap.size w wr)
    (fun iv _ => n - (intOf iv).toNat)
  case atStart => exact ⟨0, Nat.zero_le _, rfl, HO0, hg0⟩
  case round =>
    clear HO0 hg0
    obtain ⟨k, hk, rfl, HW, hbel⟩ := hrel
    by_cases hlt : k < n
    · have HX : Hid (szL (cEntry.cels (L.getD k default)) ≤ 1048576) := Lib.hid (Nat.le_trans (szL_at cEntry L k (by rw [HN.out]; exact hlt)) HZ.out)
      obtain ⟨g, off, rfl, hg, d0, d1⟩ := cEntry_at (Cel.Rd.later hbel _ _ HS.out) k hlt
      have HV : Hid (∀ (w1 : World) (hi : Nat) (vs : List Value), Below wr.heap.size wr w1 → Objs w1 wr.heap.size hi (cEntry.cels (L.getD k default)) vs → Part2 cEntry L (w1.setCells w.heap.size (k * 2) vs) w.heap.size n (k + 1)) :=
        Lib.hid (fun w1 hi vs hb ho => HW.out.next HN.out hlt hb ho)
      obtain ⟨x, hx⟩ : ∃ x, L.getD k default = x := ⟨_, rfl⟩
      rw [hx] at d0 d1  HX HV
      clear hx
      go_wp2_with fail
      refine (toEntry_st x _ HX.out).mono ?_
      rintro e w1 ⟨vs, rfl, ho, hb1⟩
      have hbx : Below w.heap.size w w1 := hbel.trans (hb1.mono hbel.size)
      have O1 := Lib.hid (HV.out w1 _ vs hb1 ho)
      obtain rfl := cEntry_form ho.rd
      obtain ⟨xs, G, hrow, _, _, _⟩ := (HW.out.later hb1).ex
      have HW1 := Lib.hid hrow
      clear hrow
      obtain ⟨v0, e0⟩ := ownE_cell HW1.out (j := k * 2) (by show k * 2 < n * 2; omega)
      obtain ⟨v1, e1⟩ := ownE_cell HW1.out (j := k * 2 + 1) (by show k * 2 + 1 < n * 2; omega)
      have z0 := HW1.out.frozenAt (k * 2)
      have z1 := HW1.out.frozenAt (k * 2 + 1)
      have hb2 := Lib.hid (below_sets (Nat.le_refl w.heap.size) [.int .i64 x.f0, .string x.f1] (k * 2) hbx)
      clear d0 d1  hb1 hbx ho HW
      go_wp2
      go_roundw
      case rel => exact ⟨k + 1, by omega, by go_num, O1, hb2.out⟩
      case measure => (simp [intOf]; try omega)
    · obtain rfl : k = n := by omega
      have HO := Lib.hid (HW.out.done HN.out)
      go_wp2
      go_ret
      exact ⟨_, rfl, HO.out, hbel⟩

end Go.Proofs.YtmkchilhnmkhkabGreat
namespace Go.Proofs.YtmkchilhnmkhkabGreat
open Go.RowKit Go.Proofs.YtmkchilhnmkhkabGreat.Parts Go.Proofs.YtmkchilhnmkhkabGreat.Hexa

set_option maxRecDepth 100000 in
set_option maxHeartbeats 1000000 in
theorem toIno_st (x : InoR) (a4 : Option Addr) (c4 : Nat) (a5 : Option Addr) (c5 : Nat) (w : World) (h4 : (celRow cRec x.R).Rd w (.slice a4 x.R.length c4)) (h5 : (celRow cEntry x.E).Rd w (.slice a5 x.E.length c5)) (hz : szL (cIno.cels x) ≤ 1048576) :
    Calls Tryz.prog 50 #[.agg #[.int .i64 x.kd, .int .i64 x.sz, .int .i64 x.gn, .string x.key, .slice a4 x.R.length c4, .slice a5 x.E.length c5]] w (ToPostS (cIno.cels x) w) := by
  rw [cIno_sz] at hz
  have HS4 := Lib.hid h4
  have HS5 := Lib.hid h5
  clear h4 h5
  have B0 := Lib.hid (below_bk w (.cells #[.int .i64 x.kd, .int .i64 x.sz, .int .i64 x.gn, .string x.key, .slice a4 x.R.length c4, .slice a5 x.E.length c5] 71))
  have W1 : Hid (Bk (w.alloc (.cells #[.int .i64 x.kd, .int .i64 x.sz, .int .i64 x.gn, .string x.key, .slice a4 x.R.length c4, .slice a5 x.E.length c5] 71)) w.heap.size #[.int .i64 x.kd, .int .i64 x.sz, .int .i64 x.gn, .string x.key, .slice a4 x.R.length c4, .slice a5 x.E.length c5] 71) := Lib.hid (Bk.alloc w _ _)
  go_enter Tryz.func50, Tryz.ntmps50
  go_wp2_with fail
  have hb1 := below_bk (w.alloc (.cells #[.int .i64 x.kd, .int .i64 x.sz, .int .i64 x.gn, .string x.key, .slice a4 x.R.length c4, .slice a5 x.E.length c5] 71)) (.cells #[.int .i64 0, .int .i64 0, .int .i64 0, .string ⟨#[]⟩, .slice none 0 0, .slice none 0 0] 57)
  have hb2 := below_bk ((w.alloc (.cells #[.int .i64 x.kd, .int .i64 x.sz, .int .i64 x.gn, .string x.key, .slice a4 x.R.length c4, .slice a5 x.E.length c5] 71)).alloc (.cells #[.int .i64 0, .int .i64 0, .int .i64 0, .string ⟨#[]⟩, .slice none 0 0, .slice none 0 0] 57)) (.cells #[.int .i64 x.kd, .int .i64 x.sz, .int .i64 x.gn, .string x.key, .slice none 0 0, .slice none 0 0] 57)
  have T0 := Lib.hid ((W1.out.later hb1).later hb2)
  have Z0 : Hid (Bk (((w.alloc (.cells #[.int .i64 x.kd, .int .i64 x.sz, .int .i64 x.gn, .string x.key, .slice a4 x.R.length c4, .slice a5 x.E.length c5] 71)).alloc (.cells #[.int .i64 0, .int .i64 0, .int .i64 0, .string ⟨#[]⟩, .slice none 0 0, .slice none 0 0] 57)).alloc (.cells #[.int .i64 x.kd, .int .i64 x.sz, .int .i64 x.gn, .string x.key, .slice none 0 0, .slice none 0 0] 57)) (w.heap.size + 1) #[.int .i64 0, .int .i64 0, .int .i64 0, .string ⟨#[]⟩, .slice none 0 0, .slice none 0 0] 57) := Lib.hid (by
    have h := (Bk.alloc (w.alloc (.cells #[.int .i64 x.kd, .int .i64 x.sz, .int .i64 x.gn, .string x.key, .slice a4 x.R.length c4, .slice a5 x.E.length c5] 71)) #[.int .i64 0, .int .i64 0, .int .i64 0, .string ⟨#[]⟩, .slice none 0 0, .slice none 0 0] 57).later hb2
    simpa using h)
  have O0 : Hid (Bk (((w.alloc (.cells #[.int .i64 x.kd, .int .i64 x.sz, .int .i64 x.gn, .string x.key, .slice a4 x.R.length c4, .slice a5 x.E.length c5] 71)).alloc (.cells #[.int .i64 0, .int .i64 0, .int .i64 0, .string ⟨#[]⟩, .slice none 0 0, .slice none 0 0] 57)).alloc (.cells #[.int .i64 x.kd, .int .i64 x.sz, .int .i64 x.gn, .string x.key, .slice none 0 0, .slice none 0 0] 57)) (w.heap.size + 1 + 1) #[.int .i64 x.kd, .int .i64 x.sz, .int .i64 x.gn, .string x.key, .slice none 0 0, .slice none 0 0] 57) := Lib.hid (by
    have h := Bk.alloc ((w.alloc (.cells #[.int .i64 x.kd, .int .i64 x.sz, .int .i64 x.gn, .string x.key, .slice a4 x.R.length c4, .slice a5 x.E.length c5] 71)).alloc (.cells #[.int .i64 0, .int .i64 0, .int .i64 0, .string ⟨#[]⟩, .slice none 0 0, .slice none 0 0] 57)) #[.int .i64 x.kd, .int .i64 x.sz, .int .i64 x.gn, .string x.key, .slice none 0 0, .slice none 0 0] 57
    simpa using h)
  have B3 : Hid (Below w.heap.size w (((w.alloc (.cells #[.int .i64 x.kd, .int .i64 x.sz, .int .i64 x.gn, .string x.key, .slice a4 x.R.length c4, .slice a5 x.E.length c5] 71)).alloc (.cells #[.int .i64 0, .int .i64 0, .int .i64 0, .string ⟨#[]⟩, .slice none 0 0, .slice none 0 0] 57)).alloc (.cells #[.int .i64 x.kd, .int .i64 x.sz, .int .i64 x.gn, .string x.key, .slice none 0 0, .slice none 0 0] 57))) := Lib.hid ((B0.out.alloc B0.out.size _).alloc (by simp; omega) _)
  have N0 : Hid ((((w.alloc (.cells #[.int .i64 x.kd, .int .i64 x.sz, .int .i64 x.gn, .string x.key, .slice a4 x.R.length c4, .slice a5 x.E.length c5] 71)).alloc (.cells #[.int .i64 0, .int .i64 0, .int .i64 0, .string ⟨#[]⟩, .slice none 0 0, .slice none 0 0] 57)).alloc (.cells #[.int .i64 x.kd, .int .i64 x.sz, .int .i64 x.gn, .string x.key, .slice none 0 0, .slice none 0 0] 57)).heap.size = w.heap.size + 3) := Lib.hid (by simp)
  obtain ⟨V0, hV0⟩ : ∃ y, y = (((w.alloc (.cells #[.int .i64 x.kd, .int .i64 x.sz, .int .i64 x.gn, .string x.key, .slice a4 x.R.length c4, .slice a5 x.E.length c5] 71)).alloc (.cells #[.int .i64 0, .int .i64 0, .int .i64 0, .string ⟨#[]⟩, .slice none 0 0, .slice none 0 0] 57)).alloc (.cells #[.int .i64 x.kd, .int .i64 x.sz, .int .i64 x.gn, .string x.key, .slice none 0 0, .slice none 0 0] 57)) := ⟨_, rfl⟩
  rw [← hV0] at T0 Z0 O0 B3 N0 ⊢
  clear hV0 hb1 hb2 B0 W1
  have SZ0 : Hid (w.heap.size + 3 ≤ V0.heap.size) := Lib.hid (by have := N0.out; omega)
  clear N0
  refine (toRecS_any _ x.R _ (Cel.Rd.later B3.out _ _ HS4.out) (by omega)).mono ?_
  rintro e w1 ⟨u4, rfl, ho, hb⟩
  obtain ⟨p4, m4, s4, rfl, hm⟩ := row_form ho.rd
  subst hm
  have T1a := Lib.hid (T0.out.later hb)
  have Z1a := Lib.hid (Z0.out.later hb)
  have O1a := Lib.hid (O0.out.later hb)
  have B1a : Hid (Below w.heap.size w w1) := Lib.hid (B3.out.trans (hb.mono B3.out.size))
  have SZ1a : Hid (V0.heap.size ≤ w1.heap.size) := Lib.hid hb.size
  have J4_1 := Lib.hid ho
  clear hb ho T0 Z0 O0 B3
  have x4 := O1a.out.cell (j := 4) rfl
  have f4 := O1a.out.fr (o := 4)
  have O2 := Lib.hid (O1a.out.set 4 (.slice p4 x.R.length s4))
  have T2 := Lib.hid (T1a.out.other (c := w.heap.size + 1 + 1) (o := 4) (by omega) (.slice p4 x.R.length s4))
  have Z2 := Lib.hid (Z1a.out.other (c := w.heap.size + 1 + 1) (o := 4) (by omega) (.slice p4 x.R.length s4))
  have B2 : Hid (Below w.heap.size w (w1.setCell ⟨w.heap.size + 1 + 1, 4, none⟩ (.slice p4 x.R.length s4))) := Lib.hid (B1a.out.setCell (by show w.heap.size ≤ w.heap.size + 1 + 1; omega) _)
  have J4_2 := Lib.hid (J4_1.out.kept (w' := w1.setCell ⟨w.heap.size + 1 + 1, 4, none⟩ (.slice p4 x.R.length s4)) (fun g h1 h2 => Below.heap_setCell _ _ _ _ (by show g ≠ w.heap.size + 1 + 1; have := SZ0.out; have := SZ1a.out; omega)))
  clear J4_1
  have t2_5 := T2.out.cell (j := 5) rfl
  clear B1a T1a Z1a O1a
  go_wp2_with fail
  obtain ⟨V2, hV⟩ : ∃ y, y = (w1.setCell ⟨w.heap.size + 1 + 1, 4, none⟩ (.slice p4 x.R.length s4)) := ⟨_, rfl⟩
  rw [← hV] at O2 T2 Z2 B2 J4_2 ⊢
  have SZ2 : Hid (w1.heap.size ≤ V2.heap.size) := Lib.hid (by rw [hV]; simp [World.setCell])
  clear hV x4 f4 t2_5
  refine (toEntryS_any _ x.E _ (Cel.Rd.later B2.out _ _ HS5.out) (by omega)).mono ?_
  rintro e w3 ⟨u5, rfl, ho, hb⟩
  obtain ⟨p5, m5, s5, rfl, hm⟩ := row_form ho.rd
  subst hm
  have T3a := Lib.hid (T2.out.later hb)
  have Z3a := Lib.hid (Z2.out.later hb)
  have O3a := Lib.hid (O2.out.later hb)
  have B3a : Hid (Below w.heap.size w w3) := Lib.hid (B2.out.trans (hb.mono B2.out.size))
  have SZ3a : Hid (V2.heap.size ≤ w3.heap.size) := Lib.hid hb.size
  have J5_3 := Lib.hid ho
  have J4_3 := Lib.hid (J4_2.out.later hb)
  clear J4_2
  clear hb ho T2 Z2 O2 B2
  have x5 := O3a.out.cell (j := 5) rfl
  have f5 := O3a.out.fr (o := 5)
  have O4 := Lib.hid (O3a.out.set 5 (.slice p5 x.E.length s5))
  have T4 := Lib.hid (T3a.out.other (c := w.heap.size + 1 + 1) (o := 5) (by omega) (.slice p5 x.E.length s5))
  have Z4 := Lib.hid (Z3a.out.other (c := w.heap.size + 1 + 1) (o := 5) (by omega) (.slice p5 x.E.length s5))
  have B4 : Hid (Below w.heap.size w (w3.setCell ⟨w.heap.size + 1 + 1, 5, none⟩ (.slice p5 x.E.length s5))) := Lib.hid (B3a.out.setCell (by show w.heap.size ≤ w.heap.size + 1 + 1; omega) _)
  have J4_4 := Lib.hid (J4_3.out.kept (w' := w3.setCell ⟨w.heap.size + 1 + 1, 5, none⟩ (.slice p5 x.E.length s5)) (fun g h1 h2 => Below.heap_setCell _ _ _ _ (by show g ≠ w.heap.size + 1 + 1; have := SZ0.out; have := SZ1a.out; have := SZ2.out; have := SZ3a.out; omega)))
  clear J4_3
  have J5_4 := Lib.hid (J5_3.out.kept (w' := w3.setCell ⟨w.heap.size + 1 + 1, 5, none⟩ (.slice p5 x.E.length s5)) (fun g h1 h2 => Below.heap_setCell _ _ _ _ (by show g ≠ w.heap.size + 1 + 1; have := SZ0.out; have := SZ1a.out; have := SZ2.out; have := SZ3a.out; omega)))
  clear J5_3
  clear B3a T3a Z3a O3a
  have y0 := O4.out.cell (j := 0) rfl
  have y1 := O4.out.cell (j := 1) rfl
  have y2 := O4.out.cell (j := 2) rfl
  have y3 := O4.out.cell (j := 3) rfl
  have y4 := O4.out.cell (j := 4) rfl
  have y5 := O4.out.cell (j := 5) rfl
  have z0 := Z4.out.cell (j := 0) rfl
  have g0 := Z4.out.fr (o := 0)
  have z1 := Z4.out.cell (j := 1) rfl
  have g1 := Z4.out.fr (o := 1)
  have z2 := Z4.out.cell (j := 2) rfl
  have g2 := Z4.out.fr (o := 2)
  have z3 := Z4.out.cell (j := 3) rfl
  have g3 := Z4.out.fr (o := 3)
  have z4 := Z4.out.cell (j := 4) rfl
  have g4 := Z4.out.fr (o := 4)
  have z5 := Z4.out.cell (j := 5) rfl
  have g5 := Z4.out.fr (o := 5)
  have qf := ((((((Z4.out.set 0 (.int .i64 x.kd)).set 1 (.int .i64 x.sz)).set 2 (.int .i64 x.gn)).set 3 (.string x.key)).set 4 (.slice p4 x.R.length s4)).set 5 (.slice p5 x.E.length s5))
  have q0 := qf.cell (j := 0) rfl
  have q1 := qf.cell (j := 1) rfl
  have q2 := qf.cell (j := 2) rfl
  have q3 := qf.cell (j := 3) rfl
  have q4 := qf.cell (j := 4) rfl
  have q5 := qf.cell (j := 5) rfl
  clear qf
  have BE := Lib.hid ((((((B4.out.setCell (p := ⟨w.heap.size + 1, 0, none⟩) (by show w.heap.size ≤ w.heap.size + 1; omega) (.int .i64 x.kd)).setCell (p := ⟨w.heap.size + 1, 1, none⟩) (by show w.heap.size ≤ w.heap.size + 1; omega) (.int .i64 x.sz)).setCell (p := ⟨w.heap.size + 1, 2, none⟩) (by show w.heap.size ≤ w.heap.size + 1; omega) (.int .i64 x.gn)).setCell (p := ⟨w.heap.size + 1, 3, none⟩) (by show w.heap.size ≤ w.heap.size + 1; omega) (.string x.key)).setCell (p := ⟨w.heap.size + 1, 4, none⟩) (by show w.heap.size ≤ w.heap.size + 1; omega) (.slice p4 x.R.length s4)).setCell (p := ⟨w.heap.size + 1, 5, none⟩) (by show w.heap.size ≤ w.heap.size + 1; omega) (.slice p5 x.E.length s5))
  have JE4 := Lib.hid (J4_4.out.kept (w' := ((w3.setCell ⟨w.heap.size + 1 + 1, 5, none⟩ (.slice p5 x.E.length s5))).setCells (w.heap.size + 1) 0 [.int .i64 x.kd, .int .i64 x.sz, .int .i64 x.gn, .string x.key, .slice p4 x.R.length s4, .slice p5 x.E.length s5]) (fun g h1 h2 => heap_setCells_ne (by have := SZ0.out; have := SZ1a.out; have := SZ2.out; have := SZ3a.out; omega) _ _ _))
  have JE5 := Lib.hid (J5_4.out.kept (w' := ((w3.setCell ⟨w.heap.size + 1 + 1, 5, none⟩ (.slice p5 x.E.length s5))).setCells (w.heap.size + 1) 0 [.int .i64 x.kd, .int .i64 x.sz, .int .i64 x.gn, .string x.key, .slice p4 x.R.length s4, .slice p5 x.E.length s5]) (fun g h1 h2 => heap_setCells_ne (by have := SZ0.out; have := SZ1a.out; have := SZ2.out; have := SZ3a.out; omega) _ _ _))
  have SE : Hid (w3.heap.size ≤ (((w3.setCell ⟨w.heap.size + 1 + 1, 5, none⟩ (.slice p5 x.E.length s5))).setCells (w.heap.size + 1) 0 [.int .i64 x.kd, .int .i64 x.sz, .int .i64 x.gn, .string x.key, .slice p4 x.R.length s4, .slice p5 x.E.length s5]).heap.size) := Lib.hid (by rw [size_setCells]; simp [World.setCell])
  go_wp2
  refine bodyPost_ret (v := .agg #[.int .i64 x.kd, .int .i64 x.sz, .int .i64 x.gn, .string x.key, .slice p4 x.R.length s4, .slice p5 x.E.length s5]) ?_ rfl ⟨_, rfl, ((((((Objs.cons (lo := V0.heap.size) JE4.out (Objs.cons (lo := V2.heap.size) JE5.out (Objs.nil _ w3.heap.size (((w3.setCell ⟨w.heap.size + 1 + 1, 5, none⟩ (.slice p5 x.E.length s5))).setCells (w.heap.size + 1) 0 [.int .i64 x.kd, .int .i64 x.sz, .int .i64 x.gn, .string x.key, .slice p4 x.R.length s4, .slice p5 x.E.length s5]).heap.size) (by have := SZ0.out; have := SZ1a.out; have := SZ2.out; have := SZ3a.out; omega) (by have := SZ0.out; have := SZ1a.out; have := SZ2.out; have := SZ3a.out; omega) (by have := SZ0.out; have := SZ1a.out; have := SZ2.out; have := SZ3a.out; have := SE.out; omega)) (by have := SZ0.out; have := SZ1a.out; have := SZ2.out; have := SZ3a.out; omega) (by have := SZ0.out; have := SZ1a.out; have := SZ2.out; have := SZ3a.out; omega) (by have := SZ0.out; have := SZ1a.out; have := SZ2.out; have := SZ3a.out; have := SE.out; omega)).val _).val _).val _).val _)).mono (by have := SZ0.out; have := SZ1a.out; have := SZ2.out; have := SZ3a.out; omega) (Nat.le_refl _), BE.out⟩
  simp [results, Tryz.results50, go_sem, q0, q1, q2, q3, q4, q5]

end Go.Proofs.YtmkchilhnmkhkabGreat
namespace Go.Proofs.YtmkchilhnmkhkabGreat
open Go.RowKit Go.Proofs.YtmkchilhnmkhkabGreat.Parts Go.Proofs.YtmkchilhnmkhkabGreat.Hexa

set_option maxRecDepth 100000 in
set_option maxHeartbeats 1000000 in
theorem toInoS_any (v : Value) (L : List InoR) (w : World) (hs : (celRow cIno L).Rd w v) (hz : (celRow cIno L).sz ≤ 1048576) :
    Calls Tryz.prog 23 #[v] w (ToPost (celRow cIno L) w) := by
  obtain ⟨i0, hi, hz0, hz1, hz2⟩ := info_parts infoInoD
  obtain ⟨a, n, c, rfl, hn⟩ := row_form hs
  have HS := Lib.hid hs
  have hz' : n + szL (celsE cIno L) ≤ 1048576 := by rw [← hn]; exact hz
  have hn1 : n ≤ 1048576 := by omega
  have HZ : Hid (szL (celsE cIno L) ≤ 1048576) := Lib.hid (by omega)
  have HN := Lib.hid hn
  clear hs hz hz' hn
  go_enter Tryz.func23, Tryz.ntmps23
  go_wp2_with (at_make; refine wpList_make_full _ rfl _ _ 33 rfl w.heap.size 57 i0 _ 6 Tryz.underlying33 hi hz0 hz1 .i64 .i64 _ _ n rfl rfl rfl rfl (by rw [hz2]; omega) (by unfold maxLen; omega) (Nat.le_refl _) ?_; intro w0 hown0 hgrow0)
  have hg0 : Below w.heap.size w w0 := (Below.refl _ _).grown hgrow0 (Nat.le_refl _) (fun k h => by cases h)
  have HO0 : Hid (Part2 cIno L w0 w.heap.size n 0) := Lib.hid (Part2.start hown0)
  clear hown0 hgrow0
  go_loopw [4] (fun iv wr => ∃ (k : Nat), k ≤ n ∧ iv = .int .i64 k ∧ Hid (Part2 cIno L wr w.heap.size n k) ∧ Below w.heap.size w wr)
    (fun iv _ => n - (intOf iv).toNat)
  case atStart => exact ⟨0, Nat.zero_le _, rfl, HO0, hg0⟩
  case round =>
    clear HO0 hg0
    obtain ⟨k, hk, rfl, HW, hbel⟩ := hrel
    by_cases hlt : k < n
    · have HX : Hid (szL (cIno.cels (L.getD k default)) ≤ 1048576) := Lib.hid (Nat.le_trans (szL_at cIno L k (by rw [HN.out]; exact hlt)) HZ.out)
      obtain ⟨g, off, a4, c4, a5, c5, rfl, hg, d0, d1, d2, d3, d4, d5, r4, r5⟩ := cIno_at (Cel.Rd.later hbel _ _ HS.out) k hlt
      have HV : Hid (∀ (w1 : World) (hi : Nat) (vs : List Value), Below wr.heap.size wr w1 → Objs w1 wr.heap.size hi (cIno.cels (L.getD k default)) vs → Part2 cIno L (w1.setCells w.heap.size (k * 6) vs) w.heap.size n (k + 1)) :=
        Lib.hid (fun w1 hi vs hb ho => HW.out.next HN.out hlt hb ho)
      obtain ⟨x, hx⟩ : ∃ x, L.getD k default = x := ⟨_, rfl⟩
      rw [hx] at d0 d1 d2 d3 d4 d5 r4 r5 HX HV
      clear hx
      go_wp2_with fail
      refine (toIno_st x a4 c4 a5 c5 _ r4 r5 HX.out).mono ?_
      rintro e w1 ⟨vs, rfl, ho, hb1⟩
      have hbx : Below w.heap.size w w1 := hbel.trans (hb1.mono hbel.size)
      have O1 := Lib.hid (HV.out w1 _ vs hb1 ho)
      obtain ⟨b4, s4, b5, s5, rfl, _, _⟩ := cIno_form ho.rd
      obtain ⟨xs, G, hrow, _, _, _⟩ := (HW.out.later hb1).ex
      have HW1 := Lib.hid hrow
      clear hrow
      obtain ⟨v0, e0⟩ := ownE_cell HW1.out (j := k * 6) (by show k * 6 < n * 6; omega)
      obtain ⟨v1, e1⟩ := ownE_cell HW1.out (j := k * 6 + 1) (by show k * 6 + 1 < n * 6; omega)
      obtain ⟨v2, e2⟩ := ownE_cell HW1.out (j := k * 6 + 2) (by show k * 6 + 2 < n * 6; omega)
      obtain ⟨v3, e3⟩ := ownE_cell HW1.out (j := k * 6 + 3) (by show k * 6 + 3 < n * 6; omega)
      obtain ⟨v4, e4⟩ := ownE_cell HW1.out (j := k * 6 + 4) (by show k * 6 + 4 < n * 6; omega)
      obtain ⟨v5, e5⟩ := ownE_cell HW1.out (j := k * 6 + 5) (by show k * 6 + 5 < n * 6; omega)
      have z0 := HW1.out.frozenAt (k * 6)
      have z1 := HW1.out.frozenAt (k * 6 + 1)
      have z2 := HW1.out.frozenAt (k * 6 + 2)
      have z3 := HW1.out.frozenAt (k * 6 + 3)
      have z4 := HW1.out.frozenAt (k * 6 + 4)
      have z5 := HW1.out.frozenAt (k * 6 + 5)
      have hb2 := Lib.hid (below_sets (Nat.le_refl w.heap.size) [.int .i64 x.kd, .int .i64 x.sz, .int .i64 x.gn, .string x.key, .slice b4 x.R.length s4, .slice b5 x.E.length s5] (k * 6) hbx)
      clear d0 d1 d2 d3 d4 d5 r4 r5 hb1 hbx ho HW
      go_wp2
      go_roundw
      case rel => exact ⟨k + 1, by omega, by go_num, O1, hb2.out⟩
      case measure => (simp [intOf]; try omega)
    · obtain rfl : k = n := by omega
      have HO := Lib.hid (HW.out.done HN.out)
      go_wp2
      go_ret
      exact ⟨_, rfl, HO.out, hbel⟩

end Go.Proofs.YtmkchilhnmkhkabGreat
