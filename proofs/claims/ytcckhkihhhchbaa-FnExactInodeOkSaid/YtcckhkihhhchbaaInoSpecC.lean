/- InodeOk of the model: a file whose head is right. -/
import Derived.Test.YtcckhkihhhchbaaInoSpecA
import Derived.Test.YtcckhkihhhchbaaDrews
namespace Go.Proofs.Ytcckhkihhhchbaa
open Go.RowKit Go.Proofs.Ytcckhkihhhchbaa.Parts Go.Proofs.Ytcckhkihhhchbaa.Hexa Go.Proofs.Ytcckhkihhhchbaa.Byt

theorem Bk.under {w w' : World} {b B : Nat} {cs : Array Value} {t : TypeId} (h : Bk w b cs t) (hb : Below B w w') (hB : b < B) : Bk w' b cs t := (hb.block b hB).trans h
theorem below_on {B : Nat} {w w1 w2 : World} (h : Below B w w1) (hB : B ≤ w.heap.size) (h2 : Below w1.heap.size w1 w2) : Below B w w2 := h.trans (h2.mono (Nat.le_trans hB h.size))

theorem held_under3 {w w' : World} {p q r : Addr} {x y z : Value} (h : w.cell? p = some x ∧ w.cell? q = some y ∧ w.cell? r = some z) (hb : Below w.heap.size w w') (hp : p.block < w.heap.size) (hq : q.block < w.heap.size) (hr : r.block < w.heap.size) : w'.cell? p = some x ∧ w'.cell? q = some y ∧ w'.cell? r = some z :=
  ⟨(hb.cell hp).trans h.1, (hb.cell hq).trans h.2.1, (hb.cell hr).trans h.2.2⟩

section
variable (sz gn : Int) (key : ByteArray) (aR : Option Addr) (nR cR : Nat) (aE : Option Addr) (cE : Nat) (w : World) (R : List RecR)

set_option maxRecDepth 100000 in
set_option maxHeartbeats 2000000 in
theorem specIno_file (h : 0 ≤ gn ∧ gn ≤ 65535) (h1 : 0 ≤ sz ∧ sz ≤ 128) (h2 : key.size = 8) (h3 : (nR : Int) = pagesZ sz) (hs : SrcRec w aR nR R) (hf : FitRec R nR 2000000) (b : Bool) (hb : b = true ↔ RecsOk R nR) :
    Calls Try.prog 26 #[.agg #[.int .i64 1, .int .i64 sz, .int .i64 gn, .string key, .slice aR nR cR, .slice aE 0 cE]] w (SaysB b w) := by
  have H0 := Lib.hid h
  have H1 := Lib.hid h1
  have HS := Lib.hid hs
  have HF := Lib.hid hf
  have HG := Lib.hid hb
  have B0 := Lib.hid (below_bk w (inoObj 1 sz gn key aR nR cR aE 0 cE))
  have K0 := Lib.hid (Bk.alloc w (inoCs 1 sz gn key aR nR cR aE 0 cE) 51)
  have N0 : Hid ((w.alloc (inoObj 1 sz gn key aR nR cR aE 0 cE)).heap.size = w.heap.size + 1) := Lib.hid (by simp)
  have e2 : ((key.size : Int) != 8) = false := by simp; omega
  have hn4 : nR ≤ 4 := by unfold pagesZ at h3; split at h3 <;> omega
  have HQ : Hid (∀ W : World, Calls Try.prog 23 #[.int .i64 sz] W fun e w' => e = .returned (.int .i64 nR) ∧ w' = W) := Lib.hid (fun W => by
    rw [h3]; exact specPages_any sz W (by omega) (by omega))
  clear h h1 h2 h3 hs hf hb
  go_enter Try.func26, Try.ntmps26
  go_wp2_with ((with_reducible refine (range_yes _ H0.out).mono ?_); rintro e w1 ⟨rfl, rfl⟩)
  go_quiet (first
    | (go_at_call 36; exact Calls.quiet_of_same (range_yes _ H1.out))
    | (go_at_call 23; exact Calls.quiet_of_same (HQ.out _)))
  go_wp2
  go_loopw [3] (fun iv wr => ∃ k : Nat, k ≤ nR ∧ iv = .int .i64 k ∧ Hid (RecsOk R k) ∧ Hid (Below (w.heap.size + 1) (w.alloc (inoObj 1 sz gn key aR nR cR aE 0 cE)) wr)) (fun iv _ => nR - (intOf iv).toNat)
  case atStart => exact ⟨0, Nat.zero_le _, rfl, Lib.hid (fun j hj => by omega), Lib.hid (below_drewsN (Below.refl _ _) _)⟩
  case round =>
    obtain ⟨k, hk, rfl, HA, HB⟩ := hrel
    have BW : Hid (Below w.heap.size w wr) := Lib.hid (B0.out.trans (HB.out.mono (by omega)))
    have q4 := (K0.out.under HB.out (Nat.lt_succ_self _)).cell (j := 4) rfl
    by_cases hlt : k < nR
    · obtain ⟨g, off, ha, hg, d0, d1, d2⟩ := srcRec_later HS.out BW.out (Nat.le_refl _) k hlt
      obtain ⟨⟨p, q, m⟩, hx⟩ : ∃ x, R.getD k default = x := ⟨_, rfl⟩
      have hm := HF.out k hlt
      rw [hx] at d0 d1 d2 hm
      simp only at d0 d1 d2 hm
      have HX := Lib.hid hx
      have HM := Lib.hid hm
      rw [ha] at q4
      clear hx hm ha
      by_cases i1 : RecOk ⟨p, q, m⟩
      · have hT8 := recWord_size i1
        have I1 := Lib.hid i1
        obtain ⟨T, hT⟩ : ∃ T, recWordB ⟨p, q, m⟩ = T := ⟨_, rfl⟩
        have HT := Lib.hid hT
        rw [hT] at hT8
        have e1 : (T.toList == []) = false := text_full T (by omega)
        clear i1 hT hT8
        go_wp2_with fail
        refine (specRecWord_any p q m _ HM.out).mono ?_
        rw [HT.out]
        rintro e w1 ⟨rfl, hb1⟩
        have B1 : Hid (Below (w.heap.size + 1) (w.alloc (inoObj 1 sz gn key aR nR cR aE 0 cE)) w1) := Lib.hid (below_on HB.out (by rw [N0.out]; exact Nat.le_refl _) hb1)
        clear hb1 q4 d0 d1 d2 BW HB
        go_wp2
        go_loopw [4] (fun iv wr => ∃ k2 : Nat, k2 ≤ k ∧ iv = .int .i64 k2 ∧ Hid (∀ j, j < k2 → (R.getD j default).f0 ≠ p) ∧ Hid (Below (w.heap.size + 1) (w.alloc (inoObj 1 sz gn key aR nR cR aE 0 cE)) wr)) (fun iv _ => k - (intOf iv).toNat)
        case atStart => exact ⟨0, Nat.zero_le _, rfl, Lib.hid (fun j hj => by omega), B1⟩
        case round =>
          obtain ⟨k2, hk2, rfl, HA2, HB⟩ := hrel
          have BW : Hid (Below w.heap.size w wr) := Lib.hid (B0.out.trans (HB.out.mono (by omega)))
          by_cases hlt2 : k2 < k
          · have q4 := (K0.out.under HB.out (Nat.lt_succ_self _)).cell (j := 4) rfl
            obtain ⟨g1, off1, ha1, hg1, d0, _, _⟩ := srcRec_later HS.out BW.out (Nat.le_refl _) k hlt
            obtain ⟨g2, off2, ha2, _, c0, _, _⟩ := srcRec_later HS.out BW.out (Nat.le_refl _) k2 (by omega)
            rw [ha1] at ha2 q4
            cases ha2
            clear ha1
            rw [HX.out] at d0
            obtain ⟨v, hv⟩ : ∃ v, (R.getD k2 default).f0 = v := ⟨_, rfl⟩
            have HV := Lib.hid hv
            rw [hv] at c0
            simp only at d0
            clear hv
            by_cases i2 : v = p
            · subst i2
              obtain rfl : b = false := bool_no HG.out (fun x => (x k hlt).2 k2 hlt2 (by rw [HV.out, HX.out]))
              go_wp2
              go_region
              go_wp2
              go_ret
              exact ⟨rfl, BW.out.drew⟩
            · have HA3 : Hid (∀ j, j < k2 + 1 → (R.getD j default).f0 ≠ p) := Lib.hid (fun j hj => by
                by_cases e : j = k2
                · subst e; rw [HV.out]; exact i2
                · exact HA2.out j (by omega))
              have i3 : (v == p) = false := by simpa using i2
              go_wp2
              go_region
              go_wp2
              go_roundw
              case rel => exact ⟨k2 + 1, by omega, by go_num, HA3, Lib.hid HB.out.drew⟩
              case measure => (simp [intOf]; try omega)
          · obtain rfl : k2 = k := by omega
            have HA3 : Hid (RecsOk R (k2 + 1)) := Lib.hid (recsOk_step HA.out (by rw [HX.out]; exact I1.out) (fun j hj => by rw [HX.out]; exact HA2.out j hj))
            go_wp2
            go_roundw
            case rel => exact ⟨k2 + 1, by omega, by go_num, HA3, HB⟩
            case measure => (simp [intOf]; try omega)
      · have HT := Lib.hid (recWordB_no i1)
        obtain rfl : b = false := bool_no HG.out (fun x => i1 (by have h9 := (x k hlt).1; rw [HX.out] at h9; exact h9))
        clear i1
        go_wp2_with fail
        refine (specRecWord_any p q m _ HM.out).mono ?_
        rw [HT.out]
        rintro e w1 ⟨rfl, hb1⟩
        have B1 : Hid (Below w.heap.size w w1) := Lib.hid (below_on BW.out (Nat.le_refl _) hb1)
        clear hb1
        go_wp2
        go_ret
        exact ⟨rfl, B1.out⟩
    · obtain rfl : k = nR := by omega
      obtain rfl : b = true := HG.out.2 HA.out
      go_wp2
      go_ret
      exact ⟨rfl, BW.out⟩
end
end Go.Proofs.Ytcckhkihhhchbaa
