/- Merged texts: InoSpecC, Grown, InoSpecD, InoSpec, NumFore, WordsMath, NonceMath, InoWords, EntMath, TextBase. -/
import Derived.Test.YtmkchilhnmkhkaaDoorPIB
import Derived.Deep.QuietTactic
import Derived.BigQuiet
namespace Go.Proofs.YtmkchilhnmkhkaaDoor
open Go.RowKit Go.Proofs.YtmkchilhnmkhkaaDoor.Parts Go.Proofs.YtmkchilhnmkhkaaDoor.Hexa Go.Proofs.YtmkchilhnmkhkaaDoor.Byt

theorem Bk.under {w w' : World} {b B : Nat} {cs : Array Value} {t : TypeId} (h : Bk w b cs t) (hb : Below B w w') (hB : b < B) : Bk w' b cs t := (hb.block b hB).trans h
theorem below_on {B : Nat} {w w1 w2 : World} (h : Below B w w1) (hB : B ≤ w.heap.size) (h2 : Below w1.heap.size w1 w2) : Below B w w2 := h.trans (h2.mono (Nat.le_trans hB h.size))

theorem held_under3 {w w' : World} {p q r : Addr} {x y z : Value} (h : w.cell? p = some x ∧ w.cell? q = some y ∧ w.cell? r = some z) (hb : Below w.heap.size w w') (hp : p.block < w.heap.size) (hq : q.block < w.heap.size) (hr : r.block < w.heap.size) : w'.cell? p = some x ∧ w'.cell? q = some y ∧ w'.cell? r = some z :=
  ⟨(hb.cell hp).trans h.1, (hb.cell hq).trans h.2.1, (hb.cell hr).trans h.2.2⟩

section
variable (sz gn : Int) (key : ByteArray) (aR : Option Addr) (nR cR : Nat) (aE : Option Addr) (cE : Nat) (w : World) (R : List RecR)

set_option maxRecDepth 100000 in
set_option maxHeartbeats 2000000 in
theorem specIno_file (h : 0 ≤ gn ∧ gn ≤ 65535) (h1 : 0 ≤ sz ∧ sz ≤ 128) (h2 : key.size = 8) (h3 : (nR : Int) = pagesZ sz) (hs : SrcRec w aR nR R) (hf : FitRec R nR 2000000) (b : Bool) (hb : b = true ↔ RecsOk R nR) :
    Calls Tryd.prog 44 #[.agg #[.int .i64 1, .int .i64 sz, .int .i64 gn, .string key, .slice aR nR cR, .slice aE 0 cE]] w (SaysB b w) := by
  have H0 := Lib.hid h
  have H1 := Lib.hid h1
  have HS := Lib.hid hs
  have HF := Lib.hid hf
  have HG := Lib.hid hb
  have B0 := Lib.hid (below_bk w (inoObj 1 sz gn key aR nR cR aE 0 cE))
  have K0 := Lib.hid (Bk.alloc w (inoCs 1 sz gn key aR nR cR aE 0 cE) 54)
  have N0 : Hid ((w.alloc (inoObj 1 sz gn key aR nR cR aE 0 cE)).heap.size = w.heap.size + 1) := Lib.hid (by simp)
  have e2 : ((key.size : Int) != 8) = false := by simp; omega
  have hn4 : nR ≤ 4 := by unfold pagesZ at h3; split at h3 <;> omega
  have HQ : Hid (∀ W : World, Calls Tryd.prog 94 #[.int .i64 sz] W fun e w' => e = .returned (.int .i64 nR) ∧ w' = W) := Lib.hid (fun W => by
    rw [h3]; exact specPages_any sz W (by omega) (by omega))
  clear h h1 h2 h3 hs hf hb
  go_enter Tryd.func44, Tryd.ntmps44
  go_wp2_with ((with_reducible refine (range_yes _ H0.out).mono ?_); rintro e w1 ⟨rfl, rfl⟩)
  go_quiet (first
    | (go_at_call 56; exact Calls.quiet_of_same (range_yes _ H1.out))
    | (go_at_call 94; exact Calls.quiet_of_same (HQ.out _)))
  go_wp2
  go_loopw [3] (fun iv wr => ∃ k : Nat, k ≤ nR ∧ iv = .int .i64 k ∧ Hid (RecsOk R k) ∧ Hid (Below (w.heap.size + 1) (w.alloc (inoObj 1 sz gn key aR nR cR aE 0 cE)) wr)) (fun iv _ => nR - (intOf iv).toNat)
  case atStart => exact ⟨0, Nat.zero_le _, rfl, Lib.hid (fun j hj => by omega), Lib.hid (below_drewsN (Below.refl _ _) _)⟩
  case round =>
    obtain ⟨k, hk, rfl, HA, HB⟩ := hrel
    have BW : Hid (Below w.heap.size w wr) := Lib.hid (B0.out.trans (HB.out.mono (by omega)))
    have q4 := (K0.out.under HB.out (Nat.lt_succ_self _)).cell (j := 4) rfl
    by_cases hlt : k < nR
    · obtain ⟨g, off, ha, hg, d0, d1, d2⟩ := srcRec_later HS.out BW.out (Nat.le_refl _) k hlt
      obtain ⟨⟨p, q, m⟩, hx⟩ : ∃ x, R.getD k default = x := ⟨_, rfl⟩
      have hm := HF.out k hlt
      rw [hx] at d0 d1 d2 hm
      simp only at d0 d1 d2 hm
      have HX := Lib.hid hx
      have HM := Lib.hid hm
      rw [ha] at q4
      clear hx hm ha
      by_cases i1 : RecOk ⟨p, q, m⟩
      · have hT8 := recWord_size i1
        have I1 := Lib.hid i1
        obtain ⟨T, hT⟩ : ∃ T, recWordB ⟨p, q, m⟩ = T := ⟨_, rfl⟩
        have HT := Lib.hid hT
        rw [hT] at hT8
        have e1 : (T.toList == []) = false := text_full T (by omega)
        clear i1 hT hT8
        go_wp2_with fail
        refine (specRecWord_any p q m _ HM.out).mono ?_
        rw [HT.out]
        rintro e w1 ⟨rfl, hb1⟩
        have B1 : Hid (Below (w.heap.size + 1) (w.alloc (inoObj 1 sz gn key aR nR cR aE 0 cE)) w1) := Lib.hid (below_on HB.out (by rw [N0.out]; exact Nat.le_refl _) hb1)
        clear hb1 q4 d0 d1 d2 BW HB
        go_wp2
        go_loopw [4] (fun iv wr => ∃ k2 : Nat, k2 ≤ k ∧ iv = .int .i64 k2 ∧ Hid (∀ j, j < k2 → (R.getD j default).f0 ≠ p) ∧ Hid (Below (w.heap.size + 1) (w.alloc (inoObj 1 sz gn key aR nR cR aE 0 cE)) wr)) (fun iv _ => k - (intOf iv).toNat)
        case atStart => exact ⟨0, Nat.zero_le _, rfl, Lib.hid (fun j hj => by omega), B1⟩
        case round =>
          obtain ⟨k2, hk2, rfl, HA2, HB⟩ := hrel
          have BW : Hid (Below w.heap.size w wr) := Lib.hid (B0.out.trans (HB.out.mono (by omega)))
          by_cases hlt2 : k2 < k
          · have q4 := (K0.out.under HB.out (Nat.lt_succ_self _)).cell (j := 4) rfl
            obtain ⟨g1, off1, ha1, hg1, d0, _, _⟩ := srcRec_later HS.out BW.out (Nat.le_refl _) k hlt
            obtain ⟨g2, off2, ha2, _, c0, _, _⟩ := srcRec_later HS.out BW.out (Nat.le_refl _) k2 (by omega)
            rw [ha1] at ha2 q4
            cases ha2
            clear ha1
            rw [HX.out] at d0
            obtain ⟨v, hv⟩ : ∃ v, (R.getD k2 default).f0 = v := ⟨_, rfl⟩
            have HV := Lib.hid hv
            rw [hv] at c0
            simp only at d0
            clear hv
            by_cases i2 : v = p
            · subst i2
              obtain rfl : b = false := bool_no HG.out (fun x => (x k hlt).2 k2 hlt2 (by rw [HV.out, HX.out]))
              go_wp2
              go_region
              go_wp2
              go_ret
              exact ⟨rfl, BW.out.drew⟩
            · have HA3 : Hid (∀ j, j < k2 + 1 → (R.getD j default).f0 ≠ p) := Lib.hid (fun j hj => by
                by_cases e : j = k2
                · subst e; rw [HV.out]; exact i2
                · exact HA2.out j (by omega))
              have i3 : (v == p) = false := by simpa using i2
              go_wp2
              go_region
              go_wp2
              go_roundw
              case rel => exact ⟨k2 + 1, by omega, by go_num, HA3, Lib.hid HB.out.drew⟩
              case measure => (simp [intOf]; try omega)
          · obtain rfl : k2 = k := by omega
            have HA3 : Hid (RecsOk R (k2 + 1)) := Lib.hid (recsOk_step HA.out (by rw [HX.out]; exact I1.out) (fun j hj => by rw [HX.out]; exact HA2.out j hj))
            go_wp2
            go_roundw
            case rel => exact ⟨k2 + 1, by omega, by go_num, HA3, HB⟩
            case measure => (simp [intOf]; try omega)
      · have HT := Lib.hid (recWordB_no i1)
        obtain rfl : b = false := bool_no HG.out (fun x => i1 (by have h9 := (x k hlt).1; rw [HX.out] at h9; exact h9))
        clear i1
        go_wp2_with fail
        refine (specRecWord_any p q m _ HM.out).mono ?_
        rw [HT.out]
        rintro e w1 ⟨rfl, hb1⟩
        have B1 : Hid (Below w.heap.size w w1) := Lib.hid (below_on BW.out (Nat.le_refl _) hb1)
        clear hb1
        go_wp2
        go_ret
        exact ⟨rfl, B1.out⟩
    · obtain rfl : k = nR := by omega
      obtain rfl : b = true := HG.out.2 HA.out
      go_wp2
      go_ret
      exact ⟨rfl, BW.out⟩
end
end Go.Proofs.YtmkchilhnmkhkaaDoor
namespace Go.Proofs.YtmkchilhnmkhkaaDoor
open Go.RowKit

/-- A world that has grown out of w: what lay there lies there unchanged. -/
structure GrownW (w : World) where
  wd : World
  grown : Below w.heap.size w wd
instance (w : World) : Nonempty (GrownW w) := ⟨⟨w, Below.refl _ w⟩⟩
theorem GrownW.cell {w : World} {p : Addr} {v : Value} (h : w.cell? p = some v) (hp : p.block < w.heap.size) (g : GrownW w) : g.wd.cell? p = some v := (g.grown.cell hp).trans h
theorem Calls.grown_of {P : Program} {f : FuncId} {args : Array Value} {w : World} {g : GrownW w} {v : Value}
    (h : Calls P f args g.wd fun e w' => e = .returned v ∧ Below g.wd.heap.size g.wd w') : Calls P f args g.wd fun e w'' => e = .returned v ∧ ∃ g' : GrownW w, w'' = g'.wd :=
  h.mono fun _ w' ⟨he, hb⟩ => ⟨he, ⟨w', g.grown.trans (hb.mono g.grown.size)⟩, rfl⟩
theorem Calls.grown_same {P : Program} {f : FuncId} {args : Array Value} {w : World} {g : GrownW w} {v : Value}
    (h : Calls P f args g.wd fun e w' => e = .returned v ∧ w' = g.wd) : Calls P f args g.wd fun e w'' => e = .returned v ∧ ∃ g' : GrownW w, w'' = g'.wd :=
  h.mono fun _ _ ⟨he, hw⟩ => ⟨he, g, hw⟩
theorem wp_region_grown {P : Program} {id : Nat} {Q : Exit → Act → World → Prop} {a : Act} {w : World} {l : List Oper} (hm : P.follows .mixedOrders = true) (hB : Region.lexB .any l.toArray = true)
    (h : wpQuiet P l.toArray (fun w' => ∃ g : GrownW w, w' = g.wd) (fun a' => ∀ w', (∃ g : GrownW w, w' = g.wd) → Q .normal a' w') l a) : (Code.region id l.toArray true).wp P Q a w :=
  wp_region_quiet (C := fun w' => ∃ g : GrownW w, w' = g.wd) hm hB ⟨⟨_, (Below.refl _ w).drew⟩, rfl⟩ (by simpa using h)
end Go.Proofs.YtmkchilhnmkhkaaDoor
namespace Go.Proofs.YtmkchilhnmkhkaaDoor
open Go.RowKit Go.Proofs.YtmkchilhnmkhkaaDoor.Parts Go.Proofs.YtmkchilhnmkhkaaDoor.Hexa Go.Proofs.YtmkchilhnmkhkaaDoor.Byt

section
variable (sz gn : Int) (key : ByteArray) (aR : Option Addr) (nR cR : Nat) (aE : Option Addr) (nE cE : Nat) (w : World) (E : List EntryR)

set_option maxRecDepth 100000 in
set_option maxHeartbeats 1000000 in
theorem specIno_dirNo (h : 0 ≤ gn ∧ gn ≤ 65535) (hno : ¬ (sz = 0 ∧ key.size = 0 ∧ nR = 0 ∧ nE ≤ 6)) :
    Calls Tryd.prog 44 #[.agg #[.int .i64 2, .int .i64 sz, .int .i64 gn, .string key, .slice aR nR cR, .slice aE nE cE]] w (SaysB false w) := by
  have H0 := Lib.hid h
  have B0 := Lib.hid (below_bk w (inoObj 2 sz gn key aR nR cR aE nE cE))
  clear h
  by_cases h1 : sz = 0
  · subst h1
    by_cases h2 : key.size = 0
    · obtain rfl : key = ⟨#[]⟩ := text_nothing h2
      by_cases h3 : nR = 0
      · subst h3
        have h4 : (6 : Int) < (nE : Int) := by
          by_cases h5 : nE ≤ 6
          · exact absurd ⟨rfl, rfl, rfl, h5⟩ hno
          · omega
        clear hno
        go_enter Tryd.func44, Tryd.ntmps44
        go_wp2_with ((with_reducible refine (range_yes _ H0.out).mono ?_); rintro e w1 ⟨rfl, rfl⟩)
        go_ret
        exact ⟨rfl, B0.out⟩
      · have h4 : (0 : Int) < (nR : Int) := by omega
        clear hno
        go_enter Tryd.func44, Tryd.ntmps44
        go_wp2_with ((with_reducible refine (range_yes _ H0.out).mono ?_); rintro e w1 ⟨rfl, rfl⟩)
        go_ret
        exact ⟨rfl, B0.out⟩
    · have e4 : (key.toList == []) = false := text_full key (by omega)
      have e5 : (key.toList != []) = true := by simp only [bne, e4]; rfl
      clear hno
      go_enter Tryd.func44, Tryd.ntmps44
      go_wp2_with ((with_reducible refine (range_yes _ H0.out).mono ?_); rintro e w1 ⟨rfl, rfl⟩)
      go_ret
      exact ⟨rfl, B0.out⟩
  · have e4 : (sz != 0) = true := by simpa using h1
    clear hno
    go_enter Tryd.func44, Tryd.ntmps44
    go_wp2_with ((with_reducible refine (range_yes _ H0.out).mono ?_); rintro e w1 ⟨rfl, rfl⟩)
    go_ret
    exact ⟨rfl, B0.out⟩

set_option maxRecDepth 100000 in
set_option maxHeartbeats 2000000 in
theorem specIno_dir (h : 0 ≤ gn ∧ gn ≤ 65535) (h6 : nE ≤ 6) (hs : SrcEntry w aE nE E) (hf : FitEntry E nE 2000000) (b : Bool) (hb : b = true ↔ EntsOk E nE) :
    Calls Tryd.prog 44 #[.agg #[.int .i64 2, .int .i64 0, .int .i64 gn, .string ⟨#[]⟩, .slice aR 0 cR, .slice aE nE cE]] w (SaysB b w) := by
  have H0 := Lib.hid h
  have HS := Lib.hid hs
  have HF := Lib.hid hf
  have HG := Lib.hid hb
  have B0 := Lib.hid (below_bk w (inoObj 2 0 gn ⟨#[]⟩ aR 0 cR aE nE cE))
  have K0 := Lib.hid (Bk.alloc w (inoCs 2 0 gn ⟨#[]⟩ aR 0 cR aE nE cE) 54)
  have N0 : Hid ((w.alloc (inoObj 2 0 gn ⟨#[]⟩ aR 0 cR aE nE cE)).heap.size = w.heap.size + 1) := Lib.hid (by simp)
  clear h hs hf hb
  go_enter Tryd.func44, Tryd.ntmps44
  go_wp2_with ((with_reducible refine (range_yes _ H0.out).mono ?_); rintro e w1 ⟨rfl, rfl⟩)
  go_loopw [5] (fun iv wr => ∃ k : Nat, k ≤ nE ∧ iv = .int .i64 k ∧ Hid (EntsOk E k) ∧ Hid (Below (w.heap.size + 1) (w.alloc (inoObj 2 0 gn ⟨#[]⟩ aR 0 cR aE nE cE)) wr)) (fun iv _ => nE - (intOf iv).toNat)
  case atStart => exact ⟨0, Nat.zero_le _, rfl, Lib.hid (fun j hj => by omega), Lib.hid (Below.refl _ _)⟩
  case round =>
    obtain ⟨k, hk, rfl, HA, HB⟩ := hrel
    have BW : Hid (Below w.heap.size w wr) := Lib.hid (B0.out.trans (HB.out.mono (by omega)))
    have NW : Hid (w.heap.size + 1 ≤ wr.heap.size) := Lib.hid (by have := HB.out.size; rw [N0.out] at this; exact this)
    have q5 := (K0.out.under HB.out (Nat.lt_succ_self _)).cell (j := 5) rfl
    by_cases hlt : k < nE
    · obtain ⟨g, off, ha, hg, d0, d1⟩ := srcEntry_later HS.out BW.out (Nat.le_refl _) k hlt
      obtain ⟨⟨p, m⟩, hx⟩ : ∃ x, E.getD k default = x := ⟨_, rfl⟩
      have hm := HF.out k hlt
      rw [hx] at d0 d1 hm
      simp only at d0 d1 hm
      have HX := Lib.hid hx
      have HM := Lib.hid hm
      have hpr : Hid (∀ j, j < nE → ∃ v, wr.cell? ⟨g, off + j * 2 + 1, none⟩ = some (.string v) ∧ v = (E.getD j default).f1) := Lib.hid (fun j hj => by
        obtain ⟨g', off', ha', _, _, c1⟩ := srcEntry_later HS.out BW.out (Nat.le_refl _) j hj
        rw [ha] at ha'; cases ha'
        exact ⟨_, c1, rfl⟩)
      have hgw : Hid (g < wr.heap.size) := Lib.hid (by have := NW.out; omega)
      rw [ha] at q5
      clear hx hm ha
      by_cases i1 : EntryOk ⟨p, m⟩
      · have hT8 := entryWord_size i1
        have I1 := Lib.hid i1
        obtain ⟨T, hT⟩ : ∃ T, entryWordB ⟨p, m⟩ = T := ⟨_, rfl⟩
        have HT := Lib.hid hT
        rw [hT] at hT8
        have e1 : (T.toList == []) = false := text_full T (by omega)
        have HC : Hid (∀ W : World, Calls Tryd.prog 69 #[.agg #[.int .i64 p, .string m]] W fun e w' => e = .returned (.string T) ∧ Below W.heap.size W w') := Lib.hid (fun W => by
          have h9 := specEntryWord_any p m W HM.out
          rw [HT.out] at h9
          exact h9)
        clear i1 hT hT8
        match k with
        | 0 =>
          simp only [Nat.zero_mul, Nat.add_zero] at d0 d1
          have HA1 : Hid (EntsOk E 1) := Lib.hid (entsOk_step HA.out (by rw [HX.out]; exact I1.out) (fun h0 => by omega))
          have z5 := GrownW.cell q5 (by have := NW.out; change w.heap.size < wr.heap.size; omega)
          have z0 := GrownW.cell d0 hgw.out
          have z1 := GrownW.cell d1 hgw.out
          go_wp2
          refine wp_region_grown (by kernel_rfl) (by kernel_rfl) ?_
          repeat (go_big_quiet_step ((go_at_call 69; exact Calls.grown_of (HC.out _))))
          refine wpQuiet_nil ?_
          rintro _ ⟨gq, rfl⟩
          have B1 : Hid (Below (w.heap.size + 1) (w.alloc (inoObj 2 0 gn ⟨#[]⟩ aR 0 cR aE nE cE)) gq.wd) := Lib.hid (below_on HB.out (by rw [N0.out]; exact Nat.le_refl _) gq.grown)
          go_wp2
          go_roundw
          case rel => exact ⟨1, by omega, by go_num, HA1, B1⟩
          case measure => (simp [intOf]; try omega)
        | k + 1 =>
          obtain ⟨u, c1, hu⟩ := hpr.out k (by omega)
          have HU := Lib.hid hu
          clear hu
          have z5 := GrownW.cell q5 (by have := NW.out; change w.heap.size < wr.heap.size; omega)
          have z0 := GrownW.cell d0 hgw.out
          have z1 := GrownW.cell d1 hgw.out
          have z2 := GrownW.cell c1 hgw.out
          by_cases i2 : textLt u m = true
          · have HA1 : Hid (EntsOk E (k + 2)) := Lib.hid (entsOk_step HA.out (by rw [HX.out]; exact I1.out) (fun h0 => by rw [show k + 1 - 1 = k by omega, ← HU.out, HX.out]; exact i2))
            have i3 : Op.bytesLess u.toList m.toList = true := i2
            clear i2
            go_wp2
            refine wp_region_grown (by kernel_rfl) (by kernel_rfl) ?_
            repeat (go_big_quiet_step ((go_at_call 69; exact Calls.grown_of (HC.out _))))
            refine wpQuiet_nil ?_
            rintro _ ⟨gq, rfl⟩
            have B1 : Hid (Below (w.heap.size + 1) (w.alloc (inoObj 2 0 gn ⟨#[]⟩ aR 0 cR aE nE cE)) gq.wd) := Lib.hid (below_on HB.out (by rw [N0.out]; exact Nat.le_refl _) gq.grown)
            go_wp2
            go_roundw
            case rel => exact ⟨k + 2, by omega, by go_num, HA1, B1⟩
            case measure => (simp [intOf]; try omega)
          · obtain rfl : b = false := bool_no HG.out (fun x => i2 (by have h9 := (x (k + 1) hlt).2 (by omega); rw [show k + 1 - 1 = k by omega, ← HU.out, HX.out] at h9; exact h9))
            have i3 : Op.bytesLess u.toList m.toList = false := by simpa [textLt] using i2
            clear i2
            go_wp2
            refine wp_region_grown (by kernel_rfl) (by kernel_rfl) ?_
            repeat (go_big_quiet_step ((go_at_call 69; exact Calls.grown_of (HC.out _))))
            refine wpQuiet_nil ?_
            rintro _ ⟨gq, rfl⟩
            have B1 : Hid (Below (w.heap.size + 1) (w.alloc (inoObj 2 0 gn ⟨#[]⟩ aR 0 cR aE nE cE)) gq.wd) := Lib.hid (below_on HB.out (by rw [N0.out]; exact Nat.le_refl _) gq.grown)
            go_wp2
            go_ret
            exact ⟨rfl, B0.out.trans (B1.out.mono (by omega))⟩
      · have HT := Lib.hid (entryWordB_no i1)
        have HC : Hid (∀ W : World, Calls Tryd.prog 69 #[.agg #[.int .i64 p, .string m]] W fun e w' => e = .returned (.string ⟨#[]⟩) ∧ Below W.heap.size W w') := Lib.hid (fun W => by
          have h9 := specEntryWord_any p m W HM.out
          rw [HT.out] at h9
          exact h9)
        obtain rfl : b = false := bool_no HG.out (fun x => i1 (by have h9 := (x k hlt).1; rw [HX.out] at h9; exact h9))
        clear i1
        have z5 := GrownW.cell q5 (by have := NW.out; change w.heap.size < wr.heap.size; omega)
        have z0 := GrownW.cell d0 hgw.out
        have z1 := GrownW.cell d1 hgw.out
        go_wp2
        refine wp_region_grown (by kernel_rfl) (by kernel_rfl) ?_
        repeat (go_big_quiet_step ((go_at_call 69; exact Calls.grown_of (HC.out _))))
        refine wpQuiet_nil ?_
        rintro _ ⟨gq, rfl⟩
        have B1 : Hid (Below (w.heap.size + 1) (w.alloc (inoObj 2 0 gn ⟨#[]⟩ aR 0 cR aE nE cE)) gq.wd) := Lib.hid (below_on HB.out (by rw [N0.out]; exact Nat.le_refl _) gq.grown)
        go_wp2
        go_ret
        exact ⟨rfl, B0.out.trans (B1.out.mono (by omega))⟩
    · obtain rfl : k = nE := by omega
      obtain rfl : b = true := HG.out.2 HA.out
      go_wp2
      go_ret
      exact ⟨rfl, BW.out⟩
end
end Go.Proofs.YtmkchilhnmkhkaaDoor
namespace Go.Proofs.YtmkchilhnmkhkaaDoor
open Go.RowKit Go.Proofs.YtmkchilhnmkhkaaDoor.Parts Go.Proofs.YtmkchilhnmkhkaaDoor.Hexa Go.Proofs.YtmkchilhnmkhkaaDoor.Byt

theorem inoB_iff {n : InoR} : inoB n = true ↔ InoOk n := by
  by_cases h : InoOk n
  · exact ⟨fun _ => h, fun _ => inoB_yes h⟩
  · exact ⟨fun e => by rw [inoB_no h] at e; exact absurd e (by decide), fun e => absurd e h⟩

theorem inoOk_free {sz gn : Int} {key : ByteArray} {R : List RecR} {E : List EntryR} (h : 0 ≤ gn ∧ gn ≤ 65535) : InoOk ⟨0, sz, gn, key, R, E⟩ ↔ (sz = 0 ∧ key.size = 0 ∧ R.length = 0 ∧ E.length = 0) := by
  constructor
  · rintro ⟨_, ⟨_, x⟩ | ⟨e, _⟩ | ⟨e, _⟩⟩
    · exact x
    · exact absurd (show (_ : Int) = _ from e) (by simp)
    · exact absurd (show (_ : Int) = _ from e) (by simp)
  · exact fun x => ⟨h, .inl ⟨rfl, x⟩⟩
theorem inoOk_file {sz gn : Int} {key : ByteArray} {R : List RecR} {E : List EntryR} (h : 0 ≤ gn ∧ gn ≤ 65535) :
    InoOk ⟨1, sz, gn, key, R, E⟩ ↔ ((0 ≤ sz ∧ sz ≤ 128) ∧ key.size = 8 ∧ (R.length : Int) = pagesZ sz ∧ E.length = 0 ∧ RecsOk R R.length) := by
  constructor
  · rintro ⟨_, ⟨e, _⟩ | ⟨_, x⟩ | ⟨e, _⟩⟩
    · exact absurd (show (_ : Int) = _ from e) (by simp)
    · exact x
    · exact absurd (show (_ : Int) = _ from e) (by simp)
  · exact fun x => ⟨h, .inr (.inl ⟨rfl, x⟩)⟩
theorem inoOk_dir {sz gn : Int} {key : ByteArray} {R : List RecR} {E : List EntryR} (h : 0 ≤ gn ∧ gn ≤ 65535) :
    InoOk ⟨2, sz, gn, key, R, E⟩ ↔ (sz = 0 ∧ key.size = 0 ∧ R.length = 0 ∧ E.length ≤ 6 ∧ EntsOk E E.length) := by
  constructor
  · rintro ⟨_, ⟨e, _⟩ | ⟨e, _⟩ | ⟨_, x⟩⟩
    · exact absurd (show (_ : Int) = _ from e) (by simp)
    · exact absurd (show (_ : Int) = _ from e) (by simp)
    · exact x
  · exact fun x => ⟨h, .inr (.inr ⟨rfl, x⟩)⟩

theorem specIno_any (kd sz gn : Int) (key : ByteArray) (aR : Option Addr) (nR cR : Nat) (aE : Option Addr) (nE cE : Nat) (w : World) (R : List RecR) (E : List EntryR)
    (hz : -9223372036854775808 ≤ sz ∧ sz ≤ 9223372036854775807) (hs : SrcRec w aR nR R) (hf : FitRec R nR 2000000) (hs' : SrcEntry w aE nE E) (hf' : FitEntry E nE 2000000) :
    Calls Tryd.prog 44 #[.agg #[.int .i64 kd, .int .i64 sz, .int .i64 gn, .string key, .slice aR nR cR, .slice aE nE cE]] w (SaysB (inoB ⟨kd, sz, gn, key, R, E⟩) w) := by
  have hlR : R.length = nR := hs.len
  have hlE : E.length = nE := hs'.len
  by_cases h : 0 ≤ gn ∧ gn ≤ 65535
  · by_cases h0 : kd = 0
    · subst h0
      refine specIno_free sz gn key aR nR cR aE nE cE w h _ ?_
      rw [inoB_iff, inoOk_free h, hlR, hlE]
    · by_cases h1 : kd = 1
      · subst h1
        by_cases hh : (0 ≤ sz ∧ sz ≤ 128) ∧ key.size = 8 ∧ (nR : Int) = pagesZ sz ∧ nE = 0
        · obtain ⟨g1, g2, g3, rfl⟩ := hh
          refine specIno_file sz gn key aR nR cR aE cE w R h g1 g2 g3 hs hf _ ?_
          rw [inoB_iff, inoOk_file h, hlR, hlE]
          exact ⟨fun x => x.2.2.2.2, fun x => ⟨g1, g2, g3, rfl, x⟩⟩
        · rw [inoB_no (fun x => by
            rw [inoOk_file h, hlR, hlE] at x
            exact hh ⟨x.1, x.2.1, x.2.2.1, x.2.2.2.1⟩)]
          exact specIno_fileNo sz gn key aR nR cR aE nE cE w h hz hh
      · by_cases h2 : kd = 2
        · subst h2
          by_cases hh : sz = 0 ∧ key.size = 0 ∧ nR = 0 ∧ nE ≤ 6
          · obtain ⟨rfl, g2, rfl, g4⟩ := hh
            obtain rfl : key = ⟨#[]⟩ := text_nothing g2
            refine specIno_dir gn aR cR aE nE cE w E h g4 hs' hf' _ ?_
            rw [inoB_iff, inoOk_dir h, hlR, hlE]
            exact ⟨fun x => x.2.2.2.2, fun x => ⟨rfl, rfl, rfl, g4, x⟩⟩
          · rw [inoB_no (fun x => by
              rw [inoOk_dir h, hlR, hlE] at x
              exact hh ⟨x.1, x.2.1, x.2.2.1, x.2.2.2.1⟩)]
            exact specIno_dirNo sz gn key aR nR cR aE nE cE w h hh
        · rw [inoB_no (fun x => by
            unfold InoOk at x
            rcases x with ⟨_, ⟨e, _⟩ | ⟨e, _⟩ | ⟨e, _⟩⟩
            · exact h0 e
            · exact h1 e
            · exact h2 e)]
          exact specIno_other kd sz gn key aR nR cR aE nE cE w h h0 h1 h2
  · rw [inoB_no (fun x => h x.1)]
    exact specIno_gen kd sz gn key aR nR cR aE nE cE w h
end Go.Proofs.YtmkchilhnmkhkaaDoor
namespace Go.Proofs.YtmkchilhnmkhkaaDoor
open Go.RowKit Go.Proofs.YtmkchilhnmkhkaaDoor.Hexa Go.Proofs.YtmkchilhnmkhkaaDoor.Byt

/-- A number's bytes say it. -/
theorem numV_num (m k : Nat) (h : m < 256 ^ k) : numV (numL m k k) = m := by
  have H : ∀ j, j ≤ k → numV (numL m k j) = m / 256 ^ (k - j) := by
    intro j
    induction j with
    | zero => intro _; rw [Nat.sub_zero, Nat.div_eq_of_lt h]; rfl
    | succ j ih =>
      intro hj
      rw [← numL_next, numV_snoc, ih (by omega), UInt8.toNat_ofNat']
      have e : k - j = (k - 1 - j) + 1 := by omega
      rw [e, Nat.pow_succ, ← Nat.div_div_eq_div_mul, show k - (j + 1) = k - 1 - j by omega]
      have := Nat.div_add_mod (m / 256 ^ (k - 1 - j)) 256
      omega
  have := H k (Nat.le_refl _)
  simpa using this
theorem numAt_fore (s : ByteArray) (a k : Nat) (n : Int) (hk : 1 ≤ k ∧ k ≤ 7) (h : a + k ≤ s.size) (h0 : 0 ≤ n) (h1 : n < 256 ^ k) (hc : cutL s a k = (numTextB n k).data.toList) : numAtV s a k = n := by
  have e : numTextB n k = numB n.toNat k := by
    unfold numTextB
    rw [if_pos ⟨h0, by omega, by simpa using h1⟩]
    simp
  have e2 : (numTextB n k).data.toList = numL n.toNat k k := by rw [e]; rfl
  have e3 : numAtV s a k = (numV (cutL s a k) : Int) := by
    unfold numAtV
    rw [if_pos ⟨by omega, by omega⟩]
    simp
  have h2 : n.toNat < 256 ^ k := by
    have h3 : ((n.toNat : Nat) : Int) < ((256 ^ k : Nat) : Int) := by rw [Int.toNat_of_nonneg h0]; simpa using h1
    exact Int.ofNat_lt.1 h3
  rw [e3, hc, e2, numV_num _ _ h2, Int.toNat_of_nonneg h0]
end Go.Proofs.YtmkchilhnmkhkaaDoor
namespace Go.Proofs.YtmkchilhnmkhkaaDoor
open Go.RowKit Go.Proofs.YtmkchilhnmkhkaaDoor.Hexa Go.Proofs.YtmkchilhnmkhkaaDoor.Byt Go.Proofs.YtmkchilhnmkhkaaDoor.BitsM Go.Proofs.YtmkchilhnmkhkaaDoor.Parts

theorem infoText : (Tryd.prog.info? 9).map (fun i => (i.zero, i.size, i.bytes)) = some (some (.string ⟨#[]⟩), 1, 16) := by kernel_rfl
def wordsN (s : ByteArray) : Nat := (s.size + 7) / 8
/-- Word k of a text. -/
def wordAt (s : ByteArray) (k : Nat) : ByteArray := wordB (s.extract (8 * k) (min (8 * k + 8) s.size))
/-- The words of a text. -/
def wordsL (s : ByteArray) : List ByteArray := (List.range (wordsN s)).map (wordAt s)
theorem wordsL_length (s : ByteArray) : (wordsL s).length = wordsN s := by simp [wordsL]
def wordsTo (s : ByteArray) (k : Nat) : List ByteArray := (List.range k).map (wordAt s)
theorem wordsTo_next (s : ByteArray) (k : Nat) : scells (wordsTo s k) ++ [.string (wordAt s k)] = scells (wordsTo s (k + 1)) := by simp [wordsTo, scells, List.range_succ]
theorem wordsTo_all (s : ByteArray) : wordsTo s (wordsN s) = wordsL s := rfl

/-- Some slice of the call's own that holds these texts. -/
def GivesT (P : List ByteArray) (w : World) (e : Ending) (w' : World) : Prop :=
  ∃ v, e = .returned v ∧ w'.ownsRow w.heap.size 9 1 v P.length (scells P) ∧ Below w.heap.size w w'

end Go.Proofs.YtmkchilhnmkhkaaDoor
namespace Go.Proofs.YtmkchilhnmkhkaaDoor
open Go.RowKit Go.Proofs.YtmkchilhnmkhkaaDoor.Hexa Go.Proofs.YtmkchilhnmkhkaaDoor.Byt

/-- What NonceOf returns. -/
def nonceT (f p s : Int) : ByteArray := if (numTextB f 4).size + (numTextB p 2).size + (numTextB s 6).size = 12 then numTextB f 4 ++ numTextB p 2 ++ numTextB s 6 else ⟨#[]⟩
theorem nonceT_eq (f p s : Int) : nonceT f p s = if (numTextB f 4).size + (numTextB p 2).size + (numTextB s 6).size = 12 then numTextB f 4 ++ numTextB p 2 ++ numTextB s 6 else ⟨#[]⟩ := rfl
theorem numTextB_yes (n width : Int) (h : NumFits n width) : (numTextB n width).size = width.toNat := by
  have e : numTextB n width = numB n.toNat width.toNat := by unfold numTextB; exact if_pos h
  rw [e]
  show (numL _ _ _).toArray.size = _
  rw [List.size_toArray, numL_length]
theorem numTextB_no (n width : Int) (h : ¬ NumFits n width) : numTextB n width = ⟨#[]⟩ := by unfold numTextB; exact if_neg h
theorem numTextB_size (n width : Int) : (numTextB n width).size = 0 ∨ (numTextB n width).size = width.toNat := by
  by_cases h : NumFits n width
  · exact .inr (numTextB_yes n width h)
  · rw [numTextB_no n width h]; exact .inl rfl
theorem nonceT_sizes (f p s : Int) : ((numTextB f 4).size = 0 ∨ (numTextB f 4).size = 4) ∧ ((numTextB p 2).size = 0 ∨ (numTextB p 2).size = 2) ∧ ((numTextB s 6).size = 0 ∨ (numTextB s 6).size = 6) ∧ (numTextB f 4).size + (numTextB p 2).size + (numTextB s 6).size ≤ 12 := by
  have h1 : (numTextB f 4).size = 0 ∨ (numTextB f 4).size = 4 := numTextB_size f 4
  have h2 : (numTextB p 2).size = 0 ∨ (numTextB p 2).size = 2 := numTextB_size p 2
  have h3 : (numTextB s 6).size = 0 ∨ (numTextB s 6).size = 6 := numTextB_size s 6
  exact ⟨h1, h2, h3, by omega⟩
end Go.Proofs.YtmkchilhnmkhkaaDoor
namespace Go.Proofs.YtmkchilhnmkhkaaDoor
open Go.RowKit Go.Proofs.YtmkchilhnmkhkaaDoor.Parts Go.Proofs.YtmkchilhnmkhkaaDoor.Hexa Go.Proofs.YtmkchilhnmkhkaaDoor.Byt

def recsTo (n : InoR) (k : Nat) : List ByteArray := [headB n, wordB n.key] ++ (n.R.take k).map recWordB
def entsTo (n : InoR) (k : Nat) : List ByteArray := [headB n, wordB n.key] ++ n.R.map recWordB ++ (n.E.take k).map entryWordB
def rowLen : Value → Nat
  | .slice _ n _ => n
  | _ => 0
def fillTo (n : InoR) (k : Nat) : List ByteArray := wordsI n ++ List.replicate k zero8
theorem take_more {α β : Type} [Inhabited α] (f : α → β) (L : List α) (k : Nat) (h : k < L.length) : (L.take (k + 1)).map f = (L.take k).map f ++ [f (L.getD k default)] := by
  have e : L.getD k default = L[k] := by simp [List.getD, h]
  rw [List.take_add_one, List.getElem?_eq_getElem h, List.map_append, e]
  rfl
theorem recsTo_next (n : InoR) (k : Nat) (h : k < n.R.length) : scells (recsTo n k) ++ [.string (recWordB (n.R.getD k default))] = scells (recsTo n (k + 1)) := by
  unfold recsTo
  rw [take_more _ _ _ h]
  simp [scells]
theorem entsTo_next (n : InoR) (k : Nat) (h : k < n.E.length) : scells (entsTo n k) ++ [.string (entryWordB (n.E.getD k default))] = scells (entsTo n (k + 1)) := by
  unfold entsTo
  rw [take_more _ _ _ h]
  simp [scells]
theorem fillTo_next (n : InoR) (k : Nat) : scells (fillTo n k) ++ [.string zero8] = scells (fillTo n (k + 1)) := by
  unfold fillTo
  rw [List.replicate_succ']
  simp [scells]
theorem recsTo_all (n : InoR) : recsTo n n.R.length = entsTo n 0 := by unfold recsTo entsTo; simp
theorem entsTo_all (n : InoR) : entsTo n n.E.length = fillTo n 0 := by unfold entsTo fillTo wordsI; simp
theorem recsTo_zero (n : InoR) : recsTo n 0 = [headB n, wordB n.key] := by unfold recsTo; simp
theorem inoWords_yes {n : InoR} (h : InoOk n) : inoWordsB n = fillTo n (8 - (wordsI n).length) := by unfold inoWordsB fillTo; rw [if_pos (inoB_yes h)]
theorem inoWords_no {n : InoR} (h : ¬ InoOk n) : inoWordsB n = [] := by unfold inoWordsB; rw [inoB_no h]; rfl
theorem inoWords_length {n : InoR} (h : InoOk n) : (inoWordsB n).length = 8 := by
  have := wordsI_le h
  rw [inoWords_yes h]
  unfold fillTo
  rw [List.length_append, List.length_replicate]
  omega

section
variable (kd sz gn : Int) (key : ByteArray) (aR : Option Addr) (nR cR : Nat) (aE : Option Addr) (nE cE : Nat) (w : World) (R : List RecR) (E : List EntryR)

set_option maxRecDepth 100000 in
set_option maxHeartbeats 1000000 in
theorem specInoWords_no (hz : -9223372036854775808 ≤ sz ∧ sz ≤ 9223372036854775807) (hs : SrcRec w aR nR R) (hf : FitRec R nR 2000000) (hs' : SrcEntry w aE nE E) (hf' : FitEntry E nE 2000000) (h : ¬ InoOk ⟨kd, sz, gn, key, R, E⟩) :
    Calls Tryd.prog 77 #[.agg #[.int .i64 kd, .int .i64 sz, .int .i64 gn, .string key, .slice aR nR cR, .slice aE nE cE]] w (GivesT [] w) := by
  have HN := Lib.hid (inoB_no h)
  have HZ := Lib.hid hz
  have HF := Lib.hid hf
  have HF' := Lib.hid hf'
  have B0 := Lib.hid (below_bk w (inoObj kd sz gn key aR nR cR aE nE cE))
  have HS := Lib.hid (hs.below B0.out (Nat.le_refl _))
  have HS' := Lib.hid (hs'.below B0.out (Nat.le_refl _))
  clear hz hs hf hs' hf' h
  go_enter Tryd.func77, Tryd.ntmps77
  go_wp2_with fail
  refine (specIno_any kd sz gn key aR nR cR aE nE cE _ R E HZ.out HS.out HF.out HS'.out HF'.out).mono ?_
  rw [HN.out]
  rintro e w1 ⟨rfl, hb1⟩
  have B1 : Hid (Below w.heap.size w w1) := Lib.hid (below_on B0.out (Nat.le_refl _) hb1)
  clear hb1
  go_wp2
  go_ret
  exact ⟨_, rfl, World.ownsRow_lit w1 #[] 0 B1.out.size (by decide) rfl, B1.out.alloc B1.out.size _⟩
set_option maxRecDepth 100000 in
set_option maxHeartbeats 4000000 in
theorem specInoWords_yes (hk : 0 ≤ kd ∧ kd ≤ 2) (hz : -9223372036854775808 ≤ sz ∧ sz ≤ 9223372036854775807) (hs : SrcRec w aR nR R) (hf : FitRec R nR 2000000) (hs' : SrcEntry w aE nE E) (hf' : FitEntry E nE 2000000) (h : InoOk ⟨kd, sz, gn, key, R, E⟩) :
    Calls Tryd.prog 77 #[.agg #[.int .i64 kd, .int .i64 sz, .int .i64 gn, .string key, .slice aR nR cR, .slice aE nE cE]] w (GivesT (inoWordsB ⟨kd, sz, gn, key, R, E⟩) w) := by
  obtain ⟨i0, hi, hz0, hz1, hz2⟩ := info_parts infoText
  obtain ⟨M, hM⟩ : ∃ M : InoR, (⟨kd, sz, gn, key, R, E⟩ : InoR) = M := ⟨_, rfl⟩
  have hlR : M.R.length = nR := by rw [← hM]; exact hs.len
  have hlE : M.E.length = nE := by rw [← hM]; exact hs'.len
  have hMR : M.R = R := by rw [← hM]
  have hME : M.E = E := by rw [← hM]
  have hl8 : (wordsI M).length ≤ 8 := wordsI_le (by rw [← hM]; exact h)
  have hlW : (wordsI M).length = 2 + nR + nE := by unfold wordsI; simp [hlR, hlE]; omega
  have HN := Lib.hid (inoB_yes h)
  have HR : Hid (inoWordsB M = fillTo M (8 - (2 + nR + nE))) := Lib.hid (by rw [← hlW]; exact inoWords_yes (by rw [← hM]; exact h))
  have HL8 : Hid ((inoWordsB M).length = 8) := Lib.hid (inoWords_length (by rw [← hM]; exact h))
  have HZ := Lib.hid hz
  have HF := Lib.hid hf
  have HF' := Lib.hid hf'
  have hgn := h.1
  have HGN : Hid (0 ≤ gn ∧ gn ≤ 65535) := Lib.hid hgn
  have hl8' : nR + nE ≤ 6 := by omega
  have B0 := Lib.hid (below_bk w (inoObj kd sz gn key aR nR cR aE nE cE))
  have K0 := Lib.hid (Bk.alloc w (inoCs kd sz gn key aR nR cR aE nE cE) 54)
  have N0 : Hid ((w.alloc (inoObj kd sz gn key aR nR cR aE nE cE)).heap.size = w.heap.size + 1) := Lib.hid (by simp)
  have HS := Lib.hid (hs.below B0.out (Nat.le_refl _))
  have HS' := Lib.hid (hs'.below B0.out (Nat.le_refl _))
  have HS0 := Lib.hid hs
  have HS0' := Lib.hid hs'
  have HE0 : Hid (headB M = wordB (numTextB kd 1 ++ numTextB sz 2 ++ numTextB gn 2)) := Lib.hid (by rw [← hM]; rfl)
  have HE1 : Hid (M.key = key) := Lib.hid (by rw [← hM])
  have HM := Lib.hid hM
  have HMR := Lib.hid hMR
  have HME := Lib.hid hME
  have HLR := Lib.hid hlR
  have HLE := Lib.hid hlE
  obtain ⟨A, hA⟩ : ∃ A, numTextB kd 1 = A := ⟨_, rfl⟩
  obtain ⟨D, hD⟩ : ∃ D, numTextB sz 2 = D := ⟨_, rfl⟩
  obtain ⟨G, hG⟩ : ∃ G, numTextB gn 2 = G := ⟨_, rfl⟩
  have hA1 : A.size ≤ 1 := by rw [← hA]; rcases numTextB_size kd 1 with e | e <;> rw [e] <;> decide
  have hD1 : D.size ≤ 2 := by rw [← hD]; rcases numTextB_size sz 2 with e | e <;> rw [e] <;> decide
  have hG1 : G.size ≤ 2 := by rw [← hG]; rcases numTextB_size gn 2 with e | e <;> rw [e] <;> decide
  have hAD : ¬ (9223372036854775807 < A.size + D.size) := by omega
  have hADG : ¬ (9223372036854775807 < A.size + D.size + G.size) := by omega
  rw [hA, hD, hG] at HE0
  have HA := Lib.hid hA
  have HD := Lib.hid hD
  have HG := Lib.hid hG
  rw [hM]
  clear hz hs hf hs' hf' h hA hD hG hM hMR hME hl8 hlW hlR hlE hgn
  go_enter Tryd.func77, Tryd.ntmps77
  go_wp2_with fail
  refine (specIno_any kd sz gn key aR nR cR aE nE cE _ R E HZ.out HS.out HF.out HS'.out HF'.out).mono ?_
  rw [HN.out]
  rintro e w1 ⟨rfl, hb1⟩
  have T0 := Lib.hid (K0.out.later hb1)
  have B1 : Hid (Below (w.heap.size + 1) (w.alloc (inoObj kd sz gn key aR nR cR aE nE cE)) w1) := Lib.hid (by rw [N0.out] at hb1; exact hb1)
  clear hb1
  go_wp2
  have T0d := Lib.hid T0.out.drew
  have B1d := Lib.hid B1.out.drew
  go_region_held3 (fun w' => w'.cell? ⟨w.heap.size, 0, none⟩ = some (.int .i64 kd) ∧ w'.cell? ⟨w.heap.size, 1, none⟩ = some (.int .i64 sz) ∧ w'.cell? ⟨w.heap.size, 2, none⟩ = some (.int .i64 gn) ∧ w'.cell? ⟨w.heap.size, 3, none⟩ = some (.string key))
    (first
      | exact ⟨T0d.out.cell rfl, T0d.out.cell rfl, T0d.out.cell rfl, T0d.out.cell rfl⟩
      | exact ⟨T2.out.cell rfl, T2.out.cell rfl, T2.out.cell rfl, T2.out.cell rfl⟩
      | exact ⟨T3.out.cell rfl, T3.out.cell rfl, T3.out.cell rfl, T3.out.cell rfl⟩
      | exact ⟨T4.out.cell rfl, T4.out.cell rfl, T4.out.cell rfl, T4.out.cell rfl⟩
      | exact ⟨T5.out.cell rfl, T5.out.cell rfl, T5.out.cell rfl, T5.out.cell rfl⟩
      | exact ⟨T6.out.cell rfl, T6.out.cell rfl, T6.out.cell rfl, T6.out.cell rfl⟩
      | go_keep)
    (first
      | (go_at_call 118; (with_reducible refine (specNum_any kd 1 _ (by omega)).mono ?_); rw [HA.out]; rintro e w2 ⟨rfl, hb⟩; have T2 := Lib.hid (T0d.out.later hb); have B2 := Lib.hid (below_on B1d.out (by rw [N0.out]; exact Nat.le_refl _) hb); clear hb)
      | (go_at_call 118; (with_reducible refine (specNum_any sz 2 _ HZ.out.2).mono ?_); rw [HD.out]; rintro e w3 ⟨rfl, hb⟩; have T3 := Lib.hid (T2.out.later hb); have B3 := Lib.hid (below_on B2.out (by rw [N0.out]; exact Nat.le_refl _) hb); clear hb)
      | (go_at_call 118; (with_reducible refine (specNum_any gn 2 _ (by have := HGN.out.2; omega)).mono ?_); rw [HG.out]; rintro e w4 ⟨rfl, hb⟩; have T4 := Lib.hid (T3.out.later hb); have B4 := Lib.hid (below_on B3.out (by rw [N0.out]; exact Nat.le_refl _) hb); clear hb)
      | (go_at_call 117; (with_reducible refine (specWord_any (A ++ D ++ G) _).mono ?_); rw [← HE0.out]; rintro e w5 ⟨rfl, hb⟩; have T5 := Lib.hid (T4.out.later hb); have B5 := Lib.hid (below_on B4.out (by rw [N0.out]; exact Nat.le_refl _) hb); clear hb)
      | (go_at_call 117; (with_reducible refine (specWord_any key _).mono ?_); rintro e w6 ⟨rfl, hb⟩; have T6 := Lib.hid (T5.out.later hb); have B6 := Lib.hid (below_on B5.out (by rw [N0.out]; exact Nat.le_refl _) hb); clear hb))
  all_goals
    have S6 : Hid (w.heap.size + 1 ≤ w6.heap.size) := Lib.hid (by have := B6.out.size; rw [N0.out] at this; exact this)
    have H01 : Hid (scells (recsTo M 0) = [.string (headB M), .string (wordB key)]) := Lib.hid (by rw [recsTo_zero, HE1.out]; rfl)
    go_wp2
    go_loopw [3, 4] (fun v iv wr => ∃ k : Nat, k ≤ nR ∧ iv = .int .i64 k ∧ Hid (wr.ownsRow (w.heap.size + 1) 9 1 v (2 + k) (scells (recsTo M k))) ∧ Hid (Below (w.heap.size + 1) (w.alloc (inoObj kd sz gn key aR nR cR aE nE cE)) wr)) (fun _ iv _ => nR - (intOf iv).toNat)
    case atStart => exact ⟨0, Nat.zero_le _, rfl, Lib.hid (by rw [H01.out]; exact World.ownsRow_lit w6 #[.string (headB M), .string (wordB key)] 2 S6.out (by decide) rfl), Lib.hid (B6.out.alloc S6.out _)⟩
    case round =>
      obtain ⟨k, hk, rfl, HW, HB⟩ := hrel
      have q4 := (K0.out.under HB.out (Nat.lt_succ_self _)).cell (j := 4) rfl
      by_cases hlt : k < nR
      · obtain ⟨g, off, ha, hg, d0, d1, d2⟩ := srcRec_later HS.out HB.out (by rw [N0.out]; exact Nat.le_refl _) k hlt
        obtain ⟨⟨p, q, m⟩, hx⟩ : ∃ x, R.getD k default = x := ⟨_, rfl⟩
        have hm := HF.out k hlt
        rw [hx] at d0 d1 d2 hm
        simp only at d0 d1 d2 hm
        rw [ha] at q4
        have HX := Lib.hid hx
        have HMm := Lib.hid hm
        obtain ⟨T, hT⟩ : ∃ T, recWordB ⟨p, q, m⟩ = T := ⟨_, rfl⟩
        have HT := Lib.hid hT
        have HWN : Hid (scells (recsTo M k) ++ [.string T] = scells (recsTo M (k + 1))) := Lib.hid (by
          rw [← recsTo_next M k (by rw [HLR.out]; exact hlt), HMR.out, HX.out, HT.out])
        clear hx hm ha hT
        go_wp2_with (first
          | (go_at_call 95; (with_reducible refine (specRecWord_any p q m _ HMm.out).mono ?_); rw [HT.out]; rintro e wa ⟨rfl, hb1⟩
             have HW1 := Lib.hid (own_below HW.out hb1)
             have BG := Lib.hid (below_on HB.out (by rw [N0.out]; exact Nat.le_refl _) hb1)
             have BS : Hid (w.heap.size + 1 ≤ wa.heap.size) := Lib.hid (by have := BG.out.size; rw [N0.out] at this; exact this))
          | (at_builtin; refine wpList_append_own _ rfl (.tmp 33) (.tmp 40) 25 rfl (w.heap.size + 1) 9 i0 (.string ⟨#[]⟩) 1 16 Tryd.underlying25 hi hz0 hz1 hz2 rfl (by decide) _ _ _ rfl (HW1.out.alloc _) ⟨wa.heap.size, 0, none⟩ 1 1 [.string T] rfl rfl (World.news_of_block (heap_alloc_new _ _)) (by simp [Value.oneCell']) (by unfold maxLen; omega) (by omega) (by have := BS.out; simp; omega) ?_; intro v2 wb hown2 hgrow2 hn2))
        have BG3 := Lib.hid ((BG.out.alloc BS.out _).grown hgrow2 (by have := BS.out; simp; omega) (own_block_ge HW1.out))
        rw [HWN.out] at hown2
        have HO2 := Lib.hid hown2
        clear hown2 hgrow2 hn2 HW1 BG BS HB HW
        go_roundw
        case rel => exact ⟨k + 1, by omega, by go_num, HO2, BG3⟩
        case measure => (simp [intOf]; try omega)
      · obtain rfl : k = nR := by omega
        have H9 : Hid (recsTo M k = entsTo M 0) := Lib.hid (by rw [← HLR.out]; exact recsTo_all M)
        have h9 := HW.out
        rw [H9.out] at h9
        have HW2 := Lib.hid h9
        clear h9
        clear HW
        go_wp2
        go_loopw [3, 5] (fun v iv wr => ∃ k2 : Nat, k2 ≤ nE ∧ iv = .int .i64 k2 ∧ Hid (wr.ownsRow (w.heap.size + 1) 9 1 v (2 + k + k2) (scells (entsTo M k2))) ∧ Hid (Below (w.heap.size + 1) (w.alloc (inoObj kd sz gn key aR k cR aE nE cE)) wr)) (fun _ iv _ => nE - (intOf iv).toNat)
        case atStart => exact ⟨0, Nat.zero_le _, rfl, HW2, HB⟩
        case round =>
          clear HW2 HB
          obtain ⟨k2, hk2, rfl, HW, HB⟩ := hrel
          have q5 := (K0.out.under HB.out (Nat.lt_succ_self _)).cell (j := 5) rfl
          by_cases hlt2 : k2 < nE
          · obtain ⟨g, off, ha, hg, d0, d1⟩ := srcEntry_later HS'.out HB.out (by rw [N0.out]; exact Nat.le_refl _) k2 hlt2
            obtain ⟨⟨p, m⟩, hx⟩ : ∃ x, E.getD k2 default = x := ⟨_, rfl⟩
            have hm := HF'.out k2 hlt2
            rw [hx] at d0 d1 hm
            simp only at d0 d1 hm
            rw [ha] at q5
            have HX := Lib.hid hx
            have HMm := Lib.hid hm
            obtain ⟨T, hT⟩ : ∃ T, entryWordB ⟨p, m⟩ = T := ⟨_, rfl⟩
            have HT := Lib.hid hT
            have HWN : Hid (scells (entsTo M k2) ++ [.string T] = scells (entsTo M (k2 + 1))) := Lib.hid (by
              rw [← entsTo_next M k2 (by rw [HLE.out]; exact hlt2), HME.out, HX.out, HT.out])
            clear hx hm ha hT
            go_wp2_with (first
              | (go_at_call 69; (with_reducible refine (specEntryWord_any p m _ HMm.out).mono ?_); rw [HT.out]; rintro e wa ⟨rfl, hb1⟩
                 have HW1 := Lib.hid (own_below HW.out hb1)
                 have BG := Lib.hid (below_on HB.out (by rw [N0.out]; exact Nat.le_refl _) hb1)
                 have BS : Hid (w.heap.size + 1 ≤ wa.heap.size) := Lib.hid (by have := BG.out.size; rw [N0.out] at this; exact this))
              | (at_builtin; refine wpList_append_own _ rfl (.tmp 49) (.tmp 56) 25 rfl (w.heap.size + 1) 9 i0 (.string ⟨#[]⟩) 1 16 Tryd.underlying25 hi hz0 hz1 hz2 rfl (by decide) _ _ _ rfl (HW1.out.alloc _) ⟨wa.heap.size, 0, none⟩ 1 1 [.string T] rfl rfl (World.news_of_block (heap_alloc_new _ _)) (by simp [Value.oneCell']) (by unfold maxLen; omega) (by omega) (by have := BS.out; simp; omega) ?_; intro v2 wb hown2 hgrow2 hn2))
            have BG3 := Lib.hid ((BG.out.alloc BS.out _).grown hgrow2 (by have := BS.out; simp; omega) (own_block_ge HW1.out))
            rw [HWN.out] at hown2
            have HO2 := Lib.hid hown2
            clear hown2 hgrow2 hn2 HW1 BG BS HB HW
            go_roundw
            case rel => exact ⟨k2 + 1, by omega, by go_num, HO2, BG3⟩
            case measure => (simp [intOf]; try omega)
          · obtain rfl : k2 = nE := by omega
            have H9 : Hid (entsTo M k2 = fillTo M 0) := Lib.hid (by rw [← HLE.out]; exact entsTo_all M)
            have h9 := HW.out
            rw [H9.out] at h9
            have HW3 := Lib.hid h9
            clear h9
            clear HW
            go_wp2
            go_loopw [3] (fun v wr => ∃ k3 : Nat, 2 + k + k2 + k3 ≤ 8 ∧ Hid (wr.ownsRow (w.heap.size + 1) 9 1 v (2 + k + k2 + k3) (scells (fillTo M k3))) ∧ Hid (Below (w.heap.size + 1) (w.alloc (inoObj kd sz gn key aR k cR aE k2 cE)) wr)) (fun v _ => 8 - rowLen v)
            case atStart => exact ⟨0, by omega, HW3, HB⟩
            case round =>
              obtain ⟨k3, hk3, HW, HB⟩ := hrel
              obtain ⟨ad, cap, rfl, hcap, hn, _⟩ := own_form HW.out
              by_cases hlt3 : 2 + k + k2 + k3 < 8
              · obtain ⟨T, hT⟩ : ∃ T, zeroB 8 = T := ⟨_, rfl⟩
                have HT := Lib.hid hT
                have HWN : Hid (scells (fillTo M k3) ++ [.string T] = scells (fillTo M (k3 + 1))) := Lib.hid (by rw [← fillTo_next, ← HT.out]; rfl)
                clear hT
                go_wp2_with (first
                  | (go_at_call 74; (with_reducible refine (specZero_any 8 _).mono ?_); rw [HT.out]; rintro e wa ⟨rfl, hb1⟩
                     have HW1 := Lib.hid (own_below HW.out hb1)
                     have BG := Lib.hid (below_on HB.out (by rw [N0.out]; exact Nat.le_refl _) hb1)
                     have BS : Hid (w.heap.size + 1 ≤ wa.heap.size) := Lib.hid (by have := BG.out.size; rw [N0.out] at this; exact this))
                  | (at_builtin; refine wpList_append_own _ rfl (.tmp 61) (.tmp 63) 25 rfl (w.heap.size + 1) 9 i0 (.string ⟨#[]⟩) 1 16 Tryd.underlying25 hi hz0 hz1 hz2 rfl (by decide) _ _ _ rfl (HW1.out.alloc _) ⟨wa.heap.size, 0, none⟩ 1 1 [.string T] rfl rfl (World.news_of_block (heap_alloc_new _ _)) (by simp [Value.oneCell']) (by unfold maxLen; omega) (by omega) (by have := BS.out; simp; omega) ?_; intro v2 wb hown2 hgrow2 hn2))
                have BG3 := Lib.hid ((BG.out.alloc BS.out _).grown hgrow2 (by have := BS.out; simp; omega) (own_block_ge HW1.out))
                rw [HWN.out] at hown2
                have HO2 := Lib.hid hown2
                clear hown2 hgrow2 hn2 HW1 BG BS HB HW
                obtain ⟨ad2, cap2, rfl, hcap2, hn9, _⟩ := own_form HO2.out
                go_roundw
                case rel => exact ⟨k3 + 1, by omega, HO2, BG3⟩
                case measure => (simp [rowLen]; try omega)
              · have HW9 : Hid (wr.ownsRow w.heap.size 9 1 (.slice ad (2 + k + k2 + k3) cap) (inoWordsB M).length (scells (inoWordsB M))) := Lib.hid (by
                  have h9 := HW.out
                  rw [HL8.out, HR.out, show 8 - (2 + k + k2) = k3 by omega, show 8 = 2 + k + k2 + k3 by omega]
                  exact ownE_mono h9 (by omega))
                clear HW
                go_wp2
                go_ret
                exact ⟨_, rfl, HW9.out, B0.out.trans (HB.out.mono (by omega))⟩

theorem specInoWords_any (hz : -9223372036854775808 ≤ sz ∧ sz ≤ 9223372036854775807) (hs : SrcRec w aR nR R) (hf : FitRec R nR 2000000) (hs' : SrcEntry w aE nE E) (hf' : FitEntry E nE 2000000) :
    Calls Tryd.prog 77 #[.agg #[.int .i64 kd, .int .i64 sz, .int .i64 gn, .string key, .slice aR nR cR, .slice aE nE cE]] w (GivesT (inoWordsB ⟨kd, sz, gn, key, R, E⟩) w) := by
  by_cases h : InoOk ⟨kd, sz, gn, key, R, E⟩
  · have hk : 0 ≤ kd ∧ kd ≤ 2 := by
      obtain ⟨_, ⟨e, _⟩ | ⟨e, _⟩ | ⟨e, _⟩⟩ := h
      · have e : kd = 0 := e
        omega
      · have e : kd = 1 := e
        omega
      · have e : kd = 2 := e
        omega
    exact specInoWords_yes kd sz gn key aR nR cR aE nE cE w R E hk hz hs hf hs' hf' h
  · rw [inoWords_no h]
    exact specInoWords_no kd sz gn key aR nR cR aE nE cE w R E hz hs hf hs' hf' h
end
end Go.Proofs.YtmkchilhnmkhkaaDoor
namespace Go.Proofs.YtmkchilhnmkhkaaDoor
open Go.RowKit Go.Proofs.YtmkchilhnmkhkaaDoor.Parts Go.Proofs.YtmkchilhnmkhkaaDoor.Hexa Go.Proofs.YtmkchilhnmkhkaaDoor.Byt

/-- The end of a word's text without its last zeros, at least 1. -/
def endTo (l : List UInt8) : Nat → Nat
  | 0 => 1
  | 1 => 1
  | k + 2 => if l.getD (k + 1) 0 = 0 then endTo l (k + 1) else k + 2
def endOf (s : ByteArray) : Nat := endTo s.data.toList 8
theorem endTo_one (l : List UInt8) : endTo l 1 = 1 := rfl
theorem endTo_step (l : List UInt8) (k : Nat) (h : l.getD (k + 1) 0 = 0) : endTo l (k + 2) = endTo l (k + 1) := if_pos h
theorem endTo_stop (l : List UInt8) (k : Nat) (h : ¬ l.getD (k + 1) 0 = 0) : endTo l (k + 2) = k + 2 := if_neg h
theorem endTo_bd (l : List UInt8) : ∀ k, 1 ≤ endTo l k ∧ (1 ≤ k → endTo l k ≤ k)
  | 0 => ⟨Nat.le_refl _, fun h => by omega⟩
  | 1 => ⟨Nat.le_refl _, fun _ => Nat.le_refl _⟩
  | k + 2 => by
    have h := endTo_bd l (k + 1)
    rw [endTo]
    split
    · exact ⟨h.1, fun _ => by have := h.2 (by omega); omega⟩
    · exact ⟨by omega, fun _ => Nat.le_refl _⟩
theorem endTo_zero (l : List UInt8) : ∀ k j, endTo l k ≤ j → j < k → 1 ≤ j → l.getD j 0 = 0
  | 0, j, _, h, _ => by omega
  | 1, j, _, h, h1 => by omega
  | k + 2, j, he, hj, h1 => by
    by_cases hz : l.getD (k + 1) 0 = 0
    · rw [endTo_step l k hz] at he
      by_cases e : j = k + 1
      · subst e; exact hz
      · exact endTo_zero l (k + 1) j he (by omega) h1
    · rw [endTo_stop l k hz] at he; omega
def entryOf (s : ByteArray) : EntryR := ⟨((s.data.toList.getD 0 0).toNat : Int), s.extract 1 (endOf s)⟩
def entryReadB (s : ByteArray) : Bool := decide (s.size = 8 ∧ EntryOk (entryOf s))
def entryReadR (s : ByteArray) : EntryR := if s.size = 8 ∧ EntryOk (entryOf s) then entryOf s else ⟨0, ⟨#[]⟩⟩
theorem one_byte (b : UInt8) (_h : 0 ≤ (b.toNat : Int)) : (numTextB (b.toNat : Int) 1).data.toList = [b] := by
  have hb := b.toNat_lt
  unfold numTextB
  rw [if_pos ⟨by omega, by omega, by simp; omega⟩]
  simp [numB, numL]
theorem longB_list (n : Nat) : (longB n 0).data.toList = List.replicate n 0 := by
  unfold longB
  simp
set_option maxRecDepth 100000 in
theorem entry_back {s : ByteArray} (h8 : s.size = 8) (h : EntryOk (entryOf s)) : entryWordB (entryOf s) = s := by
  rw [entryWordB_yes h]
  have hl : s.data.toList.length = 8 := by simpa using h8
  have hE := endTo_bd s.data.toList 8
  have hE8 := hE.2 (by omega)
  have hz := endTo_zero s.data.toList 8
  obtain ⟨E, hEe⟩ : ∃ E, endTo s.data.toList 8 = E := ⟨_, rfl⟩
  have h1 := one_byte (s.data.toList.getD 0 0) (by omega)
  have hA : (numTextB ((s.data.toList.getD 0 0).toNat : Int) 1).size = 1 := by
    have : (numTextB ((s.data.toList.getD 0 0).toNat : Int) 1).data.toList.length = 1 := by rw [h1]; rfl
    simpa using this
  have hM : (s.extract 1 E).size = E - 1 := by rw [ByteArray.size_extract]; rw [hEe] at hE8; omega
  rw [hEe] at hE hE8 hz
  have hx : (s.extract 1 E).data.toList = (s.data.toList.drop 1).take (E - 1) := by
    have h2 := cut_extract s 1 (E - 1)
    rw [show 1 + (E - 1) = E by have := hE.1; omega] at h2
    exact h2
  have hsz : (numTextB ((s.data.toList.getD 0 0).toNat : Int) 1 ++ s.extract 1 E).size = E := by rw [ByteArray.size_append, hA, hM]; omega
  unfold entryOf endOf wordB
  rw [hEe]
  simp only
  rw [if_pos (by rw [hsz]; omega), hsz]
  apply ByteArray.ext
  apply Array.toList_inj.1
  simp only [ByteArray.data_append, Array.toList_append]
  rw [h1, hx, longB_list]
  apply List.ext_getElem?
  intro j
  by_cases hj0 : j = 0
  · subst hj0
    simp [List.getD, hl]
  have hl1 : (([s.data.toList.getD 0 0] : List UInt8) ++ (s.data.toList.drop 1).take (E - 1)).length = E := by rw [List.length_append, List.length_take, List.length_drop, hl]; simp; omega
  by_cases hj1 : j < E
  · rw [List.append_assoc, List.getElem?_append_right (by simp; omega), List.getElem?_append_left (by simp [hl]; omega)]
    rw [List.getElem?_take, if_pos (by simp; omega), List.getElem?_drop]
    congr 1; simp; omega
  · by_cases hj8 : j < 8
    · rw [List.getElem?_append_right (by rw [hl1]; omega), List.getElem?_replicate, if_pos (by rw [hl1]; omega)]
      have hv := hz j (by omega) hj8 (by omega)
      have hjl : j < s.data.toList.length := by omega
      have h3 : s.data.toList.getD j 0 = s.data.toList[j] := by simp only [List.getD, List.getElem?_eq_getElem hjl, Option.getD_some]
      rw [List.getElem?_eq_getElem hjl, ← h3, hv]
    · rw [List.getElem?_eq_none (by rw [List.length_append, hl1, List.length_replicate]; omega), List.getElem?_eq_none (by omega)]
end Go.Proofs.YtmkchilhnmkhkaaDoor
namespace Go.Proofs.YtmkchilhnmkhkaaDoor
open Go.RowKit Go.Proofs.YtmkchilhnmkhkaaDoor.Parts Go.Proofs.YtmkchilhnmkhkaaDoor.Hexa

def encT : Enc ByteArray := ⟨1, fun s => [.string s], fun _ => rfl⟩
theorem encT_cells (s : ByteArray) : encT.cells s = [.string s] := rfl
theorem cellsT_eq : ∀ L : List ByteArray, cellsE encT L = scells L
  | [] => rfl
  | x :: r => by rw [cellsE, cellsT_eq r]; rfl
abbrev SrcT (w : World) (a : Option Addr) (n : Nat) (L : List ByteArray) : Prop := SrcE encT w a n L
theorem srcT_at {w : World} {a : Option Addr} {n : Nat} {L : List ByteArray} (h : SrcT w a n L) (j : Nat) (hj : j < n) : ∃ g off, a = some ⟨g, off, none⟩ ∧ g < w.heap.size ∧ w.cell? ⟨g, off + j, none⟩ = some (.string (L.getD j default)) := by
  obtain ⟨g, off, e, hg, c⟩ := h.cell j hj
  refine ⟨g, off, e, hg, ?_⟩
  have h9 := c 0 _ rfl
  rw [show off + j * encT.k + 0 = off + j from by show off + j * 1 + 0 = off + j; omega] at h9
  exact h9
theorem srcT_of_own {w : World} {B e n cap : Nat} {a : Option Addr} {L : List ByteArray} (h : w.ownsRow B e 1 (.slice a n cap) n (scells L)) : SrcT w a n L := srcE_of_own (E := encT) (by rw [cellsT_eq]; exact h) (by decide)
theorem srcT_later {w w' : World} {a : Option Addr} {n : Nat} {L : List ByteArray} {B : Nat} (h : SrcT w a n L) (hb : Below B w w') (hB : w.heap.size ≤ B) (j : Nat) (hj : j < n) : ∃ g off, a = some ⟨g, off, none⟩ ∧ g < w.heap.size ∧ w'.cell? ⟨g, off + j, none⟩ = some (.string (L.getD j default)) := by
  obtain ⟨g, off, e, hg, _⟩ := srcT_at h j hj
  obtain ⟨g', off', e', _, c⟩ := srcT_at (h.below hb hB) j hj
  rw [e] at e'
  cases e'
  exact ⟨g, off, e, hg, c⟩
theorem texts_eq {P Q : List ByteArray} {n : Nat} (hP : P.length = n) (hQ : Q.length = n) (h : ∀ j, j < n → P.getD j default = Q.getD j default) : P = Q := by
  apply List.ext_getElem (by omega)
  intro i h1 h2
  have h9 := h i (by omega)
  simpa [List.getD, h1, h2] using h9
end Go.Proofs.YtmkchilhnmkhkaaDoor
