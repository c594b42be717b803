/- InodeOk of the model: a directory. -/
import Derived.Test.YtcckhkihhhchbaaInoSpecC
import Derived.Test.YtcckhkihhhchbaaGrown
namespace Go.Proofs.Ytcckhkihhhchbaa
open Go.RowKit Go.Proofs.Ytcckhkihhhchbaa.Parts Go.Proofs.Ytcckhkihhhchbaa.Hexa Go.Proofs.Ytcckhkihhhchbaa.Byt

section
variable (sz gn : Int) (key : ByteArray) (aR : Option Addr) (nR cR : Nat) (aE : Option Addr) (nE cE : Nat) (w : World) (E : List EntryR)

set_option maxRecDepth 100000 in
set_option maxHeartbeats 1000000 in
theorem specIno_dirNo (h : 0 ≤ gn ∧ gn ≤ 65535) (hno : ¬ (sz = 0 ∧ key.size = 0 ∧ nR = 0 ∧ nE ≤ 6)) :
    Calls Try.prog 26 #[.agg #[.int .i64 2, .int .i64 sz, .int .i64 gn, .string key, .slice aR nR cR, .slice aE nE cE]] w (SaysB false w) := by
  have H0 := Lib.hid h
  have B0 := Lib.hid (below_bk w (inoObj 2 sz gn key aR nR cR aE nE cE))
  clear h
  by_cases h1 : sz = 0
  · subst h1
    by_cases h2 : key.size = 0
    · obtain rfl : key = ⟨#[]⟩ := text_nothing h2
      by_cases h3 : nR = 0
      · subst h3
        have h4 : (6 : Int) < (nE : Int) := by
          by_cases h5 : nE ≤ 6
          · exact absurd ⟨rfl, rfl, rfl, h5⟩ hno
          · omega
        clear hno
        go_enter Try.func26, Try.ntmps26
        go_wp2_with ((with_reducible refine (range_yes _ H0.out).mono ?_); rintro e w1 ⟨rfl, rfl⟩)
        go_ret
        exact ⟨rfl, B0.out⟩
      · have h4 : (0 : Int) < (nR : Int) := by omega
        clear hno
        go_enter Try.func26, Try.ntmps26
        go_wp2_with ((with_reducible refine (range_yes _ H0.out).mono ?_); rintro e w1 ⟨rfl, rfl⟩)
        go_ret
        exact ⟨rfl, B0.out⟩
    · have e4 : (key.toList == []) = false := text_full key (by omega)
      have e5 : (key.toList != []) = true := by simp only [bne, e4]; rfl
      clear hno
      go_enter Try.func26, Try.ntmps26
      go_wp2_with ((with_reducible refine (range_yes _ H0.out).mono ?_); rintro e w1 ⟨rfl, rfl⟩)
      go_ret
      exact ⟨rfl, B0.out⟩
  · have e4 : (sz != 0) = true := by simpa using h1
    clear hno
    go_enter Try.func26, Try.ntmps26
    go_wp2_with ((with_reducible refine (range_yes _ H0.out).mono ?_); rintro e w1 ⟨rfl, rfl⟩)
    go_ret
    exact ⟨rfl, B0.out⟩

set_option maxRecDepth 100000 in
set_option maxHeartbeats 2000000 in
theorem specIno_dir (h : 0 ≤ gn ∧ gn ≤ 65535) (h6 : nE ≤ 6) (hs : SrcEntry w aE nE E) (hf : FitEntry E nE 2000000) (b : Bool) (hb : b = true ↔ EntsOk E nE) :
    Calls Try.prog 26 #[.agg #[.int .i64 2, .int .i64 0, .int .i64 gn, .string ⟨#[]⟩, .slice aR 0 cR, .slice aE nE cE]] w (SaysB b w) := by
  have H0 := Lib.hid h
  have HS := Lib.hid hs
  have HF := Lib.hid hf
  have HG := Lib.hid hb
  have B0 := Lib.hid (below_bk w (inoObj 2 0 gn ⟨#[]⟩ aR 0 cR aE nE cE))
  have K0 := Lib.hid (Bk.alloc w (inoCs 2 0 gn ⟨#[]⟩ aR 0 cR aE nE cE) 51)
  have N0 : Hid ((w.alloc (inoObj 2 0 gn ⟨#[]⟩ aR 0 cR aE nE cE)).heap.size = w.heap.size + 1) := Lib.hid (by simp)
  clear h hs hf hb
  go_enter Try.func26, Try.ntmps26
  go_wp2_with ((with_reducible refine (range_yes _ H0.out).mono ?_); rintro e w1 ⟨rfl, rfl⟩)
  go_loopw [5] (fun iv wr => ∃ k : Nat, k ≤ nE ∧ iv = .int .i64 k ∧ Hid (EntsOk E k) ∧ Hid (Below (w.heap.size + 1) (w.alloc (inoObj 2 0 gn ⟨#[]⟩ aR 0 cR aE nE cE)) wr)) (fun iv _ => nE - (intOf iv).toNat)
  case atStart => exact ⟨0, Nat.zero_le _, rfl, Lib.hid (fun j hj => by omega), Lib.hid (Below.refl _ _)⟩
  case round =>
    obtain ⟨k, hk, rfl, HA, HB⟩ := hrel
    have BW : Hid (Below w.heap.size w wr) := Lib.hid (B0.out.trans (HB.out.mono (by omega)))
    have NW : Hid (w.heap.size + 1 ≤ wr.heap.size) := Lib.hid (by have := HB.out.size; rw [N0.out] at this; exact this)
    have q5 := (K0.out.under HB.out (Nat.lt_succ_self _)).cell (j := 5) rfl
    by_cases hlt : k < nE
    · obtain ⟨g, off, ha, hg, d0, d1⟩ := srcEntry_later HS.out BW.out (Nat.le_refl _) k hlt
      obtain ⟨⟨p, m⟩, hx⟩ : ∃ x, E.getD k default = x := ⟨_, rfl⟩
      have hm := HF.out k hlt
      rw [hx] at d0 d1 hm
      simp only at d0 d1 hm
      have HX := Lib.hid hx
      have HM := Lib.hid hm
      have hpr : Hid (∀ j, j < nE → ∃ v, wr.cell? ⟨g, off + j * 2 + 1, none⟩ = some (.string v) ∧ v = (E.getD j default).f1) := Lib.hid (fun j hj => by
        obtain ⟨g', off', ha', _, _, c1⟩ := srcEntry_later HS.out BW.out (Nat.le_refl _) j hj
        rw [ha] at ha'; cases ha'
        exact ⟨_, c1, rfl⟩)
      have hgw : Hid (g < wr.heap.size) := Lib.hid (by have := NW.out; omega)
      rw [ha] at q5
      clear hx hm ha
      by_cases i1 : EntryOk ⟨p, m⟩
      · have hT8 := entryWord_size i1
        have I1 := Lib.hid i1
        obtain ⟨T, hT⟩ : ∃ T, entryWordB ⟨p, m⟩ = T := ⟨_, rfl⟩
        have HT := Lib.hid hT
        rw [hT] at hT8
        have e1 : (T.toList == []) = false := text_full T (by omega)
        have HC : Hid (∀ W : World, Calls Try.prog 20 #[.agg #[.int .i64 p, .string m]] W fun e w' => e = .returned (.string T) ∧ Below W.heap.size W w') := Lib.hid (fun W => by
          have h9 := specEntryWord_any p m W HM.out
          rw [HT.out] at h9
          exact h9)
        clear i1 hT hT8
        match k with
        | 0 =>
          simp only [Nat.zero_mul, Nat.add_zero] at d0 d1
          have HA1 : Hid (EntsOk E 1) := Lib.hid (entsOk_step HA.out (by rw [HX.out]; exact I1.out) (fun h0 => by omega))
          have z5 := GrownW.cell q5 (by have := NW.out; change w.heap.size < wr.heap.size; omega)
          have z0 := GrownW.cell d0 hgw.out
          have z1 := GrownW.cell d1 hgw.out
          go_wp2
          refine wp_region_grown (by kernel_rfl) (by kernel_rfl) ?_
          repeat (go_big_quiet_step ((go_at_call 20; exact Calls.grown_of (HC.out _))))
          refine wpQuiet_nil ?_
          rintro _ ⟨gq, rfl⟩
          have B1 : Hid (Below (w.heap.size + 1) (w.alloc (inoObj 2 0 gn ⟨#[]⟩ aR 0 cR aE nE cE)) gq.wd) := Lib.hid (below_on HB.out (by rw [N0.out]; exact Nat.le_refl _) gq.grown)
          go_wp2
          go_roundw
          case rel => exact ⟨1, by omega, by go_num, HA1, B1⟩
          case measure => (simp [intOf]; try omega)
        | k + 1 =>
          obtain ⟨u, c1, hu⟩ := hpr.out k (by omega)
          have HU := Lib.hid hu
          clear hu
          have z5 := GrownW.cell q5 (by have := NW.out; change w.heap.size < wr.heap.size; omega)
          have z0 := GrownW.cell d0 hgw.out
          have z1 := GrownW.cell d1 hgw.out
          have z2 := GrownW.cell c1 hgw.out
          by_cases i2 : textLt u m = true
          · have HA1 : Hid (EntsOk E (k + 2)) := Lib.hid (entsOk_step HA.out (by rw [HX.out]; exact I1.out) (fun h0 => by rw [show k + 1 - 1 = k by omega, ← HU.out, HX.out]; exact i2))
            have i3 : Op.bytesLess u.toList m.toList = true := i2
            clear i2
            go_wp2
            refine wp_region_grown (by kernel_rfl) (by kernel_rfl) ?_
            repeat (go_big_quiet_step ((go_at_call 20; exact Calls.grown_of (HC.out _))))
            refine wpQuiet_nil ?_
            rintro _ ⟨gq, rfl⟩
            have B1 : Hid (Below (w.heap.size + 1) (w.alloc (inoObj 2 0 gn ⟨#[]⟩ aR 0 cR aE nE cE)) gq.wd) := Lib.hid (below_on HB.out (by rw [N0.out]; exact Nat.le_refl _) gq.grown)
            go_wp2
            go_roundw
            case rel => exact ⟨k + 2, by omega, by go_num, HA1, B1⟩
            case measure => (simp [intOf]; try omega)
          · obtain rfl : b = false := bool_no HG.out (fun x => i2 (by have h9 := (x (k + 1) hlt).2 (by omega); rw [show k + 1 - 1 = k by omega, ← HU.out, HX.out] at h9; exact h9))
            have i3 : Op.bytesLess u.toList m.toList = false := by simpa [textLt] using i2
            clear i2
            go_wp2
            refine wp_region_grown (by kernel_rfl) (by kernel_rfl) ?_
            repeat (go_big_quiet_step ((go_at_call 20; exact Calls.grown_of (HC.out _))))
            refine wpQuiet_nil ?_
            rintro _ ⟨gq, rfl⟩
            have B1 : Hid (Below (w.heap.size + 1) (w.alloc (inoObj 2 0 gn ⟨#[]⟩ aR 0 cR aE nE cE)) gq.wd) := Lib.hid (below_on HB.out (by rw [N0.out]; exact Nat.le_refl _) gq.grown)
            go_wp2
            go_ret
            exact ⟨rfl, B0.out.trans (B1.out.mono (by omega))⟩
      · have HT := Lib.hid (entryWordB_no i1)
        have HC : Hid (∀ W : World, Calls Try.prog 20 #[.agg #[.int .i64 p, .string m]] W fun e w' => e = .returned (.string ⟨#[]⟩) ∧ Below W.heap.size W w') := Lib.hid (fun W => by
          have h9 := specEntryWord_any p m W HM.out
          rw [HT.out] at h9
          exact h9)
        obtain rfl : b = false := bool_no HG.out (fun x => i1 (by have h9 := (x k hlt).1; rw [HX.out] at h9; exact h9))
        clear i1
        have z5 := GrownW.cell q5 (by have := NW.out; change w.heap.size < wr.heap.size; omega)
        have z0 := GrownW.cell d0 hgw.out
        have z1 := GrownW.cell d1 hgw.out
        go_wp2
        refine wp_region_grown (by kernel_rfl) (by kernel_rfl) ?_
        repeat (go_big_quiet_step ((go_at_call 20; exact Calls.grown_of (HC.out _))))
        refine wpQuiet_nil ?_
        rintro _ ⟨gq, rfl⟩
        have B1 : Hid (Below (w.heap.size + 1) (w.alloc (inoObj 2 0 gn ⟨#[]⟩ aR 0 cR aE nE cE)) gq.wd) := Lib.hid (below_on HB.out (by rw [N0.out]; exact Nat.le_refl _) gq.grown)
        go_wp2
        go_ret
        exact ⟨rfl, B0.out.trans (B1.out.mono (by omega))⟩
    · obtain rfl : k = nE := by omega
      obtain rfl : b = true := HG.out.2 HA.out
      go_wp2
      go_ret
      exact ⟨rfl, BW.out⟩
end
end Go.Proofs.Ytcckhkihhhchbaa
