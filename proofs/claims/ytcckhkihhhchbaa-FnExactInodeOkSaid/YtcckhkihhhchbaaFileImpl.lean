/- What a file has besides: whether it is right. The program's. -/
import Derived.Test.YtcckhkihhhchbaaInoSpec
import Derived.Test.YtcckhkihhhchbaaRecImpl
import Derived.Test.YtcckhkihhhchbaaPagesImpl
namespace Go.Proofs.Ytcckhkihhhchbaa
open Go.RowKit Go.Proofs.Ytcckhkihhhchbaa.Parts Go.Proofs.Ytcckhkihhhchbaa.Hexa Go.Proofs.Ytcckhkihhhchbaa.Byt

/-- Which pages the first k records have. -/
def takenB (R : List RecR) (k q : Nat) : Bool := (List.range k).any fun i => (R.getD i default).f0 == (q : Int)
theorem takenB_iff {R : List RecR} {k q : Nat} : takenB R k q = true ↔ ∃ i, i < k ∧ (R.getD i default).f0 = (q : Int) := by simp [takenB]
structure TakenTo (R : List RecR) (k : Nat) (cs : Array Value) : Prop where
  size : cs.size = 13
  cell : ∀ q, q < 13 → cs[q]? = some (.bool (takenB R k q))
theorem TakenTo.zero (R : List RecR) : TakenTo R 0 #[.bool false, .bool false, .bool false, .bool false, .bool false, .bool false, .bool false, .bool false, .bool false, .bool false, .bool false, .bool false, .bool false] :=
  ⟨rfl, fun q hq => by
    match q, hq with
    | 0, _ => rfl
    | 1, _ => rfl
    | 2, _ => rfl
    | 3, _ => rfl
    | 4, _ => rfl
    | 5, _ => rfl
    | 6, _ => rfl
    | 7, _ => rfl
    | 8, _ => rfl
    | 9, _ => rfl
    | 10, _ => rfl
    | 11, _ => rfl
    | 12, _ => rfl
    | q + 13, h => omega⟩
theorem takenB_next (R : List RecR) (k q p : Nat) (hp : (R.getD k default).f0 = (p : Int)) : takenB R (k + 1) q = (takenB R k q || decide (q = p)) := by
  unfold takenB
  rw [List.range_succ, List.any_append]
  simp only [List.any_cons, List.any_nil, Bool.or_false, hp]
  congr 1
  by_cases h : q = p
  · subst h; simp
  · simp [h]; omega
theorem TakenTo.next {R : List RecR} {k p : Nat} {cs : Array Value} (h : TakenTo R k cs) (hp : (R.getD k default).f0 = (p : Int)) (h12 : p < 13) : TakenTo R (k + 1) (cs.setIfInBounds p (.bool true)) :=
  ⟨by simp [h.size], fun q hq => by
    rw [takenB_next R k q p hp, Array.getElem?_setIfInBounds]
    by_cases e : p = q
    · subst e; simp [h.size, h12]
    · rw [if_neg e, h.cell q hq]
      have : ¬ q = p := fun x => e x.symm
      simp [this]⟩

section
variable (sz : Int) (key : ByteArray) (aR : Option Addr) (nR cR : Nat) (w : World) (R : List RecR)

set_option maxRecDepth 100000 in
set_option maxHeartbeats 1000000 in
theorem implFile_no (hz : -9223372036854775808 ≤ sz ∧ sz ≤ 9223372036854775807) (hno : ¬ ((0 ≤ sz ∧ sz ≤ 128) ∧ key.size = 8 ∧ (nR : Int) = pagesZ sz)) :
    Calls Try.prog 51 #[.agg #[.int .i64 sz, .string key, .slice aR nR cR]] w (SaysB false w) := by
  have HZ := Lib.hid hz
  have B0 := Lib.hid (below_bk w (.cells #[.int .i64 sz, .string key, .slice aR nR cR] 73))
  clear hz
  by_cases h1 : 0 ≤ sz ∧ sz ≤ 128
  · have H1 := Lib.hid h1
    by_cases h2 : key.size = 8
    · have e2 : ((key.size : Int) != 8) = false := by simp; omega
      have h3 : ¬ (nR : Int) = pagesZ sz := fun e => hno ⟨h1, h2, e⟩
      obtain ⟨p, hp⟩ : ∃ p, pagesZ sz = p := ⟨_, rfl⟩
      have HQ : Hid (∀ W : World, Calls Try.prog 24 #[.int .i64 sz] W fun e w' => e = .returned (.int .i64 p) ∧ w' = W) := Lib.hid (fun W => by
        rw [← hp]; exact implPages_any sz W HZ.out.1 HZ.out.2)
      rw [hp] at h3
      have e3 : ((nR : Int) != p) = true := by simpa using h3
      clear hno h1 h3 hp
      go_enter Try.func51, Try.ntmps51
      go_wp2
      go_quiet (first
        | (go_at_call 37; exact Calls.quiet_of_same (implIn_yes _ H1.out))
        | (go_at_call 24; exact Calls.quiet_of_same (HQ.out _)))
      go_wp2
      go_ret
      exact ⟨rfl, below_drewsN B0.out _⟩
    · have e2 : ((key.size : Int) != 8) = true := by have : ¬ ((key.size : Int) = 8) := by omega
                                                     simpa using this
      clear hno h1 h2
      go_enter Try.func51, Try.ntmps51
      go_wp2
      go_quiet ((go_at_call 37; exact Calls.quiet_of_same (implIn_yes _ H1.out)))
      go_wp2
      go_ret
      exact ⟨rfl, below_drewsN B0.out _⟩
  · have H1 := Lib.hid h1
    clear hno h1
    go_enter Try.func51, Try.ntmps51
    go_wp2
    go_quiet ((go_at_call 37; exact Calls.quiet_of_same (implIn_no _ H1.out)))
    go_wp2
    go_ret
    exact ⟨rfl, below_drewsN B0.out _⟩

set_option maxRecDepth 100000 in
set_option maxHeartbeats 2000000 in
theorem implFile_yes (h1 : 0 ≤ sz ∧ sz ≤ 128) (h2 : key.size = 8) (h3 : (nR : Int) = pagesZ sz) (hs : SrcRec w aR nR R) (hf : FitRec R nR 2000000) (b : Bool) (hb : b = true ↔ RecsOk R nR) :
    Calls Try.prog 51 #[.agg #[.int .i64 sz, .string key, .slice aR nR cR]] w (SaysB b w) := by
  have H1 := Lib.hid h1
  have HF := Lib.hid hf
  have HG := Lib.hid hb
  have B0 := Lib.hid (below_bk w (.cells #[.int .i64 sz, .string key, .slice aR nR cR] 73))
  have HS := Lib.hid hs
  have N0 : Hid ((w.alloc (.cells #[.int .i64 sz, .string key, .slice aR nR cR] 73)).heap.size = w.heap.size + 1) := Lib.hid (by simp)
  have e2 : ((key.size : Int) != 8) = false := by simp; omega
  have hn4 : nR ≤ 4 := by unfold pagesZ at h3; split at h3 <;> omega
  have HQ : Hid (∀ W : World, Calls Try.prog 24 #[.int .i64 sz] W fun e w' => e = .returned (.int .i64 nR) ∧ w' = W) := Lib.hid (fun W => by
    rw [h3]; exact implPages_any sz W (by omega) (by omega))
  clear h1 h2 h3 hs hf hb
  go_enter Try.func51, Try.ntmps51
  go_wp2
  go_quiet (first
    | (go_at_call 37; exact Calls.quiet_of_same (implIn_yes _ H1.out))
    | (go_at_call 24; exact Calls.quiet_of_same (HQ.out _)))
  go_wp2
  go_loopw [28] (fun iv wr => ∃ (k : Nat) (cs : Array Value), k ≤ nR ∧ iv = .int .i64 k ∧ Hid (RecsOk R k) ∧ Hid (TakenTo R k cs) ∧ Hid (Bk wr (w.heap.size + 1) cs 96) ∧ Hid (Below w.heap.size w wr)) (fun iv _ => nR - (intOf iv).toNat)
  case atStart =>
    exact ⟨0, _, Nat.zero_le _, rfl, Lib.hid (fun j hj => by omega), Lib.hid (TakenTo.zero R), Lib.hid (by rw [← N0.out]; exact Bk.alloc _ _ _), Lib.hid ((below_drewsN B0.out _).alloc B0.out.size _)⟩
  case round =>
    obtain ⟨k, cs, hk, rfl, HA, HT0, HK, HB⟩ := hrel
    by_cases hlt : k < nR
    · obtain ⟨g, off, ha, hg, d0, d1, d2⟩ := srcRec_later HS.out HB.out (Nat.le_refl _) k hlt
      obtain ⟨⟨p, q, m⟩, hx⟩ : ∃ x, R.getD k default = x := ⟨_, rfl⟩
      have hm := HF.out k hlt
      rw [hx] at d0 d1 d2 hm
      simp only at d0 d1 d2 hm
      have HX := Lib.hid hx
      have HM := Lib.hid hm
      have X0 := Lib.hid (Bk.alloc wr #[.int .i64 p, .int .i64 q, .string m] 27)
      have HKa := Lib.hid (HK.out.later (below_bk wr (.cells #[.int .i64 p, .int .i64 q, .string m] 27)))
      have HBa : Hid (Below w.heap.size w (wr.alloc (.cells #[.int .i64 p, .int .i64 q, .string m] 27))) := Lib.hid (HB.out.alloc HB.out.size _)
      have HNa : Hid (w.heap.size + 1 < wr.heap.size) := Lib.hid HK.out.lt
      subst ha
      clear hx hm
      by_cases i1 : RecOk ⟨p, q, m⟩
      · have hT8 := recWord_size i1
        have I1 := Lib.hid i1
        have hp1 : 1 ≤ p ∧ p ≤ 12 := i1.1
        obtain ⟨r, rfl⟩ : ∃ r : Nat, p = (r : Int) := ⟨p.toNat, by omega⟩
        have hr0 : 0 < r := by omega
        have hr12 : r < 13 := by omega
        obtain ⟨T, hT⟩ : ∃ T, recWordB ⟨(r : Int), q, m⟩ = T := ⟨_, rfl⟩
        have HT := Lib.hid hT
        rw [hT] at hT8
        have e1 : (T.toList == []) = false := text_full T (by omega)
        clear i1 hT hT8 hp1
        go_wp2_with fail
        refine (implRecWord_any (r : Int) q m _ HM.out).mono ?_
        rw [HT.out]
        rintro e w1 ⟨rfl, hb1⟩
        have X1 := Lib.hid (X0.out.later hb1)
        have K1 := Lib.hid (HKa.out.later hb1)
        have B1 : Hid (Below w.heap.size w w1) := Lib.hid (HBa.out.trans (hb1.mono HBa.out.size))
        have x0 := X1.out.cell (j := 0) rfl
        have f1 := K1.out.fr (o := r)
        have S1 : Hid (Bk (w1.setCell ⟨w.heap.size + 1, r, none⟩ (.bool true)) (w.heap.size + 1) (cs.setIfInBounds r (.bool true)) 96) := Lib.hid (K1.out.set r (.bool true))
        have B2 : Hid (Below w.heap.size w (w1.setCell ⟨w.heap.size + 1, r, none⟩ (.bool true))) := Lib.hid (B1.out.setCell (by simp) _)
        have HT2 := Lib.hid (HT0.out.next (p := r) (by rw [HX.out]) hr12)
        clear hb1 d0 d1 d2 HB HK HKa HBa
        by_cases i2 : takenB R k r = true
        · have k1 : w1.cell? ⟨w.heap.size + 1, r, none⟩ = some (.bool true) := by
            have h9 := K1.out.cell (HT0.out.cell r hr12)
            rw [i2] at h9; exact h9
          obtain rfl : b = false := bool_no HG.out (fun x => by
            obtain ⟨i, hi, he⟩ := takenB_iff.1 i2
            exact (x k hlt).2 i hi (by rw [he, HX.out]))
          clear i2
          go_wp2
          go_ret
          exact ⟨rfl, B1.out⟩
        · have k1 : w1.cell? ⟨w.heap.size + 1, r, none⟩ = some (.bool false) := by
            have h9 := K1.out.cell (HT0.out.cell r hr12)
            rw [show takenB R k r = false by simpa using i2] at h9; exact h9
          have HA2 : Hid (RecsOk R (k + 1)) := Lib.hid (recsOk_step HA.out (by rw [HX.out]; exact I1.out) (fun j hj e => i2 (takenB_iff.2 ⟨j, hj, by rw [e, HX.out]⟩)))
          clear i2
          go_wp2
          clear x0 f1 k1
          go_roundw
          case rel => exact ⟨k + 1, _, by omega, by go_num, HA2, HT2, S1, B2⟩
          case measure => (simp [intOf]; try omega)
      · have HT := Lib.hid (recWordB_no i1)
        obtain rfl : b = false := bool_no HG.out (fun x => i1 (by have h9 := (x k hlt).1; rw [HX.out] at h9; exact h9))
        clear i1
        go_wp2_with fail
        refine (implRecWord_any p q m _ HM.out).mono ?_
        rw [HT.out]
        rintro e w1 ⟨rfl, hb1⟩
        have B1 : Hid (Below w.heap.size w w1) := Lib.hid (HBa.out.trans (hb1.mono HBa.out.size))
        clear hb1 d0 d1 d2 HB HK HKa HBa
        go_wp2
        go_ret
        exact ⟨rfl, B1.out⟩
    · obtain rfl : k = nR := by omega
      obtain rfl : b = true := HG.out.2 HA.out
      go_wp2
      go_ret
      exact ⟨rfl, HB.out⟩
theorem implFile_any (hz : -9223372036854775808 ≤ sz ∧ sz ≤ 9223372036854775807) (hs : SrcRec w aR nR R) (hf : FitRec R nR 2000000) (b : Bool) (hb : b = true ↔ ((0 ≤ sz ∧ sz ≤ 128) ∧ key.size = 8 ∧ (nR : Int) = pagesZ sz ∧ RecsOk R nR)) :
    Calls Try.prog 51 #[.agg #[.int .i64 sz, .string key, .slice aR nR cR]] w (SaysB b w) := by
  by_cases h : (0 ≤ sz ∧ sz ≤ 128) ∧ key.size = 8 ∧ (nR : Int) = pagesZ sz
  · exact implFile_yes sz key aR nR cR w R h.1 h.2.1 h.2.2 hs hf b ⟨fun e => (hb.1 e).2.2.2, fun e => hb.2 ⟨h.1, h.2.1, h.2.2, e⟩⟩
  · obtain rfl : b = false := bool_no hb (fun x => h ⟨x.1, x.2.1, x.2.2.1⟩)
    exact implFile_no sz key aR nR cR w hz h
end
end Go.Proofs.Ytcckhkihhhchbaa
