/- Merged texts: InoImpl, ZeroImpl, InoWordsI. -/
import Derived.Test.YtmkchilhnmkhkaaDoorPQH
import Derived.Deep.DeepCutAuto
namespace Go.Proofs.YtmkchilhnmkhkaaDoor
open Go.RowKit Go.Proofs.YtmkchilhnmkhkaaDoor.Parts Go.Proofs.YtmkchilhnmkhkaaDoor.Hexa Go.Proofs.YtmkchilhnmkhkaaDoor.Byt

theorem bool_of (p : Prop) : ∃ b : Bool, b = true ↔ p := by
  by_cases h : p
  · exact ⟨true, by simp [h]⟩
  · exact ⟨false, by simp [h]⟩
theorem noFile_cases (sz : Int) (key : ByteArray) (nR : Nat) : (sz = 0 ∧ key = ⟨#[]⟩ ∧ nR = 0) ∨ (sz = 0 ∧ key = ⟨#[]⟩ ∧ 0 < nR) ∨ (sz = 0 ∧ 0 < key.size) ∨ sz ≠ 0 := by
  by_cases h1 : sz = 0
  · by_cases h2 : key.size = 0
    · obtain rfl := text_nothing h2
      by_cases h3 : nR = 0
      · exact .inl ⟨h1, rfl, h3⟩
      · exact .inr (.inl ⟨h1, rfl, by omega⟩)
    · exact .inr (.inr (.inl ⟨h1, by omega⟩))
  · exact .inr (.inr (.inr h1))
/-- Neither a size nor a key nor records. -/
def noFileB (sz : Int) (key : ByteArray) (nR : Nat) : Bool := decide (sz = 0 ∧ key.size = 0 ∧ nR = 0)

section
variable (sz gn : Int) (key : ByteArray) (aR : Option Addr) (nR cR : Nat) (aE : Option Addr) (nE cE : Nat) (w : World)

set_option maxRecDepth 100000 in
set_option maxHeartbeats 1000000 in
theorem implIno_gen (kd : Int) (h : ¬ (0 ≤ gn ∧ gn ≤ 65535)) :
    Calls Tryd.prog 45 #[.agg #[.int .i64 kd, .int .i64 sz, .int .i64 gn, .string key, .slice aR nR cR, .slice aE nE cE]] w (SaysB false w) := by
  have H0 := Lib.hid h
  have B0 := Lib.hid (below_bk w (inoObj kd sz gn key aR nR cR aE nE cE))
  clear h
  go_enter Tryd.func45, Tryd.ntmps45
  go_wp2_with ((with_reducible refine (implIn_no _ H0.out).mono ?_); rintro e w1 ⟨rfl, rfl⟩)
  go_ret
  exact ⟨rfl, B0.out⟩

set_option maxRecDepth 100000 in
set_option maxHeartbeats 1000000 in
theorem implIno_free (h : 0 ≤ gn ∧ gn ≤ 65535) (b : Bool) (hb : b = true ↔ (noFileB sz key nR = true ∧ nE = 0)) :
    Calls Tryd.prog 45 #[.agg #[.int .i64 0, .int .i64 sz, .int .i64 gn, .string key, .slice aR nR cR, .slice aE nE cE]] w (SaysB b w) := by
  have H0 := Lib.hid h
  have HG := Lib.hid hb
  have K0 := Lib.hid (Bk.alloc w (inoCs 0 sz gn key aR nR cR aE nE cE) 54)
  have B0 := Lib.hid (below_bk w (inoObj 0 sz gn key aR nR cR aE nE cE))
  have HC : Hid (∀ W : World, Calls Tryd.prog 79 #[.agg #[.int .i64 0, .int .i64 sz, .int .i64 gn, .string key, .slice aR nR cR, .slice aE nE cE]] W fun e w' => e = .returned (.iface 115 (.agg #[])) ∧ Below W.heap.size W w') := Lib.hid (fun W => implBody_any 0 sz gn key aR nR cR aE nE cE W)
  clear h hb
  go_enter Tryd.func45, Tryd.ntmps45
  go_upto_region 3 with ((with_reducible refine (implIn_yes _ H0.out).mono ?_); rintro e w1 ⟨rfl, rfl⟩)
  go_cut [3] (fun v wx => v = .bool (noFileB sz key nR) ∧ wx = w.alloc (inoObj 0 sz gn key aR nR cR aE nE cE))
  case first =>
    rcases noFile_cases sz key nR with ⟨rfl, rfl, rfl⟩ | ⟨rfl, rfl, h3⟩ | ⟨rfl, h3⟩ | h3
    · go_wp2_with fail
      go_meet
      exact ⟨rfl, rfl⟩
    · have e3 : ((nR : Int) == 0) = false := by simp; omega
      have HF9 : Hid (noFileB 0 ⟨#[]⟩ nR = false) := Lib.hid (decide_eq_false (fun x => by omega))
      go_wp2_with fail
      go_meet
      exact ⟨by rw [HF9.out], rfl⟩
    · have e4 : (key.toList == []) = false := text_full key (by omega)
      have HF9 : Hid (noFileB 0 key nR = false) := Lib.hid (decide_eq_false (fun x => by omega))
      go_wp2_with fail
      go_meet
      exact ⟨by rw [HF9.out], rfl⟩
    · have e4 : (sz == 0) = false := by simpa using h3
      have HF9 : Hid (noFileB sz key nR = false) := Lib.hid (decide_eq_false (fun x => h3 x.1))
      clear h3
      go_wp2_with fail
      go_meet
      exact ⟨by rw [HF9.out], rfl⟩
  case rest =>
    obtain ⟨rfl, rfl⟩ := hcut
    go_wp2_with fail
    refine (HC.out _).mono ?_
    rintro e w1 ⟨rfl, hb1⟩
    have B1 : Hid (Below w.heap.size w w1) := Lib.hid (B0.out.trans (hb1.mono B0.out.size))
    clear hb1
    have a1 := free_no_file (.agg #[]) w1
    have a2 := free_no_dir (.agg #[]) w1
    have a3 := as_free (.agg #[]) w1
    have e9 : ((nE : Int) == 0) = decide (nE = 0) := by by_cases h : nE = 0 <;> simp [h]
    obtain ⟨f, hf⟩ : ∃ f, noFileB sz key nR = f := ⟨_, rfl⟩
    rw [hf] at HG ⊢
    clear hf
    cases f
    · obtain rfl : b = false := bool_no HG.out (fun x => by cases x.1)
      go_wp2
      go_ret
      exact ⟨rfl, B1.out.alloc B1.out.size _⟩
    · obtain rfl : b = decide (nE = 0) := by
        by_cases h : nE = 0
        · rw [HG.out.2 ⟨rfl, h⟩, decide_eq_true h]
        · rw [bool_no HG.out (fun x => h x.2), decide_eq_false h]
      go_wp2
      go_ret
      exact ⟨rfl, B1.out.alloc B1.out.size _⟩

set_option maxRecDepth 100000 in
set_option maxHeartbeats 1000000 in
theorem implIno_file (h : 0 ≤ gn ∧ gn ≤ 65535) (R : List RecR) (hz : -9223372036854775808 ≤ sz ∧ sz ≤ 9223372036854775807) (hs : SrcRec w aR nR R) (hf : FitRec R nR 2000000) (b : Bool)
    (hb : b = true ↔ (((0 ≤ sz ∧ sz ≤ 128) ∧ key.size = 8 ∧ (nR : Int) = pagesZ sz ∧ RecsOk R nR) ∧ nE = 0)) :
    Calls Tryd.prog 45 #[.agg #[.int .i64 1, .int .i64 sz, .int .i64 gn, .string key, .slice aR nR cR, .slice aE nE cE]] w (SaysB b w) := by
  obtain ⟨b1, hb1⟩ : ∃ b1 : Bool, b1 = true ↔ ((0 ≤ sz ∧ sz ≤ 128) ∧ key.size = 8 ∧ (nR : Int) = pagesZ sz ∧ RecsOk R nR) := bool_of _
  have hb2 : b = true ↔ (b1 = true ∧ nE = 0) := by rw [hb, hb1]
  have H0 := Lib.hid h
  have HG := Lib.hid hb2
  have HG1 := Lib.hid hb1
  have HZ := Lib.hid hz
  have HS := Lib.hid hs
  have HF := Lib.hid hf
  have K0 := Lib.hid (Bk.alloc w (inoCs 1 sz gn key aR nR cR aE nE cE) 54)
  have B0 := Lib.hid (below_bk w (inoObj 1 sz gn key aR nR cR aE nE cE))
  have HC : Hid (∀ W : World, Calls Tryd.prog 79 #[.agg #[.int .i64 1, .int .i64 sz, .int .i64 gn, .string key, .slice aR nR cR, .slice aE nE cE]] W fun e w' => e = .returned (.iface 100 (.agg #[.int .i64 sz, .string key, .slice aR nR cR])) ∧ Below W.heap.size W w') := Lib.hid (fun W => implBody_any 1 sz gn key aR nR cR aE nE cE W)
  clear h hb hb1 hb2 hz hs hf
  go_enter Tryd.func45, Tryd.ntmps45
  go_upto_region 3 with ((with_reducible refine (implIn_yes _ H0.out).mono ?_); rintro e w1 ⟨rfl, rfl⟩)
  go_cut [3] (fun v wx => v = .bool (noFileB sz key nR) ∧ wx = w.alloc (inoObj 1 sz gn key aR nR cR aE nE cE))
  case first =>
    rcases noFile_cases sz key nR with ⟨rfl, rfl, rfl⟩ | ⟨rfl, rfl, h3⟩ | ⟨rfl, h3⟩ | h3
    · go_wp2_with fail
      go_meet
      exact ⟨rfl, rfl⟩
    · have e3 : ((nR : Int) == 0) = false := by simp; omega
      have HF9 : Hid (noFileB 0 ⟨#[]⟩ nR = false) := Lib.hid (decide_eq_false (fun x => by omega))
      go_wp2_with fail
      go_meet
      exact ⟨by rw [HF9.out], rfl⟩
    · have e4 : (key.toList == []) = false := text_full key (by omega)
      have HF9 : Hid (noFileB 0 key nR = false) := Lib.hid (decide_eq_false (fun x => by omega))
      go_wp2_with fail
      go_meet
      exact ⟨by rw [HF9.out], rfl⟩
    · have e4 : (sz == 0) = false := by simpa using h3
      have HF9 : Hid (noFileB sz key nR = false) := Lib.hid (decide_eq_false (fun x => h3 x.1))
      clear h3
      go_wp2_with fail
      go_meet
      exact ⟨by rw [HF9.out], rfl⟩
  case rest =>
    obtain ⟨rfl, rfl⟩ := hcut
    go_wp2_with fail
    refine (HC.out _).mono ?_
    rintro e w1 ⟨rfl, hb1⟩
    have B1 : Hid (Below w.heap.size w w1) := Lib.hid (B0.out.trans (hb1.mono B0.out.size))
    clear hb1
    have a1 := as_file (.agg #[.int .i64 sz, .string key, .slice aR nR cR]) w1
    have e9 : ((nE : Int) == 0) = decide (nE = 0) := by by_cases h : nE = 0 <;> simp [h]
    have B2 : Hid (Below w.heap.size w (w1.alloc (.cells #[.int .i64 sz, .string key, .slice aR nR cR] 100))) := Lib.hid (B1.out.alloc B1.out.size _)
    go_wp2_with fail
    refine (implFile_any sz key aR nR cR _ R HZ.out (HS.out.later B2.out) HF.out b1 HG1.out).mono ?_
    rintro e w2 ⟨rfl, hb2⟩
    have B3 : Hid (Below w.heap.size w w2) := Lib.hid (B2.out.trans (hb2.mono B2.out.size))
    clear hb2 HG1
    cases b1
    · obtain rfl : b = false := bool_no HG.out (fun x => by cases x.1)
      go_wp2
      go_ret
      exact ⟨rfl, B3.out⟩
    · obtain rfl : b = decide (nE = 0) := by
        by_cases h : nE = 0
        · rw [HG.out.2 ⟨rfl, h⟩, decide_eq_true h]
        · rw [bool_no HG.out (fun x => h x.2), decide_eq_false h]
      go_wp2
      go_ret
      exact ⟨rfl, B3.out⟩

set_option maxRecDepth 100000 in
set_option maxHeartbeats 1000000 in
theorem implIno_dir (h : 0 ≤ gn ∧ gn ≤ 65535) (E : List EntryR) (hn : nE ≤ 9223372036854775807) (hs : SrcEntry w aE nE E) (hf : FitEntry E nE 2000000) (b : Bool)
    (hb : b = true ↔ ((nE ≤ 6 ∧ EntsOk E nE) ∧ noFileB sz key nR = true)) :
    Calls Tryd.prog 45 #[.agg #[.int .i64 2, .int .i64 sz, .int .i64 gn, .string key, .slice aR nR cR, .slice aE nE cE]] w (SaysB b w) := by
  obtain ⟨b1, hb1⟩ : ∃ b1 : Bool, b1 = true ↔ (nE ≤ 6 ∧ EntsOk E nE) := bool_of _
  have hb2 : b = true ↔ (b1 = true ∧ noFileB sz key nR = true) := by rw [hb, hb1]
  have H0 := Lib.hid h
  have HG := Lib.hid hb2
  have HG1 := Lib.hid hb1
  have HN := Lib.hid hn
  have HS := Lib.hid hs
  have HF := Lib.hid hf
  have K0 := Lib.hid (Bk.alloc w (inoCs 2 sz gn key aR nR cR aE nE cE) 54)
  have B0 := Lib.hid (below_bk w (inoObj 2 sz gn key aR nR cR aE nE cE))
  have HC : Hid (∀ W : World, Calls Tryd.prog 79 #[.agg #[.int .i64 2, .int .i64 sz, .int .i64 gn, .string key, .slice aR nR cR, .slice aE nE cE]] W fun e w' => e = .returned (.iface 103 (.agg #[.slice aE nE cE])) ∧ Below W.heap.size W w') := Lib.hid (fun W => implBody_any 2 sz gn key aR nR cR aE nE cE W)
  clear h hb hb1 hb2 hn hs hf
  go_enter Tryd.func45, Tryd.ntmps45
  go_upto_region 3 with ((with_reducible refine (implIn_yes _ H0.out).mono ?_); rintro e w1 ⟨rfl, rfl⟩)
  go_cut [3] (fun v wx => v = .bool (noFileB sz key nR) ∧ wx = w.alloc (inoObj 2 sz gn key aR nR cR aE nE cE))
  case first =>
    rcases noFile_cases sz key nR with ⟨rfl, rfl, rfl⟩ | ⟨rfl, rfl, h3⟩ | ⟨rfl, h3⟩ | h3
    · go_wp2_with fail
      go_meet
      exact ⟨rfl, rfl⟩
    · have e3 : ((nR : Int) == 0) = false := by simp; omega
      have HF9 : Hid (noFileB 0 ⟨#[]⟩ nR = false) := Lib.hid (decide_eq_false (fun x => by omega))
      go_wp2_with fail
      go_meet
      exact ⟨by rw [HF9.out], rfl⟩
    · have e4 : (key.toList == []) = false := text_full key (by omega)
      have HF9 : Hid (noFileB 0 key nR = false) := Lib.hid (decide_eq_false (fun x => by omega))
      go_wp2_with fail
      go_meet
      exact ⟨by rw [HF9.out], rfl⟩
    · have e4 : (sz == 0) = false := by simpa using h3
      have HF9 : Hid (noFileB sz key nR = false) := Lib.hid (decide_eq_false (fun x => h3 x.1))
      clear h3
      go_wp2_with fail
      go_meet
      exact ⟨by rw [HF9.out], rfl⟩
  case rest =>
    obtain ⟨rfl, rfl⟩ := hcut
    go_wp2_with fail
    refine (HC.out _).mono ?_
    rintro e w1 ⟨rfl, hb1⟩
    have B1 : Hid (Below w.heap.size w w1) := Lib.hid (B0.out.trans (hb1.mono B0.out.size))
    clear hb1
    have a1 := dir_no_file (.agg #[.slice aE nE cE]) w1
    have a2 := as_dir (.agg #[.slice aE nE cE]) w1
    have B2 : Hid (Below w.heap.size w (w1.alloc (.cells #[.slice aE nE cE] 103))) := Lib.hid (B1.out.alloc B1.out.size _)
    go_wp2_with fail
    refine (implDir_any aE nE cE _ E HN.out (HS.out.later B2.out) HF.out b1 HG1.out).mono ?_
    rintro e w2 ⟨rfl, hb2⟩
    have B3 : Hid (Below w.heap.size w w2) := Lib.hid (B2.out.trans (hb2.mono B2.out.size))
    clear hb2 HG1
    obtain ⟨f, hf⟩ : ∃ f, noFileB sz key nR = f := ⟨_, rfl⟩
    rw [hf] at HG ⊢
    clear hf
    cases b1
    · obtain rfl : b = false := bool_no HG.out (fun x => by cases x.1)
      go_wp2
      go_ret
      exact ⟨rfl, B3.out⟩
    · obtain rfl : b = f := by
        cases f
        · exact bool_no HG.out (fun x => by cases x.2)
        · exact HG.out.2 ⟨rfl, rfl⟩
      go_wp2
      go_ret
      exact ⟨rfl, B3.out⟩

set_option maxRecDepth 100000 in
set_option maxHeartbeats 1000000 in
theorem implIno_other (kd : Int) (h : 0 ≤ gn ∧ gn ≤ 65535) (h0 : ¬ kd = 0) (h1 : ¬ kd = 1) (h2 : ¬ kd = 2) :
    Calls Tryd.prog 45 #[.agg #[.int .i64 kd, .int .i64 sz, .int .i64 gn, .string key, .slice aR nR cR, .slice aE nE cE]] w (SaysB false w) := by
  have H0 := Lib.hid h
  have K0 := Lib.hid (Bk.alloc w (inoCs kd sz gn key aR nR cR aE nE cE) 54)
  have B0 := Lib.hid (below_bk w (inoObj kd sz gn key aR nR cR aE nE cE))
  have HC : Hid (∀ W : World, Calls Tryd.prog 79 #[.agg #[.int .i64 kd, .int .i64 sz, .int .i64 gn, .string key, .slice aR nR cR, .slice aE nE cE]] W fun e w' => e = .returned (.nilIface) ∧ Below W.heap.size W w') := Lib.hid (fun W => by have h9 := implBody_any kd sz gn key aR nR cR aE nE cE W; unfold bodyV at h9; rw [if_neg h0, if_neg h1, if_neg h2] at h9; exact h9)
  clear h h0 h1 h2
  go_enter Tryd.func45, Tryd.ntmps45
  go_upto_region 3 with ((with_reducible refine (implIn_yes _ H0.out).mono ?_); rintro e w1 ⟨rfl, rfl⟩)
  go_cut [3] (fun v wx => v = .bool (noFileB sz key nR) ∧ wx = w.alloc (inoObj kd sz gn key aR nR cR aE nE cE))
  case first =>
    rcases noFile_cases sz key nR with ⟨rfl, rfl, rfl⟩ | ⟨rfl, rfl, h3⟩ | ⟨rfl, h3⟩ | h3
    · go_wp2_with fail
      go_meet
      exact ⟨rfl, rfl⟩
    · have e3 : ((nR : Int) == 0) = false := by simp; omega
      have HF9 : Hid (noFileB 0 ⟨#[]⟩ nR = false) := Lib.hid (decide_eq_false (fun x => by omega))
      go_wp2_with fail
      go_meet
      exact ⟨by rw [HF9.out], rfl⟩
    · have e4 : (key.toList == []) = false := text_full key (by omega)
      have HF9 : Hid (noFileB 0 key nR = false) := Lib.hid (decide_eq_false (fun x => by omega))
      go_wp2_with fail
      go_meet
      exact ⟨by rw [HF9.out], rfl⟩
    · have e4 : (sz == 0) = false := by simpa using h3
      have HF9 : Hid (noFileB sz key nR = false) := Lib.hid (decide_eq_false (fun x => h3 x.1))
      clear h3
      go_wp2_with fail
      go_meet
      exact ⟨by rw [HF9.out], rfl⟩
  case rest =>
    obtain ⟨rfl, rfl⟩ := hcut
    go_wp2_with fail
    refine (HC.out _).mono ?_
    rintro e w1 ⟨rfl, hb1⟩
    have B1 : Hid (Below w.heap.size w w1) := Lib.hid (B0.out.trans (hb1.mono B0.out.size))
    clear hb1
    have a1 := nil_no_file w1
    have a2 := nil_no_dir w1
    have a3 := nil_no_free w1
    go_wp2
    go_ret
    exact ⟨rfl, B1.out⟩
end

theorem implIno_any (kd sz gn : Int) (key : ByteArray) (aR : Option Addr) (nR cR : Nat) (aE : Option Addr) (nE cE : Nat) (w : World) (R : List RecR) (E : List EntryR)
    (hz : -9223372036854775808 ≤ sz ∧ sz ≤ 9223372036854775807) (hn : nE ≤ 9223372036854775807) (hs : SrcRec w aR nR R) (hf : FitRec R nR 2000000) (hs' : SrcEntry w aE nE E) (hf' : FitEntry E nE 2000000) :
    Calls Tryd.prog 45 #[.agg #[.int .i64 kd, .int .i64 sz, .int .i64 gn, .string key, .slice aR nR cR, .slice aE nE cE]] w (SaysB (inoB ⟨kd, sz, gn, key, R, E⟩) w) := by
  have hlR : R.length = nR := hs.len
  have hlE : E.length = nE := hs'.len
  by_cases hg : 0 ≤ gn ∧ gn ≤ 65535
  · by_cases h0 : kd = 0
    · subst h0
      exact implIno_free sz gn key aR nR cR aE nE cE w hg _ (by rw [inoB_iff, inoOk_free hg]; subst hlR hlE; simp [noFileB, and_assoc])
    · by_cases h1 : kd = 1
      · subst h1
        exact implIno_file sz gn key aR nR cR aE nE cE w hg R hz hs hf _ (by
          rw [inoB_iff, inoOk_file hg]
          subst hlR hlE
          exact ⟨fun x => ⟨⟨x.1, x.2.1, x.2.2.1, x.2.2.2.2⟩, x.2.2.2.1⟩, fun x => ⟨x.1.1, x.1.2.1, x.1.2.2.1, x.2, x.1.2.2.2⟩⟩)
      · by_cases h2 : kd = 2
        · subst h2
          exact implIno_dir sz gn key aR nR cR aE nE cE w hg E hn hs' hf' _ (by
            rw [inoB_iff, inoOk_dir hg]
            subst hlR hlE
            simp only [noFileB, decide_eq_true_eq]
            exact ⟨fun x => ⟨⟨x.2.2.2.1, x.2.2.2.2⟩, x.1, x.2.1, x.2.2.1⟩, fun x => ⟨x.2.1, x.2.2.1, x.2.2.2, x.1.1, x.1.2⟩⟩)
        · rw [inoB_no (fun x => by
            rcases x with ⟨_, ⟨e, _⟩ | ⟨e, _⟩ | ⟨e, _⟩⟩
            · exact h0 e
            · exact h1 e
            · exact h2 e)]
          exact implIno_other sz gn key aR nR cR aE nE cE w kd hg h0 h1 h2
  · rw [inoB_no (fun x => hg x.1)]
    exact implIno_gen sz gn key aR nR cR aE nE cE w kd hg
end Go.Proofs.YtmkchilhnmkhkaaDoor
namespace Go.Proofs.YtmkchilhnmkhkaaDoor
open Go.RowKit Go.Proofs.YtmkchilhnmkhkaaDoor.Hexa Go.Proofs.YtmkchilhnmkhkaaDoor.Byt Go.Proofs.YtmkchilhnmkhkaaDoor.BitsM

set_option maxRecDepth 100000 in
set_option maxHeartbeats 1000000 in
theorem implZero_any (n : Int) (w : World) :
    Calls Tryd.prog 93 #[.int .i64 n] w fun e w' => e = .returned (.string (zeroB n)) ∧ Below w.heap.size w w' := by
  by_cases h : 0 ≤ n ∧ n ≤ 20000
  · obtain ⟨i0, hi, hz0, hz1, hz2⟩ := info_parts infoByte
    have HE : Hid (zeroB n = longB n.toNat 0) := Lib.hid (if_pos h)
    obtain ⟨k, rfl⟩ : ∃ k : Nat, n = k := ⟨n.toNat, by omega⟩
    have hk : k ≤ 20000 := by omega
    clear h
    go_enter Tryd.func93, Tryd.ntmps93
    go_wp2_with (at_make; refine wpList_make_full _ rfl _ _ 22 rfl w.heap.size 5 i0 (.int .u8 0) 1 Tryd.underlying22 hi hz0 hz1 .i64 .i64 _ _ k rfl rfl rfl rfl (by rw [hz2]; omega) (by unfold maxLen; omega) (Nat.le_refl _) ?_; intro w0 hown0 hgrow0; rw [made_zero] at hown0; have hconv := own_string (P := Tryd.prog) 22 9 Tryd.underlying22 Tryd.underlying5 Tryd.underlying9 hown0)
    have hg0 : Below w.heap.size w w0 := (Below.refl _ _).grown hgrow0 (Nat.le_refl _) (fun k h => by cases h)
    go_ret
    exact ⟨by rw [HE.out]; rfl, hg0⟩
  · have HE : Hid (zeroB n = ⟨#[]⟩) := Lib.hid (if_neg h)
    by_cases h0 : n < 0
    · go_enter Tryd.func93, Tryd.ntmps93
      go_wp2
      go_ret
      exact ⟨by rw [HE.out]; rfl, Below.refl _ _⟩
    · have h1 : 20000 < n := by omega
      clear h
      go_enter Tryd.func93, Tryd.ntmps93
      go_wp2
      go_ret
      exact ⟨by rw [HE.out]; rfl, Below.refl _ _⟩

end Go.Proofs.YtmkchilhnmkhkaaDoor
namespace Go.Proofs.YtmkchilhnmkhkaaDoor
open Go.RowKit Go.Proofs.YtmkchilhnmkhkaaDoor.Parts Go.Proofs.YtmkchilhnmkhkaaDoor.Hexa Go.Proofs.YtmkchilhnmkhkaaDoor.Byt

theorem file_fill {M : InoR} {R : List RecR} (hR : M.R = R) (hE : M.E.length = 0) : scells (recsTo M 0) ++ scells (R.map recWordB) = scells (fillTo M 0) := by
  have h : M.E = [] := List.eq_nil_of_length_eq_zero hE
  unfold recsTo fillTo wordsI
  rw [hR, h]
  simp [scells]
theorem dir_fill {M : InoR} {E : List EntryR} (hE : M.E = E) (hR : M.R.length = 0) : scells (recsTo M 0) ++ scells (E.map entryWordB) = scells (fillTo M 0) := by
  have h : M.R = [] := List.eq_nil_of_length_eq_zero hR
  unfold recsTo fillTo wordsI
  rw [hE, h]
  simp [scells]

section
variable (sz gn : Int) (key : ByteArray) (aR : Option Addr) (nR cR : Nat) (aE : Option Addr) (nE cE : Nat) (w : World) (R : List RecR) (E : List EntryR)

set_option maxRecDepth 100000 in
set_option maxHeartbeats 4000000 in
theorem implInoWords_file (hz : -9223372036854775808 ≤ sz ∧ sz ≤ 9223372036854775807) (hs : SrcRec w aR nR R) (hf : FitRec R nR 2000000) (hs' : SrcEntry w aE nE E) (hf' : FitEntry E nE 2000000) (h : InoOk ⟨1, sz, gn, key, R, E⟩) :
    Calls Tryd.prog 43 #[.agg #[.int .i64 1, .int .i64 sz, .int .i64 gn, .string key, .slice aR nR cR, .slice aE nE cE]] w (GivesT (inoWordsB ⟨1, sz, gn, key, R, E⟩) w) := by
  obtain ⟨i0, hi, hz0, hz1, hz2⟩ := info_parts infoText
  obtain ⟨M, hM⟩ : ∃ M : InoR, (⟨1, sz, gn, key, R, E⟩ : InoR) = M := ⟨_, rfl⟩
  have hlR : M.R.length = nR := by rw [← hM]; exact hs.len
  have hlE : M.E.length = nE := by rw [← hM]; exact hs'.len
  have hMR : M.R = R := by rw [← hM]
  have hME : M.E = E := by rw [← hM]
  have hl8 : (wordsI M).length ≤ 8 := wordsI_le (by rw [← hM]; exact h)
  have hlW : (wordsI M).length = 2 + nR + nE := by unfold wordsI; simp [hlR, hlE]; omega
  have HN := Lib.hid (inoB_yes h)
  have HR : Hid (inoWordsB M = fillTo M (8 - (2 + nR + nE))) := Lib.hid (by rw [← hlW]; exact inoWords_yes (by rw [← hM]; exact h))
  have HL8 : Hid ((inoWordsB M).length = 8) := Lib.hid (inoWords_length (by rw [← hM]; exact h))
  have HZ := Lib.hid hz
  have HF := Lib.hid hf
  have HF' := Lib.hid hf'
  have hgn := h.1
  have HGN : Hid (0 ≤ gn ∧ gn ≤ 65535) := Lib.hid hgn
  have hl8' : nR + nE ≤ 6 := by omega
  have hkind : Hid (nE = 0) := Lib.hid (by
    have x := (inoOk_file (show 0 ≤ gn ∧ gn ≤ 65535 from h.1)).1 h
    have e1 := hs.len
    have e2 := hs'.len
    rw [← e2]; exact x.2.2.2.1)
  have B0 := Lib.hid (below_bk w (inoObj 1 sz gn key aR nR cR aE nE cE))
  have K0 := Lib.hid (Bk.alloc w (inoCs 1 sz gn key aR nR cR aE nE cE) 54)
  have N0 : Hid ((w.alloc (inoObj 1 sz gn key aR nR cR aE nE cE)).heap.size = w.heap.size + 1) := Lib.hid (by simp)
  have HS := Lib.hid (hs.below B0.out (Nat.le_refl _))
  have HS' := Lib.hid (hs'.below B0.out (Nat.le_refl _))
  have HLR := Lib.hid hlR
  have HLE := Lib.hid hlE
  have HMR := Lib.hid hMR
  have HME := Lib.hid hME
  have HE0 : Hid (headB M = wordB (numTextB 1 1 ++ numTextB sz 2 ++ numTextB gn 2)) := Lib.hid (by rw [← hM]; rfl)
  have HE1 : Hid (wordB M.key = wordB key) := Lib.hid (by rw [← hM])
  have HC : Hid (∀ W : World, Calls Tryd.prog 79 #[.agg #[.int .i64 1, .int .i64 sz, .int .i64 gn, .string key, .slice aR nR cR, .slice aE nE cE]] W fun e w' => e = .returned (.iface 100 (.agg #[.int .i64 sz, .string key, .slice aR nR cR])) ∧ Below W.heap.size W w') := Lib.hid (fun W => implBody_any 1 sz gn key aR nR cR aE nE cE W)
  obtain ⟨A, hA⟩ : ∃ A, numTextB 1 1 = A := ⟨_, rfl⟩
  obtain ⟨D, hD⟩ : ∃ D, numTextB sz 2 = D := ⟨_, rfl⟩
  obtain ⟨G, hG⟩ : ∃ G, numTextB gn 2 = G := ⟨_, rfl⟩
  have hA1 : A.size ≤ 1 := by rw [← hA]; rcases numTextB_size 1 1 with e | e <;> rw [e] <;> decide
  have hD1 : D.size ≤ 2 := by rw [← hD]; rcases numTextB_size sz 2 with e | e <;> rw [e] <;> decide
  have hG1 : G.size ≤ 2 := by rw [← hG]; rcases numTextB_size gn 2 with e | e <;> rw [e] <;> decide
  have hAD : ¬ (9223372036854775807 < A.size + D.size) := by omega
  have hADG : ¬ (9223372036854775807 < A.size + D.size + G.size) := by omega
  rw [hA, hD, hG] at HE0
  have HA := Lib.hid hA
  have HD := Lib.hid hD
  have HG := Lib.hid hG
  rw [hM]
  clear hz hs hf hs' hf' h hA hD hG hM hMR hME hl8 hlW hlR hlE hgn
  go_enter Tryd.func43, Tryd.ntmps43
  go_wp2_with fail
  refine (implIno_any 1 sz gn key aR nR cR aE nE cE _ R E HZ.out (by omega) HS.out HF.out HS'.out HF'.out).mono ?_
  rw [HN.out]
  rintro e w1 ⟨rfl, hb1⟩
  have T0 := Lib.hid (K0.out.later hb1)
  have B1 : Hid (Below (w.heap.size + 1) (w.alloc (inoObj 1 sz gn key aR nR cR aE nE cE)) w1) := Lib.hid (by rw [N0.out] at hb1; exact hb1)
  clear hb1
  go_wp2
  have T0d := Lib.hid T0.out.drew
  have B1d := Lib.hid B1.out.drew
  go_region_held3 (fun w' => w'.cell? ⟨w.heap.size, 0, none⟩ = some (.int .i64 1) ∧ w'.cell? ⟨w.heap.size, 1, none⟩ = some (.int .i64 sz) ∧ w'.cell? ⟨w.heap.size, 2, none⟩ = some (.int .i64 gn))
    (first
      | exact ⟨T0d.out.cell rfl, T0d.out.cell rfl, T0d.out.cell rfl⟩
      | exact ⟨T2.out.cell rfl, T2.out.cell rfl, T2.out.cell rfl⟩
      | exact ⟨T3.out.cell rfl, T3.out.cell rfl, T3.out.cell rfl⟩
      | exact ⟨T4.out.cell rfl, T4.out.cell rfl, T4.out.cell rfl⟩
      | go_keep)
    (first
      | (go_at_call 89; (with_reducible refine (implNum_any 1 1 _ (by omega)).mono ?_); rw [HA.out]; rintro e w2 ⟨rfl, hb⟩; have T2 := Lib.hid (T0d.out.later hb); have B2 := Lib.hid (below_on B1d.out (by rw [N0.out]; exact Nat.le_refl _) hb); clear hb)
      | (go_at_call 89; (with_reducible refine (implNum_any sz 2 _ HZ.out.2).mono ?_); rw [HD.out]; rintro e w3 ⟨rfl, hb⟩; have T3 := Lib.hid (T2.out.later hb); have B3 := Lib.hid (below_on B2.out (by rw [N0.out]; exact Nat.le_refl _) hb); clear hb)
      | (go_at_call 89; (with_reducible refine (implNum_any gn 2 _ (by have := HGN.out.2; omega)).mono ?_); rw [HG.out]; rintro e w4 ⟨rfl, hb⟩; have T4 := Lib.hid (T3.out.later hb); have B4 := Lib.hid (below_on B3.out (by rw [N0.out]; exact Nat.le_refl _) hb); clear hb))
  go_wp2
  have T4d := Lib.hid T4.out.drew
  have B4d := Lib.hid B4.out.drew
  go_region_held3 (fun w' => w'.cell? ⟨w.heap.size, 3, none⟩ = some (.string key))
    (first
      | exact T4d.out.cell rfl
      | exact T5.out.cell rfl
      | exact T6.out.cell rfl
      | go_keep)
    (first
      | (go_at_call 90; (with_reducible refine (implWord_any (A ++ D ++ G) _).mono ?_); rw [← HE0.out]; rintro e w5 ⟨rfl, hb⟩; have T5 := Lib.hid (T4d.out.later hb); have B5 := Lib.hid (below_on B4d.out (by rw [N0.out]; exact Nat.le_refl _) hb); clear hb)
      | (go_at_call 90; (with_reducible refine (implWord_any key _).mono ?_); rintro e w6 ⟨rfl, hb⟩; have T6 := Lib.hid (T5.out.later hb); have B6 := Lib.hid (below_on B5.out (by rw [N0.out]; exact Nat.le_refl _) hb); clear hb))
  have S6 : Hid (w.heap.size + 1 ≤ w6.heap.size) := Lib.hid (by have := B6.out.size; rw [N0.out] at this; exact this)
  have H01 : Hid (scells (recsTo M 0) = [.string (headB M), .string (wordB key)]) := Lib.hid (by rw [recsTo_zero, HE1.out]; rfl)
  have HW0 : Hid ((w6.alloc (.cells #[.string (headB M), .string (wordB key)] 9)).ownsRow (w.heap.size + 1) 9 1 (.slice (some ⟨w6.heap.size, 0, none⟩) 2 2) 2 (scells (recsTo M 0))) := Lib.hid (by rw [H01.out]; exact World.ownsRow_lit w6 #[.string (headB M), .string (wordB key)] 2 S6.out (by decide) rfl)
  have B7 : Hid (Below (w.heap.size + 1) (w.alloc (inoObj 1 sz gn key aR nR cR aE nE cE)) (w6.alloc (.cells #[.string (headB M), .string (wordB key)] 9))) := Lib.hid (B6.out.alloc S6.out _)
  have T7 := Lib.hid (T6.out.later (below_bk w6 (.cells #[.string (headB M), .string (wordB key)] 9)))
  have c0 := T7.out.cell (j := 0) rfl
  have c1 := T7.out.cell (j := 1) rfl
  have c2 := T7.out.cell (j := 2) rfl
  have c3 := T7.out.cell (j := 3) rfl
  have c4 := T7.out.cell (j := 4) rfl
  have c5 := T7.out.cell (j := 5) rfl
  clear hAD hADG
  go_wp2_with fail
  refine (HC.out _).mono ?_
  rintro e w8 ⟨rfl, hb8⟩
  have B8 : Hid (Below (w.heap.size + 1) (w.alloc (inoObj 1 sz gn key aR nR cR aE nE cE)) w8) := Lib.hid (B7.out.trans (hb8.mono (by have := S6.out; simp; omega)))
  have S8 : Hid (w.heap.size + 1 ≤ w8.heap.size) := Lib.hid (by have h9 := hb8.size; have := S6.out; simp at h9; omega)
  have HW8 := Lib.hid (own_below HW0.out hb8)
  clear hb8 c0 c1 c2 c3 c4 c5
  have a1 := as_file (.agg #[.int .i64 sz, .string key, .slice aR nR cR]) w8
  have B9 : Hid (Below (w.heap.size + 1) (w.alloc (inoObj 1 sz gn key aR nR cR aE nE cE)) (w8.alloc (.cells #[.int .i64 sz, .string key, .slice aR nR cR] 100))) := Lib.hid (B8.out.alloc S8.out _)
  have S9 : Hid (w.heap.size + 1 ≤ (w8.alloc (.cells #[.int .i64 sz, .string key, .slice aR nR cR] 100)).heap.size) := Lib.hid (by have := S8.out; simp; omega)
  have HW9 := Lib.hid (HW8.out.alloc (.cells #[.int .i64 sz, .string key, .slice aR nR cR] 100))
  have HFL : Hid (scells (recsTo M 0) ++ scells (R.map recWordB) = scells (fillTo M 0)) := Lib.hid (by
    exact file_fill HMR.out (by rw [HLE.out]; exact hkind.out))
  go_wp2_with fail
  refine (appendRecs_any (w.alloc (inoObj 1 sz gn key aR nR cR aE nE cE)) (w.heap.size + 1) _ 2 (scells (recsTo M 0)) aR nR cR R _ (by rw [N0.out]; exact Nat.le_refl _) B9.out S9.out HS.out HF.out (by omega) HW9.out).mono ?_
  rintro e w9 ⟨v9, rfl, hown9, hb9, hs9⟩
  rw [HFL.out] at hown9
  obtain ⟨n2, hn2⟩ : ∃ n2, 2 + nR = n2 := ⟨_, rfl⟩
  have HN2 : Hid (2 + nR + nE = n2) := Lib.hid (by rw [hkind.out]; exact hn2)
  have hn8 : n2 ≤ 8 := by omega
  rw [hn2] at hown9
  have HWF := Lib.hid hown9
  have BF := Lib.hid hb9
  clear hown9 hb9 hs9 hn2
  go_wp2
  go_loopw [4] (fun v wr => ∃ k3, n2 + k3 ≤ 8 ∧ Hid (wr.ownsRow (w.heap.size + 1) 9 1 v (n2 + k3) (scells (fillTo M k3))) ∧ Hid (Below (w.heap.size + 1) (w.alloc (inoObj 1 sz gn key aR nR cR aE nE cE)) wr)) (fun v _ => 8 - rowLen v)
  case atStart => exact ⟨0, by omega, HWF, BF⟩
  case round =>
    obtain ⟨k3, hk3, HW, HB⟩ := hrel
    obtain ⟨ad, cap, rfl, hcap, hn, _⟩ := own_form HW.out
    by_cases hlt3 : n2 + k3 < 8
    · obtain ⟨T, hT⟩ : ∃ T, zeroB 8 = T := ⟨_, rfl⟩
      have HT := Lib.hid hT
      have HWN : Hid (scells (fillTo M k3) ++ [.string T] = scells (fillTo M (k3 + 1))) := Lib.hid (by rw [← fillTo_next, ← HT.out]; rfl)
      clear hT
      go_wp2_with (first
        | (go_at_call 93; (with_reducible refine (implZero_any 8 _).mono ?_); rw [HT.out]; rintro e wa ⟨rfl, hb1⟩
           have HW1 := Lib.hid (own_below HW.out hb1)
           have BG := Lib.hid (below_on HB.out (by rw [N0.out]; exact Nat.le_refl _) hb1)
           have BS : Hid (w.heap.size + 1 ≤ wa.heap.size) := Lib.hid (by have := BG.out.size; rw [N0.out] at this; exact this))
        | (at_builtin; refine wpList_append_own _ rfl (.tmp 46) (.tmp 48) 25 rfl (w.heap.size + 1) 9 i0 (.string ⟨#[]⟩) 1 16 Tryd.underlying25 hi hz0 hz1 hz2 rfl (by decide) _ _ _ rfl (HW1.out.alloc _) ⟨wa.heap.size, 0, none⟩ 1 1 [.string T] rfl rfl (World.news_of_block (heap_alloc_new _ _)) (by simp [Value.oneCell']) (by unfold maxLen; omega) (by omega) (by have := BS.out; simp; omega) ?_; intro v2 wb hown2 hgrow2 hn2))
      have BG3 := Lib.hid ((BG.out.alloc BS.out _).grown hgrow2 (by have := BS.out; simp; omega) (own_block_ge HW1.out))
      rw [HWN.out] at hown2
      have HO2 := Lib.hid hown2
      clear hown2 hgrow2 hn2 HW1 BG BS HB HW
      obtain ⟨ad2, cap2, rfl, hcap2, hn9, _⟩ := own_form HO2.out
      go_roundw
      case rel => exact ⟨k3 + 1, by omega, HO2, BG3⟩
      case measure => (simp [rowLen]; try omega)
    · have HW9 : Hid (wr.ownsRow w.heap.size 9 1 (.slice ad (n2 + k3) cap) (inoWordsB M).length (scells (inoWordsB M))) := Lib.hid (by
        have h9 := HW.out
        rw [HL8.out, HR.out, HN2.out, show 8 - n2 = k3 by omega, show 8 = n2 + k3 by omega]
        exact ownE_mono h9 (by omega))
      clear HW
      go_wp2
      go_ret
      exact ⟨_, rfl, HW9.out, B0.out.trans (HB.out.mono (by omega))⟩

set_option maxRecDepth 100000 in
set_option maxHeartbeats 4000000 in
theorem implInoWords_dir (hz : -9223372036854775808 ≤ sz ∧ sz ≤ 9223372036854775807) (hs : SrcRec w aR nR R) (hf : FitRec R nR 2000000) (hs' : SrcEntry w aE nE E) (hf' : FitEntry E nE 2000000) (h : InoOk ⟨2, sz, gn, key, R, E⟩) :
    Calls Tryd.prog 43 #[.agg #[.int .i64 2, .int .i64 sz, .int .i64 gn, .string key, .slice aR nR cR, .slice aE nE cE]] w (GivesT (inoWordsB ⟨2, sz, gn, key, R, E⟩) w) := by
  obtain ⟨i0, hi, hz0, hz1, hz2⟩ := info_parts infoText
  obtain ⟨M, hM⟩ : ∃ M : InoR, (⟨2, sz, gn, key, R, E⟩ : InoR) = M := ⟨_, rfl⟩
  have hlR : M.R.length = nR := by rw [← hM]; exact hs.len
  have hlE : M.E.length = nE := by rw [← hM]; exact hs'.len
  have hMR : M.R = R := by rw [← hM]
  have hME : M.E = E := by rw [← hM]
  have hl8 : (wordsI M).length ≤ 8 := wordsI_le (by rw [← hM]; exact h)
  have hlW : (wordsI M).length = 2 + nR + nE := by unfold wordsI; simp [hlR, hlE]; omega
  have HN := Lib.hid (inoB_yes h)
  have HR : Hid (inoWordsB M = fillTo M (8 - (2 + nR + nE))) := Lib.hid (by rw [← hlW]; exact inoWords_yes (by rw [← hM]; exact h))
  have HL8 : Hid ((inoWordsB M).length = 8) := Lib.hid (inoWords_length (by rw [← hM]; exact h))
  have HZ := Lib.hid hz
  have HF := Lib.hid hf
  have HF' := Lib.hid hf'
  have hgn := h.1
  have HGN : Hid (0 ≤ gn ∧ gn ≤ 65535) := Lib.hid hgn
  have hl8' : nR + nE ≤ 6 := by omega
  have hkind : Hid (nR = 0) := Lib.hid (by
    have x := (inoOk_dir (show 0 ≤ gn ∧ gn ≤ 65535 from h.1)).1 h
    have e1 := hs.len
    have e2 := hs'.len
    rw [← e1]; exact x.2.2.1)
  have B0 := Lib.hid (below_bk w (inoObj 2 sz gn key aR nR cR aE nE cE))
  have K0 := Lib.hid (Bk.alloc w (inoCs 2 sz gn key aR nR cR aE nE cE) 54)
  have N0 : Hid ((w.alloc (inoObj 2 sz gn key aR nR cR aE nE cE)).heap.size = w.heap.size + 1) := Lib.hid (by simp)
  have HS := Lib.hid (hs.below B0.out (Nat.le_refl _))
  have HS' := Lib.hid (hs'.below B0.out (Nat.le_refl _))
  have HLR := Lib.hid hlR
  have HLE := Lib.hid hlE
  have HMR := Lib.hid hMR
  have HME := Lib.hid hME
  have HE0 : Hid (headB M = wordB (numTextB 2 1 ++ numTextB sz 2 ++ numTextB gn 2)) := Lib.hid (by rw [← hM]; rfl)
  have HE1 : Hid (wordB M.key = wordB key) := Lib.hid (by rw [← hM])
  have HC : Hid (∀ W : World, Calls Tryd.prog 79 #[.agg #[.int .i64 2, .int .i64 sz, .int .i64 gn, .string key, .slice aR nR cR, .slice aE nE cE]] W fun e w' => e = .returned (.iface 103 (.agg #[.slice aE nE cE])) ∧ Below W.heap.size W w') := Lib.hid (fun W => implBody_any 2 sz gn key aR nR cR aE nE cE W)
  obtain ⟨A, hA⟩ : ∃ A, numTextB 2 1 = A := ⟨_, rfl⟩
  obtain ⟨D, hD⟩ : ∃ D, numTextB sz 2 = D := ⟨_, rfl⟩
  obtain ⟨G, hG⟩ : ∃ G, numTextB gn 2 = G := ⟨_, rfl⟩
  have hA1 : A.size ≤ 1 := by rw [← hA]; rcases numTextB_size 2 1 with e | e <;> rw [e] <;> decide
  have hD1 : D.size ≤ 2 := by rw [← hD]; rcases numTextB_size sz 2 with e | e <;> rw [e] <;> decide
  have hG1 : G.size ≤ 2 := by rw [← hG]; rcases numTextB_size gn 2 with e | e <;> rw [e] <;> decide
  have hAD : ¬ (9223372036854775807 < A.size + D.size) := by omega
  have hADG : ¬ (9223372036854775807 < A.size + D.size + G.size) := by omega
  rw [hA, hD, hG] at HE0
  have HA := Lib.hid hA
  have HD := Lib.hid hD
  have HG := Lib.hid hG
  rw [hM]
  clear hz hs hf hs' hf' h hA hD hG hM hMR hME hl8 hlW hlR hlE hgn
  go_enter Tryd.func43, Tryd.ntmps43
  go_wp2_with fail
  refine (implIno_any 2 sz gn key aR nR cR aE nE cE _ R E HZ.out (by omega) HS.out HF.out HS'.out HF'.out).mono ?_
  rw [HN.out]
  rintro e w1 ⟨rfl, hb1⟩
  have T0 := Lib.hid (K0.out.later hb1)
  have B1 : Hid (Below (w.heap.size + 1) (w.alloc (inoObj 2 sz gn key aR nR cR aE nE cE)) w1) := Lib.hid (by rw [N0.out] at hb1; exact hb1)
  clear hb1
  go_wp2
  have T0d := Lib.hid T0.out.drew
  have B1d := Lib.hid B1.out.drew
  go_region_held3 (fun w' => w'.cell? ⟨w.heap.size, 0, none⟩ = some (.int .i64 2) ∧ w'.cell? ⟨w.heap.size, 1, none⟩ = some (.int .i64 sz) ∧ w'.cell? ⟨w.heap.size, 2, none⟩ = some (.int .i64 gn))
    (first
      | exact ⟨T0d.out.cell rfl, T0d.out.cell rfl, T0d.out.cell rfl⟩
      | exact ⟨T2.out.cell rfl, T2.out.cell rfl, T2.out.cell rfl⟩
      | exact ⟨T3.out.cell rfl, T3.out.cell rfl, T3.out.cell rfl⟩
      | exact ⟨T4.out.cell rfl, T4.out.cell rfl, T4.out.cell rfl⟩
      | go_keep)
    (first
      | (go_at_call 89; (with_reducible refine (implNum_any 2 1 _ (by omega)).mono ?_); rw [HA.out]; rintro e w2 ⟨rfl, hb⟩; have T2 := Lib.hid (T0d.out.later hb); have B2 := Lib.hid (below_on B1d.out (by rw [N0.out]; exact Nat.le_refl _) hb); clear hb)
      | (go_at_call 89; (with_reducible refine (implNum_any sz 2 _ HZ.out.2).mono ?_); rw [HD.out]; rintro e w3 ⟨rfl, hb⟩; have T3 := Lib.hid (T2.out.later hb); have B3 := Lib.hid (below_on B2.out (by rw [N0.out]; exact Nat.le_refl _) hb); clear hb)
      | (go_at_call 89; (with_reducible refine (implNum_any gn 2 _ (by have := HGN.out.2; omega)).mono ?_); rw [HG.out]; rintro e w4 ⟨rfl, hb⟩; have T4 := Lib.hid (T3.out.later hb); have B4 := Lib.hid (below_on B3.out (by rw [N0.out]; exact Nat.le_refl _) hb); clear hb))
  go_wp2
  have T4d := Lib.hid T4.out.drew
  have B4d := Lib.hid B4.out.drew
  go_region_held3 (fun w' => w'.cell? ⟨w.heap.size, 3, none⟩ = some (.string key))
    (first
      | exact T4d.out.cell rfl
      | exact T5.out.cell rfl
      | exact T6.out.cell rfl
      | go_keep)
    (first
      | (go_at_call 90; (with_reducible refine (implWord_any (A ++ D ++ G) _).mono ?_); rw [← HE0.out]; rintro e w5 ⟨rfl, hb⟩; have T5 := Lib.hid (T4d.out.later hb); have B5 := Lib.hid (below_on B4d.out (by rw [N0.out]; exact Nat.le_refl _) hb); clear hb)
      | (go_at_call 90; (with_reducible refine (implWord_any key _).mono ?_); rintro e w6 ⟨rfl, hb⟩; have T6 := Lib.hid (T5.out.later hb); have B6 := Lib.hid (below_on B5.out (by rw [N0.out]; exact Nat.le_refl _) hb); clear hb))
  have S6 : Hid (w.heap.size + 1 ≤ w6.heap.size) := Lib.hid (by have := B6.out.size; rw [N0.out] at this; exact this)
  have H01 : Hid (scells (recsTo M 0) = [.string (headB M), .string (wordB key)]) := Lib.hid (by rw [recsTo_zero, HE1.out]; rfl)
  have HW0 : Hid ((w6.alloc (.cells #[.string (headB M), .string (wordB key)] 9)).ownsRow (w.heap.size + 1) 9 1 (.slice (some ⟨w6.heap.size, 0, none⟩) 2 2) 2 (scells (recsTo M 0))) := Lib.hid (by rw [H01.out]; exact World.ownsRow_lit w6 #[.string (headB M), .string (wordB key)] 2 S6.out (by decide) rfl)
  have B7 : Hid (Below (w.heap.size + 1) (w.alloc (inoObj 2 sz gn key aR nR cR aE nE cE)) (w6.alloc (.cells #[.string (headB M), .string (wordB key)] 9))) := Lib.hid (B6.out.alloc S6.out _)
  have T7 := Lib.hid (T6.out.later (below_bk w6 (.cells #[.string (headB M), .string (wordB key)] 9)))
  have c0 := T7.out.cell (j := 0) rfl
  have c1 := T7.out.cell (j := 1) rfl
  have c2 := T7.out.cell (j := 2) rfl
  have c3 := T7.out.cell (j := 3) rfl
  have c4 := T7.out.cell (j := 4) rfl
  have c5 := T7.out.cell (j := 5) rfl
  clear hAD hADG
  go_wp2_with fail
  refine (HC.out _).mono ?_
  rintro e w8 ⟨rfl, hb8⟩
  have B8 : Hid (Below (w.heap.size + 1) (w.alloc (inoObj 2 sz gn key aR nR cR aE nE cE)) w8) := Lib.hid (B7.out.trans (hb8.mono (by have := S6.out; simp; omega)))
  have S8 : Hid (w.heap.size + 1 ≤ w8.heap.size) := Lib.hid (by have h9 := hb8.size; have := S6.out; simp at h9; omega)
  have HW8 := Lib.hid (own_below HW0.out hb8)
  clear hb8 c0 c1 c2 c3 c4 c5
  have a1 := dir_no_file (.agg #[.slice aE nE cE]) w8
  have a2 := as_dir (.agg #[.slice aE nE cE]) w8
  have B9 : Hid (Below (w.heap.size + 1) (w.alloc (inoObj 2 sz gn key aR nR cR aE nE cE)) (w8.alloc (.cells #[.slice aE nE cE] 103))) := Lib.hid (B8.out.alloc S8.out _)
  have S9 : Hid (w.heap.size + 1 ≤ (w8.alloc (.cells #[.slice aE nE cE] 103)).heap.size) := Lib.hid (by have := S8.out; simp; omega)
  have HW9 := Lib.hid (HW8.out.alloc (.cells #[.slice aE nE cE] 103))
  have HFL : Hid (scells (recsTo M 0) ++ scells (E.map entryWordB) = scells (fillTo M 0)) := Lib.hid (by
    exact dir_fill HME.out (by rw [HLR.out]; exact hkind.out))
  go_wp2_with fail
  refine (appendEntrys_any (w.alloc (inoObj 2 sz gn key aR nR cR aE nE cE)) (w.heap.size + 1) _ 2 (scells (recsTo M 0)) aE nE cE E _ (by rw [N0.out]; exact Nat.le_refl _) B9.out S9.out HS'.out HF'.out (by omega) HW9.out).mono ?_
  rintro e w9 ⟨v9, rfl, hown9, hb9, hs9⟩
  rw [HFL.out] at hown9
  obtain ⟨n2, hn2⟩ : ∃ n2, 2 + nE = n2 := ⟨_, rfl⟩
  have HN2 : Hid (2 + nR + nE = n2) := Lib.hid (by rw [hkind.out]; omega)
  have hn8 : n2 ≤ 8 := by omega
  rw [hn2] at hown9
  have HWF := Lib.hid hown9
  have BF := Lib.hid hb9
  clear hown9 hb9 hs9 hn2
  go_wp2
  go_loopw [4] (fun v wr => ∃ k3, n2 + k3 ≤ 8 ∧ Hid (wr.ownsRow (w.heap.size + 1) 9 1 v (n2 + k3) (scells (fillTo M k3))) ∧ Hid (Below (w.heap.size + 1) (w.alloc (inoObj 2 sz gn key aR nR cR aE nE cE)) wr)) (fun v _ => 8 - rowLen v)
  case atStart => exact ⟨0, by omega, HWF, BF⟩
  case round =>
    obtain ⟨k3, hk3, HW, HB⟩ := hrel
    obtain ⟨ad, cap, rfl, hcap, hn, _⟩ := own_form HW.out
    by_cases hlt3 : n2 + k3 < 8
    · obtain ⟨T, hT⟩ : ∃ T, zeroB 8 = T := ⟨_, rfl⟩
      have HT := Lib.hid hT
      have HWN : Hid (scells (fillTo M k3) ++ [.string T] = scells (fillTo M (k3 + 1))) := Lib.hid (by rw [← fillTo_next, ← HT.out]; rfl)
      clear hT
      go_wp2_with (first
        | (go_at_call 93; (with_reducible refine (implZero_any 8 _).mono ?_); rw [HT.out]; rintro e wa ⟨rfl, hb1⟩
           have HW1 := Lib.hid (own_below HW.out hb1)
           have BG := Lib.hid (below_on HB.out (by rw [N0.out]; exact Nat.le_refl _) hb1)
           have BS : Hid (w.heap.size + 1 ≤ wa.heap.size) := Lib.hid (by have := BG.out.size; rw [N0.out] at this; exact this))
        | (at_builtin; refine wpList_append_own _ rfl (.tmp 46) (.tmp 48) 25 rfl (w.heap.size + 1) 9 i0 (.string ⟨#[]⟩) 1 16 Tryd.underlying25 hi hz0 hz1 hz2 rfl (by decide) _ _ _ rfl (HW1.out.alloc _) ⟨wa.heap.size, 0, none⟩ 1 1 [.string T] rfl rfl (World.news_of_block (heap_alloc_new _ _)) (by simp [Value.oneCell']) (by unfold maxLen; omega) (by omega) (by have := BS.out; simp; omega) ?_; intro v2 wb hown2 hgrow2 hn2))
      have BG3 := Lib.hid ((BG.out.alloc BS.out _).grown hgrow2 (by have := BS.out; simp; omega) (own_block_ge HW1.out))
      rw [HWN.out] at hown2
      have HO2 := Lib.hid hown2
      clear hown2 hgrow2 hn2 HW1 BG BS HB HW
      obtain ⟨ad2, cap2, rfl, hcap2, hn9, _⟩ := own_form HO2.out
      go_roundw
      case rel => exact ⟨k3 + 1, by omega, HO2, BG3⟩
      case measure => (simp [rowLen]; try omega)
    · have HW9 : Hid (wr.ownsRow w.heap.size 9 1 (.slice ad (n2 + k3) cap) (inoWordsB M).length (scells (inoWordsB M))) := Lib.hid (by
        have h9 := HW.out
        rw [HL8.out, HR.out, HN2.out, show 8 - n2 = k3 by omega, show 8 = n2 + k3 by omega]
        exact ownE_mono h9 (by omega))
      clear HW
      go_wp2
      go_ret
      exact ⟨_, rfl, HW9.out, B0.out.trans (HB.out.mono (by omega))⟩

set_option maxRecDepth 100000 in
set_option maxHeartbeats 4000000 in
theorem implInoWords_free (hz : -9223372036854775808 ≤ sz ∧ sz ≤ 9223372036854775807) (hs : SrcRec w aR nR R) (hf : FitRec R nR 2000000) (hs' : SrcEntry w aE nE E) (hf' : FitEntry E nE 2000000) (h : InoOk ⟨0, sz, gn, key, R, E⟩) :
    Calls Tryd.prog 43 #[.agg #[.int .i64 0, .int .i64 sz, .int .i64 gn, .string key, .slice aR nR cR, .slice aE nE cE]] w (GivesT (inoWordsB ⟨0, sz, gn, key, R, E⟩) w) := by
  obtain ⟨i0, hi, hz0, hz1, hz2⟩ := info_parts infoText
  obtain ⟨M, hM⟩ : ∃ M : InoR, (⟨0, sz, gn, key, R, E⟩ : InoR) = M := ⟨_, rfl⟩
  have hlR : M.R.length = nR := by rw [← hM]; exact hs.len
  have hlE : M.E.length = nE := by rw [← hM]; exact hs'.len
  have hMR : M.R = R := by rw [← hM]
  have hME : M.E = E := by rw [← hM]
  have hl8 : (wordsI M).length ≤ 8 := wordsI_le (by rw [← hM]; exact h)
  have hlW : (wordsI M).length = 2 + nR + nE := by unfold wordsI; simp [hlR, hlE]; omega
  have HN := Lib.hid (inoB_yes h)
  have HR : Hid (inoWordsB M = fillTo M (8 - (2 + nR + nE))) := Lib.hid (by rw [← hlW]; exact inoWords_yes (by rw [← hM]; exact h))
  have HL8 : Hid ((inoWordsB M).length = 8) := Lib.hid (inoWords_length (by rw [← hM]; exact h))
  have HZ := Lib.hid hz
  have HF := Lib.hid hf
  have HF' := Lib.hid hf'
  have hgn := h.1
  have HGN : Hid (0 ≤ gn ∧ gn ≤ 65535) := Lib.hid hgn
  have hl8' : nR + nE ≤ 6 := by omega
  have hkind : Hid (nR = 0 ∧ nE = 0) := Lib.hid (by
    have x := (inoOk_free (show 0 ≤ gn ∧ gn ≤ 65535 from h.1)).1 h
    have e1 := hs.len
    have e2 := hs'.len
    exact ⟨by rw [← e1]; exact x.2.2.1, by rw [← e2]; exact x.2.2.2⟩)
  have B0 := Lib.hid (below_bk w (inoObj 0 sz gn key aR nR cR aE nE cE))
  have K0 := Lib.hid (Bk.alloc w (inoCs 0 sz gn key aR nR cR aE nE cE) 54)
  have N0 : Hid ((w.alloc (inoObj 0 sz gn key aR nR cR aE nE cE)).heap.size = w.heap.size + 1) := Lib.hid (by simp)
  have HS := Lib.hid (hs.below B0.out (Nat.le_refl _))
  have HS' := Lib.hid (hs'.below B0.out (Nat.le_refl _))
  have HLR := Lib.hid hlR
  have HLE := Lib.hid hlE
  have HMR := Lib.hid hMR
  have HME := Lib.hid hME
  have HE0 : Hid (headB M = wordB (numTextB 0 1 ++ numTextB sz 2 ++ numTextB gn 2)) := Lib.hid (by rw [← hM]; rfl)
  have HE1 : Hid (wordB M.key = wordB key) := Lib.hid (by rw [← hM])
  have HC : Hid (∀ W : World, Calls Tryd.prog 79 #[.agg #[.int .i64 0, .int .i64 sz, .int .i64 gn, .string key, .slice aR nR cR, .slice aE nE cE]] W fun e w' => e = .returned (.iface 115 (.agg #[])) ∧ Below W.heap.size W w') := Lib.hid (fun W => implBody_any 0 sz gn key aR nR cR aE nE cE W)
  obtain ⟨A, hA⟩ : ∃ A, numTextB 0 1 = A := ⟨_, rfl⟩
  obtain ⟨D, hD⟩ : ∃ D, numTextB sz 2 = D := ⟨_, rfl⟩
  obtain ⟨G, hG⟩ : ∃ G, numTextB gn 2 = G := ⟨_, rfl⟩
  have hA1 : A.size ≤ 1 := by rw [← hA]; rcases numTextB_size 0 1 with e | e <;> rw [e] <;> decide
  have hD1 : D.size ≤ 2 := by rw [← hD]; rcases numTextB_size sz 2 with e | e <;> rw [e] <;> decide
  have hG1 : G.size ≤ 2 := by rw [← hG]; rcases numTextB_size gn 2 with e | e <;> rw [e] <;> decide
  have hAD : ¬ (9223372036854775807 < A.size + D.size) := by omega
  have hADG : ¬ (9223372036854775807 < A.size + D.size + G.size) := by omega
  rw [hA, hD, hG] at HE0
  have HA := Lib.hid hA
  have HD := Lib.hid hD
  have HG := Lib.hid hG
  rw [hM]
  clear hz hs hf hs' hf' h hA hD hG hM hMR hME hl8 hlW hlR hlE hgn
  go_enter Tryd.func43, Tryd.ntmps43
  go_wp2_with fail
  refine (implIno_any 0 sz gn key aR nR cR aE nE cE _ R E HZ.out (by omega) HS.out HF.out HS'.out HF'.out).mono ?_
  rw [HN.out]
  rintro e w1 ⟨rfl, hb1⟩
  have T0 := Lib.hid (K0.out.later hb1)
  have B1 : Hid (Below (w.heap.size + 1) (w.alloc (inoObj 0 sz gn key aR nR cR aE nE cE)) w1) := Lib.hid (by rw [N0.out] at hb1; exact hb1)
  clear hb1
  go_wp2
  have T0d := Lib.hid T0.out.drew
  have B1d := Lib.hid B1.out.drew
  go_region_held3 (fun w' => w'.cell? ⟨w.heap.size, 0, none⟩ = some (.int .i64 0) ∧ w'.cell? ⟨w.heap.size, 1, none⟩ = some (.int .i64 sz) ∧ w'.cell? ⟨w.heap.size, 2, none⟩ = some (.int .i64 gn))
    (first
      | exact ⟨T0d.out.cell rfl, T0d.out.cell rfl, T0d.out.cell rfl⟩
      | exact ⟨T2.out.cell rfl, T2.out.cell rfl, T2.out.cell rfl⟩
      | exact ⟨T3.out.cell rfl, T3.out.cell rfl, T3.out.cell rfl⟩
      | exact ⟨T4.out.cell rfl, T4.out.cell rfl, T4.out.cell rfl⟩
      | go_keep)
    (first
      | (go_at_call 89; (with_reducible refine (implNum_any 0 1 _ (by omega)).mono ?_); rw [HA.out]; rintro e w2 ⟨rfl, hb⟩; have T2 := Lib.hid (T0d.out.later hb); have B2 := Lib.hid (below_on B1d.out (by rw [N0.out]; exact Nat.le_refl _) hb); clear hb)
      | (go_at_call 89; (with_reducible refine (implNum_any sz 2 _ HZ.out.2).mono ?_); rw [HD.out]; rintro e w3 ⟨rfl, hb⟩; have T3 := Lib.hid (T2.out.later hb); have B3 := Lib.hid (below_on B2.out (by rw [N0.out]; exact Nat.le_refl _) hb); clear hb)
      | (go_at_call 89; (with_reducible refine (implNum_any gn 2 _ (by have := HGN.out.2; omega)).mono ?_); rw [HG.out]; rintro e w4 ⟨rfl, hb⟩; have T4 := Lib.hid (T3.out.later hb); have B4 := Lib.hid (below_on B3.out (by rw [N0.out]; exact Nat.le_refl _) hb); clear hb))
  go_wp2
  have T4d := Lib.hid T4.out.drew
  have B4d := Lib.hid B4.out.drew
  go_region_held3 (fun w' => w'.cell? ⟨w.heap.size, 3, none⟩ = some (.string key))
    (first
      | exact T4d.out.cell rfl
      | exact T5.out.cell rfl
      | exact T6.out.cell rfl
      | go_keep)
    (first
      | (go_at_call 90; (with_reducible refine (implWord_any (A ++ D ++ G) _).mono ?_); rw [← HE0.out]; rintro e w5 ⟨rfl, hb⟩; have T5 := Lib.hid (T4d.out.later hb); have B5 := Lib.hid (below_on B4d.out (by rw [N0.out]; exact Nat.le_refl _) hb); clear hb)
      | (go_at_call 90; (with_reducible refine (implWord_any key _).mono ?_); rintro e w6 ⟨rfl, hb⟩; have T6 := Lib.hid (T5.out.later hb); have B6 := Lib.hid (below_on B5.out (by rw [N0.out]; exact Nat.le_refl _) hb); clear hb))
  have S6 : Hid (w.heap.size + 1 ≤ w6.heap.size) := Lib.hid (by have := B6.out.size; rw [N0.out] at this; exact this)
  have H01 : Hid (scells (recsTo M 0) = [.string (headB M), .string (wordB key)]) := Lib.hid (by rw [recsTo_zero, HE1.out]; rfl)
  have HW0 : Hid ((w6.alloc (.cells #[.string (headB M), .string (wordB key)] 9)).ownsRow (w.heap.size + 1) 9 1 (.slice (some ⟨w6.heap.size, 0, none⟩) 2 2) 2 (scells (recsTo M 0))) := Lib.hid (by rw [H01.out]; exact World.ownsRow_lit w6 #[.string (headB M), .string (wordB key)] 2 S6.out (by decide) rfl)
  have B7 : Hid (Below (w.heap.size + 1) (w.alloc (inoObj 0 sz gn key aR nR cR aE nE cE)) (w6.alloc (.cells #[.string (headB M), .string (wordB key)] 9))) := Lib.hid (B6.out.alloc S6.out _)
  have T7 := Lib.hid (T6.out.later (below_bk w6 (.cells #[.string (headB M), .string (wordB key)] 9)))
  have c0 := T7.out.cell (j := 0) rfl
  have c1 := T7.out.cell (j := 1) rfl
  have c2 := T7.out.cell (j := 2) rfl
  have c3 := T7.out.cell (j := 3) rfl
  have c4 := T7.out.cell (j := 4) rfl
  have c5 := T7.out.cell (j := 5) rfl
  clear hAD hADG
  go_wp2_with fail
  refine (HC.out _).mono ?_
  rintro e w8 ⟨rfl, hb8⟩
  have B8 : Hid (Below (w.heap.size + 1) (w.alloc (inoObj 0 sz gn key aR nR cR aE nE cE)) w8) := Lib.hid (B7.out.trans (hb8.mono (by have := S6.out; simp; omega)))
  have S8 : Hid (w.heap.size + 1 ≤ w8.heap.size) := Lib.hid (by have h9 := hb8.size; have := S6.out; simp at h9; omega)
  have HW8 := Lib.hid (own_below HW0.out hb8)
  clear hb8 c0 c1 c2 c3 c4 c5
  have a1 := free_no_file (.agg #[]) w8
  have a2 := free_no_dir (.agg #[]) w8
  have HFL : Hid (scells (recsTo M 0) = scells (fillTo M 0)) := Lib.hid (by
    have h9 : recsTo M 0 = entsTo M 0 := by rw [← recsTo_all M, HLR.out, hkind.out.1]
    have h8 : entsTo M 0 = fillTo M 0 := by rw [← entsTo_all M, HLE.out, hkind.out.2]
    rw [h9, h8])
  obtain ⟨n2, hn2⟩ : ∃ n2, 2 = n2 := ⟨_, rfl⟩
  have HN2 : Hid (2 + nR + nE = n2) := Lib.hid (by rw [hkind.out.1, hkind.out.2]; exact hn2)
  have hn8 : n2 ≤ 8 := by omega
  have hown9 := HW8.out
  rw [HFL.out] at hown9
  have HWF : Hid (w8.ownsRow (w.heap.size + 1) 9 1 (.slice (some ⟨w6.heap.size, 0, none⟩) 2 2) (n2 + 0) (scells (fillTo M 0))) := Lib.hid (by rw [← hn2]; exact hown9)
  have BF := B8
  clear hown9 hn2
  go_wp2
  go_loopw [4] (fun v wr => ∃ k3, n2 + k3 ≤ 8 ∧ Hid (wr.ownsRow (w.heap.size + 1) 9 1 v (n2 + k3) (scells (fillTo M k3))) ∧ Hid (Below (w.heap.size + 1) (w.alloc (inoObj 0 sz gn key aR nR cR aE nE cE)) wr)) (fun v _ => 8 - rowLen v)
  case atStart => exact ⟨0, by omega, HWF, BF⟩
  case round =>
    obtain ⟨k3, hk3, HW, HB⟩ := hrel
    obtain ⟨ad, cap, rfl, hcap, hn, _⟩ := own_form HW.out
    by_cases hlt3 : n2 + k3 < 8
    · obtain ⟨T, hT⟩ : ∃ T, zeroB 8 = T := ⟨_, rfl⟩
      have HT := Lib.hid hT
      have HWN : Hid (scells (fillTo M k3) ++ [.string T] = scells (fillTo M (k3 + 1))) := Lib.hid (by rw [← fillTo_next, ← HT.out]; rfl)
      clear hT
      go_wp2_with (first
        | (go_at_call 93; (with_reducible refine (implZero_any 8 _).mono ?_); rw [HT.out]; rintro e wa ⟨rfl, hb1⟩
           have HW1 := Lib.hid (own_below HW.out hb1)
           have BG := Lib.hid (below_on HB.out (by rw [N0.out]; exact Nat.le_refl _) hb1)
           have BS : Hid (w.heap.size + 1 ≤ wa.heap.size) := Lib.hid (by have := BG.out.size; rw [N0.out] at this; exact this))
        | (at_builtin; refine wpList_append_own _ rfl (.tmp 46) (.tmp 48) 25 rfl (w.heap.size + 1) 9 i0 (.string ⟨#[]⟩) 1 16 Tryd.underlying25 hi hz0 hz1 hz2 rfl (by decide) _ _ _ rfl (HW1.out.alloc _) ⟨wa.heap.size, 0, none⟩ 1 1 [.string T] rfl rfl (World.news_of_block (heap_alloc_new _ _)) (by simp [Value.oneCell']) (by unfold maxLen; omega) (by omega) (by have := BS.out; simp; omega) ?_; intro v2 wb hown2 hgrow2 hn2))
      have BG3 := Lib.hid ((BG.out.alloc BS.out _).grown hgrow2 (by have := BS.out; simp; omega) (own_block_ge HW1.out))
      rw [HWN.out] at hown2
      have HO2 := Lib.hid hown2
      clear hown2 hgrow2 hn2 HW1 BG BS HB HW
      obtain ⟨ad2, cap2, rfl, hcap2, hn9, _⟩ := own_form HO2.out
      go_roundw
      case rel => exact ⟨k3 + 1, by omega, HO2, BG3⟩
      case measure => (simp [rowLen]; try omega)
    · have HW9 : Hid (wr.ownsRow w.heap.size 9 1 (.slice ad (n2 + k3) cap) (inoWordsB M).length (scells (inoWordsB M))) := Lib.hid (by
        have h9 := HW.out
        rw [HL8.out, HR.out, HN2.out, show 8 - n2 = k3 by omega, show 8 = n2 + k3 by omega]
        exact ownE_mono h9 (by omega))
      clear HW
      go_wp2
      go_ret
      exact ⟨_, rfl, HW9.out, B0.out.trans (HB.out.mono (by omega))⟩


set_option maxRecDepth 100000 in
set_option maxHeartbeats 1000000 in
theorem implInoWords_no (kd : Int) (hz : -9223372036854775808 ≤ sz ∧ sz ≤ 9223372036854775807) (hn : nE ≤ 9223372036854775807) (hs : SrcRec w aR nR R) (hf : FitRec R nR 2000000) (hs' : SrcEntry w aE nE E) (hf' : FitEntry E nE 2000000) (h : ¬ InoOk ⟨kd, sz, gn, key, R, E⟩) :
    Calls Tryd.prog 43 #[.agg #[.int .i64 kd, .int .i64 sz, .int .i64 gn, .string key, .slice aR nR cR, .slice aE nE cE]] w (GivesT [] w) := by
  have HN := Lib.hid (inoB_no h)
  have HZ := Lib.hid hz
  have HNE := Lib.hid hn
  have HF := Lib.hid hf
  have HF' := Lib.hid hf'
  have B0 := Lib.hid (below_bk w (inoObj kd sz gn key aR nR cR aE nE cE))
  have HS := Lib.hid (hs.below B0.out (Nat.le_refl _))
  have HS' := Lib.hid (hs'.below B0.out (Nat.le_refl _))
  clear hz hs hf hs' hf' h hn
  go_enter Tryd.func43, Tryd.ntmps43
  go_wp2_with fail
  refine (implIno_any kd sz gn key aR nR cR aE nE cE _ R E HZ.out HNE.out HS.out HF.out HS'.out HF'.out).mono ?_
  rw [HN.out]
  rintro e w1 ⟨rfl, hb1⟩
  have B1 : Hid (Below w.heap.size w w1) := Lib.hid (below_on B0.out (Nat.le_refl _) hb1)
  clear hb1
  go_wp2
  go_ret
  exact ⟨_, rfl, World.ownsRow_nil _ _ _ _, B1.out⟩

theorem implInoWords_any (kd : Int) (hz : -9223372036854775808 ≤ sz ∧ sz ≤ 9223372036854775807) (hn : nE ≤ 9223372036854775807) (hs : SrcRec w aR nR R) (hf : FitRec R nR 2000000) (hs' : SrcEntry w aE nE E) (hf' : FitEntry E nE 2000000) :
    Calls Tryd.prog 43 #[.agg #[.int .i64 kd, .int .i64 sz, .int .i64 gn, .string key, .slice aR nR cR, .slice aE nE cE]] w (GivesT (inoWordsB ⟨kd, sz, gn, key, R, E⟩) w) := by
  by_cases h : InoOk ⟨kd, sz, gn, key, R, E⟩
  · have h9 := h
    rcases h9 with ⟨_, ⟨e, _⟩ | ⟨e, _⟩ | ⟨e, _⟩⟩
    · obtain rfl : kd = 0 := e
      exact implInoWords_free sz gn key aR nR cR aE nE cE w R E hz hs hf hs' hf' h
    · obtain rfl : kd = 1 := e
      exact implInoWords_file sz gn key aR nR cR aE nE cE w R E hz hs hf hs' hf' h
    · obtain rfl : kd = 2 := e
      exact implInoWords_dir sz gn key aR nR cR aE nE cE w R E hz hs hf hs' hf' h
  · rw [inoWords_no h]
    exact implInoWords_no sz gn key aR nR cR aE nE cE w R E kd hz hn hs hf hs' hf' h
end
end Go.Proofs.YtmkchilhnmkhkaaDoor
