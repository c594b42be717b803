/- Merged texts: InoImpl, StImpl, IdxI, OkImpl, OkImplB, OkImplC, GeoI, OkImplD, AppendImpl, ZeroImpl. -/
import Derived.Test.YtmkchilhnmkhkabGreatP15ZD
import Derived.Deep.DeepCutAuto
import Derived.Deep.RegionHeld3
namespace Go.Proofs.YtmkchilhnmkhkabGreat
open Go.RowKit Go.Proofs.YtmkchilhnmkhkabGreat.Parts Go.Proofs.YtmkchilhnmkhkabGreat.Hexa Go.Proofs.YtmkchilhnmkhkabGreat.Byt

theorem bool_of (p : Prop) : ∃ b : Bool, b = true ↔ p := by
  by_cases h : p
  · exact ⟨true, by simp [h]⟩
  · exact ⟨false, by simp [h]⟩
theorem noFile_cases (sz : Int) (key : ByteArray) (nR : Nat) : (sz = 0 ∧ key = ⟨#[]⟩ ∧ nR = 0) ∨ (sz = 0 ∧ key = ⟨#[]⟩ ∧ 0 < nR) ∨ (sz = 0 ∧ 0 < key.size) ∨ sz ≠ 0 := by
  by_cases h1 : sz = 0
  · by_cases h2 : key.size = 0
    · obtain rfl := text_nothing h2
      by_cases h3 : nR = 0
      · exact .inl ⟨h1, rfl, h3⟩
      · exact .inr (.inl ⟨h1, rfl, by omega⟩)
    · exact .inr (.inr (.inl ⟨h1, by omega⟩))
  · exact .inr (.inr (.inr h1))
/-- Neither a size nor a key nor records. -/
def noFileB (sz : Int) (key : ByteArray) (nR : Nat) : Bool := decide (sz = 0 ∧ key.size = 0 ∧ nR = 0)

section
variable (sz gn : Int) (key : ByteArray) (aR : Option Addr) (nR cR : Nat) (aE : Option Addr) (nE cE : Nat) (w : World)

set_option maxRecDepth 100000 in
set_option maxHeartbeats 1000000 in
theorem implIno_gen (kd : Int) (h : ¬ (0 ≤ gn ∧ gn ≤ 65535)) :
    Calls Tryz.prog 61 #[.agg #[.int .i64 kd, .int .i64 sz, .int .i64 gn, .string key, .slice aR nR cR, .slice aE nE cE]] w (SaysB false w) := by
  have H0 := Lib.hid h
  have B0 := Lib.hid (below_bk w (inoObj kd sz gn key aR nR cR aE nE cE))
  clear h
  go_enter Tryz.func61, Tryz.ntmps61
  go_wp2_with ((with_reducible refine (implIn_no _ H0.out).mono ?_); rintro e w1 ⟨rfl, rfl⟩)
  go_ret
  exact ⟨rfl, B0.out⟩

set_option maxRecDepth 100000 in
set_option maxHeartbeats 1000000 in
theorem implIno_free (h : 0 ≤ gn ∧ gn ≤ 65535) (b : Bool) (hb : b = true ↔ (noFileB sz key nR = true ∧ nE = 0)) :
    Calls Tryz.prog 61 #[.agg #[.int .i64 0, .int .i64 sz, .int .i64 gn, .string key, .slice aR nR cR, .slice aE nE cE]] w (SaysB b w) := by
  have H0 := Lib.hid h
  have HG := Lib.hid hb
  have K0 := Lib.hid (Bk.alloc w (inoCs 0 sz gn key aR nR cR aE nE cE) 57)
  have B0 := Lib.hid (below_bk w (inoObj 0 sz gn key aR nR cR aE nE cE))
  have HC : Hid (∀ W : World, Calls Tryz.prog 64 #[.agg #[.int .i64 0, .int .i64 sz, .int .i64 gn, .string key, .slice aR nR cR, .slice aE nE cE]] W fun e w' => e = .returned (.iface 114 (.agg #[])) ∧ Below W.heap.size W w') := Lib.hid (fun W => implBody_any 0 sz gn key aR nR cR aE nE cE W)
  clear h hb
  go_enter Tryz.func61, Tryz.ntmps61
  go_upto_region 3 with ((with_reducible refine (implIn_yes _ H0.out).mono ?_); rintro e w1 ⟨rfl, rfl⟩)
  go_cut [3] (fun v wx => v = .bool (noFileB sz key nR) ∧ wx = w.alloc (inoObj 0 sz gn key aR nR cR aE nE cE))
  case first =>
    rcases noFile_cases sz key nR with ⟨rfl, rfl, rfl⟩ | ⟨rfl, rfl, h3⟩ | ⟨rfl, h3⟩ | h3
    · go_wp2_with fail
      go_meet
      exact ⟨rfl, rfl⟩
    · have e3 : ((nR : Int) == 0) = false := by simp; omega
      have HF9 : Hid (noFileB 0 ⟨#[]⟩ nR = false) := Lib.hid (decide_eq_false (fun x => by omega))
      go_wp2_with fail
      go_meet
      exact ⟨by rw [HF9.out], rfl⟩
    · have e4 : (key.toList == []) = false := text_full key (by omega)
      have HF9 : Hid (noFileB 0 key nR = false) := Lib.hid (decide_eq_false (fun x => by omega))
      go_wp2_with fail
      go_meet
      exact ⟨by rw [HF9.out], rfl⟩
    · have e4 : (sz == 0) = false := by simpa using h3
      have HF9 : Hid (noFileB sz key nR = false) := Lib.hid (decide_eq_false (fun x => h3 x.1))
      clear h3
      go_wp2_with fail
      go_meet
      exact ⟨by rw [HF9.out], rfl⟩
  case rest =>
    obtain ⟨rfl, rfl⟩ := hcut
    go_wp2_with fail
    refine (HC.out _).mono ?_
    rintro e w1 ⟨rfl, hb1⟩
    have B1 : Hid (Below w.heap.size w w1) := Lib.hid (B0.out.trans (hb1.mono B0.out.size))
    clear hb1
    have a1 := free_no_file (.agg #[]) w1
    have a2 := free_no_dir (.agg #[]) w1
    have a3 := as_free (.agg #[]) w1
    have e9 : ((nE : Int) == 0) = decide (nE = 0) := by by_cases h : nE = 0 <;> simp [h]
    obtain ⟨f, hf⟩ : ∃ f, noFileB sz key nR = f := ⟨_, rfl⟩
    rw [hf] at HG ⊢
    clear hf
    cases f
    · obtain rfl : b = false := bool_no HG.out (fun x => by cases x.1)
      go_wp2
      go_ret
      exact ⟨rfl, B1.out.alloc B1.out.size _⟩
    · obtain rfl : b = decide (nE = 0) := by
        by_cases h : nE = 0
        · rw [HG.out.2 ⟨rfl, h⟩, decide_eq_true h]
        · rw [bool_no HG.out (fun x => h x.2), decide_eq_false h]
      go_wp2
      go_ret
      exact ⟨rfl, B1.out.alloc B1.out.size _⟩

set_option maxRecDepth 100000 in
set_option maxHeartbeats 1000000 in
theorem implIno_file (h : 0 ≤ gn ∧ gn ≤ 65535) (R : List RecR) (hz : -9223372036854775808 ≤ sz ∧ sz ≤ 9223372036854775807) (hs : SrcRec w aR nR R) (hf : FitRec R nR 2000000) (b : Bool)
    (hb : b = true ↔ (((0 ≤ sz ∧ sz ≤ 128) ∧ key.size = 8 ∧ (nR : Int) = pagesZ sz ∧ RecsOk R nR) ∧ nE = 0)) :
    Calls Tryz.prog 61 #[.agg #[.int .i64 1, .int .i64 sz, .int .i64 gn, .string key, .slice aR nR cR, .slice aE nE cE]] w (SaysB b w) := by
  obtain ⟨b1, hb1⟩ : ∃ b1 : Bool, b1 = true ↔ ((0 ≤ sz ∧ sz ≤ 128) ∧ key.size = 8 ∧ (nR : Int) = pagesZ sz ∧ RecsOk R nR) := bool_of _
  have hb2 : b = true ↔ (b1 = true ∧ nE = 0) := by rw [hb, hb1]
  have H0 := Lib.hid h
  have HG := Lib.hid hb2
  have HG1 := Lib.hid hb1
  have HZ := Lib.hid hz
  have HS := Lib.hid hs
  have HF := Lib.hid hf
  have K0 := Lib.hid (Bk.alloc w (inoCs 1 sz gn key aR nR cR aE nE cE) 57)
  have B0 := Lib.hid (below_bk w (inoObj 1 sz gn key aR nR cR aE nE cE))
  have HC : Hid (∀ W : World, Calls Tryz.prog 64 #[.agg #[.int .i64 1, .int .i64 sz, .int .i64 gn, .string key, .slice aR nR cR, .slice aE nE cE]] W fun e w' => e = .returned (.iface 91 (.agg #[.int .i64 sz, .string key, .slice aR nR cR])) ∧ Below W.heap.size W w') := Lib.hid (fun W => implBody_any 1 sz gn key aR nR cR aE nE cE W)
  clear h hb hb1 hb2 hz hs hf
  go_enter Tryz.func61, Tryz.ntmps61
  go_upto_region 3 with ((with_reducible refine (implIn_yes _ H0.out).mono ?_); rintro e w1 ⟨rfl, rfl⟩)
  go_cut [3] (fun v wx => v = .bool (noFileB sz key nR) ∧ wx = w.alloc (inoObj 1 sz gn key aR nR cR aE nE cE))
  case first =>
    rcases noFile_cases sz key nR with ⟨rfl, rfl, rfl⟩ | ⟨rfl, rfl, h3⟩ | ⟨rfl, h3⟩ | h3
    · go_wp2_with fail
      go_meet
      exact ⟨rfl, rfl⟩
    · have e3 : ((nR : Int) == 0) = false := by simp; omega
      have HF9 : Hid (noFileB 0 ⟨#[]⟩ nR = false) := Lib.hid (decide_eq_false (fun x => by omega))
      go_wp2_with fail
      go_meet
      exact ⟨by rw [HF9.out], rfl⟩
    · have e4 : (key.toList == []) = false := text_full key (by omega)
      have HF9 : Hid (noFileB 0 key nR = false) := Lib.hid (decide_eq_false (fun x => by omega))
      go_wp2_with fail
      go_meet
      exact ⟨by rw [HF9.out], rfl⟩
    · have e4 : (sz == 0) = false := by simpa using h3
      have HF9 : Hid (noFileB sz key nR = false) := Lib.hid (decide_eq_false (fun x => h3 x.1))
      clear h3
      go_wp2_with fail
      go_meet
      exact ⟨by rw [HF9.out], rfl⟩
  case rest =>
    obtain ⟨rfl, rfl⟩ := hcut
    go_wp2_with fail
    refine (HC.out _).mono ?_
    rintro e w1 ⟨rfl, hb1⟩
    have B1 : Hid (Below w.heap.size w w1) := Lib.hid (B0.out.trans (hb1.mono B0.out.size))
    clear hb1
    have a1 := as_file (.agg #[.int .i64 sz, .string key, .slice aR nR cR]) w1
    have e9 : ((nE : Int) == 0) = decide (nE = 0) := by by_cases h : nE = 0 <;> simp [h]
    have B2 : Hid (Below w.heap.size w (w1.alloc (.cells #[.int .i64 sz, .string key, .slice aR nR cR] 91))) := Lib.hid (B1.out.alloc B1.out.size _)
    go_wp2_with fail
    refine (implFile_any sz key aR nR cR _ R HZ.out (HS.out.later B2.out) HF.out b1 HG1.out).mono ?_
    rintro e w2 ⟨rfl, hb2⟩
    have B3 : Hid (Below w.heap.size w w2) := Lib.hid (B2.out.trans (hb2.mono B2.out.size))
    clear hb2 HG1
    cases b1
    · obtain rfl : b = false := bool_no HG.out (fun x => by cases x.1)
      go_wp2
      go_ret
      exact ⟨rfl, B3.out⟩
    · obtain rfl : b = decide (nE = 0) := by
        by_cases h : nE = 0
        · rw [HG.out.2 ⟨rfl, h⟩, decide_eq_true h]
        · rw [bool_no HG.out (fun x => h x.2), decide_eq_false h]
      go_wp2
      go_ret
      exact ⟨rfl, B3.out⟩

set_option maxRecDepth 100000 in
set_option maxHeartbeats 1000000 in
theorem implIno_dir (h : 0 ≤ gn ∧ gn ≤ 65535) (E : List EntryR) (hn : nE ≤ 9223372036854775807) (hs : SrcEntry w aE nE E) (hf : FitEntry E nE 2000000) (b : Bool)
    (hb : b = true ↔ ((nE ≤ 6 ∧ EntsOk E nE) ∧ noFileB sz key nR = true)) :
    Calls Tryz.prog 61 #[.agg #[.int .i64 2, .int .i64 sz, .int .i64 gn, .string key, .slice aR nR cR, .slice aE nE cE]] w (SaysB b w) := by
  obtain ⟨b1, hb1⟩ : ∃ b1 : Bool, b1 = true ↔ (nE ≤ 6 ∧ EntsOk E nE) := bool_of _
  have hb2 : b = true ↔ (b1 = true ∧ noFileB sz key nR = true) := by rw [hb, hb1]
  have H0 := Lib.hid h
  have HG := Lib.hid hb2
  have HG1 := Lib.hid hb1
  have HN := Lib.hid hn
  have HS := Lib.hid hs
  have HF := Lib.hid hf
  have K0 := Lib.hid (Bk.alloc w (inoCs 2 sz gn key aR nR cR aE nE cE) 57)
  have B0 := Lib.hid (below_bk w (inoObj 2 sz gn key aR nR cR aE nE cE))
  have HC : Hid (∀ W : World, Calls Tryz.prog 64 #[.agg #[.int .i64 2, .int .i64 sz, .int .i64 gn, .string key, .slice aR nR cR, .slice aE nE cE]] W fun e w' => e = .returned (.iface 97 (.agg #[.slice aE nE cE])) ∧ Below W.heap.size W w') := Lib.hid (fun W => implBody_any 2 sz gn key aR nR cR aE nE cE W)
  clear h hb hb1 hb2 hn hs hf
  go_enter Tryz.func61, Tryz.ntmps61
  go_upto_region 3 with ((with_reducible refine (implIn_yes _ H0.out).mono ?_); rintro e w1 ⟨rfl, rfl⟩)
  go_cut [3] (fun v wx => v = .bool (noFileB sz key nR) ∧ wx = w.alloc (inoObj 2 sz gn key aR nR cR aE nE cE))
  case first =>
    rcases noFile_cases sz key nR with ⟨rfl, rfl, rfl⟩ | ⟨rfl, rfl, h3⟩ | ⟨rfl, h3⟩ | h3
    · go_wp2_with fail
      go_meet
      exact ⟨rfl, rfl⟩
    · have e3 : ((nR : Int) == 0) = false := by simp; omega
      have HF9 : Hid (noFileB 0 ⟨#[]⟩ nR = false) := Lib.hid (decide_eq_false (fun x => by omega))
      go_wp2_with fail
      go_meet
      exact ⟨by rw [HF9.out], rfl⟩
    · have e4 : (key.toList == []) = false := text_full key (by omega)
      have HF9 : Hid (noFileB 0 key nR = false) := Lib.hid (decide_eq_false (fun x => by omega))
      go_wp2_with fail
      go_meet
      exact ⟨by rw [HF9.out], rfl⟩
    · have e4 : (sz == 0) = false := by simpa using h3
      have HF9 : Hid (noFileB sz key nR = false) := Lib.hid (decide_eq_false (fun x => h3 x.1))
      clear h3
      go_wp2_with fail
      go_meet
      exact ⟨by rw [HF9.out], rfl⟩
  case rest =>
    obtain ⟨rfl, rfl⟩ := hcut
    go_wp2_with fail
    refine (HC.out _).mono ?_
    rintro e w1 ⟨rfl, hb1⟩
    have B1 : Hid (Below w.heap.size w w1) := Lib.hid (B0.out.trans (hb1.mono B0.out.size))
    clear hb1
    have a1 := dir_no_file (.agg #[.slice aE nE cE]) w1
    have a2 := as_dir (.agg #[.slice aE nE cE]) w1
    have B2 : Hid (Below w.heap.size w (w1.alloc (.cells #[.slice aE nE cE] 97))) := Lib.hid (B1.out.alloc B1.out.size _)
    go_wp2_with fail
    refine (implDir_any aE nE cE _ E HN.out (HS.out.later B2.out) HF.out b1 HG1.out).mono ?_
    rintro e w2 ⟨rfl, hb2⟩
    have B3 : Hid (Below w.heap.size w w2) := Lib.hid (B2.out.trans (hb2.mono B2.out.size))
    clear hb2 HG1
    obtain ⟨f, hf⟩ : ∃ f, noFileB sz key nR = f := ⟨_, rfl⟩
    rw [hf] at HG ⊢
    clear hf
    cases b1
    · obtain rfl : b = false := bool_no HG.out (fun x => by cases x.1)
      go_wp2
      go_ret
      exact ⟨rfl, B3.out⟩
    · obtain rfl : b = f := by
        cases f
        · exact bool_no HG.out (fun x => by cases x.2)
        · exact HG.out.2 ⟨rfl, rfl⟩
      go_wp2
      go_ret
      exact ⟨rfl, B3.out⟩

set_option maxRecDepth 100000 in
set_option maxHeartbeats 1000000 in
theorem implIno_other (kd : Int) (h : 0 ≤ gn ∧ gn ≤ 65535) (h0 : ¬ kd = 0) (h1 : ¬ kd = 1) (h2 : ¬ kd = 2) :
    Calls Tryz.prog 61 #[.agg #[.int .i64 kd, .int .i64 sz, .int .i64 gn, .string key, .slice aR nR cR, .slice aE nE cE]] w (SaysB false w) := by
  have H0 := Lib.hid h
  have K0 := Lib.hid (Bk.alloc w (inoCs kd sz gn key aR nR cR aE nE cE) 57)
  have B0 := Lib.hid (below_bk w (inoObj kd sz gn key aR nR cR aE nE cE))
  have HC : Hid (∀ W : World, Calls Tryz.prog 64 #[.agg #[.int .i64 kd, .int .i64 sz, .int .i64 gn, .string key, .slice aR nR cR, .slice aE nE cE]] W fun e w' => e = .returned (.nilIface) ∧ Below W.heap.size W w') := Lib.hid (fun W => by have h9 := implBody_any kd sz gn key aR nR cR aE nE cE W; unfold bodyV at h9; rw [if_neg h0, if_neg h1, if_neg h2] at h9; exact h9)
  clear h h0 h1 h2
  go_enter Tryz.func61, Tryz.ntmps61
  go_upto_region 3 with ((with_reducible refine (implIn_yes _ H0.out).mono ?_); rintro e w1 ⟨rfl, rfl⟩)
  go_cut [3] (fun v wx => v = .bool (noFileB sz key nR) ∧ wx = w.alloc (inoObj kd sz gn key aR nR cR aE nE cE))
  case first =>
    rcases noFile_cases sz key nR with ⟨rfl, rfl, rfl⟩ | ⟨rfl, rfl, h3⟩ | ⟨rfl, h3⟩ | h3
    · go_wp2_with fail
      go_meet
      exact ⟨rfl, rfl⟩
    · have e3 : ((nR : Int) == 0) = false := by simp; omega
      have HF9 : Hid (noFileB 0 ⟨#[]⟩ nR = false) := Lib.hid (decide_eq_false (fun x => by omega))
      go_wp2_with fail
      go_meet
      exact ⟨by rw [HF9.out], rfl⟩
    · have e4 : (key.toList == []) = false := text_full key (by omega)
      have HF9 : Hid (noFileB 0 key nR = false) := Lib.hid (decide_eq_false (fun x => by omega))
      go_wp2_with fail
      go_meet
      exact ⟨by rw [HF9.out], rfl⟩
    · have e4 : (sz == 0) = false := by simpa using h3
      have HF9 : Hid (noFileB sz key nR = false) := Lib.hid (decide_eq_false (fun x => h3 x.1))
      clear h3
      go_wp2_with fail
      go_meet
      exact ⟨by rw [HF9.out], rfl⟩
  case rest =>
    obtain ⟨rfl, rfl⟩ := hcut
    go_wp2_with fail
    refine (HC.out _).mono ?_
    rintro e w1 ⟨rfl, hb1⟩
    have B1 : Hid (Below w.heap.size w w1) := Lib.hid (B0.out.trans (hb1.mono B0.out.size))
    clear hb1
    have a1 := nil_no_file w1
    have a2 := nil_no_dir w1
    have a3 := nil_no_free w1
    go_wp2
    go_ret
    exact ⟨rfl, B1.out⟩
end

theorem implIno_any (kd sz gn : Int) (key : ByteArray) (aR : Option Addr) (nR cR : Nat) (aE : Option Addr) (nE cE : Nat) (w : World) (R : List RecR) (E : List EntryR)
    (hz : -9223372036854775808 ≤ sz ∧ sz ≤ 9223372036854775807) (hn : nE ≤ 9223372036854775807) (hs : SrcRec w aR nR R) (hf : FitRec R nR 2000000) (hs' : SrcEntry w aE nE E) (hf' : FitEntry E nE 2000000) :
    Calls Tryz.prog 61 #[.agg #[.int .i64 kd, .int .i64 sz, .int .i64 gn, .string key, .slice aR nR cR, .slice aE nE cE]] w (SaysB (inoB ⟨kd, sz, gn, key, R, E⟩) w) := by
  have hlR : R.length = nR := hs.len
  have hlE : E.length = nE := hs'.len
  by_cases hg : 0 ≤ gn ∧ gn ≤ 65535
  · by_cases h0 : kd = 0
    · subst h0
      exact implIno_free sz gn key aR nR cR aE nE cE w hg _ (by rw [inoB_iff, inoOk_free hg]; subst hlR hlE; simp [noFileB, and_assoc])
    · by_cases h1 : kd = 1
      · subst h1
        exact implIno_file sz gn key aR nR cR aE nE cE w hg R hz hs hf _ (by
          rw [inoB_iff, inoOk_file hg]
          subst hlR hlE
          exact ⟨fun x => ⟨⟨x.1, x.2.1, x.2.2.1, x.2.2.2.2⟩, x.2.2.2.1⟩, fun x => ⟨x.1.1, x.1.2.1, x.1.2.2.1, x.2, x.1.2.2.2⟩⟩)
      · by_cases h2 : kd = 2
        · subst h2
          exact implIno_dir sz gn key aR nR cR aE nE cE w hg E hn hs' hf' _ (by
            rw [inoB_iff, inoOk_dir hg]
            subst hlR hlE
            simp only [noFileB, decide_eq_true_eq]
            exact ⟨fun x => ⟨⟨x.2.2.2.1, x.2.2.2.2⟩, x.1, x.2.1, x.2.2.1⟩, fun x => ⟨x.2.1, x.2.2.1, x.2.2.2, x.1.1, x.1.2⟩⟩)
        · rw [inoB_no (fun x => by
            rcases x with ⟨_, ⟨e, _⟩ | ⟨e, _⟩ | ⟨e, _⟩⟩
            · exact h0 e
            · exact h1 e
            · exact h2 e)]
          exact implIno_other sz gn key aR nR cR aE nE cE w kd hg h0 h1 h2
  · rw [inoB_no (fun x => hg x.1)]
    exact implIno_gen sz gn key aR nR cR aE nE cE w kd hg
end Go.Proofs.YtmkchilhnmkhkabGreat
namespace Go.Proofs.YtmkchilhnmkhkabGreat
open Go.RowKit Go.Proofs.YtmkchilhnmkhkabGreat.Parts Go.Proofs.YtmkchilhnmkhkabGreat.Hexa

set_option maxRecDepth 100000 in
set_option maxHeartbeats 1000000 in
theorem implStOk_any (a : Option Addr) (n c : Nat) (zs : List Int) (p : Int) (w : World) (hs : SrcI w a n zs) (hn : n ≤ 2000000) :
    Calls Tryz.prog 54 #[.slice a n c, .int .i64 p] w fun e w' => e = .returned (.bool (stB zs p)) ∧ w' = w := by
  have HS := Lib.hid hs
  have HL := Lib.hid hs.len
  clear hs
  by_cases he : (n : Int) = p
  · subst he
    have e1 : ((n : Int) != (n : Int)) = false := by simp
    by_cases h : 1 ≤ (n : Int) ∧ (n : Int) ≤ 12
    · have HP := Lib.hid h
      go_enter Tryz.func54, Tryz.ntmps54
      go_wp2_with fail
      refine (implIn_yes _ h).mono ?_
      rintro e w1 ⟨rfl, rfl⟩
      clear h
      go_wp2
      go_loop [18] (fun iv => ∃ k : Nat, k ≤ n ∧ iv = .int .i64 k ∧ Hid (StR zs k)) (fun iv => n - (intOf iv).toNat)
      case atStart => exact ⟨0, Nat.zero_le _, rfl, Lib.hid (fun j hj => by omega)⟩
      case round =>
        obtain ⟨k, hk, rfl, HR⟩ := hrel
        by_cases hlt : k < n
        · obtain ⟨g, off, rfl, _, d⟩ := HS.out.cell k hlt
          obtain ⟨x, hx⟩ : ∃ x, zs.getD k 0 = x := ⟨_, rfl⟩
          rw [hx] at d
          have HX := Lib.hid hx
          clear hx
          by_cases h : 0 ≤ x ∧ x ≤ 2
          · have HR2 : Hid (StR zs (k + 1)) := Lib.hid (fun j hj => by
              by_cases e : j = k
              · subst e; rw [HX.out]; exact h
              · exact HR.out j (by omega))
            go_wp2_with fail
            refine (implIn_yes _ h).mono ?_
            rintro e w1 ⟨rfl, rfl⟩
            clear h
            go_wp2
            go_round
            case rel => exact ⟨k + 1, by omega, by go_num, HR2⟩
            case measure => (simp [intOf]; try omega)
          · have HN := Lib.hid (stB_no (zs := zs) (p := (n : Int)) (fun h9 => h (by rw [← HX.out]; exact h9.1 k (by have := HL.out; omega))))
            go_wp2_with fail
            refine (implIn_no _ h).mono ?_
            rintro e w1 ⟨rfl, rfl⟩
            clear h
            go_wp2
            go_ret
            exact ⟨by rw [HN.out]; rfl, rfl⟩
        · obtain rfl : n = k := by omega
          have HN := Lib.hid (stB_yes (zs := zs) (p := (n : Int)) ⟨by rw [HL.out]; exact HR.out, by rw [HL.out], HP.out⟩)
          go_wp2
          go_ret
          exact ⟨by rw [HN.out]; rfl, rfl⟩
    · have HN := Lib.hid (stB_no (zs := zs) (p := (n : Int)) (fun h9 => h h9.2.2))
      go_enter Tryz.func54, Tryz.ntmps54
      go_wp2_with fail
      refine (implIn_no _ h).mono ?_
      rintro e w1 ⟨rfl, rfl⟩
      clear h
      go_wp2
      go_ret
      exact ⟨by rw [HN.out]; rfl, rfl⟩
  · have HN := Lib.hid (stB_no (zs := zs) (p := p) (fun h9 => he (by rw [← h9.2.1, HL.out])))
    have e1 : ((n : Int) != p) = true := by simpa using he
    clear he
    go_enter Tryz.func54, Tryz.ntmps54
    go_wp2
    go_ret
    exact ⟨by rw [HN.out]; rfl, rfl⟩

set_option maxRecDepth 100000 in
set_option maxHeartbeats 1000000 in
theorem implPagesWith_any (a : Option Addr) (n c : Nat) (zs : List Int) (s : Int) (w : World) (hs : SrcI w a n zs) (hn : n ≤ 2000000) :
    Calls Tryz.prog 58 #[.slice a n c, .int .i64 s] w (GivesI (withSt zs s n) w) := by
  obtain ⟨i0, hi, hz0, hz1, hz2⟩ := info_parts infoInt
  have HS := Lib.hid hs
  clear hs
  go_enter Tryz.func58, Tryz.ntmps58
  go_wp2
  go_loopw [5, 10] (fun v iv wr => ∃ (k : Nat) (P : List Int), k ≤ n ∧ iv = .int .i64 k ∧ Hid (P = withSt zs s k) ∧ Hid (wr.ownsRow w.heap.size 3 1 v P.length (icells P)) ∧ Hid (Below w.heap.size w wr)) (fun _ iv _ => n - (intOf iv).toNat)
  case atStart => exact ⟨0, [], Nat.zero_le _, rfl, Lib.hid rfl, Lib.hid (World.ownsRow_nil _ _ _ 1), Lib.hid (Below.refl _ _)⟩
  case round =>
    obtain ⟨k, P, hk, rfl, HP, HO, HB⟩ := hrel
    by_cases hlt : k < n
    · obtain ⟨g, off, rfl, _, d⟩ := (HS.out.later HB.out).cell k hlt
      obtain ⟨x, hx⟩ : ∃ x, zs.getD k 0 = x := ⟨_, rfl⟩
      rw [hx] at d
      have hpl : P.length ≤ 2000000 := by rw [HP.out]; have := withSt_len zs s k; omega
      have hsz := HB.out.size
      by_cases h : x = s
      · subst h
        have HE := Lib.hid (withSt_yes (zs := zs) (s := x) hx)
        clear hx
        go_wp2_with (at_builtin; refine wpList_append_own _ rfl (.tmp 18) (.tmp 20) 24 rfl w.heap.size 3 i0 (.int .i64 0) 1 8 Tryz.underlying24 hi hz0 hz1 hz2 rfl (by decide) _ _ _ rfl (HO.out.alloc _) ⟨wr.heap.size, 0, none⟩ 1 1 [.int .i64 k] rfl rfl (World.news_of_block (heap_alloc_new _ _)) (by simp [Value.oneCell']) (by unfold maxLen; omega) (by omega) (by simp; omega) ?_; intro v2 w2 hown2 hgrow2 hn2)
        have HB2 : Hid (Below w.heap.size w w2) := Lib.hid ((HB.out.alloc hsz _).grown hgrow2 (by simp; omega) (fun k e => (HO.out.lt k e).1))
        have HO2 : Hid (w2.ownsRow w.heap.size 3 1 v2 (P ++ [(k : Int)]).length (icells (P ++ [(k : Int)]))) := Lib.hid (by simpa [icells, List.length_append] using hown2)
        clear hown2 hgrow2 hn2 HO HB d
        go_wp2
        go_roundw
        case rel => exact ⟨k + 1, P ++ [(k : Int)], by omega, by go_num, Lib.hid (by rw [HP.out]; exact HE.out.symm), HO2, HB2⟩
        case measure => (simp [intOf]; try omega)
      · have HE := Lib.hid (withSt_no (zs := zs) (s := s) (n := k) (by rw [hx]; exact h))
        have e1 : (x == s) = false := by simpa using h
        clear hx h
        go_wp2
        go_roundw
        case rel => exact ⟨k + 1, P, by omega, by go_num, Lib.hid (by rw [HP.out]; exact HE.out.symm), HO, HB⟩
        case measure => (simp [intOf]; try omega)
    · obtain rfl : n = k := by omega
      go_wp2
      go_ret
      exact ⟨_, rfl, by rw [← HP.out]; exact HO.out, HB.out⟩
end Go.Proofs.YtmkchilhnmkhkabGreat
namespace Go.Proofs.YtmkchilhnmkhkabGreat
open Go.RowKit

set_option maxRecDepth 100000 in
set_option maxHeartbeats 400000 in
theorem implIdx_any (n b : Int) (w : World) : Calls Tryz.prog 52 #[.int .i64 n, .int .i64 b] w fun e w' => e = .returned (.bool (decide (0 ≤ n ∧ n < b))) ∧ w' = w := by
  by_cases h1 : 0 ≤ n <;> by_cases h2 : n < b
  all_goals
    go_enter Tryz.func52, Tryz.ntmps52
    go_wp2
    all_goals go_ret
    all_goals exact ⟨by simp [h1, h2], rfl⟩
theorem implIdx_yes {n b : Int} (w : World) (h : 0 ≤ n ∧ n < b) : Calls Tryz.prog 52 #[.int .i64 n, .int .i64 b] w fun e w' => e = .returned (.bool true) ∧ w' = w :=
  (implIdx_any n b w).mono fun _ _ ⟨he, hw⟩ => ⟨by rw [he, decide_eq_true h], hw⟩
theorem implIdx_no {n b : Int} (w : World) (h : ¬ (0 ≤ n ∧ n < b)) : Calls Tryz.prog 52 #[.int .i64 n, .int .i64 b] w fun e w' => e = .returned (.bool false) ∧ w' = w :=
  (implIdx_any n b w).mono fun _ _ ⟨he, hw⟩ => ⟨by rw [he, decide_eq_false h], hw⟩
end Go.Proofs.YtmkchilhnmkhkabGreat
namespace Go.Proofs.YtmkchilhnmkhkabGreat
open Go.RowKit Go.Proofs.YtmkchilhnmkhkabGreat.Parts Go.Proofs.YtmkchilhnmkhkabGreat.Hexa Go.Proofs.YtmkchilhnmkhkabGreat.Byt

theorem ret_boolk {a b : Bool} (h : a = b) : Ending.returned (.bool a) = .returned (.bool b) := by rw [h]
theorem inoR_eta (x : InoR) : (⟨x.kd, x.sz, x.gn, x.key, x.R, x.E⟩ : InoR) = x := rfl

set_option maxRecDepth 100000 in
set_option maxHeartbeats 2000000 in
theorem implInos_any (p : PartR) (a1 : Option Addr) (c1 : Nat) (a2 : Option Addr) (c2 : Nat) (w : World) (h2 : (celRow cIno p.ino).Rd w (.slice a2 p.ino.length c2)) (hz : szL (cPart.cels p) ≤ 1048576) (ht : TyL (celsE cIno p.ino)) :
    Calls Tryz.prog 55 #[.agg #[.int .i64 p.ser, .slice a1 p.st.length c1, .slice a2 p.ino.length c2]] w (SaysB (decB (InosR p.ino)) w) := by
  have B0 := Lib.hid (below_bk w (.cells #[.int .i64 p.ser, .slice a1 p.st.length c1, .slice a2 p.ino.length c2] 35))
  have HS := Lib.hid h2
  obtain ⟨hn, hin⟩ := part_ino hz
  have HN := Lib.hid hin
  have HT := Lib.hid ht
  clear h2 hz ht hin
  go_enter Tryz.func55, Tryz.ntmps55
  go_wp2
  go_loopw [8] (fun kv wr => ∃ (k : Nat), k ≤ p.ino.length ∧ kv = .int .i64 k ∧ Hid (∀ j, j < k → InoOk (p.ino.getD j default)) ∧ Below w.heap.size w wr) (fun kv _ => p.ino.length - (intOf kv).toNat)
  case atStart => exact ⟨0, Nat.zero_le _, rfl, Lib.hid (fun j hj => by omega), B0.out⟩
  case round =>
    obtain ⟨k, hk, rfl, HM, hbel⟩ := hrel
    by_cases hlt : k < p.ino.length
    · have HF := Lib.hid (ino_fits (HN.out k hlt) (TyL_at cIno p.ino k HT.out hlt))
      have HB : Hid (¬ InoOk (p.ino.getD k default) → ¬ InosR p.ino) := Lib.hid (fun h h9 => h (h9 k hlt))
      have HG : Hid (InoOk (p.ino.getD k default) → ∀ j, j < k + 1 → InoOk (p.ino.getD j default)) := Lib.hid (fun h j hj => by
        by_cases e : j = k
        · rw [e]; exact h
        · exact HM.out j (by omega))
      obtain ⟨g, off, a4, c4, a5, c5, rfl, hg, d0, d1, d2, d3, d4, d5, r4, r5⟩ := cIno_at (Cel.Rd.later hbel _ _ HS.out) k hlt
      obtain ⟨x, hx⟩ : ∃ x, p.ino.getD k default = x := ⟨_, rfl⟩
      rw [hx] at d0 d1 d2 d3 d4 d5 r4 r5 HF HB HG
      clear hx
      have hbx := below_bk wr (.cells #[.int .i64 x.kd, .int .i64 x.sz, .int .i64 x.gn, .string x.key, .slice a4 x.R.length c4, .slice a5 x.E.length c5] 57)
      have T2 := Lib.hid (Bk.alloc wr #[.int .i64 x.kd, .int .i64 x.sz, .int .i64 x.gn, .string x.key, .slice a4 x.R.length c4, .slice a5 x.E.length c5] 57)
      have R4 := Lib.hid (Cel.Rd.later hbx _ _ r4)
      have R5 := Lib.hid (Cel.Rd.later hbx _ _ r5)
      have B2 : Hid (Below w.heap.size w (wr.alloc (.cells #[.int .i64 x.kd, .int .i64 x.sz, .int .i64 x.gn, .string x.key, .slice a4 x.R.length c4, .slice a5 x.E.length c5] 57))) := Lib.hid (hbel.trans (hbx.mono hbel.size))
      clear hbx r4 r5
      have t0 := T2.out.cell (j := 0) rfl
      have t1 := T2.out.cell (j := 1) rfl
      have t2 := T2.out.cell (j := 2) rfl
      have t3 := T2.out.cell (j := 3) rfl
      have t4 := T2.out.cell (j := 4) rfl
      have t5 := T2.out.cell (j := 5) rfl
      go_wp2_with fail
      refine (implIno_any x.kd x.sz x.gn x.key a4 x.R.length c4 a5 x.E.length c5 _ x.R x.E HF.out.1 (by have := HF.out.2.2.1; omega) (srcRec_of_rd R4.out) HF.out.2.2.2.1 (srcEntry_of_rd R5.out) HF.out.2.2.2.2).mono ?_
      rw [inoR_eta]
      rintro e w2 ⟨rfl, hb⟩
      have B3 : Below w.heap.size w w2 := B2.out.trans (hb.mono B2.out.size)
      clear hb d0 d1 d2 d3 d4 d5 t0 t1 t2 t3 t4 t5
      by_cases hq : InoOk x
      · have HC := Lib.hid (HG.out hq)
        rw [inoB_yes hq]
        clear hq
        go_wp2
        go_roundw
        case rel => exact ⟨k + 1, by omega, by go_num, HC, B3⟩
        case measure => (simp [intOf]; try omega)
      · have HC := Lib.hid (decB_no (HB.out hq))
        rw [inoB_no hq]
        clear hq
        go_wp2
        go_ret
        exact ⟨ret_boolk HC.out.symm, B3⟩
    · obtain rfl : k = p.ino.length := by omega
      have HC := Lib.hid (decB_yes (q := InosR p.ino) HM.out)
      go_wp2
      go_ret
      exact ⟨ret_boolk HC.out.symm, hbel⟩

set_option maxRecDepth 100000 in
set_option maxHeartbeats 2000000 in
theorem implPlace_any (p : PartR) (a1 : Option Addr) (c1 : Nat) (a2 : Option Addr) (c2 : Nat) (i : Nat) (x : InoR) (a4 : Option Addr) (c4 : Nat) (a5 : Option Addr) (c5 : Nat) (w : World) (h2 : (celRow cIno p.ino).Rd w (.slice a2 p.ino.length c2)) (hz : szL (cPart.cels p) ≤ 100000000) (hi : i ≤ 100000000) :
    Calls Tryz.prog 86 #[.agg #[.int .i64 p.ser, .slice a1 p.st.length c1, .slice a2 p.ino.length c2], .int .i64 i, .agg #[.int .i64 x.kd, .int .i64 x.sz, .int .i64 x.gn, .string x.key, .slice a4 x.R.length c4, .slice a5 x.E.length c5]] w (SaysB (decB (PlaceR p.ino i x.kd)) w) := by
  have hb1 := below_bk w (.cells #[.int .i64 p.ser, .slice a1 p.st.length c1, .slice a2 p.ino.length c2] 35)
  have hb2 := below_bk (w.alloc (.cells #[.int .i64 p.ser, .slice a1 p.st.length c1, .slice a2 p.ino.length c2] 35)) (.cells #[.int .i64 x.kd, .int .i64 x.sz, .int .i64 x.gn, .string x.key, .slice a4 x.R.length c4, .slice a5 x.E.length c5] 57)
  have B0 := Lib.hid (hb1.trans (hb2.mono hb1.size))
  have T0 := Lib.hid ((Bk.alloc w #[.int .i64 p.ser, .slice a1 p.st.length c1, .slice a2 p.ino.length c2] 35).later hb2)
  have X0 : Hid (Bk ((w.alloc (.cells #[.int .i64 p.ser, .slice a1 p.st.length c1, .slice a2 p.ino.length c2] 35)).alloc (.cells #[.int .i64 x.kd, .int .i64 x.sz, .int .i64 x.gn, .string x.key, .slice a4 x.R.length c4, .slice a5 x.E.length c5] 57)) (w.heap.size + 1) #[.int .i64 x.kd, .int .i64 x.sz, .int .i64 x.gn, .string x.key, .slice a4 x.R.length c4, .slice a5 x.E.length c5] 57) := Lib.hid (by
    have h := Bk.alloc (w.alloc (.cells #[.int .i64 p.ser, .slice a1 p.st.length c1, .slice a2 p.ino.length c2] 35)) #[.int .i64 x.kd, .int .i64 x.sz, .int .i64 x.gn, .string x.key, .slice a4 x.R.length c4, .slice a5 x.E.length c5] 57
    simpa using h)
  have HS := Lib.hid h2
  have HZ := Lib.hid hz
  clear h2 hz hb1 hb2
  obtain ⟨m, hm⟩ : ∃ m, cntI (entsOf p.ino) i = m := ⟨_, rfl⟩
  have HM := Lib.hid hm
  clear hm
  have t0 := T0.out.cell (j := 0) rfl
  have t1 := T0.out.cell (j := 1) rfl
  have t2 := T0.out.cell (j := 2) rfl
  go_enter Tryz.func86, Tryz.ntmps86
  go_wp2_with fail
  refine (implLinks_any p a1 c1 a2 c2 i _ (Cel.Rd.later B0.out _ _ HS.out) HZ.out).mono ?_
  rw [HM.out]
  rintro e w1 ⟨rfl, hb⟩
  have B1 : Hid (Below w.heap.size w w1) := Lib.hid (B0.out.trans (hb.mono B0.out.size))
  have T1 := Lib.hid (T0.out.later hb)
  have X1 := Lib.hid (X0.out.later hb)
  clear t0 t1 t2 hb
  have x0 := X1.out.cell (j := 0) rfl
  have t0 := T1.out.cell (j := 0) rfl
  have t1 := T1.out.cell (j := 1) rfl
  have t2 := T1.out.cell (j := 2) rfl
  obtain ⟨kd, hkd⟩ : ∃ y, x.kd = y := ⟨_, rfl⟩
  have HP : Hid (PlaceR p.ino i x.kd ↔ ((i = 0 → kd = 2 ∧ m = 0) ∧ (i ≠ 0 → (kd = 0 → m = 0) ∧ (kd ≠ 0 → m = 1 ∧ depthZ p.ino i ≠ -1)))) := Lib.hid (by unfold PlaceR; rw [HM.out, hkd])
  rw [hkd] at x0
  clear hkd
  by_cases hi0 : i = 0
  · subst hi0
    by_cases h9 : kd = 2
    · subst h9
      by_cases h8 : m = 0
      · subst h8
        have HC := Lib.hid (decB_yes (HP.out.2 ⟨fun _ => ⟨rfl, rfl⟩, fun h => absurd rfl h⟩))
        go_wp2
        go_ret
        exact ⟨ret_boolk HC.out.symm, B1.out⟩
      · have HC := Lib.hid (decB_no (fun h => h8 ((HP.out.1 h).1 rfl).2))
        go_wp2
        go_ret
        exact ⟨ret_boolk (by rw [HC.out]; simpa using h8), B1.out⟩
    · have HC := Lib.hid (decB_no (fun h => h9 ((HP.out.1 h).1 rfl).1))
      go_wp2
      go_ret
      exact ⟨ret_boolk HC.out.symm, B1.out⟩
  · by_cases h9 : kd = 0
    · subst h9
      by_cases h8 : m = 0
      · subst h8
        have HC := Lib.hid (decB_yes (HP.out.2 ⟨fun h => absurd h hi0, fun _ => ⟨fun _ => rfl, fun h => absurd rfl h⟩⟩))
        go_wp2
        go_ret
        exact ⟨ret_boolk HC.out.symm, B1.out⟩
      · have HC := Lib.hid (decB_no (fun h => h8 (((HP.out.1 h).2 hi0).1 rfl)))
        go_wp2
        go_ret
        exact ⟨ret_boolk (by rw [HC.out]; simpa using h8), B1.out⟩
    · by_cases h8 : m = 1
      · subst h8
        obtain ⟨d, hd⟩ : ∃ d, depthZ p.ino i = d := ⟨_, rfl⟩
        have HD := Lib.hid hd
        clear hd
        go_wp2_with fail
        refine (implDepth_any p a1 c1 a2 c2 i _ (Cel.Rd.later B1.out _ _ HS.out) HZ.out).mono ?_
        rw [HD.out]
        rintro e w2 ⟨rfl, hb⟩
        have B2 : Below w.heap.size w w2 := B1.out.trans (hb.mono B1.out.size)
        clear hb t0 t1 t2 x0
        by_cases h7 : d = -1
        · have HC := Lib.hid (decB_no (fun h => (((HP.out.1 h).2 hi0).2 h9).2 (HD.out.trans h7)))
          go_wp2
          go_ret
          exact ⟨ret_boolk HC.out.symm, B2⟩
        · have HC := Lib.hid (decB_yes (HP.out.2 ⟨fun h => absurd h hi0, fun _ => ⟨fun h => absurd h h9, fun _ => ⟨by first | rfl | trivial, fun e => h7 (HD.out.symm.trans e)⟩⟩⟩))
          have h7' : (d != -1) = true := by simpa using h7
          go_wp2
          go_ret
          exact ⟨ret_boolk HC.out.symm, B2⟩
      · have HC := Lib.hid (decB_no (fun h => h8 (((HP.out.1 h).2 hi0).2 h9).1))
        have h8' : ¬ ((m : Int) = 1) := by omega
        go_wp2
        go_ret
        exact ⟨ret_boolk HC.out.symm, B1.out⟩
end Go.Proofs.YtmkchilhnmkhkabGreat
namespace Go.Proofs.YtmkchilhnmkhkabGreat
open Go.RowKit Go.Proofs.YtmkchilhnmkhkabGreat.Parts Go.Proofs.YtmkchilhnmkhkabGreat.Hexa Go.Proofs.YtmkchilhnmkhkabGreat.Byt

set_option maxRecDepth 100000 in
set_option maxHeartbeats 4000000 in
theorem implLinksOk_any (p : PartR) (a1 : Option Addr) (c1 : Nat) (a2 : Option Addr) (c2 : Nat) (w : World) (h2 : (celRow cIno p.ino).Rd w (.slice a2 p.ino.length c2)) (hz : szL (cPart.cels p) ≤ 1048576) (_ : TyL (celsE cIno p.ino)) :
    Calls Tryz.prog 56 #[.agg #[.int .i64 p.ser, .slice a1 p.st.length c1, .slice a2 p.ino.length c2]] w (SaysB (decB (LinksR p.ino)) w) := by
  have B0 := Lib.hid (below_bk w (.cells #[.int .i64 p.ser, .slice a1 p.st.length c1, .slice a2 p.ino.length c2] 35))
  have T0 := Lib.hid (Bk.alloc w #[.int .i64 p.ser, .slice a1 p.st.length c1, .slice a2 p.ino.length c2] 35)
  have HS := Lib.hid h2
  have hn := (part_ino hz).1
  have HZ : Hid (szL (cPart.cels p) ≤ 100000000) := Lib.hid (by omega)
  have hl : (entsOf p.ino).length ≤ 100000000 := by have h9 := ents_len p.ino; have h8 := HZ.out; rw [cPart_sz] at h8; have := sz_row' cIno p.ino; omega
  clear h2 hz
  have t0 := T0.out.cell (j := 0) rfl
  have t1 := T0.out.cell (j := 1) rfl
  have t2 := T0.out.cell (j := 2) rfl
  go_enter Tryz.func56, Tryz.ntmps56
  go_wp2_with fail
  refine (implEnts_any p a1 c1 a2 c2 _ (Cel.Rd.later B0.out _ _ HS.out) HZ.out).mono ?_
  rintro e w1 ⟨v, rfl, ho, hb⟩
  have B1 : Hid (Below w.heap.size w w1) := Lib.hid (B0.out.trans (hb.mono B0.out.size))
  have T1 := Lib.hid (T0.out.later hb)
  obtain ⟨a, c, rfl, _⟩ := ownE_form ho
  have HR := Lib.hid (srcEntry_of_own ho)
  obtain ⟨M, hM⟩ : ∃ M, entsOf p.ino = M := ⟨_, rfl⟩
  rw [hM] at HR hl ⊢
  have HEQ := Lib.hid hM
  clear ho hb t0 t1 t2 hM
  go_wp2
  go_loopw [10] (fun kv wr => ∃ (k : Nat), k ≤ M.length ∧ kv = .int .i64 k ∧ Hid (∀ j, j < k → 0 ≤ (M.getD j default).f0 ∧ (M.getD j default).f0 < (p.ino.length : Int)) ∧ Below w.heap.size w wr ∧ Below w1.heap.size w1 wr) (fun kv _ => M.length - (intOf kv).toNat)
  case atStart => exact ⟨0, Nat.zero_le _, rfl, Lib.hid (fun j hj => by omega), B1.out, Below.refl _ _⟩
  case round =>
    obtain ⟨k, hk, rfl, HM, hbel, hbl1⟩ := hrel
    have HTw := Lib.hid (T1.out.later hbl1)
    by_cases hlt : k < M.length
    · have HB : Hid (¬ (0 ≤ (M.getD k default).f0 ∧ (M.getD k default).f0 < (p.ino.length : Int)) → ¬ LinksR p.ino) := Lib.hid (fun h h9 => h (h9.1 _ (by rw [HEQ.out]; exact getD_mem hlt)))
      have HG : Hid ((0 ≤ (M.getD k default).f0 ∧ (M.getD k default).f0 < (p.ino.length : Int)) → ∀ j, j < k + 1 → 0 ≤ (M.getD j default).f0 ∧ (M.getD j default).f0 < (p.ino.length : Int)) := Lib.hid (fun h j hj => by
        by_cases e : j = k
        · rw [e]; exact h
        · exact HM.out j (by omega))
      obtain ⟨g, off, rfl, hg, d0, d1⟩ := srcEntry_later HR.out hbl1 (Nat.le_refl _) k hlt
      obtain ⟨x, hx⟩ : ∃ x, M.getD k default = x := ⟨_, rfl⟩
      rw [hx] at d0 d1 HB HG
      clear hx
      have hbx := below_bk wr (.cells #[.int .i64 x.f0, .string x.f1] 77)
      have B2 : Hid (Below w.heap.size w (wr.alloc (.cells #[.int .i64 x.f0, .string x.f1] 77))) := Lib.hid (hbel.trans (hbx.mono hbel.size))
      have C2 : Hid (Below w1.heap.size w1 (wr.alloc (.cells #[.int .i64 x.f0, .string x.f1] 77))) := Lib.hid (hbl1.trans (hbx.mono hbl1.size))
      have t2 := (HTw.out.later hbx).cell (j := 2) rfl
      have e0 := (Bk.alloc wr #[.int .i64 x.f0, .string x.f1] 77).cell (j := 0) rfl
      clear hbx
      by_cases hq : 0 ≤ x.f0 ∧ x.f0 < (p.ino.length : Int)
      · have HC := Lib.hid (HG.out hq)
        have HQ := Lib.hid hq
        clear hq
        go_wp2_with fail
        refine (implIdx_yes _ HQ.out).mono ?_
        rintro e w2 ⟨rfl, rfl⟩
        clear d0 d1 t2 e0
        go_wp2
        go_roundw
        case rel => exact ⟨k + 1, by omega, by go_num, HC, B2.out, C2.out⟩
        case measure => (simp [intOf]; try omega)
      · have HC := Lib.hid (decB_no (HB.out hq))
        have HQ := Lib.hid hq
        clear hq
        go_wp2_with fail
        refine (implIdx_no _ HQ.out).mono ?_
        rintro e w2 ⟨rfl, rfl⟩
        clear d0 d1 t2 e0
        go_wp2
        go_ret
        exact ⟨ret_boolk HC.out.symm, B2.out⟩
    · obtain rfl : k = M.length := by omega
      have HE : Hid (EntsR p.ino) := Lib.hid (fun e he => by
        rw [HEQ.out] at he
        obtain ⟨j, hj, rfl⟩ := mem_getD he
        exact HM.out j hj)
      have t2 := HTw.out.cell (j := 2) rfl
      clear HM
      go_wp2
      clear t2
      go_loopw [25] (fun kv wq => ∃ (k : Nat), k ≤ p.ino.length ∧ kv = .int .i64 k ∧ Hid (∀ j, j < k → PlaceR p.ino j (p.ino.getD j default).kd) ∧ Below w.heap.size w wq ∧ Hid (Bk wq w.heap.size #[.int .i64 p.ser, .slice a1 p.st.length c1, .slice a2 p.ino.length c2] 35)) (fun kv _ => p.ino.length - (intOf kv).toNat)
      case atStart => exact ⟨0, Nat.zero_le _, rfl, Lib.hid (fun j hj => by omega), hbel, HTw⟩
      case round =>
        clear HTw hbel hbl1
        obtain ⟨i, hi, rfl, HM, hbel, HT2⟩ := hrel
        by_cases hit : i < p.ino.length
        · have HB : Hid (¬ PlaceR p.ino i (p.ino.getD i default).kd → ¬ LinksR p.ino) := Lib.hid (fun h h9 => h (h9.2 i hit))
          have HG : Hid (PlaceR p.ino i (p.ino.getD i default).kd → ∀ j, j < i + 1 → PlaceR p.ino j (p.ino.getD j default).kd) := Lib.hid (fun h j hj => by
            by_cases e : j = i
            · rw [e]; exact h
            · exact HM.out j (by omega))
          obtain ⟨g, off, a4, c4, a5, c5, rfl, hg, d0, d1, d2, d3, d4, d5, r4, r5⟩ := cIno_at (Cel.Rd.later hbel _ _ HS.out) i hit
          obtain ⟨x, hx⟩ : ∃ x, p.ino.getD i default = x := ⟨_, rfl⟩
          rw [hx] at d0 d1 d2 d3 d4 d5 HB HG
          clear hx r4 r5
          have hbx := below_bk wr (.cells #[.int .i64 x.kd, .int .i64 x.sz, .int .i64 x.gn, .string x.key, .slice a4 x.R.length c4, .slice a5 x.E.length c5] 57)
          have X2 := Lib.hid (Bk.alloc wr #[.int .i64 x.kd, .int .i64 x.sz, .int .i64 x.gn, .string x.key, .slice a4 x.R.length c4, .slice a5 x.E.length c5] 57)
          have T3 := Lib.hid (HT2.out.later hbx)
          have B2 : Hid (Below w.heap.size w (wr.alloc (.cells #[.int .i64 x.kd, .int .i64 x.sz, .int .i64 x.gn, .string x.key, .slice a4 x.R.length c4, .slice a5 x.E.length c5] 57))) := Lib.hid (hbel.trans (hbx.mono hbel.size))
          clear hbx
          have x0 := X2.out.cell (j := 0) rfl
          have x1 := X2.out.cell (j := 1) rfl
          have x2 := X2.out.cell (j := 2) rfl
          have x3 := X2.out.cell (j := 3) rfl
          have x4 := X2.out.cell (j := 4) rfl
          have x5 := X2.out.cell (j := 5) rfl
          have t0 := T3.out.cell (j := 0) rfl
          have t1 := T3.out.cell (j := 1) rfl
          have t2 := T3.out.cell (j := 2) rfl
          obtain ⟨b, hb⟩ : ∃ b, decB (PlaceR p.ino i x.kd) = b := ⟨_, rfl⟩
          have HBB := Lib.hid hb
          clear hb
          go_wp2_with fail
          refine (implPlace_any p a1 c1 _ c2 i x a4 c4 a5 c5 _ (Cel.Rd.later B2.out _ _ HS.out) HZ.out (by omega)).mono ?_
          rw [HBB.out]
          rintro e w2 ⟨rfl, hb⟩
          have B3 : Below w.heap.size w w2 := B2.out.trans (hb.mono B2.out.size)
          have T4 := Lib.hid (T3.out.later hb)
          clear hb d0 d1 d2 d3 d4 d5 x0 x1 x2 x3 x4 x5 t0 t1 t2
          cases b with
          | true =>
            have HC := Lib.hid (HG.out (decB_iff.1 HBB.out))
            go_wp2
            go_roundw
            case rel => exact ⟨i + 1, by omega, by go_num, HC, B3, T4⟩
            case measure => (simp [intOf]; try omega)
          | false =>
            have HC := Lib.hid (decB_no (HB.out (fun h => by have := decB_yes h; rw [HBB.out] at this; cases this)))
            go_wp2
            go_ret
            exact ⟨ret_boolk HC.out.symm, B3⟩
        · obtain rfl : i = p.ino.length := by omega
          have HC := Lib.hid (decB_yes (q := LinksR p.ino) ⟨HE.out, HM.out⟩)
          go_wp2
          go_ret
          exact ⟨ret_boolk HC.out.symm, hbel⟩

end Go.Proofs.YtmkchilhnmkhkabGreat
namespace Go.Proofs.YtmkchilhnmkhkabGreat
open Go.RowKit Go.Proofs.YtmkchilhnmkhkabGreat.Parts Go.Proofs.YtmkchilhnmkhkabGreat.Hexa Go.Proofs.YtmkchilhnmkhkabGreat.Byt

set_option maxRecDepth 100000 in
set_option maxHeartbeats 4000000 in
theorem implUsersOk_any (p : PartR) (a1 : Option Addr) (c1 : Nat) (a2 : Option Addr) (c2 : Nat) (w : World) (h1 : (celRow cInt p.st).Rd w (.slice a1 p.st.length c1)) (h2 : (celRow cIno p.ino).Rd w (.slice a2 p.ino.length c2)) (hz : szL (cPart.cels p) ≤ 1048576) (ht : TyL (celsE cIno p.ino)) :
    Calls Tryz.prog 57 #[.agg #[.int .i64 p.ser, .slice a1 p.st.length c1, .slice a2 p.ino.length c2]] w (SaysB (decB (UsersR p.ino p.st)) w) := by
  have B0 := Lib.hid (below_bk w (.cells #[.int .i64 p.ser, .slice a1 p.st.length c1, .slice a2 p.ino.length c2] 35))
  have T0 := Lib.hid (Bk.alloc w #[.int .i64 p.ser, .slice a1 p.st.length c1, .slice a2 p.ino.length c2] 35)
  have HS := Lib.hid h2
  have HS1 := Lib.hid h1
  have HZ : Hid (szL (cPart.cels p) ≤ 100000000) := Lib.hid (by omega)
  have hn : p.st.length ≤ 1048576 := by have h9 := hz; rw [cPart_sz, szInts_eq] at h9; omega
  have hl : (recsOf p.ino).length ≤ 100000000 := by have h9 := recs_len p.ino; have h8 := HZ.out; rw [cPart_sz] at h8; have := sz_row' cIno p.ino; omega
  have HTY : Hid (∀ r ∈ recsOf p.ino, -9223372036854775808 ≤ r.f0 ∧ r.f0 ≤ 9223372036854775807) := Lib.hid (fun r hr => by
    obtain ⟨n, hn, _, hr⟩ := mem_recs hr
    obtain ⟨j, hj, rfl⟩ := mem_getD hn
    obtain ⟨q, hq, rfl⟩ := mem_getD hr
    have h9 := TyL_at cIno p.ino j ht hj
    obtain ⟨_, _, _, _, t4, _, _⟩ := h9
    exact (TyL_at cRec _ q t4.2 hq).1)
  clear h1 h2 hz ht
  have t0 := T0.out.cell (j := 0) rfl
  have t1 := T0.out.cell (j := 1) rfl
  have t2 := T0.out.cell (j := 2) rfl
  go_enter Tryz.func57, Tryz.ntmps57
  go_wp2_with fail
  refine (implRecs_any p a1 c1 a2 c2 _ (Cel.Rd.later B0.out _ _ HS.out) HZ.out).mono ?_
  rintro e w1 ⟨v, rfl, ho, hb⟩
  have B1 : Hid (Below w.heap.size w w1) := Lib.hid (B0.out.trans (hb.mono B0.out.size))
  have T1 := Lib.hid (T0.out.later hb)
  obtain ⟨a, c, rfl, _⟩ := ownE_form ho
  have HR := Lib.hid (srcRec_of_own ho)
  obtain ⟨M, hM⟩ : ∃ M, recsOf p.ino = M := ⟨_, rfl⟩
  rw [hM] at HR hl ⊢
  have HEQ := Lib.hid hM
  clear ho hb t0 t1 t2 hM
  go_wp2
  go_loopw [11] (fun kv wr => ∃ (k : Nat), k ≤ M.length ∧ kv = .int .i64 k ∧ Hid (∀ j, j < k → 1 ≤ (M.getD j default).f0 ∧ (M.getD j default).f0 ≤ (p.st.length : Int)) ∧ Below w.heap.size w wr ∧ Below w1.heap.size w1 wr) (fun kv _ => M.length - (intOf kv).toNat)
  case atStart => exact ⟨0, Nat.zero_le _, rfl, Lib.hid (fun j hj => by omega), B1.out, Below.refl _ _⟩
  case round =>
    obtain ⟨k, hk, rfl, HM, hbel, hbl1⟩ := hrel
    have HTw := Lib.hid (T1.out.later hbl1)
    by_cases hlt : k < M.length
    · have HB : Hid (¬ (1 ≤ (M.getD k default).f0 ∧ (M.getD k default).f0 ≤ (p.st.length : Int)) → ¬ UsersR p.ino p.st) := Lib.hid (fun h h9 => h (h9.1 _ (by rw [HEQ.out]; exact getD_mem hlt)))
      have HG : Hid ((1 ≤ (M.getD k default).f0 ∧ (M.getD k default).f0 ≤ (p.st.length : Int)) → ∀ j, j < k + 1 → 1 ≤ (M.getD j default).f0 ∧ (M.getD j default).f0 ≤ (p.st.length : Int)) := Lib.hid (fun h j hj => by
        by_cases e : j = k
        · rw [e]; exact h
        · exact HM.out j (by omega))
      obtain ⟨g, off, rfl, hg, d0, d1, d2⟩ := srcRec_later HR.out hbl1 (Nat.le_refl _) k hlt
      obtain ⟨x, hx⟩ : ∃ x, M.getD k default = x := ⟨_, rfl⟩
      rw [hx] at d0 d1 d2 HB HG
      clear hx
      have hbx := below_bk wr (.cells #[.int .i64 x.f0, .int .i64 x.f1, .string x.f2] 94)
      have B2 : Hid (Below w.heap.size w (wr.alloc (.cells #[.int .i64 x.f0, .int .i64 x.f1, .string x.f2] 94))) := Lib.hid (hbel.trans (hbx.mono hbel.size))
      have C2 : Hid (Below w1.heap.size w1 (wr.alloc (.cells #[.int .i64 x.f0, .int .i64 x.f1, .string x.f2] 94))) := Lib.hid (hbl1.trans (hbx.mono hbl1.size))
      have t1 := (HTw.out.later hbx).cell (j := 1) rfl
      have e0 := (Bk.alloc wr #[.int .i64 x.f0, .int .i64 x.f1, .string x.f2] 94).cell (j := 0) rfl
      clear hbx
      by_cases hq : 1 ≤ x.f0 ∧ x.f0 ≤ (p.st.length : Int)
      · have HC := Lib.hid (HG.out hq)
        have HQ := Lib.hid hq
        clear hq
        go_wp2_with fail
        refine (implIn_yes _ HQ.out).mono ?_
        rintro e w2 ⟨rfl, rfl⟩
        clear d0 d1 d2 t1 e0
        go_wp2
        go_roundw
        case rel => exact ⟨k + 1, by omega, by go_num, HC, B2.out, C2.out⟩
        case measure => (simp [intOf]; try omega)
      · have HC := Lib.hid (decB_no (HB.out hq))
        have HQ := Lib.hid hq
        clear hq
        go_wp2_with fail
        refine (implIn_no _ HQ.out).mono ?_
        rintro e w2 ⟨rfl, rfl⟩
        clear d0 d1 d2 t1 e0
        go_wp2
        go_ret
        exact ⟨ret_boolk HC.out.symm, B2.out⟩
    · obtain rfl : k = M.length := by omega
      have HE : Hid (RecsR p.ino p.st.length) := Lib.hid (fun e he => by
        rw [HEQ.out] at he
        obtain ⟨j, hj, rfl⟩ := mem_getD he
        exact HM.out j hj)
      have t1 := HTw.out.cell (j := 1) rfl
      clear HM
      go_wp2
      clear t1
      go_loopw [26] (fun kv wq => ∃ (k : Nat), k ≤ p.st.length ∧ kv = .int .i64 k ∧ Hid (∀ j, j < k → UserR p.ino j (p.st.getD j 0)) ∧ Below w.heap.size w wq ∧ Hid (Bk wq w.heap.size #[.int .i64 p.ser, .slice a1 p.st.length c1, .slice a2 p.ino.length c2] 35)) (fun kv _ => p.st.length - (intOf kv).toNat)
      case atStart => exact ⟨0, Nat.zero_le _, rfl, Lib.hid (fun j hj => by omega), hbel, HTw⟩
      case round =>
        clear HTw hbel hbl1
        obtain ⟨i, hi, rfl, HM, hbel, HT2⟩ := hrel
        by_cases hit : i < p.st.length
        · have HB : Hid (¬ UserR p.ino i (p.st.getD i 0) → ¬ UsersR p.ino p.st) := Lib.hid (fun h h9 => h (h9.2 i hit))
          have HG : Hid (UserR p.ino i (p.st.getD i 0) → ∀ j, j < i + 1 → UserR p.ino j (p.st.getD j 0)) := Lib.hid (fun h j hj => by
            by_cases e : j = i
            · rw [e]; exact h
            · exact HM.out j (by omega))
          obtain ⟨g, off, ha, hg, d0⟩ := cInt_at (Cel.Rd.later hbel _ _ HS1.out) i hit
          have HA := Lib.hid ha
          obtain ⟨st, hst⟩ : ∃ y, p.st.getD i 0 = y := ⟨_, rfl⟩
          have d0' : wr.cell? ⟨g, off + i, none⟩ = some (.int .i64 st) := by rw [← hst]; exact d0
          rw [hst] at HB HG
          subst ha
          obtain ⟨m, hm⟩ : ∃ m, cntP (recsOf p.ino) i = m := ⟨_, rfl⟩
          have HMM := Lib.hid hm
          have hU : UserR p.ino i st ↔ (m ≤ 1 ∧ (m = 1 ↔ st = 2)) := by unfold UserR; rw [hm]
          have HU := Lib.hid hU
          clear hst d0 hm hU HA
          have t0 := HT2.out.cell (j := 0) rfl
          have t1 := HT2.out.cell (j := 1) rfl
          have t2 := HT2.out.cell (j := 2) rfl
          go_wp2_with fail
          refine (implUsers_any p _ c1 a2 c2 i _ (Cel.Rd.later hbel _ _ HS.out) HZ.out (by omega) HTY.out).mono ?_
          rw [HMM.out]
          rintro e w2 ⟨rfl, hb⟩
          have B3 : Below w.heap.size w w2 := hbel.trans (hb.mono hbel.size)
          have T4 := Lib.hid (HT2.out.later hb)
          clear hb d0' t0 t1 t2
          by_cases h8 : 1 < m
          · have HC := Lib.hid (decB_no (HB.out (fun h => by have := (HU.out.1 h).1; omega)))
            have h8' : (1 : Int) < m := by omega
            go_wp2
            go_ret
            exact ⟨ret_boolk HC.out.symm, B3⟩
          · have h8' : ¬ ((1 : Int) < m) := by omega
            by_cases h7 : m = 1
            · subst h7
              by_cases h6 : st = 2
              · subst h6
                have HC := Lib.hid (HG.out (HU.out.2 ⟨by omega, by simp⟩))
                go_wp2
                go_roundw
                case rel => exact ⟨i + 1, by omega, by go_num, HC, B3, T4⟩
                case measure => (simp [intOf]; try omega)
              · have HC := Lib.hid (decB_no (HB.out (fun h => h6 ((HU.out.1 h).2.1 rfl))))
                have h6' : (st == 2) = false := by simpa using h6
                go_wp2
                go_ret
                exact ⟨ret_boolk HC.out.symm, B3⟩
            · have h7' : (((m : Int)) == 1) = false := by simp; omega
              by_cases h6 : st = 2
              · subst h6
                have HC := Lib.hid (decB_no (HB.out (fun h => h7 ((HU.out.1 h).2.2 rfl))))
                go_wp2
                go_ret
                exact ⟨ret_boolk HC.out.symm, B3⟩
              · have HC := Lib.hid (HG.out (HU.out.2 ⟨by omega, by simp [h7, h6]⟩))
                have h6' : (st == 2) = false := by simpa using h6
                go_wp2
                go_roundw
                case rel => exact ⟨i + 1, by omega, by go_num, HC, B3, T4⟩
                case measure => (simp [intOf]; try omega)
        · obtain rfl : i = p.st.length := by omega
          have HC := Lib.hid (decB_yes (q := UsersR p.ino p.st) ⟨HE.out, HM.out⟩)
          go_wp2
          go_ret
          exact ⟨ret_boolk HC.out.symm, hbel⟩
end Go.Proofs.YtmkchilhnmkhkabGreat
namespace Go.Proofs.YtmkchilhnmkhkabGreat
open Go.RowKit

set_option maxRecDepth 100000 in
set_option maxHeartbeats 1000000 in
theorem implGeo_yes (T P I Q : Int) (w : World) (h : GeoR T P I Q) : Calls Tryz.prog 51 #[.agg #[.int .i64 T, .int .i64 P, .int .i64 I, .int .i64 Q]] w (SaysB true w) := by
  obtain ⟨a1, a2, b1, b2, c1, c2, d1, d2⟩ := h
  have H1 : (1 : Int) ≤ T ∧ T ≤ 3 := ⟨a1, a2⟩
  have H2 : (5 : Int) ≤ P ∧ P ≤ 12 := ⟨b1, b2⟩
  have H3 : (2 : Int) ≤ I ∧ I ≤ 6 := ⟨c1, c2⟩
  have H4 : (1 : Int) ≤ Q ∧ Q ≤ P - 4 := ⟨d1, d2⟩
  go_enter Tryz.func51, Tryz.ntmps51
  go_wp2_with (first | ((with_reducible refine (implIn_yes _ H1).mono ?_); rintro e w1 ⟨rfl, rfl⟩) | ((with_reducible refine (implIn_yes _ H2).mono ?_); rintro e w1 ⟨rfl, rfl⟩) | ((with_reducible refine (implIn_yes _ H3).mono ?_); rintro e w1 ⟨rfl, rfl⟩) | ((with_reducible refine (implIn_yes _ H4).mono ?_); rintro e w1 ⟨rfl, rfl⟩))
  go_ret
  exact ⟨rfl, below_al w _⟩
set_option maxRecDepth 100000 in
set_option maxHeartbeats 1000000 in
theorem implGeo_no (T P I Q : Int) (w : World) (h : ¬ GeoR T P I Q) : Calls Tryz.prog 51 #[.agg #[.int .i64 T, .int .i64 P, .int .i64 I, .int .i64 Q]] w (SaysB false w) := by
  rcases geo_cases h with H1 | ⟨H1, H2⟩ | ⟨H1, H2, H3⟩ | ⟨H1, H2, H3, H4⟩
  · go_enter Tryz.func51, Tryz.ntmps51
    go_wp2_with ((with_reducible refine (implIn_no _ H1).mono ?_); rintro e w1 ⟨rfl, rfl⟩)
    go_ret
    exact ⟨rfl, below_al w _⟩
  · go_enter Tryz.func51, Tryz.ntmps51
    go_wp2_with (first | ((with_reducible refine (implIn_yes _ H1).mono ?_); rintro e w1 ⟨rfl, rfl⟩) | ((with_reducible refine (implIn_no _ H2).mono ?_); rintro e w1 ⟨rfl, rfl⟩))
    go_ret
    exact ⟨rfl, below_al w _⟩
  · go_enter Tryz.func51, Tryz.ntmps51
    go_wp2_with (first | ((with_reducible refine (implIn_yes _ H1).mono ?_); rintro e w1 ⟨rfl, rfl⟩) | ((with_reducible refine (implIn_yes _ H2).mono ?_); rintro e w1 ⟨rfl, rfl⟩) | ((with_reducible refine (implIn_no _ H3).mono ?_); rintro e w1 ⟨rfl, rfl⟩))
    go_ret
    exact ⟨rfl, below_al w _⟩
  · obtain ⟨b1, b2⟩ := H2
    have H2 : (5 : Int) ≤ P ∧ P ≤ 12 := ⟨b1, b2⟩
    go_enter Tryz.func51, Tryz.ntmps51
    go_wp2_with (first | ((with_reducible refine (implIn_yes _ H1).mono ?_); rintro e w1 ⟨rfl, rfl⟩) | ((with_reducible refine (implIn_yes _ H2).mono ?_); rintro e w1 ⟨rfl, rfl⟩) | ((with_reducible refine (implIn_yes _ H3).mono ?_); rintro e w1 ⟨rfl, rfl⟩) | ((with_reducible refine (implIn_no _ H4).mono ?_); rintro e w1 ⟨rfl, rfl⟩))
    go_ret
    exact ⟨rfl, below_al w _⟩
end Go.Proofs.YtmkchilhnmkhkabGreat
namespace Go.Proofs.YtmkchilhnmkhkabGreat
open Go.RowKit Go.Proofs.YtmkchilhnmkhkabGreat.Parts Go.Proofs.YtmkchilhnmkhkabGreat.Hexa Go.Proofs.YtmkchilhnmkhkabGreat.Byt

theorem implGeo_dec (T P I Q : Int) (w : World) : Calls Tryz.prog 51 #[.agg #[.int .i64 T, .int .i64 P, .int .i64 I, .int .i64 Q]] w (SaysB (decB (GeoR T P I Q)) w) := by
  by_cases h : GeoR T P I Q
  · rw [decB_yes h]; exact implGeo_yes T P I Q w h
  · rw [decB_no h]; exact implGeo_no T P I Q w h
theorem stB_dec (zs : List Int) (p : Int) : stB zs p = decB (StOk zs p) := rfl
theorem dec_eq {q : Prop} [Decidable q] : decide q = decB q := by
  by_cases h : q
  · rw [decB_yes h, decide_eq_true h]
  · rw [decB_no h, decide_eq_false h]
theorem ptB_def (T P I Q : Int) (p : PartR) : ptB T P I Q p = (decB (GeoR T P I Q) && (decB (SerR p.ser) && (decB (StOk p.st P) && (decB ((p.ino.length : Int) = I) && (decB (InosR p.ino) && (decB (LinksR p.ino) && (decB (UsersR p.ino p.st) && decB (((withSt p.st 2 p.st.length).length : Int) ≤ Q)))))))) := by
  rw [Bool.eq_iff_iff]
  simp only [Bool.and_eq_true, decB_iff, ptB, PartOkR]

set_option maxRecDepth 100000 in
set_option maxHeartbeats 4000000 in
theorem implPartOk_any (T P I Q : Int) (p : PartR) (a1 : Option Addr) (c1 : Nat) (a2 : Option Addr) (c2 : Nat) (w : World) (h1 : (celRow cInt p.st).Rd w (.slice a1 p.st.length c1)) (h2 : (celRow cIno p.ino).Rd w (.slice a2 p.ino.length c2)) (hz : szL (cPart.cels p) ≤ 1048576) (ht : TyL (celsE cIno p.ino)) :
    Calls Tryz.prog 25 #[.agg #[.int .i64 T, .int .i64 P, .int .i64 I, .int .i64 Q], .agg #[.int .i64 p.ser, .slice a1 p.st.length c1, .slice a2 p.ino.length c2]] w (SaysB (ptB T P I Q p) w) := by
  have hb1 := below_bk w (.cells #[.int .i64 T, .int .i64 P, .int .i64 I, .int .i64 Q] 31)
  have hb2 := below_bk (w.alloc (.cells #[.int .i64 T, .int .i64 P, .int .i64 I, .int .i64 Q] 31)) (.cells #[.int .i64 p.ser, .slice a1 p.st.length c1, .slice a2 p.ino.length c2] 35)
  have hb0 := hb1.trans (hb2.mono hb1.size)
  have BD := Lib.hid hb0.drew
  have GD := Lib.hid ((Four.alloc w T P I Q 31).later hb2).drew
  have XD : Hid (Bk ((w.alloc (.cells #[.int .i64 T, .int .i64 P, .int .i64 I, .int .i64 Q] 31)).alloc (.cells #[.int .i64 p.ser, .slice a1 p.st.length c1, .slice a2 p.ino.length c2] 35)).drew (w.heap.size + 1) #[.int .i64 p.ser, .slice a1 p.st.length c1, .slice a2 p.ino.length c2] 35) := Lib.hid (by
    have h := (Bk.alloc (w.alloc (.cells #[.int .i64 T, .int .i64 P, .int .i64 I, .int .i64 Q] 31)) #[.int .i64 p.ser, .slice a1 p.st.length c1, .slice a2 p.ino.length c2] 35).drew
    simpa using h)
  have HS1 := Lib.hid h1
  have HS2 := Lib.hid h2
  have HZ := Lib.hid hz
  have HT := Lib.hid ht
  have hn : p.st.length ≤ 1048576 := by have h9 := hz; rw [cPart_sz, szInts_eq] at h9; omega
  have hn2 : p.ino.length ≤ 1048576 := (part_ino hz).1
  clear h1 h2 hz ht hb1 hb2
  rw [ptB_def]
  obtain ⟨g1, e1⟩ : ∃ b, decB (GeoR T P I Q) = b := ⟨_, rfl⟩
  obtain ⟨g2, e2⟩ : ∃ b, decB (SerR p.ser) = b := ⟨_, rfl⟩
  obtain ⟨g3, e3⟩ : ∃ b, decB (StOk p.st P) = b := ⟨_, rfl⟩
  obtain ⟨g5, e5⟩ : ∃ b, decB (InosR p.ino) = b := ⟨_, rfl⟩
  obtain ⟨g6, e6⟩ : ∃ b, decB (LinksR p.ino) = b := ⟨_, rfl⟩
  obtain ⟨g7, e7⟩ : ∃ b, decB (UsersR p.ino p.st) = b := ⟨_, rfl⟩
  have HGEO : Hid (∀ W, Calls Tryz.prog 51 #[.agg #[.int .i64 T, .int .i64 P, .int .i64 I, .int .i64 Q]] W (SaysB g1 W)) := Lib.hid (fun W => by have h := implGeo_dec T P I Q W; rw [e1] at h; exact h)
  have HSER : Hid (decide (0 ≤ p.ser ∧ p.ser ≤ 16777215) = g2) := Lib.hid (by rw [dec_eq]; exact e2)
  have HST : Hid (stB p.st P = g3) := Lib.hid e3
  have HINO := Lib.hid e5
  have HLNK := Lib.hid e6
  have HUSR := Lib.hid e7
  obtain ⟨U, hU⟩ : ∃ U, (withSt p.st 2 p.st.length).length = U := ⟨_, rfl⟩
  have hUl : U ≤ 1048576 := by have := withSt_len p.st 2 p.st.length; omega
  have HU := Lib.hid hU
  rw [e1, e2, e3, e5, e6, e7, hU]
  obtain ⟨z, hz⟩ : ∃ z : Bool, (g1 && (g2 && (g3 && (decB ((p.ino.length : Int) = I) && (g5 && (g6 && (g7 && decB ((U : Int) ≤ Q)))))))) = z := ⟨_, rfl⟩
  rw [hz]
  have HZZ := Lib.hid hz
  clear hz e1 e2 e3 e5 e6 e7 hU
  obtain ⟨W0, hW0⟩ : ∃ y, y = (w.alloc (.cells #[.int .i64 T, .int .i64 P, .int .i64 I, .int .i64 Q] 31)).alloc (.cells #[.int .i64 p.ser, .slice a1 p.st.length c1, .slice a2 p.ino.length c2] 35) := ⟨_, rfl⟩
  rw [← hW0] at BD GD XD
  have HW0 := Lib.hid hW0
  have BN : Hid (Below w.heap.size w W0) := Lib.hid (by rw [hW0]; exact hb0)
  have LT : Hid (w.heap.size < W0.heap.size ∧ w.heap.size + 1 < W0.heap.size) := Lib.hid (by rw [hW0]; exact ⟨by simp; omega, by simp⟩)
  clear hW0 hb0
  have Q0 : Hid (∀ g : GrownW W0, Calls Tryz.prog 51 #[.agg #[.int .i64 T, .int .i64 P, .int .i64 I, .int .i64 Q]] g.wd fun e w' => e = .returned (.bool g1) ∧ Below g.wd.heap.size g.wd w') := Lib.hid (fun g => HGEO.out _)
  have Q1 : Hid (∀ g : GrownW W0, Calls Tryz.prog 53 #[.int .i64 p.ser, .int .i64 0, .int .i64 16777215] g.wd fun e w' => e = .returned (.bool g2) ∧ Below g.wd.heap.size g.wd w') := Lib.hid (fun g => (implIn_any p.ser 0 16777215 _).mono fun e w' ⟨he, hw⟩ => ⟨by rw [he, HSER.out], by rw [hw]; exact Below.refl _ _⟩)
  have Q2 : Hid (∀ g : GrownW W0, Calls Tryz.prog 54 #[.slice a1 p.st.length c1, .int .i64 P] g.wd fun e w' => e = .returned (.bool g3) ∧ Below g.wd.heap.size g.wd w') := Lib.hid (fun g => (implStOk_any a1 p.st.length c1 p.st P _ (srcI_of_rd (Cel.Rd.later (BN.out.trans (g.grown.mono BN.out.size)) _ _ HS1.out)) (by omega)).mono fun e w' ⟨he, hw⟩ => ⟨by rw [he, HST.out], by rw [hw]; exact Below.refl _ _⟩)
  have Q3 : Hid (∀ g : GrownW W0, Calls Tryz.prog 55 #[.agg #[.int .i64 p.ser, .slice a1 p.st.length c1, .slice a2 p.ino.length c2]] g.wd fun e w' => e = .returned (.bool g5) ∧ Below g.wd.heap.size g.wd w') := Lib.hid (fun g => (implInos_any p a1 c1 a2 c2 _ (Cel.Rd.later (BN.out.trans (g.grown.mono BN.out.size)) _ _ HS2.out) HZ.out HT.out).mono fun e w' ⟨he, hw⟩ => ⟨by rw [he, HINO.out], hw⟩)
  have Q4 : Hid (∀ g : GrownW W0, Calls Tryz.prog 56 #[.agg #[.int .i64 p.ser, .slice a1 p.st.length c1, .slice a2 p.ino.length c2]] g.wd fun e w' => e = .returned (.bool g6) ∧ Below g.wd.heap.size g.wd w') := Lib.hid (fun g => (implLinksOk_any p a1 c1 a2 c2 _ (Cel.Rd.later (BN.out.trans (g.grown.mono BN.out.size)) _ _ HS2.out) HZ.out HT.out).mono fun e w' ⟨he, hw⟩ => ⟨by rw [he, HLNK.out], hw⟩)
  have Q5 : Hid (∀ g : GrownW W0, Calls Tryz.prog 57 #[.agg #[.int .i64 p.ser, .slice a1 p.st.length c1, .slice a2 p.ino.length c2]] g.wd fun e w' => e = .returned (.bool g7) ∧ Below g.wd.heap.size g.wd w') := Lib.hid (fun g => (implUsersOk_any p a1 c1 a2 c2 _ (Cel.Rd.later (BN.out.trans (g.grown.mono BN.out.size)) _ _ HS1.out) (Cel.Rd.later (BN.out.trans (g.grown.mono BN.out.size)) _ _ HS2.out) HZ.out HT.out).mono fun e w' ⟨he, hw⟩ => ⟨by rw [he, HUSR.out], hw⟩)
  have c0 : W0.cell? ⟨w.heap.size, 0, none⟩ = some (.int .i64 T) := GD.out.c0
  have c1' : W0.cell? ⟨w.heap.size, 1, none⟩ = some (.int .i64 P) := GD.out.c1
  have c2' : W0.cell? ⟨w.heap.size, 2, none⟩ = some (.int .i64 I) := GD.out.c2
  have c3 : W0.cell? ⟨w.heap.size, 3, none⟩ = some (.int .i64 Q) := GD.out.c3
  have x0 : W0.cell? ⟨w.heap.size + 1, 0, none⟩ = some (.int .i64 p.ser) := XD.out.cell (j := 0) rfl
  have x1 : W0.cell? ⟨w.heap.size + 1, 1, none⟩ = some (.slice a1 p.st.length c1) := XD.out.cell (j := 1) rfl
  have x2 : W0.cell? ⟨w.heap.size + 1, 2, none⟩ = some (.slice a2 p.ino.length c2) := XD.out.cell (j := 2) rfl
  have y0 := GrownW.cell c0 LT.out.1
  have y1 := GrownW.cell c1' LT.out.1
  have y2 := GrownW.cell c2' LT.out.1
  have y3 := GrownW.cell c3 LT.out.1
  have y4 := GrownW.cell x0 LT.out.2
  have y5 := GrownW.cell x1 LT.out.2
  have y6 := GrownW.cell x2 LT.out.2
  clear c0 c1' c2' c3 x0 x1 x2
  have hN : ∃ b, decB ((p.ino.length : Int) = I) = b := ⟨_, rfl⟩
  obtain ⟨g4, e4⟩ := hN
  rw [e4] at HZZ
  have H4 : Hid (((p.ino.length : Int) == I) = g4) := Lib.hid (by
    rw [← e4, Bool.eq_iff_iff]
    simp only [beq_iff_eq, decB_iff])
  clear e4
  cases g1 with
  | false =>
    obtain rfl : false = z := HZZ.out
    have h4 := H4.out
    go_enter Tryz.func25, Tryz.ntmps25
    go_wp2
    rw [← HW0.out]
    refine wp_region_grown (by kernel_rfl) (by kernel_rfl) ?_
    repeat (go_big_quiet_step (first | (go_at_call 51; exact Calls.grown_of (Q0.out _)) | (go_at_call 53; exact Calls.grown_of (Q1.out _)) | (go_at_call 54; exact Calls.grown_of (Q2.out _)) | (go_at_call 55; exact Calls.grown_of (Q3.out _)) | (go_at_call 56; exact Calls.grown_of (Q4.out _)) | (go_at_call 57; exact Calls.grown_of (Q5.out _))))
    refine wpQuiet_nil ?_
    rintro _ ⟨gq, rfl⟩
    have BQ := Lib.hid (BN.out.trans (gq.grown.mono BN.out.size))
    clear y0 y1 y2 y3 y4 y5 y6
    go_wp2
    go_ret
    exact ⟨rfl, BQ.out⟩
  | true =>
    cases g2 with
    | false =>
      obtain rfl : false = z := HZZ.out
      have h4 := H4.out
      go_enter Tryz.func25, Tryz.ntmps25
      go_wp2
      rw [← HW0.out]
      refine wp_region_grown (by kernel_rfl) (by kernel_rfl) ?_
      repeat (go_big_quiet_step (first | (go_at_call 51; exact Calls.grown_of (Q0.out _)) | (go_at_call 53; exact Calls.grown_of (Q1.out _)) | (go_at_call 54; exact Calls.grown_of (Q2.out _)) | (go_at_call 55; exact Calls.grown_of (Q3.out _)) | (go_at_call 56; exact Calls.grown_of (Q4.out _)) | (go_at_call 57; exact Calls.grown_of (Q5.out _))))
      refine wpQuiet_nil ?_
      rintro _ ⟨gq, rfl⟩
      have BQ := Lib.hid (BN.out.trans (gq.grown.mono BN.out.size))
      clear y0 y1 y2 y3 y4 y5 y6
      go_wp2
      go_ret
      exact ⟨rfl, BQ.out⟩
    | true =>
      cases g3 with
      | false =>
        obtain rfl : false = z := HZZ.out
        have h4 := H4.out
        go_enter Tryz.func25, Tryz.ntmps25
        go_wp2
        rw [← HW0.out]
        refine wp_region_grown (by kernel_rfl) (by kernel_rfl) ?_
        repeat (go_big_quiet_step (first | (go_at_call 51; exact Calls.grown_of (Q0.out _)) | (go_at_call 53; exact Calls.grown_of (Q1.out _)) | (go_at_call 54; exact Calls.grown_of (Q2.out _)) | (go_at_call 55; exact Calls.grown_of (Q3.out _)) | (go_at_call 56; exact Calls.grown_of (Q4.out _)) | (go_at_call 57; exact Calls.grown_of (Q5.out _))))
        refine wpQuiet_nil ?_
        rintro _ ⟨gq, rfl⟩
        have BQ := Lib.hid (BN.out.trans (gq.grown.mono BN.out.size))
        clear y0 y1 y2 y3 y4 y5 y6
        go_wp2
        go_ret
        exact ⟨rfl, BQ.out⟩
      | true =>
        cases g4 with
        | false =>
          obtain rfl : false = z := HZZ.out
          have h4 := H4.out
          go_enter Tryz.func25, Tryz.ntmps25
          go_wp2
          rw [← HW0.out]
          refine wp_region_grown (by kernel_rfl) (by kernel_rfl) ?_
          repeat (go_big_quiet_step (first | (go_at_call 51; exact Calls.grown_of (Q0.out _)) | (go_at_call 53; exact Calls.grown_of (Q1.out _)) | (go_at_call 54; exact Calls.grown_of (Q2.out _)) | (go_at_call 55; exact Calls.grown_of (Q3.out _)) | (go_at_call 56; exact Calls.grown_of (Q4.out _)) | (go_at_call 57; exact Calls.grown_of (Q5.out _))))
          refine wpQuiet_nil ?_
          rintro _ ⟨gq, rfl⟩
          have BQ := Lib.hid (BN.out.trans (gq.grown.mono BN.out.size))
          clear y0 y1 y2 y3 y4 y5 y6
          go_wp2
          go_ret
          exact ⟨rfl, BQ.out⟩
        | true =>
          cases g5 with
          | false =>
            obtain rfl : false = z := HZZ.out
            have h4 := H4.out
            go_enter Tryz.func25, Tryz.ntmps25
            go_wp2
            rw [← HW0.out]
            refine wp_region_grown (by kernel_rfl) (by kernel_rfl) ?_
            repeat (go_big_quiet_step (first | (go_at_call 51; exact Calls.grown_of (Q0.out _)) | (go_at_call 53; exact Calls.grown_of (Q1.out _)) | (go_at_call 54; exact Calls.grown_of (Q2.out _)) | (go_at_call 55; exact Calls.grown_of (Q3.out _)) | (go_at_call 56; exact Calls.grown_of (Q4.out _)) | (go_at_call 57; exact Calls.grown_of (Q5.out _))))
            refine wpQuiet_nil ?_
            rintro _ ⟨gq, rfl⟩
            have BQ := Lib.hid (BN.out.trans (gq.grown.mono BN.out.size))
            clear y0 y1 y2 y3 y4 y5 y6
            go_wp2
            go_ret
            exact ⟨rfl, BQ.out⟩
          | true =>
            cases g6 with
            | false =>
              obtain rfl : false = z := HZZ.out
              have h4 := H4.out
              go_enter Tryz.func25, Tryz.ntmps25
              go_wp2
              rw [← HW0.out]
              refine wp_region_grown (by kernel_rfl) (by kernel_rfl) ?_
              repeat (go_big_quiet_step (first | (go_at_call 51; exact Calls.grown_of (Q0.out _)) | (go_at_call 53; exact Calls.grown_of (Q1.out _)) | (go_at_call 54; exact Calls.grown_of (Q2.out _)) | (go_at_call 55; exact Calls.grown_of (Q3.out _)) | (go_at_call 56; exact Calls.grown_of (Q4.out _)) | (go_at_call 57; exact Calls.grown_of (Q5.out _))))
              refine wpQuiet_nil ?_
              rintro _ ⟨gq, rfl⟩
              have BQ := Lib.hid (BN.out.trans (gq.grown.mono BN.out.size))
              clear y0 y1 y2 y3 y4 y5 y6
              go_wp2
              go_ret
              exact ⟨rfl, BQ.out⟩
            | true =>
              cases g7 with
              | false =>
                obtain rfl : false = z := HZZ.out
                have h4 := H4.out
                go_enter Tryz.func25, Tryz.ntmps25
                go_wp2
                rw [← HW0.out]
                refine wp_region_grown (by kernel_rfl) (by kernel_rfl) ?_
                repeat (go_big_quiet_step (first | (go_at_call 51; exact Calls.grown_of (Q0.out _)) | (go_at_call 53; exact Calls.grown_of (Q1.out _)) | (go_at_call 54; exact Calls.grown_of (Q2.out _)) | (go_at_call 55; exact Calls.grown_of (Q3.out _)) | (go_at_call 56; exact Calls.grown_of (Q4.out _)) | (go_at_call 57; exact Calls.grown_of (Q5.out _))))
                refine wpQuiet_nil ?_
                rintro _ ⟨gq, rfl⟩
                have BQ := Lib.hid (BN.out.trans (gq.grown.mono BN.out.size))
                clear y0 y1 y2 y3 y4 y5 y6
                go_wp2
                go_ret
                exact ⟨rfl, BQ.out⟩
              | true =>
                have HZ9 : Hid (decB ((U : Int) ≤ Q) = z) := Lib.hid HZZ.out
                have h4 := H4.out
                clear y0 y1 y2 y3 y4 y5 y6
                go_enter Tryz.func25, Tryz.ntmps25
                go_wp2
                rw [← HW0.out]
                go_region_held3 (fun w' => w'.cell? ⟨w.heap.size, 0, none⟩ = some (.int .i64 T) ∧ w'.cell? ⟨w.heap.size, 1, none⟩ = some (.int .i64 P) ∧ w'.cell? ⟨w.heap.size, 2, none⟩ = some (.int .i64 I) ∧ w'.cell? ⟨w.heap.size, 3, none⟩ = some (.int .i64 Q) ∧ w'.cell? ⟨w.heap.size + 1, 0, none⟩ = some (.int .i64 p.ser) ∧ w'.cell? ⟨w.heap.size + 1, 1, none⟩ = some (.slice a1 p.st.length c1) ∧ w'.cell? ⟨w.heap.size + 1, 2, none⟩ = some (.slice a2 p.ino.length c2))
                  (first
                    | exact ⟨GD.out.c0, GD.out.c1, GD.out.c2, GD.out.c3, XD.out.cell rfl, XD.out.cell rfl, XD.out.cell rfl⟩
                    | exact ⟨GE.out.c0, GE.out.c1, GE.out.c2, GE.out.c3, XE.out.cell rfl, XE.out.cell rfl, XE.out.cell rfl⟩
                    | exact ⟨GF.out.c0, GF.out.c1, GF.out.c2, GF.out.c3, XF.out.cell rfl, XF.out.cell rfl, XF.out.cell rfl⟩
                    | exact ⟨GG.out.c0, GG.out.c1, GG.out.c2, GG.out.c3, XG.out.cell rfl, XG.out.cell rfl, XG.out.cell rfl⟩
                    | exact ⟨GH.out.c0, GH.out.c1, GH.out.c2, GH.out.c3, XH.out.cell rfl, XH.out.cell rfl, XH.out.cell rfl⟩
                    | exact ⟨GI.out.c0, GI.out.c1, GI.out.c2, GI.out.c3, XI.out.cell rfl, XI.out.cell rfl, XI.out.cell rfl⟩
                    | go_keep)
                  (first
                  | (go_at_call 51; (with_reducible refine (HGEO.out _).mono ?_); rintro e w1 ⟨rfl, hb⟩; have GE := Lib.hid (GD.out.later hb); have XE := Lib.hid (XD.out.later hb); have BE : Hid (Below w.heap.size w w1) := Lib.hid (BD.out.trans (hb.mono BD.out.size)); clear hb)
                  | (go_at_call 53; (with_reducible refine (implIn_any p.ser 0 16777215 _).mono ?_); rw [HSER.out]; rintro e w2 ⟨rfl, rfl⟩)
                  | (go_at_call 54; (with_reducible refine (implStOk_any a1 p.st.length c1 p.st P _ (srcI_of_rd (Cel.Rd.later BE.out _ _ HS1.out)) (by omega)).mono ?_); rw [HST.out]; rintro e w3 ⟨rfl, rfl⟩)
                  | (go_at_call 55; (with_reducible refine (implInos_any p a1 c1 a2 c2 _ (Cel.Rd.later BE.out _ _ HS2.out) HZ.out HT.out).mono ?_); rw [HINO.out]; rintro e w4 ⟨rfl, hb⟩; have GF := Lib.hid (GE.out.later hb); have XF := Lib.hid (XE.out.later hb); have BF : Hid (Below w.heap.size w w4) := Lib.hid (BE.out.trans (hb.mono BE.out.size)); clear hb)
                  | (go_at_call 56; (with_reducible refine (implLinksOk_any p a1 c1 a2 c2 _ (Cel.Rd.later BF.out _ _ HS2.out) HZ.out HT.out).mono ?_); rw [HLNK.out]; rintro e w5 ⟨rfl, hb⟩; have GG := Lib.hid (GF.out.later hb); have XG := Lib.hid (XF.out.later hb); have BG : Hid (Below w.heap.size w w5) := Lib.hid (BF.out.trans (hb.mono BF.out.size)); clear hb)
                  | (go_at_call 57; (with_reducible refine (implUsersOk_any p a1 c1 a2 c2 _ (Cel.Rd.later BG.out _ _ HS1.out) (Cel.Rd.later BG.out _ _ HS2.out) HZ.out HT.out).mono ?_); rw [HUSR.out]; rintro e w6 ⟨rfl, hb⟩; have GH := Lib.hid (GG.out.later hb); have XH := Lib.hid (XG.out.later hb); have BH : Hid (Below w.heap.size w w6) := Lib.hid (BG.out.trans (hb.mono BG.out.size)); clear hb)
                  | (go_at_call 58; (with_reducible refine (implPagesWith_any a1 p.st.length c1 p.st 2 _ (srcI_of_rd (Cel.Rd.later BH.out _ _ HS1.out)) (by omega)).mono ?_); rintro e w7 ⟨v7, rfl, ho, hb⟩; rw [HU.out] at ho; obtain ⟨a7, c7, rfl, _⟩ := ownE_form ho; clear ho; have GI := Lib.hid (GH.out.later hb); have XI := Lib.hid (XH.out.later hb); have BI : Hid (Below w.heap.size w w7) := Lib.hid (BH.out.trans (hb.mono BH.out.size)); clear hb))
                by_cases hq : (U : Int) ≤ Q
                · have h9 := HZ9.out
                  rw [decB_yes hq] at h9
                  subst h9
                  go_wp2
                  go_ret
                  exact ⟨ret_boolk (by first | rfl | exact decide_eq_true hq), BI.out⟩
                · have h9 := HZ9.out
                  rw [decB_no hq] at h9
                  subst h9
                  have hq' : decide ((U : Int) ≤ Q) = false := decide_eq_false hq
                  go_wp2
                  go_ret
                  exact ⟨ret_boolk (by first | rfl | exact hq'), BI.out⟩
end Go.Proofs.YtmkchilhnmkhkabGreat
namespace Go.Proofs.YtmkchilhnmkhkabGreat
open Go.RowKit Go.Proofs.YtmkchilhnmkhkabGreat.Parts Go.Proofs.YtmkchilhnmkhkabGreat.Hexa Go.Proofs.YtmkchilhnmkhkabGreat.Byt

/-- What is returned owns these texts; nothing else of before is written. -/
def AppPost (base : Nat) (W0 : World) (n : Nat) (xs : List Value) (e : Ending) (w' : World) : Prop :=
  ∃ v, e = .returned v ∧ w'.ownsRow base 9 1 v n xs ∧ Below base W0 w' ∧ base ≤ w'.heap.size

set_option maxRecDepth 100000 in
set_option maxHeartbeats 2000000 in
theorem appendRecs_any (W0 : World) (base : Nat) (v : Value) (n0 : Nat) (xs : List Value) (a : Option Addr) (n c : Nat) (L : List RecR) (w : World) (hB0 : W0.heap.size ≤ base) (hb0 : Below base W0 w) (hbs : base ≤ w.heap.size)
    (hs : SrcRec W0 a n L) (hf : FitRec L n 2000000) (hn : n0 + n ≤ 1000) (hown : w.ownsRow base 9 1 v n0 xs) :
    Calls Tryz.prog 65 #[v, .slice a n c, .func (.func 66) #[] #[]] w (AppPost base W0 (n0 + n) (xs ++ scells (L.map recWordB))) := by
  obtain ⟨i0, hi, hz0, hz1, hz2⟩ := info_parts infoText
  have HS := Lib.hid hs
  have HL := Lib.hid hs.len
  have HF := Lib.hid hf
  have HN := Lib.hid hn
  have HO := Lib.hid hown
  have HB0 := Lib.hid hb0
  have HBS := Lib.hid hbs
  have HBW := Lib.hid hB0
  have hn1 : n ≤ 1000 := by omega
  have hn0 : n0 ≤ 1000 := by omega
  clear hs hf hown hb0 hbs hB0 hn
  go_enter Tryz.func65, Tryz.ntmps65
  go_wp2
  go_loopw [0, 11] (fun u iv wr => ∃ k : Nat, k ≤ n ∧ iv = .int .i64 k ∧ Hid (wr.ownsRow base 9 1 u (n0 + k) (xs ++ scells ((L.take k).map recWordB))) ∧ Hid (Below base W0 wr) ∧ Hid (base ≤ wr.heap.size)) (fun _ iv _ => n - (intOf iv).toNat)
  case atStart => exact ⟨0, Nat.zero_le _, rfl, Lib.hid (by simpa [scells] using HO.out), HB0, HBS⟩
  case round =>
    clear HO HB0 HBS
    obtain ⟨k, hk, rfl, HW, HB, HSZ⟩ := hrel
    by_cases hlt : k < n
    · obtain ⟨g, off, ha, hg, d0, d1, d2⟩ := srcRec_later HS.out HB.out HBW.out k hlt
      obtain ⟨⟨p, q, m⟩, hx⟩ : ∃ x, L.getD k default = x := ⟨_, rfl⟩
      have hm := HF.out k hlt
      rw [hx] at d0 d1 d2 hm
      simp only at d0 d1 d2 hm
      have HX := Lib.hid hx
      have HM := Lib.hid hm
      obtain ⟨T, hT⟩ : ∃ T, recWordB ⟨p, q, m⟩ = T := ⟨_, rfl⟩
      have HT := Lib.hid hT
      have HWN : Hid ((xs ++ scells ((L.take k).map recWordB)) ++ [.string T] = xs ++ scells ((L.take (k + 1)).map recWordB)) := Lib.hid (by
        rw [take_more _ _ _ (by rw [HL.out]; exact hlt), HX.out, HT.out]
        simp [scells])
      have HBX : Hid (Below base W0 (wr.alloc (.cells #[.int .i64 p, .int .i64 q, .string m] 94))) := Lib.hid (HB.out.alloc HSZ.out _)
      have HWX := Lib.hid (HW.out.alloc (.cells #[.int .i64 p, .int .i64 q, .string m] 94))
      have HSX : Hid (base ≤ (wr.alloc (.cells #[.int .i64 p, .int .i64 q, .string m] 94)).heap.size) := Lib.hid (by have := HSZ.out; simp; omega)
      have HN2 : Hid (n0 + k + 1 ≤ 1000) := Lib.hid (by have := HN.out; omega)
      subst ha
      clear hx hm hT
      go_wp2_with (first
        | (go_at_call 66; (with_reducible refine (implRecWord_any p q m _ HM.out).mono ?_); rw [HT.out]; rintro e wa ⟨rfl, hb1⟩
           have HW1 := Lib.hid (own_below HWX.out hb1)
           have BG := Lib.hid (HBX.out.trans (hb1.mono HSX.out))
           have BS : Hid (base ≤ wa.heap.size) := Lib.hid (Nat.le_trans HSX.out hb1.size))
        | (at_builtin; refine wpList_append_own _ rfl (.tmp 15) (.tmp 19) 52 rfl base 9 i0 (.string ⟨#[]⟩) 1 16 Tryz.underlying52 hi hz0 hz1 hz2 rfl (by decide) _ _ _ rfl (HW1.out.alloc _) ⟨wa.heap.size, 0, none⟩ 1 1 [.string T] rfl rfl (World.news_of_block (heap_alloc_new _ _)) (by simp [Value.oneCell']) (by have := HN2.out; unfold maxLen; omega) (by have := HN2.out; omega) (by have := BS.out; simp; omega) ?_; intro v2 wb hown2 hgrow2 hn2))
      have BG3 := Lib.hid ((BG.out.alloc BS.out _).grown hgrow2 (by have := BS.out; simp; omega) (own_block_ge HW1.out))
      have BS3 : Hid (base ≤ wb.heap.size) := Lib.hid (by have h9 := hgrow2.size; have := BS.out; simp at h9; omega)
      rw [HWN.out] at hown2
      have HO2 := Lib.hid hown2
      clear hown2 hgrow2 hn2 HW1 BG BS HB HW
      go_roundw
      case rel => exact ⟨k + 1, by omega, by go_num, HO2, BG3, BS3⟩
      case measure => (simp [intOf]; try omega)
    · obtain rfl : k = n := by omega
      have h9 := HW.out
      rw [List.take_of_length_le (by rw [HL.out]; exact Nat.le_refl _)] at h9
      have HW2 := Lib.hid h9
      clear h9
      go_wp2
      go_ret
      exact ⟨_, rfl, HW2.out, HB.out, HSZ.out⟩

set_option maxRecDepth 100000 in
set_option maxHeartbeats 2000000 in
theorem appendEntrys_any (W0 : World) (base : Nat) (v : Value) (n0 : Nat) (xs : List Value) (a : Option Addr) (n c : Nat) (L : List EntryR) (w : World) (hB0 : W0.heap.size ≤ base) (hb0 : Below base W0 w) (hbs : base ≤ w.heap.size)
    (hs : SrcEntry W0 a n L) (hf : FitEntry L n 2000000) (hn : n0 + n ≤ 1000) (hown : w.ownsRow base 9 1 v n0 xs) :
    Calls Tryz.prog 67 #[v, .slice a n c, .func (.func 68) #[] #[]] w (AppPost base W0 (n0 + n) (xs ++ scells (L.map entryWordB))) := by
  obtain ⟨i0, hi, hz0, hz1, hz2⟩ := info_parts infoText
  have HS := Lib.hid hs
  have HL := Lib.hid hs.len
  have HF := Lib.hid hf
  have HN := Lib.hid hn
  have HO := Lib.hid hown
  have HB0 := Lib.hid hb0
  have HBS := Lib.hid hbs
  have HBW := Lib.hid hB0
  have hn1 : n ≤ 1000 := by omega
  have hn0 : n0 ≤ 1000 := by omega
  clear hs hf hown hb0 hbs hB0 hn
  go_enter Tryz.func67, Tryz.ntmps67
  go_wp2
  go_loopw [0, 11] (fun u iv wr => ∃ k : Nat, k ≤ n ∧ iv = .int .i64 k ∧ Hid (wr.ownsRow base 9 1 u (n0 + k) (xs ++ scells ((L.take k).map entryWordB))) ∧ Hid (Below base W0 wr) ∧ Hid (base ≤ wr.heap.size)) (fun _ iv _ => n - (intOf iv).toNat)
  case atStart => exact ⟨0, Nat.zero_le _, rfl, Lib.hid (by simpa [scells] using HO.out), HB0, HBS⟩
  case round =>
    clear HO HB0 HBS
    obtain ⟨k, hk, rfl, HW, HB, HSZ⟩ := hrel
    by_cases hlt : k < n
    · obtain ⟨g, off, ha, hg, d0, d1⟩ := srcEntry_later HS.out HB.out HBW.out k hlt
      obtain ⟨⟨p, m⟩, hx⟩ : ∃ x, L.getD k default = x := ⟨_, rfl⟩
      have hm := HF.out k hlt
      rw [hx] at d0 d1 hm
      simp only at d0 d1 hm
      have HX := Lib.hid hx
      have HM := Lib.hid hm
      obtain ⟨T, hT⟩ : ∃ T, entryWordB ⟨p, m⟩ = T := ⟨_, rfl⟩
      have HT := Lib.hid hT
      have HWN : Hid ((xs ++ scells ((L.take k).map entryWordB)) ++ [.string T] = xs ++ scells ((L.take (k + 1)).map entryWordB)) := Lib.hid (by
        rw [take_more _ _ _ (by rw [HL.out]; exact hlt), HX.out, HT.out]
        simp [scells])
      have HBX : Hid (Below base W0 (wr.alloc (.cells #[.int .i64 p, .string m] 77))) := Lib.hid (HB.out.alloc HSZ.out _)
      have HWX := Lib.hid (HW.out.alloc (.cells #[.int .i64 p, .string m] 77))
      have HSX : Hid (base ≤ (wr.alloc (.cells #[.int .i64 p, .string m] 77)).heap.size) := Lib.hid (by have := HSZ.out; simp; omega)
      have HN2 : Hid (n0 + k + 1 ≤ 1000) := Lib.hid (by have := HN.out; omega)
      subst ha
      clear hx hm hT
      go_wp2_with (first
        | (go_at_call 68; (with_reducible refine (implEntryWord_any p m _ HM.out).mono ?_); rw [HT.out]; rintro e wa ⟨rfl, hb1⟩
           have HW1 := Lib.hid (own_below HWX.out hb1)
           have BG := Lib.hid (HBX.out.trans (hb1.mono HSX.out))
           have BS : Hid (base ≤ wa.heap.size) := Lib.hid (Nat.le_trans HSX.out hb1.size))
        | (at_builtin; refine wpList_append_own _ rfl (.tmp 15) (.tmp 19) 52 rfl base 9 i0 (.string ⟨#[]⟩) 1 16 Tryz.underlying52 hi hz0 hz1 hz2 rfl (by decide) _ _ _ rfl (HW1.out.alloc _) ⟨wa.heap.size, 0, none⟩ 1 1 [.string T] rfl rfl (World.news_of_block (heap_alloc_new _ _)) (by simp [Value.oneCell']) (by have := HN2.out; unfold maxLen; omega) (by have := HN2.out; omega) (by have := BS.out; simp; omega) ?_; intro v2 wb hown2 hgrow2 hn2))
      have BG3 := Lib.hid ((BG.out.alloc BS.out _).grown hgrow2 (by have := BS.out; simp; omega) (own_block_ge HW1.out))
      have BS3 : Hid (base ≤ wb.heap.size) := Lib.hid (by have h9 := hgrow2.size; have := BS.out; simp at h9; omega)
      rw [HWN.out] at hown2
      have HO2 := Lib.hid hown2
      clear hown2 hgrow2 hn2 HW1 BG BS HB HW
      go_roundw
      case rel => exact ⟨k + 1, by omega, by go_num, HO2, BG3, BS3⟩
      case measure => (simp [intOf]; try omega)
    · obtain rfl : k = n := by omega
      have h9 := HW.out
      rw [List.take_of_length_le (by rw [HL.out]; exact Nat.le_refl _)] at h9
      have HW2 := Lib.hid h9
      clear h9
      go_wp2
      go_ret
      exact ⟨_, rfl, HW2.out, HB.out, HSZ.out⟩

end Go.Proofs.YtmkchilhnmkhkabGreat
namespace Go.Proofs.YtmkchilhnmkhkabGreat
open Go.RowKit Go.Proofs.YtmkchilhnmkhkabGreat.Hexa Go.Proofs.YtmkchilhnmkhkabGreat.Byt Go.Proofs.YtmkchilhnmkhkabGreat.BitsM

set_option maxRecDepth 100000 in
set_option maxHeartbeats 1000000 in
theorem implZero_any (n : Int) (w : World) :
    Calls Tryz.prog 69 #[.int .i64 n] w fun e w' => e = .returned (.string (zeroB n)) ∧ Below w.heap.size w w' := by
  by_cases h : 0 ≤ n ∧ n ≤ 20000
  · obtain ⟨i0, hi, hz0, hz1, hz2⟩ := info_parts infoByte
    have HE : Hid (zeroB n = longB n.toNat 0) := Lib.hid (if_pos h)
    obtain ⟨k, rfl⟩ : ∃ k : Nat, n = k := ⟨n.toNat, by omega⟩
    have hk : k ≤ 20000 := by omega
    clear h
    go_enter Tryz.func69, Tryz.ntmps69
    go_wp2_with (at_make; refine wpList_make_full _ rfl _ _ 85 rfl w.heap.size 5 i0 (.int .u8 0) 1 Tryz.underlying85 hi hz0 hz1 .i64 .i64 _ _ k rfl rfl rfl rfl (by rw [hz2]; omega) (by unfold maxLen; omega) (Nat.le_refl _) ?_; intro w0 hown0 hgrow0; rw [made_zero] at hown0; have hconv := own_string (P := Tryz.prog) 85 9 Tryz.underlying85 Tryz.underlying5 Tryz.underlying9 hown0)
    have hg0 : Below w.heap.size w w0 := (Below.refl _ _).grown hgrow0 (Nat.le_refl _) (fun k h => by cases h)
    go_ret
    exact ⟨by rw [HE.out]; rfl, hg0⟩
  · have HE : Hid (zeroB n = ⟨#[]⟩) := Lib.hid (if_neg h)
    by_cases h0 : n < 0
    · go_enter Tryz.func69, Tryz.ntmps69
      go_wp2
      go_ret
      exact ⟨by rw [HE.out]; rfl, Below.refl _ _⟩
    · have h1 : 20000 < n := by omega
      clear h
      go_enter Tryz.func69, Tryz.ntmps69
      go_wp2
      go_ret
      exact ⟨by rw [HE.out]; rfl, Below.refl _ _⟩

end Go.Proofs.YtmkchilhnmkhkabGreat
