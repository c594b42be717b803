/- Merged texts: Assert, InoImpl, RecEq, RecA, RecB, EntryB, InoArgs, RecsEq, Apart, MarkText, MarkAt, RecC, EntsEq, EntryC, InoEq, InoOkLaw, WordsMath, NonceMath. -/
import Derived.Test.YtmkchilhnmkhkaaP15NB
import Derived.Deep.DeepCutAuto
import Derived.Test.YtmkchilhnmkhkaaRows
import Derived.WalkKit
import Derived.WalkSpells
import Derived.WalkLawsBesides
import Derived.Lib.Hide
import Derived.Deep.QuietTactic
import Derived.BigQuiet
import Derived.Deep.RegionHeld3
namespace Go.Proofs.Ytmkchilhnmkhkaa
open Go.RowKit

theorem as_file (v : Value) (w : World) : (Instr.typeAssert (.iface 89 v) 86 89 true).run Try.prog w = .ok (.tuple #[v, .bool true]) w := by kernel_rfl
theorem as_dir (v : Value) (w : World) : (Instr.typeAssert (.iface 92 v) 86 92 true).run Try.prog w = .ok (.tuple #[v, .bool true]) w := by kernel_rfl
theorem as_free (v : Value) (w : World) : (Instr.typeAssert (.iface 94 v) 86 94 true).run Try.prog w = .ok (.tuple #[v, .bool true]) w := by kernel_rfl
theorem free_no_file (v : Value) (w : World) : (Instr.typeAssert (.iface 94 v) 86 89 true).run Try.prog w = .ok (.tuple #[.agg #[.int .i64 0, .string ⟨#[]⟩, .slice none 0 0], .bool false]) w := by kernel_rfl
theorem dir_no_file (v : Value) (w : World) : (Instr.typeAssert (.iface 92 v) 86 89 true).run Try.prog w = .ok (.tuple #[.agg #[.int .i64 0, .string ⟨#[]⟩, .slice none 0 0], .bool false]) w := by kernel_rfl
theorem nil_no_file (w : World) : (Instr.typeAssert .nilIface 86 89 true).run Try.prog w = .ok (.tuple #[.agg #[.int .i64 0, .string ⟨#[]⟩, .slice none 0 0], .bool false]) w := by kernel_rfl
theorem free_no_dir (v : Value) (w : World) : (Instr.typeAssert (.iface 94 v) 86 92 true).run Try.prog w = .ok (.tuple #[.agg #[.slice none 0 0], .bool false]) w := by kernel_rfl
theorem nil_no_dir (w : World) : (Instr.typeAssert .nilIface 86 92 true).run Try.prog w = .ok (.tuple #[.agg #[.slice none 0 0], .bool false]) w := by kernel_rfl
theorem nil_no_free (w : World) : (Instr.typeAssert .nilIface 86 94 true).run Try.prog w = .ok (.tuple #[.agg #[], .bool false]) w := by kernel_rfl
end Go.Proofs.Ytmkchilhnmkhkaa
namespace Go.Proofs.Ytmkchilhnmkhkaa
open Go.RowKit Go.Proofs.Ytmkchilhnmkhkaa.Parts Go.Proofs.Ytmkchilhnmkhkaa.Hexa Go.Proofs.Ytmkchilhnmkhkaa.Byt

theorem bool_of (p : Prop) : ∃ b : Bool, b = true ↔ p := by
  by_cases h : p
  · exact ⟨true, by simp [h]⟩
  · exact ⟨false, by simp [h]⟩
theorem noFile_cases (sz : Int) (key : ByteArray) (nR : Nat) : (sz = 0 ∧ key = ⟨#[]⟩ ∧ nR = 0) ∨ (sz = 0 ∧ key = ⟨#[]⟩ ∧ 0 < nR) ∨ (sz = 0 ∧ 0 < key.size) ∨ sz ≠ 0 := by
  by_cases h1 : sz = 0
  · by_cases h2 : key.size = 0
    · obtain rfl := text_nothing h2
      by_cases h3 : nR = 0
      · exact .inl ⟨h1, rfl, h3⟩
      · exact .inr (.inl ⟨h1, rfl, by omega⟩)
    · exact .inr (.inr (.inl ⟨h1, by omega⟩))
  · exact .inr (.inr (.inr h1))
/-- Neither a size nor a key nor records. -/
def noFileB (sz : Int) (key : ByteArray) (nR : Nat) : Bool := decide (sz = 0 ∧ key.size = 0 ∧ nR = 0)

section
variable (sz gn : Int) (key : ByteArray) (aR : Option Addr) (nR cR : Nat) (aE : Option Addr) (nE cE : Nat) (w : World)

set_option maxRecDepth 100000 in
set_option maxHeartbeats 1000000 in
theorem implIno_gen (kd : Int) (h : ¬ (0 ≤ gn ∧ gn ≤ 65535)) :
    Calls Try.prog 28 #[.agg #[.int .i64 kd, .int .i64 sz, .int .i64 gn, .string key, .slice aR nR cR, .slice aE nE cE]] w (SaysB false w) := by
  have H0 := Lib.hid h
  have B0 := Lib.hid (below_bk w (inoObj kd sz gn key aR nR cR aE nE cE))
  clear h
  go_enter Try.func28, Try.ntmps28
  go_wp2_with ((with_reducible refine (implIn_no _ H0.out).mono ?_); rintro e w1 ⟨rfl, rfl⟩)
  go_ret
  exact ⟨rfl, B0.out⟩

set_option maxRecDepth 100000 in
set_option maxHeartbeats 1000000 in
theorem implIno_free (h : 0 ≤ gn ∧ gn ≤ 65535) (b : Bool) (hb : b = true ↔ (noFileB sz key nR = true ∧ nE = 0)) :
    Calls Try.prog 28 #[.agg #[.int .i64 0, .int .i64 sz, .int .i64 gn, .string key, .slice aR nR cR, .slice aE nE cE]] w (SaysB b w) := by
  have H0 := Lib.hid h
  have HG := Lib.hid hb
  have K0 := Lib.hid (Bk.alloc w (inoCs 0 sz gn key aR nR cR aE nE cE) 57)
  have B0 := Lib.hid (below_bk w (inoObj 0 sz gn key aR nR cR aE nE cE))
  have HC : Hid (∀ W : World, Calls Try.prog 61 #[.agg #[.int .i64 0, .int .i64 sz, .int .i64 gn, .string key, .slice aR nR cR, .slice aE nE cE]] W fun e w' => e = .returned (.iface 94 (.agg #[])) ∧ Below W.heap.size W w') := Lib.hid (fun W => implBody_any 0 sz gn key aR nR cR aE nE cE W)
  clear h hb
  go_enter Try.func28, Try.ntmps28
  go_upto_region 3 with ((with_reducible refine (implIn_yes _ H0.out).mono ?_); rintro e w1 ⟨rfl, rfl⟩)
  go_cut [3] (fun v wx => v = .bool (noFileB sz key nR) ∧ wx = w.alloc (inoObj 0 sz gn key aR nR cR aE nE cE))
  case first =>
    rcases noFile_cases sz key nR with ⟨rfl, rfl, rfl⟩ | ⟨rfl, rfl, h3⟩ | ⟨rfl, h3⟩ | h3
    · go_wp2_with fail
      go_meet
      exact ⟨rfl, rfl⟩
    · have e3 : ((nR : Int) == 0) = false := by simp; omega
      have HF9 : Hid (noFileB 0 ⟨#[]⟩ nR = false) := Lib.hid (decide_eq_false (fun x => by omega))
      go_wp2_with fail
      go_meet
      exact ⟨by rw [HF9.out], rfl⟩
    · have e4 : (key.toList == []) = false := text_full key (by omega)
      have HF9 : Hid (noFileB 0 key nR = false) := Lib.hid (decide_eq_false (fun x => by omega))
      go_wp2_with fail
      go_meet
      exact ⟨by rw [HF9.out], rfl⟩
    · have e4 : (sz == 0) = false := by simpa using h3
      have HF9 : Hid (noFileB sz key nR = false) := Lib.hid (decide_eq_false (fun x => h3 x.1))
      clear h3
      go_wp2_with fail
      go_meet
      exact ⟨by rw [HF9.out], rfl⟩
  case rest =>
    obtain ⟨rfl, rfl⟩ := hcut
    go_wp2_with fail
    refine (HC.out _).mono ?_
    rintro e w1 ⟨rfl, hb1⟩
    have B1 : Hid (Below w.heap.size w w1) := Lib.hid (B0.out.trans (hb1.mono B0.out.size))
    clear hb1
    have a1 := free_no_file (.agg #[]) w1
    have a2 := free_no_dir (.agg #[]) w1
    have a3 := as_free (.agg #[]) w1
    have e9 : ((nE : Int) == 0) = decide (nE = 0) := by by_cases h : nE = 0 <;> simp [h]
    obtain ⟨f, hf⟩ : ∃ f, noFileB sz key nR = f := ⟨_, rfl⟩
    rw [hf] at HG ⊢
    clear hf
    cases f
    · obtain rfl : b = false := bool_no HG.out (fun x => by cases x.1)
      go_wp2
      go_ret
      exact ⟨rfl, B1.out.alloc B1.out.size _⟩
    · obtain rfl : b = decide (nE = 0) := by
        by_cases h : nE = 0
        · rw [HG.out.2 ⟨rfl, h⟩, decide_eq_true h]
        · rw [bool_no HG.out (fun x => h x.2), decide_eq_false h]
      go_wp2
      go_ret
      exact ⟨rfl, B1.out.alloc B1.out.size _⟩

set_option maxRecDepth 100000 in
set_option maxHeartbeats 1000000 in
theorem implIno_file (h : 0 ≤ gn ∧ gn ≤ 65535) (R : List RecR) (hz : -9223372036854775808 ≤ sz ∧ sz ≤ 9223372036854775807) (hs : SrcRec w aR nR R) (hf : FitRec R nR 2000000) (b : Bool)
    (hb : b = true ↔ (((0 ≤ sz ∧ sz ≤ 128) ∧ key.size = 8 ∧ (nR : Int) = pagesZ sz ∧ RecsOk R nR) ∧ nE = 0)) :
    Calls Try.prog 28 #[.agg #[.int .i64 1, .int .i64 sz, .int .i64 gn, .string key, .slice aR nR cR, .slice aE nE cE]] w (SaysB b w) := by
  obtain ⟨b1, hb1⟩ : ∃ b1 : Bool, b1 = true ↔ ((0 ≤ sz ∧ sz ≤ 128) ∧ key.size = 8 ∧ (nR : Int) = pagesZ sz ∧ RecsOk R nR) := bool_of _
  have hb2 : b = true ↔ (b1 = true ∧ nE = 0) := by rw [hb, hb1]
  have H0 := Lib.hid h
  have HG := Lib.hid hb2
  have HG1 := Lib.hid hb1
  have HZ := Lib.hid hz
  have HS := Lib.hid hs
  have HF := Lib.hid hf
  have K0 := Lib.hid (Bk.alloc w (inoCs 1 sz gn key aR nR cR aE nE cE) 57)
  have B0 := Lib.hid (below_bk w (inoObj 1 sz gn key aR nR cR aE nE cE))
  have HC : Hid (∀ W : World, Calls Try.prog 61 #[.agg #[.int .i64 1, .int .i64 sz, .int .i64 gn, .string key, .slice aR nR cR, .slice aE nE cE]] W fun e w' => e = .returned (.iface 89 (.agg #[.int .i64 sz, .string key, .slice aR nR cR])) ∧ Below W.heap.size W w') := Lib.hid (fun W => implBody_any 1 sz gn key aR nR cR aE nE cE W)
  clear h hb hb1 hb2 hz hs hf
  go_enter Try.func28, Try.ntmps28
  go_upto_region 3 with ((with_reducible refine (implIn_yes _ H0.out).mono ?_); rintro e w1 ⟨rfl, rfl⟩)
  go_cut [3] (fun v wx => v = .bool (noFileB sz key nR) ∧ wx = w.alloc (inoObj 1 sz gn key aR nR cR aE nE cE))
  case first =>
    rcases noFile_cases sz key nR with ⟨rfl, rfl, rfl⟩ | ⟨rfl, rfl, h3⟩ | ⟨rfl, h3⟩ | h3
    · go_wp2_with fail
      go_meet
      exact ⟨rfl, rfl⟩
    · have e3 : ((nR : Int) == 0) = false := by simp; omega
      have HF9 : Hid (noFileB 0 ⟨#[]⟩ nR = false) := Lib.hid (decide_eq_false (fun x => by omega))
      go_wp2_with fail
      go_meet
      exact ⟨by rw [HF9.out], rfl⟩
    · have e4 : (key.toList == []) = false := text_full key (by omega)
      have HF9 : Hid (noFileB 0 key nR = false) := Lib.hid (decide_eq_false (fun x => by omega))
      go_wp2_with fail
      go_meet
      exact ⟨by rw [HF9.out], rfl⟩
    · have e4 : (sz == 0) = false := by simpa using h3
      have HF9 : Hid (noFileB sz key nR = false) := Lib.hid (decide_eq_false (fun x => h3 x.1))
      clear h3
      go_wp2_with fail
      go_meet
      exact ⟨by rw [HF9.out], rfl⟩
  case rest =>
    obtain ⟨rfl, rfl⟩ := hcut
    go_wp2_with fail
    refine (HC.out _).mono ?_
    rintro e w1 ⟨rfl, hb1⟩
    have B1 : Hid (Below w.heap.size w w1) := Lib.hid (B0.out.trans (hb1.mono B0.out.size))
    clear hb1
    have a1 := as_file (.agg #[.int .i64 sz, .string key, .slice aR nR cR]) w1
    have e9 : ((nE : Int) == 0) = decide (nE = 0) := by by_cases h : nE = 0 <;> simp [h]
    have B2 : Hid (Below w.heap.size w (w1.alloc (.cells #[.int .i64 sz, .string key, .slice aR nR cR] 89))) := Lib.hid (B1.out.alloc B1.out.size _)
    go_wp2_with fail
    refine (implFile_any sz key aR nR cR _ R HZ.out (HS.out.later B2.out) HF.out b1 HG1.out).mono ?_
    rintro e w2 ⟨rfl, hb2⟩
    have B3 : Hid (Below w.heap.size w w2) := Lib.hid (B2.out.trans (hb2.mono B2.out.size))
    clear hb2 HG1
    cases b1
    · obtain rfl : b = false := bool_no HG.out (fun x => by cases x.1)
      go_wp2
      go_ret
      exact ⟨rfl, B3.out⟩
    · obtain rfl : b = decide (nE = 0) := by
        by_cases h : nE = 0
        · rw [HG.out.2 ⟨rfl, h⟩, decide_eq_true h]
        · rw [bool_no HG.out (fun x => h x.2), decide_eq_false h]
      go_wp2
      go_ret
      exact ⟨rfl, B3.out⟩

set_option maxRecDepth 100000 in
set_option maxHeartbeats 1000000 in
theorem implIno_dir (h : 0 ≤ gn ∧ gn ≤ 65535) (E : List EntryR) (hn : nE ≤ 9223372036854775807) (hs : SrcEntry w aE nE E) (hf : FitEntry E nE 2000000) (b : Bool)
    (hb : b = true ↔ ((nE ≤ 6 ∧ EntsOk E nE) ∧ noFileB sz key nR = true)) :
    Calls Try.prog 28 #[.agg #[.int .i64 2, .int .i64 sz, .int .i64 gn, .string key, .slice aR nR cR, .slice aE nE cE]] w (SaysB b w) := by
  obtain ⟨b1, hb1⟩ : ∃ b1 : Bool, b1 = true ↔ (nE ≤ 6 ∧ EntsOk E nE) := bool_of _
  have hb2 : b = true ↔ (b1 = true ∧ noFileB sz key nR = true) := by rw [hb, hb1]
  have H0 := Lib.hid h
  have HG := Lib.hid hb2
  have HG1 := Lib.hid hb1
  have HN := Lib.hid hn
  have HS := Lib.hid hs
  have HF := Lib.hid hf
  have K0 := Lib.hid (Bk.alloc w (inoCs 2 sz gn key aR nR cR aE nE cE) 57)
  have B0 := Lib.hid (below_bk w (inoObj 2 sz gn key aR nR cR aE nE cE))
  have HC : Hid (∀ W : World, Calls Try.prog 61 #[.agg #[.int .i64 2, .int .i64 sz, .int .i64 gn, .string key, .slice aR nR cR, .slice aE nE cE]] W fun e w' => e = .returned (.iface 92 (.agg #[.slice aE nE cE])) ∧ Below W.heap.size W w') := Lib.hid (fun W => implBody_any 2 sz gn key aR nR cR aE nE cE W)
  clear h hb hb1 hb2 hn hs hf
  go_enter Try.func28, Try.ntmps28
  go_upto_region 3 with ((with_reducible refine (implIn_yes _ H0.out).mono ?_); rintro e w1 ⟨rfl, rfl⟩)
  go_cut [3] (fun v wx => v = .bool (noFileB sz key nR) ∧ wx = w.alloc (inoObj 2 sz gn key aR nR cR aE nE cE))
  case first =>
    rcases noFile_cases sz key nR with ⟨rfl, rfl, rfl⟩ | ⟨rfl, rfl, h3⟩ | ⟨rfl, h3⟩ | h3
    · go_wp2_with fail
      go_meet
      exact ⟨rfl, rfl⟩
    · have e3 : ((nR : Int) == 0) = false := by simp; omega
      have HF9 : Hid (noFileB 0 ⟨#[]⟩ nR = false) := Lib.hid (decide_eq_false (fun x => by omega))
      go_wp2_with fail
      go_meet
      exact ⟨by rw [HF9.out], rfl⟩
    · have e4 : (key.toList == []) = false := text_full key (by omega)
      have HF9 : Hid (noFileB 0 key nR = false) := Lib.hid (decide_eq_false (fun x => by omega))
      go_wp2_with fail
      go_meet
      exact ⟨by rw [HF9.out], rfl⟩
    · have e4 : (sz == 0) = false := by simpa using h3
      have HF9 : Hid (noFileB sz key nR = false) := Lib.hid (decide_eq_false (fun x => h3 x.1))
      clear h3
      go_wp2_with fail
      go_meet
      exact ⟨by rw [HF9.out], rfl⟩
  case rest =>
    obtain ⟨rfl, rfl⟩ := hcut
    go_wp2_with fail
    refine (HC.out _).mono ?_
    rintro e w1 ⟨rfl, hb1⟩
    have B1 : Hid (Below w.heap.size w w1) := Lib.hid (B0.out.trans (hb1.mono B0.out.size))
    clear hb1
    have a1 := dir_no_file (.agg #[.slice aE nE cE]) w1
    have a2 := as_dir (.agg #[.slice aE nE cE]) w1
    have B2 : Hid (Below w.heap.size w (w1.alloc (.cells #[.slice aE nE cE] 92))) := Lib.hid (B1.out.alloc B1.out.size _)
    go_wp2_with fail
    refine (implDir_any aE nE cE _ E HN.out (HS.out.later B2.out) HF.out b1 HG1.out).mono ?_
    rintro e w2 ⟨rfl, hb2⟩
    have B3 : Hid (Below w.heap.size w w2) := Lib.hid (B2.out.trans (hb2.mono B2.out.size))
    clear hb2 HG1
    obtain ⟨f, hf⟩ : ∃ f, noFileB sz key nR = f := ⟨_, rfl⟩
    rw [hf] at HG ⊢
    clear hf
    cases b1
    · obtain rfl : b = false := bool_no HG.out (fun x => by cases x.1)
      go_wp2
      go_ret
      exact ⟨rfl, B3.out⟩
    · obtain rfl : b = f := by
        cases f
        · exact bool_no HG.out (fun x => by cases x.2)
        · exact HG.out.2 ⟨rfl, rfl⟩
      go_wp2
      go_ret
      exact ⟨rfl, B3.out⟩

set_option maxRecDepth 100000 in
set_option maxHeartbeats 1000000 in
theorem implIno_other (kd : Int) (h : 0 ≤ gn ∧ gn ≤ 65535) (h0 : ¬ kd = 0) (h1 : ¬ kd = 1) (h2 : ¬ kd = 2) :
    Calls Try.prog 28 #[.agg #[.int .i64 kd, .int .i64 sz, .int .i64 gn, .string key, .slice aR nR cR, .slice aE nE cE]] w (SaysB false w) := by
  have H0 := Lib.hid h
  have K0 := Lib.hid (Bk.alloc w (inoCs kd sz gn key aR nR cR aE nE cE) 57)
  have B0 := Lib.hid (below_bk w (inoObj kd sz gn key aR nR cR aE nE cE))
  have HC : Hid (∀ W : World, Calls Try.prog 61 #[.agg #[.int .i64 kd, .int .i64 sz, .int .i64 gn, .string key, .slice aR nR cR, .slice aE nE cE]] W fun e w' => e = .returned (.nilIface) ∧ Below W.heap.size W w') := Lib.hid (fun W => by have h9 := implBody_any kd sz gn key aR nR cR aE nE cE W; unfold bodyV at h9; rw [if_neg h0, if_neg h1, if_neg h2] at h9; exact h9)
  clear h h0 h1 h2
  go_enter Try.func28, Try.ntmps28
  go_upto_region 3 with ((with_reducible refine (implIn_yes _ H0.out).mono ?_); rintro e w1 ⟨rfl, rfl⟩)
  go_cut [3] (fun v wx => v = .bool (noFileB sz key nR) ∧ wx = w.alloc (inoObj kd sz gn key aR nR cR aE nE cE))
  case first =>
    rcases noFile_cases sz key nR with ⟨rfl, rfl, rfl⟩ | ⟨rfl, rfl, h3⟩ | ⟨rfl, h3⟩ | h3
    · go_wp2_with fail
      go_meet
      exact ⟨rfl, rfl⟩
    · have e3 : ((nR : Int) == 0) = false := by simp; omega
      have HF9 : Hid (noFileB 0 ⟨#[]⟩ nR = false) := Lib.hid (decide_eq_false (fun x => by omega))
      go_wp2_with fail
      go_meet
      exact ⟨by rw [HF9.out], rfl⟩
    · have e4 : (key.toList == []) = false := text_full key (by omega)
      have HF9 : Hid (noFileB 0 key nR = false) := Lib.hid (decide_eq_false (fun x => by omega))
      go_wp2_with fail
      go_meet
      exact ⟨by rw [HF9.out], rfl⟩
    · have e4 : (sz == 0) = false := by simpa using h3
      have HF9 : Hid (noFileB sz key nR = false) := Lib.hid (decide_eq_false (fun x => h3 x.1))
      clear h3
      go_wp2_with fail
      go_meet
      exact ⟨by rw [HF9.out], rfl⟩
  case rest =>
    obtain ⟨rfl, rfl⟩ := hcut
    go_wp2_with fail
    refine (HC.out _).mono ?_
    rintro e w1 ⟨rfl, hb1⟩
    have B1 : Hid (Below w.heap.size w w1) := Lib.hid (B0.out.trans (hb1.mono B0.out.size))
    clear hb1
    have a1 := nil_no_file w1
    have a2 := nil_no_dir w1
    have a3 := nil_no_free w1
    go_wp2
    go_ret
    exact ⟨rfl, B1.out⟩
end

theorem implIno_any (kd sz gn : Int) (key : ByteArray) (aR : Option Addr) (nR cR : Nat) (aE : Option Addr) (nE cE : Nat) (w : World) (R : List RecR) (E : List EntryR)
    (hz : -9223372036854775808 ≤ sz ∧ sz ≤ 9223372036854775807) (hn : nE ≤ 9223372036854775807) (hs : SrcRec w aR nR R) (hf : FitRec R nR 2000000) (hs' : SrcEntry w aE nE E) (hf' : FitEntry E nE 2000000) :
    Calls Try.prog 28 #[.agg #[.int .i64 kd, .int .i64 sz, .int .i64 gn, .string key, .slice aR nR cR, .slice aE nE cE]] w (SaysB (inoB ⟨kd, sz, gn, key, R, E⟩) w) := by
  have hlR : R.length = nR := hs.len
  have hlE : E.length = nE := hs'.len
  by_cases hg : 0 ≤ gn ∧ gn ≤ 65535
  · by_cases h0 : kd = 0
    · subst h0
      exact implIno_free sz gn key aR nR cR aE nE cE w hg _ (by rw [inoB_iff, inoOk_free hg]; subst hlR hlE; simp [noFileB, and_assoc])
    · by_cases h1 : kd = 1
      · subst h1
        exact implIno_file sz gn key aR nR cR aE nE cE w hg R hz hs hf _ (by
          rw [inoB_iff, inoOk_file hg]
          subst hlR hlE
          exact ⟨fun x => ⟨⟨x.1, x.2.1, x.2.2.1, x.2.2.2.2⟩, x.2.2.2.1⟩, fun x => ⟨x.1.1, x.1.2.1, x.1.2.2.1, x.2, x.1.2.2.2⟩⟩)
      · by_cases h2 : kd = 2
        · subst h2
          exact implIno_dir sz gn key aR nR cR aE nE cE w hg E hn hs' hf' _ (by
            rw [inoB_iff, inoOk_dir hg]
            subst hlR hlE
            simp only [noFileB, decide_eq_true_eq]
            exact ⟨fun x => ⟨⟨x.2.2.2.1, x.2.2.2.2⟩, x.1, x.2.1, x.2.2.1⟩, fun x => ⟨x.2.1, x.2.2.1, x.2.2.2, x.1.1, x.1.2⟩⟩)
        · rw [inoB_no (fun x => by
            rcases x with ⟨_, ⟨e, _⟩ | ⟨e, _⟩ | ⟨e, _⟩⟩
            · exact h0 e
            · exact h1 e
            · exact h2 e)]
          exact implIno_other sz gn key aR nR cR aE nE cE w kd hg h0 h1 h2
  · rw [inoB_no (fun x => hg x.1)]
    exact implIno_gen sz gn key aR nR cR aE nE cE w kd hg
end Go.Proofs.Ytmkchilhnmkhkaa
namespace Go.Proofs.Ytmkchilhnmkhkaa
open Go.RowKit Go.Proofs.Ytmkchilhnmkhkaa.Parts Go.Proofs.Ytmkchilhnmkhkaa.Hexa

set_option maxRecDepth 100000 in
set_option maxHeartbeats 400000 in
theorem eqRec_any (x0 : Int) (x1 : Int) (x2 : ByteArray) (w : World) :
    Calls Try.prog 81 #[.agg #[.int .i64 x0, .int .i64 x1, .string x2], .agg #[.int .i64 x0, .int .i64 x1, .string x2]] w fun e w' => e = .returned (.bool true) ∧ Below w.heap.size w w' := by
  go_enter Try.func81, Try.ntmps81
  go_wp2
  go_ret
  exact ⟨rfl, ((Below.refl _ _).alloc (Nat.le_refl _) _).alloc (by simp) _⟩

end Go.Proofs.Ytmkchilhnmkhkaa
namespace Go.Proofs.Ytmkchilhnmkhkaa
open Go.RowKit Go.Proofs.Ytmkchilhnmkhkaa.Parts Go.Proofs.Ytmkchilhnmkhkaa.Hexa

set_option maxRecDepth 100000 in
set_option maxHeartbeats 400000 in
theorem szRec_any (x0 : Int) (x1 : Int) (x2 : ByteArray) (l : Int) (w : World) (h0 : 0 ≤ l) (hl : l ≤ 1048576) (hk2 : x2.size ≤ maxLen) :
    Calls Try.prog 78 #[.agg #[.int .i64 x0, .int .i64 x1, .string x2], .int .i64 l] w fun e w' => ∃ r, e = .returned (.int .i64 r) ∧ (r < 0 ∨ (0 ≤ r ∧ r ≤ l ∧ (x2.size : Int) ≤ l)) ∧ Below w.heap.size w w' := by
  unfold maxLen at hk2
  by_cases h1 : l - (x2.size : Int) < 0
  · go_enter Try.func78, Try.ntmps78
    go_wp2
    go_ret
    exact ⟨_, rfl, .inl (by omega), (Below.refl _ _).alloc (Nat.le_refl _) _⟩
  · go_enter Try.func78, Try.ntmps78
    go_wp2
    go_ret
    exact ⟨_, rfl, .inr (by omega), (Below.refl _ _).alloc (Nat.le_refl _) _⟩

set_option maxRecDepth 100000 in
set_option maxHeartbeats 400000 in
theorem toRec_any (x0 : Int) (x1 : Int) (x2 : ByteArray) (w : World) :
    Calls Try.prog 79 #[.agg #[.int .i64 x0, .int .i64 x1, .string x2]] w fun e w' => e = .returned (.agg #[.int .i64 x0, .int .i64 x1, .string x2]) ∧ Below w.heap.size w w' := by
  go_enter Try.func79, Try.ntmps79
  go_wp2
  refine bodyPost_ret (v := .agg #[.int .i64 x0, .int .i64 x1, .string x2]) ?_ rfl ⟨rfl, (((Below.refl _ _).alloc (Nat.le_refl _) _).alloc (by simp) _).alloc (by simp; omega) _⟩
  simp [results, Try.results79, go_sem]

set_option maxRecDepth 100000 in
set_option maxHeartbeats 1000000 in
theorem szRecs_any (a : Option Addr) (n c : Nat) (L : List RecR) (l0 : Int) (w : World) (hl0 : 0 ≤ l0) (hl1 : l0 ≤ 1048576) (hs : SrcRec w a n L) (hn : n ≤ 9223372036854775807) (hm : FitRec L n maxLen) :
    Calls Try.prog 55 #[.slice a n c, .int .i64 l0] w fun e w' => ∃ r, e = .returned (.int .i64 r) ∧ (r < 0 ∨ (0 ≤ r ∧ r ≤ l0 ∧ n ≤ 1048576 ∧ FitRec L n 1048576)) ∧ Below w.heap.size w w' := by
  have HS := Lib.hid hs
  have HM := Lib.hid hm
  clear hs hm
  by_cases hlt0 : l0 - (n : Int) < 0
  · go_enter Try.func55, Try.ntmps55
    go_wp2
    go_ret
    exact ⟨-1, rfl, .inl (by omega), Below.refl _ _⟩
  · go_enter Try.func55, Try.ntmps55
    go_wp2
    go_loopw [1, 5] (fun lv iv wr => ∃ (k : Nat) (l : Int), k ≤ n ∧ iv = .int .i64 k ∧ lv = .int .i64 l ∧ 0 ≤ l ∧ l ≤ l0 ∧ Hid (∀ j, j < k → (L.getD j default).f2.size ≤ 1048576) ∧ Below w.heap.size w wr) (fun _ iv _ => n - (intOf iv).toNat)
    case atStart => exact ⟨0, _, Nat.zero_le _, rfl, rfl, by omega, by omega, Lib.hid (fun j hj => by omega), Below.refl _ _⟩
    case round =>
      obtain ⟨k, l, hk, rfl, rfl, h0, hl, HA, hbel⟩ := hrel
      by_cases hlt : k < n
      · obtain ⟨g, off, rfl, hg, d0, d1, d2⟩ := srcRec_later HS.out hbel (Nat.le_refl _) k hlt
        obtain ⟨x, hx⟩ : ∃ x, L.getD k default = x := ⟨_, rfl⟩
        rw [hx] at d0 d1 d2
        go_wp2_with fail
        have hm0 := HM.out k hlt
        rw [hx] at hm0
        have hm := hm0
        refine (szRec_any x.f0 x.f1 x.f2 l _ h0 (by omega) hm).mono ?_
        rintro e w1 ⟨r, rfl, hr, hb1⟩
        have hb2 : Below w.heap.size w w1 := hbel.trans (hb1.mono hbel.size)
        clear d0 d1 d2 hb1 hm
        rcases hr with h1 | ⟨h1, h2, h32⟩
        · go_wp2
          go_ret
          exact ⟨-1, rfl, .inl (by omega), hb2⟩
        · have HA2 : Hid (∀ j, j < k + 1 → (L.getD j default).f2.size ≤ 1048576) := Lib.hid (fun j hj => by
            by_cases e : j = k
            · subst e; rw [hx]; omega
            · exact HA.out j (by omega))
          clear HA hx h32
          go_wp2
          go_roundw
          case rel => exact ⟨k + 1, r, by omega, by go_num, rfl, h1, by omega, HA2, hb2⟩
          case measure => (simp [intOf]; try omega)
      · obtain rfl : k = n := by omega
        go_wp2
        go_ret
        refine ⟨l, rfl, .inr ⟨h0, hl, by omega, fun j hj => HA.out j hj⟩, hbel⟩
end Go.Proofs.Ytmkchilhnmkhkaa
namespace Go.Proofs.Ytmkchilhnmkhkaa
open Go.RowKit Go.Proofs.Ytmkchilhnmkhkaa.Parts Go.Proofs.Ytmkchilhnmkhkaa.Hexa

/-- What the copy returns. -/
def CopyRec (n : Nat) (L : List RecR) (w : World) (e : Ending) (w' : World) : Prop :=
  e = .returned (.slice (some ⟨w.heap.size, 0, none⟩) n n) ∧ w'.ownsRow w.heap.size 83 3 (.slice (some ⟨w.heap.size, 0, none⟩) n n) n (cellsE encRec L) ∧ Below w.heap.size w w'

set_option maxRecDepth 100000 in
set_option maxHeartbeats 1000000 in
theorem toRecs_any (a : Option Addr) (n c : Nat) (L : List RecR) (w : World) (hs : SrcRec w a n L) (hn : n ≤ 1048576) :
    Calls Try.prog 59 #[.slice a n c] w (CopyRec n L w) := by
  obtain ⟨i0, hi, hz0, hz1, hz2⟩ := info_parts infoRec
  have HS := Lib.hid hs
  have hL := hs.len
  clear hs
  go_enter Try.func59, Try.ntmps59
  go_wp2_with (at_make; refine wpList_make_full _ rfl _ _ 54 rfl w.heap.size 83 i0 _ 3 Try.underlying54 hi hz0 hz1 .i64 .i64 _ _ n rfl rfl rfl rfl (by rw [hz2]; omega) (by unfold maxLen; omega) (Nat.le_refl _) ?_; intro w0 hown0 hgrow0)
  have hg0 : Below w.heap.size w w0 := (Below.refl _ _).grown hgrow0 (Nat.le_refl _) (fun k h => by cases h)
  have HO0 := Lib.hid hown0
  clear hown0 hgrow0
  go_loopw [4] (fun iv wr => ∃ (k : Nat) (xs : List Value), k ≤ n ∧ iv = .int .i64 k ∧ Hid (wr.ownsRow w.heap.size 83 3 (.slice (some ⟨w.heap.size, 0, none⟩) n n) n xs) ∧ Hid (∀ j, j < k * 3 → xs[j]? = (cellsE encRec L)[j]?) ∧ Below w.heap.size w wr)
    (fun iv _ => n - (intOf iv).toNat)
  case atStart => exact ⟨0, _, Nat.zero_le _, rfl, HO0, Lib.hid (fun j hj => by omega), hg0⟩
  case round =>
    clear HO0 hg0
    obtain ⟨k, xs, hk, rfl, HW, HX, hbel⟩ := hrel
    have hxl : Hid (xs.length = n * 3) := Lib.hid HW.out.1
    by_cases hlt : k < n
    · obtain ⟨g, off, rfl, hg, d0, d1, d2⟩ := srcRec_later HS.out hbel (Nat.le_refl _) k hlt
      have X1 := Lib.hid (cellsE_step encRec (by omega) (by rw [hL]; exact hxl.out) HX.out)
      obtain ⟨x, hx⟩ : ∃ x, L.getD k default = x := ⟨_, rfl⟩
      rw [hx] at d0 d1 d2 X1
      clear hx
      go_wp2_with fail
      refine (toRec_any x.f0 x.f1 x.f2 _).mono ?_
      rintro e w1 ⟨rfl, hb1⟩
      have HW1 := Lib.hid (own_below HW.out hb1)
      obtain ⟨v0, e0⟩ := ownE_cell HW1.out (j := k * 3) (by omega)
      obtain ⟨v1, e1⟩ := ownE_cell HW1.out (j := k * 3 + 1) (by omega)
      obtain ⟨v2, e2⟩ := ownE_cell HW1.out (j := k * 3 + 2) (by omega)
      have z0 := HW1.out.frozenAt (k * 3)
      have z1 := HW1.out.frozenAt (k * 3 + 1)
      have z2 := HW1.out.frozenAt (k * 3 + 2)
      have O1 := Lib.hid (own_sets (encRec.cells x) (k * 3) HW1.out)
      have hbx : Below w.heap.size w w1 := hbel.trans (hb1.mono hbel.size)
      have hb2 : Hid (Below w.heap.size w (w1.setCells w.heap.size (k * 3) (encRec.cells x))) := Lib.hid (below_sets (Nat.le_refl _) _ _ hbx)
      clear d0 d1 d2 hb1 hbx
      go_wp2
      go_roundw
      case rel => exact ⟨k + 1, _, by omega, by go_num, O1, X1, hb2.out⟩
      case measure => (simp [intOf]; try omega)
    · obtain rfl : k = n := by omega
      have hfin : xs = cellsE encRec L := cellsE_all encRec (by rw [hL]; exact hxl.out) (by rw [hL]; exact HX.out)
      have ho := HW.out
      rw [hfin] at ho
      have HO := Lib.hid ho
      clear ho hfin
      go_wp2
      go_ret
      exact ⟨rfl, HO.out, hbel⟩

end Go.Proofs.Ytmkchilhnmkhkaa
namespace Go.Proofs.Ytmkchilhnmkhkaa
open Go.RowKit Go.Proofs.Ytmkchilhnmkhkaa.Parts Go.Proofs.Ytmkchilhnmkhkaa.Hexa

/-- What the copy returns. -/
def CopyEntry (n : Nat) (L : List EntryR) (w : World) (e : Ending) (w' : World) : Prop :=
  e = .returned (.slice (some ⟨w.heap.size, 0, none⟩) n n) ∧ w'.ownsRow w.heap.size 45 2 (.slice (some ⟨w.heap.size, 0, none⟩) n n) n (cellsE encEntry L) ∧ Below w.heap.size w w'

set_option maxRecDepth 100000 in
set_option maxHeartbeats 1000000 in
theorem toEntrys_any (a : Option Addr) (n c : Nat) (L : List EntryR) (w : World) (hs : SrcEntry w a n L) (hn : n ≤ 1048576) :
    Calls Try.prog 60 #[.slice a n c] w (CopyEntry n L w) := by
  obtain ⟨i0, hi, hz0, hz1, hz2⟩ := info_parts infoEntry
  have HS := Lib.hid hs
  have hL := hs.len
  clear hs
  go_enter Try.func60, Try.ntmps60
  go_wp2_with (at_make; refine wpList_make_full _ rfl _ _ 55 rfl w.heap.size 45 i0 _ 2 Try.underlying55 hi hz0 hz1 .i64 .i64 _ _ n rfl rfl rfl rfl (by rw [hz2]; omega) (by unfold maxLen; omega) (Nat.le_refl _) ?_; intro w0 hown0 hgrow0)
  have hg0 : Below w.heap.size w w0 := (Below.refl _ _).grown hgrow0 (Nat.le_refl _) (fun k h => by cases h)
  have HO0 := Lib.hid hown0
  clear hown0 hgrow0
  go_loopw [4] (fun iv wr => ∃ (k : Nat) (xs : List Value), k ≤ n ∧ iv = .int .i64 k ∧ Hid (wr.ownsRow w.heap.size 45 2 (.slice (some ⟨w.heap.size, 0, none⟩) n n) n xs) ∧ Hid (∀ j, j < k * 2 → xs[j]? = (cellsE encEntry L)[j]?) ∧ Below w.heap.size w wr)
    (fun iv _ => n - (intOf iv).toNat)
  case atStart => exact ⟨0, _, Nat.zero_le _, rfl, HO0, Lib.hid (fun j hj => by omega), hg0⟩
  case round =>
    clear HO0 hg0
    obtain ⟨k, xs, hk, rfl, HW, HX, hbel⟩ := hrel
    have hxl : Hid (xs.length = n * 2) := Lib.hid HW.out.1
    by_cases hlt : k < n
    · obtain ⟨g, off, rfl, hg, d0, d1⟩ := srcEntry_later HS.out hbel (Nat.le_refl _) k hlt
      have X1 := Lib.hid (cellsE_step encEntry (by omega) (by rw [hL]; exact hxl.out) HX.out)
      obtain ⟨x, hx⟩ : ∃ x, L.getD k default = x := ⟨_, rfl⟩
      rw [hx] at d0 d1 X1
      clear hx
      go_wp2_with fail
      refine (toEntry_any x.f0 x.f1 _).mono ?_
      rintro e w1 ⟨rfl, hb1⟩
      have HW1 := Lib.hid (own_below HW.out hb1)
      obtain ⟨v0, e0⟩ := ownE_cell HW1.out (j := k * 2) (by omega)
      obtain ⟨v1, e1⟩ := ownE_cell HW1.out (j := k * 2 + 1) (by omega)
      have z0 := HW1.out.frozenAt (k * 2)
      have z1 := HW1.out.frozenAt (k * 2 + 1)
      have O1 := Lib.hid (own_sets (encEntry.cells x) (k * 2) HW1.out)
      have hbx : Below w.heap.size w w1 := hbel.trans (hb1.mono hbel.size)
      have hb2 : Hid (Below w.heap.size w (w1.setCells w.heap.size (k * 2) (encEntry.cells x))) := Lib.hid (below_sets (Nat.le_refl _) _ _ hbx)
      clear d0 d1 hb1 hbx
      go_wp2
      go_roundw
      case rel => exact ⟨k + 1, _, by omega, by go_num, O1, X1, hb2.out⟩
      case measure => (simp [intOf]; try omega)
    · obtain rfl : k = n := by omega
      have hfin : xs = cellsE encEntry L := cellsE_all encEntry (by rw [hL]; exact hxl.out) (by rw [hL]; exact HX.out)
      have ho := HW.out
      rw [hfin] at ho
      have HO := Lib.hid ho
      clear ho hfin
      go_wp2
      go_ret
      exact ⟨rfl, HO.out, hbel⟩

end Go.Proofs.Ytmkchilhnmkhkaa
namespace Go.Proofs.Ytmkchilhnmkhkaa
open Go.RowKit Go.Proofs.Ytmkchilhnmkhkaa.Parts Go.Proofs.Ytmkchilhnmkhkaa.Hexa

set_option maxRecDepth 100000 in
set_option maxHeartbeats 1000000 in
theorem szIno_any (kd sz gn : Int) (key : ByteArray) (aR : Option Addr) (nR cR : Nat) (aE : Option Addr) (nE cE : Nat) (R : List RecR) (E : List EntryR) (w : World)
    (hk : key.size ≤ maxLen) (hs : SrcRec w aR nR R) (hn : nR ≤ 9223372036854775807) (hm : FitRec R nR maxLen) (hs' : SrcEntry w aE nE E) (hn' : nE ≤ 9223372036854775807) (hm' : FitEntry E nE maxLen) :
    Calls Try.prog 25 #[.agg #[.int .i64 kd, .int .i64 sz, .int .i64 gn, .string key, .slice aR nR cR, .slice aE nE cE], .int .i64 1048576] w fun e w' =>
      ∃ r, e = .returned (.int .i64 r) ∧ (r < 0 ∨ (0 ≤ r ∧ key.size ≤ 1048576 ∧ nR ≤ 1048576 ∧ FitRec R nR 1048576 ∧ nE ≤ 1048576 ∧ FitEntry E nE 1048576)) ∧ Below w.heap.size w w' := by
  have B0 := Lib.hid (below_bk w (.cells #[.int .i64 kd, .int .i64 sz, .int .i64 gn, .string key, .slice aR nR cR, .slice aE nE cE] 51))
  have T0 := Lib.hid (Bk.alloc w #[.int .i64 kd, .int .i64 sz, .int .i64 gn, .string key, .slice aR nR cR, .slice aE nE cE] 51)
  have HS := Lib.hid hs
  have HS' := Lib.hid hs'
  have HM := Lib.hid hm
  have HM' := Lib.hid hm'
  have HN := Lib.hid hn
  have HN' := Lib.hid hn'
  unfold maxLen at hk
  clear hs hs' hm hm' hn hn'
  by_cases h1 : (1048576 : Int) - (key.size : Int) < 0
  · go_enter Try.func25, Try.ntmps25
    go_wp2
    go_ret
    exact ⟨-1, rfl, .inl (by omega), B0.out⟩
  · obtain ⟨l, hl⟩ : ∃ l : Int, (1048576 : Int) - (key.size : Int) = l := ⟨_, rfl⟩
    have HL := Lib.hid hl
    have hl0 : 0 ≤ l := by omega
    have hl1 : l ≤ 1048576 := by omega
    clear h1 hk
    go_enter Try.func25, Try.ntmps25
    go_wp2_with fail
    refine (szRecs_any aR nR cR R l _ hl0 hl1 (HS.out.later B0.out) HN.out HM.out).mono ?_
    rintro e w1 ⟨r, rfl, hr | ⟨hr0, hr1, hr2, hr3⟩, hb1⟩
    · have B1 : Hid (Below w.heap.size w w1) := Lib.hid (B0.out.trans (hb1.mono B0.out.size))
      clear hb1
      go_wp2
      go_ret
      exact ⟨-1, rfl, .inl (by omega), B1.out⟩
    · have B1 : Hid (Below w.heap.size w w1) := Lib.hid (B0.out.trans (hb1.mono B0.out.size))
      have T1 := Lib.hid (T0.out.later hb1)
      have c5 := T1.out.cell (j := 5) rfl
      have hr : ¬ (r < 0) := by omega
      have HR2 := Lib.hid hr2
      have HR3 := Lib.hid hr3
      clear hb1 hr2 hr3 hl
      go_wp2_with fail
      refine (szEntrys_any aE nE cE E r _ hr0 (by omega) (HS'.out.later B1.out) HN'.out HM'.out).mono ?_
      rintro e w2 ⟨r2, rfl, hq | ⟨hq0, hq1, hq2, hq3⟩, hb2⟩
      · have B2 : Hid (Below w.heap.size w w2) := Lib.hid (B1.out.trans (hb2.mono B1.out.size))
        clear hb2
        go_wp2
        go_ret
        exact ⟨-1, rfl, .inl (by omega), B2.out⟩
      · have B2 : Hid (Below w.heap.size w w2) := Lib.hid (B1.out.trans (hb2.mono B1.out.size))
        have hq : ¬ (r2 < 0) := by omega
        have HQ2 := Lib.hid hq2
        have HQ3 := Lib.hid hq3
        clear hb2 hq2 hq3
        go_wp2
        go_ret
        exact ⟨r2, rfl, .inr ⟨by omega, by have := HL.out; omega, HR2.out, HR3.out, HQ2.out, HQ3.out⟩, B2.out⟩

/-- What the copy returns. -/
def CopyIno (kd sz gn : Int) (key : ByteArray) (nR nE : Nat) (R : List RecR) (E : List EntryR) (w : World) (e : Ending) (w' : World) : Prop :=
  ∃ gR gE, e = .returned (.agg #[.int .i64 kd, .int .i64 sz, .int .i64 gn, .string key, .slice (some ⟨gR, 0, none⟩) nR nR, .slice (some ⟨gE, 0, none⟩) nE nE]) ∧ w.heap.size ≤ gR ∧ gR < gE ∧ gE < w'.heap.size
    ∧ w'.ownsRow w.heap.size 83 3 (.slice (some ⟨gR, 0, none⟩) nR nR) nR (cellsE encRec R) ∧ w'.ownsRow w.heap.size 45 2 (.slice (some ⟨gE, 0, none⟩) nE nE) nE (cellsE encEntry E) ∧ Below w.heap.size w w'

set_option maxRecDepth 100000 in
set_option maxHeartbeats 1000000 in
theorem toIno_any (kd sz gn : Int) (key : ByteArray) (aR : Option Addr) (nR cR : Nat) (aE : Option Addr) (nE cE : Nat) (R : List RecR) (E : List EntryR) (w : World)
    (hs : SrcRec w aR nR R) (hn : nR ≤ 1048576) (hs' : SrcEntry w aE nE E) (hn' : nE ≤ 1048576) :
    Calls Try.prog 27 #[.agg #[.int .i64 kd, .int .i64 sz, .int .i64 gn, .string key, .slice aR nR cR, .slice aE nE cE]] w (CopyIno kd sz gn key nR nE R E w) := by
  have B0 := Lib.hid (below_bk w (.cells #[.int .i64 kd, .int .i64 sz, .int .i64 gn, .string key, .slice aR nR cR, .slice aE nE cE] 51))
  have HS := Lib.hid hs
  have HS' := Lib.hid hs'
  clear hs hs'
  go_enter Try.func27, Try.ntmps27
  go_wp2_with fail
  have hb1 := below_bk (w.alloc (.cells #[.int .i64 kd, .int .i64 sz, .int .i64 gn, .string key, .slice aR nR cR, .slice aE nE cE] 51)) (.cells #[.int .i64 0, .int .i64 0, .int .i64 0, .string ⟨#[]⟩, .slice none 0 0, .slice none 0 0] 57)
  have hb2 := below_bk ((w.alloc (.cells #[.int .i64 kd, .int .i64 sz, .int .i64 gn, .string key, .slice aR nR cR, .slice aE nE cE] 51)).alloc (.cells #[.int .i64 0, .int .i64 0, .int .i64 0, .string ⟨#[]⟩, .slice none 0 0, .slice none 0 0] 57)) (.cells #[.int .i64 kd, .int .i64 sz, .int .i64 gn, .string key, .slice none 0 0, .slice none 0 0] 57)
  have T3 := Lib.hid (((Bk.alloc w #[.int .i64 kd, .int .i64 sz, .int .i64 gn, .string key, .slice aR nR cR, .slice aE nE cE] 51).later hb1).later hb2)
  have Z3 : Hid (Bk (((w.alloc (.cells #[.int .i64 kd, .int .i64 sz, .int .i64 gn, .string key, .slice aR nR cR, .slice aE nE cE] 51)).alloc (.cells #[.int .i64 0, .int .i64 0, .int .i64 0, .string ⟨#[]⟩, .slice none 0 0, .slice none 0 0] 57)).alloc (.cells #[.int .i64 kd, .int .i64 sz, .int .i64 gn, .string key, .slice none 0 0, .slice none 0 0] 57)) (w.heap.size + 1) #[.int .i64 0, .int .i64 0, .int .i64 0, .string ⟨#[]⟩, .slice none 0 0, .slice none 0 0] 57) := Lib.hid (by
    have h := (Bk.alloc (w.alloc (.cells #[.int .i64 kd, .int .i64 sz, .int .i64 gn, .string key, .slice aR nR cR, .slice aE nE cE] 51)) #[.int .i64 0, .int .i64 0, .int .i64 0, .string ⟨#[]⟩, .slice none 0 0, .slice none 0 0] 57).later hb2
    simpa using h)
  have O3 : Hid (Bk (((w.alloc (.cells #[.int .i64 kd, .int .i64 sz, .int .i64 gn, .string key, .slice aR nR cR, .slice aE nE cE] 51)).alloc (.cells #[.int .i64 0, .int .i64 0, .int .i64 0, .string ⟨#[]⟩, .slice none 0 0, .slice none 0 0] 57)).alloc (.cells #[.int .i64 kd, .int .i64 sz, .int .i64 gn, .string key, .slice none 0 0, .slice none 0 0] 57)) (w.heap.size + 1 + 1) #[.int .i64 kd, .int .i64 sz, .int .i64 gn, .string key, .slice none 0 0, .slice none 0 0] 57) := Lib.hid (by
    have h := Bk.alloc ((w.alloc (.cells #[.int .i64 kd, .int .i64 sz, .int .i64 gn, .string key, .slice aR nR cR, .slice aE nE cE] 51)).alloc (.cells #[.int .i64 0, .int .i64 0, .int .i64 0, .string ⟨#[]⟩, .slice none 0 0, .slice none 0 0] 57)) #[.int .i64 kd, .int .i64 sz, .int .i64 gn, .string key, .slice none 0 0, .slice none 0 0] 57
    simpa using h)
  have B3 : Hid (Below w.heap.size w (((w.alloc (.cells #[.int .i64 kd, .int .i64 sz, .int .i64 gn, .string key, .slice aR nR cR, .slice aE nE cE] 51)).alloc (.cells #[.int .i64 0, .int .i64 0, .int .i64 0, .string ⟨#[]⟩, .slice none 0 0, .slice none 0 0] 57)).alloc (.cells #[.int .i64 kd, .int .i64 sz, .int .i64 gn, .string key, .slice none 0 0, .slice none 0 0] 57))) := Lib.hid ((B0.out.alloc B0.out.size _).alloc (by simp; omega) _)
  have N3 : Hid ((((w.alloc (.cells #[.int .i64 kd, .int .i64 sz, .int .i64 gn, .string key, .slice aR nR cR, .slice aE nE cE] 51)).alloc (.cells #[.int .i64 0, .int .i64 0, .int .i64 0, .string ⟨#[]⟩, .slice none 0 0, .slice none 0 0] 57)).alloc (.cells #[.int .i64 kd, .int .i64 sz, .int .i64 gn, .string key, .slice none 0 0, .slice none 0 0] 57)).heap.size = w.heap.size + 3) := Lib.hid (by simp)
  obtain ⟨W3, h3⟩ : ∃ x, x = (((w.alloc (.cells #[.int .i64 kd, .int .i64 sz, .int .i64 gn, .string key, .slice aR nR cR, .slice aE nE cE] 51)).alloc (.cells #[.int .i64 0, .int .i64 0, .int .i64 0, .string ⟨#[]⟩, .slice none 0 0, .slice none 0 0] 57)).alloc (.cells #[.int .i64 kd, .int .i64 sz, .int .i64 gn, .string key, .slice none 0 0, .slice none 0 0] 57)) := ⟨_, rfl⟩
  rw [← h3] at T3 Z3 O3 B3 N3 ⊢
  clear h3 hb1 hb2
  obtain ⟨q, hq⟩ : ∃ q, w.heap.size = q := ⟨_, rfl⟩
  have HQ := Lib.hid hq
  refine (toRecs_any aR nR cR R _ (HS.out.later B3.out) hn).mono ?_
  rintro e w4 ⟨rfl, hown4, hb4⟩
  have T4 := Lib.hid (T3.out.later hb4)
  have Z4 := Lib.hid (Z3.out.later hb4)
  have O4 := Lib.hid (O3.out.later hb4)
  have B4 : Hid (Below w.heap.size w w4) := Lib.hid (B3.out.trans (hb4.mono B3.out.size))
  obtain ⟨gR, hgR⟩ : ∃ g, W3.heap.size = g := ⟨_, rfl⟩
  rw [hgR] at hown4 ⊢
  have G4 : Hid (gR = w.heap.size + 3) := Lib.hid (by rw [← hgR]; exact N3.out)
  have HO4 : Hid (w4.ownsRow gR 83 3 (.slice (some ⟨gR, 0, none⟩) nR nR) nR (cellsE encRec R)) := Lib.hid hown4
  clear hown4 hgR hb4 T3 Z3 O3 B3 hq
  have x4 := O4.out.cell (j := 4) rfl
  have f4 := O4.out.fr (o := 4)
  have O5 := Lib.hid (O4.out.set 4 (.slice (some ⟨gR, 0, none⟩) nR nR))
  have T5 := Lib.hid (T4.out.other (c := w.heap.size + 1 + 1) (o := 4) (by omega) (.slice (some ⟨gR, 0, none⟩) nR nR))
  have Z5 := Lib.hid (Z4.out.other (c := w.heap.size + 1 + 1) (o := 4) (by omega) (.slice (some ⟨gR, 0, none⟩) nR nR))
  have B5 : Hid (Below w.heap.size w (w4.setCell ⟨w.heap.size + 1 + 1, 4, none⟩ (.slice (some ⟨gR, 0, none⟩) nR nR))) := Lib.hid (B4.out.setCell (by show w.heap.size ≤ w.heap.size + 1 + 1; omega) _)
  have HO5 := Lib.hid (ownE_but HO4.out ((ButE.refl (w.heap.size + 1 + 1) w4).then_set 4 (.slice (some ⟨gR, 0, none⟩) nR nR)) (fun g hg => by have h9 := G4.out; have e : gR = g := Option.some.inj hg; omega))
  have c5 := T5.out.cell (j := 5) rfl
  have S5 : Hid (gR < (w4.setCell ⟨w.heap.size + 1 + 1, 4, none⟩ (.slice (some ⟨gR, 0, none⟩) nR nR)).heap.size) := Lib.hid (ownE_lt HO5.out)
  go_wp2_with fail
  obtain ⟨W5, h5⟩ : ∃ x, x = w4.setCell ⟨w.heap.size + 1 + 1, 4, none⟩ (.slice (some ⟨gR, 0, none⟩) nR nR) := ⟨_, rfl⟩
  rw [← h5] at O5 T5 Z5 B5 HO5 S5 ⊢
  clear h5 x4 f4 c5
  refine (toEntrys_any aE nE cE E _ (HS'.out.later B5.out) hn').mono ?_
  rintro e w6 ⟨rfl, hown6, hb6⟩
  have Z6 := Lib.hid (Z5.out.later hb6)
  have O6 := Lib.hid (O5.out.later hb6)
  have HO6 := Lib.hid (own_below HO5.out hb6)
  have B6 : Hid (Below w.heap.size w w6) := Lib.hid (B5.out.trans (hb6.mono B5.out.size))
  obtain ⟨gE, hgE⟩ : ∃ g, W5.heap.size = g := ⟨_, rfl⟩
  rw [hgE] at hown6 S5 ⊢
  have HE6 : Hid (w6.ownsRow gE 45 2 (.slice (some ⟨gE, 0, none⟩) nE nE) nE (cellsE encEntry E)) := Lib.hid hown6
  clear hown6 hgE hb6
  have x5 := O6.out.cell (j := 5) rfl
  have f5 := O6.out.fr (o := 5)
  have O7 := Lib.hid (O6.out.set 5 (.slice (some ⟨gE, 0, none⟩) nE nE))
  have Z7 := Lib.hid (Z6.out.other (c := w.heap.size + 1 + 1) (o := 5) (by omega) (.slice (some ⟨gE, 0, none⟩) nE nE))
  have B7 : Hid (Below w.heap.size w (w6.setCell ⟨w.heap.size + 1 + 1, 5, none⟩ (.slice (some ⟨gE, 0, none⟩) nE nE))) := Lib.hid (B6.out.setCell (by show w.heap.size ≤ w.heap.size + 1 + 1; omega) _)
  have K7 := Lib.hid ((ButE.refl (w.heap.size + 1 + 1) w6).then_set 5 (.slice (some ⟨gE, 0, none⟩) nE nE))
  have HO7 := Lib.hid (ownE_but HO6.out K7.out (fun g hg => by have h9 := G4.out; have e : gR = g := Option.some.inj hg; omega))
  have HE7 := Lib.hid (ownE_but HE6.out K7.out (fun g hg => by have h9 := G4.out; have h8 := S5.out; have e : gE = g := Option.some.inj hg; omega))
  have y0 := O7.out.cell (j := 0) rfl
  have y1 := O7.out.cell (j := 1) rfl
  have y2 := O7.out.cell (j := 2) rfl
  have y3 := O7.out.cell (j := 3) rfl
  have y4 := O7.out.cell (j := 4) rfl
  have y5 := O7.out.cell (j := 5) rfl
  have z0 := Z7.out.cell (j := 0) rfl
  have z1 := Z7.out.cell (j := 1) rfl
  have z2 := Z7.out.cell (j := 2) rfl
  have z3 := Z7.out.cell (j := 3) rfl
  have z4 := Z7.out.cell (j := 4) rfl
  have z5 := Z7.out.cell (j := 5) rfl
  have g0 := Z7.out.fr (o := 0)
  have g1 := Z7.out.fr (o := 1)
  have g2 := Z7.out.fr (o := 2)
  have g3 := Z7.out.fr (o := 3)
  have g4 := Z7.out.fr (o := 4)
  have g5 := Z7.out.fr (o := 5)
  have qf := ((((((Z7.out.set 0 (.int .i64 kd)).set 1 (.int .i64 sz)).set 2 (.int .i64 gn)).set 3 (.string key)).set 4 (.slice (some ⟨gR, 0, none⟩) nR nR)).set 5 (.slice (some ⟨gE, 0, none⟩) nE nE))
  have q0 := qf.cell (j := 0) rfl
  have q1 := qf.cell (j := 1) rfl
  have q2 := qf.cell (j := 2) rfl
  have q3 := qf.cell (j := 3) rfl
  have q4 := qf.cell (j := 4) rfl
  have q5 := qf.cell (j := 5) rfl
  clear qf
  have K8 := (((((((ButE.refl (w.heap.size + 1) (w6.setCell ⟨w.heap.size + 1 + 1, 5, none⟩ (.slice (some ⟨gE, 0, none⟩) nE nE))).then_set 0 (.int .i64 kd)).then_set 1 (.int .i64 sz)).then_set 2 (.int .i64 gn)).then_set 3 (.string key)).then_set 4 (.slice (some ⟨gR, 0, none⟩) nR nR)).then_set 5 (.slice (some ⟨gE, 0, none⟩) nE nE))
  have HO8 := Lib.hid (ownE_mono (B' := w.heap.size) (ownE_but HO7.out K8 (fun g hg => by have h9 := G4.out; have e : gR = g := Option.some.inj hg; omega)) (by have h9 := G4.out; omega))
  have HE8 := Lib.hid (ownE_mono (B' := w.heap.size) (ownE_but HE7.out K8 (fun g hg => by have h9 := G4.out; have h8 := S5.out; have e : gE = g := Option.some.inj hg; omega)) (by have h9 := G4.out; have h8 := S5.out; omega))
  have B8 := Lib.hid ((((((B7.out.setCell (p := ⟨w.heap.size + 1, 0, none⟩) (by show w.heap.size ≤ w.heap.size + 1; omega) (.int .i64 kd)).setCell (p := ⟨w.heap.size + 1, 1, none⟩) (by show w.heap.size ≤ w.heap.size + 1; omega) (.int .i64 sz)).setCell (p := ⟨w.heap.size + 1, 2, none⟩) (by show w.heap.size ≤ w.heap.size + 1; omega) (.int .i64 gn)).setCell (p := ⟨w.heap.size + 1, 3, none⟩) (by show w.heap.size ≤ w.heap.size + 1; omega) (.string key)).setCell (p := ⟨w.heap.size + 1, 4, none⟩) (by show w.heap.size ≤ w.heap.size + 1; omega) (.slice (some ⟨gR, 0, none⟩) nR nR)).setCell (p := ⟨w.heap.size + 1, 5, none⟩) (by show w.heap.size ≤ w.heap.size + 1; omega) (.slice (some ⟨gE, 0, none⟩) nE nE))
  clear K8
  go_wp2
  refine bodyPost_ret (v := .agg #[.int .i64 kd, .int .i64 sz, .int .i64 gn, .string key, .slice (some ⟨gR, 0, none⟩) nR nR, .slice (some ⟨gE, 0, none⟩) nE nE]) ?_ rfl ⟨gR, gE, rfl, by have h9 := G4.out; omega, S5.out, ownE_lt HE8.out, HO8.out, HE8.out, B8.out⟩
  simp [results, Try.results27, go_sem, q0, q1, q2, q3, q4, q5]
end Go.Proofs.Ytmkchilhnmkhkaa
namespace Go.Proofs.Ytmkchilhnmkhkaa
open Go.RowKit Go.Proofs.Ytmkchilhnmkhkaa.Parts Go.Proofs.Ytmkchilhnmkhkaa.Hexa

set_option maxRecDepth 100000 in
set_option maxHeartbeats 1000000 in
theorem eqRecs_any (a1 a2 : Option Addr) (n c1 c2 : Nat) (L : List RecR) (w : World) (hn : n ≤ 100000000) (s1 : SrcRec w a1 n L) (s2 : SrcRec w a2 n L) :
    Calls Try.prog 64 #[.slice a1 n c1, .slice a2 n c2] w fun e w' => e = .returned (.bool true) ∧ Below w.heap.size w w' := by
  have R1 := Lib.hid s1
  have R2 := Lib.hid s2
  clear s1 s2
  go_enter Try.func64, Try.ntmps64
  go_wp2
  go_loopw [5] (fun iv wr => ∃ k : Nat, k ≤ n ∧ iv = .int .i64 k ∧ Below w.heap.size w wr) (fun iv _ => n - (intOf iv).toNat)
  case atStart => exact ⟨0, Nat.zero_le _, rfl, Below.refl _ _⟩
  case round =>
    obtain ⟨k, hk, rfl, hbel⟩ := hrel
    by_cases hlt : k < n
    · obtain ⟨g, off, rfl, hg, d0, d1, d2⟩ := srcRec_later R1.out hbel (Nat.le_refl _) k hlt
      obtain ⟨g2, off2, rfl, hg2, m0, m1, m2⟩ := srcRec_later R2.out hbel (Nat.le_refl _) k hlt
      obtain ⟨x, hx⟩ : ∃ x, L.getD k default = x := ⟨_, rfl⟩
      rw [hx] at d0 d1 d2 m0 m1 m2
      clear hx
      go_wp2
      go_region_with (go_at_call 81; refine (eqRec_any x.f0 x.f1 x.f2 _).mono ?_; rintro e w1 ⟨rfl, hb1⟩)
      all_goals
        have hb2 : Below w.heap.size w w1 := hbel.drew.trans (hb1.mono hbel.size)
        clear d0 d1 d2 m0 m1 m2 hb1
        go_wp2
        go_roundw
        case rel => exact ⟨k + 1, by omega, by go_num, hb2⟩
        case measure => (simp [intOf]; try omega)
    · obtain rfl : k = n := by omega
      go_wp2
      go_ret
      exact ⟨rfl, hbel⟩
end Go.Proofs.Ytmkchilhnmkhkaa
namespace Go.Proofs.Ytmkchilhnmkhkaa
open Go.RowKit Go.Proofs.Ytmkchilhnmkhkaa.Parts Go.Proofs.Ytmkchilhnmkhkaa.Hexa

/-- No block is written but v's. -/
structure Apart (v : Value) (w w' : World) : Prop where
  size : w.heap.size ≤ w'.heap.size
  block : ∀ g, g < w.heap.size → v.ownBlock ≠ some g → w'.heap[g]? = w.heap[g]?
theorem Apart.own {v : Value} {w w' : World} (h : Apart v w w') {v2 : Value} {M e k n : Nat} {xs : List Value} (ho : w.ownsRow M e k v2 n xs) (hne : ∀ g, v2.ownBlock = some g → v.ownBlock ≠ some g) : w'.ownsRow M e k v2 n xs := by
  refine ⟨ho.1, ho.2.imp id fun ⟨g, cap, cur, hv, hg, hh, r⟩ => ⟨g, cap, cur, hv, hg, ?_, r⟩⟩
  rw [h.block g (Array.getElem?_eq_some_iff.1 hh).1 (hne g (by rw [hv]; rfl))]; exact hh
theorem Apart.of_below {v : Value} {w w' : World} (h : Below w.heap.size w w') : Apart v w w' := ⟨h.size, fun g hg _ => h.block g hg⟩
theorem Apart.after_below {v : Value} {w w1 w2 : World} (hb : Below w.heap.size w w1) (h : Apart v w1 w2) : Apart v w w2 := ⟨Nat.le_trans hb.size h.size, fun g hg hn => (h.block g (Nat.lt_of_lt_of_le hg hb.size) hn).trans (hb.block g hg)⟩
end Go.Proofs.Ytmkchilhnmkhkaa
namespace Go.Proofs.Ytmkchilhnmkhkaa
open Go.RowKit Go.Proofs.Ytmkchilhnmkhkaa.Parts Go.Proofs.Ytmkchilhnmkhkaa.Hexa
theorem ret_str {a b : ByteArray} (h : a = b) : Ending.returned (.string a) = .returned (.string b) := by rw [h]

set_option maxRecDepth 100000 in
set_option maxHeartbeats 1000000 in
theorem markText_any (k : Nat) (w : World) (h0 : 0 < k) (hk : k ≤ 100000000) :
    Calls Try.prog 73 #[.int .i64 k] w fun e w' => e = .returned (.string (markT k)) ∧ Below w.heap.size w w' := by
  go_enter Try.func73, Try.ntmps73
  go_wp2
  go_loopw [0, 3] (fun kv sv wr => ∃ (j : Nat) (t : ByteArray), j ≤ k ∧ t.size ≤ k ∧ Hid (digs j ++ t.data.toList = digs k) ∧ kv = .int .i64 j ∧ sv = .string t ∧ Below w.heap.size w wr) (fun kv _ _ => (intOf kv).toNat)
  case atStart => exact ⟨k, ⟨#[]⟩, Nat.le_refl _, Nat.zero_le _, Lib.hid (by simp), rfl, rfl, Below.refl _ _⟩
  case round =>
    obtain ⟨j, t, hj, ht, HD, rfl, rfl, hbel⟩ := hrel
    by_cases hlt : 0 < j
    · obtain ⟨cs, hcs, hcd, hce⟩ := Parts.one_byte (UInt8.ofNat (48 + j % 10))
      have HC := Lib.hid hcd
      have HT := Lib.hid (digs_round hlt HD.out hcd)
      have HS := digs_size HT.out
      have HS' : cs.size + t.size ≤ 100000001 := by omega
      have en : ((UInt8.ofNat (48 + j % 10)).toNat : Int) = 48 + (j : Int) % 10 := by rw [UInt8.toNat_ofNat']; omega
      have hown := World.ownsRow_lit (e := 5) (size := 1) (base := w.heap.size) wr #[.int .u8 (48 + (j : Int) % 10)] 1 hbel.size (by decide) rfl
      have hconv := own_string (P := Try.prog) (l := [UInt8.ofNat (48 + j % 10)]) 103 9 Try.underlying103 Try.underlying5 Try.underlying9 (by rw [show bcells [UInt8.ofNat (48 + j % 10)] = [Value.int .u8 (48 + (j : Int) % 10)] by simp only [bcells, List.map, en]]; exact hown)
      rw [← hce] at hconv
      clear hown hcd hce en
      go_wp2
      go_roundw
      case rel => exact ⟨j / 10, cs ++ t, by omega, HS, HT, by go_num, rfl, hbel.alloc hbel.size _⟩
      case measure => (simp [intOf]; omega)
    · obtain rfl : j = 0 := by omega
      go_wp2
      go_ret
      exact ⟨ret_str (mark_end HD.out), hbel⟩

end Go.Proofs.Ytmkchilhnmkhkaa
namespace Go.Proofs.Ytmkchilhnmkhkaa
open Go.RowKit Go.Proofs.Ytmkchilhnmkhkaa.Parts Go.Proofs.Ytmkchilhnmkhkaa.Hexa

theorem ret_i64m {a b : Int} (h : a = b) : Ending.returned (.int .i64 a) = .returned (.int .i64 b) := by rw [h]
theorem markText_n (i : Int) (k : Nat) (w : World) (h : i = k) (h0 : 0 < k) (hk : k ≤ 100000000) :
    Calls Try.prog 73 #[.int .i64 i] w fun e w' => e = .returned (.string (markT k)) ∧ Below w.heap.size w w' := by
  subst h; exact markText_any k w h0 hk
end Go.Proofs.Ytmkchilhnmkhkaa
namespace Go.Proofs.Ytmkchilhnmkhkaa
open Go.RowKit Go.Proofs.Ytmkchilhnmkhkaa.Parts Go.Proofs.Ytmkchilhnmkhkaa.Hexa

/-- The marks from k on. -/
def markRec (k : Nat) : RecR := ⟨(k : Int), (k : Int) + 1, markT (k + 2)⟩
def marksRec (k n : Nat) : List RecR := (List.range n).map fun i => markRec (k + 3 * i)
theorem marksRec_length (k n : Nat) : (marksRec k n).length = n := by simp [marksRec]
theorem marksRec_at (k n j : Nat) (hj : j < n) : (marksRec k n).getD j default = markRec (k + 3 * j) := by simp [marksRec, List.getD, hj]

def MarkPostRec (B n cap k : Nat) (w : World) (e : Ending) (w' : World) : Prop :=
  e = .returned (.int .i64 (k + 3 * n)) ∧ Below B w w' ∧ ButE B w w' ∧ w'.ownsRow B 83 3 (.slice (some ⟨B, 0, none⟩) n cap) n (cellsE encRec (marksRec k n))

set_option maxRecDepth 100000 in
set_option maxHeartbeats 1000000 in
theorem markRecs_some (B n cap k : Nat) (xs : List Value) (w : World) (h0 : 0 < k) (hk : k + 3 * n ≤ 100000000) (hown : w.ownsRow B 83 3 (.slice (some ⟨B, 0, none⟩) n cap) n xs) :
    Calls Try.prog 71 #[.slice (some ⟨B, 0, none⟩) n cap, .int .i64 k] w (MarkPostRec B n cap k w) := by
  have HO := Lib.hid hown
  have hB := Lib.hid (ownE_lt hown)
  clear hown
  go_enter Try.func71, Try.ntmps71
  go_wp2
  go_loopw [1, 5] (fun kv iv wr => ∃ (j q : Nat) (ys : List Value), j ≤ n ∧ q ≤ k + 3 * n ∧ 0 < q ∧ Hid (q = k + 3 * j) ∧ iv = .int .i64 j ∧ kv = .int .i64 q ∧ Hid (∀ t, t < j * 3 → ys[t]? = (cellsE encRec (marksRec k n))[t]?) ∧ Hid (wr.ownsRow B 83 3 (.slice (some ⟨B, 0, none⟩) n cap) n ys) ∧ Below B w wr ∧ Hid (ButE B w wr)) (fun _ iv _ => n - (intOf iv).toNat)
  case atStart => exact ⟨0, k, xs, Nat.zero_le _, by omega, h0, Lib.hid rfl, rfl, rfl, Lib.hid (fun t ht => by omega), HO, Below.refl _ _, Lib.hid (ButE.refl _ _)⟩
  case round =>
    clear HO
    obtain ⟨j, q, ys, hj, hq, hq0, HQ, rfl, rfl, HX, HW, hbel, HK⟩ := hrel
    by_cases hlt : j < n
    · have hl : Hid (ys.length = n * 3) := Lib.hid HW.out.1
      have hq3 : q + 3 ≤ k + 3 * n := by have := HQ.out; omega
      have X1 := Lib.hid (cellsE_step encRec (L := marksRec k n) (by rw [marksRec_length]; exact hlt) (by rw [marksRec_length]; exact hl.out) HX.out)
      rw [marksRec_at k n j hlt, ← HQ.out] at X1
      obtain ⟨v0, e0⟩ := ownE_cell HW.out (j := j * 3) (by omega)
      have z0 := HW.out.frozenAt (j * 3)
      have O0 := Lib.hid (HW.out.stored (j * 3) (.int .i64 ((q : Int)))).1
      have K0 := Lib.hid (HK.out.then_set (j * 3) (.int .i64 ((q : Int))))
      have b0 : Below B w (wr.setCell ⟨B, j * 3, none⟩ (.int .i64 ((q : Int)))) := hbel.setCell (Nat.le_refl _) _
      obtain ⟨v1, e1⟩ := ownE_cell O0.out (j := j * 3 + 1) (by omega)
      have z1 := O0.out.frozenAt (j * 3 + 1)
      have O1 := Lib.hid (O0.out.stored (j * 3 + 1) (.int .i64 ((q : Int) + 1))).1
      have K1 := Lib.hid (K0.out.then_set (j * 3 + 1) (.int .i64 ((q : Int) + 1)))
      have b1 : Below B w ((wr.setCell ⟨B, j * 3, none⟩ (.int .i64 ((q : Int)))).setCell ⟨B, j * 3 + 1, none⟩ (.int .i64 ((q : Int) + 1))) := b0.setCell (Nat.le_refl _) _
      go_wp2_with fail
      clear e0 z0 e1 z1
      obtain ⟨wa1, hwa1⟩ : ∃ x, x = ((wr.setCell ⟨B, j * 3, none⟩ (.int .i64 ((q : Int)))).setCell ⟨B, j * 3 + 1, none⟩ (.int .i64 ((q : Int) + 1))) := ⟨_, rfl⟩
      rw [← hwa1] at O1 K1 b1 ⊢
      clear hwa1
      refine (markText_n _ (q + 2) _ (by omega) (by omega) (by omega)).mono ?_
      rintro e w1x ⟨rfl, hb1⟩
      have W1 := Lib.hid (own_below O1.out hb1)
      have KW1 := Lib.hid (K1.out.then_below hb1)
      have bw1 : Below B w w1x := b1.trans (hb1.mono (by have := hB.out; have := b1.size; omega))
      clear hb1
      obtain ⟨v2, e2⟩ := ownE_cell W1.out (j := j * 3 + 2) (by omega)
      have z2 := W1.out.frozenAt (j * 3 + 2)
      have O2 := Lib.hid (W1.out.stored (j * 3 + 2) (.string (markT (q + 2)))).1
      have K2 := Lib.hid (KW1.out.then_set (j * 3 + 2) (.string (markT (q + 2))))
      have b2 : Below B w (w1x.setCell ⟨B, j * 3 + 2, none⟩ (.string (markT (q + 2)))) := bw1.setCell (Nat.le_refl _) _
      go_wp2
      clear e2 z2
      go_roundw
      case rel => exact ⟨j + 1, q + 3, _, by omega, hq3, by omega, Lib.hid (by have := HQ.out; omega), by go_num, by go_num, X1, O2, b2, K2⟩
      case measure => (simp [intOf]; try omega)
    · obtain rfl : j = n := by omega
      have hfin : ys = cellsE encRec (marksRec k j) := cellsE_all encRec (by rw [marksRec_length]; exact HW.out.1) (by rw [marksRec_length]; exact HX.out)
      have ho := HW.out
      rw [hfin] at ho
      have HO := Lib.hid ho
      clear ho hfin HW
      go_wp2
      go_ret
      exact ⟨ret_i64m (by have := HQ.out; omega), hbel, HK.out, HO.out⟩

def MarksRecA (M : Nat) (v : Value) (n k : Nat) (w : World) (e : Ending) (w' : World) : Prop :=
  e = .returned (.int .i64 (k + 3 * n)) ∧ Below M w w' ∧ Apart v w w' ∧ w'.ownsRow M 83 3 v n (cellsE encRec (marksRec k n))

set_option maxRecDepth 100000 in
set_option maxHeartbeats 1000000 in
theorem markRecs_any (M : Nat) (v : Value) (n k : Nat) (xs : List Value) (w : World) (h0 : 0 < k) (hk : k + 3 * n ≤ 100000000) (hown : w.ownsRow M 83 3 v n xs) :
    Calls Try.prog 71 #[v, .int .i64 k] w (MarksRecA M v n k w) := by
  rcases hown.2 with ⟨rfl, rfl⟩ | ⟨g, cap, cur, rfl, hB, hg, hnc, hcm, hcs, htk⟩
  · clear hown
    go_enter Try.func71, Try.ntmps71
    go_wp2
    go_loopw [1, 5] (fun kv iv wr => kv = .int .i64 k ∧ iv = .int .i64 0 ∧ wr = w) (fun _ _ _ => 0)
    case atStart => exact ⟨rfl, rfl, rfl⟩
    case round =>
      obtain ⟨rfl, rfl, rfl⟩ := hrel
      go_wp2
      go_ret
      exact ⟨ret_i64m (by omega), Below.refl _ _, Apart.of_below (Below.refl _ _), World.ownsRow_nil _ _ _ _⟩
  · have ho : w.ownsRow g 83 3 (.slice (some ⟨g, 0, none⟩) n cap) n xs := ⟨hown.1, .inr ⟨g, cap, cur, rfl, Nat.le_refl _, hg, hnc, hcm, hcs, htk⟩⟩
    refine (markRecs_some g n cap k xs w h0 hk ho).mono ?_
    rintro e w' ⟨rfl, hb, hbut, hown'⟩
    exact ⟨rfl, hb.mono hB, ⟨hbut.size, fun g2 hg2 hn => hbut.block g2 (fun e => hn (by rw [e]; rfl)) hg2⟩, ownE_mono hown' hB⟩

end Go.Proofs.Ytmkchilhnmkhkaa
namespace Go.Proofs.Ytmkchilhnmkhkaa
open Go.RowKit Go.Proofs.Ytmkchilhnmkhkaa.Parts Go.Proofs.Ytmkchilhnmkhkaa.Hexa

set_option maxRecDepth 100000 in
set_option maxHeartbeats 1000000 in
theorem eqEntrys_any (a1 a2 : Option Addr) (n c1 c2 : Nat) (L : List EntryR) (w : World) (hn : n ≤ 100000000) (s1 : SrcEntry w a1 n L) (s2 : SrcEntry w a2 n L) :
    Calls Try.prog 65 #[.slice a1 n c1, .slice a2 n c2] w fun e w' => e = .returned (.bool true) ∧ Below w.heap.size w w' := by
  have R1 := Lib.hid s1
  have R2 := Lib.hid s2
  clear s1 s2
  go_enter Try.func65, Try.ntmps65
  go_wp2
  go_loopw [5] (fun iv wr => ∃ k : Nat, k ≤ n ∧ iv = .int .i64 k ∧ Below w.heap.size w wr) (fun iv _ => n - (intOf iv).toNat)
  case atStart => exact ⟨0, Nat.zero_le _, rfl, Below.refl _ _⟩
  case round =>
    obtain ⟨k, hk, rfl, hbel⟩ := hrel
    by_cases hlt : k < n
    · obtain ⟨g, off, rfl, hg, d0, d1⟩ := srcEntry_later R1.out hbel (Nat.le_refl _) k hlt
      obtain ⟨g2, off2, rfl, hg2, m0, m1⟩ := srcEntry_later R2.out hbel (Nat.le_refl _) k hlt
      obtain ⟨x, hx⟩ : ∃ x, L.getD k default = x := ⟨_, rfl⟩
      rw [hx] at d0 d1 m0 m1
      clear hx
      go_wp2
      go_region_with (go_at_call 82; refine (eqEntry_any x.f0 x.f1 _).mono ?_; rintro e w1 ⟨rfl, hb1⟩)
      all_goals
        have hb2 : Below w.heap.size w w1 := hbel.drew.trans (hb1.mono hbel.size)
        clear d0 d1 m0 m1 hb1
        go_wp2
        go_roundw
        case rel => exact ⟨k + 1, by omega, by go_num, hb2⟩
        case measure => (simp [intOf]; try omega)
    · obtain rfl : k = n := by omega
      go_wp2
      go_ret
      exact ⟨rfl, hbel⟩
end Go.Proofs.Ytmkchilhnmkhkaa
namespace Go.Proofs.Ytmkchilhnmkhkaa
open Go.RowKit Go.Proofs.Ytmkchilhnmkhkaa.Parts Go.Proofs.Ytmkchilhnmkhkaa.Hexa

/-- The marks from k on. -/
def markEntry (k : Nat) : EntryR := ⟨(k : Int), markT (k + 1)⟩
def marksEntry (k n : Nat) : List EntryR := (List.range n).map fun i => markEntry (k + 2 * i)
theorem marksEntry_length (k n : Nat) : (marksEntry k n).length = n := by simp [marksEntry]
theorem marksEntry_at (k n j : Nat) (hj : j < n) : (marksEntry k n).getD j default = markEntry (k + 2 * j) := by simp [marksEntry, List.getD, hj]

def MarkPostEntry (B n cap k : Nat) (w : World) (e : Ending) (w' : World) : Prop :=
  e = .returned (.int .i64 (k + 2 * n)) ∧ Below B w w' ∧ ButE B w w' ∧ w'.ownsRow B 45 2 (.slice (some ⟨B, 0, none⟩) n cap) n (cellsE encEntry (marksEntry k n))

set_option maxRecDepth 100000 in
set_option maxHeartbeats 1000000 in
theorem markEntrys_some (B n cap k : Nat) (xs : List Value) (w : World) (h0 : 0 < k) (hk : k + 2 * n ≤ 100000000) (hown : w.ownsRow B 45 2 (.slice (some ⟨B, 0, none⟩) n cap) n xs) :
    Calls Try.prog 72 #[.slice (some ⟨B, 0, none⟩) n cap, .int .i64 k] w (MarkPostEntry B n cap k w) := by
  have HO := Lib.hid hown
  have hB := Lib.hid (ownE_lt hown)
  clear hown
  go_enter Try.func72, Try.ntmps72
  go_wp2
  go_loopw [1, 5] (fun kv iv wr => ∃ (j q : Nat) (ys : List Value), j ≤ n ∧ q ≤ k + 2 * n ∧ 0 < q ∧ Hid (q = k + 2 * j) ∧ iv = .int .i64 j ∧ kv = .int .i64 q ∧ Hid (∀ t, t < j * 2 → ys[t]? = (cellsE encEntry (marksEntry k n))[t]?) ∧ Hid (wr.ownsRow B 45 2 (.slice (some ⟨B, 0, none⟩) n cap) n ys) ∧ Below B w wr ∧ Hid (ButE B w wr)) (fun _ iv _ => n - (intOf iv).toNat)
  case atStart => exact ⟨0, k, xs, Nat.zero_le _, by omega, h0, Lib.hid rfl, rfl, rfl, Lib.hid (fun t ht => by omega), HO, Below.refl _ _, Lib.hid (ButE.refl _ _)⟩
  case round =>
    clear HO
    obtain ⟨j, q, ys, hj, hq, hq0, HQ, rfl, rfl, HX, HW, hbel, HK⟩ := hrel
    by_cases hlt : j < n
    · have hl : Hid (ys.length = n * 2) := Lib.hid HW.out.1
      have hq3 : q + 2 ≤ k + 2 * n := by have := HQ.out; omega
      have X1 := Lib.hid (cellsE_step encEntry (L := marksEntry k n) (by rw [marksEntry_length]; exact hlt) (by rw [marksEntry_length]; exact hl.out) HX.out)
      rw [marksEntry_at k n j hlt, ← HQ.out] at X1
      obtain ⟨v0, e0⟩ := ownE_cell HW.out (j := j * 2) (by omega)
      have z0 := HW.out.frozenAt (j * 2)
      have O0 := Lib.hid (HW.out.stored (j * 2) (.int .i64 ((q : Int)))).1
      have K0 := Lib.hid (HK.out.then_set (j * 2) (.int .i64 ((q : Int))))
      have b0 : Below B w (wr.setCell ⟨B, j * 2, none⟩ (.int .i64 ((q : Int)))) := hbel.setCell (Nat.le_refl _) _
      go_wp2_with fail
      clear e0 z0
      obtain ⟨wa1, hwa1⟩ : ∃ x, x = (wr.setCell ⟨B, j * 2, none⟩ (.int .i64 ((q : Int)))) := ⟨_, rfl⟩
      rw [← hwa1] at O0 K0 b0 ⊢
      clear hwa1
      refine (markText_n _ (q + 1) _ (by omega) (by omega) (by omega)).mono ?_
      rintro e w1x ⟨rfl, hb1⟩
      have W1 := Lib.hid (own_below O0.out hb1)
      have KW1 := Lib.hid (K0.out.then_below hb1)
      have bw1 : Below B w w1x := b0.trans (hb1.mono (by have := hB.out; have := b0.size; omega))
      clear hb1
      obtain ⟨v1, e1⟩ := ownE_cell W1.out (j := j * 2 + 1) (by omega)
      have z1 := W1.out.frozenAt (j * 2 + 1)
      have O1 := Lib.hid (W1.out.stored (j * 2 + 1) (.string (markT (q + 1)))).1
      have K1 := Lib.hid (KW1.out.then_set (j * 2 + 1) (.string (markT (q + 1))))
      have b1 : Below B w (w1x.setCell ⟨B, j * 2 + 1, none⟩ (.string (markT (q + 1)))) := bw1.setCell (Nat.le_refl _) _
      go_wp2
      clear e1 z1
      go_roundw
      case rel => exact ⟨j + 1, q + 2, _, by omega, hq3, by omega, Lib.hid (by have := HQ.out; omega), by go_num, by go_num, X1, O1, b1, K1⟩
      case measure => (simp [intOf]; try omega)
    · obtain rfl : j = n := by omega
      have hfin : ys = cellsE encEntry (marksEntry k j) := cellsE_all encEntry (by rw [marksEntry_length]; exact HW.out.1) (by rw [marksEntry_length]; exact HX.out)
      have ho := HW.out
      rw [hfin] at ho
      have HO := Lib.hid ho
      clear ho hfin HW
      go_wp2
      go_ret
      exact ⟨ret_i64m (by have := HQ.out; omega), hbel, HK.out, HO.out⟩

def MarksEntryA (M : Nat) (v : Value) (n k : Nat) (w : World) (e : Ending) (w' : World) : Prop :=
  e = .returned (.int .i64 (k + 2 * n)) ∧ Below M w w' ∧ Apart v w w' ∧ w'.ownsRow M 45 2 v n (cellsE encEntry (marksEntry k n))

set_option maxRecDepth 100000 in
set_option maxHeartbeats 1000000 in
theorem markEntrys_any (M : Nat) (v : Value) (n k : Nat) (xs : List Value) (w : World) (h0 : 0 < k) (hk : k + 2 * n ≤ 100000000) (hown : w.ownsRow M 45 2 v n xs) :
    Calls Try.prog 72 #[v, .int .i64 k] w (MarksEntryA M v n k w) := by
  rcases hown.2 with ⟨rfl, rfl⟩ | ⟨g, cap, cur, rfl, hB, hg, hnc, hcm, hcs, htk⟩
  · clear hown
    go_enter Try.func72, Try.ntmps72
    go_wp2
    go_loopw [1, 5] (fun kv iv wr => kv = .int .i64 k ∧ iv = .int .i64 0 ∧ wr = w) (fun _ _ _ => 0)
    case atStart => exact ⟨rfl, rfl, rfl⟩
    case round =>
      obtain ⟨rfl, rfl, rfl⟩ := hrel
      go_wp2
      go_ret
      exact ⟨ret_i64m (by omega), Below.refl _ _, Apart.of_below (Below.refl _ _), World.ownsRow_nil _ _ _ _⟩
  · have ho : w.ownsRow g 45 2 (.slice (some ⟨g, 0, none⟩) n cap) n xs := ⟨hown.1, .inr ⟨g, cap, cur, rfl, Nat.le_refl _, hg, hnc, hcm, hcs, htk⟩⟩
    refine (markEntrys_some g n cap k xs w h0 hk ho).mono ?_
    rintro e w' ⟨rfl, hb, hbut, hown'⟩
    exact ⟨rfl, hb.mono hB, ⟨hbut.size, fun g2 hg2 hn => hbut.block g2 (fun e => hn (by rw [e]; rfl)) hg2⟩, ownE_mono hown' hB⟩

end Go.Proofs.Ytmkchilhnmkhkaa
namespace Go.Proofs.Ytmkchilhnmkhkaa
open Go.RowKit Go.Proofs.Ytmkchilhnmkhkaa.Parts Go.Proofs.Ytmkchilhnmkhkaa.Hexa

set_option maxRecDepth 100000 in
set_option maxHeartbeats 1000000 in
theorem eqIno_any (kd sz gn : Int) (key : ByteArray) (a1 : Option Addr) (nR c1 : Nat) (b1 : Option Addr) (nE d1 : Nat) (a2 : Option Addr) (c2 : Nat) (b2 : Option Addr) (d2 : Nat) (R : List RecR) (E : List EntryR) (w : World)
    (hn : nR ≤ 100000000) (hn' : nE ≤ 100000000) (s1 : SrcRec w a1 nR R) (s2 : SrcRec w a2 nR R) (t1 : SrcEntry w b1 nE E) (t2 : SrcEntry w b2 nE E) :
    Calls Try.prog 29 #[.agg #[.int .i64 kd, .int .i64 sz, .int .i64 gn, .string key, .slice a1 nR c1, .slice b1 nE d1], .agg #[.int .i64 kd, .int .i64 sz, .int .i64 gn, .string key, .slice a2 nR c2, .slice b2 nE d2]] w fun e w' => e = .returned (.bool true) ∧ Below w.heap.size w w' := by
  have hb1 := below_bk w (inoObj kd sz gn key a1 nR c1 b1 nE d1)
  have hb2 := below_bk (w.alloc (inoObj kd sz gn key a1 nR c1 b1 nE d1)) (inoObj kd sz gn key a2 nR c2 b2 nE d2)
  have T0 := Lib.hid ((Bk.alloc w (inoCs kd sz gn key a1 nR c1 b1 nE d1) 57).later hb2)
  have U0 : Hid (Bk ((w.alloc (inoObj kd sz gn key a1 nR c1 b1 nE d1)).alloc (inoObj kd sz gn key a2 nR c2 b2 nE d2)) (w.heap.size + 1) (inoCs kd sz gn key a2 nR c2 b2 nE d2) 57) := Lib.hid (by
    have h := Bk.alloc (w.alloc (inoObj kd sz gn key a1 nR c1 b1 nE d1)) (inoCs kd sz gn key a2 nR c2 b2 nE d2) 57
    simpa using h)
  have B0 : Hid (Below w.heap.size w ((w.alloc (inoObj kd sz gn key a1 nR c1 b1 nE d1)).alloc (inoObj kd sz gn key a2 nR c2 b2 nE d2))) := Lib.hid (hb1.trans (hb2.mono hb1.size))
  have S1 := Lib.hid s1
  have S2 := Lib.hid s2
  have V1 := Lib.hid t1
  have V2 := Lib.hid t2
  clear s1 s2 t1 t2 hb1 hb2
  go_enter Try.func29, Try.ntmps29
  go_wp2_with fail
  refine (eqRecs_any a1 a2 nR c1 c2 R _ hn (S1.out.later B0.out) (S2.out.later B0.out)).mono ?_
  rintro e w1 ⟨rfl, hb1⟩
  have T1 := Lib.hid (T0.out.later hb1)
  have U1 := Lib.hid (U0.out.later hb1)
  have B1 : Hid (Below w.heap.size w w1) := Lib.hid (B0.out.trans (hb1.mono B0.out.size))
  have x5 := T1.out.cell (j := 5) rfl
  have y5 := U1.out.cell (j := 5) rfl
  clear hb1
  go_wp2_with fail
  refine (eqEntrys_any b1 b2 nE d1 d2 E _ hn' (V1.out.later B1.out) (V2.out.later B1.out)).mono ?_
  rintro e w2 ⟨rfl, hb2⟩
  have B2 : Hid (Below w.heap.size w w2) := Lib.hid (B1.out.trans (hb2.mono B1.out.size))
  clear hb2
  go_wp2
  go_ret
  exact ⟨rfl, B2.out⟩

/-- No block is written but v's and u's. -/
structure Apart2 (v u : Value) (w w' : World) : Prop where
  size : w.heap.size ≤ w'.heap.size
  block : ∀ g, g < w.heap.size → v.ownBlock ≠ some g → u.ownBlock ≠ some g → w'.heap[g]? = w.heap[g]?
theorem Apart2.own {v u : Value} {w w' : World} (h : Apart2 v u w w') {v2 : Value} {M e k n : Nat} {xs : List Value} (ho : w.ownsRow M e k v2 n xs) (hv : ∀ g, v2.ownBlock = some g → v.ownBlock ≠ some g) (hu : ∀ g, v2.ownBlock = some g → u.ownBlock ≠ some g) : w'.ownsRow M e k v2 n xs := by
  refine ⟨ho.1, ho.2.imp id fun ⟨g, cap, cur, he, hg, hh, r⟩ => ⟨g, cap, cur, he, hg, ?_, r⟩⟩
  rw [h.block g (Array.getElem?_eq_some_iff.1 hh).1 (hv g (by rw [he]; rfl)) (hu g (by rw [he]; rfl))]; exact hh
theorem Apart2.bk {v u : Value} {w w' : World} (h : Apart2 v u w w') {b : Nat} {cs : Array Value} {t : TypeId} (hk : Bk w b cs t) (hv : v.ownBlock ≠ some b) (hu : u.ownBlock ≠ some b) : Bk w' b cs t := (h.block b hk.lt hv hu).trans hk

/-- The marks written. -/
def MarksIno (M : Nat) (vR vE : Value) (nR nE k : Nat) (w : World) (e : Ending) (w' : World) : Prop :=
  e = .returned (.int .i64 ((k + 3 * nR + 2 * nE : Nat) : Int)) ∧ Below M w w' ∧ Apart2 vR vE w w' ∧ w'.ownsRow M 83 3 vR nR (cellsE encRec (marksRec k nR)) ∧ w'.ownsRow M 45 2 vE nE (cellsE encEntry (marksEntry (k + 3 * nR) nE))

set_option maxRecDepth 100000 in
set_option maxHeartbeats 1000000 in
theorem markIno_any (kd sz gn : Int) (key : ByteArray) (M : Nat) (vR vE : Value) (nR nE k : Nat) (xs ys : List Value) (w : World) (hM : M ≤ w.heap.size) (h0 : 0 < k) (hk : k + 3 * nR + 2 * nE ≤ 100000000)
    (hR : w.ownsRow M 83 3 vR nR xs) (hE : w.ownsRow M 45 2 vE nE ys) (hne : ∀ g, vR.ownBlock = some g → vE.ownBlock ≠ some g) :
    Calls Try.prog 32 #[.agg #[.int .i64 kd, .int .i64 sz, .int .i64 gn, .string key, vR, vE], .int .i64 k] w (MarksIno M vR vE nR nE k w) := by
  have HR := Lib.hid hR
  have HE := Lib.hid hE
  have HNE := Lib.hid hne
  have HM := Lib.hid hM
  have B0 := Lib.hid (below_bk w (.cells #[.int .i64 kd, .int .i64 sz, .int .i64 gn, .string key, vR, vE] 57))
  have T0 := Lib.hid (Bk.alloc w #[.int .i64 kd, .int .i64 sz, .int .i64 gn, .string key, vR, vE] 57)
  clear hR hE hne hM
  go_enter Try.func32, Try.ntmps32
  go_wp2_with fail
  refine (markRecs_any M vR nR k xs _ h0 (by omega) (own_below HR.out B0.out)).mono ?_
  obtain ⟨q, hq⟩ : ∃ q, k + 3 * nR = q := ⟨_, rfl⟩
  rintro e w1 ⟨he, hb1, ha1, ho1⟩
  obtain rfl : e = .returned (.int .i64 (q : Int)) := by rw [he]; congr 2; omega
  have HQ := Lib.hid hq
  have T1 : Hid (Bk w1 w.heap.size #[.int .i64 kd, .int .i64 sz, .int .i64 gn, .string key, vR, vE] 57) := Lib.hid ((ha1.block w.heap.size (by simp) (fun e => by have := (HR.out.lt _ e).2; omega)).trans T0.out)
  have HE1 := Lib.hid (ha1.own (own_below HE.out B0.out) (fun g hg e => HNE.out g e hg))
  have A1 := Lib.hid ha1
  have O1 := Lib.hid ho1
  have B1 : Hid (Below M w w1) := Lib.hid ((B0.out.mono HM.out).trans hb1)
  have x5 := T1.out.cell (j := 5) rfl
  have hq0 : 0 < q := by omega
  clear he hb1 ha1 ho1 hq
  go_wp2_with fail
  refine (markEntrys_any M vE nE q ys _ hq0 (by have := HQ.out; omega) HE1.out).mono ?_
  rintro e w2 ⟨he, hb2, ha2, ho2⟩
  obtain rfl : e = .returned (.int .i64 ((k + 3 * nR + 2 * nE : Nat) : Int)) := by rw [he]; congr 2; have := HQ.out; omega
  have O2 : Hid (w2.ownsRow M 45 2 vE nE (cellsE encEntry (marksEntry (k + 3 * nR) nE))) := Lib.hid (by rw [HQ.out]; exact ho2)
  have O12 := Lib.hid (ha2.own O1.out (fun g hg e => HNE.out g hg e))
  have A2 : Hid (Apart2 vR vE w w2) := Lib.hid ⟨Nat.le_trans (Nat.le_trans B0.out.size A1.out.size) ha2.size, fun g hg h1 h2 =>
    (ha2.block g (Nat.lt_of_lt_of_le hg (Nat.le_trans B0.out.size A1.out.size)) h2).trans ((A1.out.block g (Nat.lt_of_lt_of_le hg B0.out.size) h1).trans (B0.out.block g hg))⟩
  have B2 : Hid (Below M w w2) := Lib.hid (B1.out.trans hb2)
  clear he hb2 ha2 ho2
  go_wp2
  go_ret
  exact ⟨rfl, B2.out, A2.out, O12.out, O2.out⟩
end Go.Proofs.Ytmkchilhnmkhkaa
namespace Go.Proofs.Ytmkchilhnmkhkaa
open Go.RowKit Go.Proofs.Ytmkchilhnmkhkaa.Parts Go.Proofs.Ytmkchilhnmkhkaa.Hexa Go.Proofs.Ytmkchilhnmkhkaa.Byt

set_option maxRecDepth 100000 in
set_option maxHeartbeats 4000000 in
theorem inoOk_law (kd sz gn : Int) (key : ByteArray) (aR : Option Addr) (nR cR : Nat) (aE : Option Addr) (nE cE : Nat) (R : List RecR) (E : List EntryR) (w : World) (hz : -9223372036854775808 ≤ sz ∧ sz ≤ 9223372036854775807) (hk : key.size ≤ maxLen) (hs : SrcRec w aR nR R) (hm : FitRec R nR maxLen) (hn : nR ≤ 9223372036854775807) (hs' : SrcEntry w aE nE E) (hm' : FitEntry E nE maxLen) (hn' : nE ≤ 9223372036854775807) :
    Calls Try.prog 7 #[.agg #[.int .i64 kd, .int .i64 sz, .int .i64 gn, .string key, .slice aR nR cR, .slice aE nE cE]] w fun e w' => e = .returned (.bool true) ∧ Below w.heap.size w w' := by
  have HZ := Lib.hid hz
  have HK := Lib.hid hk
  have HS := Lib.hid hs
  have HM := Lib.hid hm
  have HN := Lib.hid hn
  have HS' := Lib.hid hs'
  have HM' := Lib.hid hm'
  have HN' := Lib.hid hn'
  have T0 := Lib.hid (Bk.alloc w #[.int .i64 kd, .int .i64 sz, .int .i64 gn, .string key, .slice aR nR cR, .slice aE nE cE] 51)
  have B0 := Lib.hid (below_bk w (.cells #[.int .i64 kd, .int .i64 sz, .int .i64 gn, .string key, .slice aR nR cR, .slice aE nE cE] 51))
  obtain ⟨b, hb⟩ : ∃ b, inoB ⟨kd, sz, gn, key, R, E⟩ = b := ⟨_, rfl⟩
  have HB := Lib.hid hb
  clear hb
  clear hz hk hs hm hn hs' hm' hn'
  go_enter Try.func7, Try.ntmps7
  go_wp2_with fail
  refine (szIno_any kd sz gn key aR nR cR aE nE cE R E _ HK.out (HS.out.later B0.out) HN.out HM.out (HS'.out.later B0.out) HN'.out HM'.out).mono ?_
  rintro e w1 ⟨r, rfl, hr | ⟨h0, _, hn2, hf2, hn3, hf3⟩, hb1⟩
  · go_wp2
    go_ret
    exact ⟨rfl, B0.out.trans (hb1.mono B0.out.size)⟩
  have T1 := Lib.hid (T0.out.later hb1)
  have B1 : Hid (Below w.heap.size w w1) := Lib.hid (B0.out.trans (hb1.mono B0.out.size))
  have HF : Hid (FitRec R nR 2000000) := Lib.hid (fun j hj => Nat.le_trans (hf2 j hj) (by decide))
  have HF' : Hid (FitEntry E nE 2000000) := Lib.hid (fun j hj => Nat.le_trans (hf3 j hj) (by decide))
  have hr : ¬ (r < 0) := by omega
  have c0 := T1.out.cell (j := 0) rfl
  have c1 := T1.out.cell (j := 1) rfl
  have c2 := T1.out.cell (j := 2) rfl
  have c3 := T1.out.cell (j := 3) rfl
  have c4 := T1.out.cell (j := 4) rfl
  have c5 := T1.out.cell (j := 5) rfl
  clear hb1 hf2 hf3 h0
  go_wp2_with fail
  clear c0 c1 c2 c3 c4 c5
  refine (toIno_any kd sz gn key aR nR cR aE nE cE R E _ (HS.out.later B1.out) hn2 (HS'.out.later B1.out) hn3).mono ?_
  rintro e w2 ⟨gR, gE, rfl, hg1, hg2, hg3, hoR, hoE, hb2⟩
  have T2 := Lib.hid (T1.out.later hb2)
  have B2 : Hid (Below w.heap.size w w2) := Lib.hid (B1.out.trans (hb2.mono B1.out.size))
  have S2 := Lib.hid (srcRec_of_own hoR)
  have V2 := Lib.hid (srcEntry_of_own hoE)
  clear hoR hoE hb2 hg1 hg2 hg3
  go_wp2_with fail
  refine (specIno_any kd sz gn key _ nR nR _ nE nE _ R E HZ.out S2.out HF.out V2.out HF'.out).mono ?_
  rw [HB.out]
  rintro e w3 ⟨rfl, hb3⟩
  have T3 := Lib.hid (T2.out.later hb3)
  have B3 : Hid (Below w.heap.size w w3) := Lib.hid (B2.out.trans (hb3.mono B2.out.size))
  clear hb3
  have c0 := T3.out.cell (j := 0) rfl
  have c1 := T3.out.cell (j := 1) rfl
  have c2 := T3.out.cell (j := 2) rfl
  have c3 := T3.out.cell (j := 3) rfl
  have c4 := T3.out.cell (j := 4) rfl
  have c5 := T3.out.cell (j := 5) rfl
  go_wp2_with fail
  clear c0 c1 c2 c3 c4 c5
  refine (toIno_any kd sz gn key aR nR cR aE nE cE R E _ (HS.out.later B3.out) hn2 (HS'.out.later B3.out) hn3).mono ?_
  rintro e w4 ⟨gR, gE, rfl, hg1, hg2, hg3, hoR, hoE, hb4⟩
  have hba := below_bk w4 (.cells #[.int .i64 kd, .int .i64 sz, .int .i64 gn, .string key, .slice (some ⟨gR, 0, none⟩) nR nR, .slice (some ⟨gE, 0, none⟩) nE nE] 57)
  have T5 := Lib.hid ((T3.out.later hb4).later hba)
  have X5 := Lib.hid (Bk.alloc w4 #[.int .i64 kd, .int .i64 sz, .int .i64 gn, .string key, .slice (some ⟨gR, 0, none⟩) nR nR, .slice (some ⟨gE, 0, none⟩) nE nE] 57)
  have OR5 := Lib.hid (own_below hoR hba)
  have OE5 := Lib.hid (own_below hoE hba)
  have B5 : Hid (Below w.heap.size w (w4.alloc (.cells #[.int .i64 kd, .int .i64 sz, .int .i64 gn, .string key, .slice (some ⟨gR, 0, none⟩) nR nR, .slice (some ⟨gE, 0, none⟩) nE nE] 57))) := Lib.hid (B3.out.trans ((hb4.trans (hba.mono hb4.size)).mono B3.out.size))
  have L3 : Hid (w.heap.size < w3.heap.size) := Lib.hid T3.out.lt
  have G4 : Hid (w3.heap.size ≤ gR ∧ gR < gE ∧ gE < w4.heap.size) := Lib.hid ⟨hg1, hg2, hg3⟩
  obtain ⟨bx, hbx⟩ : ∃ b, w4.heap.size = b := ⟨_, rfl⟩
  have HBX := Lib.hid hbx
  clear hg1 hg2 hg3 hoR hoE hb4 hba
  go_wp2_with fail
  rw [hbx] at X5
  clear hbx
  obtain ⟨w5, h5⟩ : ∃ x, x = w4.alloc (.cells #[.int .i64 kd, .int .i64 sz, .int .i64 gn, .string key, .slice (some ⟨gR, 0, none⟩) nR nR, .slice (some ⟨gE, 0, none⟩) nE nE] 57) := ⟨_, rfl⟩
  rw [← h5] at T5 X5 OR5 OE5 B5 ⊢
  clear h5
  refine (implIno_any kd sz gn key _ nR nR _ nE nE _ R E HZ.out (by omega) (srcRec_of_own OR5.out) HF.out (srcEntry_of_own OE5.out) HF'.out).mono ?_
  rw [HB.out]
  rintro e w6 ⟨rfl, hb6⟩
  have T6 := Lib.hid (T5.out.later hb6)
  have X6 := Lib.hid (X5.out.later hb6)
  have OR6 := Lib.hid (own_below OR5.out hb6)
  have OE6 := Lib.hid (own_below OE5.out hb6)
  have B6 : Hid (Below w.heap.size w w6) := Lib.hid (B5.out.trans (hb6.mono B5.out.size))
  clear hb6 T5 X5 OR5 OE5
  go_wp2
  have X6d := Lib.hid X6.out.drew
  have T6d := Lib.hid T6.out.drew
  have B6d := Lib.hid B6.out.drew
  have OR6d : Hid (w6.drew.ownsRow w3.heap.size 83 3 (.slice (some ⟨gR, 0, none⟩) nR nR) nR (cellsE encRec R)) := OR6
  have OE6d : Hid (w6.drew.ownsRow w3.heap.size 45 2 (.slice (some ⟨gE, 0, none⟩) nE nE) nE (cellsE encEntry E)) := OE6
  go_region_held3 (fun w' => w'.cell? ⟨bx, 0, none⟩ = some (.int .i64 kd) ∧ w'.cell? ⟨bx, 1, none⟩ = some (.int .i64 sz) ∧ w'.cell? ⟨bx, 2, none⟩ = some (.int .i64 gn) ∧ w'.cell? ⟨bx, 3, none⟩ = some (.string key) ∧ w'.cell? ⟨bx, 4, none⟩ = some (.slice (some ⟨gR, 0, none⟩) nR nR) ∧ w'.cell? ⟨bx, 5, none⟩ = some (.slice (some ⟨gE, 0, none⟩) nE nE) ∧ w'.cell? ⟨w.heap.size, 0, none⟩ = some (.int .i64 kd) ∧ w'.cell? ⟨w.heap.size, 1, none⟩ = some (.int .i64 sz) ∧ w'.cell? ⟨w.heap.size, 2, none⟩ = some (.int .i64 gn) ∧ w'.cell? ⟨w.heap.size, 3, none⟩ = some (.string key) ∧ w'.cell? ⟨w.heap.size, 4, none⟩ = some (.slice aR nR cR) ∧ w'.cell? ⟨w.heap.size, 5, none⟩ = some (.slice aE nE cE))
    (first
      | exact ⟨X6d.out.cell rfl, X6d.out.cell rfl, X6d.out.cell rfl, X6d.out.cell rfl, X6d.out.cell rfl, X6d.out.cell rfl, T6d.out.cell rfl, T6d.out.cell rfl, T6d.out.cell rfl, T6d.out.cell rfl, T6d.out.cell rfl, T6d.out.cell rfl⟩
      | exact ⟨X7.out.cell rfl, X7.out.cell rfl, X7.out.cell rfl, X7.out.cell rfl, X7.out.cell rfl, X7.out.cell rfl, T7.out.cell rfl, T7.out.cell rfl, T7.out.cell rfl, T7.out.cell rfl, T7.out.cell rfl, T7.out.cell rfl⟩
      | exact ⟨X8.out.cell rfl, X8.out.cell rfl, X8.out.cell rfl, X8.out.cell rfl, X8.out.cell rfl, X8.out.cell rfl, T8.out.cell rfl, T8.out.cell rfl, T8.out.cell rfl, T8.out.cell rfl, T8.out.cell rfl, T8.out.cell rfl⟩
      | go_keep)
    (first
      | (go_at_call 27; (with_reducible refine (toIno_any kd sz gn key aR nR cR aE nE cE R E _ (HS.out.later B6d.out) hn2 (HS'.out.later B6d.out) hn3).mono ?_); rintro e w7 ⟨hR7, hE7, rfl, _, _, _, hoR, hoE, hb⟩; have X7 := Lib.hid (X6d.out.later hb); have T7 := Lib.hid (T6d.out.later hb); have B7 : Hid (Below w.heap.size w w7) := Lib.hid (B6d.out.trans (hb.mono B6d.out.size)); have S7 := Lib.hid (srcRec_of_own hoR); have V7 := Lib.hid (srcEntry_of_own hoE); have OR7 := Lib.hid (own_below OR6d.out hb); have OE7 := Lib.hid (own_below OE6d.out hb); have E7 : Hid (Below w6.heap.size w6 w7) := Lib.hid ((Below.refl w6.heap.size w6).drew.trans hb); clear hb hoR hoE)
      | (go_at_call 29; (with_reducible refine (eqIno_any kd sz gn key _ nR _ _ nE _ _ _ _ _ R E _ (by omega) (by omega) (srcRec_of_own OR7.out) S7.out (srcEntry_of_own OE7.out) V7.out).mono ?_); rintro e w8 ⟨rfl, hb⟩; have X8 := Lib.hid (X7.out.later hb); have T8 := Lib.hid (T7.out.later hb); have B8 : Hid (Below w.heap.size w w8) := Lib.hid (B7.out.trans (hb.mono B7.out.size)); have OR8 := Lib.hid (own_below OR7.out hb); have OE8 := Lib.hid (own_below OE7.out hb); have E8 : Hid (Below w6.heap.size w6 w8) := Lib.hid (E7.out.trans (hb.mono E7.out.size)); clear hb))
  go_wp2
  go_ret
  exact ⟨rfl, B8.out⟩
end Go.Proofs.Ytmkchilhnmkhkaa
namespace Go.Proofs.Ytmkchilhnmkhkaa
open Go.RowKit Go.Proofs.Ytmkchilhnmkhkaa.Hexa Go.Proofs.Ytmkchilhnmkhkaa.Byt Go.Proofs.Ytmkchilhnmkhkaa.BitsM Go.Proofs.Ytmkchilhnmkhkaa.Parts

theorem infoText : (Try.prog.info? 9).map (fun i => (i.zero, i.size, i.bytes)) = some (some (.string ⟨#[]⟩), 1, 16) := by kernel_rfl
def wordsN (s : ByteArray) : Nat := (s.size + 7) / 8
/-- Word k of a text. -/
def wordAt (s : ByteArray) (k : Nat) : ByteArray := wordB (s.extract (8 * k) (min (8 * k + 8) s.size))
/-- The words of a text. -/
def wordsL (s : ByteArray) : List ByteArray := (List.range (wordsN s)).map (wordAt s)
theorem wordsL_length (s : ByteArray) : (wordsL s).length = wordsN s := by simp [wordsL]
def wordsTo (s : ByteArray) (k : Nat) : List ByteArray := (List.range k).map (wordAt s)
theorem wordsTo_next (s : ByteArray) (k : Nat) : scells (wordsTo s k) ++ [.string (wordAt s k)] = scells (wordsTo s (k + 1)) := by simp [wordsTo, scells, List.range_succ]
theorem wordsTo_all (s : ByteArray) : wordsTo s (wordsN s) = wordsL s := rfl

/-- Some slice of the call's own that holds these texts. -/
def GivesT (P : List ByteArray) (w : World) (e : Ending) (w' : World) : Prop :=
  ∃ v, e = .returned v ∧ w'.ownsRow w.heap.size 9 1 v P.length (scells P) ∧ Below w.heap.size w w'

end Go.Proofs.Ytmkchilhnmkhkaa
namespace Go.Proofs.Ytmkchilhnmkhkaa
open Go.RowKit Go.Proofs.Ytmkchilhnmkhkaa.Hexa Go.Proofs.Ytmkchilhnmkhkaa.Byt

/-- What NonceOf returns. -/
def nonceT (f p s : Int) : ByteArray := if (numTextB f 4).size + (numTextB p 2).size + (numTextB s 6).size = 12 then numTextB f 4 ++ numTextB p 2 ++ numTextB s 6 else ⟨#[]⟩
theorem nonceT_eq (f p s : Int) : nonceT f p s = if (numTextB f 4).size + (numTextB p 2).size + (numTextB s 6).size = 12 then numTextB f 4 ++ numTextB p 2 ++ numTextB s 6 else ⟨#[]⟩ := rfl
theorem numTextB_yes (n width : Int) (h : NumFits n width) : (numTextB n width).size = width.toNat := by
  have e : numTextB n width = numB n.toNat width.toNat := by unfold numTextB; exact if_pos h
  rw [e]
  show (numL _ _ _).toArray.size = _
  rw [List.size_toArray, numL_length]
theorem numTextB_no (n width : Int) (h : ¬ NumFits n width) : numTextB n width = ⟨#[]⟩ := by unfold numTextB; exact if_neg h
theorem numTextB_size (n width : Int) : (numTextB n width).size = 0 ∨ (numTextB n width).size = width.toNat := by
  by_cases h : NumFits n width
  · exact .inr (numTextB_yes n width h)
  · rw [numTextB_no n width h]; exact .inl rfl
theorem nonceT_sizes (f p s : Int) : ((numTextB f 4).size = 0 ∨ (numTextB f 4).size = 4) ∧ ((numTextB p 2).size = 0 ∨ (numTextB p 2).size = 2) ∧ ((numTextB s 6).size = 0 ∨ (numTextB s 6).size = 6) ∧ (numTextB f 4).size + (numTextB p 2).size + (numTextB s 6).size ≤ 12 := by
  have h1 : (numTextB f 4).size = 0 ∨ (numTextB f 4).size = 4 := numTextB_size f 4
  have h2 : (numTextB p 2).size = 0 ∨ (numTextB p 2).size = 2 := numTextB_size p 2
  have h3 : (numTextB s 6).size = 0 ∨ (numTextB s 6).size = 6 := numTextB_size s 6
  exact ⟨h1, h2, h3, by omega⟩
end Go.Proofs.Ytmkchilhnmkhkaa
