/- Merged texts: BodyImpl, Assert, InoImpl, ZeroImpl. -/
import Derived.Test.YtmkchilhnmkhkaaDoorPIJ
import Derived.Deep.DeepCutAuto
namespace Go.Proofs.YtmkchilhnmkhkaaDoor
open Go.RowKit Go.Proofs.YtmkchilhnmkhkaaDoor.Parts Go.Proofs.YtmkchilhnmkhkaaDoor.Hexa Go.Proofs.YtmkchilhnmkhkaaDoor.Byt

/-- What bodyOf returns. -/
def bodyV (kd sz : Int) (key : ByteArray) (aR : Option Addr) (nR cR : Nat) (aE : Option Addr) (nE cE : Nat) : Value :=
  if kd = 0 then .iface 115 (.agg #[]) else if kd = 1 then .iface 100 (.agg #[.int .i64 sz, .string key, .slice aR nR cR])
  else if kd = 2 then .iface 103 (.agg #[.slice aE nE cE]) else .nilIface

section
variable (kd sz gn : Int) (key : ByteArray) (aR : Option Addr) (nR cR : Nat) (aE : Option Addr) (nE cE : Nat) (w : World)

set_option maxRecDepth 100000 in
set_option maxHeartbeats 1000000 in
theorem implBody_any :
    Calls Tryd.prog 79 #[.agg #[.int .i64 kd, .int .i64 sz, .int .i64 gn, .string key, .slice aR nR cR, .slice aE nE cE]] w fun e w' => e = .returned (bodyV kd sz key aR nR cR aE nE cE) ∧ Below w.heap.size w w' := by
  have B0 := Lib.hid (below_bk w (inoObj kd sz gn key aR nR cR aE nE cE))
  by_cases h0 : kd = 0
  · subst h0
    go_enter Tryd.func79, Tryd.ntmps79
    go_wp2
    go_ret
    exact ⟨rfl, B0.out⟩
  · have e0 : (kd == 0) = false := by simpa using h0
    by_cases h1 : kd = 1
    · subst h1
      go_enter Tryd.func79, Tryd.ntmps79
      go_wp2
      go_ret
      exact ⟨rfl, B0.out⟩
    · have e1 : (kd == 1) = false := by simpa using h1
      by_cases h2 : kd = 2
      · subst h2
        go_enter Tryd.func79, Tryd.ntmps79
        go_wp2
        go_ret
        exact ⟨rfl, B0.out⟩
      · have e2 : (kd == 2) = false := by simpa using h2
        have HE : Hid (bodyV kd sz key aR nR cR aE nE cE = .nilIface) := Lib.hid (by unfold bodyV; rw [if_neg h0, if_neg h1, if_neg h2])
        clear h0 h1 h2
        go_enter Tryd.func79, Tryd.ntmps79
        go_wp2
        go_ret
        exact ⟨by rw [HE.out]; rfl, B0.out⟩
end
end Go.Proofs.YtmkchilhnmkhkaaDoor
namespace Go.Proofs.YtmkchilhnmkhkaaDoor
open Go.RowKit

theorem as_file (v : Value) (w : World) : (Instr.typeAssert (.iface 100 v) 97 100 true).run Tryd.prog w = .ok (.tuple #[v, .bool true]) w := by kernel_rfl
theorem as_dir (v : Value) (w : World) : (Instr.typeAssert (.iface 103 v) 97 103 true).run Tryd.prog w = .ok (.tuple #[v, .bool true]) w := by kernel_rfl
theorem as_free (v : Value) (w : World) : (Instr.typeAssert (.iface 115 v) 97 115 true).run Tryd.prog w = .ok (.tuple #[v, .bool true]) w := by kernel_rfl
theorem free_no_file (v : Value) (w : World) : (Instr.typeAssert (.iface 115 v) 97 100 true).run Tryd.prog w = .ok (.tuple #[.agg #[.int .i64 0, .string ⟨#[]⟩, .slice none 0 0], .bool false]) w := by kernel_rfl
theorem dir_no_file (v : Value) (w : World) : (Instr.typeAssert (.iface 103 v) 97 100 true).run Tryd.prog w = .ok (.tuple #[.agg #[.int .i64 0, .string ⟨#[]⟩, .slice none 0 0], .bool false]) w := by kernel_rfl
theorem nil_no_file (w : World) : (Instr.typeAssert .nilIface 97 100 true).run Tryd.prog w = .ok (.tuple #[.agg #[.int .i64 0, .string ⟨#[]⟩, .slice none 0 0], .bool false]) w := by kernel_rfl
theorem free_no_dir (v : Value) (w : World) : (Instr.typeAssert (.iface 115 v) 97 103 true).run Tryd.prog w = .ok (.tuple #[.agg #[.slice none 0 0], .bool false]) w := by kernel_rfl
theorem nil_no_dir (w : World) : (Instr.typeAssert .nilIface 97 103 true).run Tryd.prog w = .ok (.tuple #[.agg #[.slice none 0 0], .bool false]) w := by kernel_rfl
theorem nil_no_free (w : World) : (Instr.typeAssert .nilIface 97 115 true).run Tryd.prog w = .ok (.tuple #[.agg #[], .bool false]) w := by kernel_rfl
end Go.Proofs.YtmkchilhnmkhkaaDoor
namespace Go.Proofs.YtmkchilhnmkhkaaDoor
open Go.RowKit Go.Proofs.YtmkchilhnmkhkaaDoor.Parts Go.Proofs.YtmkchilhnmkhkaaDoor.Hexa Go.Proofs.YtmkchilhnmkhkaaDoor.Byt

theorem bool_of (p : Prop) : ∃ b : Bool, b = true ↔ p := by
  by_cases h : p
  · exact ⟨true, by simp [h]⟩
  · exact ⟨false, by simp [h]⟩
theorem noFile_cases (sz : Int) (key : ByteArray) (nR : Nat) : (sz = 0 ∧ key = ⟨#[]⟩ ∧ nR = 0) ∨ (sz = 0 ∧ key = ⟨#[]⟩ ∧ 0 < nR) ∨ (sz = 0 ∧ 0 < key.size) ∨ sz ≠ 0 := by
  by_cases h1 : sz = 0
  · by_cases h2 : key.size = 0
    · obtain rfl := text_nothing h2
      by_cases h3 : nR = 0
      · exact .inl ⟨h1, rfl, h3⟩
      · exact .inr (.inl ⟨h1, rfl, by omega⟩)
    · exact .inr (.inr (.inl ⟨h1, by omega⟩))
  · exact .inr (.inr (.inr h1))
/-- Neither a size nor a key nor records. -/
def noFileB (sz : Int) (key : ByteArray) (nR : Nat) : Bool := decide (sz = 0 ∧ key.size = 0 ∧ nR = 0)

section
variable (sz gn : Int) (key : ByteArray) (aR : Option Addr) (nR cR : Nat) (aE : Option Addr) (nE cE : Nat) (w : World)

set_option maxRecDepth 100000 in
set_option maxHeartbeats 1000000 in
theorem implIno_gen (kd : Int) (h : ¬ (0 ≤ gn ∧ gn ≤ 65535)) :
    Calls Tryd.prog 45 #[.agg #[.int .i64 kd, .int .i64 sz, .int .i64 gn, .string key, .slice aR nR cR, .slice aE nE cE]] w (SaysB false w) := by
  have H0 := Lib.hid h
  have B0 := Lib.hid (below_bk w (inoObj kd sz gn key aR nR cR aE nE cE))
  clear h
  go_enter Tryd.func45, Tryd.ntmps45
  go_wp2_with ((with_reducible refine (implIn_no _ H0.out).mono ?_); rintro e w1 ⟨rfl, rfl⟩)
  go_ret
  exact ⟨rfl, B0.out⟩

set_option maxRecDepth 100000 in
set_option maxHeartbeats 1000000 in
theorem implIno_free (h : 0 ≤ gn ∧ gn ≤ 65535) (b : Bool) (hb : b = true ↔ (noFileB sz key nR = true ∧ nE = 0)) :
    Calls Tryd.prog 45 #[.agg #[.int .i64 0, .int .i64 sz, .int .i64 gn, .string key, .slice aR nR cR, .slice aE nE cE]] w (SaysB b w) := by
  have H0 := Lib.hid h
  have HG := Lib.hid hb
  have K0 := Lib.hid (Bk.alloc w (inoCs 0 sz gn key aR nR cR aE nE cE) 54)
  have B0 := Lib.hid (below_bk w (inoObj 0 sz gn key aR nR cR aE nE cE))
  have HC : Hid (∀ W : World, Calls Tryd.prog 79 #[.agg #[.int .i64 0, .int .i64 sz, .int .i64 gn, .string key, .slice aR nR cR, .slice aE nE cE]] W fun e w' => e = .returned (.iface 115 (.agg #[])) ∧ Below W.heap.size W w') := Lib.hid (fun W => implBody_any 0 sz gn key aR nR cR aE nE cE W)
  clear h hb
  go_enter Tryd.func45, Tryd.ntmps45
  go_upto_region 3 with ((with_reducible refine (implIn_yes _ H0.out).mono ?_); rintro e w1 ⟨rfl, rfl⟩)
  go_cut [3] (fun v wx => v = .bool (noFileB sz key nR) ∧ wx = w.alloc (inoObj 0 sz gn key aR nR cR aE nE cE))
  case first =>
    rcases noFile_cases sz key nR with ⟨rfl, rfl, rfl⟩ | ⟨rfl, rfl, h3⟩ | ⟨rfl, h3⟩ | h3
    · go_wp2_with fail
      go_meet
      exact ⟨rfl, rfl⟩
    · have e3 : ((nR : Int) == 0) = false := by simp; omega
      have HF9 : Hid (noFileB 0 ⟨#[]⟩ nR = false) := Lib.hid (decide_eq_false (fun x => by omega))
      go_wp2_with fail
      go_meet
      exact ⟨by rw [HF9.out], rfl⟩
    · have e4 : (key.toList == []) = false := text_full key (by omega)
      have HF9 : Hid (noFileB 0 key nR = false) := Lib.hid (decide_eq_false (fun x => by omega))
      go_wp2_with fail
      go_meet
      exact ⟨by rw [HF9.out], rfl⟩
    · have e4 : (sz == 0) = false := by simpa using h3
      have HF9 : Hid (noFileB sz key nR = false) := Lib.hid (decide_eq_false (fun x => h3 x.1))
      clear h3
      go_wp2_with fail
      go_meet
      exact ⟨by rw [HF9.out], rfl⟩
  case rest =>
    obtain ⟨rfl, rfl⟩ := hcut
    go_wp2_with fail
    refine (HC.out _).mono ?_
    rintro e w1 ⟨rfl, hb1⟩
    have B1 : Hid (Below w.heap.size w w1) := Lib.hid (B0.out.trans (hb1.mono B0.out.size))
    clear hb1
    have a1 := free_no_file (.agg #[]) w1
    have a2 := free_no_dir (.agg #[]) w1
    have a3 := as_free (.agg #[]) w1
    have e9 : ((nE : Int) == 0) = decide (nE = 0) := by by_cases h : nE = 0 <;> simp [h]
    obtain ⟨f, hf⟩ : ∃ f, noFileB sz key nR = f := ⟨_, rfl⟩
    rw [hf] at HG ⊢
    clear hf
    cases f
    · obtain rfl : b = false := bool_no HG.out (fun x => by cases x.1)
      go_wp2
      go_ret
      exact ⟨rfl, B1.out.alloc B1.out.size _⟩
    · obtain rfl : b = decide (nE = 0) := by
        by_cases h : nE = 0
        · rw [HG.out.2 ⟨rfl, h⟩, decide_eq_true h]
        · rw [bool_no HG.out (fun x => h x.2), decide_eq_false h]
      go_wp2
      go_ret
      exact ⟨rfl, B1.out.alloc B1.out.size _⟩

set_option maxRecDepth 100000 in
set_option maxHeartbeats 1000000 in
theorem implIno_file (h : 0 ≤ gn ∧ gn ≤ 65535) (R : List RecR) (hz : -9223372036854775808 ≤ sz ∧ sz ≤ 9223372036854775807) (hs : SrcRec w aR nR R) (hf : FitRec R nR 2000000) (b : Bool)
    (hb : b = true ↔ (((0 ≤ sz ∧ sz ≤ 128) ∧ key.size = 8 ∧ (nR : Int) = pagesZ sz ∧ RecsOk R nR) ∧ nE = 0)) :
    Calls Tryd.prog 45 #[.agg #[.int .i64 1, .int .i64 sz, .int .i64 gn, .string key, .slice aR nR cR, .slice aE nE cE]] w (SaysB b w) := by
  obtain ⟨b1, hb1⟩ : ∃ b1 : Bool, b1 = true ↔ ((0 ≤ sz ∧ sz ≤ 128) ∧ key.size = 8 ∧ (nR : Int) = pagesZ sz ∧ RecsOk R nR) := bool_of _
  have hb2 : b = true ↔ (b1 = true ∧ nE = 0) := by rw [hb, hb1]
  have H0 := Lib.hid h
  have HG := Lib.hid hb2
  have HG1 := Lib.hid hb1
  have HZ := Lib.hid hz
  have HS := Lib.hid hs
  have HF := Lib.hid hf
  have K0 := Lib.hid (Bk.alloc w (inoCs 1 sz gn key aR nR cR aE nE cE) 54)
  have B0 := Lib.hid (below_bk w (inoObj 1 sz gn key aR nR cR aE nE cE))
  have HC : Hid (∀ W : World, Calls Tryd.prog 79 #[.agg #[.int .i64 1, .int .i64 sz, .int .i64 gn, .string key, .slice aR nR cR, .slice aE nE cE]] W fun e w' => e = .returned (.iface 100 (.agg #[.int .i64 sz, .string key, .slice aR nR cR])) ∧ Below W.heap.size W w') := Lib.hid (fun W => implBody_any 1 sz gn key aR nR cR aE nE cE W)
  clear h hb hb1 hb2 hz hs hf
  go_enter Tryd.func45, Tryd.ntmps45
  go_upto_region 3 with ((with_reducible refine (implIn_yes _ H0.out).mono ?_); rintro e w1 ⟨rfl, rfl⟩)
  go_cut [3] (fun v wx => v = .bool (noFileB sz key nR) ∧ wx = w.alloc (inoObj 1 sz gn key aR nR cR aE nE cE))
  case first =>
    rcases noFile_cases sz key nR with ⟨rfl, rfl, rfl⟩ | ⟨rfl, rfl, h3⟩ | ⟨rfl, h3⟩ | h3
    · go_wp2_with fail
      go_meet
      exact ⟨rfl, rfl⟩
    · have e3 : ((nR : Int) == 0) = false := by simp; omega
      have HF9 : Hid (noFileB 0 ⟨#[]⟩ nR = false) := Lib.hid (decide_eq_false (fun x => by omega))
      go_wp2_with fail
      go_meet
      exact ⟨by rw [HF9.out], rfl⟩
    · have e4 : (key.toList == []) = false := text_full key (by omega)
      have HF9 : Hid (noFileB 0 key nR = false) := Lib.hid (decide_eq_false (fun x => by omega))
      go_wp2_with fail
      go_meet
      exact ⟨by rw [HF9.out], rfl⟩
    · have e4 : (sz == 0) = false := by simpa using h3
      have HF9 : Hid (noFileB sz key nR = false) := Lib.hid (decide_eq_false (fun x => h3 x.1))
      clear h3
      go_wp2_with fail
      go_meet
      exact ⟨by rw [HF9.out], rfl⟩
  case rest =>
    obtain ⟨rfl, rfl⟩ := hcut
    go_wp2_with fail
    refine (HC.out _).mono ?_
    rintro e w1 ⟨rfl, hb1⟩
    have B1 : Hid (Below w.heap.size w w1) := Lib.hid (B0.out.trans (hb1.mono B0.out.size))
    clear hb1
    have a1 := as_file (.agg #[.int .i64 sz, .string key, .slice aR nR cR]) w1
    have e9 : ((nE : Int) == 0) = decide (nE = 0) := by by_cases h : nE = 0 <;> simp [h]
    have B2 : Hid (Below w.heap.size w (w1.alloc (.cells #[.int .i64 sz, .string key, .slice aR nR cR] 100))) := Lib.hid (B1.out.alloc B1.out.size _)
    go_wp2_with fail
    refine (implFile_any sz key aR nR cR _ R HZ.out (HS.out.later B2.out) HF.out b1 HG1.out).mono ?_
    rintro e w2 ⟨rfl, hb2⟩
    have B3 : Hid (Below w.heap.size w w2) := Lib.hid (B2.out.trans (hb2.mono B2.out.size))
    clear hb2 HG1
    cases b1
    · obtain rfl : b = false := bool_no HG.out (fun x => by cases x.1)
      go_wp2
      go_ret
      exact ⟨rfl, B3.out⟩
    · obtain rfl : b = decide (nE = 0) := by
        by_cases h : nE = 0
        · rw [HG.out.2 ⟨rfl, h⟩, decide_eq_true h]
        · rw [bool_no HG.out (fun x => h x.2), decide_eq_false h]
      go_wp2
      go_ret
      exact ⟨rfl, B3.out⟩

set_option maxRecDepth 100000 in
set_option maxHeartbeats 1000000 in
theorem implIno_dir (h : 0 ≤ gn ∧ gn ≤ 65535) (E : List EntryR) (hn : nE ≤ 9223372036854775807) (hs : SrcEntry w aE nE E) (hf : FitEntry E nE 2000000) (b : Bool)
    (hb : b = true ↔ ((nE ≤ 6 ∧ EntsOk E nE) ∧ noFileB sz key nR = true)) :
    Calls Tryd.prog 45 #[.agg #[.int .i64 2, .int .i64 sz, .int .i64 gn, .string key, .slice aR nR cR, .slice aE nE cE]] w (SaysB b w) := by
  obtain ⟨b1, hb1⟩ : ∃ b1 : Bool, b1 = true ↔ (nE ≤ 6 ∧ EntsOk E nE) := bool_of _
  have hb2 : b = true ↔ (b1 = true ∧ noFileB sz key nR = true) := by rw [hb, hb1]
  have H0 := Lib.hid h
  have HG := Lib.hid hb2
  have HG1 := Lib.hid hb1
  have HN := Lib.hid hn
  have HS := Lib.hid hs
  have HF := Lib.hid hf
  have K0 := Lib.hid (Bk.alloc w (inoCs 2 sz gn key aR nR cR aE nE cE) 54)
  have B0 := Lib.hid (below_bk w (inoObj 2 sz gn key aR nR cR aE nE cE))
  have HC : Hid (∀ W : World, Calls Tryd.prog 79 #[.agg #[.int .i64 2, .int .i64 sz, .int .i64 gn, .string key, .slice aR nR cR, .slice aE nE cE]] W fun e w' => e = .returned (.iface 103 (.agg #[.slice aE nE cE])) ∧ Below W.heap.size W w') := Lib.hid (fun W => implBody_any 2 sz gn key aR nR cR aE nE cE W)
  clear h hb hb1 hb2 hn hs hf
  go_enter Tryd.func45, Tryd.ntmps45
  go_upto_region 3 with ((with_reducible refine (implIn_yes _ H0.out).mono ?_); rintro e w1 ⟨rfl, rfl⟩)
  go_cut [3] (fun v wx => v = .bool (noFileB sz key nR) ∧ wx = w.alloc (inoObj 2 sz gn key aR nR cR aE nE cE))
  case first =>
    rcases noFile_cases sz key nR with ⟨rfl, rfl, rfl⟩ | ⟨rfl, rfl, h3⟩ | ⟨rfl, h3⟩ | h3
    · go_wp2_with fail
      go_meet
      exact ⟨rfl, rfl⟩
    · have e3 : ((nR : Int) == 0) = false := by simp; omega
      have HF9 : Hid (noFileB 0 ⟨#[]⟩ nR = false) := Lib.hid (decide_eq_false (fun x => by omega))
      go_wp2_with fail
      go_meet
      exact ⟨by rw [HF9.out], rfl⟩
    · have e4 : (key.toList == []) = false := text_full key (by omega)
      have HF9 : Hid (noFileB 0 key nR = false) := Lib.hid (decide_eq_false (fun x => by omega))
      go_wp2_with fail
      go_meet
      exact ⟨by rw [HF9.out], rfl⟩
    · have e4 : (sz == 0) = false := by simpa using h3
      have HF9 : Hid (noFileB sz key nR = false) := Lib.hid (decide_eq_false (fun x => h3 x.1))
      clear h3
      go_wp2_with fail
      go_meet
      exact ⟨by rw [HF9.out], rfl⟩
  case rest =>
    obtain ⟨rfl, rfl⟩ := hcut
    go_wp2_with fail
    refine (HC.out _).mono ?_
    rintro e w1 ⟨rfl, hb1⟩
    have B1 : Hid (Below w.heap.size w w1) := Lib.hid (B0.out.trans (hb1.mono B0.out.size))
    clear hb1
    have a1 := dir_no_file (.agg #[.slice aE nE cE]) w1
    have a2 := as_dir (.agg #[.slice aE nE cE]) w1
    have B2 : Hid (Below w.heap.size w (w1.alloc (.cells #[.slice aE nE cE] 103))) := Lib.hid (B1.out.alloc B1.out.size _)
    go_wp2_with fail
    refine (implDir_any aE nE cE _ E HN.out (HS.out.later B2.out) HF.out b1 HG1.out).mono ?_
    rintro e w2 ⟨rfl, hb2⟩
    have B3 : Hid (Below w.heap.size w w2) := Lib.hid (B2.out.trans (hb2.mono B2.out.size))
    clear hb2 HG1
    obtain ⟨f, hf⟩ : ∃ f, noFileB sz key nR = f := ⟨_, rfl⟩
    rw [hf] at HG ⊢
    clear hf
    cases b1
    · obtain rfl : b = false := bool_no HG.out (fun x => by cases x.1)
      go_wp2
      go_ret
      exact ⟨rfl, B3.out⟩
    · obtain rfl : b = f := by
        cases f
        · exact bool_no HG.out (fun x => by cases x.2)
        · exact HG.out.2 ⟨rfl, rfl⟩
      go_wp2
      go_ret
      exact ⟨rfl, B3.out⟩

set_option maxRecDepth 100000 in
set_option maxHeartbeats 1000000 in
theorem implIno_other (kd : Int) (h : 0 ≤ gn ∧ gn ≤ 65535) (h0 : ¬ kd = 0) (h1 : ¬ kd = 1) (h2 : ¬ kd = 2) :
    Calls Tryd.prog 45 #[.agg #[.int .i64 kd, .int .i64 sz, .int .i64 gn, .string key, .slice aR nR cR, .slice aE nE cE]] w (SaysB false w) := by
  have H0 := Lib.hid h
  have K0 := Lib.hid (Bk.alloc w (inoCs kd sz gn key aR nR cR aE nE cE) 54)
  have B0 := Lib.hid (below_bk w (inoObj kd sz gn key aR nR cR aE nE cE))
  have HC : Hid (∀ W : World, Calls Tryd.prog 79 #[.agg #[.int .i64 kd, .int .i64 sz, .int .i64 gn, .string key, .slice aR nR cR, .slice aE nE cE]] W fun e w' => e = .returned (.nilIface) ∧ Below W.heap.size W w') := Lib.hid (fun W => by have h9 := implBody_any kd sz gn key aR nR cR aE nE cE W; unfold bodyV at h9; rw [if_neg h0, if_neg h1, if_neg h2] at h9; exact h9)
  clear h h0 h1 h2
  go_enter Tryd.func45, Tryd.ntmps45
  go_upto_region 3 with ((with_reducible refine (implIn_yes _ H0.out).mono ?_); rintro e w1 ⟨rfl, rfl⟩)
  go_cut [3] (fun v wx => v = .bool (noFileB sz key nR) ∧ wx = w.alloc (inoObj kd sz gn key aR nR cR aE nE cE))
  case first =>
    rcases noFile_cases sz key nR with ⟨rfl, rfl, rfl⟩ | ⟨rfl, rfl, h3⟩ | ⟨rfl, h3⟩ | h3
    · go_wp2_with fail
      go_meet
      exact ⟨rfl, rfl⟩
    · have e3 : ((nR : Int) == 0) = false := by simp; omega
      have HF9 : Hid (noFileB 0 ⟨#[]⟩ nR = false) := Lib.hid (decide_eq_false (fun x => by omega))
      go_wp2_with fail
      go_meet
      exact ⟨by rw [HF9.out], rfl⟩
    · have e4 : (key.toList == []) = false := text_full key (by omega)
      have HF9 : Hid (noFileB 0 key nR = false) := Lib.hid (decide_eq_false (fun x => by omega))
      go_wp2_with fail
      go_meet
      exact ⟨by rw [HF9.out], rfl⟩
    · have e4 : (sz == 0) = false := by simpa using h3
      have HF9 : Hid (noFileB sz key nR = false) := Lib.hid (decide_eq_false (fun x => h3 x.1))
      clear h3
      go_wp2_with fail
      go_meet
      exact ⟨by rw [HF9.out], rfl⟩
  case rest =>
    obtain ⟨rfl, rfl⟩ := hcut
    go_wp2_with fail
    refine (HC.out _).mono ?_
    rintro e w1 ⟨rfl, hb1⟩
    have B1 : Hid (Below w.heap.size w w1) := Lib.hid (B0.out.trans (hb1.mono B0.out.size))
    clear hb1
    have a1 := nil_no_file w1
    have a2 := nil_no_dir w1
    have a3 := nil_no_free w1
    go_wp2
    go_ret
    exact ⟨rfl, B1.out⟩
end

theorem implIno_any (kd sz gn : Int) (key : ByteArray) (aR : Option Addr) (nR cR : Nat) (aE : Option Addr) (nE cE : Nat) (w : World) (R : List RecR) (E : List EntryR)
    (hz : -9223372036854775808 ≤ sz ∧ sz ≤ 9223372036854775807) (hn : nE ≤ 9223372036854775807) (hs : SrcRec w aR nR R) (hf : FitRec R nR 2000000) (hs' : SrcEntry w aE nE E) (hf' : FitEntry E nE 2000000) :
    Calls Tryd.prog 45 #[.agg #[.int .i64 kd, .int .i64 sz, .int .i64 gn, .string key, .slice aR nR cR, .slice aE nE cE]] w (SaysB (inoB ⟨kd, sz, gn, key, R, E⟩) w) := by
  have hlR : R.length = nR := hs.len
  have hlE : E.length = nE := hs'.len
  by_cases hg : 0 ≤ gn ∧ gn ≤ 65535
  · by_cases h0 : kd = 0
    · subst h0
      exact implIno_free sz gn key aR nR cR aE nE cE w hg _ (by rw [inoB_iff, inoOk_free hg]; subst hlR hlE; simp [noFileB, and_assoc])
    · by_cases h1 : kd = 1
      · subst h1
        exact implIno_file sz gn key aR nR cR aE nE cE w hg R hz hs hf _ (by
          rw [inoB_iff, inoOk_file hg]
          subst hlR hlE
          exact ⟨fun x => ⟨⟨x.1, x.2.1, x.2.2.1, x.2.2.2.2⟩, x.2.2.2.1⟩, fun x => ⟨x.1.1, x.1.2.1, x.1.2.2.1, x.2, x.1.2.2.2⟩⟩)
      · by_cases h2 : kd = 2
        · subst h2
          exact implIno_dir sz gn key aR nR cR aE nE cE w hg E hn hs' hf' _ (by
            rw [inoB_iff, inoOk_dir hg]
            subst hlR hlE
            simp only [noFileB, decide_eq_true_eq]
            exact ⟨fun x => ⟨⟨x.2.2.2.1, x.2.2.2.2⟩, x.1, x.2.1, x.2.2.1⟩, fun x => ⟨x.2.1, x.2.2.1, x.2.2.2, x.1.1, x.1.2⟩⟩)
        · rw [inoB_no (fun x => by
            rcases x with ⟨_, ⟨e, _⟩ | ⟨e, _⟩ | ⟨e, _⟩⟩
            · exact h0 e
            · exact h1 e
            · exact h2 e)]
          exact implIno_other sz gn key aR nR cR aE nE cE w kd hg h0 h1 h2
  · rw [inoB_no (fun x => hg x.1)]
    exact implIno_gen sz gn key aR nR cR aE nE cE w kd hg
end Go.Proofs.YtmkchilhnmkhkaaDoor
namespace Go.Proofs.YtmkchilhnmkhkaaDoor
open Go.RowKit Go.Proofs.YtmkchilhnmkhkaaDoor.Hexa Go.Proofs.YtmkchilhnmkhkaaDoor.Byt Go.Proofs.YtmkchilhnmkhkaaDoor.BitsM

set_option maxRecDepth 100000 in
set_option maxHeartbeats 1000000 in
theorem implZero_any (n : Int) (w : World) :
    Calls Tryd.prog 93 #[.int .i64 n] w fun e w' => e = .returned (.string (zeroB n)) ∧ Below w.heap.size w w' := by
  by_cases h : 0 ≤ n ∧ n ≤ 20000
  · obtain ⟨i0, hi, hz0, hz1, hz2⟩ := info_parts infoByte
    have HE : Hid (zeroB n = longB n.toNat 0) := Lib.hid (if_pos h)
    obtain ⟨k, rfl⟩ : ∃ k : Nat, n = k := ⟨n.toNat, by omega⟩
    have hk : k ≤ 20000 := by omega
    clear h
    go_enter Tryd.func93, Tryd.ntmps93
    go_wp2_with (at_make; refine wpList_make_full _ rfl _ _ 22 rfl w.heap.size 5 i0 (.int .u8 0) 1 Tryd.underlying22 hi hz0 hz1 .i64 .i64 _ _ k rfl rfl rfl rfl (by rw [hz2]; omega) (by unfold maxLen; omega) (Nat.le_refl _) ?_; intro w0 hown0 hgrow0; rw [made_zero] at hown0; have hconv := own_string (P := Tryd.prog) 22 9 Tryd.underlying22 Tryd.underlying5 Tryd.underlying9 hown0)
    have hg0 : Below w.heap.size w w0 := (Below.refl _ _).grown hgrow0 (Nat.le_refl _) (fun k h => by cases h)
    go_ret
    exact ⟨by rw [HE.out]; rfl, hg0⟩
  · have HE : Hid (zeroB n = ⟨#[]⟩) := Lib.hid (if_neg h)
    by_cases h0 : n < 0
    · go_enter Tryd.func93, Tryd.ntmps93
      go_wp2
      go_ret
      exact ⟨by rw [HE.out]; rfl, Below.refl _ _⟩
    · have h1 : 20000 < n := by omega
      clear h
      go_enter Tryd.func93, Tryd.ntmps93
      go_wp2
      go_ret
      exact ⟨by rw [HE.out]; rfl, Below.refl _ _⟩

end Go.Proofs.YtmkchilhnmkhkaaDoor
