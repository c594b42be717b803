/-
  No cell of these rows narrows 'for every input' (looked for: loops, veiled, ifaces, maps, wideKeys, modest, calm, conditions, laid).
  DERIVED. THE GIVEN ROWS OF THIS SEAT. 7 by the template 'for every input the law returns true; each argument reads behind the call as it read before'; 0 by the template 'total and deterministic' (their statements: YtppdjhchangikaaTotals.lean).
  GIVEN WITH THE SEED: the statements are not yours to turn. If you find one false, say at which input.
  Laid BY PROGRAM, IN A SANDBOX (cutbox-rows.mjs): the forced cells as the released guide's own fill.sh prints them over the translation dd568b9fec92b871… (all of the seat's roots in one cut). By AI agents, Wed Nov 11 2026. No macro, syntax, notation, axiom, sorry.
-/
import Derived.Test.YtppdjhchangikaaChecked
import GoSem.Claim
import GoSem.ClaimJoined
import GoSem.ClaimMapViews
import Derived.JoinedTies
import Derived.KernelRfl
namespace Go.Proofs.Ytppdjhchangikaa
/- THE CELL 'sum', in the pinned program and in every row, IS THE sha256 OF THE DUMP (.gsa) THAT YtppdjhchangikaaProg.lean LOADS. Nothing in Lean hashes anything: it is a label: what it is worth is what the hold of that sum in a sandbox is worth. -/
noncomputable def Try.pinned : Pinned := { name := "ytppdjhchangikaa", sum := "dd568b9fec92b871bf98d29944dfba9effd77a6ea6629900761061cc33854117", checked := Try.checked }
namespace Rows
def none {H : Type} : Left H := { results := [], args := [] }

/-- 'laws.FnStates': WHATEVER THE INPUT: true; the input reads as it did. -/
def fnStatesSpec : ChangeSpec := { name := "fnStates", fn := fun _ => fun
  | [d] => { results := [.lit (.bool true)], args := [d] }
  | _ => none }
def fnStatesRow : OpenClaim := { program := "ytppdjhchangikaa", sum := "dd568b9fec92b871bf98d29944dfba9effd77a6ea6629900761061cc33854117", func := "loop.example/g00969/laws.FnStates", spec := "fnStates", apart := false }
def FnStatesSaid : Prop := fnStatesRow.holds Try.pinned (OpenSpec.ofChange fnStatesSpec)

/-- ITS FALSE NEIGHBOUR: 'it returns false'. Refute it at one input. -/
def fnStatesWrong : ChangeSpec := { name := "fnStates", fn := fun _ => fun
  | [d] => { results := [.lit (.bool false)], args := [d] }
  | _ => none }
def FnStatesWrongFalsely : Prop := fnStatesRow.holds Try.pinned (OpenSpec.ofChange fnStatesWrong)

/-- 'laws.FnExactStatesOk': WHATEVER THE INPUT: true; the input reads as it did. -/
def fnExactStatesOkSpec : ChangeSpec := { name := "fnExactStatesOk", fn := fun _ => fun
  | [d1, d2] => { results := [.lit (.bool true)], args := [d1, d2] }
  | _ => none }
def fnExactStatesOkRow : OpenClaim := { program := "ytppdjhchangikaa", sum := "dd568b9fec92b871bf98d29944dfba9effd77a6ea6629900761061cc33854117", func := "loop.example/g00969/laws.FnExactStatesOk", spec := "fnExactStatesOk", apart := false }
def FnExactStatesOkSaid : Prop := fnExactStatesOkRow.holds Try.pinned (OpenSpec.ofChange fnExactStatesOkSpec)

/-- ITS FALSE NEIGHBOUR: 'it returns false'. Refute it at one input. -/
def fnExactStatesOkWrong : ChangeSpec := { name := "fnExactStatesOk", fn := fun _ => fun
  | [d1, d2] => { results := [.lit (.bool false)], args := [d1, d2] }
  | _ => none }
def FnExactStatesOkWrongFalsely : Prop := fnExactStatesOkRow.holds Try.pinned (OpenSpec.ofChange fnExactStatesOkWrong)

/-- 'laws.FnExactStatesWords': WHATEVER THE INPUT: true; the input reads as it did. -/
def fnExactStatesWordsSpec : ChangeSpec := { name := "fnExactStatesWords", fn := fun _ => fun
  | [d] => { results := [.lit (.bool true)], args := [d] }
  | _ => none }
def fnExactStatesWordsRow : OpenClaim := { program := "ytppdjhchangikaa", sum := "dd568b9fec92b871bf98d29944dfba9effd77a6ea6629900761061cc33854117", func := "loop.example/g00969/laws.FnExactStatesWords", spec := "fnExactStatesWords", apart := false }
def FnExactStatesWordsSaid : Prop := fnExactStatesWordsRow.holds Try.pinned (OpenSpec.ofChange fnExactStatesWordsSpec)

/-- ITS FALSE NEIGHBOUR: 'it returns false'. Refute it at one input. -/
def fnExactStatesWordsWrong : ChangeSpec := { name := "fnExactStatesWords", fn := fun _ => fun
  | [d] => { results := [.lit (.bool false)], args := [d] }
  | _ => none }
def FnExactStatesWordsWrongFalsely : Prop := fnExactStatesWordsRow.holds Try.pinned (OpenSpec.ofChange fnExactStatesWordsWrong)

/-- 'laws.FnExactReadStates': WHATEVER THE INPUT: true; the input reads as it did. -/
def fnExactReadStatesSpec : ChangeSpec := { name := "fnExactReadStates", fn := fun _ => fun
  | [d1, d2] => { results := [.lit (.bool true)], args := [d1, d2] }
  | _ => none }
def fnExactReadStatesRow : OpenClaim := { program := "ytppdjhchangikaa", sum := "dd568b9fec92b871bf98d29944dfba9effd77a6ea6629900761061cc33854117", func := "loop.example/g00969/laws.FnExactReadStates", spec := "fnExactReadStates", apart := false }
def FnExactReadStatesSaid : Prop := fnExactReadStatesRow.holds Try.pinned (OpenSpec.ofChange fnExactReadStatesSpec)

/-- ITS FALSE NEIGHBOUR: 'it returns false'. Refute it at one input. -/
def fnExactReadStatesWrong : ChangeSpec := { name := "fnExactReadStates", fn := fun _ => fun
  | [d1, d2] => { results := [.lit (.bool false)], args := [d1, d2] }
  | _ => none }
def FnExactReadStatesWrongFalsely : Prop := fnExactReadStatesRow.holds Try.pinned (OpenSpec.ofChange fnExactReadStatesWrong)

/-- 'laws.FnExactPagesWith': WHATEVER THE INPUT: true; the input reads as it did. -/
def fnExactPagesWithSpec : ChangeSpec := { name := "fnExactPagesWith", fn := fun _ => fun
  | [d1, d2] => { results := [.lit (.bool true)], args := [d1, d2] }
  | _ => none }
def fnExactPagesWithRow : OpenClaim := { program := "ytppdjhchangikaa", sum := "dd568b9fec92b871bf98d29944dfba9effd77a6ea6629900761061cc33854117", func := "loop.example/g00969/laws.FnExactPagesWith", spec := "fnExactPagesWith", apart := false }
def FnExactPagesWithSaid : Prop := fnExactPagesWithRow.holds Try.pinned (OpenSpec.ofChange fnExactPagesWithSpec)

/-- ITS FALSE NEIGHBOUR: 'it returns false'. Refute it at one input. -/
def fnExactPagesWithWrong : ChangeSpec := { name := "fnExactPagesWith", fn := fun _ => fun
  | [d1, d2] => { results := [.lit (.bool false)], args := [d1, d2] }
  | _ => none }
def FnExactPagesWithWrongFalsely : Prop := fnExactPagesWithRow.holds Try.pinned (OpenSpec.ofChange fnExactPagesWithWrong)

/-- 'laws.FnExactWithState': WHATEVER THE INPUT: true; the input reads as it did. -/
def fnExactWithStateSpec : ChangeSpec := { name := "fnExactWithState", fn := fun _ => fun
  | [d1, d2, d3] => { results := [.lit (.bool true)], args := [d1, d2, d3] }
  | _ => none }
def fnExactWithStateRow : OpenClaim := { program := "ytppdjhchangikaa", sum := "dd568b9fec92b871bf98d29944dfba9effd77a6ea6629900761061cc33854117", func := "loop.example/g00969/laws.FnExactWithState", spec := "fnExactWithState", apart := false }
def FnExactWithStateSaid : Prop := fnExactWithStateRow.holds Try.pinned (OpenSpec.ofChange fnExactWithStateSpec)

/-- ITS FALSE NEIGHBOUR: 'it returns false'. Refute it at one input. -/
def fnExactWithStateWrong : ChangeSpec := { name := "fnExactWithState", fn := fun _ => fun
  | [d1, d2, d3] => { results := [.lit (.bool false)], args := [d1, d2, d3] }
  | _ => none }
def FnExactWithStateWrongFalsely : Prop := fnExactWithStateRow.holds Try.pinned (OpenSpec.ofChange fnExactWithStateWrong)

/-- 'laws.FnExactFirstClean': WHATEVER THE INPUT: true; the input reads as it did. -/
def fnExactFirstCleanSpec : ChangeSpec := { name := "fnExactFirstClean", fn := fun _ => fun
  | [d1, d2] => { results := [.lit (.bool true)], args := [d1, d2] }
  | _ => none }
def fnExactFirstCleanRow : OpenClaim := { program := "ytppdjhchangikaa", sum := "dd568b9fec92b871bf98d29944dfba9effd77a6ea6629900761061cc33854117", func := "loop.example/g00969/laws.FnExactFirstClean", spec := "fnExactFirstClean", apart := false }
def FnExactFirstCleanSaid : Prop := fnExactFirstCleanRow.holds Try.pinned (OpenSpec.ofChange fnExactFirstCleanSpec)

/-- ITS FALSE NEIGHBOUR: 'it returns false'. Refute it at one input. -/
def fnExactFirstCleanWrong : ChangeSpec := { name := "fnExactFirstClean", fn := fun _ => fun
  | [d1, d2] => { results := [.lit (.bool false)], args := [d1, d2] }
  | _ => none }
def FnExactFirstCleanWrongFalsely : Prop := fnExactFirstCleanRow.holds Try.pinned (OpenSpec.ofChange fnExactFirstCleanWrong)

/- THE SECOND FORM. 'bulk': how many values and letters a reading holds, each counted each time it is reached (what is shared counts as often as it is met; a slice's spare places count too). A statement '..UptoSaid' is the law's where the arguments, and the package variables that the reading takes, are together of bulk at most 1048576: NARROWER than '..Said'. Prove '..Said' where nothing that the law and all that it calls make is longer than what came in: it says more and counts as full. Else prove '..UptoSaid'. A law counts once. -/
mutual
def uptoBulk {H : Type} : DataW H → Nat
  | .lit (.string bytes) => bytes.length + 1
  | .lit _ => 1
  | .nil => 1
  | .ptr d => uptoBulk d + 1
  | .slice elems spare => uptoBulkAll elems + uptoBulkAll spare + 1
  | .agg parts => uptoBulkAll parts + 1
  | .iface _ d => uptoBulk d + 1
  | .map entries => uptoBulkEntries entries + 1
  | .held _ => 1
def uptoBulkAll {H : Type} : List (DataW H) → Nat
  | [] => 0
  | d :: r => uptoBulk d + uptoBulkAll r
def uptoBulkEntries {H : Type} : List (Lit × DataW H) → Nat
  | [] => 0
  | x :: r => uptoBulkEntry x + uptoBulkEntries r
def uptoBulkEntry {H : Type} : Lit × DataW H → Nat
  | (.string bytes, d) => bytes.length + uptoBulk d + 1
  | (_, d) => uptoBulk d + 1
 end
def uptoSmall : (H : Type) → List (DataW H) → Bool := fun _ ds => decide (uptoBulkAll ds ≤ 1048576)
def OpenSpec.upto (s : _root_.Go.ChangeSpec) : _root_.Go.OpenSpec := { _root_.Go.OpenSpec.ofChange s with cond := some uptoSmall }

/-- 'laws.FnStates', WHERE WHAT IT READS IS OF BULK AT MOST 1048576: true; the input reads as it did. -/
def fnStatesUptoRow : OpenClaim := { program := "ytppdjhchangikaa", sum := "dd568b9fec92b871bf98d29944dfba9effd77a6ea6629900761061cc33854117", func := "loop.example/g00969/laws.FnStates", spec := "fnStates", apart := false, narrowed := true }
def FnStatesUptoSaid : Prop := fnStatesUptoRow.holds Try.pinned (OpenSpec.upto fnStatesSpec)

/-- 'laws.FnExactStatesOk', WHERE WHAT IT READS IS OF BULK AT MOST 1048576: true; the input reads as it did. -/
def fnExactStatesOkUptoRow : OpenClaim := { program := "ytppdjhchangikaa", sum := "dd568b9fec92b871bf98d29944dfba9effd77a6ea6629900761061cc33854117", func := "loop.example/g00969/laws.FnExactStatesOk", spec := "fnExactStatesOk", apart := false, narrowed := true }
def FnExactStatesOkUptoSaid : Prop := fnExactStatesOkUptoRow.holds Try.pinned (OpenSpec.upto fnExactStatesOkSpec)

/-- 'laws.FnExactStatesWords', WHERE WHAT IT READS IS OF BULK AT MOST 1048576: true; the input reads as it did. -/
def fnExactStatesWordsUptoRow : OpenClaim := { program := "ytppdjhchangikaa", sum := "dd568b9fec92b871bf98d29944dfba9effd77a6ea6629900761061cc33854117", func := "loop.example/g00969/laws.FnExactStatesWords", spec := "fnExactStatesWords", apart := false, narrowed := true }
def FnExactStatesWordsUptoSaid : Prop := fnExactStatesWordsUptoRow.holds Try.pinned (OpenSpec.upto fnExactStatesWordsSpec)

/-- 'laws.FnExactReadStates', WHERE WHAT IT READS IS OF BULK AT MOST 1048576: true; the input reads as it did. -/
def fnExactReadStatesUptoRow : OpenClaim := { program := "ytppdjhchangikaa", sum := "dd568b9fec92b871bf98d29944dfba9effd77a6ea6629900761061cc33854117", func := "loop.example/g00969/laws.FnExactReadStates", spec := "fnExactReadStates", apart := false, narrowed := true }
def FnExactReadStatesUptoSaid : Prop := fnExactReadStatesUptoRow.holds Try.pinned (OpenSpec.upto fnExactReadStatesSpec)

/-- 'laws.FnExactPagesWith', WHERE WHAT IT READS IS OF BULK AT MOST 1048576: true; the input reads as it did. -/
def fnExactPagesWithUptoRow : OpenClaim := { program := "ytppdjhchangikaa", sum := "dd568b9fec92b871bf98d29944dfba9effd77a6ea6629900761061cc33854117", func := "loop.example/g00969/laws.FnExactPagesWith", spec := "fnExactPagesWith", apart := false, narrowed := true }
def FnExactPagesWithUptoSaid : Prop := fnExactPagesWithUptoRow.holds Try.pinned (OpenSpec.upto fnExactPagesWithSpec)

/-- 'laws.FnExactWithState', WHERE WHAT IT READS IS OF BULK AT MOST 1048576: true; the input reads as it did. -/
def fnExactWithStateUptoRow : OpenClaim := { program := "ytppdjhchangikaa", sum := "dd568b9fec92b871bf98d29944dfba9effd77a6ea6629900761061cc33854117", func := "loop.example/g00969/laws.FnExactWithState", spec := "fnExactWithState", apart := false, narrowed := true }
def FnExactWithStateUptoSaid : Prop := fnExactWithStateUptoRow.holds Try.pinned (OpenSpec.upto fnExactWithStateSpec)

/-- 'laws.FnExactFirstClean', WHERE WHAT IT READS IS OF BULK AT MOST 1048576: true; the input reads as it did. -/
def fnExactFirstCleanUptoRow : OpenClaim := { program := "ytppdjhchangikaa", sum := "dd568b9fec92b871bf98d29944dfba9effd77a6ea6629900761061cc33854117", func := "loop.example/g00969/laws.FnExactFirstClean", spec := "fnExactFirstClean", apart := false, narrowed := true }
def FnExactFirstCleanUptoSaid : Prop := fnExactFirstCleanUptoRow.holds Try.pinned (OpenSpec.upto fnExactFirstCleanSpec)

end Rows
end Go.Proofs.Ytppdjhchangikaa
