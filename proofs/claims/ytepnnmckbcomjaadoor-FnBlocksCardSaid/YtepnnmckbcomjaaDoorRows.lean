/-
  NARROWER THAN 'FOR EVERY INPUT', by the rows' own cells (each row's printed sentence says how): FnBlocks: laid · FnColumns: laid · FnExactMixColumns: laid · FnExactBlockText: laid.
  DERIVED. THE GIVEN ROWS OF THIS SEAT. 4 by the template 'for every input the law returns true; each argument reads behind the call as it read before'; 0 by the template 'total and deterministic' (their statements: YtepnnmckbcomjaaDoorTotals.lean).
  GIVEN WITH THE SEED: the statements are not yours to turn. If you find one false, say at which input.
  Laid BY PROGRAM, IN A SANDBOX (cutbox-rows.mjs): the forced cells as the released guide's own fill.sh prints them over the translation a8b73166c7539adc… (all of the seat's roots in one cut). By AI agents, Wed Nov 11 2026. No macro, syntax, notation, axiom, sorry.
-/
import Derived.Test.YtepnnmckbcomjaaDoorChecked
import GoSem.Claim
import GoSem.ClaimJoined
import GoSem.ClaimMapViews
import Derived.JoinedTies
import Derived.KernelRfl
namespace Go.Proofs.YtepnnmckbcomjaaDoor
/- THE CELL 'sum', in the pinned program and in every row, IS THE sha256 OF THE DUMP (.gsa) THAT YtepnnmckbcomjaaDoorProg.lean LOADS. Nothing in Lean hashes anything: it is a label: what it is worth is what the hold of that sum in a sandbox is worth. -/
noncomputable def Tryd.pinned : Pinned := { name := "ytepnnmckbcomjaadoor", sum := "a8b73166c7539adcaf27a31284d2f8ab1afe7f4fa5bc77c234d14dd0b0847275", checked := Tryd.checked }
namespace Rows
def none {H : Type} : Left H := { results := [], args := [] }

/- WHAT THE LISTED PACKAGE-LEVEL VARIABLES READ AS WHEN THE CALL BEGINS. Each datum BY PROGRAM (the guide's laid-datum.mjs) off the statement by which the dump's own 'gosem.cut.vars' lays the variable. In a bare row this is a premise. The card (YtepnnmckbcomjaaDoorCards.lean) ties it to the program's text. -/
def laid_loop_example_g00969_impl_mixFactors {H : Type} : DataW H := .agg [.lit (.int .i64 2), .lit (.int .i64 3), .lit (.int .i64 1), .lit (.int .i64 1)]

/-- 'laws.FnBlocks': WHATEVER THE INPUT: true; the input reads as it did. -/
def fnBlocksSpec : ChangeSpec := { name := "fnBlocks", vars := ["loop.example/g00969/impl.mixFactors"], fn := fun _ => fun
  | [d, g1] => { results := [.lit (.bool true)], args := [d], vars := [g1] }
  | _ => none }
def fnBlocksRow : OpenClaim := { program := "ytepnnmckbcomjaadoor", sum := "a8b73166c7539adcaf27a31284d2f8ab1afe7f4fa5bc77c234d14dd0b0847275", func := "loop.example/g00969/laws.FnBlocks", spec := "fnBlocks", unfollowed := true, recurses := true, named := ["loop.example/g00969/impl.mixFactors"], apart := false, laid := [("loop.example/g00969/impl.mixFactors", laid_loop_example_g00969_impl_mixFactors)] }
def FnBlocksSaid : Prop := fnBlocksRow.holds Tryd.pinned (OpenSpec.ofChange fnBlocksSpec)

/-- ITS FALSE NEIGHBOUR: 'it returns false'. Refute it at one input. -/
def fnBlocksWrong : ChangeSpec := { name := "fnBlocks", vars := ["loop.example/g00969/impl.mixFactors"], fn := fun _ => fun
  | [d, g1] => { results := [.lit (.bool false)], args := [d], vars := [g1] }
  | _ => none }
def FnBlocksWrongFalsely : Prop := fnBlocksRow.holds Tryd.pinned (OpenSpec.ofChange fnBlocksWrong)

/-- 'laws.FnColumns': WHATEVER THE INPUT: true; the input reads as it did. -/
def fnColumnsSpec : ChangeSpec := { name := "fnColumns", vars := ["loop.example/g00969/impl.mixFactors"], fn := fun _ => fun
  | [d, g1] => { results := [.lit (.bool true)], args := [d], vars := [g1] }
  | _ => none }
def fnColumnsRow : OpenClaim := { program := "ytepnnmckbcomjaadoor", sum := "a8b73166c7539adcaf27a31284d2f8ab1afe7f4fa5bc77c234d14dd0b0847275", func := "loop.example/g00969/laws.FnColumns", spec := "fnColumns", named := ["loop.example/g00969/impl.mixFactors"], apart := false, laid := [("loop.example/g00969/impl.mixFactors", laid_loop_example_g00969_impl_mixFactors)] }
def FnColumnsSaid : Prop := fnColumnsRow.holds Tryd.pinned (OpenSpec.ofChange fnColumnsSpec)

/-- ITS FALSE NEIGHBOUR: 'it returns false'. Refute it at one input. -/
def fnColumnsWrong : ChangeSpec := { name := "fnColumns", vars := ["loop.example/g00969/impl.mixFactors"], fn := fun _ => fun
  | [d, g1] => { results := [.lit (.bool false)], args := [d], vars := [g1] }
  | _ => none }
def FnColumnsWrongFalsely : Prop := fnColumnsRow.holds Tryd.pinned (OpenSpec.ofChange fnColumnsWrong)

/-- 'laws.FnExactMixColumns': WHATEVER THE INPUT: true; the input reads as it did. -/
def fnExactMixColumnsSpec : ChangeSpec := { name := "fnExactMixColumns", vars := ["loop.example/g00969/impl.mixFactors"], fn := fun _ => fun
  | [d, g1] => { results := [.lit (.bool true)], args := [d], vars := [g1] }
  | _ => none }
def fnExactMixColumnsRow : OpenClaim := { program := "ytepnnmckbcomjaadoor", sum := "a8b73166c7539adcaf27a31284d2f8ab1afe7f4fa5bc77c234d14dd0b0847275", func := "loop.example/g00969/laws.FnExactMixColumns", spec := "fnExactMixColumns", named := ["loop.example/g00969/impl.mixFactors"], apart := false, laid := [("loop.example/g00969/impl.mixFactors", laid_loop_example_g00969_impl_mixFactors)] }
def FnExactMixColumnsSaid : Prop := fnExactMixColumnsRow.holds Tryd.pinned (OpenSpec.ofChange fnExactMixColumnsSpec)

/-- ITS FALSE NEIGHBOUR: 'it returns false'. Refute it at one input. -/
def fnExactMixColumnsWrong : ChangeSpec := { name := "fnExactMixColumns", vars := ["loop.example/g00969/impl.mixFactors"], fn := fun _ => fun
  | [d, g1] => { results := [.lit (.bool false)], args := [d], vars := [g1] }
  | _ => none }
def FnExactMixColumnsWrongFalsely : Prop := fnExactMixColumnsRow.holds Tryd.pinned (OpenSpec.ofChange fnExactMixColumnsWrong)

/-- 'laws.FnExactBlockText': WHATEVER THE INPUT: true; the input reads as it did. -/
def fnExactBlockTextSpec : ChangeSpec := { name := "fnExactBlockText", vars := ["loop.example/g00969/impl.mixFactors"], fn := fun _ => fun
  | [d1, d2, g1] => { results := [.lit (.bool true)], args := [d1, d2], vars := [g1] }
  | _ => none }
def fnExactBlockTextRow : OpenClaim := { program := "ytepnnmckbcomjaadoor", sum := "a8b73166c7539adcaf27a31284d2f8ab1afe7f4fa5bc77c234d14dd0b0847275", func := "loop.example/g00969/laws.FnExactBlockText", spec := "fnExactBlockText", unfollowed := true, recurses := true, named := ["loop.example/g00969/impl.mixFactors"], apart := false, laid := [("loop.example/g00969/impl.mixFactors", laid_loop_example_g00969_impl_mixFactors)] }
def FnExactBlockTextSaid : Prop := fnExactBlockTextRow.holds Tryd.pinned (OpenSpec.ofChange fnExactBlockTextSpec)

/-- ITS FALSE NEIGHBOUR: 'it returns false'. Refute it at one input. -/
def fnExactBlockTextWrong : ChangeSpec := { name := "fnExactBlockText", vars := ["loop.example/g00969/impl.mixFactors"], fn := fun _ => fun
  | [d1, d2, g1] => { results := [.lit (.bool false)], args := [d1, d2], vars := [g1] }
  | _ => none }
def FnExactBlockTextWrongFalsely : Prop := fnExactBlockTextRow.holds Tryd.pinned (OpenSpec.ofChange fnExactBlockTextWrong)

/- THE SECOND FORM. 'bulk': how many values and letters a reading holds, each counted each time it is reached (what is shared counts as often as it is met; a slice's spare places count too). A statement '..UptoSaid' is the law's where the arguments, and the package variables that the reading takes, are together of bulk at most 1048576: NARROWER than '..Said'. Prove '..Said' where nothing that the law and all that it calls make is longer than what came in: it says more and counts as full. Else prove '..UptoSaid'. A law counts once. -/
mutual
def uptoBulk {H : Type} : DataW H → Nat
  | .lit (.string bytes) => bytes.length + 1
  | .lit _ => 1
  | .nil => 1
  | .ptr d => uptoBulk d + 1
  | .slice elems spare => uptoBulkAll elems + uptoBulkAll spare + 1
  | .agg parts => uptoBulkAll parts + 1
  | .iface _ d => uptoBulk d + 1
  | .map entries => uptoBulkEntries entries + 1
  | .held _ => 1
def uptoBulkAll {H : Type} : List (DataW H) → Nat
  | [] => 0
  | d :: r => uptoBulk d + uptoBulkAll r
def uptoBulkEntries {H : Type} : List (Lit × DataW H) → Nat
  | [] => 0
  | x :: r => uptoBulkEntry x + uptoBulkEntries r
def uptoBulkEntry {H : Type} : Lit × DataW H → Nat
  | (.string bytes, d) => bytes.length + uptoBulk d + 1
  | (_, d) => uptoBulk d + 1
 end
def uptoSmall : (H : Type) → List (DataW H) → Bool := fun _ ds => decide (uptoBulkAll ds ≤ 1048576)
def OpenSpec.upto (s : _root_.Go.ChangeSpec) : _root_.Go.OpenSpec := { _root_.Go.OpenSpec.ofChange s with cond := some uptoSmall }

/-- 'laws.FnBlocks', WHERE WHAT IT READS IS OF BULK AT MOST 1048576: true; the input reads as it did. -/
def fnBlocksUptoRow : OpenClaim := { program := "ytepnnmckbcomjaadoor", sum := "a8b73166c7539adcaf27a31284d2f8ab1afe7f4fa5bc77c234d14dd0b0847275", func := "loop.example/g00969/laws.FnBlocks", spec := "fnBlocks", unfollowed := true, recurses := true, named := ["loop.example/g00969/impl.mixFactors"], apart := false, laid := [("loop.example/g00969/impl.mixFactors", laid_loop_example_g00969_impl_mixFactors)], narrowed := true }
def FnBlocksUptoSaid : Prop := fnBlocksUptoRow.holds Tryd.pinned (OpenSpec.upto fnBlocksSpec)

/-- 'laws.FnColumns', WHERE WHAT IT READS IS OF BULK AT MOST 1048576: true; the input reads as it did. -/
def fnColumnsUptoRow : OpenClaim := { program := "ytepnnmckbcomjaadoor", sum := "a8b73166c7539adcaf27a31284d2f8ab1afe7f4fa5bc77c234d14dd0b0847275", func := "loop.example/g00969/laws.FnColumns", spec := "fnColumns", named := ["loop.example/g00969/impl.mixFactors"], apart := false, laid := [("loop.example/g00969/impl.mixFactors", laid_loop_example_g00969_impl_mixFactors)], narrowed := true }
def FnColumnsUptoSaid : Prop := fnColumnsUptoRow.holds Tryd.pinned (OpenSpec.upto fnColumnsSpec)

/-- 'laws.FnExactMixColumns', WHERE WHAT IT READS IS OF BULK AT MOST 1048576: true; the input reads as it did. -/
def fnExactMixColumnsUptoRow : OpenClaim := { program := "ytepnnmckbcomjaadoor", sum := "a8b73166c7539adcaf27a31284d2f8ab1afe7f4fa5bc77c234d14dd0b0847275", func := "loop.example/g00969/laws.FnExactMixColumns", spec := "fnExactMixColumns", named := ["loop.example/g00969/impl.mixFactors"], apart := false, laid := [("loop.example/g00969/impl.mixFactors", laid_loop_example_g00969_impl_mixFactors)], narrowed := true }
def FnExactMixColumnsUptoSaid : Prop := fnExactMixColumnsUptoRow.holds Tryd.pinned (OpenSpec.upto fnExactMixColumnsSpec)

/-- 'laws.FnExactBlockText', WHERE WHAT IT READS IS OF BULK AT MOST 1048576: true; the input reads as it did. -/
def fnExactBlockTextUptoRow : OpenClaim := { program := "ytepnnmckbcomjaadoor", sum := "a8b73166c7539adcaf27a31284d2f8ab1afe7f4fa5bc77c234d14dd0b0847275", func := "loop.example/g00969/laws.FnExactBlockText", spec := "fnExactBlockText", unfollowed := true, recurses := true, named := ["loop.example/g00969/impl.mixFactors"], apart := false, laid := [("loop.example/g00969/impl.mixFactors", laid_loop_example_g00969_impl_mixFactors)], narrowed := true }
def FnExactBlockTextUptoSaid : Prop := fnExactBlockTextUptoRow.holds Tryd.pinned (OpenSpec.upto fnExactBlockTextSpec)

end Rows
end Go.Proofs.YtepnnmckbcomjaaDoor
