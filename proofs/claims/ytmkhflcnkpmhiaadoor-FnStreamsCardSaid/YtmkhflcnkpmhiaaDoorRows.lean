/-
  NARROWER THAN 'FOR EVERY INPUT', by the rows' own cells (each row's printed sentence says how): FnStreams: laid · FnExactStreamOf: laid · FnExactStreamed: laid · FnExactStreamBlock: laid.
  DERIVED. THE GIVEN ROWS OF THIS SEAT. 4 by the template 'for every input the law returns true; each argument reads behind the call as it read before'; 0 by the template 'total and deterministic' (their statements: YtmkhflcnkpmhiaaDoorTotals.lean).
  GIVEN WITH THE SEED: the statements are not yours to turn. If you find one false, say at which input.
  Laid BY PROGRAM, IN A SANDBOX (cutbox-rows.mjs): the forced cells as the released guide's own fill.sh prints them over the translation c9010b395b26c59f… (all of the seat's roots in one cut). By AI agents, Wed Nov 11 2026. No macro, syntax, notation, axiom, sorry.
-/
import Derived.Test.YtmkhflcnkpmhiaaDoorChecked
import GoSem.Claim
import GoSem.ClaimJoined
import GoSem.ClaimMapViews
import Derived.JoinedTies
import Derived.KernelRfl
namespace Go.Proofs.YtmkhflcnkpmhiaaDoor
/- THE CELL 'sum', in the pinned program and in every row, IS THE sha256 OF THE DUMP (.gsa) THAT YtmkhflcnkpmhiaaDoorProg.lean LOADS. Nothing in Lean hashes anything: it is a label: what it is worth is what the hold of that sum in a sandbox is worth. -/
noncomputable def Tryd.pinned : Pinned := { name := "ytmkhflcnkpmhiaadoor", sum := "c9010b395b26c59f191bd0738e7a585a33eb75312d68c98852a8628bbe3e427e", checked := Tryd.checked }
namespace Rows
def none {H : Type} : Left H := { results := [], args := [] }

/- WHAT THE LISTED PACKAGE-LEVEL VARIABLES READ AS WHEN THE CALL BEGINS. Each datum BY PROGRAM (the guide's laid-datum.mjs) off the statement by which the dump's own 'gosem.cut.vars' lays the variable. In a bare row this is a premise. The card (YtmkhflcnkpmhiaaDoorCards.lean) ties it to the program's text. -/
def laid_loop_example_g00969_impl_mixFactors {H : Type} : DataW H := .agg [.lit (.int .i64 2), .lit (.int .i64 3), .lit (.int .i64 1), .lit (.int .i64 1)]

/-- 'laws.FnStreams': WHATEVER THE INPUT: true; the input reads as it did. -/
def fnStreamsSpec : ChangeSpec := { name := "fnStreams", vars := ["loop.example/g00969/impl.mixFactors"], fn := fun _ => fun
  | [d, g1] => { results := [.lit (.bool true)], args := [d], vars := [g1] }
  | _ => none }
def fnStreamsRow : OpenClaim := { program := "ytmkhflcnkpmhiaadoor", sum := "c9010b395b26c59f191bd0738e7a585a33eb75312d68c98852a8628bbe3e427e", func := "loop.example/g00969/laws.FnStreams", spec := "fnStreams", unfollowed := true, recurses := true, named := ["loop.example/g00969/impl.mixFactors"], apart := false, laid := [("loop.example/g00969/impl.mixFactors", laid_loop_example_g00969_impl_mixFactors)] }
def FnStreamsSaid : Prop := fnStreamsRow.holds Tryd.pinned (OpenSpec.ofChange fnStreamsSpec)

/-- ITS FALSE NEIGHBOUR: 'it returns false'. Refute it at one input. -/
def fnStreamsWrong : ChangeSpec := { name := "fnStreams", vars := ["loop.example/g00969/impl.mixFactors"], fn := fun _ => fun
  | [d, g1] => { results := [.lit (.bool false)], args := [d], vars := [g1] }
  | _ => none }
def FnStreamsWrongFalsely : Prop := fnStreamsRow.holds Tryd.pinned (OpenSpec.ofChange fnStreamsWrong)

/-- 'laws.FnExactStreamOf': WHATEVER THE INPUT: true; the input reads as it did. -/
def fnExactStreamOfSpec : ChangeSpec := { name := "fnExactStreamOf", vars := ["loop.example/g00969/impl.mixFactors"], fn := fun _ => fun
  | [d1, d2, d3, g1] => { results := [.lit (.bool true)], args := [d1, d2, d3], vars := [g1] }
  | _ => none }
def fnExactStreamOfRow : OpenClaim := { program := "ytmkhflcnkpmhiaadoor", sum := "c9010b395b26c59f191bd0738e7a585a33eb75312d68c98852a8628bbe3e427e", func := "loop.example/g00969/laws.FnExactStreamOf", spec := "fnExactStreamOf", unfollowed := true, recurses := true, named := ["loop.example/g00969/impl.mixFactors"], apart := false, laid := [("loop.example/g00969/impl.mixFactors", laid_loop_example_g00969_impl_mixFactors)] }
def FnExactStreamOfSaid : Prop := fnExactStreamOfRow.holds Tryd.pinned (OpenSpec.ofChange fnExactStreamOfSpec)

/-- ITS FALSE NEIGHBOUR: 'it returns false'. Refute it at one input. -/
def fnExactStreamOfWrong : ChangeSpec := { name := "fnExactStreamOf", vars := ["loop.example/g00969/impl.mixFactors"], fn := fun _ => fun
  | [d1, d2, d3, g1] => { results := [.lit (.bool false)], args := [d1, d2, d3], vars := [g1] }
  | _ => none }
def FnExactStreamOfWrongFalsely : Prop := fnExactStreamOfRow.holds Tryd.pinned (OpenSpec.ofChange fnExactStreamOfWrong)

/-- 'laws.FnExactStreamed': WHATEVER THE INPUT: true; the input reads as it did. -/
def fnExactStreamedSpec : ChangeSpec := { name := "fnExactStreamed", vars := ["loop.example/g00969/impl.mixFactors"], fn := fun _ => fun
  | [d1, d2, d3, g1] => { results := [.lit (.bool true)], args := [d1, d2, d3], vars := [g1] }
  | _ => none }
def fnExactStreamedRow : OpenClaim := { program := "ytmkhflcnkpmhiaadoor", sum := "c9010b395b26c59f191bd0738e7a585a33eb75312d68c98852a8628bbe3e427e", func := "loop.example/g00969/laws.FnExactStreamed", spec := "fnExactStreamed", unfollowed := true, recurses := true, named := ["loop.example/g00969/impl.mixFactors"], apart := false, laid := [("loop.example/g00969/impl.mixFactors", laid_loop_example_g00969_impl_mixFactors)] }
def FnExactStreamedSaid : Prop := fnExactStreamedRow.holds Tryd.pinned (OpenSpec.ofChange fnExactStreamedSpec)

/-- ITS FALSE NEIGHBOUR: 'it returns false'. Refute it at one input. -/
def fnExactStreamedWrong : ChangeSpec := { name := "fnExactStreamed", vars := ["loop.example/g00969/impl.mixFactors"], fn := fun _ => fun
  | [d1, d2, d3, g1] => { results := [.lit (.bool false)], args := [d1, d2, d3], vars := [g1] }
  | _ => none }
def FnExactStreamedWrongFalsely : Prop := fnExactStreamedRow.holds Tryd.pinned (OpenSpec.ofChange fnExactStreamedWrong)

/-- 'laws.FnExactStreamBlock': WHATEVER THE INPUT: true; the input reads as it did. -/
def fnExactStreamBlockSpec : ChangeSpec := { name := "fnExactStreamBlock", vars := ["loop.example/g00969/impl.mixFactors"], fn := fun _ => fun
  | [d1, d2, d3, g1] => { results := [.lit (.bool true)], args := [d1, d2, d3], vars := [g1] }
  | _ => none }
def fnExactStreamBlockRow : OpenClaim := { program := "ytmkhflcnkpmhiaadoor", sum := "c9010b395b26c59f191bd0738e7a585a33eb75312d68c98852a8628bbe3e427e", func := "loop.example/g00969/laws.FnExactStreamBlock", spec := "fnExactStreamBlock", unfollowed := true, recurses := true, named := ["loop.example/g00969/impl.mixFactors"], apart := false, laid := [("loop.example/g00969/impl.mixFactors", laid_loop_example_g00969_impl_mixFactors)] }
def FnExactStreamBlockSaid : Prop := fnExactStreamBlockRow.holds Tryd.pinned (OpenSpec.ofChange fnExactStreamBlockSpec)

/-- ITS FALSE NEIGHBOUR: 'it returns false'. Refute it at one input. -/
def fnExactStreamBlockWrong : ChangeSpec := { name := "fnExactStreamBlock", vars := ["loop.example/g00969/impl.mixFactors"], fn := fun _ => fun
  | [d1, d2, d3, g1] => { results := [.lit (.bool false)], args := [d1, d2, d3], vars := [g1] }
  | _ => none }
def FnExactStreamBlockWrongFalsely : Prop := fnExactStreamBlockRow.holds Tryd.pinned (OpenSpec.ofChange fnExactStreamBlockWrong)

/- THE SECOND FORM. 'bulk': how many values and letters a reading holds, each counted each time it is reached (what is shared counts as often as it is met; a slice's spare places count too). A statement '..UptoSaid' is the law's where the arguments, and the package variables that the reading takes, are together of bulk at most 1048576: NARROWER than '..Said'. Prove '..Said' where nothing that the law and all that it calls make is longer than what came in: it says more and counts as full. Else prove '..UptoSaid'. A law counts once. -/
mutual
def uptoBulk {H : Type} : DataW H → Nat
  | .lit (.string bytes) => bytes.length + 1
  | .lit _ => 1
  | .nil => 1
  | .ptr d => uptoBulk d + 1
  | .slice elems spare => uptoBulkAll elems + uptoBulkAll spare + 1
  | .agg parts => uptoBulkAll parts + 1
  | .iface _ d => uptoBulk d + 1
  | .map entries => uptoBulkEntries entries + 1
  | .held _ => 1
def uptoBulkAll {H : Type} : List (DataW H) → Nat
  | [] => 0
  | d :: r => uptoBulk d + uptoBulkAll r
def uptoBulkEntries {H : Type} : List (Lit × DataW H) → Nat
  | [] => 0
  | x :: r => uptoBulkEntry x + uptoBulkEntries r
def uptoBulkEntry {H : Type} : Lit × DataW H → Nat
  | (.string bytes, d) => bytes.length + uptoBulk d + 1
  | (_, d) => uptoBulk d + 1
 end
def uptoSmall : (H : Type) → List (DataW H) → Bool := fun _ ds => decide (uptoBulkAll ds ≤ 1048576)
def OpenSpec.upto (s : _root_.Go.ChangeSpec) : _root_.Go.OpenSpec := { _root_.Go.OpenSpec.ofChange s with cond := some uptoSmall }

/-- 'laws.FnStreams', WHERE WHAT IT READS IS OF BULK AT MOST 1048576: true; the input reads as it did. -/
def fnStreamsUptoRow : OpenClaim := { program := "ytmkhflcnkpmhiaadoor", sum := "c9010b395b26c59f191bd0738e7a585a33eb75312d68c98852a8628bbe3e427e", func := "loop.example/g00969/laws.FnStreams", spec := "fnStreams", unfollowed := true, recurses := true, named := ["loop.example/g00969/impl.mixFactors"], apart := false, laid := [("loop.example/g00969/impl.mixFactors", laid_loop_example_g00969_impl_mixFactors)], narrowed := true }
def FnStreamsUptoSaid : Prop := fnStreamsUptoRow.holds Tryd.pinned (OpenSpec.upto fnStreamsSpec)

/-- 'laws.FnExactStreamOf', WHERE WHAT IT READS IS OF BULK AT MOST 1048576: true; the input reads as it did. -/
def fnExactStreamOfUptoRow : OpenClaim := { program := "ytmkhflcnkpmhiaadoor", sum := "c9010b395b26c59f191bd0738e7a585a33eb75312d68c98852a8628bbe3e427e", func := "loop.example/g00969/laws.FnExactStreamOf", spec := "fnExactStreamOf", unfollowed := true, recurses := true, named := ["loop.example/g00969/impl.mixFactors"], apart := false, laid := [("loop.example/g00969/impl.mixFactors", laid_loop_example_g00969_impl_mixFactors)], narrowed := true }
def FnExactStreamOfUptoSaid : Prop := fnExactStreamOfUptoRow.holds Tryd.pinned (OpenSpec.upto fnExactStreamOfSpec)

/-- 'laws.FnExactStreamed', WHERE WHAT IT READS IS OF BULK AT MOST 1048576: true; the input reads as it did. -/
def fnExactStreamedUptoRow : OpenClaim := { program := "ytmkhflcnkpmhiaadoor", sum := "c9010b395b26c59f191bd0738e7a585a33eb75312d68c98852a8628bbe3e427e", func := "loop.example/g00969/laws.FnExactStreamed", spec := "fnExactStreamed", unfollowed := true, recurses := true, named := ["loop.example/g00969/impl.mixFactors"], apart := false, laid := [("loop.example/g00969/impl.mixFactors", laid_loop_example_g00969_impl_mixFactors)], narrowed := true }
def FnExactStreamedUptoSaid : Prop := fnExactStreamedUptoRow.holds Tryd.pinned (OpenSpec.upto fnExactStreamedSpec)

/-- 'laws.FnExactStreamBlock', WHERE WHAT IT READS IS OF BULK AT MOST 1048576: true; the input reads as it did. -/
def fnExactStreamBlockUptoRow : OpenClaim := { program := "ytmkhflcnkpmhiaadoor", sum := "c9010b395b26c59f191bd0738e7a585a33eb75312d68c98852a8628bbe3e427e", func := "loop.example/g00969/laws.FnExactStreamBlock", spec := "fnExactStreamBlock", unfollowed := true, recurses := true, named := ["loop.example/g00969/impl.mixFactors"], apart := false, laid := [("loop.example/g00969/impl.mixFactors", laid_loop_example_g00969_impl_mixFactors)], narrowed := true }
def FnExactStreamBlockUptoSaid : Prop := fnExactStreamBlockUptoRow.holds Tryd.pinned (OpenSpec.upto fnExactStreamBlockSpec)

end Rows
end Go.Proofs.YtmkhflcnkpmhiaaDoor
