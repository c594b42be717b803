/-
  No cell of these rows narrows 'for every input' (looked for: loops, veiled, ifaces, maps, wideKeys, modest, calm, conditions, laid).
  DERIVED. THE GIVEN ROWS OF THIS SEAT. 10 by the template 'for every input the law returns true; each argument reads behind the call as it read before'; 0 by the template 'total and deterministic' (their statements: YtmiibejjnehffaaTotals.lean).
  GIVEN WITH THE SEED: the statements are not yours to turn. If you find one false, say at which input.
  Laid BY PROGRAM, IN A SANDBOX (cutbox-rows.mjs): the forced cells as the released guide's own fill.sh prints them over the translation 350cf000852cfbe7… (all of the seat's roots in one cut). By AI agents, Wed Nov 11 2026. No macro, syntax, notation, axiom, sorry.
-/
import Derived.Test.YtmiibejjnehffaaChecked
import GoSem.Claim
import GoSem.ClaimJoined
import GoSem.ClaimMapViews
import Derived.JoinedTies
import Derived.KernelRfl
namespace Go.Proofs.Ytmiibejjnehffaa
/- THE CELL 'sum', in the pinned program and in every row, IS THE sha256 OF THE DUMP (.gsa) THAT YtmiibejjnehffaaProg.lean LOADS. Nothing in Lean hashes anything: it is a label: what it is worth is what the hold of that sum in a sandbox is worth. -/
noncomputable def Try.pinned : Pinned := { name := "ytmiibejjnehffaa", sum := "350cf000852cfbe7d91dc0c05888890de0b694d4a42130170ecf9f938c453ac5", checked := Try.checked }
namespace Rows
def none {H : Type} : Left H := { results := [], args := [] }

/-- 'laws.FnPlaces': WHATEVER THE INPUT: true; the input reads as it did. -/
def fnPlacesSpec : ChangeSpec := { name := "fnPlaces", fn := fun _ => fun
  | [d] => { results := [.lit (.bool true)], args := [d] }
  | _ => none }
def fnPlacesRow : OpenClaim := { program := "ytmiibejjnehffaa", sum := "350cf000852cfbe7d91dc0c05888890de0b694d4a42130170ecf9f938c453ac5", func := "loop.example/g00969/laws.FnPlaces", spec := "fnPlaces", apart := false }
def FnPlacesSaid : Prop := fnPlacesRow.holds Try.pinned (OpenSpec.ofChange fnPlacesSpec)

/-- ITS FALSE NEIGHBOUR: 'it returns false'. Refute it at one input. -/
def fnPlacesWrong : ChangeSpec := { name := "fnPlaces", fn := fun _ => fun
  | [d] => { results := [.lit (.bool false)], args := [d] }
  | _ => none }
def FnPlacesWrongFalsely : Prop := fnPlacesRow.holds Try.pinned (OpenSpec.ofChange fnPlacesWrong)

/-- 'laws.FnExactGeoOk': WHATEVER THE INPUT: true; the input reads as it did. -/
def fnExactGeoOkSpec : ChangeSpec := { name := "fnExactGeoOk", fn := fun _ => fun
  | [d] => { results := [.lit (.bool true)], args := [d] }
  | _ => none }
def fnExactGeoOkRow : OpenClaim := { program := "ytmiibejjnehffaa", sum := "350cf000852cfbe7d91dc0c05888890de0b694d4a42130170ecf9f938c453ac5", func := "loop.example/g00969/laws.FnExactGeoOk", spec := "fnExactGeoOk", apart := false }
def FnExactGeoOkSaid : Prop := fnExactGeoOkRow.holds Try.pinned (OpenSpec.ofChange fnExactGeoOkSpec)

/-- ITS FALSE NEIGHBOUR: 'it returns false'. Refute it at one input. -/
def fnExactGeoOkWrong : ChangeSpec := { name := "fnExactGeoOk", fn := fun _ => fun
  | [d] => { results := [.lit (.bool false)], args := [d] }
  | _ => none }
def FnExactGeoOkWrongFalsely : Prop := fnExactGeoOkRow.holds Try.pinned (OpenSpec.ofChange fnExactGeoOkWrong)

/-- 'laws.FnExactPartWords': WHATEVER THE INPUT: true; the input reads as it did. -/
def fnExactPartWordsSpec : ChangeSpec := { name := "fnExactPartWords", fn := fun _ => fun
  | [d] => { results := [.lit (.bool true)], args := [d] }
  | _ => none }
def fnExactPartWordsRow : OpenClaim := { program := "ytmiibejjnehffaa", sum := "350cf000852cfbe7d91dc0c05888890de0b694d4a42130170ecf9f938c453ac5", func := "loop.example/g00969/laws.FnExactPartWords", spec := "fnExactPartWords", apart := false }
def FnExactPartWordsSaid : Prop := fnExactPartWordsRow.holds Try.pinned (OpenSpec.ofChange fnExactPartWordsSpec)

/-- ITS FALSE NEIGHBOUR: 'it returns false'. Refute it at one input. -/
def fnExactPartWordsWrong : ChangeSpec := { name := "fnExactPartWords", fn := fun _ => fun
  | [d] => { results := [.lit (.bool false)], args := [d] }
  | _ => none }
def FnExactPartWordsWrongFalsely : Prop := fnExactPartWordsRow.holds Try.pinned (OpenSpec.ofChange fnExactPartWordsWrong)

/-- 'laws.FnExactCommitAt': WHATEVER THE INPUT: true; the input reads as it did. -/
def fnExactCommitAtSpec : ChangeSpec := { name := "fnExactCommitAt", fn := fun _ => fun
  | [d1, d2] => { results := [.lit (.bool true)], args := [d1, d2] }
  | _ => none }
def fnExactCommitAtRow : OpenClaim := { program := "ytmiibejjnehffaa", sum := "350cf000852cfbe7d91dc0c05888890de0b694d4a42130170ecf9f938c453ac5", func := "loop.example/g00969/laws.FnExactCommitAt", spec := "fnExactCommitAt", apart := false }
def FnExactCommitAtSaid : Prop := fnExactCommitAtRow.holds Try.pinned (OpenSpec.ofChange fnExactCommitAtSpec)

/-- ITS FALSE NEIGHBOUR: 'it returns false'. Refute it at one input. -/
def fnExactCommitAtWrong : ChangeSpec := { name := "fnExactCommitAt", fn := fun _ => fun
  | [d1, d2] => { results := [.lit (.bool false)], args := [d1, d2] }
  | _ => none }
def FnExactCommitAtWrongFalsely : Prop := fnExactCommitAtRow.holds Try.pinned (OpenSpec.ofChange fnExactCommitAtWrong)

/-- 'laws.FnExactSerialAt': WHATEVER THE INPUT: true; the input reads as it did. -/
def fnExactSerialAtSpec : ChangeSpec := { name := "fnExactSerialAt", fn := fun _ => fun
  | [d1, d2] => { results := [.lit (.bool true)], args := [d1, d2] }
  | _ => none }
def fnExactSerialAtRow : OpenClaim := { program := "ytmiibejjnehffaa", sum := "350cf000852cfbe7d91dc0c05888890de0b694d4a42130170ecf9f938c453ac5", func := "loop.example/g00969/laws.FnExactSerialAt", spec := "fnExactSerialAt", apart := false }
def FnExactSerialAtSaid : Prop := fnExactSerialAtRow.holds Try.pinned (OpenSpec.ofChange fnExactSerialAtSpec)

/-- ITS FALSE NEIGHBOUR: 'it returns false'. Refute it at one input. -/
def fnExactSerialAtWrong : ChangeSpec := { name := "fnExactSerialAt", fn := fun _ => fun
  | [d1, d2] => { results := [.lit (.bool false)], args := [d1, d2] }
  | _ => none }
def FnExactSerialAtWrongFalsely : Prop := fnExactSerialAtRow.holds Try.pinned (OpenSpec.ofChange fnExactSerialAtWrong)

/-- 'laws.FnExactJournalAt': WHATEVER THE INPUT: true; the input reads as it did. -/
def fnExactJournalAtSpec : ChangeSpec := { name := "fnExactJournalAt", fn := fun _ => fun
  | [d1, d2, d3] => { results := [.lit (.bool true)], args := [d1, d2, d3] }
  | _ => none }
def fnExactJournalAtRow : OpenClaim := { program := "ytmiibejjnehffaa", sum := "350cf000852cfbe7d91dc0c05888890de0b694d4a42130170ecf9f938c453ac5", func := "loop.example/g00969/laws.FnExactJournalAt", spec := "fnExactJournalAt", apart := false }
def FnExactJournalAtSaid : Prop := fnExactJournalAtRow.holds Try.pinned (OpenSpec.ofChange fnExactJournalAtSpec)

/-- ITS FALSE NEIGHBOUR: 'it returns false'. Refute it at one input. -/
def fnExactJournalAtWrong : ChangeSpec := { name := "fnExactJournalAt", fn := fun _ => fun
  | [d1, d2, d3] => { results := [.lit (.bool false)], args := [d1, d2, d3] }
  | _ => none }
def FnExactJournalAtWrongFalsely : Prop := fnExactJournalAtRow.holds Try.pinned (OpenSpec.ofChange fnExactJournalAtWrong)

/-- 'laws.FnExactInodeAt': WHATEVER THE INPUT: true; the input reads as it did. -/
def fnExactInodeAtSpec : ChangeSpec := { name := "fnExactInodeAt", fn := fun _ => fun
  | [d1, d2, d3] => { results := [.lit (.bool true)], args := [d1, d2, d3] }
  | _ => none }
def fnExactInodeAtRow : OpenClaim := { program := "ytmiibejjnehffaa", sum := "350cf000852cfbe7d91dc0c05888890de0b694d4a42130170ecf9f938c453ac5", func := "loop.example/g00969/laws.FnExactInodeAt", spec := "fnExactInodeAt", apart := false }
def FnExactInodeAtSaid : Prop := fnExactInodeAtRow.holds Try.pinned (OpenSpec.ofChange fnExactInodeAtSpec)

/-- ITS FALSE NEIGHBOUR: 'it returns false'. Refute it at one input. -/
def fnExactInodeAtWrong : ChangeSpec := { name := "fnExactInodeAt", fn := fun _ => fun
  | [d1, d2, d3] => { results := [.lit (.bool false)], args := [d1, d2, d3] }
  | _ => none }
def FnExactInodeAtWrongFalsely : Prop := fnExactInodeAtRow.holds Try.pinned (OpenSpec.ofChange fnExactInodeAtWrong)

/-- 'laws.FnExactPageAt': WHATEVER THE INPUT: true; the input reads as it did. -/
def fnExactPageAtSpec : ChangeSpec := { name := "fnExactPageAt", fn := fun _ => fun
  | [d1, d2, d3] => { results := [.lit (.bool true)], args := [d1, d2, d3] }
  | _ => none }
def fnExactPageAtRow : OpenClaim := { program := "ytmiibejjnehffaa", sum := "350cf000852cfbe7d91dc0c05888890de0b694d4a42130170ecf9f938c453ac5", func := "loop.example/g00969/laws.FnExactPageAt", spec := "fnExactPageAt", apart := false }
def FnExactPageAtSaid : Prop := fnExactPageAtRow.holds Try.pinned (OpenSpec.ofChange fnExactPageAtSpec)

/-- ITS FALSE NEIGHBOUR: 'it returns false'. Refute it at one input. -/
def fnExactPageAtWrong : ChangeSpec := { name := "fnExactPageAt", fn := fun _ => fun
  | [d1, d2, d3] => { results := [.lit (.bool false)], args := [d1, d2, d3] }
  | _ => none }
def FnExactPageAtWrongFalsely : Prop := fnExactPageAtRow.holds Try.pinned (OpenSpec.ofChange fnExactPageAtWrong)

/-- 'laws.FnExactLinesIn': WHATEVER THE INPUT: true; the input reads as it did. -/
def fnExactLinesInSpec : ChangeSpec := { name := "fnExactLinesIn", fn := fun _ => fun
  | [d] => { results := [.lit (.bool true)], args := [d] }
  | _ => none }
def fnExactLinesInRow : OpenClaim := { program := "ytmiibejjnehffaa", sum := "350cf000852cfbe7d91dc0c05888890de0b694d4a42130170ecf9f938c453ac5", func := "loop.example/g00969/laws.FnExactLinesIn", spec := "fnExactLinesIn", apart := false }
def FnExactLinesInSaid : Prop := fnExactLinesInRow.holds Try.pinned (OpenSpec.ofChange fnExactLinesInSpec)

/-- ITS FALSE NEIGHBOUR: 'it returns false'. Refute it at one input. -/
def fnExactLinesInWrong : ChangeSpec := { name := "fnExactLinesIn", fn := fun _ => fun
  | [d] => { results := [.lit (.bool false)], args := [d] }
  | _ => none }
def FnExactLinesInWrongFalsely : Prop := fnExactLinesInRow.holds Try.pinned (OpenSpec.ofChange fnExactLinesInWrong)

/-- 'laws.FnExactPartAt': WHATEVER THE INPUT: true; the input reads as it did. -/
def fnExactPartAtSpec : ChangeSpec := { name := "fnExactPartAt", fn := fun _ => fun
  | [d1, d2] => { results := [.lit (.bool true)], args := [d1, d2] }
  | _ => none }
def fnExactPartAtRow : OpenClaim := { program := "ytmiibejjnehffaa", sum := "350cf000852cfbe7d91dc0c05888890de0b694d4a42130170ecf9f938c453ac5", func := "loop.example/g00969/laws.FnExactPartAt", spec := "fnExactPartAt", apart := false }
def FnExactPartAtSaid : Prop := fnExactPartAtRow.holds Try.pinned (OpenSpec.ofChange fnExactPartAtSpec)

/-- ITS FALSE NEIGHBOUR: 'it returns false'. Refute it at one input. -/
def fnExactPartAtWrong : ChangeSpec := { name := "fnExactPartAt", fn := fun _ => fun
  | [d1, d2] => { results := [.lit (.bool false)], args := [d1, d2] }
  | _ => none }
def FnExactPartAtWrongFalsely : Prop := fnExactPartAtRow.holds Try.pinned (OpenSpec.ofChange fnExactPartAtWrong)

/- THE SECOND FORM. 'bulk': how many values and letters a reading holds, each counted each time it is reached (what is shared counts as often as it is met; a slice's spare places count too). A statement '..UptoSaid' is the law's where the arguments, and the package variables that the reading takes, are together of bulk at most 1048576: NARROWER than '..Said'. Prove '..Said' where nothing that the law and all that it calls make is longer than what came in: it says more and counts as full. Else prove '..UptoSaid'. A law counts once. -/
mutual
def uptoBulk {H : Type} : DataW H → Nat
  | .lit (.string bytes) => bytes.length + 1
  | .lit _ => 1
  | .nil => 1
  | .ptr d => uptoBulk d + 1
  | .slice elems spare => uptoBulkAll elems + uptoBulkAll spare + 1
  | .agg parts => uptoBulkAll parts + 1
  | .iface _ d => uptoBulk d + 1
  | .map entries => uptoBulkEntries entries + 1
  | .held _ => 1
def uptoBulkAll {H : Type} : List (DataW H) → Nat
  | [] => 0
  | d :: r => uptoBulk d + uptoBulkAll r
def uptoBulkEntries {H : Type} : List (Lit × DataW H) → Nat
  | [] => 0
  | x :: r => uptoBulkEntry x + uptoBulkEntries r
def uptoBulkEntry {H : Type} : Lit × DataW H → Nat
  | (.string bytes, d) => bytes.length + uptoBulk d + 1
  | (_, d) => uptoBulk d + 1
 end
def uptoSmall : (H : Type) → List (DataW H) → Bool := fun _ ds => decide (uptoBulkAll ds ≤ 1048576)
def OpenSpec.upto (s : _root_.Go.ChangeSpec) : _root_.Go.OpenSpec := { _root_.Go.OpenSpec.ofChange s with cond := some uptoSmall }

/-- 'laws.FnPlaces', WHERE WHAT IT READS IS OF BULK AT MOST 1048576: true; the input reads as it did. -/
def fnPlacesUptoRow : OpenClaim := { program := "ytmiibejjnehffaa", sum := "350cf000852cfbe7d91dc0c05888890de0b694d4a42130170ecf9f938c453ac5", func := "loop.example/g00969/laws.FnPlaces", spec := "fnPlaces", apart := false, narrowed := true }
def FnPlacesUptoSaid : Prop := fnPlacesUptoRow.holds Try.pinned (OpenSpec.upto fnPlacesSpec)

/-- 'laws.FnExactGeoOk', WHERE WHAT IT READS IS OF BULK AT MOST 1048576: true; the input reads as it did. -/
def fnExactGeoOkUptoRow : OpenClaim := { program := "ytmiibejjnehffaa", sum := "350cf000852cfbe7d91dc0c05888890de0b694d4a42130170ecf9f938c453ac5", func := "loop.example/g00969/laws.FnExactGeoOk", spec := "fnExactGeoOk", apart := false, narrowed := true }
def FnExactGeoOkUptoSaid : Prop := fnExactGeoOkUptoRow.holds Try.pinned (OpenSpec.upto fnExactGeoOkSpec)

/-- 'laws.FnExactPartWords', WHERE WHAT IT READS IS OF BULK AT MOST 1048576: true; the input reads as it did. -/
def fnExactPartWordsUptoRow : OpenClaim := { program := "ytmiibejjnehffaa", sum := "350cf000852cfbe7d91dc0c05888890de0b694d4a42130170ecf9f938c453ac5", func := "loop.example/g00969/laws.FnExactPartWords", spec := "fnExactPartWords", apart := false, narrowed := true }
def FnExactPartWordsUptoSaid : Prop := fnExactPartWordsUptoRow.holds Try.pinned (OpenSpec.upto fnExactPartWordsSpec)

/-- 'laws.FnExactCommitAt', WHERE WHAT IT READS IS OF BULK AT MOST 1048576: true; the input reads as it did. -/
def fnExactCommitAtUptoRow : OpenClaim := { program := "ytmiibejjnehffaa", sum := "350cf000852cfbe7d91dc0c05888890de0b694d4a42130170ecf9f938c453ac5", func := "loop.example/g00969/laws.FnExactCommitAt", spec := "fnExactCommitAt", apart := false, narrowed := true }
def FnExactCommitAtUptoSaid : Prop := fnExactCommitAtUptoRow.holds Try.pinned (OpenSpec.upto fnExactCommitAtSpec)

/-- 'laws.FnExactSerialAt', WHERE WHAT IT READS IS OF BULK AT MOST 1048576: true; the input reads as it did. -/
def fnExactSerialAtUptoRow : OpenClaim := { program := "ytmiibejjnehffaa", sum := "350cf000852cfbe7d91dc0c05888890de0b694d4a42130170ecf9f938c453ac5", func := "loop.example/g00969/laws.FnExactSerialAt", spec := "fnExactSerialAt", apart := false, narrowed := true }
def FnExactSerialAtUptoSaid : Prop := fnExactSerialAtUptoRow.holds Try.pinned (OpenSpec.upto fnExactSerialAtSpec)

/-- 'laws.FnExactJournalAt', WHERE WHAT IT READS IS OF BULK AT MOST 1048576: true; the input reads as it did. -/
def fnExactJournalAtUptoRow : OpenClaim := { program := "ytmiibejjnehffaa", sum := "350cf000852cfbe7d91dc0c05888890de0b694d4a42130170ecf9f938c453ac5", func := "loop.example/g00969/laws.FnExactJournalAt", spec := "fnExactJournalAt", apart := false, narrowed := true }
def FnExactJournalAtUptoSaid : Prop := fnExactJournalAtUptoRow.holds Try.pinned (OpenSpec.upto fnExactJournalAtSpec)

/-- 'laws.FnExactInodeAt', WHERE WHAT IT READS IS OF BULK AT MOST 1048576: true; the input reads as it did. -/
def fnExactInodeAtUptoRow : OpenClaim := { program := "ytmiibejjnehffaa", sum := "350cf000852cfbe7d91dc0c05888890de0b694d4a42130170ecf9f938c453ac5", func := "loop.example/g00969/laws.FnExactInodeAt", spec := "fnExactInodeAt", apart := false, narrowed := true }
def FnExactInodeAtUptoSaid : Prop := fnExactInodeAtUptoRow.holds Try.pinned (OpenSpec.upto fnExactInodeAtSpec)

/-- 'laws.FnExactPageAt', WHERE WHAT IT READS IS OF BULK AT MOST 1048576: true; the input reads as it did. -/
def fnExactPageAtUptoRow : OpenClaim := { program := "ytmiibejjnehffaa", sum := "350cf000852cfbe7d91dc0c05888890de0b694d4a42130170ecf9f938c453ac5", func := "loop.example/g00969/laws.FnExactPageAt", spec := "fnExactPageAt", apart := false, narrowed := true }
def FnExactPageAtUptoSaid : Prop := fnExactPageAtUptoRow.holds Try.pinned (OpenSpec.upto fnExactPageAtSpec)

/-- 'laws.FnExactLinesIn', WHERE WHAT IT READS IS OF BULK AT MOST 1048576: true; the input reads as it did. -/
def fnExactLinesInUptoRow : OpenClaim := { program := "ytmiibejjnehffaa", sum := "350cf000852cfbe7d91dc0c05888890de0b694d4a42130170ecf9f938c453ac5", func := "loop.example/g00969/laws.FnExactLinesIn", spec := "fnExactLinesIn", apart := false, narrowed := true }
def FnExactLinesInUptoSaid : Prop := fnExactLinesInUptoRow.holds Try.pinned (OpenSpec.upto fnExactLinesInSpec)

/-- 'laws.FnExactPartAt', WHERE WHAT IT READS IS OF BULK AT MOST 1048576: true; the input reads as it did. -/
def fnExactPartAtUptoRow : OpenClaim := { program := "ytmiibejjnehffaa", sum := "350cf000852cfbe7d91dc0c05888890de0b694d4a42130170ecf9f938c453ac5", func := "loop.example/g00969/laws.FnExactPartAt", spec := "fnExactPartAt", apart := false, narrowed := true }
def FnExactPartAtUptoSaid : Prop := fnExactPartAtUptoRow.holds Try.pinned (OpenSpec.upto fnExactPartAtSpec)

end Rows
end Go.Proofs.Ytmiibejjnehffaa
