/-
  No cell of these rows narrows 'for every input' (looked for: loops, veiled, ifaces, maps, wideKeys, modest, calm, conditions, laid).
  DERIVED. THE GIVEN ROWS OF THIS SEAT. 12 by the template 'for every input the law returns true; each argument reads behind the call as it read before'; 0 by the template 'total and deterministic' (their statements: YtmcelfiljnlmoaaTotals.lean).
  GIVEN WITH THE SEED: the statements are not yours to turn. If you find one false, say at which input.
  Laid BY PROGRAM, IN A SANDBOX (cutbox-rows.mjs): the forced cells as the released guide's own fill.sh prints them over the translation 5231c545d3c6947e… (all of the seat's roots in one cut). By AI agents, Wed Nov 11 2026. No macro, syntax, notation, axiom, sorry.
-/
import Derived.Test.YtmcelfiljnlmoaaChecked
import GoSem.Claim
import GoSem.ClaimJoined
import GoSem.ClaimMapViews
import Derived.JoinedTies
import Derived.KernelRfl
namespace Go.Proofs.Ytmcelfiljnlmoaa
/- THE CELL 'sum', in the pinned program and in every row, IS THE sha256 OF THE DUMP (.gsa) THAT YtmcelfiljnlmoaaProg.lean LOADS. Nothing in Lean hashes anything: it is a label: what it is worth is what the hold of that sum in a sandbox is worth. -/
noncomputable def Try.pinned : Pinned := { name := "ytmcelfiljnlmoaa", sum := "5231c545d3c6947e5cfa029b4a54f568a8924f39db89741903446c9f83a3e1f9", checked := Try.checked }
namespace Rows
def none {H : Type} : Left H := { results := [], args := [] }

/-- 'laws.FnExactPartNew': WHATEVER THE INPUT: true; the input reads as it did. -/
def fnExactPartNewSpec : ChangeSpec := { name := "fnExactPartNew", fn := fun _ => fun
  | [d] => { results := [.lit (.bool true)], args := [d] }
  | _ => none }
def fnExactPartNewRow : OpenClaim := { program := "ytmcelfiljnlmoaa", sum := "5231c545d3c6947e5cfa029b4a54f568a8924f39db89741903446c9f83a3e1f9", func := "loop.example/g00969/laws.FnExactPartNew", spec := "fnExactPartNew", apart := false }
def FnExactPartNewSaid : Prop := fnExactPartNewRow.holds Try.pinned (OpenSpec.ofChange fnExactPartNewSpec)

/-- ITS FALSE NEIGHBOUR: 'it returns false'. Refute it at one input. -/
def fnExactPartNewWrong : ChangeSpec := { name := "fnExactPartNew", fn := fun _ => fun
  | [d] => { results := [.lit (.bool false)], args := [d] }
  | _ => none }
def FnExactPartNewWrongFalsely : Prop := fnExactPartNewRow.holds Try.pinned (OpenSpec.ofChange fnExactPartNewWrong)

/-- 'laws.FnExactLinksTo': WHATEVER THE INPUT: true; the input reads as it did. -/
def fnExactLinksToSpec : ChangeSpec := { name := "fnExactLinksTo", fn := fun _ => fun
  | [d1, d2] => { results := [.lit (.bool true)], args := [d1, d2] }
  | _ => none }
def fnExactLinksToRow : OpenClaim := { program := "ytmcelfiljnlmoaa", sum := "5231c545d3c6947e5cfa029b4a54f568a8924f39db89741903446c9f83a3e1f9", func := "loop.example/g00969/laws.FnExactLinksTo", spec := "fnExactLinksTo", apart := false }
def FnExactLinksToSaid : Prop := fnExactLinksToRow.holds Try.pinned (OpenSpec.ofChange fnExactLinksToSpec)

/-- ITS FALSE NEIGHBOUR: 'it returns false'. Refute it at one input. -/
def fnExactLinksToWrong : ChangeSpec := { name := "fnExactLinksTo", fn := fun _ => fun
  | [d1, d2] => { results := [.lit (.bool false)], args := [d1, d2] }
  | _ => none }
def FnExactLinksToWrongFalsely : Prop := fnExactLinksToRow.holds Try.pinned (OpenSpec.ofChange fnExactLinksToWrong)

/-- 'laws.FnExactUsersOf': WHATEVER THE INPUT: true; the input reads as it did. -/
def fnExactUsersOfSpec : ChangeSpec := { name := "fnExactUsersOf", fn := fun _ => fun
  | [d1, d2] => { results := [.lit (.bool true)], args := [d1, d2] }
  | _ => none }
def fnExactUsersOfRow : OpenClaim := { program := "ytmcelfiljnlmoaa", sum := "5231c545d3c6947e5cfa029b4a54f568a8924f39db89741903446c9f83a3e1f9", func := "loop.example/g00969/laws.FnExactUsersOf", spec := "fnExactUsersOf", apart := false }
def FnExactUsersOfSaid : Prop := fnExactUsersOfRow.holds Try.pinned (OpenSpec.ofChange fnExactUsersOfSpec)

/-- ITS FALSE NEIGHBOUR: 'it returns false'. Refute it at one input. -/
def fnExactUsersOfWrong : ChangeSpec := { name := "fnExactUsersOf", fn := fun _ => fun
  | [d1, d2] => { results := [.lit (.bool false)], args := [d1, d2] }
  | _ => none }
def FnExactUsersOfWrongFalsely : Prop := fnExactUsersOfRow.holds Try.pinned (OpenSpec.ofChange fnExactUsersOfWrong)

/-- 'laws.FnExactDepthOf': WHATEVER THE INPUT: true; the input reads as it did. -/
def fnExactDepthOfSpec : ChangeSpec := { name := "fnExactDepthOf", fn := fun _ => fun
  | [d1, d2] => { results := [.lit (.bool true)], args := [d1, d2] }
  | _ => none }
def fnExactDepthOfRow : OpenClaim := { program := "ytmcelfiljnlmoaa", sum := "5231c545d3c6947e5cfa029b4a54f568a8924f39db89741903446c9f83a3e1f9", func := "loop.example/g00969/laws.FnExactDepthOf", spec := "fnExactDepthOf", unfollowed := true, recurses := true, apart := false }
def FnExactDepthOfSaid : Prop := fnExactDepthOfRow.holds Try.pinned (OpenSpec.ofChange fnExactDepthOfSpec)

/-- ITS FALSE NEIGHBOUR: 'it returns false'. Refute it at one input. -/
def fnExactDepthOfWrong : ChangeSpec := { name := "fnExactDepthOf", fn := fun _ => fun
  | [d1, d2] => { results := [.lit (.bool false)], args := [d1, d2] }
  | _ => none }
def FnExactDepthOfWrongFalsely : Prop := fnExactDepthOfRow.holds Try.pinned (OpenSpec.ofChange fnExactDepthOfWrong)

/-- 'laws.FnExactPartOk': WHATEVER THE INPUT: true; the input reads as it did. -/
def fnExactPartOkSpec : ChangeSpec := { name := "fnExactPartOk", fn := fun _ => fun
  | [d1, d2] => { results := [.lit (.bool true)], args := [d1, d2] }
  | _ => none }
def fnExactPartOkRow : OpenClaim := { program := "ytmcelfiljnlmoaa", sum := "5231c545d3c6947e5cfa029b4a54f568a8924f39db89741903446c9f83a3e1f9", func := "loop.example/g00969/laws.FnExactPartOk", spec := "fnExactPartOk", unfollowed := true, recurses := true, apart := false }
def FnExactPartOkSaid : Prop := fnExactPartOkRow.holds Try.pinned (OpenSpec.ofChange fnExactPartOkSpec)

/-- ITS FALSE NEIGHBOUR: 'it returns false'. Refute it at one input. -/
def fnExactPartOkWrong : ChangeSpec := { name := "fnExactPartOk", fn := fun _ => fun
  | [d1, d2] => { results := [.lit (.bool false)], args := [d1, d2] }
  | _ => none }
def FnExactPartOkWrongFalsely : Prop := fnExactPartOkRow.holds Try.pinned (OpenSpec.ofChange fnExactPartOkWrong)

/-- 'laws.FnExactSerialWord': WHATEVER THE INPUT: true; the input reads as it did. -/
def fnExactSerialWordSpec : ChangeSpec := { name := "fnExactSerialWord", fn := fun _ => fun
  | [d] => { results := [.lit (.bool true)], args := [d] }
  | _ => none }
def fnExactSerialWordRow : OpenClaim := { program := "ytmcelfiljnlmoaa", sum := "5231c545d3c6947e5cfa029b4a54f568a8924f39db89741903446c9f83a3e1f9", func := "loop.example/g00969/laws.FnExactSerialWord", spec := "fnExactSerialWord", apart := false }
def FnExactSerialWordSaid : Prop := fnExactSerialWordRow.holds Try.pinned (OpenSpec.ofChange fnExactSerialWordSpec)

/-- ITS FALSE NEIGHBOUR: 'it returns false'. Refute it at one input. -/
def fnExactSerialWordWrong : ChangeSpec := { name := "fnExactSerialWord", fn := fun _ => fun
  | [d] => { results := [.lit (.bool false)], args := [d] }
  | _ => none }
def FnExactSerialWordWrongFalsely : Prop := fnExactSerialWordRow.holds Try.pinned (OpenSpec.ofChange fnExactSerialWordWrong)

/-- 'laws.FnExactCommitAt': WHATEVER THE INPUT: true; the input reads as it did. -/
def fnExactCommitAtSpec : ChangeSpec := { name := "fnExactCommitAt", fn := fun _ => fun
  | [d1, d2] => { results := [.lit (.bool true)], args := [d1, d2] }
  | _ => none }
def fnExactCommitAtRow : OpenClaim := { program := "ytmcelfiljnlmoaa", sum := "5231c545d3c6947e5cfa029b4a54f568a8924f39db89741903446c9f83a3e1f9", func := "loop.example/g00969/laws.FnExactCommitAt", spec := "fnExactCommitAt", apart := false }
def FnExactCommitAtSaid : Prop := fnExactCommitAtRow.holds Try.pinned (OpenSpec.ofChange fnExactCommitAtSpec)

/-- ITS FALSE NEIGHBOUR: 'it returns false'. Refute it at one input. -/
def fnExactCommitAtWrong : ChangeSpec := { name := "fnExactCommitAt", fn := fun _ => fun
  | [d1, d2] => { results := [.lit (.bool false)], args := [d1, d2] }
  | _ => none }
def FnExactCommitAtWrongFalsely : Prop := fnExactCommitAtRow.holds Try.pinned (OpenSpec.ofChange fnExactCommitAtWrong)

/-- 'laws.FnExactSerialAt': WHATEVER THE INPUT: true; the input reads as it did. -/
def fnExactSerialAtSpec : ChangeSpec := { name := "fnExactSerialAt", fn := fun _ => fun
  | [d1, d2] => { results := [.lit (.bool true)], args := [d1, d2] }
  | _ => none }
def fnExactSerialAtRow : OpenClaim := { program := "ytmcelfiljnlmoaa", sum := "5231c545d3c6947e5cfa029b4a54f568a8924f39db89741903446c9f83a3e1f9", func := "loop.example/g00969/laws.FnExactSerialAt", spec := "fnExactSerialAt", apart := false }
def FnExactSerialAtSaid : Prop := fnExactSerialAtRow.holds Try.pinned (OpenSpec.ofChange fnExactSerialAtSpec)

/-- ITS FALSE NEIGHBOUR: 'it returns false'. Refute it at one input. -/
def fnExactSerialAtWrong : ChangeSpec := { name := "fnExactSerialAt", fn := fun _ => fun
  | [d1, d2] => { results := [.lit (.bool false)], args := [d1, d2] }
  | _ => none }
def FnExactSerialAtWrongFalsely : Prop := fnExactSerialAtRow.holds Try.pinned (OpenSpec.ofChange fnExactSerialAtWrong)

/-- 'laws.FnExactJournalAt': WHATEVER THE INPUT: true; the input reads as it did. -/
def fnExactJournalAtSpec : ChangeSpec := { name := "fnExactJournalAt", fn := fun _ => fun
  | [d1, d2, d3] => { results := [.lit (.bool true)], args := [d1, d2, d3] }
  | _ => none }
def fnExactJournalAtRow : OpenClaim := { program := "ytmcelfiljnlmoaa", sum := "5231c545d3c6947e5cfa029b4a54f568a8924f39db89741903446c9f83a3e1f9", func := "loop.example/g00969/laws.FnExactJournalAt", spec := "fnExactJournalAt", apart := false }
def FnExactJournalAtSaid : Prop := fnExactJournalAtRow.holds Try.pinned (OpenSpec.ofChange fnExactJournalAtSpec)

/-- ITS FALSE NEIGHBOUR: 'it returns false'. Refute it at one input. -/
def fnExactJournalAtWrong : ChangeSpec := { name := "fnExactJournalAt", fn := fun _ => fun
  | [d1, d2, d3] => { results := [.lit (.bool false)], args := [d1, d2, d3] }
  | _ => none }
def FnExactJournalAtWrongFalsely : Prop := fnExactJournalAtRow.holds Try.pinned (OpenSpec.ofChange fnExactJournalAtWrong)

/-- 'laws.FnExactInodeAt': WHATEVER THE INPUT: true; the input reads as it did. -/
def fnExactInodeAtSpec : ChangeSpec := { name := "fnExactInodeAt", fn := fun _ => fun
  | [d1, d2, d3] => { results := [.lit (.bool true)], args := [d1, d2, d3] }
  | _ => none }
def fnExactInodeAtRow : OpenClaim := { program := "ytmcelfiljnlmoaa", sum := "5231c545d3c6947e5cfa029b4a54f568a8924f39db89741903446c9f83a3e1f9", func := "loop.example/g00969/laws.FnExactInodeAt", spec := "fnExactInodeAt", apart := false }
def FnExactInodeAtSaid : Prop := fnExactInodeAtRow.holds Try.pinned (OpenSpec.ofChange fnExactInodeAtSpec)

/-- ITS FALSE NEIGHBOUR: 'it returns false'. Refute it at one input. -/
def fnExactInodeAtWrong : ChangeSpec := { name := "fnExactInodeAt", fn := fun _ => fun
  | [d1, d2, d3] => { results := [.lit (.bool false)], args := [d1, d2, d3] }
  | _ => none }
def FnExactInodeAtWrongFalsely : Prop := fnExactInodeAtRow.holds Try.pinned (OpenSpec.ofChange fnExactInodeAtWrong)

/-- 'laws.FnExactPageAt': WHATEVER THE INPUT: true; the input reads as it did. -/
def fnExactPageAtSpec : ChangeSpec := { name := "fnExactPageAt", fn := fun _ => fun
  | [d1, d2, d3] => { results := [.lit (.bool true)], args := [d1, d2, d3] }
  | _ => none }
def fnExactPageAtRow : OpenClaim := { program := "ytmcelfiljnlmoaa", sum := "5231c545d3c6947e5cfa029b4a54f568a8924f39db89741903446c9f83a3e1f9", func := "loop.example/g00969/laws.FnExactPageAt", spec := "fnExactPageAt", apart := false }
def FnExactPageAtSaid : Prop := fnExactPageAtRow.holds Try.pinned (OpenSpec.ofChange fnExactPageAtSpec)

/-- ITS FALSE NEIGHBOUR: 'it returns false'. Refute it at one input. -/
def fnExactPageAtWrong : ChangeSpec := { name := "fnExactPageAt", fn := fun _ => fun
  | [d1, d2, d3] => { results := [.lit (.bool false)], args := [d1, d2, d3] }
  | _ => none }
def FnExactPageAtWrongFalsely : Prop := fnExactPageAtRow.holds Try.pinned (OpenSpec.ofChange fnExactPageAtWrong)

/-- 'laws.FnPlaces': WHATEVER THE INPUT: true; the input reads as it did. -/
def fnPlacesSpec : ChangeSpec := { name := "fnPlaces", fn := fun _ => fun
  | [d] => { results := [.lit (.bool true)], args := [d] }
  | _ => none }
def fnPlacesRow : OpenClaim := { program := "ytmcelfiljnlmoaa", sum := "5231c545d3c6947e5cfa029b4a54f568a8924f39db89741903446c9f83a3e1f9", func := "loop.example/g00969/laws.FnPlaces", spec := "fnPlaces", apart := false }
def FnPlacesSaid : Prop := fnPlacesRow.holds Try.pinned (OpenSpec.ofChange fnPlacesSpec)

/-- ITS FALSE NEIGHBOUR: 'it returns false'. Refute it at one input. -/
def fnPlacesWrong : ChangeSpec := { name := "fnPlaces", fn := fun _ => fun
  | [d] => { results := [.lit (.bool false)], args := [d] }
  | _ => none }
def FnPlacesWrongFalsely : Prop := fnPlacesRow.holds Try.pinned (OpenSpec.ofChange fnPlacesWrong)

/- THE SECOND FORM. 'bulk': how many values and letters a reading holds, each counted each time it is reached (what is shared counts as often as it is met; a slice's spare places count too). A statement '..UptoSaid' is the law's where the arguments, and the package variables that the reading takes, are together of bulk at most 1048576: NARROWER than '..Said'. Prove '..Said' where nothing that the law and all that it calls make is longer than what came in: it says more and counts as full. Else prove '..UptoSaid'. A law counts once. -/
mutual
def uptoBulk {H : Type} : DataW H → Nat
  | .lit (.string bytes) => bytes.length + 1
  | .lit _ => 1
  | .nil => 1
  | .ptr d => uptoBulk d + 1
  | .slice elems spare => uptoBulkAll elems + uptoBulkAll spare + 1
  | .agg parts => uptoBulkAll parts + 1
  | .iface _ d => uptoBulk d + 1
  | .map entries => uptoBulkEntries entries + 1
  | .held _ => 1
def uptoBulkAll {H : Type} : List (DataW H) → Nat
  | [] => 0
  | d :: r => uptoBulk d + uptoBulkAll r
def uptoBulkEntries {H : Type} : List (Lit × DataW H) → Nat
  | [] => 0
  | x :: r => uptoBulkEntry x + uptoBulkEntries r
def uptoBulkEntry {H : Type} : Lit × DataW H → Nat
  | (.string bytes, d) => bytes.length + uptoBulk d + 1
  | (_, d) => uptoBulk d + 1
 end
def uptoSmall : (H : Type) → List (DataW H) → Bool := fun _ ds => decide (uptoBulkAll ds ≤ 1048576)
def OpenSpec.upto (s : _root_.Go.ChangeSpec) : _root_.Go.OpenSpec := { _root_.Go.OpenSpec.ofChange s with cond := some uptoSmall }

/-- 'laws.FnExactPartNew', WHERE WHAT IT READS IS OF BULK AT MOST 1048576: true; the input reads as it did. -/
def fnExactPartNewUptoRow : OpenClaim := { program := "ytmcelfiljnlmoaa", sum := "5231c545d3c6947e5cfa029b4a54f568a8924f39db89741903446c9f83a3e1f9", func := "loop.example/g00969/laws.FnExactPartNew", spec := "fnExactPartNew", apart := false, narrowed := true }
def FnExactPartNewUptoSaid : Prop := fnExactPartNewUptoRow.holds Try.pinned (OpenSpec.upto fnExactPartNewSpec)

/-- 'laws.FnExactLinksTo', WHERE WHAT IT READS IS OF BULK AT MOST 1048576: true; the input reads as it did. -/
def fnExactLinksToUptoRow : OpenClaim := { program := "ytmcelfiljnlmoaa", sum := "5231c545d3c6947e5cfa029b4a54f568a8924f39db89741903446c9f83a3e1f9", func := "loop.example/g00969/laws.FnExactLinksTo", spec := "fnExactLinksTo", apart := false, narrowed := true }
def FnExactLinksToUptoSaid : Prop := fnExactLinksToUptoRow.holds Try.pinned (OpenSpec.upto fnExactLinksToSpec)

/-- 'laws.FnExactUsersOf', WHERE WHAT IT READS IS OF BULK AT MOST 1048576: true; the input reads as it did. -/
def fnExactUsersOfUptoRow : OpenClaim := { program := "ytmcelfiljnlmoaa", sum := "5231c545d3c6947e5cfa029b4a54f568a8924f39db89741903446c9f83a3e1f9", func := "loop.example/g00969/laws.FnExactUsersOf", spec := "fnExactUsersOf", apart := false, narrowed := true }
def FnExactUsersOfUptoSaid : Prop := fnExactUsersOfUptoRow.holds Try.pinned (OpenSpec.upto fnExactUsersOfSpec)

/-- 'laws.FnExactDepthOf', WHERE WHAT IT READS IS OF BULK AT MOST 1048576: true; the input reads as it did. -/
def fnExactDepthOfUptoRow : OpenClaim := { program := "ytmcelfiljnlmoaa", sum := "5231c545d3c6947e5cfa029b4a54f568a8924f39db89741903446c9f83a3e1f9", func := "loop.example/g00969/laws.FnExactDepthOf", spec := "fnExactDepthOf", unfollowed := true, recurses := true, apart := false, narrowed := true }
def FnExactDepthOfUptoSaid : Prop := fnExactDepthOfUptoRow.holds Try.pinned (OpenSpec.upto fnExactDepthOfSpec)

/-- 'laws.FnExactPartOk', WHERE WHAT IT READS IS OF BULK AT MOST 1048576: true; the input reads as it did. -/
def fnExactPartOkUptoRow : OpenClaim := { program := "ytmcelfiljnlmoaa", sum := "5231c545d3c6947e5cfa029b4a54f568a8924f39db89741903446c9f83a3e1f9", func := "loop.example/g00969/laws.FnExactPartOk", spec := "fnExactPartOk", unfollowed := true, recurses := true, apart := false, narrowed := true }
def FnExactPartOkUptoSaid : Prop := fnExactPartOkUptoRow.holds Try.pinned (OpenSpec.upto fnExactPartOkSpec)

/-- 'laws.FnExactSerialWord', WHERE WHAT IT READS IS OF BULK AT MOST 1048576: true; the input reads as it did. -/
def fnExactSerialWordUptoRow : OpenClaim := { program := "ytmcelfiljnlmoaa", sum := "5231c545d3c6947e5cfa029b4a54f568a8924f39db89741903446c9f83a3e1f9", func := "loop.example/g00969/laws.FnExactSerialWord", spec := "fnExactSerialWord", apart := false, narrowed := true }
def FnExactSerialWordUptoSaid : Prop := fnExactSerialWordUptoRow.holds Try.pinned (OpenSpec.upto fnExactSerialWordSpec)

/-- 'laws.FnExactCommitAt', WHERE WHAT IT READS IS OF BULK AT MOST 1048576: true; the input reads as it did. -/
def fnExactCommitAtUptoRow : OpenClaim := { program := "ytmcelfiljnlmoaa", sum := "5231c545d3c6947e5cfa029b4a54f568a8924f39db89741903446c9f83a3e1f9", func := "loop.example/g00969/laws.FnExactCommitAt", spec := "fnExactCommitAt", apart := false, narrowed := true }
def FnExactCommitAtUptoSaid : Prop := fnExactCommitAtUptoRow.holds Try.pinned (OpenSpec.upto fnExactCommitAtSpec)

/-- 'laws.FnExactSerialAt', WHERE WHAT IT READS IS OF BULK AT MOST 1048576: true; the input reads as it did. -/
def fnExactSerialAtUptoRow : OpenClaim := { program := "ytmcelfiljnlmoaa", sum := "5231c545d3c6947e5cfa029b4a54f568a8924f39db89741903446c9f83a3e1f9", func := "loop.example/g00969/laws.FnExactSerialAt", spec := "fnExactSerialAt", apart := false, narrowed := true }
def FnExactSerialAtUptoSaid : Prop := fnExactSerialAtUptoRow.holds Try.pinned (OpenSpec.upto fnExactSerialAtSpec)

/-- 'laws.FnExactJournalAt', WHERE WHAT IT READS IS OF BULK AT MOST 1048576: true; the input reads as it did. -/
def fnExactJournalAtUptoRow : OpenClaim := { program := "ytmcelfiljnlmoaa", sum := "5231c545d3c6947e5cfa029b4a54f568a8924f39db89741903446c9f83a3e1f9", func := "loop.example/g00969/laws.FnExactJournalAt", spec := "fnExactJournalAt", apart := false, narrowed := true }
def FnExactJournalAtUptoSaid : Prop := fnExactJournalAtUptoRow.holds Try.pinned (OpenSpec.upto fnExactJournalAtSpec)

/-- 'laws.FnExactInodeAt', WHERE WHAT IT READS IS OF BULK AT MOST 1048576: true; the input reads as it did. -/
def fnExactInodeAtUptoRow : OpenClaim := { program := "ytmcelfiljnlmoaa", sum := "5231c545d3c6947e5cfa029b4a54f568a8924f39db89741903446c9f83a3e1f9", func := "loop.example/g00969/laws.FnExactInodeAt", spec := "fnExactInodeAt", apart := false, narrowed := true }
def FnExactInodeAtUptoSaid : Prop := fnExactInodeAtUptoRow.holds Try.pinned (OpenSpec.upto fnExactInodeAtSpec)

/-- 'laws.FnExactPageAt', WHERE WHAT IT READS IS OF BULK AT MOST 1048576: true; the input reads as it did. -/
def fnExactPageAtUptoRow : OpenClaim := { program := "ytmcelfiljnlmoaa", sum := "5231c545d3c6947e5cfa029b4a54f568a8924f39db89741903446c9f83a3e1f9", func := "loop.example/g00969/laws.FnExactPageAt", spec := "fnExactPageAt", apart := false, narrowed := true }
def FnExactPageAtUptoSaid : Prop := fnExactPageAtUptoRow.holds Try.pinned (OpenSpec.upto fnExactPageAtSpec)

/-- 'laws.FnPlaces', WHERE WHAT IT READS IS OF BULK AT MOST 1048576: true; the input reads as it did. -/
def fnPlacesUptoRow : OpenClaim := { program := "ytmcelfiljnlmoaa", sum := "5231c545d3c6947e5cfa029b4a54f568a8924f39db89741903446c9f83a3e1f9", func := "loop.example/g00969/laws.FnPlaces", spec := "fnPlaces", apart := false, narrowed := true }
def FnPlacesUptoSaid : Prop := fnPlacesUptoRow.holds Try.pinned (OpenSpec.upto fnPlacesSpec)

end Rows
end Go.Proofs.Ytmcelfiljnlmoaa
