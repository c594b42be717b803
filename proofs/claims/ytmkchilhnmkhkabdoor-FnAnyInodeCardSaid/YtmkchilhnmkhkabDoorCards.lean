/-
  DERIVED. GIVEN WITH THE SEED: THE CARDS: each row of YtmkchilhnmkhkabDoorRows.lean that lists a variable, with what it lists TIED to the program's text (the seventh form; the later family's looks); each row that meets fmt, with fmt's text TOLD by the authors' own Lean function (tested against real Go, not proved from fmt's source: count such statements apart). THE CARD IS WHAT COUNTS. Prove the row's statement (the work); the ties are given (YtmkchilhnmkhkabDoorTie.lean); close each card by the builder's one call (the guide's Derived/Test/ToyasCard.lean, 'card_holds'). Laid BY PROGRAM, IN A SANDBOX (cutbox-door.mjs). By AI agents, Wed Nov 11 2026. No macro, syntax, notation, axiom, sorry.
-/
import Derived.Test.YtmkchilhnmkhkabDoorRows
import GoSem.ClaimSeven
namespace Go.Proofs.YtmkchilhnmkhkabDoor
namespace Rows

/-- THE TIED CARD OF 'laws.FnAnyInode'. -/
def fnAnyInodeCard : Claim7 := { stood := { row := fnAnyInodeRow, standIns := [], harness := (true, "a4452e4b9c9026a0bb80ff81de96f11e3b6e928ddb9ffcd86098342bf8a2396c"), looks := true }, kinds := [], alts := [], laidByText := true, laidKinds := [.data, .pinned], laidTests := true, laidLooks := .later }
def FnAnyInodeCardSaid : Prop := Claim7.holds Tryd.pinned (.plain (OpenSpec.ofChange fnAnyInodeSpec)) fnAnyInodeCard

/-- THE SECOND FORM's CARD OF 'laws.FnAnyInode'. -/
def fnAnyInodeUptoCard : Claim7 := { stood := { row := fnAnyInodeUptoRow, standIns := [], harness := (true, "a4452e4b9c9026a0bb80ff81de96f11e3b6e928ddb9ffcd86098342bf8a2396c"), looks := true }, kinds := [], alts := [], laidByText := true, laidKinds := [.data, .pinned], laidTests := true, laidLooks := .later }
def FnAnyInodeUptoCardSaid : Prop := Claim7.holds Tryd.pinned (.plain (OpenSpec.upto fnAnyInodeSpec)) fnAnyInodeUptoCard
end Rows
end Go.Proofs.YtmkchilhnmkhkabDoor
