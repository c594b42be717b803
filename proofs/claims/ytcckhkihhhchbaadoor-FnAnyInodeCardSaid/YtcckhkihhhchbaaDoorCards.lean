/-
  DERIVED. GIVEN WITH THE SEED: THE CARDS: each row of YtcckhkihhhchbaaDoorRows.lean that lists a variable, with what it lists TIED to the program's text (the seventh form; the later family's looks); each row that meets fmt, with fmt's text TOLD by the authors' own Lean function (tested against real Go, not proved from fmt's source: count such statements apart). THE CARD IS WHAT COUNTS. Prove the row's statement (the work); the ties are given (YtcckhkihhhchbaaDoorTie.lean); close each card by the builder's one call (the guide's Derived/Test/ToyasCard.lean, 'card_holds'). Laid BY PROGRAM, IN A SANDBOX (cutbox-door.mjs). By AI agents, Wed Nov 11 2026. No macro, syntax, notation, axiom, sorry.
-/
import Derived.Test.YtcckhkihhhchbaaDoorRows
import GoSem.ClaimSeven
namespace Go.Proofs.YtcckhkihhhchbaaDoor
namespace Rows

/-- THE TIED CARD OF 'laws.FnInodes'. -/
def fnInodesCard : Claim7 := { stood := { row := fnInodesRow, standIns := [], harness := (true, "cbfd63ae636856e2d673024dd8169527b0071cd2a3e2fe2c4217a2dbd6bc004c"), looks := true }, kinds := [], alts := [], laidByText := true, laidKinds := [.data, .pinned], laidTests := true, laidLooks := .later }
def FnInodesCardSaid : Prop := Claim7.holds Tryd.pinned (.plain (OpenSpec.ofChange fnInodesSpec)) fnInodesCard

/-- THE TIED CARD OF 'laws.FnAnyInode'. -/
def fnAnyInodeCard : Claim7 := { stood := { row := fnAnyInodeRow, standIns := [], harness := (true, "cbfd63ae636856e2d673024dd8169527b0071cd2a3e2fe2c4217a2dbd6bc004c"), looks := true }, kinds := [], alts := [], laidByText := true, laidKinds := [.data, .pinned], laidTests := true, laidLooks := .later }
def FnAnyInodeCardSaid : Prop := Claim7.holds Tryd.pinned (.plain (OpenSpec.ofChange fnAnyInodeSpec)) fnAnyInodeCard

/-- THE TIED CARD OF 'laws.FnExactReadEntry'. -/
def fnExactReadEntryCard : Claim7 := { stood := { row := fnExactReadEntryRow, standIns := [], harness := (true, "cbfd63ae636856e2d673024dd8169527b0071cd2a3e2fe2c4217a2dbd6bc004c"), looks := true }, kinds := [], alts := [], laidByText := true, laidKinds := [.data, .pinned], laidTests := true, laidLooks := .later }
def FnExactReadEntryCardSaid : Prop := Claim7.holds Tryd.pinned (.plain (OpenSpec.ofChange fnExactReadEntrySpec)) fnExactReadEntryCard

/-- THE TIED CARD OF 'laws.FnExactReadInode'. -/
def fnExactReadInodeCard : Claim7 := { stood := { row := fnExactReadInodeRow, standIns := [], harness := (true, "cbfd63ae636856e2d673024dd8169527b0071cd2a3e2fe2c4217a2dbd6bc004c"), looks := true }, kinds := [], alts := [], laidByText := true, laidKinds := [.data, .pinned], laidTests := true, laidLooks := .later }
def FnExactReadInodeCardSaid : Prop := Claim7.holds Tryd.pinned (.plain (OpenSpec.ofChange fnExactReadInodeSpec)) fnExactReadInodeCard

/-- THE SECOND FORM's CARD OF 'laws.FnInodes'. -/
def fnInodesUptoCard : Claim7 := { stood := { row := fnInodesUptoRow, standIns := [], harness := (true, "cbfd63ae636856e2d673024dd8169527b0071cd2a3e2fe2c4217a2dbd6bc004c"), looks := true }, kinds := [], alts := [], laidByText := true, laidKinds := [.data, .pinned], laidTests := true, laidLooks := .later }
def FnInodesUptoCardSaid : Prop := Claim7.holds Tryd.pinned (.plain (OpenSpec.upto fnInodesSpec)) fnInodesUptoCard

/-- THE SECOND FORM's CARD OF 'laws.FnAnyInode'. -/
def fnAnyInodeUptoCard : Claim7 := { stood := { row := fnAnyInodeUptoRow, standIns := [], harness := (true, "cbfd63ae636856e2d673024dd8169527b0071cd2a3e2fe2c4217a2dbd6bc004c"), looks := true }, kinds := [], alts := [], laidByText := true, laidKinds := [.data, .pinned], laidTests := true, laidLooks := .later }
def FnAnyInodeUptoCardSaid : Prop := Claim7.holds Tryd.pinned (.plain (OpenSpec.upto fnAnyInodeSpec)) fnAnyInodeUptoCard

/-- THE SECOND FORM's CARD OF 'laws.FnExactReadEntry'. -/
def fnExactReadEntryUptoCard : Claim7 := { stood := { row := fnExactReadEntryUptoRow, standIns := [], harness := (true, "cbfd63ae636856e2d673024dd8169527b0071cd2a3e2fe2c4217a2dbd6bc004c"), looks := true }, kinds := [], alts := [], laidByText := true, laidKinds := [.data, .pinned], laidTests := true, laidLooks := .later }
def FnExactReadEntryUptoCardSaid : Prop := Claim7.holds Tryd.pinned (.plain (OpenSpec.upto fnExactReadEntrySpec)) fnExactReadEntryUptoCard

/-- THE SECOND FORM's CARD OF 'laws.FnExactReadInode'. -/
def fnExactReadInodeUptoCard : Claim7 := { stood := { row := fnExactReadInodeUptoRow, standIns := [], harness := (true, "cbfd63ae636856e2d673024dd8169527b0071cd2a3e2fe2c4217a2dbd6bc004c"), looks := true }, kinds := [], alts := [], laidByText := true, laidKinds := [.data, .pinned], laidTests := true, laidLooks := .later }
def FnExactReadInodeUptoCardSaid : Prop := Claim7.holds Tryd.pinned (.plain (OpenSpec.upto fnExactReadInodeSpec)) fnExactReadInodeUptoCard
end Rows
end Go.Proofs.YtcckhkihhhchbaaDoor
