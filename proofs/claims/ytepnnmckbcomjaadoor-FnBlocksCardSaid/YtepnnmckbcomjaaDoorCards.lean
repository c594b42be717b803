/-
  DERIVED. GIVEN WITH THE SEED: THE CARDS: each row of YtepnnmckbcomjaaDoorRows.lean that lists a variable, with what it lists TIED to the program's text (the seventh form; the later family's looks); each row that meets fmt, with fmt's text TOLD by the authors' own Lean function (tested against real Go, not proved from fmt's source: count such statements apart). THE CARD IS WHAT COUNTS. Prove the row's statement (the work); the ties are given (YtepnnmckbcomjaaDoorTie.lean); close each card by the builder's one call (the guide's Derived/Test/ToyasCard.lean, 'card_holds'). Laid BY PROGRAM, IN A SANDBOX (cutbox-door.mjs). By AI agents, Wed Nov 11 2026. No macro, syntax, notation, axiom, sorry.
-/
import Derived.Test.YtepnnmckbcomjaaDoorRows
import GoSem.ClaimSeven
namespace Go.Proofs.YtepnnmckbcomjaaDoor
namespace Rows

/-- THE TIED CARD OF 'laws.FnBlocks'. -/
def fnBlocksCard : Claim7 := { stood := { row := fnBlocksRow, standIns := [], harness := (true, "f691862083c6209841849e9a394d0d88763b86c91a4ca8e29fa3bbc382329fef"), looks := false }, kinds := [], alts := [], laidByText := true, laidKinds := [.data], laidTests := true, laidLooks := .later }
def FnBlocksCardSaid : Prop := Claim7.holds Tryd.pinned (.plain (OpenSpec.ofChange fnBlocksSpec)) fnBlocksCard

/-- THE TIED CARD OF 'laws.FnColumns'. -/
def fnColumnsCard : Claim7 := { stood := { row := fnColumnsRow, standIns := [], harness := (true, "f691862083c6209841849e9a394d0d88763b86c91a4ca8e29fa3bbc382329fef"), looks := false }, kinds := [], alts := [], laidByText := true, laidKinds := [.data], laidTests := true, laidLooks := .later }
def FnColumnsCardSaid : Prop := Claim7.holds Tryd.pinned (.plain (OpenSpec.ofChange fnColumnsSpec)) fnColumnsCard

/-- THE TIED CARD OF 'laws.FnExactMixColumns'. -/
def fnExactMixColumnsCard : Claim7 := { stood := { row := fnExactMixColumnsRow, standIns := [], harness := (true, "f691862083c6209841849e9a394d0d88763b86c91a4ca8e29fa3bbc382329fef"), looks := false }, kinds := [], alts := [], laidByText := true, laidKinds := [.data], laidTests := true, laidLooks := .later }
def FnExactMixColumnsCardSaid : Prop := Claim7.holds Tryd.pinned (.plain (OpenSpec.ofChange fnExactMixColumnsSpec)) fnExactMixColumnsCard

/-- THE TIED CARD OF 'laws.FnExactBlockText'. -/
def fnExactBlockTextCard : Claim7 := { stood := { row := fnExactBlockTextRow, standIns := [], harness := (true, "f691862083c6209841849e9a394d0d88763b86c91a4ca8e29fa3bbc382329fef"), looks := false }, kinds := [], alts := [], laidByText := true, laidKinds := [.data], laidTests := true, laidLooks := .later }
def FnExactBlockTextCardSaid : Prop := Claim7.holds Tryd.pinned (.plain (OpenSpec.ofChange fnExactBlockTextSpec)) fnExactBlockTextCard

/-- THE SECOND FORM's CARD OF 'laws.FnBlocks'. -/
def fnBlocksUptoCard : Claim7 := { stood := { row := fnBlocksUptoRow, standIns := [], harness := (true, "f691862083c6209841849e9a394d0d88763b86c91a4ca8e29fa3bbc382329fef"), looks := false }, kinds := [], alts := [], laidByText := true, laidKinds := [.data], laidTests := true, laidLooks := .later }
def FnBlocksUptoCardSaid : Prop := Claim7.holds Tryd.pinned (.plain (OpenSpec.upto fnBlocksSpec)) fnBlocksUptoCard

/-- THE SECOND FORM's CARD OF 'laws.FnColumns'. -/
def fnColumnsUptoCard : Claim7 := { stood := { row := fnColumnsUptoRow, standIns := [], harness := (true, "f691862083c6209841849e9a394d0d88763b86c91a4ca8e29fa3bbc382329fef"), looks := false }, kinds := [], alts := [], laidByText := true, laidKinds := [.data], laidTests := true, laidLooks := .later }
def FnColumnsUptoCardSaid : Prop := Claim7.holds Tryd.pinned (.plain (OpenSpec.upto fnColumnsSpec)) fnColumnsUptoCard

/-- THE SECOND FORM's CARD OF 'laws.FnExactMixColumns'. -/
def fnExactMixColumnsUptoCard : Claim7 := { stood := { row := fnExactMixColumnsUptoRow, standIns := [], harness := (true, "f691862083c6209841849e9a394d0d88763b86c91a4ca8e29fa3bbc382329fef"), looks := false }, kinds := [], alts := [], laidByText := true, laidKinds := [.data], laidTests := true, laidLooks := .later }
def FnExactMixColumnsUptoCardSaid : Prop := Claim7.holds Tryd.pinned (.plain (OpenSpec.upto fnExactMixColumnsSpec)) fnExactMixColumnsUptoCard

/-- THE SECOND FORM's CARD OF 'laws.FnExactBlockText'. -/
def fnExactBlockTextUptoCard : Claim7 := { stood := { row := fnExactBlockTextUptoRow, standIns := [], harness := (true, "f691862083c6209841849e9a394d0d88763b86c91a4ca8e29fa3bbc382329fef"), looks := false }, kinds := [], alts := [], laidByText := true, laidKinds := [.data], laidTests := true, laidLooks := .later }
def FnExactBlockTextUptoCardSaid : Prop := Claim7.holds Tryd.pinned (.plain (OpenSpec.upto fnExactBlockTextSpec)) fnExactBlockTextUptoCard
end Rows
end Go.Proofs.YtepnnmckbcomjaaDoor
