/-
  DERIVED. GIVEN WITH THE SEED: THE CARDS: each row of YtkfkjcadmdcbnaaDoorRows.lean that lists a variable, with what it lists TIED to the program's text (the seventh form; the later family's looks); each row that meets fmt, with fmt's text TOLD by the authors' own Lean function (tested against real Go, not proved from fmt's source: count such statements apart). THE CARD IS WHAT COUNTS. Prove the row's statement (the work); the ties are given (YtkfkjcadmdcbnaaDoorTie.lean); close each card by the builder's one call (the guide's Derived/Test/ToyasCard.lean, 'card_holds'). Laid BY PROGRAM, IN A SANDBOX (cutbox-door.mjs). By AI agents, Wed Nov 11 2026. No macro, syntax, notation, axiom, sorry.
-/
import Derived.Test.YtkfkjcadmdcbnaaDoorRows
import GoSem.ClaimSeven
namespace Go.Proofs.YtkfkjcadmdcbnaaDoor
namespace Rows

/-- THE TIED CARD OF 'laws.FnExactKidsOf'. -/
def fnExactKidsOfCard : Claim7 := { stood := { row := fnExactKidsOfRow, standIns := [], harness := (true, "89851e1613e72aa7b6a059d70bdc6bdaafc883d15fc6d765e696f3d90d2dc148"), looks := true }, kinds := [], alts := [], laidByText := true, laidKinds := [.data, .handle, .pinned], laidTests := true, laidLooks := .later }
def FnExactKidsOfCardSaid : Prop := Claim7.holds Tryd.pinned (.plain (OpenSpec.ofChange fnExactKidsOfSpec)) fnExactKidsOfCard

/-- THE TIED CARD OF 'laws.FnExactViewOk'. -/
def fnExactViewOkCard : Claim7 := { stood := { row := fnExactViewOkRow, standIns := [], harness := (true, "89851e1613e72aa7b6a059d70bdc6bdaafc883d15fc6d765e696f3d90d2dc148"), looks := true }, kinds := [], alts := [], laidByText := true, laidKinds := [.data, .handle, .pinned], laidTests := true, laidLooks := .later }
def FnExactViewOkCardSaid : Prop := Claim7.holds Tryd.pinned (.plain (OpenSpec.ofChange fnExactViewOkSpec)) fnExactViewOkCard

/-- THE TIED CARD OF 'laws.FnExactMovedItems'. -/
def fnExactMovedItemsCard : Claim7 := { stood := { row := fnExactMovedItemsRow, standIns := [], harness := (true, "89851e1613e72aa7b6a059d70bdc6bdaafc883d15fc6d765e696f3d90d2dc148"), looks := true }, kinds := [], alts := [], laidByText := true, laidKinds := [.data, .handle, .pinned], laidTests := true, laidLooks := .later }
def FnExactMovedItemsCardSaid : Prop := Claim7.holds Tryd.pinned (.plain (OpenSpec.ofChange fnExactMovedItemsSpec)) fnExactMovedItemsCard

/-- THE SECOND FORM's CARD OF 'laws.FnExactKidsOf'. -/
def fnExactKidsOfUptoCard : Claim7 := { stood := { row := fnExactKidsOfUptoRow, standIns := [], harness := (true, "89851e1613e72aa7b6a059d70bdc6bdaafc883d15fc6d765e696f3d90d2dc148"), looks := true }, kinds := [], alts := [], laidByText := true, laidKinds := [.data, .handle, .pinned], laidTests := true, laidLooks := .later }
def FnExactKidsOfUptoCardSaid : Prop := Claim7.holds Tryd.pinned (.plain (OpenSpec.upto fnExactKidsOfSpec)) fnExactKidsOfUptoCard

/-- THE SECOND FORM's CARD OF 'laws.FnExactViewOk'. -/
def fnExactViewOkUptoCard : Claim7 := { stood := { row := fnExactViewOkUptoRow, standIns := [], harness := (true, "89851e1613e72aa7b6a059d70bdc6bdaafc883d15fc6d765e696f3d90d2dc148"), looks := true }, kinds := [], alts := [], laidByText := true, laidKinds := [.data, .handle, .pinned], laidTests := true, laidLooks := .later }
def FnExactViewOkUptoCardSaid : Prop := Claim7.holds Tryd.pinned (.plain (OpenSpec.upto fnExactViewOkSpec)) fnExactViewOkUptoCard

/-- THE SECOND FORM's CARD OF 'laws.FnExactMovedItems'. -/
def fnExactMovedItemsUptoCard : Claim7 := { stood := { row := fnExactMovedItemsUptoRow, standIns := [], harness := (true, "89851e1613e72aa7b6a059d70bdc6bdaafc883d15fc6d765e696f3d90d2dc148"), looks := true }, kinds := [], alts := [], laidByText := true, laidKinds := [.data, .handle, .pinned], laidTests := true, laidLooks := .later }
def FnExactMovedItemsUptoCardSaid : Prop := Claim7.holds Tryd.pinned (.plain (OpenSpec.upto fnExactMovedItemsSpec)) fnExactMovedItemsUptoCard
end Rows
end Go.Proofs.YtkfkjcadmdcbnaaDoor
