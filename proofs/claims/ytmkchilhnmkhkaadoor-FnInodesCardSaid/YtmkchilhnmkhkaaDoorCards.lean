/-
  DERIVED. GIVEN WITH THE SEED: THE CARDS: each row of YtmkchilhnmkhkaaDoorRows.lean that lists a variable, with what it lists TIED to the program's text (the seventh form; the later family's looks); each row that meets fmt, with fmt's text TOLD by the authors' own Lean function (tested against real Go, not proved from fmt's source: count such statements apart). THE CARD IS WHAT COUNTS. Prove the row's statement (the work); the ties are given (YtmkchilhnmkhkaaDoorTie.lean); close each card by the builder's one call (the guide's Derived/Test/ToyasCard.lean, 'card_holds'). Laid BY PROGRAM, IN A SANDBOX (cutbox-door.mjs). By AI agents, Wed Nov 11 2026. No macro, syntax, notation, axiom, sorry.
-/
import Derived.Test.YtmkchilhnmkhkaaDoorRows
import GoSem.ClaimSeven
namespace Go.Proofs.YtmkchilhnmkhkaaDoor
namespace Rows

/-- THE TIED CARD OF 'laws.FnPaths'. -/
def fnPathsCard : Claim7 := { stood := { row := fnPathsRow, standIns := [], harness := (true, "40f853bb124679c1e963b17f913940a8b50dbde0286b4a81979a7b41debd8828"), looks := true }, kinds := [], alts := [], laidByText := true, laidKinds := [.data, .handle, .pinned], laidTests := true, laidLooks := .later }
def FnPathsCardSaid : Prop := Claim7.holds Tryd.pinned (.plain (OpenSpec.ofChange fnPathsSpec)) fnPathsCard

/-- THE TIED CARD OF 'laws.FnExactSplitPath'. -/
def fnExactSplitPathCard : Claim7 := { stood := { row := fnExactSplitPathRow, standIns := [], harness := (true, "40f853bb124679c1e963b17f913940a8b50dbde0286b4a81979a7b41debd8828"), looks := true }, kinds := [], alts := [], laidByText := true, laidKinds := [.data, .handle, .pinned], laidTests := true, laidLooks := .later }
def FnExactSplitPathCardSaid : Prop := Claim7.holds Tryd.pinned (.plain (OpenSpec.ofChange fnExactSplitPathSpec)) fnExactSplitPathCard

/-- THE TIED CARD OF 'laws.FnExactParentOf'. -/
def fnExactParentOfCard : Claim7 := { stood := { row := fnExactParentOfRow, standIns := [], harness := (true, "40f853bb124679c1e963b17f913940a8b50dbde0286b4a81979a7b41debd8828"), looks := true }, kinds := [], alts := [], laidByText := true, laidKinds := [.data, .handle, .pinned], laidTests := true, laidLooks := .later }
def FnExactParentOfCardSaid : Prop := Claim7.holds Tryd.pinned (.plain (OpenSpec.ofChange fnExactParentOfSpec)) fnExactParentOfCard

/-- THE TIED CARD OF 'laws.FnExactLastOf'. -/
def fnExactLastOfCard : Claim7 := { stood := { row := fnExactLastOfRow, standIns := [], harness := (true, "40f853bb124679c1e963b17f913940a8b50dbde0286b4a81979a7b41debd8828"), looks := true }, kinds := [], alts := [], laidByText := true, laidKinds := [.data, .handle, .pinned], laidTests := true, laidLooks := .later }
def FnExactLastOfCardSaid : Prop := Claim7.holds Tryd.pinned (.plain (OpenSpec.ofChange fnExactLastOfSpec)) fnExactLastOfCard

/-- THE TIED CARD OF 'laws.FnExactIsUnder'. -/
def fnExactIsUnderCard : Claim7 := { stood := { row := fnExactIsUnderRow, standIns := [], harness := (true, "40f853bb124679c1e963b17f913940a8b50dbde0286b4a81979a7b41debd8828"), looks := true }, kinds := [], alts := [], laidByText := true, laidKinds := [.data, .handle, .pinned], laidTests := true, laidLooks := .later }
def FnExactIsUnderCardSaid : Prop := Claim7.holds Tryd.pinned (.plain (OpenSpec.ofChange fnExactIsUnderSpec)) fnExactIsUnderCard

/-- THE TIED CARD OF 'laws.FnExactFindInode'. -/
def fnExactFindInodeCard : Claim7 := { stood := { row := fnExactFindInodeRow, standIns := [], harness := (true, "40f853bb124679c1e963b17f913940a8b50dbde0286b4a81979a7b41debd8828"), looks := true }, kinds := [], alts := [], laidByText := true, laidKinds := [.data, .handle, .pinned], laidTests := true, laidLooks := .later }
def FnExactFindInodeCardSaid : Prop := Claim7.holds Tryd.pinned (.plain (OpenSpec.ofChange fnExactFindInodeSpec)) fnExactFindInodeCard

/-- THE TIED CARD OF 'laws.FnExactReadEntry'. -/
def fnExactReadEntryCard : Claim7 := { stood := { row := fnExactReadEntryRow, standIns := [], harness := (true, "40f853bb124679c1e963b17f913940a8b50dbde0286b4a81979a7b41debd8828"), looks := true }, kinds := [], alts := [], laidByText := true, laidKinds := [.data, .pinned], laidTests := true, laidLooks := .later }
def FnExactReadEntryCardSaid : Prop := Claim7.holds Tryd.pinned (.plain (OpenSpec.ofChange fnExactReadEntrySpec)) fnExactReadEntryCard

/-- THE TIED CARD OF 'laws.FnExactReadInode'. -/
def fnExactReadInodeCard : Claim7 := { stood := { row := fnExactReadInodeRow, standIns := [], harness := (true, "40f853bb124679c1e963b17f913940a8b50dbde0286b4a81979a7b41debd8828"), looks := true }, kinds := [], alts := [], laidByText := true, laidKinds := [.data, .pinned], laidTests := true, laidLooks := .later }
def FnExactReadInodeCardSaid : Prop := Claim7.holds Tryd.pinned (.plain (OpenSpec.ofChange fnExactReadInodeSpec)) fnExactReadInodeCard

/-- THE TIED CARD OF 'laws.FnInodes'. -/
def fnInodesCard : Claim7 := { stood := { row := fnInodesRow, standIns := [], harness := (true, "40f853bb124679c1e963b17f913940a8b50dbde0286b4a81979a7b41debd8828"), looks := true }, kinds := [], alts := [], laidByText := true, laidKinds := [.data, .pinned], laidTests := true, laidLooks := .later }
def FnInodesCardSaid : Prop := Claim7.holds Tryd.pinned (.plain (OpenSpec.ofChange fnInodesSpec)) fnInodesCard

/-- THE SECOND FORM's CARD OF 'laws.FnPaths'. -/
def fnPathsUptoCard : Claim7 := { stood := { row := fnPathsUptoRow, standIns := [], harness := (true, "40f853bb124679c1e963b17f913940a8b50dbde0286b4a81979a7b41debd8828"), looks := true }, kinds := [], alts := [], laidByText := true, laidKinds := [.data, .handle, .pinned], laidTests := true, laidLooks := .later }
def FnPathsUptoCardSaid : Prop := Claim7.holds Tryd.pinned (.plain (OpenSpec.upto fnPathsSpec)) fnPathsUptoCard

/-- THE SECOND FORM's CARD OF 'laws.FnExactSplitPath'. -/
def fnExactSplitPathUptoCard : Claim7 := { stood := { row := fnExactSplitPathUptoRow, standIns := [], harness := (true, "40f853bb124679c1e963b17f913940a8b50dbde0286b4a81979a7b41debd8828"), looks := true }, kinds := [], alts := [], laidByText := true, laidKinds := [.data, .handle, .pinned], laidTests := true, laidLooks := .later }
def FnExactSplitPathUptoCardSaid : Prop := Claim7.holds Tryd.pinned (.plain (OpenSpec.upto fnExactSplitPathSpec)) fnExactSplitPathUptoCard

/-- THE SECOND FORM's CARD OF 'laws.FnExactParentOf'. -/
def fnExactParentOfUptoCard : Claim7 := { stood := { row := fnExactParentOfUptoRow, standIns := [], harness := (true, "40f853bb124679c1e963b17f913940a8b50dbde0286b4a81979a7b41debd8828"), looks := true }, kinds := [], alts := [], laidByText := true, laidKinds := [.data, .handle, .pinned], laidTests := true, laidLooks := .later }
def FnExactParentOfUptoCardSaid : Prop := Claim7.holds Tryd.pinned (.plain (OpenSpec.upto fnExactParentOfSpec)) fnExactParentOfUptoCard

/-- THE SECOND FORM's CARD OF 'laws.FnExactLastOf'. -/
def fnExactLastOfUptoCard : Claim7 := { stood := { row := fnExactLastOfUptoRow, standIns := [], harness := (true, "40f853bb124679c1e963b17f913940a8b50dbde0286b4a81979a7b41debd8828"), looks := true }, kinds := [], alts := [], laidByText := true, laidKinds := [.data, .handle, .pinned], laidTests := true, laidLooks := .later }
def FnExactLastOfUptoCardSaid : Prop := Claim7.holds Tryd.pinned (.plain (OpenSpec.upto fnExactLastOfSpec)) fnExactLastOfUptoCard

/-- THE SECOND FORM's CARD OF 'laws.FnExactIsUnder'. -/
def fnExactIsUnderUptoCard : Claim7 := { stood := { row := fnExactIsUnderUptoRow, standIns := [], harness := (true, "40f853bb124679c1e963b17f913940a8b50dbde0286b4a81979a7b41debd8828"), looks := true }, kinds := [], alts := [], laidByText := true, laidKinds := [.data, .handle, .pinned], laidTests := true, laidLooks := .later }
def FnExactIsUnderUptoCardSaid : Prop := Claim7.holds Tryd.pinned (.plain (OpenSpec.upto fnExactIsUnderSpec)) fnExactIsUnderUptoCard

/-- THE SECOND FORM's CARD OF 'laws.FnExactFindInode'. -/
def fnExactFindInodeUptoCard : Claim7 := { stood := { row := fnExactFindInodeUptoRow, standIns := [], harness := (true, "40f853bb124679c1e963b17f913940a8b50dbde0286b4a81979a7b41debd8828"), looks := true }, kinds := [], alts := [], laidByText := true, laidKinds := [.data, .handle, .pinned], laidTests := true, laidLooks := .later }
def FnExactFindInodeUptoCardSaid : Prop := Claim7.holds Tryd.pinned (.plain (OpenSpec.upto fnExactFindInodeSpec)) fnExactFindInodeUptoCard

/-- THE SECOND FORM's CARD OF 'laws.FnExactReadEntry'. -/
def fnExactReadEntryUptoCard : Claim7 := { stood := { row := fnExactReadEntryUptoRow, standIns := [], harness := (true, "40f853bb124679c1e963b17f913940a8b50dbde0286b4a81979a7b41debd8828"), looks := true }, kinds := [], alts := [], laidByText := true, laidKinds := [.data, .pinned], laidTests := true, laidLooks := .later }
def FnExactReadEntryUptoCardSaid : Prop := Claim7.holds Tryd.pinned (.plain (OpenSpec.upto fnExactReadEntrySpec)) fnExactReadEntryUptoCard

/-- THE SECOND FORM's CARD OF 'laws.FnExactReadInode'. -/
def fnExactReadInodeUptoCard : Claim7 := { stood := { row := fnExactReadInodeUptoRow, standIns := [], harness := (true, "40f853bb124679c1e963b17f913940a8b50dbde0286b4a81979a7b41debd8828"), looks := true }, kinds := [], alts := [], laidByText := true, laidKinds := [.data, .pinned], laidTests := true, laidLooks := .later }
def FnExactReadInodeUptoCardSaid : Prop := Claim7.holds Tryd.pinned (.plain (OpenSpec.upto fnExactReadInodeSpec)) fnExactReadInodeUptoCard

/-- THE SECOND FORM's CARD OF 'laws.FnInodes'. -/
def fnInodesUptoCard : Claim7 := { stood := { row := fnInodesUptoRow, standIns := [], harness := (true, "40f853bb124679c1e963b17f913940a8b50dbde0286b4a81979a7b41debd8828"), looks := true }, kinds := [], alts := [], laidByText := true, laidKinds := [.data, .pinned], laidTests := true, laidLooks := .later }
def FnInodesUptoCardSaid : Prop := Claim7.holds Tryd.pinned (.plain (OpenSpec.upto fnInodesSpec)) fnInodesUptoCard
end Rows
end Go.Proofs.YtmkchilhnmkhkaaDoor
