/-
  DERIVED. GIVEN WITH THE SEED: THE CARDS: each row of YtmkhflcnkpmhiaaDoorRows.lean that lists a variable, with what it lists TIED to the program's text (the seventh form; the later family's looks); each row that meets fmt, with fmt's text TOLD by the authors' own Lean function (tested against real Go, not proved from fmt's source: count such statements apart). THE CARD IS WHAT COUNTS. Prove the row's statement (the work); the ties are given (YtmkhflcnkpmhiaaDoorTie.lean); close each card by the builder's one call (the guide's Derived/Test/ToyasCard.lean, 'card_holds'). Laid BY PROGRAM, IN A SANDBOX (cutbox-door.mjs). By AI agents, Wed Nov 11 2026. No macro, syntax, notation, axiom, sorry.
-/
import Derived.Test.YtmkhflcnkpmhiaaDoorRows
import GoSem.ClaimSeven
namespace Go.Proofs.YtmkhflcnkpmhiaaDoor
namespace Rows

/-- THE TIED CARD OF 'laws.FnStreams'. -/
def fnStreamsCard : Claim7 := { stood := { row := fnStreamsRow, standIns := [], harness := (true, "f6bb2388b744fabb7bb96fc967d17ebeccb4c80a3687673a93a38addecf73f11"), looks := false }, kinds := [], alts := [], laidByText := true, laidKinds := [.data], laidTests := true, laidLooks := .later }
def FnStreamsCardSaid : Prop := Claim7.holds Tryd.pinned (.plain (OpenSpec.ofChange fnStreamsSpec)) fnStreamsCard

/-- THE TIED CARD OF 'laws.FnExactStreamOf'. -/
def fnExactStreamOfCard : Claim7 := { stood := { row := fnExactStreamOfRow, standIns := [], harness := (true, "f6bb2388b744fabb7bb96fc967d17ebeccb4c80a3687673a93a38addecf73f11"), looks := false }, kinds := [], alts := [], laidByText := true, laidKinds := [.data], laidTests := true, laidLooks := .later }
def FnExactStreamOfCardSaid : Prop := Claim7.holds Tryd.pinned (.plain (OpenSpec.ofChange fnExactStreamOfSpec)) fnExactStreamOfCard

/-- THE TIED CARD OF 'laws.FnExactStreamed'. -/
def fnExactStreamedCard : Claim7 := { stood := { row := fnExactStreamedRow, standIns := [], harness := (true, "f6bb2388b744fabb7bb96fc967d17ebeccb4c80a3687673a93a38addecf73f11"), looks := false }, kinds := [], alts := [], laidByText := true, laidKinds := [.data], laidTests := true, laidLooks := .later }
def FnExactStreamedCardSaid : Prop := Claim7.holds Tryd.pinned (.plain (OpenSpec.ofChange fnExactStreamedSpec)) fnExactStreamedCard

/-- THE TIED CARD OF 'laws.FnExactStreamBlock'. -/
def fnExactStreamBlockCard : Claim7 := { stood := { row := fnExactStreamBlockRow, standIns := [], harness := (true, "f6bb2388b744fabb7bb96fc967d17ebeccb4c80a3687673a93a38addecf73f11"), looks := false }, kinds := [], alts := [], laidByText := true, laidKinds := [.data], laidTests := true, laidLooks := .later }
def FnExactStreamBlockCardSaid : Prop := Claim7.holds Tryd.pinned (.plain (OpenSpec.ofChange fnExactStreamBlockSpec)) fnExactStreamBlockCard

/-- THE SECOND FORM's CARD OF 'laws.FnStreams'. -/
def fnStreamsUptoCard : Claim7 := { stood := { row := fnStreamsUptoRow, standIns := [], harness := (true, "f6bb2388b744fabb7bb96fc967d17ebeccb4c80a3687673a93a38addecf73f11"), looks := false }, kinds := [], alts := [], laidByText := true, laidKinds := [.data], laidTests := true, laidLooks := .later }
def FnStreamsUptoCardSaid : Prop := Claim7.holds Tryd.pinned (.plain (OpenSpec.upto fnStreamsSpec)) fnStreamsUptoCard

/-- THE SECOND FORM's CARD OF 'laws.FnExactStreamOf'. -/
def fnExactStreamOfUptoCard : Claim7 := { stood := { row := fnExactStreamOfUptoRow, standIns := [], harness := (true, "f6bb2388b744fabb7bb96fc967d17ebeccb4c80a3687673a93a38addecf73f11"), looks := false }, kinds := [], alts := [], laidByText := true, laidKinds := [.data], laidTests := true, laidLooks := .later }
def FnExactStreamOfUptoCardSaid : Prop := Claim7.holds Tryd.pinned (.plain (OpenSpec.upto fnExactStreamOfSpec)) fnExactStreamOfUptoCard

/-- THE SECOND FORM's CARD OF 'laws.FnExactStreamed'. -/
def fnExactStreamedUptoCard : Claim7 := { stood := { row := fnExactStreamedUptoRow, standIns := [], harness := (true, "f6bb2388b744fabb7bb96fc967d17ebeccb4c80a3687673a93a38addecf73f11"), looks := false }, kinds := [], alts := [], laidByText := true, laidKinds := [.data], laidTests := true, laidLooks := .later }
def FnExactStreamedUptoCardSaid : Prop := Claim7.holds Tryd.pinned (.plain (OpenSpec.upto fnExactStreamedSpec)) fnExactStreamedUptoCard

/-- THE SECOND FORM's CARD OF 'laws.FnExactStreamBlock'. -/
def fnExactStreamBlockUptoCard : Claim7 := { stood := { row := fnExactStreamBlockUptoRow, standIns := [], harness := (true, "f6bb2388b744fabb7bb96fc967d17ebeccb4c80a3687673a93a38addecf73f11"), looks := false }, kinds := [], alts := [], laidByText := true, laidKinds := [.data], laidTests := true, laidLooks := .later }
def FnExactStreamBlockUptoCardSaid : Prop := Claim7.holds Tryd.pinned (.plain (OpenSpec.upto fnExactStreamBlockSpec)) fnExactStreamBlockUptoCard
end Rows
end Go.Proofs.YtmkhflcnkpmhiaaDoor
