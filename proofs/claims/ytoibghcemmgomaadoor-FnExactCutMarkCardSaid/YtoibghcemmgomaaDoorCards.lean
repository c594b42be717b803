/-
  DERIVED. GIVEN WITH THE SEED: THE CARDS: each row of YtoibghcemmgomaaDoorRows.lean that lists a variable, with what it lists TIED to the program's text (the seventh form; the later family's looks); each row that meets fmt, with fmt's text TOLD by the authors' own Lean function (tested against real Go, not proved from fmt's source: count such statements apart). THE CARD IS WHAT COUNTS. Prove the row's statement (the work); the ties are given (YtoibghcemmgomaaDoorTie.lean); close each card by the builder's one call (the guide's Derived/Test/ToyasCard.lean, 'card_holds'). Laid BY PROGRAM, IN A SANDBOX (cutbox-door.mjs). By AI agents, Wed Nov 11 2026. No macro, syntax, notation, axiom, sorry.
-/
import Derived.Test.YtoibghcemmgomaaDoorRows
import GoSem.ClaimSeven
namespace Go.Proofs.YtoibghcemmgomaaDoor
namespace Rows

/-- THE TIED CARD OF 'laws.FnExactHmacKey'. -/
def fnExactHmacKeyCard : Claim7 := { stood := { row := fnExactHmacKeyRow, standIns := [], harness := (true, "fd3b535b2b4dddf71ef42762903f5b253d5b648ac3005fdef557f4a6f9a17174"), looks := false }, kinds := [], alts := [], laidByText := true, laidKinds := [.wider, .data], laidTests := true, laidLooks := .later }
def FnExactHmacKeyCardSaid : Prop := Claim7.holds Tryd.pinned (.plain (OpenSpec.ofChange fnExactHmacKeySpec)) fnExactHmacKeyCard

/-- THE TIED CARD OF 'laws.FnExactHmac'. -/
def fnExactHmacCard : Claim7 := { stood := { row := fnExactHmacRow, standIns := [], harness := (true, "fd3b535b2b4dddf71ef42762903f5b253d5b648ac3005fdef557f4a6f9a17174"), looks := false }, kinds := [], alts := [], laidByText := true, laidKinds := [.wider, .data], laidTests := true, laidLooks := .later }
def FnExactHmacCardSaid : Prop := Claim7.holds Tryd.pinned (.plain (OpenSpec.ofChange fnExactHmacSpec)) fnExactHmacCard

/-- THE TIED CARD OF 'laws.FnExactHmacOk'. -/
def fnExactHmacOkCard : Claim7 := { stood := { row := fnExactHmacOkRow, standIns := [], harness := (true, "fd3b535b2b4dddf71ef42762903f5b253d5b648ac3005fdef557f4a6f9a17174"), looks := false }, kinds := [], alts := [], laidByText := true, laidKinds := [.wider, .data], laidTests := true, laidLooks := .later }
def FnExactHmacOkCardSaid : Prop := Claim7.holds Tryd.pinned (.plain (OpenSpec.ofChange fnExactHmacOkSpec)) fnExactHmacOkCard

/-- THE TIED CARD OF 'laws.FnExactCutMark'. -/
def fnExactCutMarkCard : Claim7 := { stood := { row := fnExactCutMarkRow, standIns := [], harness := (true, "fd3b535b2b4dddf71ef42762903f5b253d5b648ac3005fdef557f4a6f9a17174"), looks := false }, kinds := [], alts := [], laidByText := true, laidKinds := [.wider, .data], laidTests := true, laidLooks := .later }
def FnExactCutMarkCardSaid : Prop := Claim7.holds Tryd.pinned (.plain (OpenSpec.ofChange fnExactCutMarkSpec)) fnExactCutMarkCard

/-- THE SECOND FORM's CARD OF 'laws.FnExactHmacKey'. -/
def fnExactHmacKeyUptoCard : Claim7 := { stood := { row := fnExactHmacKeyUptoRow, standIns := [], harness := (true, "fd3b535b2b4dddf71ef42762903f5b253d5b648ac3005fdef557f4a6f9a17174"), looks := false }, kinds := [], alts := [], laidByText := true, laidKinds := [.wider, .data], laidTests := true, laidLooks := .later }
def FnExactHmacKeyUptoCardSaid : Prop := Claim7.holds Tryd.pinned (.plain (OpenSpec.upto fnExactHmacKeySpec)) fnExactHmacKeyUptoCard

/-- THE SECOND FORM's CARD OF 'laws.FnExactHmac'. -/
def fnExactHmacUptoCard : Claim7 := { stood := { row := fnExactHmacUptoRow, standIns := [], harness := (true, "fd3b535b2b4dddf71ef42762903f5b253d5b648ac3005fdef557f4a6f9a17174"), looks := false }, kinds := [], alts := [], laidByText := true, laidKinds := [.wider, .data], laidTests := true, laidLooks := .later }
def FnExactHmacUptoCardSaid : Prop := Claim7.holds Tryd.pinned (.plain (OpenSpec.upto fnExactHmacSpec)) fnExactHmacUptoCard

/-- THE SECOND FORM's CARD OF 'laws.FnExactHmacOk'. -/
def fnExactHmacOkUptoCard : Claim7 := { stood := { row := fnExactHmacOkUptoRow, standIns := [], harness := (true, "fd3b535b2b4dddf71ef42762903f5b253d5b648ac3005fdef557f4a6f9a17174"), looks := false }, kinds := [], alts := [], laidByText := true, laidKinds := [.wider, .data], laidTests := true, laidLooks := .later }
def FnExactHmacOkUptoCardSaid : Prop := Claim7.holds Tryd.pinned (.plain (OpenSpec.upto fnExactHmacOkSpec)) fnExactHmacOkUptoCard

/-- THE SECOND FORM's CARD OF 'laws.FnExactCutMark'. -/
def fnExactCutMarkUptoCard : Claim7 := { stood := { row := fnExactCutMarkUptoRow, standIns := [], harness := (true, "fd3b535b2b4dddf71ef42762903f5b253d5b648ac3005fdef557f4a6f9a17174"), looks := false }, kinds := [], alts := [], laidByText := true, laidKinds := [.wider, .data], laidTests := true, laidLooks := .later }
def FnExactCutMarkUptoCardSaid : Prop := Claim7.holds Tryd.pinned (.plain (OpenSpec.upto fnExactCutMarkSpec)) fnExactCutMarkUptoCard
end Rows
end Go.Proofs.YtoibghcemmgomaaDoor
