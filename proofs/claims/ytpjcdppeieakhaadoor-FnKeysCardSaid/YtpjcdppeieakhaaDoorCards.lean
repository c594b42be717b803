/-
  DERIVED. GIVEN WITH THE SEED: THE CARDS: each row of YtpjcdppeieakhaaDoorRows.lean that lists a variable, with what it lists TIED to the program's text (the seventh form; the later family's looks); each row that meets fmt, with fmt's text TOLD by the authors' own Lean function (tested against real Go, not proved from fmt's source: count such statements apart). THE CARD IS WHAT COUNTS. Prove the row's statement (the work); the ties are given (YtpjcdppeieakhaaDoorTie.lean); close each card by the builder's one call (the guide's Derived/Test/ToyasCard.lean, 'card_holds'). Laid BY PROGRAM, IN A SANDBOX (cutbox-door.mjs). By AI agents, Wed Nov 11 2026. No macro, syntax, notation, axiom, sorry.
-/
import Derived.Test.YtpjcdppeieakhaaDoorRows
import GoSem.ClaimSeven
namespace Go.Proofs.YtpjcdppeieakhaaDoor
namespace Rows

/-- THE TIED CARD OF 'laws.FnKeys'. -/
def fnKeysCard : Claim7 := { stood := { row := fnKeysRow, standIns := [], harness := (true, "c02cbbbe17a904b5d20e52ff9982881fa7c5eee88f17380efb2fd15298259c53"), looks := false }, kinds := [], alts := [], laidByText := true, laidKinds := [.data, .data, .data, .wider, .data], laidTests := true, laidLooks := .later }
def FnKeysCardSaid : Prop := Claim7.holds Tryd.pinned (.plain (OpenSpec.ofChange fnKeysSpec)) fnKeysCard

/-- THE TIED CARD OF 'laws.FnExactSecretOf'. -/
def fnExactSecretOfCard : Claim7 := { stood := { row := fnExactSecretOfRow, standIns := [], harness := (true, "c02cbbbe17a904b5d20e52ff9982881fa7c5eee88f17380efb2fd15298259c53"), looks := false }, kinds := [], alts := [], laidByText := true, laidKinds := [.data, .data, .data, .wider, .data], laidTests := true, laidLooks := .later }
def FnExactSecretOfCardSaid : Prop := Claim7.holds Tryd.pinned (.plain (OpenSpec.ofChange fnExactSecretOfSpec)) fnExactSecretOfCard

/-- THE TIED CARD OF 'laws.FnExactFileKey'. -/
def fnExactFileKeyCard : Claim7 := { stood := { row := fnExactFileKeyRow, standIns := [], harness := (true, "c02cbbbe17a904b5d20e52ff9982881fa7c5eee88f17380efb2fd15298259c53"), looks := false }, kinds := [], alts := [], laidByText := true, laidKinds := [.wider, .data], laidTests := true, laidLooks := .later }
def FnExactFileKeyCardSaid : Prop := Claim7.holds Tryd.pinned (.plain (OpenSpec.ofChange fnExactFileKeySpec)) fnExactFileKeyCard

/-- THE TIED CARD OF 'laws.FnExactWrapMask'. -/
def fnExactWrapMaskCard : Claim7 := { stood := { row := fnExactWrapMaskRow, standIns := [], harness := (true, "c02cbbbe17a904b5d20e52ff9982881fa7c5eee88f17380efb2fd15298259c53"), looks := false }, kinds := [], alts := [], laidByText := true, laidKinds := [.wider, .data], laidTests := true, laidLooks := .later }
def FnExactWrapMaskCardSaid : Prop := Claim7.holds Tryd.pinned (.plain (OpenSpec.ofChange fnExactWrapMaskSpec)) fnExactWrapMaskCard

/-- THE TIED CARD OF 'laws.FnExactWrapped'. -/
def fnExactWrappedCard : Claim7 := { stood := { row := fnExactWrappedRow, standIns := [], harness := (true, "c02cbbbe17a904b5d20e52ff9982881fa7c5eee88f17380efb2fd15298259c53"), looks := false }, kinds := [], alts := [], laidByText := true, laidKinds := [.wider, .data], laidTests := true, laidLooks := .later }
def FnExactWrappedCardSaid : Prop := Claim7.holds Tryd.pinned (.plain (OpenSpec.ofChange fnExactWrappedSpec)) fnExactWrappedCard

/-- THE TIED CARD OF 'laws.FnExactUnwrapped'. -/
def fnExactUnwrappedCard : Claim7 := { stood := { row := fnExactUnwrappedRow, standIns := [], harness := (true, "c02cbbbe17a904b5d20e52ff9982881fa7c5eee88f17380efb2fd15298259c53"), looks := false }, kinds := [], alts := [], laidByText := true, laidKinds := [.wider, .data], laidTests := true, laidLooks := .later }
def FnExactUnwrappedCardSaid : Prop := Claim7.holds Tryd.pinned (.plain (OpenSpec.ofChange fnExactUnwrappedSpec)) fnExactUnwrappedCard

/-- THE TIED CARD OF 'laws.FnExactPageKey'. -/
def fnExactPageKeyCard : Claim7 := { stood := { row := fnExactPageKeyRow, standIns := [], harness := (true, "c02cbbbe17a904b5d20e52ff9982881fa7c5eee88f17380efb2fd15298259c53"), looks := false }, kinds := [], alts := [], laidByText := true, laidKinds := [.wider, .data], laidTests := true, laidLooks := .later }
def FnExactPageKeyCardSaid : Prop := Claim7.holds Tryd.pinned (.plain (OpenSpec.ofChange fnExactPageKeySpec)) fnExactPageKeyCard

/-- THE TIED CARD OF 'laws.FnExactMarkKey'. -/
def fnExactMarkKeyCard : Claim7 := { stood := { row := fnExactMarkKeyRow, standIns := [], harness := (true, "c02cbbbe17a904b5d20e52ff9982881fa7c5eee88f17380efb2fd15298259c53"), looks := false }, kinds := [], alts := [], laidByText := true, laidKinds := [.wider, .data], laidTests := true, laidLooks := .later }
def FnExactMarkKeyCardSaid : Prop := Claim7.holds Tryd.pinned (.plain (OpenSpec.ofChange fnExactMarkKeySpec)) fnExactMarkKeyCard

/-- THE SECOND FORM's CARD OF 'laws.FnKeys'. -/
def fnKeysUptoCard : Claim7 := { stood := { row := fnKeysUptoRow, standIns := [], harness := (true, "c02cbbbe17a904b5d20e52ff9982881fa7c5eee88f17380efb2fd15298259c53"), looks := false }, kinds := [], alts := [], laidByText := true, laidKinds := [.data, .data, .data, .wider, .data], laidTests := true, laidLooks := .later }
def FnKeysUptoCardSaid : Prop := Claim7.holds Tryd.pinned (.plain (OpenSpec.upto fnKeysSpec)) fnKeysUptoCard

/-- THE SECOND FORM's CARD OF 'laws.FnExactSecretOf'. -/
def fnExactSecretOfUptoCard : Claim7 := { stood := { row := fnExactSecretOfUptoRow, standIns := [], harness := (true, "c02cbbbe17a904b5d20e52ff9982881fa7c5eee88f17380efb2fd15298259c53"), looks := false }, kinds := [], alts := [], laidByText := true, laidKinds := [.data, .data, .data, .wider, .data], laidTests := true, laidLooks := .later }
def FnExactSecretOfUptoCardSaid : Prop := Claim7.holds Tryd.pinned (.plain (OpenSpec.upto fnExactSecretOfSpec)) fnExactSecretOfUptoCard

/-- THE SECOND FORM's CARD OF 'laws.FnExactFileKey'. -/
def fnExactFileKeyUptoCard : Claim7 := { stood := { row := fnExactFileKeyUptoRow, standIns := [], harness := (true, "c02cbbbe17a904b5d20e52ff9982881fa7c5eee88f17380efb2fd15298259c53"), looks := false }, kinds := [], alts := [], laidByText := true, laidKinds := [.wider, .data], laidTests := true, laidLooks := .later }
def FnExactFileKeyUptoCardSaid : Prop := Claim7.holds Tryd.pinned (.plain (OpenSpec.upto fnExactFileKeySpec)) fnExactFileKeyUptoCard

/-- THE SECOND FORM's CARD OF 'laws.FnExactWrapMask'. -/
def fnExactWrapMaskUptoCard : Claim7 := { stood := { row := fnExactWrapMaskUptoRow, standIns := [], harness := (true, "c02cbbbe17a904b5d20e52ff9982881fa7c5eee88f17380efb2fd15298259c53"), looks := false }, kinds := [], alts := [], laidByText := true, laidKinds := [.wider, .data], laidTests := true, laidLooks := .later }
def FnExactWrapMaskUptoCardSaid : Prop := Claim7.holds Tryd.pinned (.plain (OpenSpec.upto fnExactWrapMaskSpec)) fnExactWrapMaskUptoCard

/-- THE SECOND FORM's CARD OF 'laws.FnExactWrapped'. -/
def fnExactWrappedUptoCard : Claim7 := { stood := { row := fnExactWrappedUptoRow, standIns := [], harness := (true, "c02cbbbe17a904b5d20e52ff9982881fa7c5eee88f17380efb2fd15298259c53"), looks := false }, kinds := [], alts := [], laidByText := true, laidKinds := [.wider, .data], laidTests := true, laidLooks := .later }
def FnExactWrappedUptoCardSaid : Prop := Claim7.holds Tryd.pinned (.plain (OpenSpec.upto fnExactWrappedSpec)) fnExactWrappedUptoCard

/-- THE SECOND FORM's CARD OF 'laws.FnExactUnwrapped'. -/
def fnExactUnwrappedUptoCard : Claim7 := { stood := { row := fnExactUnwrappedUptoRow, standIns := [], harness := (true, "c02cbbbe17a904b5d20e52ff9982881fa7c5eee88f17380efb2fd15298259c53"), looks := false }, kinds := [], alts := [], laidByText := true, laidKinds := [.wider, .data], laidTests := true, laidLooks := .later }
def FnExactUnwrappedUptoCardSaid : Prop := Claim7.holds Tryd.pinned (.plain (OpenSpec.upto fnExactUnwrappedSpec)) fnExactUnwrappedUptoCard

/-- THE SECOND FORM's CARD OF 'laws.FnExactPageKey'. -/
def fnExactPageKeyUptoCard : Claim7 := { stood := { row := fnExactPageKeyUptoRow, standIns := [], harness := (true, "c02cbbbe17a904b5d20e52ff9982881fa7c5eee88f17380efb2fd15298259c53"), looks := false }, kinds := [], alts := [], laidByText := true, laidKinds := [.wider, .data], laidTests := true, laidLooks := .later }
def FnExactPageKeyUptoCardSaid : Prop := Claim7.holds Tryd.pinned (.plain (OpenSpec.upto fnExactPageKeySpec)) fnExactPageKeyUptoCard

/-- THE SECOND FORM's CARD OF 'laws.FnExactMarkKey'. -/
def fnExactMarkKeyUptoCard : Claim7 := { stood := { row := fnExactMarkKeyUptoRow, standIns := [], harness := (true, "c02cbbbe17a904b5d20e52ff9982881fa7c5eee88f17380efb2fd15298259c53"), looks := false }, kinds := [], alts := [], laidByText := true, laidKinds := [.wider, .data], laidTests := true, laidLooks := .later }
def FnExactMarkKeyUptoCardSaid : Prop := Claim7.holds Tryd.pinned (.plain (OpenSpec.upto fnExactMarkKeySpec)) fnExactMarkKeyUptoCard
end Rows
end Go.Proofs.YtpjcdppeieakhaaDoor
