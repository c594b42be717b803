/-
  DERIVED. GIVEN WITH THE SEED: THE PROGRAM's TIES (one call each: nine closed facts by the kernel) AND EACH ROW's TIE, after the 31st guide's Derived/Test/Toyas{Tie, Card}.lean. No idea stands in it: it is a product of the set-up. Laid BY PROGRAM, IN A SANDBOX (cutbox-door.mjs). By AI agents, Wed Nov 11 2026. No macro, syntax, notation, axiom, sorry.
-/
import Derived.Test.YteohmifmfgbmaaaDoorRows
import Derived.LaidByTextLater
import Derived.SevenTiedAt
import Derived.LaidSub
import Derived.LaidOnce
namespace Go.Proofs.YteohmifmfgbmaaaDoor
open Go
set_option maxRecDepth 100000
theorem seatTie1 : Tryd.prog.laidByTextLater [("loop.example/g00969/impl.shaInitial", Rows.laid_loop_example_g00969_impl_shaInitial), ("loop.example/g00969/impl.shaConstants", Rows.laid_loop_example_g00969_impl_shaConstants)] [.wider, .data] true :=
  Program.laidByTextLater_by_one 19 8 65 (by kernel_rfl) (by kernel_rfl) (by kernel_rfl) (by kernel_rfl) (by kernel_rfl) (by kernel_rfl) (fun _ _ => by kernel_rfl)
theorem noOwnUnsafe : Tryd.pinned.checked.prog.headLifts.contains "ownunsafe" = false := by kernel_rfl
theorem tie : Tryd.prog.laidByTextLater [("loop.example/g00969/impl.shaConstants", Rows.laid_loop_example_g00969_impl_shaConstants)] [.data] true :=
  Program.laidByTextLater.sub seatTie1 ["loop.example/g00969/impl.shaConstants"] (by kernel_rfl) (by kernel_rfl)
theorem fnExactShaBlock_row_tie : Rows.fnExactShaBlockRow.laidByTextAt .later Tryd.pinned [.data] true :=
  OpenClaim.laidByTextAt_later rfl rfl tie noOwnUnsafe
theorem tie2 : Tryd.prog.laidByTextLater [("loop.example/g00969/impl.shaInitial", Rows.laid_loop_example_g00969_impl_shaInitial)] [.wider] true :=
  Program.laidByTextLater.sub seatTie1 ["loop.example/g00969/impl.shaInitial"] (by kernel_rfl) (by kernel_rfl)
theorem fnExactShaStart_row_tie : Rows.fnExactShaStartRow.laidByTextAt .later Tryd.pinned [.wider] true :=
  OpenClaim.laidByTextAt_later rfl rfl tie2 noOwnUnsafe
theorem tie3 : Tryd.prog.laidByTextLater [("loop.example/g00969/impl.shaInitial", Rows.laid_loop_example_g00969_impl_shaInitial), ("loop.example/g00969/impl.shaConstants", Rows.laid_loop_example_g00969_impl_shaConstants)] [.wider, .data] true :=
  Program.laidByTextLater.sub seatTie1 ["loop.example/g00969/impl.shaInitial", "loop.example/g00969/impl.shaConstants"] (by kernel_rfl) (by kernel_rfl)
theorem fnExactDigest_row_tie : Rows.fnExactDigestRow.laidByTextAt .later Tryd.pinned [.wider, .data] true :=
  OpenClaim.laidByTextAt_later rfl rfl tie3 noOwnUnsafe
theorem fnExactDigestHex_row_tie : Rows.fnExactDigestHexRow.laidByTextAt .later Tryd.pinned [.wider, .data] true :=
  OpenClaim.laidByTextAt_later rfl rfl tie3 noOwnUnsafe
theorem fnExactCutDigest_row_tie : Rows.fnExactCutDigestRow.laidByTextAt .later Tryd.pinned [.wider, .data] true :=
  OpenClaim.laidByTextAt_later rfl rfl tie3 noOwnUnsafe
theorem fnExactShaBlockUpto_row_tie : Rows.fnExactShaBlockUptoRow.laidByTextAt .later Tryd.pinned [.data] true :=
  OpenClaim.laidByTextAt_later rfl rfl tie noOwnUnsafe
theorem fnExactShaStartUpto_row_tie : Rows.fnExactShaStartUptoRow.laidByTextAt .later Tryd.pinned [.wider] true :=
  OpenClaim.laidByTextAt_later rfl rfl tie2 noOwnUnsafe
theorem fnExactDigestUpto_row_tie : Rows.fnExactDigestUptoRow.laidByTextAt .later Tryd.pinned [.wider, .data] true :=
  OpenClaim.laidByTextAt_later rfl rfl tie3 noOwnUnsafe
theorem fnExactDigestHexUpto_row_tie : Rows.fnExactDigestHexUptoRow.laidByTextAt .later Tryd.pinned [.wider, .data] true :=
  OpenClaim.laidByTextAt_later rfl rfl tie3 noOwnUnsafe
theorem fnExactCutDigestUpto_row_tie : Rows.fnExactCutDigestUptoRow.laidByTextAt .later Tryd.pinned [.wider, .data] true :=
  OpenClaim.laidByTextAt_later rfl rfl tie3 noOwnUnsafe
end Go.Proofs.YteohmifmfgbmaaaDoor
