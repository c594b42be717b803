/-
  NARROWER THAN 'FOR EVERY INPUT', by the rows' own cells (each row's printed sentence says how): FnKeys: laid · FnExactSecretOf: laid · FnExactFileKey: laid · FnExactWrapMask: laid · FnExactWrapped: laid · FnExactUnwrapped: laid · FnExactPageKey: laid · FnExactMarkKey: laid.
  DERIVED. THE GIVEN ROWS OF THIS SEAT. 8 by the template 'for every input the law returns true; each argument reads behind the call as it read before'; 0 by the template 'total and deterministic' (their statements: YtpjcdppeieakhaaDoorTotals.lean).
  GIVEN WITH THE SEED: the statements are not yours to turn. If you find one false, say at which input.
  Laid BY PROGRAM, IN A SANDBOX (cutbox-rows.mjs): the forced cells as the released guide's own fill.sh prints them over the translation 32140cb313473f68… (all of the seat's roots in one cut). By AI agents, Wed Nov 11 2026. No macro, syntax, notation, axiom, sorry.
-/
import Derived.Test.YtpjcdppeieakhaaDoorChecked
import GoSem.Claim
import GoSem.ClaimJoined
import GoSem.ClaimMapViews
import Derived.JoinedTies
import Derived.KernelRfl
namespace Go.Proofs.YtpjcdppeieakhaaDoor
/- THE CELL 'sum', in the pinned program and in every row, IS THE sha256 OF THE DUMP (.gsa) THAT YtpjcdppeieakhaaDoorProg.lean LOADS. Nothing in Lean hashes anything: it is a label: what it is worth is what the hold of that sum in a sandbox is worth. -/
noncomputable def Tryd.pinned : Pinned := { name := "ytpjcdppeieakhaadoor", sum := "32140cb313473f688f6ca09f021c79a8166af9c8c6790fbb46bd4c1caa0386aa", checked := Tryd.checked }
namespace Rows
def none {H : Type} : Left H := { results := [], args := [] }

/- WHAT THE LISTED PACKAGE-LEVEL VARIABLES READ AS WHEN THE CALL BEGINS. Each datum BY PROGRAM (the guide's laid-datum.mjs) off the statement by which the dump's own 'gosem.cut.vars' lays the variable. In a bare row this is a premise. The card (YtpjcdppeieakhaaDoorCards.lean) ties it to the program's text. -/
def laid_math_bits_deBruijn32tab {H : Type} : DataW H := .agg [.lit (.int .u8 0), .lit (.int .u8 1), .lit (.int .u8 28), .lit (.int .u8 2), .lit (.int .u8 29), .lit (.int .u8 14), .lit (.int .u8 24), .lit (.int .u8 3), .lit (.int .u8 30), .lit (.int .u8 22), .lit (.int .u8 20), .lit (.int .u8 15), .lit (.int .u8 25), .lit (.int .u8 17), .lit (.int .u8 4), .lit (.int .u8 8), .lit (.int .u8 31), .lit (.int .u8 27), .lit (.int .u8 13), .lit (.int .u8 23), .lit (.int .u8 21), .lit (.int .u8 19), .lit (.int .u8 16), .lit (.int .u8 7), .lit (.int .u8 26), .lit (.int .u8 12), .lit (.int .u8 18), .lit (.int .u8 6), .lit (.int .u8 11), .lit (.int .u8 5), .lit (.int .u8 10), .lit (.int .u8 9)]
def laid_math_bits_deBruijn64tab {H : Type} : DataW H := .agg [.lit (.int .u8 0), .lit (.int .u8 1), .lit (.int .u8 56), .lit (.int .u8 2), .lit (.int .u8 57), .lit (.int .u8 49), .lit (.int .u8 28), .lit (.int .u8 3), .lit (.int .u8 61), .lit (.int .u8 58), .lit (.int .u8 42), .lit (.int .u8 50), .lit (.int .u8 38), .lit (.int .u8 29), .lit (.int .u8 17), .lit (.int .u8 4), .lit (.int .u8 62), .lit (.int .u8 47), .lit (.int .u8 59), .lit (.int .u8 36), .lit (.int .u8 45), .lit (.int .u8 43), .lit (.int .u8 51), .lit (.int .u8 22), .lit (.int .u8 53), .lit (.int .u8 39), .lit (.int .u8 33), .lit (.int .u8 30), .lit (.int .u8 24), .lit (.int .u8 18), .lit (.int .u8 12), .lit (.int .u8 5), .lit (.int .u8 63), .lit (.int .u8 55), .lit (.int .u8 48), .lit (.int .u8 27), .lit (.int .u8 60), .lit (.int .u8 41), .lit (.int .u8 37), .lit (.int .u8 16), .lit (.int .u8 46), .lit (.int .u8 35), .lit (.int .u8 44), .lit (.int .u8 21), .lit (.int .u8 52), .lit (.int .u8 32), .lit (.int .u8 23), .lit (.int .u8 11), .lit (.int .u8 54), .lit (.int .u8 26), .lit (.int .u8 40), .lit (.int .u8 15), .lit (.int .u8 34), .lit (.int .u8 20), .lit (.int .u8 31), .lit (.int .u8 10), .lit (.int .u8 25), .lit (.int .u8 14), .lit (.int .u8 19), .lit (.int .u8 9), .lit (.int .u8 13), .lit (.int .u8 8), .lit (.int .u8 7), .lit (.int .u8 6)]
def laid_internal_strconv_uint64pow10 {H : Type} : DataW H := .agg [.lit (.int .u64 1), .lit (.int .u64 10), .lit (.int .u64 100), .lit (.int .u64 1000), .lit (.int .u64 10000), .lit (.int .u64 100000), .lit (.int .u64 1000000), .lit (.int .u64 10000000), .lit (.int .u64 100000000), .lit (.int .u64 1000000000), .lit (.int .u64 10000000000), .lit (.int .u64 100000000000), .lit (.int .u64 1000000000000), .lit (.int .u64 10000000000000), .lit (.int .u64 100000000000000), .lit (.int .u64 1000000000000000), .lit (.int .u64 10000000000000000), .lit (.int .u64 100000000000000000), .lit (.int .u64 1000000000000000000), .lit (.int .u64 10000000000000000000)]
def laid_loop_example_g00969_impl_shaInitial {H : Type} : DataW H := .agg [.lit (.int .u32 1779033703), .lit (.int .u32 3144134277), .lit (.int .u32 1013904242), .lit (.int .u32 2773480762), .lit (.int .u32 1359893119), .lit (.int .u32 2600822924), .lit (.int .u32 528734635), .lit (.int .u32 1541459225)]
def laid_loop_example_g00969_impl_shaConstants {H : Type} : DataW H := .agg [.lit (.int .u32 1116352408), .lit (.int .u32 1899447441), .lit (.int .u32 3049323471), .lit (.int .u32 3921009573), .lit (.int .u32 961987163), .lit (.int .u32 1508970993), .lit (.int .u32 2453635748), .lit (.int .u32 2870763221), .lit (.int .u32 3624381080), .lit (.int .u32 310598401), .lit (.int .u32 607225278), .lit (.int .u32 1426881987), .lit (.int .u32 1925078388), .lit (.int .u32 2162078206), .lit (.int .u32 2614888103), .lit (.int .u32 3248222580), .lit (.int .u32 3835390401), .lit (.int .u32 4022224774), .lit (.int .u32 264347078), .lit (.int .u32 604807628), .lit (.int .u32 770255983), .lit (.int .u32 1249150122), .lit (.int .u32 1555081692), .lit (.int .u32 1996064986), .lit (.int .u32 2554220882), .lit (.int .u32 2821834349), .lit (.int .u32 2952996808), .lit (.int .u32 3210313671), .lit (.int .u32 3336571891), .lit (.int .u32 3584528711), .lit (.int .u32 113926993), .lit (.int .u32 338241895), .lit (.int .u32 666307205), .lit (.int .u32 773529912), .lit (.int .u32 1294757372), .lit (.int .u32 1396182291), .lit (.int .u32 1695183700), .lit (.int .u32 1986661051), .lit (.int .u32 2177026350), .lit (.int .u32 2456956037), .lit (.int .u32 2730485921), .lit (.int .u32 2820302411), .lit (.int .u32 3259730800), .lit (.int .u32 3345764771), .lit (.int .u32 3516065817), .lit (.int .u32 3600352804), .lit (.int .u32 4094571909), .lit (.int .u32 275423344), .lit (.int .u32 430227734), .lit (.int .u32 506948616), .lit (.int .u32 659060556), .lit (.int .u32 883997877), .lit (.int .u32 958139571), .lit (.int .u32 1322822218), .lit (.int .u32 1537002063), .lit (.int .u32 1747873779), .lit (.int .u32 1955562222), .lit (.int .u32 2024104815), .lit (.int .u32 2227730452), .lit (.int .u32 2361852424), .lit (.int .u32 2428436474), .lit (.int .u32 2756734187), .lit (.int .u32 3204031479), .lit (.int .u32 3329325298)]

/-- 'laws.FnKeys': WHATEVER THE INPUT: true; the input reads as it did. -/
def fnKeysSpec : ChangeSpec := { name := "fnKeys", vars := ["loop.example/g00969/impl.shaInitial", "loop.example/g00969/impl.shaConstants"], fn := fun _ => fun
  | [d, g1, g2] => { results := [.lit (.bool true)], args := [d], vars := [g1, g2] }
  | _ => none }
def fnKeysRow : OpenClaim := { program := "ytpjcdppeieakhaadoor", sum := "32140cb313473f688f6ca09f021c79a8166af9c8c6790fbb46bd4c1caa0386aa", func := "loop.example/g00969/laws.FnKeys", spec := "fnKeys", inPlace := ["internal/abi.NoEscape", "internal/bytealg.MakeNoZero"], named := ["internal/strconv.uint64pow10", "math/bits.deBruijn32tab", "math/bits.deBruijn64tab", "loop.example/g00969/impl.shaInitial", "loop.example/g00969/impl.shaConstants"], apart := false, laid := [("math/bits.deBruijn32tab", laid_math_bits_deBruijn32tab), ("math/bits.deBruijn64tab", laid_math_bits_deBruijn64tab), ("internal/strconv.uint64pow10", laid_internal_strconv_uint64pow10), ("loop.example/g00969/impl.shaInitial", laid_loop_example_g00969_impl_shaInitial), ("loop.example/g00969/impl.shaConstants", laid_loop_example_g00969_impl_shaConstants)] }
def FnKeysSaid : Prop := fnKeysRow.holds Tryd.pinned (OpenSpec.ofChange fnKeysSpec)

/-- ITS FALSE NEIGHBOUR: 'it returns false'. Refute it at one input. -/
def fnKeysWrong : ChangeSpec := { name := "fnKeys", vars := ["loop.example/g00969/impl.shaInitial", "loop.example/g00969/impl.shaConstants"], fn := fun _ => fun
  | [d, g1, g2] => { results := [.lit (.bool false)], args := [d], vars := [g1, g2] }
  | _ => none }
def FnKeysWrongFalsely : Prop := fnKeysRow.holds Tryd.pinned (OpenSpec.ofChange fnKeysWrong)

/-- 'laws.FnExactSecretOf': WHATEVER THE INPUT: true; the input reads as it did. -/
def fnExactSecretOfSpec : ChangeSpec := { name := "fnExactSecretOf", vars := ["loop.example/g00969/impl.shaInitial", "loop.example/g00969/impl.shaConstants"], fn := fun _ => fun
  | [d, g1, g2] => { results := [.lit (.bool true)], args := [d], vars := [g1, g2] }
  | _ => none }
def fnExactSecretOfRow : OpenClaim := { program := "ytpjcdppeieakhaadoor", sum := "32140cb313473f688f6ca09f021c79a8166af9c8c6790fbb46bd4c1caa0386aa", func := "loop.example/g00969/laws.FnExactSecretOf", spec := "fnExactSecretOf", named := ["internal/strconv.uint64pow10", "math/bits.deBruijn32tab", "math/bits.deBruijn64tab", "loop.example/g00969/impl.shaInitial", "loop.example/g00969/impl.shaConstants"], apart := false, laid := [("math/bits.deBruijn32tab", laid_math_bits_deBruijn32tab), ("math/bits.deBruijn64tab", laid_math_bits_deBruijn64tab), ("internal/strconv.uint64pow10", laid_internal_strconv_uint64pow10), ("loop.example/g00969/impl.shaInitial", laid_loop_example_g00969_impl_shaInitial), ("loop.example/g00969/impl.shaConstants", laid_loop_example_g00969_impl_shaConstants)] }
def FnExactSecretOfSaid : Prop := fnExactSecretOfRow.holds Tryd.pinned (OpenSpec.ofChange fnExactSecretOfSpec)

/-- ITS FALSE NEIGHBOUR: 'it returns false'. Refute it at one input. -/
def fnExactSecretOfWrong : ChangeSpec := { name := "fnExactSecretOf", vars := ["loop.example/g00969/impl.shaInitial", "loop.example/g00969/impl.shaConstants"], fn := fun _ => fun
  | [d, g1, g2] => { results := [.lit (.bool false)], args := [d], vars := [g1, g2] }
  | _ => none }
def FnExactSecretOfWrongFalsely : Prop := fnExactSecretOfRow.holds Tryd.pinned (OpenSpec.ofChange fnExactSecretOfWrong)

/-- 'laws.FnExactFileKey': WHATEVER THE INPUT: true; the input reads as it did. -/
def fnExactFileKeySpec : ChangeSpec := { name := "fnExactFileKey", vars := ["loop.example/g00969/impl.shaInitial", "loop.example/g00969/impl.shaConstants"], fn := fun _ => fun
  | [d1, d2, d3, g1, g2] => { results := [.lit (.bool true)], args := [d1, d2, d3], vars := [g1, g2] }
  | _ => none }
def fnExactFileKeyRow : OpenClaim := { program := "ytpjcdppeieakhaadoor", sum := "32140cb313473f688f6ca09f021c79a8166af9c8c6790fbb46bd4c1caa0386aa", func := "loop.example/g00969/laws.FnExactFileKey", spec := "fnExactFileKey", inPlace := ["internal/abi.NoEscape", "internal/bytealg.MakeNoZero"], named := ["loop.example/g00969/impl.shaInitial", "loop.example/g00969/impl.shaConstants"], apart := false, laid := [("loop.example/g00969/impl.shaInitial", laid_loop_example_g00969_impl_shaInitial), ("loop.example/g00969/impl.shaConstants", laid_loop_example_g00969_impl_shaConstants)] }
def FnExactFileKeySaid : Prop := fnExactFileKeyRow.holds Tryd.pinned (OpenSpec.ofChange fnExactFileKeySpec)

/-- ITS FALSE NEIGHBOUR: 'it returns false'. Refute it at one input. -/
def fnExactFileKeyWrong : ChangeSpec := { name := "fnExactFileKey", vars := ["loop.example/g00969/impl.shaInitial", "loop.example/g00969/impl.shaConstants"], fn := fun _ => fun
  | [d1, d2, d3, g1, g2] => { results := [.lit (.bool false)], args := [d1, d2, d3], vars := [g1, g2] }
  | _ => none }
def FnExactFileKeyWrongFalsely : Prop := fnExactFileKeyRow.holds Tryd.pinned (OpenSpec.ofChange fnExactFileKeyWrong)

/-- 'laws.FnExactWrapMask': WHATEVER THE INPUT: true; the input reads as it did. -/
def fnExactWrapMaskSpec : ChangeSpec := { name := "fnExactWrapMask", vars := ["loop.example/g00969/impl.shaInitial", "loop.example/g00969/impl.shaConstants"], fn := fun _ => fun
  | [d1, d2, d3, g1, g2] => { results := [.lit (.bool true)], args := [d1, d2, d3], vars := [g1, g2] }
  | _ => none }
def fnExactWrapMaskRow : OpenClaim := { program := "ytpjcdppeieakhaadoor", sum := "32140cb313473f688f6ca09f021c79a8166af9c8c6790fbb46bd4c1caa0386aa", func := "loop.example/g00969/laws.FnExactWrapMask", spec := "fnExactWrapMask", inPlace := ["internal/abi.NoEscape", "internal/bytealg.MakeNoZero"], named := ["loop.example/g00969/impl.shaInitial", "loop.example/g00969/impl.shaConstants"], apart := false, laid := [("loop.example/g00969/impl.shaInitial", laid_loop_example_g00969_impl_shaInitial), ("loop.example/g00969/impl.shaConstants", laid_loop_example_g00969_impl_shaConstants)] }
def FnExactWrapMaskSaid : Prop := fnExactWrapMaskRow.holds Tryd.pinned (OpenSpec.ofChange fnExactWrapMaskSpec)

/-- ITS FALSE NEIGHBOUR: 'it returns false'. Refute it at one input. -/
def fnExactWrapMaskWrong : ChangeSpec := { name := "fnExactWrapMask", vars := ["loop.example/g00969/impl.shaInitial", "loop.example/g00969/impl.shaConstants"], fn := fun _ => fun
  | [d1, d2, d3, g1, g2] => { results := [.lit (.bool false)], args := [d1, d2, d3], vars := [g1, g2] }
  | _ => none }
def FnExactWrapMaskWrongFalsely : Prop := fnExactWrapMaskRow.holds Tryd.pinned (OpenSpec.ofChange fnExactWrapMaskWrong)

/-- 'laws.FnExactWrapped': WHATEVER THE INPUT: true; the input reads as it did. -/
def fnExactWrappedSpec : ChangeSpec := { name := "fnExactWrapped", vars := ["loop.example/g00969/impl.shaInitial", "loop.example/g00969/impl.shaConstants"], fn := fun _ => fun
  | [d1, d2, d3, g1, g2] => { results := [.lit (.bool true)], args := [d1, d2, d3], vars := [g1, g2] }
  | _ => none }
def fnExactWrappedRow : OpenClaim := { program := "ytpjcdppeieakhaadoor", sum := "32140cb313473f688f6ca09f021c79a8166af9c8c6790fbb46bd4c1caa0386aa", func := "loop.example/g00969/laws.FnExactWrapped", spec := "fnExactWrapped", inPlace := ["internal/abi.NoEscape", "internal/bytealg.MakeNoZero"], named := ["loop.example/g00969/impl.shaInitial", "loop.example/g00969/impl.shaConstants"], apart := false, laid := [("loop.example/g00969/impl.shaInitial", laid_loop_example_g00969_impl_shaInitial), ("loop.example/g00969/impl.shaConstants", laid_loop_example_g00969_impl_shaConstants)] }
def FnExactWrappedSaid : Prop := fnExactWrappedRow.holds Tryd.pinned (OpenSpec.ofChange fnExactWrappedSpec)

/-- ITS FALSE NEIGHBOUR: 'it returns false'. Refute it at one input. -/
def fnExactWrappedWrong : ChangeSpec := { name := "fnExactWrapped", vars := ["loop.example/g00969/impl.shaInitial", "loop.example/g00969/impl.shaConstants"], fn := fun _ => fun
  | [d1, d2, d3, g1, g2] => { results := [.lit (.bool false)], args := [d1, d2, d3], vars := [g1, g2] }
  | _ => none }
def FnExactWrappedWrongFalsely : Prop := fnExactWrappedRow.holds Tryd.pinned (OpenSpec.ofChange fnExactWrappedWrong)

/-- 'laws.FnExactUnwrapped': WHATEVER THE INPUT: true; the input reads as it did. -/
def fnExactUnwrappedSpec : ChangeSpec := { name := "fnExactUnwrapped", vars := ["loop.example/g00969/impl.shaInitial", "loop.example/g00969/impl.shaConstants"], fn := fun _ => fun
  | [d1, d2, d3, d4, g1, g2] => { results := [.lit (.bool true)], args := [d1, d2, d3, d4], vars := [g1, g2] }
  | _ => none }
def fnExactUnwrappedRow : OpenClaim := { program := "ytpjcdppeieakhaadoor", sum := "32140cb313473f688f6ca09f021c79a8166af9c8c6790fbb46bd4c1caa0386aa", func := "loop.example/g00969/laws.FnExactUnwrapped", spec := "fnExactUnwrapped", inPlace := ["internal/abi.NoEscape", "internal/bytealg.MakeNoZero"], named := ["loop.example/g00969/impl.shaInitial", "loop.example/g00969/impl.shaConstants"], apart := false, laid := [("loop.example/g00969/impl.shaInitial", laid_loop_example_g00969_impl_shaInitial), ("loop.example/g00969/impl.shaConstants", laid_loop_example_g00969_impl_shaConstants)] }
def FnExactUnwrappedSaid : Prop := fnExactUnwrappedRow.holds Tryd.pinned (OpenSpec.ofChange fnExactUnwrappedSpec)

/-- ITS FALSE NEIGHBOUR: 'it returns false'. Refute it at one input. -/
def fnExactUnwrappedWrong : ChangeSpec := { name := "fnExactUnwrapped", vars := ["loop.example/g00969/impl.shaInitial", "loop.example/g00969/impl.shaConstants"], fn := fun _ => fun
  | [d1, d2, d3, d4, g1, g2] => { results := [.lit (.bool false)], args := [d1, d2, d3, d4], vars := [g1, g2] }
  | _ => none }
def FnExactUnwrappedWrongFalsely : Prop := fnExactUnwrappedRow.holds Tryd.pinned (OpenSpec.ofChange fnExactUnwrappedWrong)

/-- 'laws.FnExactPageKey': WHATEVER THE INPUT: true; the input reads as it did. -/
def fnExactPageKeySpec : ChangeSpec := { name := "fnExactPageKey", vars := ["loop.example/g00969/impl.shaInitial", "loop.example/g00969/impl.shaConstants"], fn := fun _ => fun
  | [d, g1, g2] => { results := [.lit (.bool true)], args := [d], vars := [g1, g2] }
  | _ => none }
def fnExactPageKeyRow : OpenClaim := { program := "ytpjcdppeieakhaadoor", sum := "32140cb313473f688f6ca09f021c79a8166af9c8c6790fbb46bd4c1caa0386aa", func := "loop.example/g00969/laws.FnExactPageKey", spec := "fnExactPageKey", inPlace := ["internal/abi.NoEscape", "internal/bytealg.MakeNoZero"], named := ["loop.example/g00969/impl.shaInitial", "loop.example/g00969/impl.shaConstants"], apart := false, laid := [("loop.example/g00969/impl.shaInitial", laid_loop_example_g00969_impl_shaInitial), ("loop.example/g00969/impl.shaConstants", laid_loop_example_g00969_impl_shaConstants)] }
def FnExactPageKeySaid : Prop := fnExactPageKeyRow.holds Tryd.pinned (OpenSpec.ofChange fnExactPageKeySpec)

/-- ITS FALSE NEIGHBOUR: 'it returns false'. Refute it at one input. -/
def fnExactPageKeyWrong : ChangeSpec := { name := "fnExactPageKey", vars := ["loop.example/g00969/impl.shaInitial", "loop.example/g00969/impl.shaConstants"], fn := fun _ => fun
  | [d, g1, g2] => { results := [.lit (.bool false)], args := [d], vars := [g1, g2] }
  | _ => none }
def FnExactPageKeyWrongFalsely : Prop := fnExactPageKeyRow.holds Tryd.pinned (OpenSpec.ofChange fnExactPageKeyWrong)

/-- 'laws.FnExactMarkKey': WHATEVER THE INPUT: true; the input reads as it did. -/
def fnExactMarkKeySpec : ChangeSpec := { name := "fnExactMarkKey", vars := ["loop.example/g00969/impl.shaInitial", "loop.example/g00969/impl.shaConstants"], fn := fun _ => fun
  | [d, g1, g2] => { results := [.lit (.bool true)], args := [d], vars := [g1, g2] }
  | _ => none }
def fnExactMarkKeyRow : OpenClaim := { program := "ytpjcdppeieakhaadoor", sum := "32140cb313473f688f6ca09f021c79a8166af9c8c6790fbb46bd4c1caa0386aa", func := "loop.example/g00969/laws.FnExactMarkKey", spec := "fnExactMarkKey", inPlace := ["internal/abi.NoEscape", "internal/bytealg.MakeNoZero"], named := ["loop.example/g00969/impl.shaInitial", "loop.example/g00969/impl.shaConstants"], apart := false, laid := [("loop.example/g00969/impl.shaInitial", laid_loop_example_g00969_impl_shaInitial), ("loop.example/g00969/impl.shaConstants", laid_loop_example_g00969_impl_shaConstants)] }
def FnExactMarkKeySaid : Prop := fnExactMarkKeyRow.holds Tryd.pinned (OpenSpec.ofChange fnExactMarkKeySpec)

/-- ITS FALSE NEIGHBOUR: 'it returns false'. Refute it at one input. -/
def fnExactMarkKeyWrong : ChangeSpec := { name := "fnExactMarkKey", vars := ["loop.example/g00969/impl.shaInitial", "loop.example/g00969/impl.shaConstants"], fn := fun _ => fun
  | [d, g1, g2] => { results := [.lit (.bool false)], args := [d], vars := [g1, g2] }
  | _ => none }
def FnExactMarkKeyWrongFalsely : Prop := fnExactMarkKeyRow.holds Tryd.pinned (OpenSpec.ofChange fnExactMarkKeyWrong)

/- THE SECOND FORM. 'bulk': how many values and letters a reading holds, each counted each time it is reached (what is shared counts as often as it is met; a slice's spare places count too). A statement '..UptoSaid' is the law's where the arguments, and the package variables that the reading takes, are together of bulk at most 1048576: NARROWER than '..Said'. Prove '..Said' where nothing that the law and all that it calls make is longer than what came in: it says more and counts as full. Else prove '..UptoSaid'. A law counts once. -/
mutual
def uptoBulk {H : Type} : DataW H → Nat
  | .lit (.string bytes) => bytes.length + 1
  | .lit _ => 1
  | .nil => 1
  | .ptr d => uptoBulk d + 1
  | .slice elems spare => uptoBulkAll elems + uptoBulkAll spare + 1
  | .agg parts => uptoBulkAll parts + 1
  | .iface _ d => uptoBulk d + 1
  | .map entries => uptoBulkEntries entries + 1
  | .held _ => 1
def uptoBulkAll {H : Type} : List (DataW H) → Nat
  | [] => 0
  | d :: r => uptoBulk d + uptoBulkAll r
def uptoBulkEntries {H : Type} : List (Lit × DataW H) → Nat
  | [] => 0
  | x :: r => uptoBulkEntry x + uptoBulkEntries r
def uptoBulkEntry {H : Type} : Lit × DataW H → Nat
  | (.string bytes, d) => bytes.length + uptoBulk d + 1
  | (_, d) => uptoBulk d + 1
 end
def uptoSmall : (H : Type) → List (DataW H) → Bool := fun _ ds => decide (uptoBulkAll ds ≤ 1048576)
def OpenSpec.upto (s : _root_.Go.ChangeSpec) : _root_.Go.OpenSpec := { _root_.Go.OpenSpec.ofChange s with cond := some uptoSmall }

/-- 'laws.FnKeys', WHERE WHAT IT READS IS OF BULK AT MOST 1048576: true; the input reads as it did. -/
def fnKeysUptoRow : OpenClaim := { program := "ytpjcdppeieakhaadoor", sum := "32140cb313473f688f6ca09f021c79a8166af9c8c6790fbb46bd4c1caa0386aa", func := "loop.example/g00969/laws.FnKeys", spec := "fnKeys", inPlace := ["internal/abi.NoEscape", "internal/bytealg.MakeNoZero"], named := ["internal/strconv.uint64pow10", "math/bits.deBruijn32tab", "math/bits.deBruijn64tab", "loop.example/g00969/impl.shaInitial", "loop.example/g00969/impl.shaConstants"], apart := false, laid := [("math/bits.deBruijn32tab", laid_math_bits_deBruijn32tab), ("math/bits.deBruijn64tab", laid_math_bits_deBruijn64tab), ("internal/strconv.uint64pow10", laid_internal_strconv_uint64pow10), ("loop.example/g00969/impl.shaInitial", laid_loop_example_g00969_impl_shaInitial), ("loop.example/g00969/impl.shaConstants", laid_loop_example_g00969_impl_shaConstants)], narrowed := true }
def FnKeysUptoSaid : Prop := fnKeysUptoRow.holds Tryd.pinned (OpenSpec.upto fnKeysSpec)

/-- 'laws.FnExactSecretOf', WHERE WHAT IT READS IS OF BULK AT MOST 1048576: true; the input reads as it did. -/
def fnExactSecretOfUptoRow : OpenClaim := { program := "ytpjcdppeieakhaadoor", sum := "32140cb313473f688f6ca09f021c79a8166af9c8c6790fbb46bd4c1caa0386aa", func := "loop.example/g00969/laws.FnExactSecretOf", spec := "fnExactSecretOf", named := ["internal/strconv.uint64pow10", "math/bits.deBruijn32tab", "math/bits.deBruijn64tab", "loop.example/g00969/impl.shaInitial", "loop.example/g00969/impl.shaConstants"], apart := false, laid := [("math/bits.deBruijn32tab", laid_math_bits_deBruijn32tab), ("math/bits.deBruijn64tab", laid_math_bits_deBruijn64tab), ("internal/strconv.uint64pow10", laid_internal_strconv_uint64pow10), ("loop.example/g00969/impl.shaInitial", laid_loop_example_g00969_impl_shaInitial), ("loop.example/g00969/impl.shaConstants", laid_loop_example_g00969_impl_shaConstants)], narrowed := true }
def FnExactSecretOfUptoSaid : Prop := fnExactSecretOfUptoRow.holds Tryd.pinned (OpenSpec.upto fnExactSecretOfSpec)

/-- 'laws.FnExactFileKey', WHERE WHAT IT READS IS OF BULK AT MOST 1048576: true; the input reads as it did. -/
def fnExactFileKeyUptoRow : OpenClaim := { program := "ytpjcdppeieakhaadoor", sum := "32140cb313473f688f6ca09f021c79a8166af9c8c6790fbb46bd4c1caa0386aa", func := "loop.example/g00969/laws.FnExactFileKey", spec := "fnExactFileKey", inPlace := ["internal/abi.NoEscape", "internal/bytealg.MakeNoZero"], named := ["loop.example/g00969/impl.shaInitial", "loop.example/g00969/impl.shaConstants"], apart := false, laid := [("loop.example/g00969/impl.shaInitial", laid_loop_example_g00969_impl_shaInitial), ("loop.example/g00969/impl.shaConstants", laid_loop_example_g00969_impl_shaConstants)], narrowed := true }
def FnExactFileKeyUptoSaid : Prop := fnExactFileKeyUptoRow.holds Tryd.pinned (OpenSpec.upto fnExactFileKeySpec)

/-- 'laws.FnExactWrapMask', WHERE WHAT IT READS IS OF BULK AT MOST 1048576: true; the input reads as it did. -/
def fnExactWrapMaskUptoRow : OpenClaim := { program := "ytpjcdppeieakhaadoor", sum := "32140cb313473f688f6ca09f021c79a8166af9c8c6790fbb46bd4c1caa0386aa", func := "loop.example/g00969/laws.FnExactWrapMask", spec := "fnExactWrapMask", inPlace := ["internal/abi.NoEscape", "internal/bytealg.MakeNoZero"], named := ["loop.example/g00969/impl.shaInitial", "loop.example/g00969/impl.shaConstants"], apart := false, laid := [("loop.example/g00969/impl.shaInitial", laid_loop_example_g00969_impl_shaInitial), ("loop.example/g00969/impl.shaConstants", laid_loop_example_g00969_impl_shaConstants)], narrowed := true }
def FnExactWrapMaskUptoSaid : Prop := fnExactWrapMaskUptoRow.holds Tryd.pinned (OpenSpec.upto fnExactWrapMaskSpec)

/-- 'laws.FnExactWrapped', WHERE WHAT IT READS IS OF BULK AT MOST 1048576: true; the input reads as it did. -/
def fnExactWrappedUptoRow : OpenClaim := { program := "ytpjcdppeieakhaadoor", sum := "32140cb313473f688f6ca09f021c79a8166af9c8c6790fbb46bd4c1caa0386aa", func := "loop.example/g00969/laws.FnExactWrapped", spec := "fnExactWrapped", inPlace := ["internal/abi.NoEscape", "internal/bytealg.MakeNoZero"], named := ["loop.example/g00969/impl.shaInitial", "loop.example/g00969/impl.shaConstants"], apart := false, laid := [("loop.example/g00969/impl.shaInitial", laid_loop_example_g00969_impl_shaInitial), ("loop.example/g00969/impl.shaConstants", laid_loop_example_g00969_impl_shaConstants)], narrowed := true }
def FnExactWrappedUptoSaid : Prop := fnExactWrappedUptoRow.holds Tryd.pinned (OpenSpec.upto fnExactWrappedSpec)

/-- 'laws.FnExactUnwrapped', WHERE WHAT IT READS IS OF BULK AT MOST 1048576: true; the input reads as it did. -/
def fnExactUnwrappedUptoRow : OpenClaim := { program := "ytpjcdppeieakhaadoor", sum := "32140cb313473f688f6ca09f021c79a8166af9c8c6790fbb46bd4c1caa0386aa", func := "loop.example/g00969/laws.FnExactUnwrapped", spec := "fnExactUnwrapped", inPlace := ["internal/abi.NoEscape", "internal/bytealg.MakeNoZero"], named := ["loop.example/g00969/impl.shaInitial", "loop.example/g00969/impl.shaConstants"], apart := false, laid := [("loop.example/g00969/impl.shaInitial", laid_loop_example_g00969_impl_shaInitial), ("loop.example/g00969/impl.shaConstants", laid_loop_example_g00969_impl_shaConstants)], narrowed := true }
def FnExactUnwrappedUptoSaid : Prop := fnExactUnwrappedUptoRow.holds Tryd.pinned (OpenSpec.upto fnExactUnwrappedSpec)

/-- 'laws.FnExactPageKey', WHERE WHAT IT READS IS OF BULK AT MOST 1048576: true; the input reads as it did. -/
def fnExactPageKeyUptoRow : OpenClaim := { program := "ytpjcdppeieakhaadoor", sum := "32140cb313473f688f6ca09f021c79a8166af9c8c6790fbb46bd4c1caa0386aa", func := "loop.example/g00969/laws.FnExactPageKey", spec := "fnExactPageKey", inPlace := ["internal/abi.NoEscape", "internal/bytealg.MakeNoZero"], named := ["loop.example/g00969/impl.shaInitial", "loop.example/g00969/impl.shaConstants"], apart := false, laid := [("loop.example/g00969/impl.shaInitial", laid_loop_example_g00969_impl_shaInitial), ("loop.example/g00969/impl.shaConstants", laid_loop_example_g00969_impl_shaConstants)], narrowed := true }
def FnExactPageKeyUptoSaid : Prop := fnExactPageKeyUptoRow.holds Tryd.pinned (OpenSpec.upto fnExactPageKeySpec)

/-- 'laws.FnExactMarkKey', WHERE WHAT IT READS IS OF BULK AT MOST 1048576: true; the input reads as it did. -/
def fnExactMarkKeyUptoRow : OpenClaim := { program := "ytpjcdppeieakhaadoor", sum := "32140cb313473f688f6ca09f021c79a8166af9c8c6790fbb46bd4c1caa0386aa", func := "loop.example/g00969/laws.FnExactMarkKey", spec := "fnExactMarkKey", inPlace := ["internal/abi.NoEscape", "internal/bytealg.MakeNoZero"], named := ["loop.example/g00969/impl.shaInitial", "loop.example/g00969/impl.shaConstants"], apart := false, laid := [("loop.example/g00969/impl.shaInitial", laid_loop_example_g00969_impl_shaInitial), ("loop.example/g00969/impl.shaConstants", laid_loop_example_g00969_impl_shaConstants)], narrowed := true }
def FnExactMarkKeyUptoSaid : Prop := fnExactMarkKeyUptoRow.holds Tryd.pinned (OpenSpec.upto fnExactMarkKeySpec)

end Rows
end Go.Proofs.YtpjcdppeieakhaaDoor
