/-
  No cell of these rows narrows 'for every input' (looked for: loops, veiled, ifaces, maps, wideKeys, modest, calm, conditions, laid).
  DERIVED. THE GIVEN ROWS OF THIS SEAT. 10 by the template 'for every input the law returns true; each argument reads behind the call as it read before'; 0 by the template 'total and deterministic' (their statements: YtpahihcnmpeenaaTotals.lean).
  GIVEN WITH THE SEED: the statements are not yours to turn. If you find one false, say at which input.
  Laid BY PROGRAM, IN A SANDBOX (cutbox-rows.mjs): the forced cells as the released guide's own fill.sh prints them over the translation 54fc47780de54c30… (all of the seat's roots in one cut). By AI agents, Wed Nov 11 2026. No macro, syntax, notation, axiom, sorry.
-/
import Derived.Test.YtpahihcnmpeenaaChecked
import GoSem.Claim
import GoSem.ClaimJoined
import GoSem.ClaimMapViews
import Derived.JoinedTies
import Derived.KernelRfl
namespace Go.Proofs.Ytpahihcnmpeenaa
/- THE CELL 'sum', in the pinned program and in every row, IS THE sha256 OF THE DUMP (.gsa) THAT YtpahihcnmpeenaaProg.lean LOADS. Nothing in Lean hashes anything: it is a label: what it is worth is what the hold of that sum in a sandbox is worth. -/
noncomputable def Try.pinned : Pinned := { name := "ytpahihcnmpeenaa", sum := "54fc47780de54c3079473950ae309a813a0a20c1291f5b6820ff2cf2c611a9d3", checked := Try.checked }
namespace Rows
def none {H : Type} : Left H := { results := [], args := [] }

/-- 'laws.FnStores': WHATEVER THE INPUT: true; the input reads as it did. -/
def fnStoresSpec : ChangeSpec := { name := "fnStores", fn := fun _ => fun
  | [d] => { results := [.lit (.bool true)], args := [d] }
  | _ => none }
def fnStoresRow : OpenClaim := { program := "ytpahihcnmpeenaa", sum := "54fc47780de54c3079473950ae309a813a0a20c1291f5b6820ff2cf2c611a9d3", func := "loop.example/g00969/laws.FnStores", spec := "fnStores", inPlace := ["slices.overlaps[loop.example/g00969/impl.Cell]"], unfollowed := true, recurses := true, apart := false }
def FnStoresSaid : Prop := fnStoresRow.holds Try.pinned (OpenSpec.ofChange fnStoresSpec)

/-- ITS FALSE NEIGHBOUR: 'it returns false'. Refute it at one input. -/
def fnStoresWrong : ChangeSpec := { name := "fnStores", fn := fun _ => fun
  | [d] => { results := [.lit (.bool false)], args := [d] }
  | _ => none }
def FnStoresWrongFalsely : Prop := fnStoresRow.holds Try.pinned (OpenSpec.ofChange fnStoresWrong)

/-- 'laws.FnUnsure': WHATEVER THE INPUT: true; the input reads as it did. -/
def fnUnsureSpec : ChangeSpec := { name := "fnUnsure", fn := fun _ => fun
  | [d] => { results := [.lit (.bool true)], args := [d] }
  | _ => none }
def fnUnsureRow : OpenClaim := { program := "ytpahihcnmpeenaa", sum := "54fc47780de54c3079473950ae309a813a0a20c1291f5b6820ff2cf2c611a9d3", func := "loop.example/g00969/laws.FnUnsure", spec := "fnUnsure", apart := false }
def FnUnsureSaid : Prop := fnUnsureRow.holds Try.pinned (OpenSpec.ofChange fnUnsureSpec)

/-- ITS FALSE NEIGHBOUR: 'it returns false'. Refute it at one input. -/
def fnUnsureWrong : ChangeSpec := { name := "fnUnsure", fn := fun _ => fun
  | [d] => { results := [.lit (.bool false)], args := [d] }
  | _ => none }
def FnUnsureWrongFalsely : Prop := fnUnsureRow.holds Try.pinned (OpenSpec.ofChange fnUnsureWrong)

/-- 'laws.FnExactMemoryNew': WHATEVER THE INPUT: true; the input reads as it did. -/
def fnExactMemoryNewSpec : ChangeSpec := { name := "fnExactMemoryNew", fn := fun _ => fun
  | [d] => { results := [.lit (.bool true)], args := [d] }
  | _ => none }
def fnExactMemoryNewRow : OpenClaim := { program := "ytpahihcnmpeenaa", sum := "54fc47780de54c3079473950ae309a813a0a20c1291f5b6820ff2cf2c611a9d3", func := "loop.example/g00969/laws.FnExactMemoryNew", spec := "fnExactMemoryNew", apart := false }
def FnExactMemoryNewSaid : Prop := fnExactMemoryNewRow.holds Try.pinned (OpenSpec.ofChange fnExactMemoryNewSpec)

/-- ITS FALSE NEIGHBOUR: 'it returns false'. Refute it at one input. -/
def fnExactMemoryNewWrong : ChangeSpec := { name := "fnExactMemoryNew", fn := fun _ => fun
  | [d] => { results := [.lit (.bool false)], args := [d] }
  | _ => none }
def FnExactMemoryNewWrongFalsely : Prop := fnExactMemoryNewRow.holds Try.pinned (OpenSpec.ofChange fnExactMemoryNewWrong)

/-- 'laws.FnExactMemoryOk': WHATEVER THE INPUT: true; the input reads as it did. -/
def fnExactMemoryOkSpec : ChangeSpec := { name := "fnExactMemoryOk", fn := fun _ => fun
  | [d] => { results := [.lit (.bool true)], args := [d] }
  | _ => none }
def fnExactMemoryOkRow : OpenClaim := { program := "ytpahihcnmpeenaa", sum := "54fc47780de54c3079473950ae309a813a0a20c1291f5b6820ff2cf2c611a9d3", func := "loop.example/g00969/laws.FnExactMemoryOk", spec := "fnExactMemoryOk", apart := false }
def FnExactMemoryOkSaid : Prop := fnExactMemoryOkRow.holds Try.pinned (OpenSpec.ofChange fnExactMemoryOkSpec)

/-- ITS FALSE NEIGHBOUR: 'it returns false'. Refute it at one input. -/
def fnExactMemoryOkWrong : ChangeSpec := { name := "fnExactMemoryOk", fn := fun _ => fun
  | [d] => { results := [.lit (.bool false)], args := [d] }
  | _ => none }
def FnExactMemoryOkWrongFalsely : Prop := fnExactMemoryOkRow.holds Try.pinned (OpenSpec.ofChange fnExactMemoryOkWrong)

/-- 'laws.FnExactWordAt': WHATEVER THE INPUT: true; the input reads as it did. -/
def fnExactWordAtSpec : ChangeSpec := { name := "fnExactWordAt", fn := fun _ => fun
  | [d1, d2] => { results := [.lit (.bool true)], args := [d1, d2] }
  | _ => none }
def fnExactWordAtRow : OpenClaim := { program := "ytpahihcnmpeenaa", sum := "54fc47780de54c3079473950ae309a813a0a20c1291f5b6820ff2cf2c611a9d3", func := "loop.example/g00969/laws.FnExactWordAt", spec := "fnExactWordAt", unfollowed := true, recurses := true, apart := false }
def FnExactWordAtSaid : Prop := fnExactWordAtRow.holds Try.pinned (OpenSpec.ofChange fnExactWordAtSpec)

/-- ITS FALSE NEIGHBOUR: 'it returns false'. Refute it at one input. -/
def fnExactWordAtWrong : ChangeSpec := { name := "fnExactWordAt", fn := fun _ => fun
  | [d1, d2] => { results := [.lit (.bool false)], args := [d1, d2] }
  | _ => none }
def FnExactWordAtWrongFalsely : Prop := fnExactWordAtRow.holds Try.pinned (OpenSpec.ofChange fnExactWordAtWrong)

/-- 'laws.FnExactStoreWord': WHATEVER THE INPUT: true; the input reads as it did. -/
def fnExactStoreWordSpec : ChangeSpec := { name := "fnExactStoreWord", fn := fun _ => fun
  | [d1, d2, d3] => { results := [.lit (.bool true)], args := [d1, d2, d3] }
  | _ => none }
def fnExactStoreWordRow : OpenClaim := { program := "ytpahihcnmpeenaa", sum := "54fc47780de54c3079473950ae309a813a0a20c1291f5b6820ff2cf2c611a9d3", func := "loop.example/g00969/laws.FnExactStoreWord", spec := "fnExactStoreWord", inPlace := ["slices.overlaps[loop.example/g00969/impl.Cell]"], unfollowed := true, recurses := true, apart := false }
def FnExactStoreWordSaid : Prop := fnExactStoreWordRow.holds Try.pinned (OpenSpec.ofChange fnExactStoreWordSpec)

/-- ITS FALSE NEIGHBOUR: 'it returns false'. Refute it at one input. -/
def fnExactStoreWordWrong : ChangeSpec := { name := "fnExactStoreWord", fn := fun _ => fun
  | [d1, d2, d3] => { results := [.lit (.bool false)], args := [d1, d2, d3] }
  | _ => none }
def FnExactStoreWordWrongFalsely : Prop := fnExactStoreWordRow.holds Try.pinned (OpenSpec.ofChange fnExactStoreWordWrong)

/-- 'laws.FnExactFlushLine': WHATEVER THE INPUT: true; the input reads as it did. -/
def fnExactFlushLineSpec : ChangeSpec := { name := "fnExactFlushLine", fn := fun _ => fun
  | [d1, d2] => { results := [.lit (.bool true)], args := [d1, d2] }
  | _ => none }
def fnExactFlushLineRow : OpenClaim := { program := "ytpahihcnmpeenaa", sum := "54fc47780de54c3079473950ae309a813a0a20c1291f5b6820ff2cf2c611a9d3", func := "loop.example/g00969/laws.FnExactFlushLine", spec := "fnExactFlushLine", unfollowed := true, recurses := true, apart := false }
def FnExactFlushLineSaid : Prop := fnExactFlushLineRow.holds Try.pinned (OpenSpec.ofChange fnExactFlushLineSpec)

/-- ITS FALSE NEIGHBOUR: 'it returns false'. Refute it at one input. -/
def fnExactFlushLineWrong : ChangeSpec := { name := "fnExactFlushLine", fn := fun _ => fun
  | [d1, d2] => { results := [.lit (.bool false)], args := [d1, d2] }
  | _ => none }
def FnExactFlushLineWrongFalsely : Prop := fnExactFlushLineRow.holds Try.pinned (OpenSpec.ofChange fnExactFlushLineWrong)

/-- 'laws.FnExactFence': WHATEVER THE INPUT: true; the input reads as it did. -/
def fnExactFenceSpec : ChangeSpec := { name := "fnExactFence", fn := fun _ => fun
  | [d] => { results := [.lit (.bool true)], args := [d] }
  | _ => none }
def fnExactFenceRow : OpenClaim := { program := "ytpahihcnmpeenaa", sum := "54fc47780de54c3079473950ae309a813a0a20c1291f5b6820ff2cf2c611a9d3", func := "loop.example/g00969/laws.FnExactFence", spec := "fnExactFence", apart := false }
def FnExactFenceSaid : Prop := fnExactFenceRow.holds Try.pinned (OpenSpec.ofChange fnExactFenceSpec)

/-- ITS FALSE NEIGHBOUR: 'it returns false'. Refute it at one input. -/
def fnExactFenceWrong : ChangeSpec := { name := "fnExactFence", fn := fun _ => fun
  | [d] => { results := [.lit (.bool false)], args := [d] }
  | _ => none }
def FnExactFenceWrongFalsely : Prop := fnExactFenceRow.holds Try.pinned (OpenSpec.ofChange fnExactFenceWrong)

/-- 'laws.FnExactFallenMemory': WHATEVER THE INPUT: true; the input reads as it did. -/
def fnExactFallenMemorySpec : ChangeSpec := { name := "fnExactFallenMemory", fn := fun _ => fun
  | [d1, d2] => { results := [.lit (.bool true)], args := [d1, d2] }
  | _ => none }
def fnExactFallenMemoryRow : OpenClaim := { program := "ytpahihcnmpeenaa", sum := "54fc47780de54c3079473950ae309a813a0a20c1291f5b6820ff2cf2c611a9d3", func := "loop.example/g00969/laws.FnExactFallenMemory", spec := "fnExactFallenMemory", apart := false }
def FnExactFallenMemorySaid : Prop := fnExactFallenMemoryRow.holds Try.pinned (OpenSpec.ofChange fnExactFallenMemorySpec)

/-- ITS FALSE NEIGHBOUR: 'it returns false'. Refute it at one input. -/
def fnExactFallenMemoryWrong : ChangeSpec := { name := "fnExactFallenMemory", fn := fun _ => fun
  | [d1, d2] => { results := [.lit (.bool false)], args := [d1, d2] }
  | _ => none }
def FnExactFallenMemoryWrongFalsely : Prop := fnExactFallenMemoryRow.holds Try.pinned (OpenSpec.ofChange fnExactFallenMemoryWrong)

/-- 'laws.FnExactUnsure': WHATEVER THE INPUT: true; the input reads as it did. -/
def fnExactUnsureSpec : ChangeSpec := { name := "fnExactUnsure", fn := fun _ => fun
  | [d] => { results := [.lit (.bool true)], args := [d] }
  | _ => none }
def fnExactUnsureRow : OpenClaim := { program := "ytpahihcnmpeenaa", sum := "54fc47780de54c3079473950ae309a813a0a20c1291f5b6820ff2cf2c611a9d3", func := "loop.example/g00969/laws.FnExactUnsure", spec := "fnExactUnsure", apart := false }
def FnExactUnsureSaid : Prop := fnExactUnsureRow.holds Try.pinned (OpenSpec.ofChange fnExactUnsureSpec)

/-- ITS FALSE NEIGHBOUR: 'it returns false'. Refute it at one input. -/
def fnExactUnsureWrong : ChangeSpec := { name := "fnExactUnsure", fn := fun _ => fun
  | [d] => { results := [.lit (.bool false)], args := [d] }
  | _ => none }
def FnExactUnsureWrongFalsely : Prop := fnExactUnsureRow.holds Try.pinned (OpenSpec.ofChange fnExactUnsureWrong)

/- THE SECOND FORM. 'bulk': how many values and letters a reading holds, each counted each time it is reached (what is shared counts as often as it is met; a slice's spare places count too). A statement '..UptoSaid' is the law's where the arguments, and the package variables that the reading takes, are together of bulk at most 1048576: NARROWER than '..Said'. Prove '..Said' where nothing that the law and all that it calls make is longer than what came in: it says more and counts as full. Else prove '..UptoSaid'. A law counts once. -/
mutual
def uptoBulk {H : Type} : DataW H → Nat
  | .lit (.string bytes) => bytes.length + 1
  | .lit _ => 1
  | .nil => 1
  | .ptr d => uptoBulk d + 1
  | .slice elems spare => uptoBulkAll elems + uptoBulkAll spare + 1
  | .agg parts => uptoBulkAll parts + 1
  | .iface _ d => uptoBulk d + 1
  | .map entries => uptoBulkEntries entries + 1
  | .held _ => 1
def uptoBulkAll {H : Type} : List (DataW H) → Nat
  | [] => 0
  | d :: r => uptoBulk d + uptoBulkAll r
def uptoBulkEntries {H : Type} : List (Lit × DataW H) → Nat
  | [] => 0
  | x :: r => uptoBulkEntry x + uptoBulkEntries r
def uptoBulkEntry {H : Type} : Lit × DataW H → Nat
  | (.string bytes, d) => bytes.length + uptoBulk d + 1
  | (_, d) => uptoBulk d + 1
 end
def uptoSmall : (H : Type) → List (DataW H) → Bool := fun _ ds => decide (uptoBulkAll ds ≤ 1048576)
def OpenSpec.upto (s : _root_.Go.ChangeSpec) : _root_.Go.OpenSpec := { _root_.Go.OpenSpec.ofChange s with cond := some uptoSmall }

/-- 'laws.FnStores', WHERE WHAT IT READS IS OF BULK AT MOST 1048576: true; the input reads as it did. -/
def fnStoresUptoRow : OpenClaim := { program := "ytpahihcnmpeenaa", sum := "54fc47780de54c3079473950ae309a813a0a20c1291f5b6820ff2cf2c611a9d3", func := "loop.example/g00969/laws.FnStores", spec := "fnStores", inPlace := ["slices.overlaps[loop.example/g00969/impl.Cell]"], unfollowed := true, recurses := true, apart := false, narrowed := true }
def FnStoresUptoSaid : Prop := fnStoresUptoRow.holds Try.pinned (OpenSpec.upto fnStoresSpec)

/-- 'laws.FnUnsure', WHERE WHAT IT READS IS OF BULK AT MOST 1048576: true; the input reads as it did. -/
def fnUnsureUptoRow : OpenClaim := { program := "ytpahihcnmpeenaa", sum := "54fc47780de54c3079473950ae309a813a0a20c1291f5b6820ff2cf2c611a9d3", func := "loop.example/g00969/laws.FnUnsure", spec := "fnUnsure", apart := false, narrowed := true }
def FnUnsureUptoSaid : Prop := fnUnsureUptoRow.holds Try.pinned (OpenSpec.upto fnUnsureSpec)

/-- 'laws.FnExactMemoryNew', WHERE WHAT IT READS IS OF BULK AT MOST 1048576: true; the input reads as it did. -/
def fnExactMemoryNewUptoRow : OpenClaim := { program := "ytpahihcnmpeenaa", sum := "54fc47780de54c3079473950ae309a813a0a20c1291f5b6820ff2cf2c611a9d3", func := "loop.example/g00969/laws.FnExactMemoryNew", spec := "fnExactMemoryNew", apart := false, narrowed := true }
def FnExactMemoryNewUptoSaid : Prop := fnExactMemoryNewUptoRow.holds Try.pinned (OpenSpec.upto fnExactMemoryNewSpec)

/-- 'laws.FnExactMemoryOk', WHERE WHAT IT READS IS OF BULK AT MOST 1048576: true; the input reads as it did. -/
def fnExactMemoryOkUptoRow : OpenClaim := { program := "ytpahihcnmpeenaa", sum := "54fc47780de54c3079473950ae309a813a0a20c1291f5b6820ff2cf2c611a9d3", func := "loop.example/g00969/laws.FnExactMemoryOk", spec := "fnExactMemoryOk", apart := false, narrowed := true }
def FnExactMemoryOkUptoSaid : Prop := fnExactMemoryOkUptoRow.holds Try.pinned (OpenSpec.upto fnExactMemoryOkSpec)

/-- 'laws.FnExactWordAt', WHERE WHAT IT READS IS OF BULK AT MOST 1048576: true; the input reads as it did. -/
def fnExactWordAtUptoRow : OpenClaim := { program := "ytpahihcnmpeenaa", sum := "54fc47780de54c3079473950ae309a813a0a20c1291f5b6820ff2cf2c611a9d3", func := "loop.example/g00969/laws.FnExactWordAt", spec := "fnExactWordAt", unfollowed := true, recurses := true, apart := false, narrowed := true }
def FnExactWordAtUptoSaid : Prop := fnExactWordAtUptoRow.holds Try.pinned (OpenSpec.upto fnExactWordAtSpec)

/-- 'laws.FnExactStoreWord', WHERE WHAT IT READS IS OF BULK AT MOST 1048576: true; the input reads as it did. -/
def fnExactStoreWordUptoRow : OpenClaim := { program := "ytpahihcnmpeenaa", sum := "54fc47780de54c3079473950ae309a813a0a20c1291f5b6820ff2cf2c611a9d3", func := "loop.example/g00969/laws.FnExactStoreWord", spec := "fnExactStoreWord", inPlace := ["slices.overlaps[loop.example/g00969/impl.Cell]"], unfollowed := true, recurses := true, apart := false, narrowed := true }
def FnExactStoreWordUptoSaid : Prop := fnExactStoreWordUptoRow.holds Try.pinned (OpenSpec.upto fnExactStoreWordSpec)

/-- 'laws.FnExactFlushLine', WHERE WHAT IT READS IS OF BULK AT MOST 1048576: true; the input reads as it did. -/
def fnExactFlushLineUptoRow : OpenClaim := { program := "ytpahihcnmpeenaa", sum := "54fc47780de54c3079473950ae309a813a0a20c1291f5b6820ff2cf2c611a9d3", func := "loop.example/g00969/laws.FnExactFlushLine", spec := "fnExactFlushLine", unfollowed := true, recurses := true, apart := false, narrowed := true }
def FnExactFlushLineUptoSaid : Prop := fnExactFlushLineUptoRow.holds Try.pinned (OpenSpec.upto fnExactFlushLineSpec)

/-- 'laws.FnExactFence', WHERE WHAT IT READS IS OF BULK AT MOST 1048576: true; the input reads as it did. -/
def fnExactFenceUptoRow : OpenClaim := { program := "ytpahihcnmpeenaa", sum := "54fc47780de54c3079473950ae309a813a0a20c1291f5b6820ff2cf2c611a9d3", func := "loop.example/g00969/laws.FnExactFence", spec := "fnExactFence", apart := false, narrowed := true }
def FnExactFenceUptoSaid : Prop := fnExactFenceUptoRow.holds Try.pinned (OpenSpec.upto fnExactFenceSpec)

/-- 'laws.FnExactFallenMemory', WHERE WHAT IT READS IS OF BULK AT MOST 1048576: true; the input reads as it did. -/
def fnExactFallenMemoryUptoRow : OpenClaim := { program := "ytpahihcnmpeenaa", sum := "54fc47780de54c3079473950ae309a813a0a20c1291f5b6820ff2cf2c611a9d3", func := "loop.example/g00969/laws.FnExactFallenMemory", spec := "fnExactFallenMemory", apart := false, narrowed := true }
def FnExactFallenMemoryUptoSaid : Prop := fnExactFallenMemoryUptoRow.holds Try.pinned (OpenSpec.upto fnExactFallenMemorySpec)

/-- 'laws.FnExactUnsure', WHERE WHAT IT READS IS OF BULK AT MOST 1048576: true; the input reads as it did. -/
def fnExactUnsureUptoRow : OpenClaim := { program := "ytpahihcnmpeenaa", sum := "54fc47780de54c3079473950ae309a813a0a20c1291f5b6820ff2cf2c611a9d3", func := "loop.example/g00969/laws.FnExactUnsure", spec := "fnExactUnsure", apart := false, narrowed := true }
def FnExactUnsureUptoSaid : Prop := fnExactUnsureUptoRow.holds Try.pinned (OpenSpec.upto fnExactUnsureSpec)

end Rows
end Go.Proofs.Ytpahihcnmpeenaa
