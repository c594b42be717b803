/- The six exact laws of chapter 4, and FnXor: their walks over the program. -/
import Derived.Test.YtenjaedhkleooaaNumImplB
import Derived.Test.YtenjaedhkleooaaReadImpl
import Derived.Test.YtenjaedhkleooaaWordsImpl
import Derived.Test.YtenjaedhkleooaaCh4Law
import Derived.Test.YtenjaedhkleooaaWordsLaw
import Derived.Test.YtenjaedhkleooaaXorLaw
namespace Go.Proofs.Ytenjaedhkleooaa
open Go.RowKit

theorem zero_law (n : Int) (w : World) :
    Calls Try.prog 9 #[.int .i64 n] w fun e w' => e = .returned (.bool true) ∧ Below w.heap.size w w' :=
  zero_law_of n w fun w => implZero_any n w
theorem word_law (s : ByteArray) (w : World) :
    Calls Try.prog 6 #[.string s] w fun e w' => e = .returned (.bool true) ∧ Below w.heap.size w w' :=
  word_law_of s w fun _ w => implWord_any s w
theorem xor_law (a b : ByteArray) (w : World) :
    Calls Try.prog 7 #[.string a, .string b] w fun e w' => e = .returned (.bool true) ∧ Below w.heap.size w w' :=
  xor_law_of a b w fun ha _ w => implXor_any a b w (by omega)
theorem num_law (n width : Int) (w : World) (hn : n ≤ 9223372036854775807) :
    Calls Try.prog 4 #[.int .i64 n, .int .i64 width] w fun e w' => e = .returned (.bool true) ∧ Below w.heap.size w w' :=
  num_law_of n width w hn fun w => implNum_any n width w hn
theorem numAt_law (s : ByteArray) (a width : Int) (w : World) (h0 : -9223372036854775808 ≤ width) (h1 : width ≤ 9223372036854775807) :
    Calls Try.prog 5 #[.string s, .int .i64 a, .int .i64 width] w fun e w' => e = .returned (.bool true) ∧ Below w.heap.size w w' :=
  numAt_law_of s a width w h0 h1 fun hs w => implNumAt_any s a width w (by omega)
theorem words_law (s : ByteArray) (w : World) :
    Calls Try.prog 8 #[.string s] w fun e w' => e = .returned (.bool true) ∧ Below w.heap.size w w' :=
  words_law_of s w (fun h w => implWords_any s w h) (fun h _ w => implWords_long s w h)
theorem fnXor_law (ad : Option Addr) (len cap : Nat) (w : World) (hs : Draw.Src w w.heap.size ad len) :
    Calls Try.prog 3 #[.slice ad len cap] w fun e w' => e = .returned (.bool true) ∧ Below w.heap.size w w' := by
  by_cases h : len ≤ 1048576
  · exact fnXor_law_of ad len cap w h hs (fun a b w ha _ => implXor_any a b w (by omega)) (fun n w _ _ => implZero_any n w)
  · exact fnXor_big ad len cap w (by omega)
end Go.Proofs.Ytenjaedhkleooaa
