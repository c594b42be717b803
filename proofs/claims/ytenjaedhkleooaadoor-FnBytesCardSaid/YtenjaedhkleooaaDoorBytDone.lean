/- FnBytes: the law's walk over the program. -/
import Derived.Test.YtenjaedhkleooaaDoorNumImplB
import Derived.Test.YtenjaedhkleooaaDoorReadImpl
import Derived.Test.YtenjaedhkleooaaDoorWordsImpl
import Derived.Test.YtenjaedhkleooaaDoorDecImpl
import Derived.Test.YtenjaedhkleooaaDoorBytLaw
namespace Go.Proofs.YtenjaedhkleooaaDoor
open Go.RowKit

theorem bytes_law (ad : Option Addr) (len cap : Nat) (w : World) (hs : Draw.Src w w.heap.size ad len) (ht : Tab w) :
    Calls Tryd.prog 3 #[.slice ad len cap] w fun e w' => e = .returned (.bool true) ∧ Below w.heap.size w w' := by
  by_cases h : len ≤ 1048576
  · exact Fby.bytes_law_of ad len cap w h hs
      (fun n k w _ _ => implNum_any n k w (by omega))
      (fun n w' h0 h1 hb => dec_short n w' h0 h1 (ht.below hb))
      (fun s a k w hs _ _ => implNumAt_any s a k w (by omega))
      (fun s w hs => implWords_any s w (by omega))
      (fun s w _ => implWord_any s w)
  · exact Fby.bytes_big ad len cap w (by omega)
end Go.Proofs.YtenjaedhkleooaaDoor
