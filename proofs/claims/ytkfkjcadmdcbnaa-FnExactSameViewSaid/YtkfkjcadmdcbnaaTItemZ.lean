/- The type Item: measured. -/
import Derived.Test.YtkfkjcadmdcbnaaTItemE
namespace Go.Proofs.Ytkfkjcadmdcbnaa
open Go.RowKit Go.Proofs.Ytkfkjcadmdcbnaa.Parts Go.Proofs.Ytkfkjcadmdcbnaa.Hexa

set_option maxRecDepth 100000 in
set_option maxHeartbeats 1000000 in
theorem szItem_st (x : ItemR) (l : Int) (w : World) (l0 : 0 ≤ l) (l1 : l ≤ 1048576) (ht : TyL (cItem.cels x)) :
    Calls Try.prog 25 #[.agg #[.string x.path, .bool x.dir, .string x.text], .int .i64 l] w (SzPost (szL (cItem.cels x)) l w) := by
  have hz := cItem_sz x
  obtain ⟨t0, t1, t2, _⟩ := ht
  have k0 : x.path.size ≤ 9223372036854775807 := Nat.le_trans t0 (by decide)
  have k2 : x.text.size ≤ 9223372036854775807 := Nat.le_trans t2 (by decide)
  clear t0 t1 t2
  have B0 := Lib.hid (below_bk w (.cells #[.string x.path, .bool x.dir, .string x.text] 44))
  have T0 := Lib.hid (Bk.alloc w #[.string x.path, .bool x.dir, .string x.text] 44)
  by_cases b0 : l - (x.path.size : Int) < 0
  · go_enter Try.func25, Try.ntmps25
    go_wp2
    go_ret
    exact ⟨-1, rfl, .inl (by omega), B0.out⟩
  by_cases b2 : l - (x.path.size : Int) - (x.text.size : Int) < 0
  · go_enter Try.func25, Try.ntmps25
    go_wp2
    go_ret
    exact ⟨-1, rfl, .inl (by omega), B0.out⟩
  go_enter Try.func25, Try.ntmps25
  go_wp2
  go_ret
  refine ⟨_, rfl, .inr ⟨by omega, ?_⟩, B0.out⟩
  first | omega | (rw [hz]; omega)

end Go.Proofs.Ytkfkjcadmdcbnaa
