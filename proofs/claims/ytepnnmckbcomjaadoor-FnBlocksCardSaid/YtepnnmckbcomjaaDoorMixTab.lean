/- The table of the factors, out of the card's condition. -/
import Derived.Test.YtepnnmckbcomjaaDoorMixImpl
import Derived.Lib.LaidTab
namespace Go.Proofs.YtepnnmckbcomjaaDoor
open Go.RowKit

theorem gMix : Tryd.prog.globalNamed "loop.example/g00969/impl.mixFactors" = some 0 := by kernel_rfl
theorem gMixType : (Tryd.prog.globals[0]?).map (·.type) = some 47 := by kernel_rfl
theorem datumMix : (Rows.laid_loop_example_g00969_impl_mixFactors : DataW Unit) = Lib.tabData .i64 [2, 3, 1, 1] := by kernel_rfl
theorem mixTab_of {w : World} (h : Lib.TabIs Tryd.prog w "loop.example/g00969/impl.mixFactors" .i64 [2, 3, 1, 1]) : MixTab w := by
  unfold Lib.TabIs World.var? at h
  rw [gMix] at h
  simp only [Option.bind_some] at h
  split at h
  · rename_i cs t fr hh
    obtain rfl := Option.some.inj h
    exact ⟨t, fr, hh⟩
  · cases h
theorem mix_of_head {W : World} {rest : List (String × DataW Unit)} (h : laidMet Tryd.prog (("loop.example/g00969/impl.mixFactors", Rows.laid_loop_example_g00969_impl_mixFactors) :: rest) W) : MixTab W := by
  rw [datumMix] at h
  exact mixTab_of (Lib.tabIs_of_head gMix gMixType Tryd.underlying47 Tryd.underlying3 (by kernel_rfl) (by kernel_rfl) h)
end Go.Proofs.YtepnnmckbcomjaaDoor
