/- The two tables of SHA-256, out of the card's condition. -/
import Derived.Test.YtbojcphcjggccaaDoorShaAfter
import Derived.Lib.LaidTab
namespace Go.Proofs.YtbojcphcjggccaaDoor
open Go.RowKit Go.Proofs.YtbojcphcjggccaaDoor.Sha

theorem isTab_of {P : Program} {w : World} {name : String} {g : Nat} {xs : List UInt32} (hg : P.globalNamed name = some g) (h : Lib.TabIs P w name .u32 (xs.map u)) : IsTab w g xs := by
  unfold Lib.TabIs World.var? at h
  rw [hg] at h
  simp only [Option.bind_some] at h
  have e : (List.map (fun z => Value.int IntKind.u32 z) (List.map u xs)).toArray = wcells xs := by simp [wcells]
  rw [e] at h
  split at h
  · rename_i cs t fr hh
    obtain rfl := Option.some.inj h
    exact ⟨t, fr, hh⟩
  · cases h
theorem gFirst : Tryd.prog.globalNamed "loop.example/g00969/impl.shaInitial" = some 0 := by kernel_rfl
theorem gFirstType : (Tryd.prog.globals[0]?).map (·.type) = some 45 := by kernel_rfl
theorem gKeys : Tryd.prog.globalNamed "loop.example/g00969/impl.shaConstants" = some 1 := by kernel_rfl
theorem gKeysType : (Tryd.prog.globals[1]?).map (·.type) = some 67 := by kernel_rfl
theorem datumFirst : (Rows.laid_loop_example_g00969_impl_shaInitial : DataW Unit) = Lib.tabData .u32 (firstS.list.map u) := by kernel_rfl
theorem datumKeys : (Rows.laid_loop_example_g00969_impl_shaConstants : DataW Unit) = Lib.tabData .u32 (keyL.map u) := by kernel_rfl
theorem first_of_head {W : World} {rest : List (String × DataW Unit)} (h : laidMet Tryd.prog (("loop.example/g00969/impl.shaInitial", Rows.laid_loop_example_g00969_impl_shaInitial) :: rest) W) : IsTab W 0 firstS.list := by
  rw [datumFirst] at h
  exact isTab_of gFirst (Lib.tabIs_of_head gFirst gFirstType Tryd.underlying45 Tryd.underlying43 (by kernel_rfl) (by kernel_rfl) h)
theorem keys_of_head {W : World} {rest : List (String × DataW Unit)} (h : laidMet Tryd.prog (("loop.example/g00969/impl.shaConstants", Rows.laid_loop_example_g00969_impl_shaConstants) :: rest) W) : IsTab W 1 keyL := by
  rw [datumKeys] at h
  exact isTab_of gKeys (Lib.tabIs_of_head gKeys gKeysType Tryd.underlying67 Tryd.underlying43 (by kernel_rfl) (by kernel_rfl) h)
end Go.Proofs.YtbojcphcjggccaaDoor
