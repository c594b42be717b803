/- FnExactBrought: the program's Brought and the model's return the same integer, for every three integers. No condition. -/
import Derived.Test.YtlnfbddamlhifaaRows
import Derived.WalkKit
import Derived.WalkSpells
import Derived.WalkLawsBesides
import Derived.RowKit3
namespace Go.Proofs.Ytlnfbddamlhifaa
open Go.RowKit

set_option maxHeartbeats 400000 in
theorem brought_law (n l m : Int) (w : World) :
    Calls Try.prog 6 #[.int .i64 n, .int .i64 l, .int .i64 m] w fun e w' => e = .returned (.bool true) ∧ Grown w w' := by
  by_cases h1 : m < l <;> by_cases h2 : m < n <;> by_cases h3 : n < l <;> first | omega | skip
  all_goals
    go_enter Try.func6, Try.ntmps6
    go_wp2
    all_goals go_ret
    all_goals exact ⟨rfl, by repeat (first | exact Grown.refl _ | apply Grown.drew | apply Grown.alloc)⟩
end Go.Proofs.Ytlnfbddamlhifaa
