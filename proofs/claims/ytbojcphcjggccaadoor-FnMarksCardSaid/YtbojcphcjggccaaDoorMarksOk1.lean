/- What is asked of the drawn texts of kind 1, reckoned in 2048 lanes at once: a lane is a key. -/
import Derived.Test.YtbojcphcjggccaaDoorMarksMath
namespace Go.Proofs.YtbojcphcjggccaaDoor.Simd

theorem mok_1_0 : marksOk 1 10 0 = true := by decide +kernel
theorem mok_1_10 : marksOk 1 10 10 = true := by decide +kernel
theorem mok_1_20 : marksOk 1 10 20 = true := by decide +kernel
theorem mok_1_30 : marksOk 1 10 30 = true := by decide +kernel
theorem mok_1_40 : marksOk 1 10 40 = true := by decide +kernel
theorem mok_1_50 : marksOk 1 10 50 = true := by decide +kernel
theorem mok_1_60 : marksOk 1 10 60 = true := by decide +kernel
end Go.Proofs.YtbojcphcjggccaaDoor.Simd
