/- What is asked of the drawn texts of kind 2, reckoned in 2048 lanes at once: a lane is a key. -/
import Derived.Test.YtbojcphcjggccaaDoorMarksMath
namespace Go.Proofs.YtbojcphcjggccaaDoor.Simd

theorem mok_2_0 : marksOk 2 10 0 = true := by decide +kernel
theorem mok_2_10 : marksOk 2 10 10 = true := by decide +kernel
theorem mok_2_20 : marksOk 2 10 20 = true := by decide +kernel
theorem mok_2_30 : marksOk 2 10 30 = true := by decide +kernel
theorem mok_2_40 : marksOk 2 10 40 = true := by decide +kernel
theorem mok_2_50 : marksOk 2 10 50 = true := by decide +kernel
theorem mok_2_60 : marksOk 2 10 60 = true := by decide +kernel
end Go.Proofs.YtbojcphcjggccaaDoor.Simd
