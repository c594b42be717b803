/- What is asked of the drawn texts of kind 0, reckoned in 2048 lanes at once: a lane is a key. -/
import Derived.Test.YtbojcphcjggccaaDoorMarksMath
namespace Go.Proofs.YtbojcphcjggccaaDoor.Simd

theorem mok_0_0 : marksOk 0 10 0 = true := by decide +kernel
theorem mok_0_10 : marksOk 0 10 10 = true := by decide +kernel
theorem mok_0_20 : marksOk 0 10 20 = true := by decide +kernel
theorem mok_0_30 : marksOk 0 10 30 = true := by decide +kernel
theorem mok_0_40 : marksOk 0 10 40 = true := by decide +kernel
theorem mok_0_50 : marksOk 0 10 50 = true := by decide +kernel
theorem mok_0_60 : marksOk 0 10 60 = true := by decide +kernel
end Go.Proofs.YtbojcphcjggccaaDoor.Simd
