/- What is asked of the drawn texts of kind 3, reckoned in 2048 lanes at once: a lane is a key. -/
import Derived.Test.YtbojcphcjggccaaDoorMarksMath
namespace Go.Proofs.YtbojcphcjggccaaDoor.Simd

theorem mok_3_0 : marksOk 3 10 0 = true := by decide +kernel
theorem mok_3_10 : marksOk 3 10 10 = true := by decide +kernel
theorem mok_3_20 : marksOk 3 10 20 = true := by decide +kernel
theorem mok_3_30 : marksOk 3 10 30 = true := by decide +kernel
theorem mok_3_40 : marksOk 3 10 40 = true := by decide +kernel
theorem mok_3_50 : marksOk 3 10 50 = true := by decide +kernel
theorem mok_3_60 : marksOk 3 10 60 = true := by decide +kernel
end Go.Proofs.YtbojcphcjggccaaDoor.Simd
