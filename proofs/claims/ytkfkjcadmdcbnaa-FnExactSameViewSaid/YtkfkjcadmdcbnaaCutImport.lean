/- Cuts and drawn regions. -/
import Derived.Test.YtkfkjcadmdcbnaaRows
import Derived.Deep.RegionHeld3
import Derived.Deep.DeepCutAuto
