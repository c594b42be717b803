/- The program's chapter 3: is a tag right. -/
import Derived.Test.YtbojcphcjggccaaDoorMarkFn
namespace Go.Proofs.YtbojcphcjggccaaDoor
open Go.RowKit Go.Proofs.YtbojcphcjggccaaDoor.Sha Go.Proofs.YtbojcphcjggccaaDoor.Hexa Go.Proofs.YtbojcphcjggccaaDoor.Parts Go.Proofs.YtbojcphcjggccaaDoor.Byt Go.Proofs.YtbojcphcjggccaaDoor.BitsM
theorem implHmacOk_any (key text tag : ByteArray) (w : World) (hT : Tabs w) (hk : key.size ≤ 2000000) (ht : text.size ≤ 2000000) :
    Calls Tryd.prog 18 #[.string key, .string text, .string tag] w fun e w' => e = .returned (.bool (decide (hmacB key text = tag))) ∧ Below w.heap.size w w' := by
  have k1 := Lib.hid fun w hT => implHmac_any key text w hT hk ht
  have hsz : (hmacB key text).size = 32 := hmacB_size key text
  generalize hmacB key text = h at k1 hsz
  have k2 := Lib.hid fun w => implSame_any h tag w (by omega)
  have HT := Lib.hid hT
  clear hT hsz hk ht
  go_enter Tryd.func18, Tryd.ntmps18
  go_wp2_with fail
  refine (k1.out _ HT.out).mono ?_
  rintro e w1 ⟨rfl, hb1⟩
  go_wp2_with fail
  refine (k2.out _).mono ?_
  rintro e w2 ⟨rfl, m, rfl⟩
  go_wp2
  go_ret
  exact ⟨rfl, hb1.trans (below_drewN w1 m)⟩
end Go.Proofs.YtbojcphcjggccaaDoor
