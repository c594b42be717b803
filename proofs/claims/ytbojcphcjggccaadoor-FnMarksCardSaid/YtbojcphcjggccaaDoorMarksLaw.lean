/- FnMarks: the law's walk. -/
import Derived.Test.YtbojcphcjggccaaDoorMarksAll
import Derived.Test.YtbojcphcjggccaaDoorMarksKnown
import Derived.Test.YtbojcphcjggccaaDoorOkImpl
import Derived.BigRegion
import Derived.StillTailTactics
namespace Go.Proofs.YtbojcphcjggccaaDoor
open Go.RowKit Go.Proofs.YtbojcphcjggccaaDoor.Sha Go.Proofs.YtbojcphcjggccaaDoor.Hexa Go.Proofs.YtbojcphcjggccaaDoor.Byt Go.Proofs.YtbojcphcjggccaaDoor.Parts

set_option maxRecDepth 100000 in
set_option maxHeartbeats 4000000 in
theorem fnMarks_law (ad : Option Addr) (len cap : Nat) (w : World) (hlen : len ≤ 1048576) (hs : Draw.Src w w.heap.size ad len) (hT : Tabs w) :
    Calls Tryd.prog 4 #[.slice ad len cap] w fun e w' => e = .returned (.bool true) ∧ Below w.heap.size w w' := by
  have HS := Lib.hid hs
  have HT := Lib.hid hT
  clear hs hT
  go_enter Tryd.func4, Tryd.ntmps4
  go_wp2_with (go_at_call 5; go_in)
  refine (Draw.drawOk_any ad len cap w hlen HS.out).mono ?_
  rintro e w1 ⟨k, t, g, rfl, hk, ht, hb1⟩
  have B1 := Lib.hid hb1
  clear hb1
  have hks := Draw.key_size hk
  have hts := Draw.text_size ht
  have hta : (t ++ ⟨#[97]⟩ : ByteArray).size ≤ 98 := by rw [ByteArray.size_append]; show t.size + 1 ≤ 98; omega
  have hne := marks_ne hk ht
  have kM := Lib.hid fun w (hT : Tabs w) => implHmac_any k t w hT (by omega) (by omega)
  have kC := Lib.hid fun w (hT : Tabs w) => implMark_any k t 8 w hT (by omega) (by omega)
  have kO1 := Lib.hid fun w (hT : Tabs w) => implHmacOk_any k t (hmacB k t) w hT (by omega) (by omega)
  have kO2 := Lib.hid fun w (hT : Tabs w) => implHmacOk_any k (t ++ ⟨#[97]⟩) (hmacB k t) w hT (by omega) (by omega)
  have kS := Lib.hid fun w => specHmac_any k t w (by omega) (by omega)
  have kK := Lib.hid fun w (hT : Tabs w) => implKey_any k w hT (by omega)
  have hkz := keyB_size k
  have hmz : (hmacB k t).size = 32 := rfl
  have hcut : markB k t 8 = (hmacB k t).extract 0 8 := if_pos ⟨by omega, by omega⟩
  rw [hcut] at kC
  have d1 : decide (hmacB k t = hmacB k t) = true := decide_eq_true rfl
  have d2 : decide (hmacB k (t ++ ⟨#[97]⟩) = hmacB k t) = false := decide_eq_false (fun e => hne e.symm)
  rw [d1] at kO1
  rw [d2] at kO2
  generalize hmacB k t = M at kM kC kO1 kO2 kS hmz
  generalize keyB k = Q at kK hkz
  have hcz : (M.extract 0 8).size = 8 := by rw [ByteArray.size_extract]; omega
  have d3 : decide (M = M.extract 0 8) = false := decide_eq_false (fun e => by rw [← e] at hcz; omega)
  have d4 : decide (M = M) = true := decide_eq_true rfl
  have kE1 : Hid (∀ w : World, Calls Tryd.prog 19 #[.string M, .string M] w fun e w' => e = .returned (.bool true) ∧ Below w.heap.size w w') := Lib.hid fun w => (implSame_any M M w (by omega)).mono (by
    rintro e w' ⟨rfl, m, rfl⟩
    exact ⟨by rw [d4], below_drewN w m⟩)
  have kE2 : Hid (∀ w : World, Calls Tryd.prog 19 #[.string M, .string (M.extract 0 8)] w fun e w' => e = .returned (.bool false) ∧ Below w.heap.size w w') := Lib.hid fun w => (implSame_any M (M.extract 0 8) w (by omega)).mono (by
    rintro e w' ⟨rfl, m, rfl⟩
    exact ⟨by rw [d3], below_drewN w m⟩)
  have kJ0 := fun w (hT : Tabs w) => implHmac_any jefe askT w hT (by decide) (by decide)
  rw [jefe_hmac] at kJ0
  have kX0 := fun w => implHex_yes ⟨(textL ⟨1541194054, 3210769742, 1778656294, 144012743, 1509965576, 2636593539, 2649512121, 1693202499⟩).toArray⟩ w (by show 32 ≤ 20000; omega)
  have hjx : (⟨(hexL (⟨(textL ⟨1541194054, 3210769742, 1778656294, 144012743, 1509965576, 2636593539, 2649512121, 1693202499⟩).toArray⟩ : ByteArray).data.toList).toArray⟩ : ByteArray) = jefeHex := by
    apply ByteArray.ext
    apply Array.toList_inj.1
    exact jefe_known
  rw [hjx] at kX0
  generalize (⟨(textL ⟨1541194054, 3210769742, 1778656294, 144012743, 1509965576, 2636593539, 2649512121, 1693202499⟩).toArray⟩ : ByteArray) = D at kJ0 kX0
  have kJ : Hid (∀ w : World, Tabs w → Calls Tryd.prog 15 #[.string ⟨#[74, 101, 102, 101]⟩, .string ⟨#[119, 104, 97, 116, 32, 100, 111, 32, 121, 97, 32, 119, 97, 110, 116, 32, 102, 111, 114, 32, 110, 111, 116, 104, 105, 110, 103, 63]⟩] w fun e w' => e = .returned (.string D) ∧ Below w.heap.size w w') := Lib.hid kJ0
  have kX := Lib.hid kX0
  have hjl := jefeHex_list
  clear kJ0 kX0 hjx d1 d2 d3 d4 hne hcut hk ht
  go_wp2_with fail
  refine (kM.out _ (HT.out.below B1.out)).mono ?_
  rintro e w2 ⟨rfl, hb2⟩
  have B2 := Lib.hid (B1.out.trans (hb2.mono B1.out.size))
  clear hb2
  go_wp2_with fail
  refine (kC.out _ (HT.out.below B2.out)).mono ?_
  rintro e w3 ⟨rfl, hb3⟩
  have B3 := Lib.hid (B2.out.trans (hb3.mono B2.out.size))
  clear hb3
  go_wp2_with fail
  refine (kJ.out _ (HT.out.below B3.out)).mono ?_
  rintro e w4 ⟨rfl, hb4⟩
  have B4 := Lib.hid (B3.out.trans (hb4.mono B3.out.size))
  clear hb4
  go_wp2_with fail
  refine (kX.out _).mono ?_
  rintro e w5 ⟨rfl, hb5⟩
  have B5 := Lib.hid (B4.out.trans (hb5.mono B4.out.size))
  clear hb5 kM kC kJ kX B1 B2 B3 B4
  go_wp2_with fail
  refine (kO1.out _ (HT.out.below B5.out)).mono ?_
  rintro e w6 ⟨rfl, hb6⟩
  have B6 := Lib.hid (B5.out.trans (hb6.mono B5.out.size))
  clear hb6
  go_wp2_with fail
  refine (kO2.out _ (HT.out.below B6.out)).mono ?_
  rintro e w7 ⟨rfl, hb7⟩
  have B7 := Lib.hid (B6.out.trans (hb7.mono B6.out.size))
  clear hb7
  go_wp2_with fail
  refine (kS.out _).mono ?_
  rintro e w8 ⟨rfl, hb8⟩
  have B8 := Lib.hid (B7.out.trans (hb8.mono B7.out.size))
  clear hb8
  go_wp2_with fail
  refine (kE1.out _).mono ?_
  rintro e w9 ⟨rfl, hb9⟩
  have B9 := Lib.hid (B8.out.trans (hb9.mono B8.out.size))
  clear hb9
  go_wp2_with fail
  refine (kE2.out _).mono ?_
  rintro e w10 ⟨rfl, hb10⟩
  have B10 := Lib.hid (B9.out.trans (hb10.mono B9.out.size))
  clear hb10
  go_wp2_with fail
  refine (kK.out _ (HT.out.below B10.out)).mono ?_
  rintro e w11 ⟨rfl, hb11⟩
  have B11 := Lib.hid (B10.out.trans (hb11.mono B10.out.size))
  clear hb11
  go_wp2
  go_ret
  exact ⟨rfl, B11.out⟩
theorem fnMarks_big (ad : Option Addr) (len cap : Nat) (w : World) (hlen : 1048576 < len) :
    Calls Tryd.prog 4 #[.slice ad len cap] w fun e w' => e = .returned (.bool true) ∧ Below w.heap.size w w' := by
  go_enter Tryd.func4, Tryd.ntmps4
  go_wp2_with (go_at_call 5; go_in)
  go_ret
  exact ⟨rfl, Below.refl _ _⟩
theorem fnMarks_all (ad : Option Addr) (len cap : Nat) (w : World) (hs : Draw.Src w w.heap.size ad len) (hT : Tabs w) :
    Calls Tryd.prog 4 #[.slice ad len cap] w fun e w' => e = .returned (.bool true) ∧ Below w.heap.size w w' := by
  by_cases h : len ≤ 1048576
  · exact fnMarks_law ad len cap w h hs hT
  · exact fnMarks_big ad len cap w (by omega)
end Go.Proofs.YtbojcphcjggccaaDoor
