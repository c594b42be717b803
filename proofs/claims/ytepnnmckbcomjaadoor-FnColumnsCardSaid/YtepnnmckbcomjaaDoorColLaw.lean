/- FnColumns: the law's walk. -/
import Derived.Test.YtepnnmckbcomjaaDoorColMath
import Derived.Test.YtepnnmckbcomjaaDoorMixImpl
import Derived.Test.YtepnnmckbcomjaaDoorShiftImpl
import Derived.Test.YtepnnmckbcomjaaDoorBoxTextImpl
import Derived.Test.YtepnnmckbcomjaaDoorXorSpec
import Derived.Test.YtepnnmckbcomjaaDoorOthers
import Derived.Test.YtepnnmckbcomjaaDoorDraw6A
namespace Go.Proofs.YtepnnmckbcomjaaDoor
open Go.RowKit Go.Proofs.YtepnnmckbcomjaaDoor.Hexa Go.Proofs.YtepnnmckbcomjaaDoor.Byt Go.Proofs.YtepnnmckbcomjaaDoor.Aes

set_option maxHeartbeats 2000000 in
theorem fnColumns_law (ad : Option Addr) (len cap : Nat) (w : World) (hlen : len ≤ 1048576) (hs : Draw.Src w w.heap.size ad len) (hT : MixTab w) :
    Calls Tryd.prog 4 #[.slice ad len cap] w fun e w' => e = .returned (.bool true) ∧ Below w.heap.size w w' := by
  have HS := Lib.hid hs
  have HT := Lib.hid hT
  have kb : Hid (∀ (s : ByteArray) (w : World), s.size ≤ 8000000 → Calls Tryd.prog 17 #[.string s] w fun e w' => e = .returned (.string (boxT s)) ∧ Below w.heap.size w w') := Lib.hid fun s w hs => implBoxText_any s w hs
  have ks : Hid (∀ (s : ByteArray) (w : World), s.size = 16 → Calls Tryd.prog 15 #[.string s] w fun e w' => e = .returned (.string (shiftT s)) ∧ Below w.heap.size w w') := Lib.hid fun s w hs => implShift_yes s w hs
  have km : Hid (∀ (s : ByteArray) (w : World), s.size = 16 → MixTab w → Calls Tryd.prog 16 #[.string s] w fun e w' => e = .returned (.string (mixT s)) ∧ Below w.heap.size w w') := Lib.hid fun s w hs hT => implMix_yes s w hs hT
  have kx := Lib.hid fun a b w ha => specXor_any a b w ha
  have kb0 : Hid (∀ w : World, Calls Tryd.prog 17 #[.string ⟨#[0]⟩] w fun e w' => e = .returned (.string ⟨#[99]⟩) ∧ Below w.heap.size w w') := Lib.hid fun w => by
    have := kb.out ⟨#[0]⟩ w (by decide)
    rw [boxT_nought] at this
    exact this
  clear hs hT
  go_enter Tryd.func4, Tryd.ntmps4
  go_wp2_with (go_at_call 7; go_in)
  refine (Draw.drawShift_any ad len cap w hlen HS.out).mono ?_
  rintro e w1 ⟨a, rfl, ha, hb1⟩
  have B1 := Lib.hid hb1
  clear hb1
  by_cases h16 : a.size = 16
  · have ko := Lib.hid fun w => others_any a w (by omega)
    have hoz : (otherT a).size = 16 := by rw [otherT_size]; exact h16
    have H16 := Lib.hid h16
    go_wp2_with fail
    go_loopw [4, 5, 6] (fun xv yv iv wr => ∃ n : Nat, n ≤ 4 ∧ iv = .int .i64 n ∧ xv = .string (shN a n) ∧ yv = .string (mxN a n) ∧ Hid (Below w.heap.size w wr))
      (fun _ _ iv _ => 4 - (intOf iv).toNat)
    case atStart => exact ⟨0, Nat.zero_le _, rfl, rfl, rfl, B1⟩
    case round =>
      clear B1
      obtain ⟨n, hn, rfl, rfl, rfl, HL⟩ := hrel
      by_cases hlt : n < 4
      · have hz1 := shN_size a H16.out n
        have hz2 := mxN_size a H16.out n
        go_wp2_with fail
        refine (ks.out _ _ hz1).mono ?_
        rintro e w2 ⟨rfl, hb2⟩
        have HL2 := Lib.hid (HL.out.trans (hb2.mono HL.out.size))
        clear hb2
        go_wp2_with fail
        refine (km.out _ _ hz2 (HT.out.below HL2.out)).mono ?_
        rintro e w3 ⟨rfl, hb3⟩
        have HL3 := Lib.hid (HL2.out.trans (hb3.mono HL2.out.size))
        clear hb3
        go_wp2
        go_roundw
        case rel => exact ⟨n + 1, by omega, by go_num, rfl, rfl, HL3⟩
        case measure => (simp [intOf]; try omega)
      · obtain rfl : n = 4 := by omega
        rw [shN_four a H16.out, mxN_four a H16.out]
        have hxz := xorT_sixteen a (otherT a) h16 hoz
        have HX := Lib.hid (mix_linear a (otherT a) h16 hoz)
        have hbz : (boxT a).size = 16 := by rw [boxT_size]; exact h16
        generalize otherT a = b at ko hoz HX hxz
        go_wp2_with fail
        refine (ko.out _).mono ?_
        rintro e w2 ⟨rfl, hb2⟩
        have HL2 := Lib.hid (HL.out.trans (hb2.mono HL.out.size))
        clear hb2
        go_wp2_with fail
        refine (km.out _ _ h16 (HT.out.below HL2.out)).mono ?_
        rintro e w3 ⟨rfl, hb3⟩
        have HL3 := Lib.hid (HL2.out.trans (hb3.mono HL2.out.size))
        clear hb3
        go_wp2_with fail
        refine (km.out _ _ hoz (HT.out.below HL3.out)).mono ?_
        rintro e w4 ⟨rfl, hb4⟩
        have HL4 := Lib.hid (HL3.out.trans (hb4.mono HL3.out.size))
        clear hb4
        go_wp2_with fail
        refine (kx.out _ _ _ (by rw [mixT_size]; omega)).mono ?_
        rintro e w5 ⟨rfl, hb5⟩
        rw [← HX.out]
        have HL5 := Lib.hid (HL4.out.trans (hb5.mono HL4.out.size))
        clear hb5
        go_wp2_with fail
        refine (kx.out a b _ (by omega)).mono ?_
        rintro e w6 ⟨rfl, hb6⟩
        have HL6 := Lib.hid (HL5.out.trans (hb6.mono HL5.out.size))
        clear hb6
        go_wp2_with fail
        refine (km.out _ _ hxz (HT.out.below HL6.out)).mono ?_
        rintro e w7 ⟨rfl, hb7⟩
        have HL7 := Lib.hid (HL6.out.trans (hb7.mono HL6.out.size))
        clear hb7
        go_wp2_with fail
        refine (kb0.out _).mono ?_
        rintro e w8 ⟨rfl, hb8⟩
        have HL8 := Lib.hid (HL7.out.trans (hb8.mono HL7.out.size))
        clear hb8
        go_wp2_with fail
        refine (kb.out a _ (by omega)).mono ?_
        rintro e w9 ⟨rfl, hb9⟩
        have HL9 := Lib.hid (HL8.out.trans (hb9.mono HL8.out.size))
        clear hb9
        go_wp2
        go_ret
        exact ⟨rfl, HL9.out⟩
  · go_wp2_with fail
    refine (implShift_no a _ h16).mono ?_
    rintro e w2 ⟨rfl, hb2⟩
    have HL2 := Lib.hid (B1.out.trans (hb2.mono B1.out.size))
    clear hb2
    go_wp2_with fail
    refine (implMix_no a _ h16).mono ?_
    rintro e w3 ⟨rfl, hb3⟩
    have HL3 := Lib.hid (HL2.out.trans (hb3.mono HL2.out.size))
    clear hb3
    go_wp2_with fail
    refine (kb0.out _).mono ?_
    rintro e w4 ⟨rfl, hb4⟩
    have HL4 := Lib.hid (HL3.out.trans (hb4.mono HL3.out.size))
    clear hb4
    go_wp2
    go_ret
    exact ⟨rfl, HL4.out⟩

theorem fnColumns_big (ad : Option Addr) (len cap : Nat) (w : World) (hlen : 1048576 < len) :
    Calls Tryd.prog 4 #[.slice ad len cap] w fun e w' => e = .returned (.bool true) ∧ Below w.heap.size w w' := by
  go_enter Tryd.func4, Tryd.ntmps4
  go_wp2_with (go_at_call 7; go_in)
  go_ret
  exact ⟨rfl, Below.refl _ _⟩
theorem fnColumns_all (ad : Option Addr) (len cap : Nat) (w : World) (hs : Draw.Src w w.heap.size ad len) (hT : MixTab w) :
    Calls Tryd.prog 4 #[.slice ad len cap] w fun e w' => e = .returned (.bool true) ∧ Below w.heap.size w w' := by
  by_cases h : len ≤ 1048576
  · exact fnColumns_law ad len cap w h hs hT
  · exact fnColumns_big ad len cap w (by omega)
end Go.Proofs.YtepnnmckbcomjaaDoor
