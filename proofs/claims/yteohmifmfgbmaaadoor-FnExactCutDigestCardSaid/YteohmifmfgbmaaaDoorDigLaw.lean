/- FnExactDigest, FnExactDigestHex, FnExactCutDigest: the laws' walks. -/
import Derived.Test.YteohmifmfgbmaaaDoorDigImpl
import Derived.Test.YteohmifmfgbmaaaDoorHexWalks
import Derived.Test.YteohmifmfgbmaaaDoorHexImpl
namespace Go.Proofs.YteohmifmfgbmaaaDoor
open Go.RowKit Go.Proofs.YteohmifmfgbmaaaDoor.Sha Go.Proofs.YteohmifmfgbmaaaDoor.Hexa

/-- The two tables of the program. -/
def Tabs (w : World) : Prop := IsTab w 0 firstS.list ∧ IsTab w 1 keyL
theorem Tabs.below {w w' : World} (h : Tabs w) (hb : Below w.heap.size w w') : Tabs w' := ⟨h.1.below h.1.lt hb, h.2.below h.2.lt hb⟩

set_option maxHeartbeats 400000 in
theorem digest_law (s : ByteArray) (w : World) (hT : Tabs w) :
    Calls Tryd.prog 5 #[.string s] w fun e w' => e = .returned (.bool true) ∧ Below w.heap.size w w' := by
  by_cases h : s.size ≤ 1048576
  · have k1 := Lib.hid fun w => specDigest_any s w h
    have k2 := Lib.hid fun w h0 h1 => implDigest_any s w h h0 h1
    have HT := Lib.hid hT
    clear hT
    go_enter Tryd.func5, Tryd.ntmps5
    go_wp2_with (first
      | (go_at_call 16; refine (k1.out _).mono ?_; rintro e w1 ⟨rfl, hb1⟩)
      | (go_at_call 17; refine (k2.out _ (HT.out.below hb1).1 (HT.out.below hb1).2).mono ?_; rintro e w2 ⟨rfl, hb2⟩))
    go_ret
    exact ⟨rfl, hb1.trans (hb2.mono hb1.size)⟩
  · have hn : 1048576 < s.size := by omega
    go_enter Tryd.func5, Tryd.ntmps5
    go_wp2
    go_ret
    exact ⟨rfl, Below.refl _ _⟩

def hexB2 (s : ByteArray) : ByteArray := ⟨(hexL (digB s).data.toList).toArray⟩

set_option maxHeartbeats 400000 in
theorem specDigestHex_any (s : ByteArray) (w : World) (h : s.size ≤ 1048576) :
    Calls Tryd.prog 18 #[.string s] w fun e w' => e = .returned (.string (hexB2 s)) ∧ Below w.heap.size w w' := by
  have k1 := Lib.hid fun w => specDigest_any s w h
  have k2 := Lib.hid fun w => specHex_yes (digB s) w (by rw [digB_size]; omega)
  clear h
  go_enter Tryd.func18, Tryd.ntmps18
  go_wp2_with (first
    | (go_at_call 16; refine (k1.out _).mono ?_; rintro e w1 ⟨rfl, hb1⟩)
    | (go_at_call 33; refine (k2.out _).mono ?_; rintro e w2 ⟨rfl, hb2⟩))
  go_ret
  exact ⟨rfl, hb1.trans (hb2.mono hb1.size)⟩

set_option maxHeartbeats 400000 in
theorem implDigestHex_any (s : ByteArray) (w : World) (h : s.size ≤ 1048576) (hT : Tabs w) :
    Calls Tryd.prog 19 #[.string s] w fun e w' => e = .returned (.string (hexB2 s)) ∧ Below w.heap.size w w' := by
  have k1 := Lib.hid (implDigest_any s w h hT.1 hT.2)
  have k2 := Lib.hid fun w => implHex_yes (digB s) w (by rw [digB_size]; omega)
  clear h hT
  go_enter Tryd.func19, Tryd.ntmps19
  go_wp2_with (first
    | (go_at_call 17; refine k1.out.mono ?_; rintro e w1 ⟨rfl, hb1⟩)
    | (go_at_call 34; refine (k2.out _).mono ?_; rintro e w2 ⟨rfl, hb2⟩))
  go_ret
  exact ⟨rfl, hb1.trans (hb2.mono hb1.size)⟩

set_option maxHeartbeats 400000 in
theorem digestHex_law (s : ByteArray) (w : World) (hT : Tabs w) :
    Calls Tryd.prog 6 #[.string s] w fun e w' => e = .returned (.bool true) ∧ Below w.heap.size w w' := by
  by_cases h : s.size ≤ 1048576
  · have k1 := Lib.hid fun w => specDigestHex_any s w h
    have k2 := Lib.hid fun w h0 => implDigestHex_any s w h h0
    have HT := Lib.hid hT
    clear hT
    go_enter Tryd.func6, Tryd.ntmps6
    go_wp2_with (first
      | (go_at_call 18; refine (k1.out _).mono ?_; rintro e w1 ⟨rfl, hb1⟩)
      | (go_at_call 19; refine (k2.out _ (HT.out.below hb1)).mono ?_; rintro e w2 ⟨rfl, hb2⟩))
    go_ret
    exact ⟨rfl, hb1.trans (hb2.mono hb1.size)⟩
  · have hn : 1048576 < s.size := by omega
    go_enter Tryd.func6, Tryd.ntmps6
    go_wp2
    go_ret
    exact ⟨rfl, Below.refl _ _⟩

/-- The first k bytes of the digest; none where k is not from 1 to 32. -/
def cutB (s : ByteArray) (k : Int) : ByteArray := if 1 ≤ k ∧ k ≤ 32 then (digB s).extract 0 k.toNat else ⟨#[]⟩

set_option maxHeartbeats 400000 in
theorem in_any (n a b : Int) (w : World) : Calls Tryd.prog 22 #[.int .i64 n, .int .i64 a, .int .i64 b] w fun e w' => e = .returned (.bool (decide (a ≤ n ∧ n ≤ b))) ∧ w' = w := by
  by_cases h1 : a ≤ n <;> by_cases h2 : n ≤ b
  all_goals
    go_enter Tryd.func22, Tryd.ntmps22
    go_wp2
    all_goals go_ret
    all_goals exact ⟨by simp [h1, h2], rfl⟩

set_option maxHeartbeats 400000 in
theorem specCut_any (s : ByteArray) (k : Int) (w : World) (h : s.size ≤ 1048576) :
    Calls Tryd.prog 20 #[.string s, .int .i64 k] w fun e w' => e = .returned (.string (cutB s k)) ∧ Below w.heap.size w w' := by
  have k1 := Lib.hid fun w => specDigest_any s w h
  have hds := digB_size s
  by_cases hk : 1 ≤ k ∧ k ≤ 32
  · have hd : decide (1 ≤ k ∧ k ≤ 32) = true := decide_eq_true hk
    have hc : cutB s k = (digB s).extract 0 k.toNat := if_pos hk
    have hi := hk.1
    have hj := hk.2
    rw [hc]
    clear h hk hc
    go_enter Tryd.func20, Tryd.ntmps20
    go_wp2_with (first
      | (go_at_call 22; refine (in_any _ _ _ _).mono ?_; rintro e w1 ⟨rfl, rfl⟩)
      | (go_at_call 16; refine (k1.out _).mono ?_; rintro e w1 ⟨rfl, hb1⟩))
    go_ret
    exact ⟨rfl, hb1⟩
  · have hd : decide (1 ≤ k ∧ k ≤ 32) = false := decide_eq_false hk
    have hc : cutB s k = ⟨#[]⟩ := if_neg hk
    rw [hc]
    clear h hk hc
    go_enter Tryd.func20, Tryd.ntmps20
    go_wp2_with (first
      | (go_at_call 22; refine (in_any _ _ _ _).mono ?_; rintro e w1 ⟨rfl, rfl⟩))
    go_ret
    exact ⟨rfl, Below.refl _ _⟩

set_option maxHeartbeats 400000 in
theorem implCut_any (s : ByteArray) (k : Int) (w : World) (h : s.size ≤ 1048576) (hT : Tabs w) :
    Calls Tryd.prog 21 #[.string s, .int .i64 k] w fun e w' => e = .returned (.string (cutB s k)) ∧ Below w.heap.size w w' := by
  have k1 := Lib.hid (implDigest_any s w h hT.1 hT.2)
  have hds := digB_size s
  clear h hT
  by_cases hk : 1 ≤ k ∧ k ≤ 32
  · have hc : cutB s k = (digB s).extract 0 k.toNat := if_pos hk
    have hi := hk.1
    have hj := hk.2
    rw [hc]
    clear hk hc
    go_enter Tryd.func21, Tryd.ntmps21
    go_wp2_with (first
      | (go_at_call 17; refine k1.out.mono ?_; rintro e w1 ⟨rfl, hb1⟩))
    go_ret
    exact ⟨rfl, hb1⟩
  · have hc : cutB s k = ⟨#[]⟩ := if_neg hk
    rw [hc]
    by_cases h1 : k < 1
    · go_enter Tryd.func21, Tryd.ntmps21
      go_wp2
      go_ret
      exact ⟨rfl, Below.refl _ _⟩
    · have h2 : 32 < k := by omega
      go_enter Tryd.func21, Tryd.ntmps21
      go_wp2
      go_ret
      exact ⟨rfl, Below.refl _ _⟩

set_option maxHeartbeats 400000 in
theorem cut_law (s : ByteArray) (k : Int) (w : World) (hT : Tabs w) :
    Calls Tryd.prog 7 #[.string s, .int .i64 k] w fun e w' => e = .returned (.bool true) ∧ Below w.heap.size w w' := by
  by_cases h : s.size ≤ 1048576
  · have k1 := Lib.hid fun w => specCut_any s k w h
    have k2 := Lib.hid fun w h0 => implCut_any s k w h h0
    have HT := Lib.hid hT
    clear hT
    go_enter Tryd.func7, Tryd.ntmps7
    go_wp2_with (first
      | (go_at_call 20; refine (k1.out _).mono ?_; rintro e w1 ⟨rfl, hb1⟩)
      | (go_at_call 21; refine (k2.out _ (HT.out.below hb1)).mono ?_; rintro e w2 ⟨rfl, hb2⟩))
    go_ret
    exact ⟨rfl, hb1.trans (hb2.mono hb1.size)⟩
  · have hn : 1048576 < s.size := by omega
    go_enter Tryd.func7, Tryd.ntmps7
    go_wp2
    go_ret
    exact ⟨rfl, Below.refl _ _⟩
end Go.Proofs.YteohmifmfgbmaaaDoor
