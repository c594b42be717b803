/- FnExactHmacKey, FnExactHmac, FnExactHmacOk, FnExactCutMark: the laws' walks, over what the program's functions return. -/
import Derived.Test.YtoibghcemmgomaaDoorMarkSpec
import Derived.Test.YtoibghcemmgomaaDoorDigImpl
namespace Go.Proofs.YtoibghcemmgomaaDoor
open Go.RowKit Go.Proofs.YtoibghcemmgomaaDoor.Sha Go.Proofs.YtoibghcemmgomaaDoor.Hexa

/-- The two tables of the program. -/
def Tabs (w : World) : Prop := IsTab w 0 firstS.list ∧ IsTab w 1 keyL
theorem Tabs.below {w w' : World} (h : Tabs w) (hb : Below w.heap.size w w') : Tabs w' := ⟨h.1.below h.1.lt hb, h.2.below h.2.lt hb⟩

set_option maxHeartbeats 400000 in
theorem key_law_of (s : ByteArray) (w : World) (hT : Tabs w)
    (h2 : s.size ≤ 1048576 → ∀ w, Tabs w → Calls Tryd.prog 8 #[.string s] w fun e w' => e = .returned (.string (keyB s)) ∧ Below w.heap.size w w') :
    Calls Tryd.prog 3 #[.string s] w fun e w' => e = .returned (.bool true) ∧ Below w.heap.size w w' := by
  by_cases h : s.size ≤ 1048576
  · have k1 := Lib.hid fun w => specKey_any s w (by omega)
    have k2 := Lib.hid (h2 h)
    have HT := Lib.hid hT
    clear hT h2
    go_enter Tryd.func3, Tryd.ntmps3
    go_wp2_with (first
      | (go_at_call 7; refine (k1.out _).mono ?_; rintro e w1 ⟨rfl, hb1⟩)
      | (go_at_call 8; refine (k2.out _ (HT.out.below hb1)).mono ?_; rintro e w2 ⟨rfl, hb2⟩))
    go_ret
    exact ⟨rfl, hb1.trans (hb2.mono hb1.size)⟩
  · have hn : 1048576 < s.size := by omega
    go_enter Tryd.func3, Tryd.ntmps3
    go_wp2
    go_ret
    exact ⟨rfl, Below.refl _ _⟩

set_option maxHeartbeats 400000 in
theorem hmac_law_of (k t : ByteArray) (w : World) (hT : Tabs w)
    (h2 : k.size ≤ 1048576 → t.size ≤ 1048576 → ∀ w, Tabs w → Calls Tryd.prog 10 #[.string k, .string t] w fun e w' => e = .returned (.string (hmacB k t)) ∧ Below w.heap.size w w') :
    Calls Tryd.prog 4 #[.string k, .string t] w fun e w' => e = .returned (.bool true) ∧ Below w.heap.size w w' := by
  by_cases hk : k.size ≤ 1048576
  · by_cases ht : t.size ≤ 1048576
    · have k1 := Lib.hid fun w => specHmac_any k t w (by omega) (by omega)
      have k2 := Lib.hid (h2 hk ht)
      have HT := Lib.hid hT
      clear hT h2
      go_enter Tryd.func4, Tryd.ntmps4
      go_wp2_with (first
        | (go_at_call 9; refine (k1.out _).mono ?_; rintro e w1 ⟨rfl, hb1⟩)
        | (go_at_call 10; refine (k2.out _ (HT.out.below hb1)).mono ?_; rintro e w2 ⟨rfl, hb2⟩))
      go_ret
      exact ⟨rfl, hb1.trans (hb2.mono hb1.size)⟩
    · have hn : 1048576 < t.size := by omega
      go_enter Tryd.func4, Tryd.ntmps4
      go_wp2
      go_ret
      exact ⟨rfl, Below.refl _ _⟩
  · have hn : 1048576 < k.size := by omega
    go_enter Tryd.func4, Tryd.ntmps4
    go_wp2
    go_ret
    exact ⟨rfl, Below.refl _ _⟩

/-- Two texts compared, as the walk has it. -/
theorem same_text (a b : ByteArray) : (a.toList == b.toList) = decide (a = b) := by
  rw [Go.ByteArray.toList_eq, Go.ByteArray.toList_eq]
  by_cases h : a = b
  · rw [decide_eq_true h, h]; simp
  · rw [decide_eq_false h]
    refine beq_eq_false_iff_ne.2 (fun e => h (ByteArray.ext (Array.toList_inj.1 e)))

set_option maxHeartbeats 400000 in
theorem specHmacOk_any (k t g : ByteArray) (w : World) (hk : k.size ≤ 2000000) (ht : t.size ≤ 2000000) :
    Calls Tryd.prog 11 #[.string k, .string t, .string g] w fun e w' => e = .returned (.bool (decide (hmacB k t = g))) ∧ Below w.heap.size w w' := by
  have k1 := Lib.hid fun w => specHmac_any k t w hk ht
  have st := same_text (hmacB k t) g
  clear hk ht
  go_enter Tryd.func11, Tryd.ntmps11
  go_wp2_with (first
    | (go_at_call 9; refine (k1.out _).mono ?_; rintro e w1 ⟨rfl, hb1⟩))
  go_ret
  exact ⟨rfl, hb1⟩

set_option maxHeartbeats 400000 in
theorem hmacOk_law_of (k t g : ByteArray) (w : World) (hT : Tabs w)
    (h2 : k.size ≤ 1048576 → t.size ≤ 1048576 → ∀ w, Tabs w → Calls Tryd.prog 12 #[.string k, .string t, .string g] w fun e w' => e = .returned (.bool (decide (hmacB k t = g))) ∧ Below w.heap.size w w') :
    Calls Tryd.prog 5 #[.string k, .string t, .string g] w fun e w' => e = .returned (.bool true) ∧ Below w.heap.size w w' := by
  by_cases hk : k.size ≤ 1048576
  · by_cases ht : t.size ≤ 1048576
    · by_cases hg : g.size ≤ 1048576
      · have k1 := Lib.hid fun w => specHmacOk_any k t g w (by omega) (by omega)
        have k2 := Lib.hid (h2 hk ht)
        have HT := Lib.hid hT
        generalize decide (hmacB k t = g) = r at k1 k2
        clear hT h2
        go_enter Tryd.func5, Tryd.ntmps5
        go_wp2_with (first
          | (go_at_call 11; refine (k1.out _).mono ?_; rintro e w1 ⟨rfl, hb1⟩)
          | (go_at_call 12; refine (k2.out _ (HT.out.below hb1)).mono ?_; rintro e w2 ⟨rfl, hb2⟩))
        go_ret
        exact ⟨rfl, hb1.trans (hb2.mono hb1.size)⟩
      · have hn : 1048576 < g.size := by omega
        go_enter Tryd.func5, Tryd.ntmps5
        go_wp2
        go_ret
        exact ⟨rfl, Below.refl _ _⟩
    · have hn : 1048576 < t.size := by omega
      go_enter Tryd.func5, Tryd.ntmps5
      go_wp2
      go_ret
      exact ⟨rfl, Below.refl _ _⟩
  · have hn : 1048576 < k.size := by omega
    go_enter Tryd.func5, Tryd.ntmps5
    go_wp2
    go_ret
    exact ⟨rfl, Below.refl _ _⟩

/-- The first n bytes of a keyed hash; none where n is not from 1 to 32. -/
def markB (k t : ByteArray) (n : Int) : ByteArray := if 1 ≤ n ∧ n ≤ 32 then (hmacB k t).extract 0 n.toNat else ⟨#[]⟩
theorem hmacB_size (k t : ByteArray) : (hmacB k t).size = 32 := rfl

set_option maxHeartbeats 400000 in
theorem specMark_any (k t : ByteArray) (n : Int) (w : World) (hk : k.size ≤ 2000000) (ht : t.size ≤ 2000000) :
    Calls Tryd.prog 13 #[.string k, .string t, .int .i64 n] w fun e w' => e = .returned (.string (markB k t n)) ∧ Below w.heap.size w w' := by
  have k1 := Lib.hid fun w => specHmac_any k t w hk ht
  have hds := hmacB_size k t
  clear hk ht
  by_cases hn : 1 ≤ n ∧ n ≤ 32
  · have HE : Hid (markB k t n = (hmacB k t).extract 0 n.toNat) := Lib.hid (if_pos hn)
    have HR := Lib.hid hn
    have hi := hn.1
    have hj := hn.2
    clear hn
    go_enter Tryd.func13, Tryd.ntmps13
    go_wp2_with (first
      | (go_at_call 23; refine (range_yes _ HR.out).mono ?_; rintro e w1 ⟨rfl, rfl⟩)
      | (go_at_call 9; refine (k1.out _).mono ?_; rintro e w1 ⟨rfl, hb1⟩))
    go_ret
    exact ⟨by rw [HE.out]; rfl, hb1⟩
  · have HE : Hid (markB k t n = ⟨#[]⟩) := Lib.hid (if_neg hn)
    have HR := Lib.hid hn
    clear hn
    go_enter Tryd.func13, Tryd.ntmps13
    go_wp2_with (first
      | (go_at_call 23; refine (range_no _ HR.out).mono ?_; rintro e w1 ⟨rfl, rfl⟩))
    go_ret
    exact ⟨by rw [HE.out]; rfl, Below.refl _ _⟩

set_option maxHeartbeats 400000 in
theorem mark_law_of (k t : ByteArray) (n : Int) (w : World) (hT : Tabs w)
    (h2 : k.size ≤ 1048576 → t.size ≤ 1048576 → ∀ w, Tabs w → Calls Tryd.prog 14 #[.string k, .string t, .int .i64 n] w fun e w' => e = .returned (.string (markB k t n)) ∧ Below w.heap.size w w') :
    Calls Tryd.prog 6 #[.string k, .string t, .int .i64 n] w fun e w' => e = .returned (.bool true) ∧ Below w.heap.size w w' := by
  by_cases hk : k.size ≤ 1048576
  · by_cases ht : t.size ≤ 1048576
    · have k1 := Lib.hid fun w => specMark_any k t n w (by omega) (by omega)
      have k2 := Lib.hid (h2 hk ht)
      have HT := Lib.hid hT
      clear hT h2
      go_enter Tryd.func6, Tryd.ntmps6
      go_wp2_with (first
        | (go_at_call 13; refine (k1.out _).mono ?_; rintro e w1 ⟨rfl, hb1⟩)
        | (go_at_call 14; refine (k2.out _ (HT.out.below hb1)).mono ?_; rintro e w2 ⟨rfl, hb2⟩))
      go_ret
      exact ⟨rfl, hb1.trans (hb2.mono hb1.size)⟩
    · have hn : 1048576 < t.size := by omega
      go_enter Tryd.func6, Tryd.ntmps6
      go_wp2
      go_ret
      exact ⟨rfl, Below.refl _ _⟩
  · have hn : 1048576 < k.size := by omega
    go_enter Tryd.func6, Tryd.ntmps6
    go_wp2
    go_ret
    exact ⟨rfl, Below.refl _ _⟩
end Go.Proofs.YtoibghcemmgomaaDoor
