/- strings.TrimRight at one zero byte. -/
import Derived.Test.YtcckhkihhhchbaaDoorEntMath
import Derived.Test.YtcckhkihhhchbaaDoorInoSpecA
import Derived.WalkKit
import Derived.WalkSpells
import Derived.Lib.Hide
namespace Go.Proofs.YtcckhkihhhchbaaDoor
open Go.RowKit Go.Proofs.YtcckhkihhhchbaaDoor.Parts Go.Proofs.YtcckhkihhhchbaaDoor.Hexa Go.Proofs.YtcckhkihhhchbaaDoor.Byt

/-- How many bytes are left without the last zeros. -/
def trimTo (l : List UInt8) : Nat → Nat
  | 0 => 0
  | k + 1 => if l.getD k 0 = 0 then trimTo l k else k + 1
def trimB (s : ByteArray) : ByteArray := s.extract 0 (trimTo s.data.toList s.size)
theorem trimTo_step (l : List UInt8) (k : Nat) (h : l.getD k 0 = 0) : trimTo l (k + 1) = trimTo l k := if_pos h
theorem trimTo_stop (l : List UInt8) (k : Nat) (h : ¬ l.getD k 0 = 0) : trimTo l (k + 1) = k + 1 := if_neg h
theorem trimTo_le (l : List UInt8) : ∀ k, trimTo l k ≤ k
  | 0 => Nat.le_refl _
  | k + 1 => by
    rw [trimTo]
    split
    · exact Nat.le_trans (trimTo_le l k) (Nat.le_succ _)
    · exact Nat.le_refl _
theorem extract_all (s : ByteArray) : s.extract 0 s.size = s := by
  apply ByteArray.ext
  simp
theorem extract_two (s : ByteArray) (k m : Nat) (h : m ≤ k) : (s.extract 0 k).extract 0 m = s.extract 0 m := by
  apply ByteArray.ext
  apply Array.toList_inj.1
  simp only [ByteArray.data_extract, Array.toList_extract, List.extract_eq_take_drop, List.drop_zero, Nat.sub_zero, List.take_take]
  rw [Nat.min_eq_left h]
theorem trimTo_same {l l' : List UInt8} : ∀ k, (∀ j, j < k → l.getD j 0 = l'.getD j 0) → trimTo l k = trimTo l' k
  | 0, _ => rfl
  | k + 1, h => by rw [trimTo, trimTo, h k (by omega), trimTo_same k (fun j hj => h j (by omega))]
theorem extract_getD (u : ByteArray) (m j : Nat) (hj : j < m) (hm : m ≤ u.size) : (u.extract 0 m).data.toList.getD j 0 = u.data.toList.getD j 0 := by
  have h2 : j < u.data.toList.length := by simp; omega
  simp only [ByteArray.data_extract, Array.toList_extract, List.extract_eq_take_drop, List.drop_zero, List.getD, Nat.sub_zero]
  rw [List.getElem?_take_of_lt hj]
theorem trim_step {u : ByteArray} {m : Nat} (hu : u.size = m + 1) (h0 : u.data.toList.getD m 0 = 0) : trimB (u.extract 0 m) = trimB u := by
  have hs : (u.extract 0 m).size = m := by rw [ByteArray.size_extract]; omega
  unfold trimB
  rw [hs, hu, trimTo_step _ _ h0, trimTo_same m (fun j hj => extract_getD u m j hj (by omega))]
  exact extract_two u m _ (trimTo_le _ _)
theorem trim_stop {u : ByteArray} {m : Nat} (hu : u.size = m + 1) (h0 : ¬ u.data.toList.getD m 0 = 0) : trimB u = u := by
  unfold trimB
  rw [hu, trimTo_stop _ _ h0, ← hu]
  exact extract_all u
theorem trim_none {u : ByteArray} (hu : u.size = 0) : trimB u = u := by
  unfold trimB
  have h := trimTo_le u.data.toList u.size
  have e : trimTo u.data.toList u.size = u.size := by omega
  rw [e]
  exact extract_all u
theorem getD_byte (s : ByteArray) (j : Nat) (hj : j < s.size) : s.data.toList.getD j 0 = s[j] := by
  have hj' : j < s.data.toList.length := by simpa using hj
  simp only [List.getD, List.getElem?_eq_getElem hj', Option.getD_some]
  rfl
def txtLen : Value → Nat
  | .string s => s.size
  | _ => 0

set_option maxRecDepth 100000 in
set_option maxHeartbeats 1000000 in
theorem trimByte_any (s : ByteArray) (w : World) (hs : s.size ≤ 2000000) :
    Calls Tryd.prog 87 #[.string s, .int .u8 0] w fun e w' => e = .returned (.string (trimB s)) ∧ w' = w := by
  go_enter Tryd.func87, Tryd.ntmps87
  go_wp2
  go_loop [0] (fun v => ∃ u : ByteArray, u.size ≤ 2000000 ∧ v = .string u ∧ Hid (trimB u = trimB s)) (fun v => txtLen v)
  case atStart => exact ⟨s, hs, rfl, Lib.hid rfl⟩
  case round =>
    obtain ⟨u, hu, rfl, HT⟩ := hrel
    by_cases h0 : u.size = 0
    · have HN : Hid (trimB u = u) := Lib.hid (trim_none h0)
      have hn : decide ((0 : Int) < (u.size : Int)) = false := decide_eq_false (by omega)
      go_wp2
      go_ret
      exact ⟨by rw [← HT.out, HN.out]; rfl, rfl⟩
    · obtain ⟨m, hm⟩ : ∃ m, u.size = m + 1 := ⟨u.size - 1, by omega⟩
      have hml : m < u.size := by omega
      obtain ⟨b, hb⟩ : ∃ b, u[m]'hml = b := ⟨_, rfl⟩
      have HB : Hid (u.data.toList.getD m 0 = b) := Lib.hid (by rw [getD_byte u m hml]; exact hb)
      have HM := Lib.hid hm
      have hpos : (0 : Int) < (u.size : Int) := by omega
      have hum : (u.size : Int) - 1 = (m : Int) := by omega
      have hm2 : m ≤ 2000000 := by omega
      have hb255 := b.toNat_lt
      clear hm h0
      by_cases h1 : b = 0
      · subst h1
        have HS : Hid (trimB (u.extract 0 m) = trimB s) := Lib.hid (by rw [trim_step HM.out HB.out, HT.out])
        have hs2 : (u.extract 0 m).size ≤ 2000000 := by rw [ByteArray.size_extract]; omega
        have HM2 : Hid ((u.extract 0 m).size < u.size) := Lib.hid (by rw [ByteArray.size_extract]; omega)
        go_wp2
        go_round
        case rel => exact ⟨_, hs2, rfl, HS⟩
        case measure => exact HM2.out
      · have HN : Hid (trimB u = u) := Lib.hid (trim_stop HM.out (by rw [HB.out]; exact h1))
        have hbt : ¬ b.toNat = 0 := fun e => h1 (UInt8.toNat_inj.1 (by rw [e]; rfl))
        have e1 : ((b.toNat : Int) == 0) = false := by simp; omega
        clear h1 hbt
        go_wp2
        go_ret
        exact ⟨by rw [← HT.out, HN.out]; rfl, rfl⟩

set_option maxRecDepth 100000 in
set_option maxHeartbeats 1000000 in
theorem trimRight_any (s : ByteArray) (w : World) (hs : s.size ≤ 2000000) :
    Calls Tryd.prog 53 #[.string s, .string ⟨#[0]⟩] w fun e w' => e = .returned (.string (trimB s)) ∧ w' = w := by
  by_cases h0 : s.size = 0
  · obtain rfl := text_nothing h0
    go_enter Tryd.func53, Tryd.ntmps53
    go_wp2
    go_ret
    exact ⟨rfl, rfl⟩
  · have e4 : (s.toList == []) = false := text_full s (by omega)
    have HC := Lib.hid (fun w => trimByte_any s w hs)
    clear h0
    go_enter Tryd.func53, Tryd.ntmps53
    go_wp2_with fail
    refine (HC.out _).mono ?_
    rintro e w1 ⟨rfl, rfl⟩
    go_wp2
    go_ret
    exact ⟨rfl, rfl⟩
end Go.Proofs.YtcckhkihhhchbaaDoor
