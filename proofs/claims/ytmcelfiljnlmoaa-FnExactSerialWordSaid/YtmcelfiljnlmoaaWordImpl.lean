/- The program's WordText. -/
import Derived.Test.YtmcelfiljnlmoaaMade
import Derived.WalkKit
import Derived.WalkSpells
import Derived.WalkLawsBesides
import Derived.Deep.RegionLaw
import Derived.Lib.Hide
namespace Go.Proofs.Ytmcelfiljnlmoaa
open Go.RowKit Go.Proofs.Ytmcelfiljnlmoaa.Hexa Go.Proofs.Ytmcelfiljnlmoaa.Byt Go.Proofs.Ytmcelfiljnlmoaa.BitsM

theorem wordB_list (s : ByteArray) (h : s.size ≤ 8) : (⟨(s.data.toList ++ (partB [] 8).drop s.size).toArray⟩ : ByteArray) = wordB s := by
  have hE : wordB s = s ++ longB (8 - s.size) 0 := if_pos h
  rw [hE, partB_nil, List.drop_replicate]
  apply ByteArray.ext
  apply Array.toList_inj.1
  rw [ByteArray.data_append, Array.toList_append]
  rfl

set_option maxRecDepth 100000 in
set_option maxHeartbeats 1000000 in
theorem implWord_any (s : ByteArray) (w : World) :
    Calls Try.prog 76 #[.string s] w fun e w' => e = .returned (.string (wordB s)) ∧ Below w.heap.size w w' := by
  by_cases h : s.size ≤ 8
  · obtain ⟨i0, hi, hz0, hz1, hz2⟩ := info_parts infoByte
    have HE := Lib.hid (wordB_list s h)
    go_enter Try.func76, Try.ntmps76
    go_wp2_with (at_make; refine wpList_make_full _ rfl _ _ 48 rfl w.heap.size 5 i0 (.int .u8 0) 1 Try.underlying48 hi hz0 hz1 .i64 .i64 _ _ 8 rfl rfl rfl rfl (by rw [hz2]; omega) (by unfold maxLen; omega) (Nat.le_refl _) ?_; intro w0 hown0 hgrow0; have hg0 : Below w.heap.size w w0 := (Below.refl _ _).grown hgrow0 (Nat.le_refl _) (fun k h => by cases h); obtain ⟨w1, hrun, hb1, hg1⟩ := bytes_copy (P := Try.prog) (u := 9) (ty := 3) Try.underlying48 hi hz1 (partB_length [] 8 (by decide)) (part_start hown0) s h; have hconv := bytes_string (P := Try.prog) 48 9 Try.underlying48 Try.underlying5 Try.underlying9 hb1; rw [HE.out] at hconv; clear hown0 hgrow0 hb1)
    go_ret
    exact ⟨rfl, hg0.trans hg1⟩
  · have HE : Hid (wordB s = ⟨#[]⟩) := Lib.hid (if_neg h)
    have hlt : 8 < s.size := by omega
    go_enter Try.func76, Try.ntmps76
    go_wp2
    go_ret
    exact ⟨by rw [HE.out]; rfl, Below.refl _ _⟩
end Go.Proofs.Ytmcelfiljnlmoaa
