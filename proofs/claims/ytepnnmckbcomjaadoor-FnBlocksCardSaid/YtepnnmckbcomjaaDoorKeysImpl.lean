/- The program's RoundKeys. -/
import Derived.Test.YtepnnmckbcomjaaDoorAfterImpl
import Derived.Test.YtepnnmckbcomjaaDoorKeysText
namespace Go.Proofs.YtepnnmckbcomjaaDoor
open Go.RowKit Go.Proofs.YtepnnmckbcomjaaDoor.Hexa Go.Proofs.YtepnnmckbcomjaaDoor.Byt Go.Proofs.YtepnnmckbcomjaaDoor.Aes Go.Proofs.YtepnnmckbcomjaaDoor.Parts

theorem implAfter_key (s : ByteArray) (hs : s.size = 16) (j : Nat) (hj : j < 10) (w : World) :
    Calls Tryd.prog 24 #[.string (keyT s j), .int .i64 ((j : Int) + 1)] w fun e w' => e = .returned (.string (keyT s (j + 1))) ∧ Below w.heap.size w w' := by
  have := implAfter_any (keyT s j) (j + 1) w (keyT_size s hs j (by omega)) (by omega) (by omega)
  rw [keyT_next s hs j hj] at this
  exact this

set_option maxHeartbeats 1000000 in
theorem implKeys_yes (s : ByteArray) (w : World) (hs : s.size = 16) :
    Calls Tryd.prog 11 #[.string s] w (GivesK (keysTo s 11) w) := by
  obtain ⟨i0, hi, hz0, hz1, hz2⟩ := info_parts infoKeys
  unfold GivesK
  rw [keysTo_length]
  have k1 := Lib.hid fun j hj w => implAfter_key s hs j hj w
  have HK := Lib.hid fun n => keysTo_next s n
  have HA := Lib.hid fun n i h => keysTo_at s n i h
  have H1 := Lib.hid (keysTo_one s hs)
  go_enter Tryd.func11, Tryd.ntmps11
  go_wp2_with fail
  go_loopw [3, 4] (fun v kv wr => ∃ j : Nat, j ≤ 10 ∧ kv = .int .i64 ((j : Int) + 1) ∧ Hid (wr.ownsRow w.heap.size 9 1 v (j + 1) (scells (keysTo s (j + 1)))) ∧ Below w.heap.size w wr)
    (fun _ kv _ => 11 - (intOf kv).toNat)
  case atStart => exact ⟨0, Nat.zero_le _, rfl, Lib.hid (by rw [H1.out]; exact World.ownsRow_lit w #[.string s] 1 (Nat.le_refl _) (by decide) rfl), (Below.refl _ _).alloc (Nat.le_refl _) _⟩
  case round =>
    obtain ⟨j, hj, rfl, HW, hbel⟩ := hrel
    obtain ⟨ad, cap, hv, hc1, hc2, hr⟩ := own_form HW.out
    subst hv
    obtain ⟨g, hg, hc⟩ := hr j (by simp [scells, keysTo_length])
    subst hg
    rw [HA.out (j + 1) j (by omega)] at hc
    clear hr
    by_cases hlt : j < 10
    · go_wp2_with (first
        | (go_at_call 24; refine (k1.out j hlt _).mono ?_; rintro e w1 ⟨rfl, hb1⟩; have hb2 : Below w.heap.size w w1 := hbel.trans (hb1.mono hbel.size); have HW1 := Lib.hid (own_below HW.out hb1))
        | (at_builtin; refine wpList_append_own _ rfl (.tmp 14) (.tmp 22) 29 rfl w.heap.size 9 i0 (.string ⟨#[]⟩) 1 16 Tryd.underlying29 hi hz0 hz1 hz2 rfl (by decide) _ _ _ rfl (HW1.out.alloc _) ⟨w1.heap.size, 0, none⟩ 1 1 [.string (keyT s (j + 1))] rfl rfl (World.news_of_block (heap_alloc_new _ _)) (by simp [Value.oneCell']) (by unfold maxLen; omega) (by omega) (by have := hb2.size; simp; omega) ?_; intro v2 w2 hown2 hgrow2 hn2))
      have hb3 : Below w.heap.size w w2 := (hb2.alloc hb2.size _).grown hgrow2 (by have := hb2.size; simp; omega) (own_block_ge HW1.out)
      rw [HK.out (j + 1)] at hown2
      have HO2 := Lib.hid hown2
      clear hown2 hgrow2 hn2
      go_roundw
      case rel => exact ⟨j + 1, by omega, by go_num, HO2, hb3⟩
      case measure => (simp [intOf]; try omega)
    · obtain rfl : j = 10 := by omega
      go_wp2
      go_ret
      exact ⟨_, rfl, HW.out, hbel⟩

set_option maxHeartbeats 400000 in
theorem implKeys_no (s : ByteArray) (w : World) (hs : ¬ s.size = 16) :
    Calls Tryd.prog 11 #[.string s] w (GivesK [] w) := by
  go_enter Tryd.func11, Tryd.ntmps11
  go_wp2
  go_ret
  exact ⟨_, rfl, World.ownsRow_nil _ _ _ 1, Below.refl _ _⟩
end Go.Proofs.YtepnnmckbcomjaaDoor
