/- The model's DrawPlaces: twelve drawn numbers from 0 to 9999. -/
import Derived.Test.YtakkodpekegioaaDrawLem
import Derived.Deep.AppendLies
namespace Go.Proofs.Ytakkodpekegioaa
open Go.RowKit
namespace Draw

def icells (xs : List Int) : List Value := xs.map (Value.int .i64)
def PlacesPost (w : World) (e : Ending) (w' : World) : Prop :=
  ∃ (v : Value) (xs : List Int), xs.length = 12 ∧ (∀ x ∈ xs, 0 ≤ x ∧ x < 10000) ∧ e = .returned v ∧ w'.ownsRow (w.heap.size + 1) 3 1 v 12 (icells xs) ∧ Below w.heap.size w w'

theorem Try.infoInt : (Try.prog.info? 3).map (fun i => (i.zero, i.size, i.bytes)) = some (some (.int .i64 0), 1, 8) := by kernel_rfl

set_option maxHeartbeats 1000000 in
theorem places_any (ad : Option Addr) (len cap : Nat) (w : World) (hlen : len ≤ 1048576) (hs : Src w w.heap.size ad len) :
    Calls Try.prog 11 #[.slice ad len cap] w (PlacesPost w) := by
  obtain ⟨i0, hi, hz0, hz1, hz2⟩ := info_parts Try.infoInt
  have HS := Lib.hid hs
  clear hs
  go_enter Try.func11, Try.ntmps11
  go_wp2_with fail
  refine (new_any ad len cap w hlen HS.out).mono ?_
  rintro e w1 ⟨rfl, h, rfl⟩
  have C1 : Hid (Cur ((w.alloc (.cells #[.slice ad len cap, .int .i64 0, .int .i64 h] 39)).alloc (.cells #[] 3)) w.heap.size ad len cap) :=
    Lib.hid (cur_grown (c := w.heap.size) ⟨0, h, Nat.zero_le _, heap_alloc_new w _⟩ (grown_alloc _ _ none) (by simp))
  have S1 : Hid (Src ((w.alloc (.cells #[.slice ad len cap, .int .i64 0, .int .i64 h] 39)).alloc (.cells #[] 3)) w.heap.size ad len) :=
    Lib.hid (src_grown' (src_grown' HS.out (grown_alloc _ _ none) (fun k e => by cases e) (Nat.le_refl _)) (grown_alloc _ _ none) (fun k e => by cases e) (by simp))
  have B1 : Hid (Below w.heap.size w ((w.alloc (.cells #[.slice ad len cap, .int .i64 0, .int .i64 h] 39)).alloc (.cells #[] 3))) :=
    Lib.hid (((Below.refl _ _).alloc (Nat.le_refl _) _).alloc (by simp) _)
  have O1 : Hid (((w.alloc (.cells #[.slice ad len cap, .int .i64 0, .int .i64 h] 39)).alloc (.cells #[] 3)).ownsRow (w.heap.size + 1) 3 1 (.slice (some ⟨w.heap.size + 1, 0, none⟩) 0 0) 0 (icells [])) :=
    Lib.hid (by simpa [icells] using World.ownsRow_lit (e := 3) (size := 1) (base := w.heap.size + 1) (w.alloc (.cells #[.slice ad len cap, .int .i64 0, .int .i64 h] 39)) #[] 0 (by simp) (by decide) rfl)
  go_wp2
  go_loopw [4, 5] (fun v iv wr => ∃ (k : Nat) (xs : List Int), k ≤ 12 ∧ Hid (xs.length = k) ∧ Hid (∀ x ∈ xs, 0 ≤ x ∧ x < 10000) ∧ iv = .int .i64 k ∧ Hid (wr.ownsRow (w.heap.size + 1) 3 1 v k (icells xs)) ∧ Hid (Cur wr w.heap.size ad len cap) ∧ Hid (Src wr w.heap.size ad len) ∧ Hid (Below w.heap.size w wr))
    (fun _ iv _ => 12 - (intOf iv).toNat)
  case atStart => exact ⟨0, [], Nat.zero_le _, Lib.hid rfl, Lib.hid (fun x hx => by cases hx), rfl, O1, C1, S1, B1⟩
  case round =>
    obtain ⟨k, xs, hk, HL, HX, rfl, HO, HC, HR, HB⟩ := hrel
    clear O1 C1 S1 B1
    by_cases hlt : k < 12
    · go_wp2_with fail
      refine (below_any w.heap.size ad len cap 10000 wr hlen (by decide) (by decide) HC.out HR.out).mono ?_
      rintro e w1 ⟨x, x0, x1, rfl, hc1, hg1⟩
      have hown1 := own_kept HO.out hg1
      have hsz1 : w.heap.size + 1 ≤ w1.heap.size := by have := cur_lt hc1; omega
      have S1 := Lib.hid (src_grown HR.out hg1 (cur_lt HC.out))
      have B1 := Lib.hid (HB.out.grown hg1 (HB.out.size) (fun k e => by simp at e; omega))
      have C1 := Lib.hid hc1
      clear hc1 hg1
      go_wp2_with (at_builtin; refine wpList_append_own _ rfl (.tmp 13) (.tmp 16) 24 rfl (w.heap.size + 1) 3 i0 (.int .i64 0) 1 8 Try.underlying24 hi hz0 hz1 hz2 rfl (by decide) _ _ _ rfl (hown1.alloc _) ⟨w1.heap.size, 0, none⟩ 1 1 [.int .i64 x] rfl rfl (World.news_of_block (heap_alloc_new _ _)) (by simp [Value.oneCell']) (by unfold maxLen; omega) (by omega) (by simp; omega) ?_; intro v2 w2 hown2 hgrow2 hn2)
      have hrow : ∀ k, u4.ownBlock = some k → w.heap.size ≤ k := fun k e => by have := Hexa.own_block_ge HO.out k e; omega
      have C2 := Lib.hid (cur_grown (cur_grown C1.out (grown_alloc _ _ none) (by simp)) hgrow2 (own_not HO.out))
      have S2 := Lib.hid (src_grown' (src_grown' S1.out (grown_alloc _ _ none) (fun k e => by cases e) (by omega)) hgrow2 hrow (by simp; omega))
      have B2 := Lib.hid ((B1.out.alloc (by omega) _).grown hgrow2 (by simp; omega) hrow)
      have HO2 : Hid (w2.ownsRow (w.heap.size + 1) 3 1 v2 (k + 1) (icells (xs ++ [x]))) := Lib.hid (by simpa [icells] using hown2)
      have HL2 : Hid ((xs ++ [x]).length = k + 1) := Lib.hid (by have := HL.out; simp; omega)
      have HX2 : Hid (∀ y ∈ xs ++ [x], 0 ≤ y ∧ y < 10000) := Lib.hid (fun y hy => by
        rcases List.mem_append.1 hy with h1 | h1
        · exact HX.out y h1
        · obtain rfl := List.mem_singleton.1 h1; exact ⟨x0, x1⟩)
      clear hown1 hown2 hgrow2 hn2 hrow hsz1
      go_wp2
      go_roundw
      case rel => exact ⟨k + 1, xs ++ [x], by omega, HL2, HX2, by go_num, HO2, C2, S2, B2⟩
      case measure => (simp [intOf]; try omega)
    · obtain rfl : k = 12 := by omega
      go_wp2
      go_ret
      exact ⟨_, xs, HL.out, HX.out, rfl, HO.out, HB.out⟩
end Draw
end Go.Proofs.Ytakkodpekegioaa
