/- The model's PartsOf. -/
import Derived.Test.YtlnfbddamlhifaaRows
import Derived.Test.YtlnfbddamlhifaaPartsMath
import Derived.WalkKit
import Derived.WalkSpells
import Derived.WalkLawsBesides
import Derived.Lib.Hide
import Derived.Deep.AppendLies
namespace Go.Proofs.Ytlnfbddamlhifaa
open Go.RowKit Go.Proofs.Ytlnfbddamlhifaa.Parts Go.Proofs.Ytlnfbddamlhifaa.Hexa

theorem Try.infoStr : (Try.prog.info? 9).map (fun i => (i.zero, i.size, i.bytes)) = some (some (.string ⟨#[]⟩), 1, 16) := by kernel_rfl

/-- What a call of PartsOf leaves. -/
def PartsPost (s : ByteArray) (w : World) (e : Ending) (w' : World) : Prop :=
  ∃ v, e = .returned (.tuple #[v, .bool (partsOk s)]) ∧ w'.ownsRow w.heap.size 9 1 v (parts s).length (scells (parts s)) ∧ Below w.heap.size w w'

theorem partsPost_none {s : ByteArray} {w w' : World} {v : Value} {b : Bool} (h : parts s = [] ∧ partsOk s = b) (hown : w'.ownsRow w.heap.size 9 1 v 0 []) (hb : Below w.heap.size w w') :
    PartsPost s w (.returned (.tuple #[v, .bool b])) w' := ⟨v, by rw [h.2], by rw [h.1]; exact hown, hb⟩
theorem partsPost_some {s : ByteArray} {w w' : World} {v : Value} {n : Nat} {P : List ByteArray} (h : parts s = P ∧ partsOk s = true) (hown : w'.ownsRow w.heap.size 9 1 v n (scells P)) (hb : Below w.heap.size w w') :
    PartsPost s w (.returned (.tuple #[v, .bool true])) w' := by
  obtain ⟨h1, h2⟩ := h
  have : n = P.length := by have := own_length hown; simpa [scells] using this.symm
  subst this
  exact ⟨v, by rw [h2], by rw [h1]; exact hown, hb⟩

theorem specPartsOf_long (s : ByteArray) (w : World) (hs : 600 < s.size) :
    Calls Try.prog 11 #[.string s] w fun e w' => ∃ v, e = .returned (.tuple #[v, .bool false]) ∧ w'.ownsRow w.heap.size 9 1 v 0 [] ∧ Below w.heap.size w w' := by
  go_enter Try.func11, Try.ntmps11
  go_wp2
  go_ret2
  exact ⟨_, rfl, World.ownsRow_lit w #[] 0 (Nat.le_refl _) (by decide) rfl, (Below.refl _ _).alloc (Nat.le_refl _) _⟩

set_option maxHeartbeats 1000000 in
theorem specPartsOf_short (s : ByteArray) (w : World) (hs : s.size ≤ 600) :
    Calls Try.prog 11 #[.string s] w (PartsPost s w) := by
  obtain ⟨i0, hi, hz0, hz1, hz2⟩ := info_parts Try.infoStr
  go_enter Try.func11, Try.ntmps11
  go_wp2
  go_loopw [4, 5, 6] (fun v bv iv wr => ∃ (i b : Nat) (P : List ByteArray), i ≤ s.size + 1 ∧ b ≤ i ∧ P.length ≤ i ∧ Hid (i ≤ s.size → b = (st s i).1 ∧ P = (st s i).2) ∧ Hid (s.size < i → P = fin s) ∧ Hid (okTo s i) ∧
      iv = .int .i64 i ∧ bv = .int .i64 b ∧ wr.ownsRow w.heap.size 9 1 v P.length (scells P) ∧ Below w.heap.size w wr)
    (fun _ _ i _ => s.size + 1 - (intOf i).toNat)
  case atStart => exact ⟨0, 0, [], Nat.zero_le _, Nat.le_refl _, Nat.le_refl _, Lib.hid (fun _ => ⟨rfl, rfl⟩), Lib.hid (fun h => by omega), Lib.hid (fun j _ hj => by omega), rfl, rfl, World.ownsRow_lit w #[] 0 (Nat.le_refl _) (by decide) rfl, (Below.refl _ _).alloc (Nat.le_refl _) _⟩
  case round =>
    obtain ⟨i, b, P, hin, hbi, hPi, H1, H2, H3, rfl, rfl, hown, hbel⟩ := hrel
    by_cases hle : i ≤ s.size
    · by_cases hlt : i < s.size
      · by_cases c1 : (s[i].toNat : Int) < 32
        · go_wp2
          go_ret2
          exact partsPost_none (parts_bad i hlt (by omega)) (World.ownsRow_lit wr #[] 0 hbel.size (by decide) rfl) (hbel.alloc hbel.size _)
        · by_cases c2 : (126 : Int) < s[i].toNat
          · go_wp2
            go_ret2
            exact partsPost_none (parts_bad i hlt (by omega)) (World.ownsRow_lit wr #[] 0 hbel.size (by decide) rfl) (hbel.alloc hbel.size _)
          · by_cases c3 : (s[i].toNat : Int) = 32
            · by_cases hb : b < i
              · go_wp2_with (first | (at_builtin; refine wpList_append_own _ rfl (.tmp 48) (.tmp 53) 25 rfl w.heap.size 9 i0 (.string ⟨#[]⟩) 1 16 Try.underlying25 hi hz0 hz1 hz2 rfl (by decide) _ _ _ rfl (hown.alloc _) ⟨wr.heap.size, 0, none⟩ 1 1 [.string (s.extract b i)] rfl rfl (World.news_of_block (heap_alloc_new _ _)) (by simp [Value.oneCell']) (by unfold maxLen; omega) (by omega) (by have := hbel.size; simp; omega) ?_; intro v1 w1 hown1 hgrow1 hn1))
                have hb1 : Below w.heap.size w w1 := (hbel.alloc hbel.size _).grown hgrow1 (by have := hbel.size; simp; omega) (own_block_ge hown)
                have R := rel_space hlt c3 H1.out
                have R1 := Lib.hid R.1
                have R2 := Lib.hid R.2
                have HP := Lib.hid (put_yes (P := P) (s := s) hb)
                have HO : Hid (w1.ownsRow w.heap.size 9 1 v1 (put P s b i).length (scells (put P s b i))) := Lib.hid (by rw [put_yes hb]; simpa [scells, List.length_append] using hown1)
                have HL : (put P s b i).length ≤ i + 1 := by have := put_length P s b i; omega
                have G := Lib.hid (okTo_step H3.out hlt (by omega) (by omega))
                clear R hown1 hgrow1 hn1 hown
                go_wp2
                go_roundw
                case rel => exact ⟨i + 1, i + 1, put P s b i, by omega, by omega, HL, R1, R2, G, by go_num, by go_num, HO.out, hb1⟩
                case measure => (simp [intOf]; try omega)
              · have R := rel_space hlt c3 H1.out
                have R1 := Lib.hid R.1
                have R2 := Lib.hid R.2
                have HP := Lib.hid (put_no (P := P) (s := s) hb)
                have HO : Hid (wr.ownsRow w.heap.size 9 1 u4 (put P s b i).length (scells (put P s b i))) := Lib.hid (by rw [put_no hb]; exact hown)
                have HL : (put P s b i).length ≤ i + 1 := by have := put_length P s b i; omega
                have G := Lib.hid (okTo_step H3.out hlt (by omega) (by omega))
                clear R hown
                go_wp2
                go_roundw
                case rel => exact ⟨i + 1, i + 1, put P s b i, by omega, by omega, HL, R1, R2, G, by go_num, by go_num, HO.out, hbel⟩
                case measure => (simp [intOf]; try omega)
            · have R := rel_other hlt c3 H1.out
              have R1 := Lib.hid R.1
              have R2 := Lib.hid R.2
              have G := Lib.hid (okTo_step H3.out hlt (by omega) (by omega))
              clear R
              go_wp2
              go_roundw
              case rel => exact ⟨i + 1, b, P, by omega, by omega, by omega, R1, R2, G, by go_num, rfl, hown, hbel⟩
              case measure => (simp [intOf]; try omega)
      · obtain rfl : i = s.size := by omega
        by_cases hb : b < s.size
        · go_wp2_with (first | (at_builtin; refine wpList_append_own _ rfl (.tmp 48) (.tmp 53) 25 rfl w.heap.size 9 i0 (.string ⟨#[]⟩) 1 16 Try.underlying25 hi hz0 hz1 hz2 rfl (by decide) _ _ _ rfl (hown.alloc _) ⟨wr.heap.size, 0, none⟩ 1 1 [.string (s.extract b s.size)] rfl rfl (World.news_of_block (heap_alloc_new _ _)) (by simp [Value.oneCell']) (by unfold maxLen; omega) (by omega) (by have := hbel.size; simp; omega) ?_; intro v1 w1 hown1 hgrow1 hn1))
          have hb1 : Below w.heap.size w w1 := (hbel.alloc hbel.size _).grown hgrow1 (by have := hbel.size; simp; omega) (own_block_ge hown)
          have R := rel_end H1.out
          have R1 := Lib.hid R.1
          have R2 := Lib.hid R.2
          have HP := Lib.hid (put_yes (P := P) (s := s) hb)
          have HO : Hid (w1.ownsRow w.heap.size 9 1 v1 (put P s b s.size).length (scells (put P s b s.size))) := Lib.hid (by rw [put_yes hb]; simpa [scells, List.length_append] using hown1)
          have HL : (put P s b s.size).length ≤ s.size + 1 := by have := put_length P s b s.size; omega
          have G := Lib.hid (okTo_end H3.out)
          clear R hown1 hgrow1 hn1 hown
          go_wp2
          go_roundw
          case rel => exact ⟨s.size + 1, s.size + 1, put P s b s.size, by omega, by omega, HL, R1, R2, G, by go_num, by go_num, HO.out, hb1⟩
          case measure => (simp [intOf]; try omega)
        · have R := rel_end H1.out
          have R1 := Lib.hid R.1
          have R2 := Lib.hid R.2
          have HP := Lib.hid (put_no (P := P) (s := s) hb)
          have HO : Hid (wr.ownsRow w.heap.size 9 1 u4 (put P s b s.size).length (scells (put P s b s.size))) := Lib.hid (by rw [put_no hb]; exact hown)
          have HL : (put P s b s.size).length ≤ s.size + 1 := by have := put_length P s b s.size; omega
          have G := Lib.hid (okTo_end H3.out)
          clear R hown
          go_wp2
          go_roundw
          case rel => exact ⟨s.size + 1, s.size + 1, put P s b s.size, by omega, by omega, HL, R1, R2, G, by go_num, by go_num, HO.out, hbel⟩
          case measure => (simp [intOf]; try omega)
    · obtain rfl : i = s.size + 1 := by omega
      have e := H2.out (by omega)
      have G : okTo s s.size := fun j hj hh => H3.out j hj (by omega)
      by_cases h12 : P.length ≤ 12
      · have R := Lib.hid (parts_yes G (by rw [← e]; exact h12))
        have E := Lib.hid e
        clear e
        obtain ⟨ad, cap, rfl, hcap, hnc, hr⟩ := own_form hown
        clear hr
        go_wp2
        go_ret2
        exact partsPost_some (by rw [E.out]; exact R.out) hown hbel
      · have R := Lib.hid (parts_many (s := s) (by rw [← e]; omega))
        clear e
        obtain ⟨ad, cap, rfl, hcap, hnc, hr⟩ := own_form hown
        clear hr
        go_wp2
        go_ret2
        exact partsPost_none R.out (World.ownsRow_lit wr #[] 0 hbel.size (by decide) rfl) (hbel.alloc hbel.size _)
end Go.Proofs.Ytlnfbddamlhifaa
