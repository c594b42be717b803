/- The program's PartsOf. -/
import Derived.Test.YtlnfbddamlhifaaPartsSpec
import Derived.Test.YtlnfbddamlhifaaShelf
namespace Go.Proofs.Ytlnfbddamlhifaa
open Go.RowKit Go.Proofs.Ytlnfbddamlhifaa.Parts Go.Proofs.Ytlnfbddamlhifaa.Hexa

set_option maxHeartbeats 400000 in
theorem clone_any (s : ByteArray) (w : World) (hs : s.size ≤ 1048576) :
    Calls Try.prog 24 #[.string s] w fun e w' => e = .returned (.string s) ∧ Below w.heap.size w w' := by
  go_enter Try.func24, Try.ntmps24
  go_wp2_with (go_at_call 26; refine (Try.stringslite_Clone _ _ (by omega)).mono ?_; rintro e w1 ⟨rfl, hb1⟩)
  go_ret
  exact ⟨rfl, hb1⟩

def PartPost (base : Nat) (P : List ByteArray) (w : World) (e : Ending) (w' : World) : Prop :=
  ∃ v, e = .returned v ∧ w'.ownsRow base 9 1 v P.length (scells P) ∧ Below base w w'

set_option maxHeartbeats 400000 in
theorem withPart_any (base : Nat) (v : Value) (P : List ByteArray) (r : ByteArray) (w : World) (hP : P.length ≤ 1000) (hr : r.size ≤ 1048576) (hbase : base ≤ w.heap.size)
    (hown : w.ownsRow base 9 1 v P.length (scells P)) :
    Calls Try.prog 21 #[v, .string r] w (PartPost base (addRun P r) w) := by
  obtain ⟨i0, hi, hz0, hz1, hz2⟩ := info_parts Try.infoStr
  by_cases h : r.toList.isEmpty = true
  · have e : addRun P r = P := by unfold addRun; rw [if_pos h]
    rw [e]
    clear e
    go_enter Try.func21, Try.ntmps21
    go_wp2
    go_ret
    exact ⟨v, rfl, hown, Below.refl _ _⟩
  · have h' : r.toList.isEmpty = false := by simpa using h
    have e : addRun P r = P ++ [r] := by unfold addRun; rw [if_neg h]
    rw [e]
    clear e h
    go_enter Try.func21, Try.ntmps21
    go_wp2_with (first
      | (go_at_call 24; refine (clone_any _ _ hr).mono ?_; rintro e w1 ⟨rfl, hb1⟩; have hown1 := own_below hown hb1; have hs1 := hb1.size)
      | (at_builtin; refine wpList_append_own _ rfl (.tmp 8) (.tmp 11) 25 rfl base 9 i0 (.string ⟨#[]⟩) 1 16 Try.underlying25 hi hz0 hz1 hz2 rfl (by decide) _ _ _ rfl (hown1.alloc _) ⟨w1.heap.size, 0, none⟩ 1 1 [.string r] rfl rfl (World.news_of_block (heap_alloc_new _ _)) (by simp [Value.oneCell']) (by unfold maxLen; omega) (by omega) (by simp; omega) ?_; intro v2 w2 hown2 hgrow2 hn2))
    go_ret
    exact ⟨v2, rfl, by simpa [scells] using hown2, ((hb1.mono hbase).alloc (by omega) _).grown hgrow2 (by simp; omega) (own_block_ge hown)⟩

set_option maxHeartbeats 400000 in
theorem implPartsOf_long (s : ByteArray) (w : World) (hs : 600 < s.size) :
    Calls Try.prog 12 #[.string s] w fun e w' => ∃ v, e = .returned (.tuple #[v, .bool false]) ∧ w'.ownsRow w.heap.size 9 1 v 0 [] ∧ Below w.heap.size w w' := by
  go_enter Try.func12, Try.ntmps12
  go_wp2
  go_step3
  go_wp2
  rw [Exit.noGoto_ret]
  go_ret2
  exact ⟨_, rfl, World.ownsRow_nil _ _ _ _, Below.refl _ _⟩

set_option maxHeartbeats 1000000 in
theorem implPartsOf_short (s : ByteArray) (w : World) (hs : s.size ≤ 600) :
    Calls Try.prog 12 #[.string s] w (PartsPost s w) := by
  go_enter Try.func12, Try.ntmps12
  go_wp2
  go_step3
  go_wp2
  go_step3
  go_wp2
  go_loopw [4, 5, 6] (fun v bv iv wr => ∃ (i b : Nat) (P : List ByteArray), i ≤ s.size ∧ b ≤ i ∧ P.length ≤ i ∧ Hid (i ≤ s.size → b = (st s i).1 ∧ P = (st s i).2) ∧ Hid (okTo s i) ∧
      iv = .int .i64 i ∧ bv = .int .i64 b ∧ wr.ownsRow w.heap.size 9 1 v P.length (scells P) ∧ Below w.heap.size w wr)
    (fun _ _ i _ => s.size - (intOf i).toNat)
  case atStart => exact ⟨0, 0, [], Nat.zero_le _, Nat.le_refl _, Nat.le_refl _, Lib.hid (fun _ => ⟨rfl, rfl⟩), Lib.hid (fun j _ hj => by omega), rfl, rfl, World.ownsRow_nil _ _ _ _, Below.refl _ _⟩
  case round =>
    obtain ⟨i, b, P, hin, hbi, hPi, H1, H3, rfl, rfl, hown, hbel⟩ := hrel
    have he := ext_size s b i
    by_cases hlt : i < s.size
    · by_cases c1 : (s[i].toNat : Int) < 32
      · have R := Lib.hid (parts_bad i hlt (by omega))
        go_wp2_with (go_at_call 21; refine (withPart_any w.heap.size _ P _ _ (by omega) (by omega) hbel.size hown).mono ?_; rintro e w1 ⟨v1, rfl, hown1, hb1⟩)
        rw [Exit.noGoto_ret]
        go_ret2
        exact partsPost_none R.out (World.ownsRow_nil _ _ _ _) (hbel.trans hb1)
      · by_cases c2 : (126 : Int) < s[i].toNat
        · have R := Lib.hid (parts_bad i hlt (by omega))
          go_wp2_with (go_at_call 21; refine (withPart_any w.heap.size _ P _ _ (by omega) (by omega) hbel.size hown).mono ?_; rintro e w1 ⟨v1, rfl, hown1, hb1⟩)
          rw [Exit.noGoto_ret]
          go_ret2
          exact partsPost_none R.out (World.ownsRow_nil _ _ _ _) (hbel.trans hb1)
        · by_cases c3 : (s[i].toNat : Int) = 32
          · have R := rel_space hlt c3 H1.out
            have R1 := Lib.hid R.1
            have HE := Lib.hid (addRun_eq P s b i hin)
            have HL : (put P s b i).length ≤ i + 1 := by have := put_length P s b i; omega
            have G := Lib.hid (okTo_step H3.out hlt (by omega) (by omega))
            clear R
            go_wp2_with (go_at_call 21; refine (withPart_any w.heap.size _ P _ _ (by omega) (by omega) hbel.size hown).mono ?_; rintro e w1 ⟨v1, rfl, hown1, hb1⟩)
            rw [HE.out] at hown1
            go_roundw
            case rel => exact ⟨i + 1, i + 1, put P s b i, by omega, by omega, HL, R1, G, by go_num, by go_num, hown1, hbel.trans hb1⟩
            case measure => (simp [intOf]; try omega)
          · have R := rel_other hlt c3 H1.out
            have R1 := Lib.hid R.1
            have G := Lib.hid (okTo_step H3.out hlt (by omega) (by omega))
            clear R
            go_wp2
            go_roundw
            case rel => exact ⟨i + 1, b, P, by omega, by omega, by omega, R1, G, by go_num, rfl, hown, hbel⟩
            case measure => (simp [intOf]; try omega)
    · obtain rfl : i = s.size := by omega
      have E : Hid (addRun P (s.extract b s.size) = fin s) := Lib.hid (by rw [addRun_eq P s b s.size hin]; exact (rel_end H1.out).2 (by omega))
      by_cases h12 : (addRun P (s.extract b s.size)).length ≤ 12
      · have R := Lib.hid (parts_yes H3.out (by rw [← E.out]; exact h12))
        go_wp2_with (go_at_call 21; refine (withPart_any w.heap.size _ P _ _ (by omega) (by omega) hbel.size hown).mono ?_; rintro e w1 ⟨v1, rfl, hown1, hb1⟩; obtain ⟨ad, cap, rfl, hcap, hnc, hr⟩ := own_form hown1; clear hr)
        rw [Exit.noGoto_ret]
        go_ret2
        exact partsPost_some (by rw [E.out]; exact R.out) hown1 (hbel.trans hb1)
      · have R := Lib.hid (parts_many (s := s) (by rw [← E.out]; omega))
        go_wp2_with (go_at_call 21; refine (withPart_any w.heap.size _ P _ _ (by omega) (by omega) hbel.size hown).mono ?_; rintro e w1 ⟨v1, rfl, hown1, hb1⟩; obtain ⟨ad, cap, rfl, hcap, hnc, hr⟩ := own_form hown1; clear hr)
        rw [Exit.noGoto_ret]
        go_ret2
        exact partsPost_none R.out (World.ownsRow_nil _ _ _ _) (hbel.trans hb1)
end Go.Proofs.Ytlnfbddamlhifaa
