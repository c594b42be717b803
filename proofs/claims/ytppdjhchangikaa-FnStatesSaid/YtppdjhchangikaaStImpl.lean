/- The program's page states: StatesOk, PagesWith, FirstClean. -/
import Derived.Test.YtppdjhchangikaaStSpecB
import Derived.Test.YtppdjhchangikaaRangeImpl
namespace Go.Proofs.Ytppdjhchangikaa
open Go.RowKit Go.Proofs.Ytppdjhchangikaa.Parts Go.Proofs.Ytppdjhchangikaa.Hexa

set_option maxRecDepth 100000 in
set_option maxHeartbeats 1000000 in
theorem implStOk_any (a : Option Addr) (n c : Nat) (zs : List Int) (p : Int) (w : World) (hs : SrcI w a n zs) (hn : n ≤ 2000000) :
    Calls Try.prog 21 #[.slice a n c, .int .i64 p] w fun e w' => e = .returned (.bool (stB zs p)) ∧ w' = w := by
  have HS := Lib.hid hs
  have HL := Lib.hid hs.len
  clear hs
  by_cases he : (n : Int) = p
  · subst he
    have e1 : ((n : Int) != (n : Int)) = false := by simp
    by_cases h : 1 ≤ (n : Int) ∧ (n : Int) ≤ 12
    · have HP := Lib.hid h
      go_enter Try.func21, Try.ntmps21
      go_wp2_with fail
      refine (implIn_yes _ h).mono ?_
      rintro e w1 ⟨rfl, rfl⟩
      clear h
      go_wp2
      go_loop [18] (fun iv => ∃ k : Nat, k ≤ n ∧ iv = .int .i64 k ∧ Hid (StR zs k)) (fun iv => n - (intOf iv).toNat)
      case atStart => exact ⟨0, Nat.zero_le _, rfl, Lib.hid (fun j hj => by omega)⟩
      case round =>
        obtain ⟨k, hk, rfl, HR⟩ := hrel
        by_cases hlt : k < n
        · obtain ⟨g, off, rfl, _, d⟩ := HS.out.cell k hlt
          obtain ⟨x, hx⟩ : ∃ x, zs.getD k 0 = x := ⟨_, rfl⟩
          rw [hx] at d
          have HX := Lib.hid hx
          clear hx
          by_cases h : 0 ≤ x ∧ x ≤ 2
          · have HR2 : Hid (StR zs (k + 1)) := Lib.hid (fun j hj => by
              by_cases e : j = k
              · subst e; rw [HX.out]; exact h
              · exact HR.out j (by omega))
            go_wp2_with fail
            refine (implIn_yes _ h).mono ?_
            rintro e w1 ⟨rfl, rfl⟩
            clear h
            go_wp2
            go_round
            case rel => exact ⟨k + 1, by omega, by go_num, HR2⟩
            case measure => (simp [intOf]; try omega)
          · have HN := Lib.hid (stB_no (zs := zs) (p := (n : Int)) (fun h9 => h (by rw [← HX.out]; exact h9.1 k (by have := HL.out; omega))))
            go_wp2_with fail
            refine (implIn_no _ h).mono ?_
            rintro e w1 ⟨rfl, rfl⟩
            clear h
            go_wp2
            go_ret
            exact ⟨by rw [HN.out]; rfl, rfl⟩
        · obtain rfl : n = k := by omega
          have HN := Lib.hid (stB_yes (zs := zs) (p := (n : Int)) ⟨by rw [HL.out]; exact HR.out, by rw [HL.out], HP.out⟩)
          go_wp2
          go_ret
          exact ⟨by rw [HN.out]; rfl, rfl⟩
    · have HN := Lib.hid (stB_no (zs := zs) (p := (n : Int)) (fun h9 => h h9.2.2))
      go_enter Try.func21, Try.ntmps21
      go_wp2_with fail
      refine (implIn_no _ h).mono ?_
      rintro e w1 ⟨rfl, rfl⟩
      clear h
      go_wp2
      go_ret
      exact ⟨by rw [HN.out]; rfl, rfl⟩
  · have HN := Lib.hid (stB_no (zs := zs) (p := p) (fun h9 => he (by rw [← h9.2.1, HL.out])))
    have e1 : ((n : Int) != p) = true := by simpa using he
    clear he
    go_enter Try.func21, Try.ntmps21
    go_wp2
    go_ret
    exact ⟨by rw [HN.out]; rfl, rfl⟩

set_option maxRecDepth 100000 in
set_option maxHeartbeats 1000000 in
theorem implPagesWith_any (a : Option Addr) (n c : Nat) (zs : List Int) (s : Int) (w : World) (hs : SrcI w a n zs) (hn : n ≤ 2000000) :
    Calls Try.prog 18 #[.slice a n c, .int .i64 s] w (GivesI (withSt zs s n) w) := by
  obtain ⟨i0, hi, hz0, hz1, hz2⟩ := info_parts infoInt
  have HS := Lib.hid hs
  clear hs
  go_enter Try.func18, Try.ntmps18
  go_wp2
  go_loopw [5, 10] (fun v iv wr => ∃ (k : Nat) (P : List Int), k ≤ n ∧ iv = .int .i64 k ∧ Hid (P = withSt zs s k) ∧ Hid (wr.ownsRow w.heap.size 3 1 v P.length (icells P)) ∧ Hid (Below w.heap.size w wr)) (fun _ iv _ => n - (intOf iv).toNat)
  case atStart => exact ⟨0, [], Nat.zero_le _, rfl, Lib.hid rfl, Lib.hid (World.ownsRow_nil _ _ _ 1), Lib.hid (Below.refl _ _)⟩
  case round =>
    obtain ⟨k, P, hk, rfl, HP, HO, HB⟩ := hrel
    by_cases hlt : k < n
    · obtain ⟨g, off, rfl, _, d⟩ := (HS.out.later HB.out).cell k hlt
      obtain ⟨x, hx⟩ : ∃ x, zs.getD k 0 = x := ⟨_, rfl⟩
      rw [hx] at d
      have hpl : P.length ≤ 2000000 := by rw [HP.out]; have := withSt_len zs s k; omega
      have hsz := HB.out.size
      by_cases h : x = s
      · subst h
        have HE := Lib.hid (withSt_yes (zs := zs) (s := x) hx)
        clear hx
        go_wp2_with (at_builtin; refine wpList_append_own _ rfl (.tmp 18) (.tmp 20) 24 rfl w.heap.size 3 i0 (.int .i64 0) 1 8 Try.underlying24 hi hz0 hz1 hz2 rfl (by decide) _ _ _ rfl (HO.out.alloc _) ⟨wr.heap.size, 0, none⟩ 1 1 [.int .i64 k] rfl rfl (World.news_of_block (heap_alloc_new _ _)) (by simp [Value.oneCell']) (by unfold maxLen; omega) (by omega) (by simp; omega) ?_; intro v2 w2 hown2 hgrow2 hn2)
        have HB2 : Hid (Below w.heap.size w w2) := Lib.hid ((HB.out.alloc hsz _).grown hgrow2 (by simp; omega) (fun k e => (HO.out.lt k e).1))
        have HO2 : Hid (w2.ownsRow w.heap.size 3 1 v2 (P ++ [(k : Int)]).length (icells (P ++ [(k : Int)]))) := Lib.hid (by simpa [icells, List.length_append] using hown2)
        clear hown2 hgrow2 hn2 HO HB d
        go_wp2
        go_roundw
        case rel => exact ⟨k + 1, P ++ [(k : Int)], by omega, by go_num, Lib.hid (by rw [HP.out]; exact HE.out.symm), HO2, HB2⟩
        case measure => (simp [intOf]; try omega)
      · have HE := Lib.hid (withSt_no (zs := zs) (s := s) (n := k) (by rw [hx]; exact h))
        have e1 : (x == s) = false := by simpa using h
        clear hx h
        go_wp2
        go_roundw
        case rel => exact ⟨k + 1, P, by omega, by go_num, Lib.hid (by rw [HP.out]; exact HE.out.symm), HO, HB⟩
        case measure => (simp [intOf]; try omega)
    · obtain rfl : n = k := by omega
      go_wp2
      go_ret
      exact ⟨_, rfl, by rw [← HP.out]; exact HO.out, HB.out⟩
end Go.Proofs.Ytppdjhchangikaa
