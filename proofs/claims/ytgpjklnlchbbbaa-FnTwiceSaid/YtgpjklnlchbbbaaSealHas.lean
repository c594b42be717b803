/- The model's NoncesOf. -/
import Derived.Test.YtgpjklnlchbbbaaSealM
import Derived.Deep.AppendLies
namespace Go.Proofs.Ytgpjklnlchbbbaa
open Go.RowKit Go.Proofs.Ytgpjklnlchbbbaa.Parts Go.Proofs.Ytgpjklnlchbbbaa.Hexa

theorem ret_bool {a b : Bool} (h : a = b) : Ending.returned (.bool a) = .returned (.bool b) := by rw [h]

set_option maxRecDepth 100000 in
set_option maxHeartbeats 1000000 in
theorem l09Has_any (ad : Option Addr) (n c : Nat) (P : List ByteArray) (x : ByteArray) (w : World) (hP : P.length = n) (hn : n ≤ 100000000) (r1 : Reads w ad (scells P)) :
    Calls Try.prog 22 #[.slice ad n c, .string x] w fun e w' => e = .returned (.bool (decide (x ∈ P))) ∧ w' = w := by
  have HP := Lib.hid hP
  have R1 := Lib.hid r1
  clear hP r1
  go_enter Try.func22, Try.ntmps22
  go_wp2
  go_loopw [5] (fun iv wr => ∃ k : Nat, k ≤ n ∧ iv = .int .i64 k ∧ Hid (∀ j y, j < k → P[j]? = some y → y ≠ x) ∧ wr = w) (fun iv _ => n - (intOf iv).toNat)
  case atStart => exact ⟨0, Nat.zero_le _, rfl, Lib.hid (fun j y hj _ => by omega), rfl⟩
  case round =>
    obtain ⟨k, hk, rfl, HY, rfl⟩ := hrel
    by_cases hlt : k < n
    · obtain ⟨g, rfl, e1⟩ := R1.out k (by have := HP.out; simp [scells]; omega)
      have d1 := cell_text (by have := HP.out; omega) e1
      have hx : P[k]? = some (P[k]'(by have := HP.out; omega)) := List.getElem?_eq_getElem _
      obtain ⟨y, hy⟩ : ∃ y, P[k]'(by have := HP.out; omega) = y := ⟨_, rfl⟩
      rw [hy] at d1 hx
      have HX := Lib.hid hx
      clear e1 hy hx
      by_cases hyx : y = x
      · subst hyx
        go_wp2
        go_ret
        exact ⟨ret_bool (decide_eq_true (List.mem_of_getElem? HX.out)).symm, rfl⟩
      · have hne := text_ne hyx
        have hne' := text_ne' hyx
        have HN := Lib.hid hyx
        clear hyx
        go_wp2
        go_roundw
        case rel => exact ⟨k + 1, by omega, by go_num, Lib.hid (fun j z hj hz => by
          by_cases e : j = k
          · subst e; rw [HX.out] at hz; cases hz; exact HN.out
          · exact HY.out j z (by omega) hz), by first | rfl | trivial⟩
        case measure => (simp [intOf]; try omega)
    · obtain rfl : k = n := by omega
      go_wp2
      go_ret
      have hx : ¬ x ∈ P := fun hx => by
        obtain ⟨j, hj, he⟩ := List.getElem_of_mem hx
        exact HY.out j x (by have := HP.out; omega) (by rw [List.getElem?_eq_getElem hj, he]) rfl
      exact ⟨ret_bool (decide_eq_false hx).symm, rfl⟩

theorem infoStr : (Try.prog.info? 9).map (fun i => (i.zero, i.size, i.bytes)) = some (some (.string ⟨#[]⟩), 1, 16) := by kernel_rfl

/-- What a call of NoncesOf gives: some slice that owns these texts. -/
def GivesT (P : List ByteArray) (w : World) (e : Ending) (w' : World) : Prop :=
  ∃ v, e = .returned v ∧ w'.ownsRow w.heap.size 9 1 v P.length (scells P) ∧ Below w.heap.size w w'

set_option maxRecDepth 100000 in
set_option maxHeartbeats 1000000 in
theorem specNonces_any (a : Option Addr) (n c : Nat) (L : List S3) (w : World) (hs : SrcS w a n L) (hn : n ≤ 1048580) :
    Calls Try.prog 12 #[.slice a n c] w (GivesT (noncesB L) w) := by
  obtain ⟨i0, hi, hz0, hz1, hz2⟩ := info_parts infoStr
  have HS := Lib.hid hs
  have hL := Lib.hid hs.len
  clear hs
  go_enter Try.func12, Try.ntmps12
  go_wp2
  go_loopw [3, 4] (fun v iv wr => ∃ (k : Nat) (P : List ByteArray), k ≤ n ∧ P.length ≤ k ∧ iv = .int .i64 k ∧ Hid (P = noncesTo L k) ∧ wr.ownsRow w.heap.size 9 1 v P.length (scells P) ∧ Below w.heap.size w wr)
    (fun _ iv _ => n - (intOf iv).toNat)
  case atStart => exact ⟨0, [], Nat.zero_le _, Nat.le_refl _, rfl, Lib.hid rfl, World.ownsRow_lit w #[] 0 (Nat.le_refl _) (by decide) rfl, (Below.refl _ _).alloc (Nat.le_refl _) _⟩
  case round =>
    obtain ⟨k, P, hk, hP, rfl, HP, hown, hbel⟩ := hrel
    obtain ⟨ad, cap, rfl, hcap, hnc, hr⟩ := own_form hown
    by_cases hlt : k < n
    · obtain ⟨g, off, rfl, hg, c1, c2, c3⟩ := HS.out.cell k hlt
      have d2 := (hbel.cell (p := ⟨g, off + k * 3 + 1, none⟩) hg).trans c2
      have HE := Lib.hid (noncesTo_step (L := L) (k := k) (by have := hL.out; omega))
      obtain ⟨x, hx⟩ : ∃ x, (L.getD k default).n = x := ⟨_, rfl⟩
      rw [hx, ← HP.out] at HE
      rw [hx] at d2
      have HR := Lib.hid hr
      clear c1 c2 c3 hx hr
      have HO := Lib.hid hown
      clear hown
      go_wp2_with fail
      refine (l09Has_any _ _ _ P x _ rfl (by omega) HR.out).mono ?_
      rintro e w1 ⟨rfl, rfl⟩
      by_cases hm : x ∈ P
      · have HM := Lib.hid (addN_yes hm)
        rw [decide_eq_true hm]
        clear hm d2
        go_wp2
        go_roundw
        case rel => exact ⟨k + 1, P, by omega, by omega, by go_num, Lib.hid (by rw [HE.out, HM.out]), HO.out, hbel⟩
        case measure => (simp [intOf]; try omega)
      · have HM := Lib.hid (addN_no hm)
        rw [decide_eq_false hm]
        clear hm
        have d2' : ∀ o, (w1.alloc o).cell? ⟨g, off + k * 3 + 1, none⟩ = some (.string x) := fun o => by rw [← d2]; exact (((Below.refl w1.heap.size w1).alloc (Nat.le_refl _) o).cell (p := ⟨g, off + k * 3 + 1, none⟩) (Nat.lt_of_lt_of_le hg hbel.size))
        go_wp2_with (first | (at_builtin; refine wpList_append_own _ rfl (.tmp 20) (.tmp 26) 26 rfl w.heap.size 9 i0 (.string ⟨#[]⟩) 1 16 Try.underlying26 hi hz0 hz1 hz2 rfl (by decide) _ _ _ rfl (HO.out.alloc _) ⟨w1.heap.size, 0, none⟩ 1 1 [.string x] rfl rfl (World.news_of_block (heap_alloc_new _ _)) (by simp [Value.oneCell']) (by unfold maxLen; omega) (by omega) (by have := hbel.size; simp; omega) ?_; intro v1 w2 hown1 hgrow1 hn1))
        have hb1 : Below w.heap.size w w2 := (hbel.alloc hbel.size _).grown hgrow1 (by have := hbel.size; simp; omega) (own_block_ge HO.out)
        have HO2 : Hid (w2.ownsRow w.heap.size 9 1 v1 (P ++ [x]).length (scells (P ++ [x]))) := Lib.hid (by simpa [scells, List.length_append] using hown1)
        clear hown1 hgrow1 hn1 HO d2 d2'
        go_wp2
        go_roundw
        case rel => exact ⟨k + 1, P ++ [x], by omega, by simp; omega, by go_num, Lib.hid (by rw [HE.out, HM.out]), HO2.out, hb1⟩
        case measure => (simp [intOf]; try omega)
    · obtain rfl : k = n := by omega
      have HF : Hid (P = noncesB L) := Lib.hid (by rw [HP.out, ← hL.out, noncesTo_all])
      clear hr HP
      have HO := Lib.hid hown
      clear hown
      go_wp2
      go_ret
      exact ⟨_, rfl, by rw [← HF.out]; exact HO.out, hbel⟩
end Go.Proofs.Ytgpjklnlchbbbaa
