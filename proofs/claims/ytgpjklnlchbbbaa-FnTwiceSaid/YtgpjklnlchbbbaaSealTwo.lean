/- The model's SealedTwice. -/
import Derived.Test.YtgpjklnlchbbbaaSealHas
namespace Go.Proofs.Ytgpjklnlchbbbaa
open Go.RowKit Go.Proofs.Ytgpjklnlchbbbaa.Parts Go.Proofs.Ytgpjklnlchbbbaa.Hexa

/-- Nothing among the first k clashes with sealing i. -/
def Clear (L : List S3) (i k : Nat) : Prop := ∀ j, j < k → (L.getD i default).k = (L.getD j default).k → (L.getD i default).n = (L.getD j default).n → (L.getD i default).t = (L.getD j default).t
theorem clear_zero (L : List S3) (i : Nat) : Clear L i 0 := fun j hj => by omega
theorem clear_step {L : List S3} {i k : Nat} (h : Clear L i k) (hk : (L.getD i default).k = (L.getD k default).k → (L.getD i default).n = (L.getD k default).n → (L.getD i default).t = (L.getD k default).t) : Clear L i (k + 1) := fun j hj a b => by
  by_cases e : j = k
  · subst e; exact hk a b
  · exact h j (by omega) a b

theorem below_drewN (B : Nat) (w : World) (m : Nat) : Below B w (w.drewN m) := ⟨rfl, rfl, rfl, Nat.le_refl _, fun _ _ => rfl⟩

set_option maxRecDepth 100000 in
set_option maxHeartbeats 4000000 in
theorem specTwice_any (a : Option Addr) (n c : Nat) (L : List S3) (w : World) (hs : SrcS w a n L) (hn : n ≤ 1048580) :
    Calls Try.prog 10 #[.slice a n c] w fun e w' => e = .returned (.bool (clashB L n)) ∧ Below w.heap.size w w' := by
  have HS := Lib.hid hs
  clear hs
  go_enter Try.func10, Try.ntmps10
  go_wp2
  go_loopw [3] (fun iv wr => ∃ (i m : Nat), i ≤ n ∧ iv = .int .i64 i ∧ Hid (¬ Clash L i) ∧ wr = w.drewN m) (fun iv _ => n - (intOf iv).toNat)
  case atStart => exact ⟨0, 0, Nat.zero_le _, rfl, Lib.hid (clash_zero L), rfl⟩
  case round =>
    obtain ⟨i, m0, hi, rfl, HC, rfl⟩ := hrel
    by_cases hlt : i < n
    · obtain ⟨g, off, rfl, hg, c1, c2, c3⟩ := HS.out.cell i hlt
      obtain ⟨x, hx⟩ : ∃ x, L.getD i default = x := ⟨_, rfl⟩
      rw [hx] at c1 c2 c3
      have HX := Lib.hid hx
      clear hx
      go_wp2
      go_loopw [4] (fun kv wr => ∃ (k m : Nat), k ≤ i ∧ kv = .int .i64 k ∧ Hid (Clear L i k) ∧ wr = w.drewN m) (fun kv _ => i - (intOf kv).toNat)
      case atStart => exact ⟨0, m0, Nat.zero_le _, rfl, Lib.hid (clear_zero L i), rfl⟩
      case round =>
        obtain ⟨k, m, hk, rfl, HK, rfl⟩ := hrel
        by_cases hlt2 : k < i
        · obtain ⟨g', off', hge, _, b1, b2, b3⟩ := HS.out.cell k (by omega)
          simp only [Option.some.injEq, Addr.mk.injEq] at hge
          obtain ⟨rfl, rfl, _⟩ := hge
          obtain ⟨y, hy⟩ : ∃ y, L.getD k default = y := ⟨_, rfl⟩
          rw [hy] at b1 b2 b3
          have HY := Lib.hid hy
          clear hy
          obtain ⟨xk, xn, xt⟩ := x
          obtain ⟨yk, yn, yt⟩ := y
          simp only at c1 c2 c3 b1 b2 b3
          by_cases e1 : xk = yk
          · subst e1
            by_cases e2 : xn = yn
            · subst e2
              by_cases e3 : xt = yt
              · subst e3
                have HK2 := Lib.hid (clear_step HK.out (fun _ _ => by rw [HX.out, HY.out]))
                go_wp2
                go_quiet (fail)
                go_wp2
                go_roundw
                case rel => exact ⟨k + 1, _, by omega, by go_num, HK2, rfl⟩
                case measure => (simp [intOf]; try omega)
              · have q1 := text_ne e3
                have q2 := text_ne' e3
                have HR := Lib.hid (clashB_yes (n := n) (L := L) ⟨i, k, by omega, by omega, by rw [HX.out, HY.out], by rw [HX.out, HY.out], by rw [HX.out, HY.out]; exact e3⟩)
                clear e3
                go_wp2
                go_quiet (fail)
                go_wp2
                go_ret
                exact ⟨ret_bool HR.out.symm, (below_drewN _ w m).trans (below_drewN _ _ nq)⟩
            · have q1 := text_ne e2
              have q2 := text_ne' e2
              have HK2 := Lib.hid (clear_step HK.out (fun _ h => by rw [HX.out, HY.out] at h; exact absurd h e2))
              clear e2
              go_wp2
              go_quiet (fail)
              go_wp2
              go_roundw
              case rel => exact ⟨k + 1, _, by omega, by go_num, HK2, rfl⟩
              case measure => (simp [intOf]; try omega)
          · have q1 := text_ne e1
            have q2 := text_ne' e1
            have HK2 := Lib.hid (clear_step HK.out (fun h => by rw [HX.out, HY.out] at h; exact absurd h e1))
            clear e1
            go_wp2
            go_quiet (fail)
            go_wp2
            go_roundw
            case rel => exact ⟨k + 1, _, by omega, by go_num, HK2, rfl⟩
            case measure => (simp [intOf]; try omega)
        · obtain rfl : k = i := by omega
          have HC2 := Lib.hid (clash_step HC.out HK.out)
          go_wp2
          go_roundw
          case rel => exact ⟨k + 1, _, by omega, by go_num, HC2, rfl⟩
          case measure => (simp [intOf]; try omega)
    · obtain rfl : i = n := by omega
      have HR := Lib.hid (clashB_no HC.out)
      go_wp2
      go_ret
      exact ⟨ret_bool HR.out.symm, below_drewN _ _ _⟩
end Go.Proofs.Ytgpjklnlchbbbaa
