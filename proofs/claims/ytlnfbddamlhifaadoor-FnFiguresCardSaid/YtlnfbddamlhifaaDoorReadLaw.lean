/- The program's ReadDecimal, and the walk of FnExactReadDecimal. -/
import Derived.Test.YtlnfbddamlhifaaDoorReadSpec
import Derived.Test.YtlnfbddamlhifaaDoorShelfA
import Derived.Lib.AtoiErrMem
namespace Go.Proofs.YtlnfbddamlhifaaDoor
open Go.RowKit Go.Proofs.YtlnfbddamlhifaaDoor.Parts Go.Proofs.YtlnfbddamlhifaaDoor.Hexa

theorem gSyn : Tryd.prog.globalNamed "strconv.ErrSyntax" = some 1 := by kernel_rfl
theorem gRan : Tryd.prog.globalNamed "strconv.ErrRange" = some 2 := by kernel_rfl

/-- The two variables of strconv hold an error each. -/
def Errs (w : World) : Prop := (∃ tp p, w.var? Tryd.prog "strconv.ErrSyntax" = some #[.iface tp p]) ∧ ∃ tp p, w.var? Tryd.prog "strconv.ErrRange" = some #[.iface tp p]
theorem var_lt {P : Program} {w : World} {n : String} {g : Nat} {cs : Array Value} (hg : P.globalNamed n = some g) (h : w.var? P n = some cs) : g < w.heap.size := by
  rcases Nat.lt_or_ge g w.heap.size with hlt | hge
  · exact hlt
  · unfold World.var? at h
    simp [hg, Array.getElem?_eq_none hge] at h
theorem Errs.below {w w' : World} (h : Errs w) (hb : Below w.heap.size w w') : Errs w' := by
  obtain ⟨⟨t1, p1, h1⟩, ⟨t2, p2, h2⟩⟩ := h
  exact ⟨⟨t1, p1, var?_below hb gSyn (var_lt gSyn h1) h1⟩, ⟨t2, p2, var?_below hb gRan (var_lt gRan h2) h2⟩⟩

theorem no_atoi {s : ByteArray} {x : Lib.NumEnd Int} (h : Lib.atoiAll s.data.toList = x) (hx : ∀ n : Nat, n ≤ 1000000000 → x ≠ .ok (n : Int)) : ∀ n, ¬ Spells s n := fun n k => hx n k.1 (by rw [← h, spells_atoi k])
theorem no_atoi_text {s : ByteArray} {v : Int} (h : Lib.atoiAll s.data.toList = .ok v) (ht : ¬ (⟨(Lib.itoa v).toArray⟩ : ByteArray) = s) : ∀ n, ¬ Spells s n := fun n k => by
  have e := spells_atoi k
  rw [h] at e
  injection e with e
  subst e
  exact ht (spells_text k)


theorem atoi_ok (s : ByteArray) (v : Int) (w : World) (hs : s.size ≤ 1048576) (h : Lib.atoiAll s.data.toList = .ok v) :
    Calls Tryd.prog 19 #[.string s] w fun e w' => e = .returned (.tuple #[.int .i64 v, .nilIface]) ∧ Below w.heap.size w w' := by
  refine (Tryd.strconv_Atoi_ok s (by omega) v h w).mono fun e w' ⟨he, hw⟩ => ⟨he, ?_⟩
  rcases hw with rfl | ⟨t, rfl⟩
  · exact Below.refl _ _
  · exact Lib.bytesWorld_below _ _ _

/-- Atoi ends with an error. -/
def BadPost (w : World) (e : Ending) (w' : World) : Prop := ∃ (v : Int) (N : Nat), e = .returned (.tuple #[.int .i64 v, .iface 52 (.pointer (some ⟨N, 0, none⟩))]) ∧ Below w.heap.size w w'

theorem atoi_bad (s : ByteArray) (w : World) (hs : s.size ≤ 1048576) (hE : Errs w) (h : ∀ v, Lib.atoiAll s.data.toList ≠ .ok v) :
    Calls Tryd.prog 19 #[.string s] w (BadPost w) := by
  obtain ⟨⟨t1, p1, h1⟩, ⟨t2, p2, h2⟩⟩ := hE
  rcases hx : Lib.atoiAll s.data.toList with v | _ | _
  · exact absurd hx (h v)
  · refine (Tryd.strconv_Atoi_syntax_var s (by omega) hx t1 p1 w h1).mono fun e w' ⟨N, he, _, _, hb⟩ => ⟨0, N, he, hb⟩
  · refine (Tryd.strconv_Atoi_range_var s (by omega) hx t2 p2 w h2).mono fun e w' ⟨N, he, _, _, hb⟩ => ⟨_, N, he, hb⟩

set_option maxHeartbeats 1000000 in
theorem implRead_any (s : ByteArray) (w : World) (hs : s.size ≤ 1048576) (hT : Tab w) (hE : Errs w) :
    Calls Tryd.prog 11 #[.string s] w (RdPost s w) := by
  have HT := Lib.hid hT
  have HE := Lib.hid hE
  clear hT hE
  by_cases hx : ∃ v, Lib.atoiAll s.data.toList = .ok v
  · obtain ⟨v, hv⟩ := hx
    have HV := Lib.hid hv
    clear hv
    by_cases h0 : v < 0
    · have R := Lib.hid (rd_no (no_atoi HV.out (fun n _ e => by injection e with e; omega)))
      go_enter Tryd.func11, Tryd.ntmps11
      go_wp2_with (go_at_call 19; refine (atoi_ok _ v _ hs HV.out).mono ?_; rintro e w1 ⟨rfl, hb1⟩)
      go_ret2
      exact ⟨ret_rd R.out, hb1⟩
    · by_cases h1 : 1000000000 < v
      · have R := Lib.hid (rd_no (no_atoi HV.out (fun n hn e => by injection e with e; omega)))
        go_enter Tryd.func11, Tryd.ntmps11
        go_wp2_with (go_at_call 19; refine (atoi_ok _ v _ hs HV.out).mono ?_; rintro e w1 ⟨rfl, hb1⟩)
        go_ret2
        exact ⟨ret_rd R.out, hb1⟩
      · obtain ⟨m, rfl⟩ : ∃ m : Nat, v = m := ⟨v.toNat, by omega⟩
        by_cases ht : (⟨(Lib.itoa (m : Int)).toArray⟩ : ByteArray) = s
        · have R := Lib.hid (rd_yes (spells_of_text (by omega) ht))
          have HTX := text_yes ht
          clear ht
          go_enter Tryd.func11, Tryd.ntmps11
          go_wp2_with (first
            | (go_at_call 19; refine (atoi_ok _ (m : Int) _ hs HV.out).mono ?_; rintro e w1 ⟨rfl, hb1⟩)
            | (go_at_call 8; refine (implDecimal_any _ _ (by omega) (by omega) (HT.out.below hb1)).mono ?_; rintro e w2 ⟨rfl, hb2⟩))
          go_ret2
          exact ⟨ret_rd R.out, hb1.trans (hb2.mono hb1.size)⟩
        · have R := Lib.hid (rd_no (no_atoi_text HV.out ht))
          have HTX := text_no ht
          clear ht
          go_enter Tryd.func11, Tryd.ntmps11
          go_wp2_with (first
            | (go_at_call 19; refine (atoi_ok _ (m : Int) _ hs HV.out).mono ?_; rintro e w1 ⟨rfl, hb1⟩)
            | (go_at_call 8; refine (implDecimal_any _ _ (by omega) (by omega) (HT.out.below hb1)).mono ?_; rintro e w2 ⟨rfl, hb2⟩))
          go_ret2
          exact ⟨ret_rd R.out, hb1.trans (hb2.mono hb1.size)⟩
  · have hn : ∀ v, Lib.atoiAll s.data.toList ≠ .ok v := fun v e => hx ⟨v, e⟩
    have R := Lib.hid (rd_no (fun n k => hn n (spells_atoi k)))
    have HN := Lib.hid hn
    clear hn hx
    go_enter Tryd.func11, Tryd.ntmps11
    go_wp2_with (go_at_call 19; refine (atoi_bad _ _ hs HE.out HN.out).mono ?_; rintro e w1 ⟨v, N, rfl, hb1⟩)
    go_ret2
    exact ⟨ret_rd R.out, hb1⟩

set_option maxHeartbeats 400000 in
theorem read_law (s : ByteArray) (w : World) (hT : Tab w) (hE : Errs w) :
    Calls Tryd.prog 5 #[.string s] w fun e w' => e = .returned (.bool true) ∧ Below w.heap.size w w' := by
  have HT := Lib.hid hT
  have HE := Lib.hid hE
  clear hT hE
  by_cases h : s.size ≤ 1048576
  · go_enter Tryd.func5, Tryd.ntmps5
    go_wp2_with (first
      | (go_at_call 14; refine (specRead_any s _).mono ?_; rintro e w1 ⟨rfl, hb1⟩)
      | (go_at_call 11; refine (implRead_any s _ h (HT.out.below hb1) (HE.out.below hb1)).mono ?_; rintro e w2 ⟨rfl, hb2⟩))
    go_ret
    exact ⟨rfl, hb1.trans (hb2.mono hb1.size)⟩
  · have hn : 1048576 < s.size := by omega
    go_enter Tryd.func5, Tryd.ntmps5
    go_wp2
    go_ret
    exact ⟨rfl, Below.refl _ _⟩
end Go.Proofs.YtlnfbddamlhifaaDoor
