/- Merged texts: WordAtImpl, DrawPlaces, StoFacts, StoresLaw, DrawFall, IntsAt. -/
import Derived.Test.YtpahihcnmpeenaaP10I
import Derived.Deep.AppendLies
import Derived.Deep.RegionHeld
import Derived.Deep.RegionHeld3
import Derived.Deep.DeepCutAuto
import Derived.IntWalk
import Derived.OwnWalk
namespace Go.Proofs.Ytpahihcnmpeenaa
open Go.RowKit Go.Proofs.Ytpahihcnmpeenaa.Parts Go.Proofs.Ytpahihcnmpeenaa.Hexa

set_option maxRecDepth 100000 in
set_option maxHeartbeats 1000000 in
theorem implWordAt_any (K : ByteArray) (a : Option Addr) (n c : Nat) (L : List C3) (i : Int) (w : World) (hs : SrcC w a n L) (hn : n ≤ 1048600) (hK : K.size ≤ 1048600) :
    Calls Try.prog 24 #[.agg #[.string K, .slice a n c], .int .i64 i] w fun e w' => e = .returned (.string (wordAtB K L i)) ∧ Below w.heap.size w w' := by
  have HS := Lib.hid hs
  have B0 := Lib.hid (below_alloc w (.cells #[.string K, .slice a n c] 26))
  have T0 := Lib.hid (Two.alloc w (.string K) (.slice a n c) 26)
  clear hs
  by_cases hok : MemOk K L
  · have HOK := Lib.hid hok
    have HBB := Lib.hid (memOkB_yes hok)
    clear hok
    by_cases hh : Has K i
    · obtain ⟨m, rfl⟩ : ∃ m : Nat, i = m := ⟨i.toNat, by have := hh.1; omega⟩
      have hm : m < K.size / 8 := by have := hh.2; omega
      have hm2 : m ≤ 1048600 := by omega
      have HD : Hid (decide (Has K (m : Int)) = true) := Lib.hid (decide_eq_true hh)
      have HE : Hid (wordAtB K L (m : Int) = wordT K L m) := Lib.hid (wordAtB_yes HOK.out hm)
      have HLL : Hid (m / 2 < K.size / 16) := Lib.hid (by have := HOK.out.1; omega)
      have hTs := lineT_size HOK.out HLL.out
      obtain ⟨T, hT⟩ : ∃ T, lineT K L (m / 2) = T := ⟨_, rfl⟩
      rw [hT] at hTs
      have HT := Lib.hid hT
      have HW := Lib.hid (wordT_of hT)
      clear hh hm hT
      go_enter Try.func24, Try.ntmps24
      go_wp2_with fail
      refine (implOk_any K a n c L _ (HS.out.later B0.out) hn hK).mono ?_
      rw [HBB.out]
      rintro e w1 ⟨rfl, hb1⟩
      have T1 := Lib.hid (T0.out.later hb1)
      have B1 := Lib.hid (B0.out.trans (hb1.mono B0.out.size))
      clear hb1
      go_wp2_with fail
      refine (hasWord_any _ K _ _ _ T1.out hK).mono ?_
      rw [HD.out]
      rintro e w2 ⟨rfl, rfl⟩
      go_wp2_with fail
      refine (wordStart_any m _ _ rfl hm2).mono ?_
      rintro e w3 ⟨rfl, rfl⟩
      go_wp2_with fail
      refine (current_any _ K a n c L (m / 2) _ _ (by omega) T1.out (HS.out.later B1.out) hn HOK.out HLL.out).mono ?_
      rw [HT.out]
      rintro e w4 ⟨rfl, hb4⟩
      have B4 := Lib.hid (B1.out.trans (hb4.mono B1.out.size))
      clear hb4
      rcases Nat.mod_two_eq_zero_or_one m with h2 | h2
      · have HE2 := Lib.hid (HW.out.1 h2)
        have hi2 : (m : Int) % 2 = 0 := by omega
        clear h2
        have hsz : (T.extract 0 8).size ≤ 1048600 := by rw [ByteArray.size_extract]; omega
        have HZ := Lib.hid hsz
        clear hsz
        go_wp2_with fail
        refine (textClone_c _ _ HZ.out).mono ?_
        rintro e w5 ⟨rfl, hb5⟩
        go_wp2
        go_ret
        exact ⟨ret_strp (by rw [HE.out, HE2.out]), B4.out.trans (hb5.mono B4.out.size)⟩
      · have HE2 := Lib.hid (HW.out.2 h2)
        have hi2 : (m : Int) % 2 = 1 := by omega
        clear h2
        have hsz : (T.extract 8 16).size ≤ 1048600 := by rw [ByteArray.size_extract]; omega
        have HZ := Lib.hid hsz
        clear hsz
        go_wp2_with fail
        refine (textClone_c _ _ HZ.out).mono ?_
        rintro e w5 ⟨rfl, hb5⟩
        go_wp2
        go_ret
        exact ⟨ret_strp (by rw [HE.out, HE2.out]), B4.out.trans (hb5.mono B4.out.size)⟩
    · have HD : Hid (decide (Has K i) = false) := Lib.hid (decide_eq_false hh)
      have HE : Hid (wordAtB K L i = ⟨#[]⟩) := Lib.hid (wordAtB_no hh)
      clear hh
      go_enter Try.func24, Try.ntmps24
      go_wp2_with fail
      refine (implOk_any K a n c L _ (HS.out.later B0.out) hn hK).mono ?_
      rw [HBB.out]
      rintro e w1 ⟨rfl, hb1⟩
      have T1 := Lib.hid (T0.out.later hb1)
      have B1 := Lib.hid (B0.out.trans (hb1.mono B0.out.size))
      clear hb1
      go_wp2_with fail
      refine (hasWord_any _ K _ _ _ T1.out hK).mono ?_
      rw [HD.out]
      rintro e w2 ⟨rfl, rfl⟩
      go_wp2
      go_ret
      exact ⟨ret_strp HE.out.symm, B1.out⟩
  · have HBB := Lib.hid (memOkB_no hok)
    have HE : Hid (wordAtB K L i = ⟨#[]⟩) := Lib.hid (wordAtB_bad hok)
    clear hok
    go_enter Try.func24, Try.ntmps24
    go_wp2_with fail
    refine (implOk_any K a n c L _ (HS.out.later B0.out) hn hK).mono ?_
    rw [HBB.out]
    rintro e w1 ⟨rfl, hb1⟩
    go_wp2
    go_ret
    exact ⟨ret_strp HE.out.symm, B0.out.trans (hb1.mono B0.out.size)⟩

set_option maxRecDepth 100000 in
set_option maxHeartbeats 2000000 in
theorem wordAt_law (K : ByteArray) (a : Option Addr) (n c : Nat) (L : List C3) (i : Int) (w : World) (hs : SrcC w a n L) (hm : FitC L n maxLen) (hn : n ≤ 9223372036854775807) (hK : K.size ≤ maxLen) :
    Calls Try.prog 7 #[.agg #[.string K, .slice a n c], .int .i64 i] w fun e w' => e = .returned (.bool true) ∧ Below w.heap.size w w' := by
  have HS := Lib.hid hs
  have HM := Lib.hid hm
  have HK := Lib.hid hK
  have B0 := Lib.hid (below_alloc w (.cells #[.string K, .slice a n c] 46))
  have T0 := Lib.hid (Two.alloc w (.string K) (.slice a n c) 46)
  clear hs hm hK
  go_enter Try.func7, Try.ntmps7
  go_wp2_with fail
  refine (szMemory_any K a n c L _ (HS.out.later B0.out) hn HK.out HM.out).mono ?_
  rintro e w1 ⟨r, rfl, hr | ⟨h0, hK2, hn2, hF2⟩, hb1⟩
  · go_wp2
    go_ret
    exact ⟨rfl, B0.out.trans (hb1.mono B0.out.size)⟩
  have T1 := Lib.hid (T0.out.later hb1)
  have B1 := Lib.hid (B0.out.trans (hb1.mono B0.out.size))
  have hr : ¬ (r < 0) := by omega
  have c0 := T1.out.c0
  have c1 := T1.out.c1
  clear hF2 hb1 h0
  go_wp2_with fail
  clear c0 c1
  refine (toMemory_any K a n c L _ (HS.out.later B1.out) hn2).mono ?_
  rintro e w2 ⟨g2, rfl, hown2, hb2⟩
  have T2 := Lib.hid (T1.out.later hb2)
  have B2 : Hid (Below w.heap.size w w2) := Lib.hid (B1.out.trans (hb2.mono B1.out.size))
  have I2 := Lib.hid (srcC_of_own hown2)
  clear hown2 hb2
  go_wp2_with fail
  refine (specWordAt_any K _ n n L i _ I2.out (by omega) (by omega)).mono ?_
  rintro e w3 ⟨rfl, hb3⟩
  have T3 := Lib.hid (T2.out.later hb3)
  have B3 : Hid (Below w.heap.size w w3) := Lib.hid (B2.out.trans (hb3.mono B2.out.size))
  obtain ⟨ok, hok⟩ : ∃ ok, wordAtB K L i = ok := ⟨_, rfl⟩
  rw [hok]
  have HOK := Lib.hid hok
  have c0 := T3.out.c0
  have c1 := T3.out.c1
  clear hb3 I2 hok
  go_wp2_with fail
  clear c0 c1
  refine (toMemory_any K a n c L _ (HS.out.later B3.out) hn2).mono ?_
  rintro e w4 ⟨g4, rfl, hown4, hb4⟩
  have X5 := Lib.hid (Two.alloc w4 (.string K) (.slice (some ⟨g4, 0, none⟩) n n) 26)
  have T5 := Lib.hid ((T3.out.later hb4).later (below_alloc w4 (.cells #[.string K, .slice (some ⟨g4, 0, none⟩) n n] 26)))
  have B4 : Hid (Below w.heap.size w w4) := Lib.hid (B3.out.trans (hb4.mono B3.out.size))
  have B5 : Hid (Below w.heap.size w (w4.alloc (.cells #[.string K, .slice (some ⟨g4, 0, none⟩) n n] 26))) := Lib.hid (B4.out.trans ((below_alloc w4 _).mono B4.out.size))
  have I5 := Lib.hid ((srcC_of_own hown4).later (below_alloc w4 (.cells #[.string K, .slice (some ⟨g4, 0, none⟩) n n] 26)))
  clear hown4 hb4 B4
  go_wp2_with fail
  obtain ⟨q, hq⟩ : ∃ q, w4.heap.size = q := ⟨_, rfl⟩
  obtain ⟨w5, h5⟩ : ∃ x, x = w4.alloc (.cells #[.string K, .slice (some ⟨g4, 0, none⟩) n n] 26) := ⟨_, rfl⟩
  rw [hq] at X5 ⊢
  rw [← h5] at X5 T5 B5 I5 ⊢
  clear h5 hq
  refine (implWordAt_any K _ n n L i _ I5.out (by omega) (by omega)).mono ?_
  rw [HOK.out]
  rintro e w6 ⟨rfl, hb6⟩
  have X6 := Lib.hid (X5.out.later hb6)
  have T6 := Lib.hid (T5.out.later hb6)
  have B6 : Hid (Below w.heap.size w w6) := Lib.hid (B5.out.trans (hb6.mono B5.out.size))
  have I6 := Lib.hid (I5.out.later hb6)
  have c0 := T6.out.c0
  have c1 := T6.out.c1
  have x0 := X6.out.c0
  have x1 := X6.out.c1
  clear hb6 X5 T5 B5 I5
  go_wp2_with fail
  go_region_with (first
    | (go_at_call 37; refine (toMemory_any K a n c L _ (HS.out.later (B6.out.drew)) hn2).mono ?_; rintro e w7 ⟨g7, rfl, hown7, hb7⟩
       have I7 := Lib.hid (srcC_of_own hown7)
       have I67 := Lib.hid (I6.out.drew.later hb7)
       have B7 : Hid (Below w.heap.size w w7) := Lib.hid (B6.out.drew.trans (hb7.mono B6.out.size))
       have y0 := (X6.out.drew.later hb7).c0
       have y1 := (X6.out.drew.later hb7).c1
       clear hown7 hb7)
    | (go_at_call 33; refine (eqMemory_any K _ _ n n n L _ (by omega) I67.out I7.out).mono ?_; rintro e w8 ⟨rfl, hb8⟩))
  all_goals
    go_wp2
    go_ret
    exact ⟨rfl, B7.out.trans (hb8.mono B7.out.size)⟩
end Go.Proofs.Ytpahihcnmpeenaa
namespace Go.Proofs.Ytpahihcnmpeenaa
open Go.RowKit
namespace Draw

def icells (xs : List Int) : List Value := xs.map (Value.int .i64)
def PlacesPost (w : World) (e : Ending) (w' : World) : Prop :=
  ∃ (v : Value) (xs : List Int), xs.length = 12 ∧ (∀ x ∈ xs, 0 ≤ x ∧ x < 10000) ∧ e = .returned v ∧ w'.ownsRow (w.heap.size + 1) 3 1 v 12 (icells xs) ∧ Below w.heap.size w w'

theorem Try.infoInt : (Try.prog.info? 3).map (fun i => (i.zero, i.size, i.bytes)) = some (some (.int .i64 0), 1, 8) := by kernel_rfl

set_option maxRecDepth 100000 in
set_option maxHeartbeats 1000000 in
theorem places_any (ad : Option Addr) (len cap : Nat) (w : World) (hlen : len ≤ 1048576) (hs : Src w w.heap.size ad len) :
    Calls Try.prog 22 #[.slice ad len cap] w (PlacesPost w) := by
  obtain ⟨i0, hi, hz0, hz1, hz2⟩ := info_parts Try.infoInt
  have HS := Lib.hid hs
  clear hs
  go_enter Try.func22, Try.ntmps22
  go_wp2_with fail
  refine (new_any ad len cap w hlen HS.out).mono ?_
  rintro e w1 ⟨rfl, h, rfl⟩
  have C1 : Hid (Cur ((w.alloc (.cells #[.slice ad len cap, .int .i64 0, .int .i64 h] 76)).alloc (.cells #[] 3)) w.heap.size ad len cap) :=
    Lib.hid (cur_grown (c := w.heap.size) ⟨0, h, Nat.zero_le _, heap_alloc_new w _⟩ (grown_alloc _ _ none) (by simp))
  have S1 : Hid (Src ((w.alloc (.cells #[.slice ad len cap, .int .i64 0, .int .i64 h] 76)).alloc (.cells #[] 3)) w.heap.size ad len) :=
    Lib.hid (src_grown' (src_grown' HS.out (grown_alloc _ _ none) (fun k e => by cases e) (Nat.le_refl _)) (grown_alloc _ _ none) (fun k e => by cases e) (by simp))
  have B1 : Hid (Below w.heap.size w ((w.alloc (.cells #[.slice ad len cap, .int .i64 0, .int .i64 h] 76)).alloc (.cells #[] 3))) :=
    Lib.hid (((Below.refl _ _).alloc (Nat.le_refl _) _).alloc (by simp) _)
  have O1 : Hid (((w.alloc (.cells #[.slice ad len cap, .int .i64 0, .int .i64 h] 76)).alloc (.cells #[] 3)).ownsRow (w.heap.size + 1) 3 1 (.slice (some ⟨w.heap.size + 1, 0, none⟩) 0 0) 0 (icells [])) :=
    Lib.hid (by simpa [icells] using World.ownsRow_lit (e := 3) (size := 1) (base := w.heap.size + 1) (w.alloc (.cells #[.slice ad len cap, .int .i64 0, .int .i64 h] 76)) #[] 0 (by simp) (by decide) rfl)
  go_wp2
  go_loopw [4, 5] (fun v iv wr => ∃ (k : Nat) (xs : List Int), k ≤ 12 ∧ Hid (xs.length = k) ∧ Hid (∀ x ∈ xs, 0 ≤ x ∧ x < 10000) ∧ iv = .int .i64 k ∧ Hid (wr.ownsRow (w.heap.size + 1) 3 1 v k (icells xs)) ∧ Hid (Cur wr w.heap.size ad len cap) ∧ Hid (Src wr w.heap.size ad len) ∧ Hid (Below w.heap.size w wr))
    (fun _ iv _ => 12 - (intOf iv).toNat)
  case atStart => exact ⟨0, [], Nat.zero_le _, Lib.hid rfl, Lib.hid (fun x hx => by cases hx), rfl, O1, C1, S1, B1⟩
  case round =>
    obtain ⟨k, xs, hk, HL, HX, rfl, HO, HC, HR, HB⟩ := hrel
    clear O1 C1 S1 B1
    by_cases hlt : k < 12
    · go_wp2_with fail
      refine (below_any w.heap.size ad len cap 10000 wr hlen (by decide) (by decide) HC.out HR.out).mono ?_
      rintro e w1 ⟨x, x0, x1, rfl, hc1, hg1⟩
      have hown1 := own_kept HO.out hg1
      have hsz1 : w.heap.size + 1 ≤ w1.heap.size := by have := cur_lt hc1; omega
      have S1 := Lib.hid (src_grown HR.out hg1 (cur_lt HC.out))
      have B1 := Lib.hid (HB.out.grown hg1 (HB.out.size) (fun k e => by simp at e; omega))
      have C1 := Lib.hid hc1
      clear hc1 hg1
      go_wp2_with (at_builtin; refine wpList_append_own _ rfl (.tmp 13) (.tmp 16) 35 rfl (w.heap.size + 1) 3 i0 (.int .i64 0) 1 8 Try.underlying35 hi hz0 hz1 hz2 rfl (by decide) _ _ _ rfl (hown1.alloc _) ⟨w1.heap.size, 0, none⟩ 1 1 [.int .i64 x] rfl rfl (World.news_of_block (heap_alloc_new _ _)) (by simp [Value.oneCell']) (by unfold maxLen; omega) (by omega) (by simp; omega) ?_; intro v2 w2 hown2 hgrow2 hn2)
      have hrow : ∀ k, u4.ownBlock = some k → w.heap.size ≤ k := fun k e => by have := Hexa.own_block_ge HO.out k e; omega
      have C2 := Lib.hid (cur_grown (cur_grown C1.out (grown_alloc _ _ none) (by simp)) hgrow2 (own_not HO.out))
      have S2 := Lib.hid (src_grown' (src_grown' S1.out (grown_alloc _ _ none) (fun k e => by cases e) (by omega)) hgrow2 hrow (by simp; omega))
      have B2 := Lib.hid ((B1.out.alloc (by omega) _).grown hgrow2 (by simp; omega) hrow)
      have HO2 : Hid (w2.ownsRow (w.heap.size + 1) 3 1 v2 (k + 1) (icells (xs ++ [x]))) := Lib.hid (by simpa [icells] using hown2)
      have HL2 : Hid ((xs ++ [x]).length = k + 1) := Lib.hid (by have := HL.out; simp; omega)
      have HX2 : Hid (∀ y ∈ xs ++ [x], 0 ≤ y ∧ y < 10000) := Lib.hid (fun y hy => by
        rcases List.mem_append.1 hy with h1 | h1
        · exact HX.out y h1
        · obtain rfl := List.mem_singleton.1 h1; exact ⟨x0, x1⟩)
      clear hown1 hown2 hgrow2 hn2 hrow hsz1
      go_wp2
      go_roundw
      case rel => exact ⟨k + 1, xs ++ [x], by omega, HL2, HX2, by go_num, HO2, C2, S2, B2⟩
      case measure => (simp [intOf]; try omega)
    · obtain rfl : k = 12 := by omega
      go_wp2
      go_ret
      exact ⟨_, xs, HL.out, HX.out, rfl, HO.out, HB.out⟩
end Draw
end Go.Proofs.Ytpahihcnmpeenaa
namespace Go.Proofs.Ytpahihcnmpeenaa
open Go.RowKit Go.Proofs.Ytpahihcnmpeenaa.Parts Go.Proofs.Ytpahihcnmpeenaa.Hexa Go.Proofs.Ytpahihcnmpeenaa.Draw

theorem text_full (x : ByteArray) (h : 0 < x.size) : (x.toList == []) = false := by
  apply beq_eq_false_iff_ne.2
  intro e
  have h1 : x.toList.length = x.size := by rw [Go.ByteArray.toList_eq]; simp
  rw [e] at h1
  simp at h1
  omega
theorem text_ne {x y : ByteArray} (h : ¬ x = y) : ¬ (x.toList = y.toList) := by
  intro e
  apply h
  rw [Go.ByteArray.toList_eq, Go.ByteArray.toList_eq] at e
  exact data_ext e
theorem newB_one : (newB 1).size = 16 := by
  unfold newB
  rw [if_pos (by omega)]
  decide
theorem src_up {w w' : World} {ad : Option Addr} {len : Nat} (h : Draw.Src w w.heap.size ad len) (hb : Below w.heap.size w w') : Draw.Src w' w'.heap.size ad len := fun i hi => by
  obtain ⟨b, off, z, h1, h2, h3, h4, h5⟩ := src_below h hb (Nat.le_refl _) i hi
  exact ⟨b, off, z, h1, Nat.lt_of_lt_of_le h2 hb.size, h3, h4, h5⟩
theorem cell_al {w : World} {a : Addr} {v : Value} (o : Obj) (h : w.cell? a = some v) : (w.alloc o).cell? a = some v := (World.cell?_alloc_some w a o (by rw [h]; rfl)).trans h

end Go.Proofs.Ytpahihcnmpeenaa
namespace Go.Proofs.Ytpahihcnmpeenaa
open Go.RowKit Go.Proofs.Ytpahihcnmpeenaa.Parts Go.Proofs.Ytpahihcnmpeenaa.Hexa Go.Proofs.Ytpahihcnmpeenaa.Draw

theorem wordT_size {K : ByteArray} {L : List C3} {m : Nat} (h : MemOk K L) (hm : m < K.size / 8) : (wordT K L m).size = 8 := by
  have h0 := h.1
  have h1 := lineT_size h (l := m / 2) (by omega)
  unfold wordT
  rw [ByteArray.size_extract, h1]
  omega
theorem memOk_nil {K : ByteArray} {L : List C3} (h : MemOk K L) : MemOk K [] := ⟨h.1, h.2.1, fun j hj => by cases hj⟩

/-- What lies behind the region that lets the memory fall. -/
def CutZ (w : World) (l : List MB) (KZ : ByteArray) (gp : Nat) (x1 : Int) (s : Value) (wx : World) : Prop :=
  ∃ b10 a9 c9, s = .pointer (some ⟨b10, 0, none⟩) ∧ Bx w wx (⟨b10, KZ, a9, 0, c9, []⟩ :: l) ∧ wx.cell? ⟨gp, 1, none⟩ = some (.int .i64 x1) ∧ gp < wx.heap.size
theorem cell_set {w : World} {g b j o : Nat} {v u : Value} (h : w.cell? ⟨g, j, none⟩ = some v) (hne : g ≠ b) : (w.setCell ⟨b, o, none⟩ u).cell? ⟨g, j, none⟩ = some v := by
  rw [World.cell?_of_block (w := w) (Below.heap_setCell _ _ _ _ hne)]; exact h

/-- What the law finds at a place that there is, with a word of eight bytes. -/
structure StoFacts (K : ByteArray) (X : List C3) (m : Nat) (x : ByteArray) : Prop where
  okX : memOkB K X = true
  word : wordAtB K X (m : Int) = x
  kept : ∀ q : Int, 0 ≤ q → wordAtB (fallenK (fencedK K (flushedL K X ((m : Int) / 2))) (fencedL K (flushedL K X ((m : Int) / 2))) q) (fallenL (fencedK K (flushedL K X ((m : Int) / 2))) (fencedL K (flushedL K X ((m : Int) / 2))) q) (m : Int) = x
  none : ∀ q : Int, 0 ≤ q → fallenL (fencedK K (flushedL K X ((m : Int) / 2))) (fencedL K (flushedL K X ((m : Int) / 2))) q = []
  size : ∀ q : Int, 0 ≤ q → (fallenK (fencedK K (flushedL K X ((m : Int) / 2))) (fencedL K (flushedL K X ((m : Int) / 2))) q).size = K.size
  fsize : (fencedK K (flushedL K X ((m : Int) / 2))).size = K.size
  unsure : ∀ q : Int, 0 ≤ q → wordAtB (fallenK K X q) (fallenL K X q) (m : Int) = x ∨ wordAtB (fallenK K X q) (fallenL K X q) (m : Int) = wordAtB K [] (m : Int)
  usize : ∀ q : Int, 0 ≤ q → (fallenK K X q).size = K.size
  ulen : ∀ q : Int, 0 ≤ q → fallenL K X q = []
  fitY : FitT (flushedL K X ((m : Int) / 2)) 1048600
  fitF : FitT (fencedL K (flushedL K X ((m : Int) / 2))) 1048600
  lenY : (flushedL K X ((m : Int) / 2)).length ≤ 1010
  lenF : (fencedL K (flushedL K X ((m : Int) / 2))).length ≤ 1010
theorem sto_facts {K : ByteArray} {L X : List C3} {m : Nat} {x : ByteArray} (h : MemOk K L) (hm : m < K.size / 8) (hx : x.size = 8) (hX : X = storeL K L m x) (hl : X.length ≤ 1001) : StoFacts K X m x := by
  subst hX
  have hs := store_ok h hm hx
  have hd : ((m : Int) / 2) = ((m / 2 : Nat) : Int) := by omega
  have hf := flush_ok ((m / 2 : Nat) : Int) hs
  have hn := fence_ok hf
  have h1 : flushedL K (storeL K L m x) ((m : Int) / 2) = flushL (storeL K L m x) ((m / 2 : Nat) : Int) := by rw [hd]; exact flushedL_ok hs
  have hfs : (fenceK K (flushL (storeL K L m x) ((m / 2 : Nat) : Int))).size = K.size := fence_size _ _ hf.laid
  have nilOk : ∀ (K2 : ByteArray) (L2 : List C3) (q : Int), MemOk K2 L2 → MemOk (fallK K2 L2 q) [] := fun K2 L2 q h2 => ⟨by rw [fall_size q h2]; exact h2.1, by rw [fall_size q h2]; exact h2.2.1, fun j hj => by cases hj⟩
  refine ⟨memOkB_yes hs, by rw [wordAtB_yes hs hm]; exact store_word h hm hx, fun q h0 => ?_, fun q h0 => ?_, fun q h0 => ?_, ?_, fun q h0 => ?_, fun q h0 => ?_, fun q h0 => ?_, ?_, ?_, ?_, ?_⟩
  · rw [h1, fencedK_ok hf, fencedL_ok hf, fallenK_yes (fellB_ok hn h0), fallenL_yes (fellB_ok hn h0), wordAtB_yes (nilOk _ _ q hn) (by rw [fall_size q hn, hfs]; exact hm)]
    exact kept_word q h hm hx
  · rw [h1, fencedK_ok hf, fencedL_ok hf, fallenL_yes (fellB_ok hn h0)]
  · rw [h1, fencedK_ok hf, fencedL_ok hf, fallenK_yes (fellB_ok hn h0), fall_size q hn, hfs]
  · rw [h1, fencedK_ok hf, hfs]
  · rw [fallenK_yes (fellB_ok hs h0), fallenL_yes (fellB_ok hs h0), wordAtB_yes (nilOk _ _ q hs) (by rw [fall_size q hs]; exact hm), wordAtB_yes (memOk_nil h) hm]
    exact unsure_word q h hm hx
  · rw [fallenK_yes (fellB_ok hs h0), fall_size q hs]
  · rw [fallenL_yes (fellB_ok hs h0)]
  · rw [h1]; exact hf.fitT
  · rw [h1, fencedL_ok hf]; exact hn.fitT
  · have := flushedL_len K (storeL K L m x) ((m : Int) / 2); omega
  · have h2 := flushedL_len K (storeL K L m x) ((m : Int) / 2)
    have h3 := fencedL_len K (flushedL K (storeL K L m x) ((m : Int) / 2))
    omega


set_option maxRecDepth 100000 in
set_option maxHeartbeats 1000000 in
theorem fnStores_law (ad : Option Addr) (len cap : Nat) (w : World) (hs : Draw.Src w w.heap.size ad len) :
    Calls Try.prog 3 #[.slice ad len cap] w fun e w' => e = .returned (.bool true) ∧ Below w.heap.size w w' := by
  by_cases hbig : len ≤ 1048576
  · have HS := Lib.hid hs
    clear hs
    have HZ1 : Hid ((newB 1).size = 16) := Lib.hid newB_one
    obtain ⟨nb, hnb⟩ : ∃ nb, newB 1 = nb := ⟨_, rfl⟩
    have HNB := Lib.hid hnb
    rw [hnb] at HZ1
    clear hnb
    go_enter Try.func3, Try.ntmps3
    go_wp2_with (go_at_call 13; go_in)
    refine (drawStore_any ad len cap w hbig HS.out).mono ?_
    rintro e w1 ⟨K, L, a, n, c, i, x, rfl, hfit, hll, hkl, hx9, i0, i1, hown, hb1⟩
    have hn : L.length = n := (srcC_of_own hown).len
    have HF := Lib.hid hfit
    have HLEN := Lib.hid hn
    have HLL : Hid (n ≤ 1000) := Lib.hid (by omega)
    have HKL := Lib.hid hkl
    have HX9 := Lib.hid hx9
    have S10 := (Bx.start w).push (K := K) hb1 (Nat.le_refl _) hown
    obtain ⟨b3, hb3⟩ : ∃ b, w1.heap.size = b := ⟨_, rfl⟩
    obtain ⟨W1, hW1⟩ : ∃ x, w1.alloc (.cells #[.string K, .slice a n c] 26) = x := ⟨_, rfl⟩
    rw [hb3, hW1] at S10
    have S1 := Lib.hid S10
    have Hb3 := Lib.hid hb3
    have HW1 := Lib.hid hW1
    clear S10 hb3 hW1
    clear hfit hll hkl hx9 hown hb1 hn
    go_wp2_with fail
    rw [Hb3.out, HW1.out]
    clear Hb3 HW1
    refine (implStore_any K a n c L i x _ S1.out.h1.src (by have := HLL.out; omega) (by have := HKL.out; omega) HF.out (by have := HX9.out; omega)).mono ?_
    obtain ⟨X, hX⟩ : ∃ X, storedL K L i x = X := ⟨_, rfl⟩
    rw [hX]
    have HX := Lib.hid hX
    clear hX
    obtain ⟨n2, hn2⟩ : ∃ k, X.length = k := ⟨_, rfl⟩
    rintro e w2 ⟨v2, rfl, hown2, hb2⟩
    rw [hn2] at hown2
    obtain ⟨a2, c2, rfl, _, _, _⟩ := ownE_form hown2
    have HN2 := Lib.hid hn2
    have HX2 : Hid (n2 ≤ 1001) := Lib.hid (by have h1 := storedL_len K L i x; rw [HX.out, hn2] at h1; have := HLEN.out; have := HLL.out; omega)
    have S20 := S1.out.push (K := K) hb2 S1.out.below.size hown2
    obtain ⟨b6, hb6⟩ : ∃ b, w2.heap.size = b := ⟨_, rfl⟩
    obtain ⟨W2, hW2⟩ : ∃ x, w2.alloc (.cells #[.string K, .slice a2 n2 c2] 26) = x := ⟨_, rfl⟩
    rw [hb6, hW2] at S20
    have S2 := Lib.hid S20
    have Hb6 := Lib.hid hb6
    have HW2 := Lib.hid hW2
    clear S20 hb6 hW2
    clear hown2 hb2 hn2 S1
    have p0 := S2.out.h2.two.c0
    have p1 := S2.out.h2.two.c1
    rw [← HW2.out] at p0 p1
    go_wp2_with fail
    clear p0 p1
    rw [Hb6.out, HW2.out]
    clear Hb6 HW2
    refine (specStore_any K a n c L i x _ S2.out.h2.src (by have := HLL.out; omega) (by have := HKL.out; omega) HF.out (by have := HX9.out; omega)).mono ?_
    rw [HX.out]
    rintro e w3 ⟨v3, rfl, hown3, hb3⟩
    rw [HN2.out] at hown3
    obtain ⟨a3, c3, rfl, _, _, _⟩ := ownE_form hown3
    have S30 := S2.out.push (K := K) hb3 S2.out.below.size hown3
    obtain ⟨b7, hb7⟩ : ∃ b, w3.heap.size = b := ⟨_, rfl⟩
    obtain ⟨W3, hW3⟩ : ∃ x, w3.alloc (.cells #[.string K, .slice a3 n2 c3] 26) = x := ⟨_, rfl⟩
    rw [hb7, hW3] at S30
    have S3 := Lib.hid S30
    have Hb7 := Lib.hid hb7
    have HW3 := Lib.hid hW3
    clear S30 hb7 hW3
    clear hown3 hb3 S2
    have p0 := S3.out.h1.two.c0
    have p1 := S3.out.h1.two.c1
    have p2 := S3.out.h2.two.c0
    have p3 := S3.out.h2.two.c1
    rw [← HW3.out] at p0 p1 p2 p3
    rw [← Hb7.out] at p0 p1
    go_wp2_with fail
    clear p0 p1 p2 p3
    rw [HW3.out]
    clear HW3 Hb7
    refine (sameMemory_any K a2 a3 n2 c2 c3 X _ (by have := HX2.out; omega) S3.out.h2.src S3.out.h1.src).mono ?_
    rintro e w4 ⟨rfl, hb4⟩
    have S4 := Lib.hid (S3.out.pop.later hb4)
    clear hb4 S3
    have h1c0 := S4.out.h1.two.c0
    have h1c1 := S4.out.h1.two.c1
    have h2c0 := S4.out.h2.two.c0
    have h2c1 := S4.out.h2.two.c1
    go_wp2_with fail
    by_cases hg : MemOk K L ∧ Has K i
    · by_cases hx : x.size = 8
      · obtain ⟨hok, hi0, hi1⟩ := hg
        obtain ⟨m, rfl⟩ : ∃ m : Nat, i = m := ⟨i.toNat, by omega⟩
        have hm : m < K.size / 8 := by omega
        have hXe : X = storeL K L m x := by rw [← HX.out]; exact storedL_yes hok hx hm
        have FS := Lib.hid (sto_facts hok hm hx hXe (by have h1 := HN2.out; have h2 := HX2.out; omega))
        have HWS : Hid ((wordAtB K L (m : Int)).size = 8) := Lib.hid (by rw [wordAtB_yes hok hm]; exact wordT_size hok hm)
        have HOK := Lib.hid hok
        have HM1 : Hid (m ≤ 1000) := Lib.hid (by have := HKL.out; omega)
        have HFX : Hid (FitT X 1048600) := Lib.hid (by rw [hXe]; exact (store_ok hok hm hx).fitT)
        clear hi0 hi1 hXe hok hm i0 i1
        refine (specWordAt_any K a n c L (m : Int) _ S4.out.h2.src (by have := HLL.out; omega) (by have := HKL.out; omega)).mono ?_
        obtain ⟨T, hT⟩ : ∃ T, wordAtB K L (m : Int) = T := ⟨_, rfl⟩
        rw [hT] at HWS ⊢
        have HT := Lib.hid hT
        clear hT
        rintro e w5 ⟨rfl, hb5⟩
        have S5 := Lib.hid (S4.out.later hb5)
        clear hb5 S4
        clear h1c0 h1c1 h2c0 h2c1
        have h1c0 := S5.out.h1.two.c0
        have h1c1 := S5.out.h1.two.c1
        have h2c0 := S5.out.h2.two.c0
        have h2c1 := S5.out.h2.two.c1
        have ht := text_full T (by have := HWS.out; omega)
        have m0 : (m : Int) / 2 = ((m / 2 : Nat) : Int) := by omega
        clear m0
        have m1 : (m : Int) ≤ 1000 := by have := HM1.out; omega
        go_wp2_with fail
        clear h1c0 h1c1 h2c0 h2c1
        have E1 := Lib.hid FS.out.kept
        have E2 := Lib.hid FS.out.none
        have E3 := Lib.hid FS.out.size
        have E4 := Lib.hid FS.out.fsize
        have E5 := Lib.hid FS.out.fitY
        have E6 := Lib.hid FS.out.fitF
        have E7 := Lib.hid FS.out.lenY
        have E8 := Lib.hid FS.out.lenF
        have EU := Lib.hid FS.out.unsure
        have EUL := Lib.hid FS.out.ulen
        have EUK := Lib.hid FS.out.usize
        have EOK := Lib.hid FS.out.okX
        have EW := Lib.hid FS.out.word
        clear FS
        refine (implFlush_any K a2 n2 c2 X ((m : Int) / 2) _ S5.out.h1.src (by have := HX2.out; omega) (by have := HKL.out; omega) HFX.out).mono ?_
        obtain ⟨Y, hY⟩ : ∃ Y, flushedL K X ((m : Int) / 2) = Y := ⟨_, rfl⟩
        rw [hY] at E1 E2 E3 E4 E5 E6 E7 E8 ⊢
        clear hY
        obtain ⟨ny, hny⟩ : ∃ k, Y.length = k := ⟨_, rfl⟩
        rintro e w6 ⟨v6, rfl, hown6, hb6⟩
        rw [hny] at hown6 E7
        obtain ⟨a6, c6, rfl, _, _, _⟩ := ownE_form hown6
        have S6 := Lib.hid (S5.out.later hb6)
        have O6 := Lib.hid (srcC_of_own hown6)
        clear hown6 hb6 S5 hny
        go_wp2_with fail
        refine (implFence_any K a6 ny c6 Y _ O6.out (by have := E7.out; omega) (by have := HKL.out; omega) E5.out).mono ?_
        obtain ⟨KF, hKF⟩ : ∃ Z, fencedK K Y = Z := ⟨_, rfl⟩
        obtain ⟨F, hFF⟩ : ∃ Z, fencedL K Y = Z := ⟨_, rfl⟩
        rw [hKF] at E1 E2 E3 E4 ⊢
        rw [hFF] at E1 E2 E3 E6 E8 ⊢
        clear hKF hFF E5 E7
        obtain ⟨nf, hnf⟩ : ∃ k, F.length = k := ⟨_, rfl⟩
        rintro e w7 ⟨v7, rfl, hown7, hb7⟩
        rw [hnf] at hown7 E8
        obtain ⟨a7, c7, rfl, _, _, _⟩ := ownE_form hown7
        have S70 := S6.out.push (K := KF) hb7 S6.out.below.size hown7
        obtain ⟨b8, hb8⟩ : ∃ b, w7.heap.size = b := ⟨_, rfl⟩
        obtain ⟨W7, hW7⟩ : ∃ x, w7.alloc (.cells #[.string KF, .slice a7 nf c7] 26) = x := ⟨_, rfl⟩
        rw [hb8, hW7] at S70
        have S7 := Lib.hid S70
        have Hb8 := Lib.hid hb8
        have HW7 := Lib.hid hW7
        clear S70 hb8 hW7
        clear hown7 hb7 S6 O6 hnf
        go_wp2_with fail
        rw [Hb8.out, HW7.out]
        clear Hb8 HW7
        refine (places_any ad len cap _ hbig (src_up HS.out S7.out.below)).mono ?_
        rintro e w8 ⟨vp, xs, hxl, hxb, rfl, hownp, hbp⟩
        obtain ⟨ap, cp, rfl, _, _, hr⟩ := own_form hownp
        obtain ⟨gp, hgp, _⟩ := hr 0 (by simp [Draw.icells, hxl])
        subst hgp
        obtain ⟨x0, hx0⟩ : ∃ z, xs.getD 0 0 = z := ⟨_, rfl⟩
        obtain ⟨x1, hx1⟩ : ∃ z, xs.getD 1 0 = z := ⟨_, rfl⟩
        have hd0 : w8.cell? ⟨gp, 0, none⟩ = some (.int .i64 x0) := by rw [hownp.cellAt 0 (by decide), ← hx0]; simp [Draw.icells, List.getD, hxl]
        have hd1 : w8.cell? ⟨gp, 1, none⟩ = some (.int .i64 x1) := by rw [hownp.cellAt 1 (by decide), ← hx1]; simp [Draw.icells, List.getD, hxl]
        have hx0b : 0 ≤ x0 := by rw [← hx0, show xs.getD 0 0 = xs[0] by simp [List.getD, hxl]]; exact (hxb _ (List.getElem_mem _)).1
        have hx1b : 0 ≤ x1 := by rw [← hx1, show xs.getD 1 0 = xs[1] by simp [List.getD, hxl]]; exact (hxb _ (List.getElem_mem _)).1
        have hgl : gp < w8.heap.size := (hownp.lt gp rfl).2
        have S8 := Lib.hid (S7.out.later hbp)
        have HD0 := Lib.hid hd0
        have HD1 := Lib.hid hd1
        have HGL := Lib.hid hgl
        obtain ⟨q0, hq0⟩ : ∃ q, x0 % 64 = q := ⟨_, rfl⟩
        obtain ⟨q1, hq1⟩ : ∃ q, x1 % 64 = q := ⟨_, rfl⟩
        have q0a : 0 ≤ q0 := by omega
        have q0b : q0 ≤ 63 := by omega
        have q1a : 0 ≤ q1 := by omega
        have q1b : q1 ≤ 63 := by omega
        have t1 : x0.tmod 64 = q0 := by rw [Int.tmod_eq_emod_of_nonneg hx0b, hq0]
        have t2 : IntKind.i64.wrap q0 = q0 := IntWalk.i64_in _ (by omega)
        have s1 : x1.tmod 64 = q1 := by rw [Int.tmod_eq_emod_of_nonneg hx1b, hq1]
        have s2 : IntKind.i64.wrap q1 = q1 := IntWalk.i64_in _ (by omega)
        have HS12 := Lib.hid (And.intro s1 s2)
        clear s1 s2
        have ZL := Lib.hid (E2.out q0 q0a)
        have ZW := Lib.hid (E1.out q0 q0a)
        have ZK := Lib.hid (E3.out q0 q0a)
        have UW := Lib.hid (EU.out q1 q1a)
        have UL := Lib.hid (EUL.out q1 q1a)
        have UK := Lib.hid (EUK.out q1 q1a)
        rw [ZL.out] at ZW
        obtain ⟨KZ, hKZ⟩ : ∃ Z, fallenK KF F q0 = Z := ⟨_, rfl⟩
        rw [hKZ] at ZW ZK
        have HKZ := Lib.hid hKZ
        have S8d := Lib.hid S8.out.drew
        clear hr hownp hbp hxl hxb hx0 hx1 hd0 hd1 hgl hq0 hq1 hKZ E1 E2 E3 EU EUL S7
        have S8e : Hid (Bx w (w8.alloc (.cells #[.string ⟨#[]⟩, .slice none 0 0] 26)).drew [⟨b8, KF, a7, nf, c7, F⟩, ⟨b6, K, a2, n2, c2, X⟩, ⟨b3, K, a, n, c, L⟩]) := Lib.hid ((S8.out.later (below_alloc w8 (.cells #[.string ⟨#[]⟩, .slice none 0 0] 26))).drew)
        have HD0e : Hid ((w8.alloc (.cells #[.string ⟨#[]⟩, .slice none 0 0] 26)).drew.cell? ⟨gp, 0, none⟩ = some (.int .i64 x0)) := Lib.hid (cell_al (.cells #[.string ⟨#[]⟩, .slice none 0 0] 26) HD0.out)
        have HD1e : Hid ((w8.alloc (.cells #[.string ⟨#[]⟩, .slice none 0 0] 26)).drew.cell? ⟨gp, 1, none⟩ = some (.int .i64 x1)) := Lib.hid (cell_al (.cells #[.string ⟨#[]⟩, .slice none 0 0] 26) HD1.out)
        have HGLe : Hid (gp < (w8.alloc (.cells #[.string ⟨#[]⟩, .slice none 0 0] 26)).drew.heap.size) := Lib.hid (by show gp < (w8.alloc _).heap.size; have := HGL.out; simp; omega)
        go_upto_region 12 with fail
        go_cut [10] (fun s10 wx => CutZ w [⟨b8, KF, a7, nf, c7, F⟩, ⟨b6, K, a2, n2, c2, X⟩, ⟨b3, K, a, n, c, L⟩] KZ gp x1 s10 wx)
        case first =>
          go_region_held3 (fun w' => w'.cell? ⟨b8, 0, none⟩ = some (.string KF) ∧ w'.cell? ⟨b8, 1, none⟩ = some (.slice a7 nf c7) ∧ w'.cell? ⟨gp, 0, none⟩ = some (.int .i64 x0))
            (first
        | exact ⟨S8d.out.h1.two.c0, S8d.out.h1.two.c1, HD0.out⟩
        | exact ⟨S8e.out.h1.two.c0, S8e.out.h1.two.c1, HD0e.out⟩
        | exact ⟨S9.out.h1.two.c0, S9.out.h1.two.c1, P9.out⟩
        | exact ⟨S10.out.h2.two.c0, S10.out.h2.two.c1, P10.out⟩
        | exact ⟨SF.out.h2.two.c0, SF.out.h2.two.c1, PF.out⟩
        | go_keep)
            (first
        | (go_at_call 23; (with_reducible refine (implFall_any KF a7 nf c7 F q0 w8.drew S8d.out.h1.src (by have := E8.out; omega) (by have h1 := E4.out; have h2 := HKL.out; omega) E6.out (by omega)).mono ?_); rw [HKZ.out, ZL.out]; rintro e w9 ⟨v9, rfl, hown9, hb9⟩; obtain ⟨a9, c9, rfl, _, _, _⟩ := ownE_form hown9; have S9 := Lib.hid (S8d.out.later hb9); have P9 : Hid (w9.cell? ⟨gp, 0, none⟩ = some (.int .i64 x0)) := Lib.hid ((hb9.cell (p := ⟨gp, 0, none⟩) HGL.out).trans HD0.out); have S10 := Lib.hid (S8d.out.push (K := KZ) hb9 S8d.out.below.size hown9); have P10 := Lib.hid (cell_al (.cells #[.string KZ, .slice a9 0 c9] 26) P9.out); have R10 := Lib.hid (cell_al (.cells #[.string KZ, .slice a9 0 c9] 26) ((hb9.cell (p := ⟨gp, 1, none⟩) HGL.out).trans HD1.out)); have G10 : Hid (gp < (w9.alloc (.cells #[.string KZ, .slice a9 0 c9] 26)).heap.size) := Lib.hid (by have h1 := hb9.size; have h2 := HGL.out; have h3 : w8.drew.heap.size = w8.heap.size := rfl; simp; omega); clear hown9 hb9)
        | (go_at_call 23; (with_reducible refine (implFall_any KF a7 nf c7 F q0 _ S8e.out.h1.src (by have := E8.out; omega) (by have h1 := E4.out; have h2 := HKL.out; omega) E6.out (by omega)).mono ?_); rw [HKZ.out, ZL.out]; rintro e w9 ⟨v9, rfl, hown9, hb9⟩; obtain ⟨a9, c9, rfl, _, _, _⟩ := ownE_form hown9; have S9 := Lib.hid (S8e.out.later hb9); have P9 : Hid (w9.cell? ⟨gp, 0, none⟩ = some (.int .i64 x0)) := Lib.hid ((hb9.cell (p := ⟨gp, 0, none⟩) HGLe.out).trans HD0e.out); have SF := Lib.hid (S8.out.fill (K := KZ) rfl hb9 hown9); have PF := Lib.hid (cell_set (cell_set (u := .string KZ) (o := 0) P9.out (Nat.ne_of_lt HGL.out)) (u := .slice a9 0 c9) (o := 1) (Nat.ne_of_lt HGL.out)); have RF := Lib.hid (cell_set (cell_set (u := .string KZ) (o := 0) ((hb9.cell (p := ⟨gp, 1, none⟩) HGLe.out).trans HD1e.out) (Nat.ne_of_lt HGL.out)) (u := .slice a9 0 c9) (o := 1) (Nat.ne_of_lt HGL.out)); have GF : Hid (gp < ((w9.setCell ⟨w8.heap.size, 0, none⟩ (.string KZ)).setCell ⟨w8.heap.size, 1, none⟩ (.slice a9 0 c9)).heap.size) := Lib.hid (by have h1 := hb9.size; have h2 := HGLe.out; simp; omega); have TB := (Two.alloc w8 (.string ⟨#[]⟩) (.slice none 0 0) 26).drew.later hb9; have z0 := TB.c0; have z1 := TB.c1; have z2 := TB.fr (o := 0); have z3 := TB.fr (o := 1); clear hown9 hb9 TB))
          all_goals
            go_wp2_with fail
            go_meet
            first | exact ⟨_, a9, c9, rfl, S10.out, R10.out, G10.out⟩ | exact ⟨_, a9, c9, rfl, SF.out, RF.out, GF.out⟩
        case rest =>
          obtain ⟨b10, a9, c9, rfl, s10, hd9, hg9⟩ := hcut
          have S10 := Lib.hid s10
          have HD9 := Lib.hid hd9
          have HG9 := Lib.hid hg9
          clear s10 hd9 hg9 S8d S8 S8e HD0 HD1 HGL HD0e HD1e HGLe E4 E6 E8 HKZ
          have S11 := Lib.hid S10.out.drop2
          have S11d := Lib.hid S11.out.drew
          have HD9d : Hid (wc.drew.cell? ⟨gp, 1, none⟩ = some (.int .i64 x1)) := HD9
          obtain ⟨KU, hKU⟩ : ∃ Z, fallenK K X q1 = Z := ⟨_, rfl⟩
          rw [hKU, UL.out] at UW
          rw [hKU] at UK
          have HKU := Lib.hid hKU
          obtain ⟨U, hU⟩ : ∃ Z, wordAtB KU [] (m : Int) = Z := ⟨_, rfl⟩
          rw [hU] at UW
          have HU := Lib.hid hU
          obtain ⟨V, hV⟩ : ∃ Z, wordAtB K [] (m : Int) = Z := ⟨_, rfl⟩
          rw [hV] at UW
          have HV := Lib.hid hV
          obtain ⟨s1, s2⟩ := HS12.out
          clear hKU hU hV S10 HS12 t1 t2
          go_wp2_with fail
          go_region_held3 (fun w' => w'.cell? ⟨b6, 0, none⟩ = some (.string K) ∧ w'.cell? ⟨b6, 1, none⟩ = some (.slice a2 n2 c2) ∧ w'.cell? ⟨gp, 1, none⟩ = some (.int .i64 x1))
            (first
        | exact ⟨S11d.out.h2.two.c0, S11d.out.h2.two.c1, HD9d.out⟩
        | exact ⟨S12.out.h2.two.c0, S12.out.h2.two.c1, P12.out⟩
        | exact ⟨S13.out.h2.two.c0, S13.out.h2.two.c1, P13.out⟩
        | go_keep)
            (first
        | (go_at_call 23; (with_reducible refine (implFall_any K a2 n2 c2 X q1 _ S11d.out.h2.src (by have := HX2.out; omega) (by have h2 := HKL.out; omega) HFX.out (by omega)).mono ?_); rw [HKU.out, UL.out]; rintro e w11 ⟨v11, rfl, hown11, hb11⟩; obtain ⟨a11, c11, rfl, _, _, _⟩ := ownE_form hown11; have S12 := Lib.hid (S11d.out.later hb11); have P12 : Hid (w11.cell? ⟨gp, 1, none⟩ = some (.int .i64 x1)) := Lib.hid ((hb11.cell (p := ⟨gp, 1, none⟩) HG9.out).trans HD9d.out); have G12 : Hid (gp < w11.heap.size) := Lib.hid (Nat.lt_of_lt_of_le HG9.out hb11.size); have O12 : Hid (SrcC w11 a11 0 []) := Lib.hid (srcC_of_own hown11); clear hown11 hb11)
        | (go_at_call 24; (with_reducible refine (implWordAt_any KU a11 0 c11 [] (m : Int) _ O12.out (by simp) (by have h1 := UK.out; have h2 := HKL.out; omega)).mono ?_); rw [HU.out]; rintro e w12 ⟨rfl, hb12⟩; have S13 := Lib.hid (S12.out.later hb12); have P13 : Hid (w12.cell? ⟨gp, 1, none⟩ = some (.int .i64 x1)) := Lib.hid ((hb12.cell (p := ⟨gp, 1, none⟩) G12.out).trans P12.out); clear hb12))
          clear S11 S11d S12 P12 P13 HD9 HD9d HG9 G12 O12 s1 s2 HKU UL
          have h1c0 := S13.out.h1.two.c0
          have h1c1 := S13.out.h1.two.c1
          have h2c0 := S13.out.h2.two.c0
          have h2c1 := S13.out.h2.two.c1
          have h3c0 := S13.out.h3.two.c0
          have h3c1 := S13.out.h3.two.c1
          go_wp2_with fail
          refine (implOk_any K a2 n2 c2 X _ S13.out.h2.src (by have := HX2.out; omega) (by have := HKL.out; omega)).mono ?_
          rw [EOK.out]
          rintro e w14 ⟨rfl, hb⟩
          have S14 := Lib.hid (S13.out.later hb)
          clear hb S13
          clear h1c0 h1c1 h2c0 h2c1 h3c0 h3c1
          have h1c0 := S14.out.h1.two.c0
          have h1c1 := S14.out.h1.two.c1
          have h2c0 := S14.out.h2.two.c0
          have h2c1 := S14.out.h2.two.c1
          have h3c0 := S14.out.h3.two.c0
          have h3c1 := S14.out.h3.two.c1
          go_wp2_with fail
          refine (implWordAt_any K a2 n2 c2 X (m : Int) _ S14.out.h2.src (by have := HX2.out; omega) (by have := HKL.out; omega)).mono ?_
          rw [EW.out]
          rintro e w15 ⟨rfl, hb⟩
          have S15 := Lib.hid (S14.out.later hb)
          clear hb S14
          clear h1c0 h1c1 h2c0 h2c1 h3c0 h3c1
          have h1c0 := S15.out.h1.two.c0
          have h1c1 := S15.out.h1.two.c1
          have h2c0 := S15.out.h2.two.c0
          have h2c1 := S15.out.h2.two.c1
          have h3c0 := S15.out.h3.two.c0
          have h3c1 := S15.out.h3.two.c1
          go_wp2_with fail
          have z9 : SrcC w15 a9 0 [] := S15.out.h1.src
          refine (implWordAt_any KZ a9 0 c9 [] (m : Int) _ z9 (by simp) (by have h1 := ZK.out; have := HKL.out; omega)).mono ?_
          rw [ZW.out]
          rintro e w16 ⟨rfl, hb⟩
          have S16 := Lib.hid (S15.out.later hb)
          clear hb S15
          clear h1c0 h1c1 h2c0 h2c1 h3c0 h3c1
          have h1c0 := S16.out.h1.two.c0
          have h1c1 := S16.out.h1.two.c1
          have h2c0 := S16.out.h2.two.c0
          have h2c1 := S16.out.h2.two.c1
          have h3c0 := S16.out.h3.two.c0
          have h3c1 := S16.out.h3.two.c1
          clear z9
          have zk := ZK.out
          by_cases hux : U = x
          · subst hux
            go_wp2
            go_ret
            exact ⟨rfl, S16.out.below⟩
          · have huv : V = U := (UW.out.resolve_left hux).symm
            have n1 := text_ne hux
            have n2x : (U.toList == x.toList) = false := beq_eq_false_iff_ne.2 n1
            clear hux
            go_wp2_with fail
            refine (specWordAt_any K none 0 0 [] (m : Int) _ (SrcE.nil _ _ _) (by simp) (by have := HKL.out; omega)).mono ?_
            rw [HV.out, huv]
            clear huv
            rintro e w17 ⟨rfl, hb⟩
            have S17 := Lib.hid (S16.out.later hb)
            clear hb S16
            clear h1c0 h1c1 h2c0 h2c1 h3c0 h3c1
            have h1c0 := S17.out.h1.two.c0
            have h1c1 := S17.out.h1.two.c1
            have h2c0 := S17.out.h2.two.c0
            have h2c1 := S17.out.h2.two.c1
            have h3c0 := S17.out.h3.two.c0
            have h3c1 := S17.out.h3.two.c1
            go_wp2
            go_ret
            exact ⟨rfl, S17.out.below⟩
      · obtain ⟨hok, hi0, hi1⟩ := hg
        have hsame : storedL K L i x = L := storedL_size hx
        have HWS : Hid (0 < (wordAtB K L i).size) := Lib.hid (by obtain ⟨m, rfl⟩ : ∃ m : Nat, i = m := ⟨i.toNat, by omega⟩; rw [wordAtB_yes hok (by omega), wordT_size hok (by omega)]; decide)
        clear hi0 hi1 hok
        refine (specWordAt_any K a n c L i _ S4.out.h2.src (by have := HLL.out; omega) (by have := HKL.out; omega)).mono ?_
        obtain ⟨T, hT⟩ : ∃ T, wordAtB K L i = T := ⟨_, rfl⟩
        rw [hT] at HWS ⊢
        clear hT
        obtain rfl : X = L := by rw [← HX.out]; exact hsame
        obtain rfl : n = n2 := by rw [← HLEN.out, ← HN2.out]
        clear hsame
        rintro e w5 ⟨rfl, hb5⟩
        have S5 := Lib.hid (S4.out.later hb5)
        clear hb5 S4
        clear h1c0 h1c1 h2c0 h2c1
        have h1c0 := S5.out.h1.two.c0
        have h1c1 := S5.out.h1.two.c1
        have h2c0 := S5.out.h2.two.c0
        have h2c1 := S5.out.h2.two.c1
        have ht := text_full T HWS.out
        have hx8 : ((x.size : Int) == 8) = false := by simp; omega
        have hx8n : ((x.size : Int) != 8) = true := by simp; omega
        go_wp2_with fail
        refine (sameMemory_any K a2 a _ c2 c _ _ (by have := HX2.out; omega) S5.out.h1.src S5.out.h2.src).mono ?_
        rintro e w6 ⟨rfl, hb6⟩
        have S6 := Lib.hid (S5.out.later hb6)
        clear hb6
        clear h1c0 h1c1 h2c0 h2c1
        go_wp2_with fail
        refine (implNew_any 1 w6).mono ?_
        rintro e w7 ⟨rfl, hb7⟩
        rw [HNB.out]
        have S7 := Lib.hid (S6.out.later hb7)
        clear hb7
        have hz := HZ1.out
        have hfd : (Instr.field 26 (.agg #[.string nb, .slice none 0 0]) 0).run Try.prog w7 = .ok (.string nb) w7 := by kernel_rfl
        go_wp2
        go_ret
        exact ⟨rfl, S7.out.below⟩
    · have hsame : storedL K L i x = L := if_neg (fun e => hg ⟨memOkB_iff.1 e.1, e.2.2⟩)
      have hw : wordAtB K L i = ⟨#[]⟩ := if_neg (fun e => hg ⟨memOkB_iff.1 e.1, e.2⟩)
      refine (specWordAt_any K a n c L i _ S4.out.h2.src (by have := HLL.out; omega) (by have := HKL.out; omega)).mono ?_
      rw [hw]
      clear hw hg
      obtain rfl : X = L := by rw [← HX.out]; exact hsame
      obtain rfl : n = n2 := by rw [← HLEN.out, ← HN2.out]
      clear hsame
      rintro e w5 ⟨rfl, hb5⟩
      have S5 := Lib.hid (S4.out.later hb5)
      clear hb5 S4
      clear h1c0 h1c1 h2c0 h2c1
      have h1c0 := S5.out.h1.two.c0
      have h1c1 := S5.out.h1.two.c1
      have h2c0 := S5.out.h2.two.c0
      have h2c1 := S5.out.h2.two.c1
      go_wp2_with fail
      refine (sameMemory_any K a2 a _ c2 c _ _ (by have := HX2.out; omega) S5.out.h1.src S5.out.h2.src).mono ?_
      rintro e w6 ⟨rfl, hb6⟩
      have S6 := Lib.hid (S5.out.later hb6)
      clear hb6
      clear h1c0 h1c1 h2c0 h2c1
      go_wp2_with fail
      refine (implNew_any 1 w6).mono ?_
      rintro e w7 ⟨rfl, hb7⟩
      rw [HNB.out]
      have S7 := Lib.hid (S6.out.later hb7)
      clear hb7
      have hz := HZ1.out
      have hfd : (Instr.field 26 (.agg #[.string nb, .slice none 0 0]) 0).run Try.prog w7 = .ok (.string nb) w7 := by kernel_rfl
      go_wp2
      go_ret
      exact ⟨rfl, S7.out.below⟩
  · go_enter Try.func3, Try.ntmps3
    go_wp2_with (go_at_call 13; go_in)
    go_ret
    exact ⟨rfl, Below.refl _ _⟩
end Go.Proofs.Ytpahihcnmpeenaa
namespace Go.Proofs.Ytpahihcnmpeenaa
open Go.RowKit Go.Proofs.Ytpahihcnmpeenaa.Parts Go.Proofs.Ytpahihcnmpeenaa.Hexa Go.Proofs.Ytpahihcnmpeenaa.Draw

def FallDrawn (w : World) (e : Ending) (w' : World) : Prop :=
  ∃ K L a n cp z, e = .returned (.tuple #[.agg #[.string K, .slice a n cp], .int .i64 z]) ∧ FitT L 1048600 ∧ L.length ≤ 1000 ∧ K.size ≤ 1000 ∧ -1 ≤ z ∧ z ≤ 9223372036854775807 ∧ w'.ownsRow w.heap.size 68 3 (.slice a n cp) n (cellsE encC L) ∧ Below w.heap.size w w'

set_option maxRecDepth 100000 in
set_option maxHeartbeats 4000000 in
theorem drawFall_any (ad : Option Addr) (len cap : Nat) (w : World) (hlen : len ≤ 1048576) (hs : Draw.Src w w.heap.size ad len) :
    Calls Try.prog 26 #[.slice ad len cap] w (FallDrawn w) := by
  have HS := Lib.hid hs
  have HS0 : Hid (Draw.Src (w.alloc (.cells #[.string ⟨#[]⟩, .slice none 0 0] 26)) (w.heap.size + 1) ad len) := Lib.hid (fun i hi => by
    obtain ⟨q, off, z, e, hq, r⟩ := src_grown' (row := none) hs (grown_alloc w (.cells #[.string ⟨#[]⟩, .slice none 0 0] 26) none) (fun k e => by cases e) (Nat.le_refl _) i hi
    exact ⟨q, off, z, e, by omega, r⟩)
  have R0 := Lib.hid (Two.alloc w (.string ⟨#[]⟩) (.slice none 0 0) 26)
  have B0 : Hid (Below w.heap.size w (w.alloc (.cells #[.string ⟨#[]⟩, .slice none 0 0] 26))) := Lib.hid (below_alloc w _)
  have Z0 : Hid ((w.alloc (.cells #[.string ⟨#[]⟩, .slice none 0 0] 26)).heap.size = w.heap.size + 1) := Lib.hid (by simp)
  clear hs
  go_enter Try.func26, Try.ntmps26
  go_wp2_with fail
  generalize w.alloc (.cells #[.string ⟨#[]⟩, .slice none 0 0] 26) = W0 at HS0 R0 B0 Z0 ⊢
  refine (new_any ad len cap W0 hlen (by rw [Z0.out]; exact HS0.out)).mono ?_
  rintro e w1 ⟨rfl, h, rfl⟩
  rw [Z0.out]
  have C1 : Hid (Cur (W0.alloc (.cells #[.slice ad len cap, .int .i64 0, .int .i64 h] 76)) (w.heap.size + 1) ad len cap) := Lib.hid ⟨0, h, Nat.zero_le _, by rw [← Z0.out]; exact heap_alloc_new W0 _⟩
  have S1 : Hid (Draw.Src (W0.alloc (.cells #[.slice ad len cap, .int .i64 0, .int .i64 h] 76)) (w.heap.size + 1) ad len) := Lib.hid (src_grown' HS0.out (grown_alloc _ _ none) (fun k e => by cases e) (by rw [Z0.out]; exact Nat.le_refl _))
  have R1 := Lib.hid (R0.out.later (below_alloc W0 (.cells #[.slice ad len cap, .int .i64 0, .int .i64 h] 76)))
  have B1 := Lib.hid (B0.out.trans ((below_alloc W0 (.cells #[.slice ad len cap, .int .i64 0, .int .i64 h] 76)).mono B0.out.size))
  have Z1 : Hid ((W0.alloc (.cells #[.slice ad len cap, .int .i64 0, .int .i64 h] 76)).heap.size = w.heap.size + 2) := Lib.hid (by simp [Z0.out])
  generalize W0.alloc (.cells #[.slice ad len cap, .int .i64 0, .int .i64 h] 76) = W1 at C1 S1 R1 B1 Z1 ⊢
  clear HS HS0 R0 B0 Z0
  go_wp2_with fail
  refine (drawAny_any (w.heap.size + 1) ad len cap W1 hlen C1.out S1.out).mono ?_
  rintro e w2 ⟨K, L, v, rfl, hfit, hll, hkl, hown, hc2, hg2⟩
  rw [Z1.out] at hown
  obtain ⟨a, cp, rfl, _, _, hpl⟩ := ownE_form hown
  obtain ⟨n, hn⟩ : ∃ n, L.length = n := ⟨_, rfl⟩
  rw [hn] at hown hll ⊢
  have HF := Lib.hid hfit
  have HLL : Hid (L.length ≤ 1000) := Lib.hid (by rw [hn]; exact hll)
  have HKL := Lib.hid hkl
  have ST : Hid (StoSt w (w2.alloc (.cells #[.string K, .slice a n cp] 26)) ad len cap w2.heap.size K L a n cp) := Lib.hid (by
    have hba := below_alloc w2 (.cells #[.string K, .slice a n cp] 26)
    have hsz := hg2.size
    rw [Z1.out] at hsz
    have hb2 : Below w.heap.size w w2 := B1.out.grown hg2 B1.out.size (fun k e => by simp at e; omega)
    refine ⟨(two_grown R1.out hg2 (by omega)).later hba, ⟨Two.alloc w2 _ _ _, own_below hown hba, hsz, fun p hp => ?_⟩, cur_below hc2 hba (cur_lt hc2), src_below (src_grown S1.out hg2 (cur_lt C1.out)) hba (Nat.le_of_lt (cur_lt hc2)), hb2.trans (hba.mono hb2.size)⟩
    obtain ⟨g, e, _, hg⟩ := hpl p hp
    rw [e]; exact Nat.ne_of_lt hg)
  clear hfit hll hkl hown hpl hc2 hg2 hn R1 B1 C1 S1 Z1
  obtain ⟨b, hb⟩ : ∃ b, b = w2.heap.size := ⟨_, rfl⟩
  obtain ⟨w3, h3⟩ : ∃ x, x = w2.alloc (.cells #[.string K, .slice a n cp] 26) := ⟨_, rfl⟩
  rw [← hb, ← h3] at ST
  have c0 := ST.out.box.two.c0
  have c1 := ST.out.box.two.c1
  have HPK : Hid (Calls Try.prog 47 #[.pointer (some ⟨w.heap.size + 1, 0, none⟩), .slice (some ⟨w3.heap.size, 0, none⟩) 8 8] (w3.alloc (.cells #[.int .i64 0, .int .i64 1, .int .i64 2, .int .i64 5, .int .i64 10, .int .i64 255, .int .i64 9223372036854775807, .int .i64 (-1)] 3)).drew fun e w' => ∃ z ∈ ([0, 1, 2, 5, 10, 255, 9223372036854775807, -1] : List Int), e = .returned (.int .i64 z) ∧ Cur w' (w.heap.size + 1) ad len cap ∧ w3.drew.grownBy w' (some (w.heap.size + 1))) := Lib.hid (pickNum_new (w.heap.size + 1) ad len cap 8 [0, 1, 2, 5, 10, 255, 9223372036854775807, -1] _ _ w3.drew rfl hlen (by decide) (by decide) rfl ST.out.drew.cur ST.out.drew.src)
  have hba3 : Below w3.drew.heap.size w3.drew (w3.drew.alloc (.cells #[.int .i64 0, .int .i64 1, .int .i64 2, .int .i64 5, .int .i64 10, .int .i64 255, .int .i64 9223372036854775807, .int .i64 (-1)] 3)) := below_alloc _ _
  have ST3 := Lib.hid (ST.out.drew.later hba3)
  have HR : Hid (∀ (z : Int) (w6 : World), StoSt w w6 ad len cap b K L a n cp → -1 ≤ z → z ≤ 9223372036854775807 → FallDrawn w (.returned (.tuple #[.agg #[.string K, .slice a n cp], .int .i64 z])) ((w6.setCell ⟨w.heap.size, 0, none⟩ (.string K)).setCell ⟨w.heap.size, 1, none⟩ (.slice a n cp))) := Lib.hid (fun z w6 hs z0 z1 => ⟨K, L, a, n, cp, z, rfl, HF.out, HLL.out, HKL.out, z0, z1, hs.done.1, hs.done.2⟩)
  clear hba3
  go_wp2_with fail
  rw [← hb]
  try rw [← h3]
  clear hb h3
  go_region_held3 (fun w' => w'.cell? ⟨b, 0, none⟩ = some (.string K) ∧ w'.cell? ⟨b, 1, none⟩ = some (.slice a n cp))
    (first
      | exact ⟨ST.out.drew.box.two.c0, ST.out.drew.box.two.c1⟩
      | exact ⟨ST3.out.box.two.c0, ST3.out.box.two.c1⟩
      | exact ⟨ST5.out.box.two.c0, ST5.out.box.two.c1⟩
      | exact ⟨(ST5.out.set_two _ _).c0, (ST5.out.set_two _ _).c1⟩
      | go_keep)
    (first
      | (go_at_call 47; (with_reducible refine HPK.out.mono ?_); rintro e w5 ⟨z, hz, rfl, hc5, hg5⟩; have ST5 := Lib.hid (ST.out.drew.draw hc5 hg5); have hz' : -1 ≤ z ∧ z ≤ 9223372036854775807 := (by simp at hz; omega); have r0 := ST5.out.res.c0; have r1 := ST5.out.res.c1; have f0 := ST5.out.res.fr (o := 0); have f1 := ST5.out.res.fr (o := 1); have q := two_set1 (two_set0 ST5.out.res (x := .string K)) (x := .slice a n cp); have q0 := cell0_of_two q; have q1 := cell1_of_two q; have HP := Lib.hid (HR.out z w5 ST5.out hz'.1 hz'.2); clear hc5 hg5 hz hz' q))
  all_goals
    go_wp2
    refine bodyPost_ret (v := .tuple #[.agg #[.string K, .slice a n cp], .int .i64 z]) ?_ rfl HP.out
    simp [results, Try.results26, go_sem, q0, q1]
end Go.Proofs.Ytpahihcnmpeenaa
namespace Go.Proofs.Ytpahihcnmpeenaa
open Go.RowKit Go.Proofs.Ytpahihcnmpeenaa.Parts Go.Proofs.Ytpahihcnmpeenaa.Hexa

theorem infoInt : (Try.prog.info? 3).map (fun i => (i.zero, i.size, i.bytes)) = some (some (.int .i64 0), 1, 8) := by kernel_rfl

/-- A slice of ints that came in. -/
structure SrcI (w : World) (a : Option Addr) (n : Nat) (zs : List Int) : Prop where
  len : zs.length = n
  cell : ∀ j, j < n → ∃ g off, a = some ⟨g, off, none⟩ ∧ g < w.heap.size ∧ w.cell? ⟨g, off + j, none⟩ = some (.int .i64 (zs.getD j 0))
theorem SrcI.later {w w' : World} {a : Option Addr} {n : Nat} {zs : List Int} (h : SrcI w a n zs) (hb : Below w.heap.size w w') : SrcI w' a n zs :=
  ⟨h.len, fun j hj => by
    obtain ⟨g, off, e, hg, hc⟩ := h.cell j hj
    exact ⟨g, off, e, Nat.lt_of_lt_of_le hg hb.size, by rw [hb.cell hg]; exact hc⟩⟩

/-- A slice at the head of its block reads as these ints. -/
structure IntsAt (w : World) (g n : Nat) (zs : List Int) : Prop where
  len : zs.length = n
  lt : g < w.heap.size
  cell : ∀ j, j < n → w.cell? ⟨g, j, none⟩ = some (.int .i64 (zs.getD j 0))
theorem IntsAt.later {w w' : World} {g n : Nat} {zs : List Int} (h : IntsAt w g n zs) (hb : Below w.heap.size w w') : IntsAt w' g n zs :=
  ⟨h.len, Nat.lt_of_lt_of_le h.lt hb.size, fun j hj => by rw [hb.cell h.lt]; exact h.cell j hj⟩
theorem own_lt {w : World} {B e : Nat} {g n cap : Nat} {xs : List Value} (h : w.ownsRow B e 1 (.slice (some ⟨g, 0, none⟩) n cap) n xs) : g < w.heap.size := by
  rcases h.2 with ⟨h', _⟩ | ⟨g', cap', cur, h', _, hg, _⟩
  · simp at h'
  · simp at h'
    rw [h'.1]
    exact (Array.getElem?_eq_some_iff.1 hg).1
theorem intsAt_of_own {w : World} {B e : Nat} {g n cap : Nat} {zs : List Int} (h : w.ownsRow B e 1 (.slice (some ⟨g, 0, none⟩) n cap) n (icells zs)) : IntsAt w g n zs := by
  have hl : zs.length = n := by have := own_length h; rwa [icells_length] at this
  refine ⟨hl, own_lt h, fun j hj => ?_⟩
  rw [h.cellAt j (by omega)]
  have hj' : j < zs.length := by omega
  simp [icells, List.getD, hj']
theorem IntsAt.reads {w : World} {g n : Nat} {zs : List Int} (h : IntsAt w g n zs) : Reads w (some ⟨g, 0, none⟩) (icells zs) := fun j hj => by
  rw [icells_length] at hj
  refine ⟨g, rfl, ?_⟩
  rw [h.cell j (by have := h.len; omega)]
  simp [icells, List.getD, hj]
theorem own_kept {w w' : World} {B e : Nat} {v : Value} {n : Nat} {xs : List Value} (h : w.ownsRow B e 1 v n xs) (hk : ∀ g, v.ownBlock = some g → w'.heap[g]? = w.heap[g]?) : w'.ownsRow B e 1 v n xs := by
  refine ⟨h.1, h.2.imp id fun ⟨g, cap, cur, hv, hg, hh, r⟩ => ⟨g, cap, cur, hv, hg, ?_, r⟩⟩
  rw [hk g (by rw [hv]; rfl)]; exact hh
theorem own_block_lt {w : World} {B e : Nat} {v : Value} {n : Nat} {xs : List Value} (h : w.ownsRow B e 1 v n xs) : ∀ g, v.ownBlock = some g → g < w.heap.size := by
  intro k hk
  rcases h.2 with ⟨rfl, _⟩ | ⟨g, cap, cur, rfl, _, hg, _⟩
  · simp [Value.ownBlock] at hk
  · simp [Value.ownBlock] at hk
    rw [← hk]
    exact (Array.getElem?_eq_some_iff.1 hg).1
end Go.Proofs.Ytpahihcnmpeenaa
