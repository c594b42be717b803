/- FnFigures: the law's walk. -/
import Derived.Test.YtlnfbddamlhifaaDoorReadLaw
import Derived.Test.YtlnfbddamlhifaaDoorDrawPlaces
import Derived.Test.YtlnfbddamlhifaaDoorHexImpl
import Derived.Test.YtlnfbddamlhifaaDoorUnhexImpl
import Derived.Test.YtlnfbddamlhifaaDoorFigMath
import Derived.Deep.RegionLaw
import Derived.Deep.RegionHeld3
import Derived.Deep.DeepCutAuto
namespace Go.Proofs.YtlnfbddamlhifaaDoor
open Go.RowKit Go.Proofs.YtlnfbddamlhifaaDoor.Parts Go.Proofs.YtlnfbddamlhifaaDoor.Hexa
namespace Fig
open Draw

theorem ret_i {a b : Int} (h : a = b) : Ending.returned (.int .i64 a) = .returned (.int .i64 b) := by rw [h]

set_option maxHeartbeats 400000 in
theorem brought_any (n l m : Int) (w : World) (h : l ≤ m) :
    Calls Tryd.prog 12 #[.int .i64 n, .int .i64 l, .int .i64 m] w fun e w' => e = .returned (.int .i64 (brI n l m)) ∧ w' = w := by
  have E : Hid (brI n l m = if n < l then l else if m < n then m else n) := Lib.hid rfl
  by_cases h2 : m < n <;> by_cases h3 : n < l <;> first | omega | skip
  all_goals
    go_enter Tryd.func12, Tryd.ntmps12
    go_wp2
    all_goals go_ret
    all_goals exact ⟨ret_i (by rw [E.out]; split <;> (try split) <;> omega), rfl⟩

/-- Decimal of a drawn number: a short text. -/
theorem dec_short (n : Int) (w : World) (h0 : 0 ≤ n) (h1 : n < 10000) (ht : Tab w) :
    Calls Tryd.prog 8 #[.int .i64 n] w fun e w' => ∃ d : ByteArray, d.size ≤ 4 ∧ e = .returned (.string d) ∧ Below w.heap.size w w' := by
  obtain ⟨k, rfl⟩ : ∃ k : Nat, n = k := ⟨n.toNat, by omega⟩
  refine (implDecimal_any k w (by omega) (by omega) ht).mono fun e w' ⟨he, hb⟩ => ⟨_, ?_, he, hb⟩
  show (Lib.itoa (k : Int)).toArray.size ≤ 4
  rw [itoa_num]
  simpa using num_length 3 k (by omega)

/-- The text of two bytes that a call has laid. -/
theorem two_conv (x y : Int) (hx : 0 ≤ x ∧ x ≤ 255) (hy : 0 ≤ y ∧ y ≤ 255) : ∃ S : ByteArray, S.size = 2 ∧ ∀ (W : World) (g : Nat), W.heap[g]? = some (.cells #[.int .u8 x, .int .u8 y] 5 (0, 0)) →
    (convert 22 9 (.slice (some ⟨g, 0, none⟩) 2 2)).run Tryd.prog W = .ok (.string S) W := by
  refine ⟨⟨[UInt8.ofNat x.toNat, UInt8.ofNat y.toNat].toArray⟩, rfl, fun W g hg => ?_⟩
  have ex : ((UInt8.ofNat x.toNat).toNat : Int) = x := by rw [UInt8.toNat_ofNat']; omega
  have ey : ((UInt8.ofNat y.toNat).toNat : Int) = y := by rw [UInt8.toNat_ofNat']; omega
  refine own_string (P := Tryd.prog) (base := 0) (e := 5) (n := 2) (l := [UInt8.ofNat x.toNat, UInt8.ofNat y.toNat]) 22 9 Tryd.underlying22 Tryd.underlying5 Tryd.underlying9 ⟨rfl, .inr ⟨g, 2, _, rfl, Nat.zero_le _, hg, Nat.le_refl _, by decide, rfl, ?_⟩⟩
  simp only [bcells, List.map, ex, ey]; rfl

theorem hex_call (t : ByteArray) (w : World) (h : t.size ≤ 20000) :
    Calls Tryd.prog 9 #[.string t] w fun e w' => e = .returned (.tuple #[.string (hexText t), .bool true]) ∧ Below w.heap.size w w' := implHex_yes t w h
theorem unhex_call (t : ByteArray) (w : World) (h : t.size ≤ 20000) :
    Calls Tryd.prog 10 #[.string (hexText t)] w fun e w' => e = .returned (.tuple #[.string t, .bool true]) ∧ Below w.heap.size w w' := by
  have := implUnhex_even (hexText t) w (by rw [hexText_size]; omega) (by rw [hexText_size]; omega)
  rw [(unhex_hex t).1, (unhex_hex t).2] at this
  exact this
theorem read_call (n : Int) (w : World) (h0 : 0 ≤ n) (h1 : n ≤ 1000000000) (hT : Tab w) (hE : Errs w) :
    Calls Tryd.prog 11 #[.string ⟨(Lib.itoa n).toArray⟩] w fun e w' => e = .returned (.tuple #[.int .i64 n, .bool true]) ∧ Below w.heap.size w w' := by
  obtain ⟨k, rfl⟩ : ∃ k : Nat, n = k := ⟨n.toNat, by omega⟩
  have hs : Spells ⟨(Lib.itoa (k : Int)).toArray⟩ k := spells_of_text (by omega) rfl
  have hz := spells_size hs
  refine (implRead_any _ w (by omega) hT hE).mono fun e w' ⟨he, hb⟩ => ⟨?_, hb⟩
  rw [he, (rd_yes hs).1, (rd_yes hs).2]

theorem below_draws {B : Nat} {a w : World} (h : Below B a w) (m : Nat) : Below B a (w.drewN m) := ⟨h.os, h.tape, h.output, h.size, h.block⟩
/-- A call that leaves the world alone, in a region behind another one that drew. -/
theorem quiet_again {P : Program} {f : FuncId} {args : Array Value} {w : World} {a n : Nat} {v : Value} (c : ∀ W : World, Calls P f args W fun e w' => e = .returned v ∧ w' = W) :
    Calls P f args (w.drewN (a + n)) fun e w'' => e = .returned v ∧ ∃ m, w'' = w.drewN (a + m) :=
  (c _).mono fun _ _ ⟨he, hw⟩ => ⟨he, n, hw⟩

set_option maxRecDepth 100000 in
set_option maxHeartbeats 8000000 in
theorem figures_law (ad : Option Addr) (len cap : Nat) (w : World) (hs : Src w w.heap.size ad len) (hT : Tab w) (hE : Errs w) (hlen : len ≤ 1048576) :
    Calls Tryd.prog 3 #[.slice ad len cap] w fun e w' => e = .returned (.bool true) ∧ Below w.heap.size w w' := by
  have HS := Lib.hid hs
  have HT := Lib.hid hT
  have HE := Lib.hid hE
  clear hs hT hE
  go_enter Tryd.func3, Tryd.ntmps3
  go_wp2_with (first
    | (go_at_call 6; go_in)
    | fail)
  refine (places_any ad len cap _ hlen HS.out).mono ?_
  rintro e w1 ⟨v, xs, hl, hx, rfl, hown, hb1⟩
  obtain ⟨ad1, cap1, rfl, hc1, hn1, hr1⟩ := own_form hown
  obtain ⟨g, hg, _⟩ := hr1 0 (by simp [icells, hl])
  subst hg
  match xs, hl with
  | [p0, p1, p2, p3, p4, p5, p6, p7, p8, p9, p10, p11], _ =>
    have b0 := hx p0 (by simp)
    have b1 := hx p1 (by simp)
    have b2 := hx p2 (by simp)
    have b3 := hx p3 (by simp)
    have b4 := hx p4 (by simp)
    have b5 := hx p5 (by simp)
    have b6 := hx p6 (by simp)
    have b7 := hx p7 (by simp)
    have hgb : g < w1.heap.size := by
      rcases hown.2 with ⟨h, _⟩ | ⟨g', cap', cur, h, _, hh, _⟩
      · simp at h
      · simp at h; obtain ⟨rfl, _⟩ := h; exact (Array.getElem?_eq_some_iff.1 hh).1
    have k0 := hown.cellAt 0 (by decide)
    have k1 := hown.cellAt 1 (by decide)
    have k2 := hown.cellAt 2 (by decide)
    have k3 := hown.cellAt 3 (by decide)
    have k4 := hown.cellAt 4 (by decide)
    have k5 := hown.cellAt 5 (by decide)
    have k6 := hown.cellAt 6 (by decide)
    have k7 := hown.cellAt 7 (by decide)
    simp [icells] at k0 k1 k2 k3 k4 k5 k6 k7
    have T1 := Lib.hid (HT.out.below hb1)
    have E1 := Lib.hid (HE.out.below hb1)
    have B1 := Lib.hid hb1
    clear hx hr1 hown hb1 hc1 hn1 HS HT HE
    obtain ⟨S, hS, hconv⟩ := two_conv (IntKind.u8.wrap p6) (IntKind.u8.wrap p7) (by rw [IntKind.wrap_u8]; omega) (by rw [IntKind.wrap_u8]; omega)
    go_upto_region 4 with fail
    go_cut [4] (fun s4 wx => ∃ t : ByteArray, s4 = .string t ∧ t.size ≤ 100 ∧ Below w1.heap.size w1 wx)
    case first =>
      have hcv0 := hconv (w1.alloc (.cells #[.int .u8 (IntKind.u8.wrap p6), .int .u8 (IntKind.u8.wrap p7)] 5)).drew w1.heap.size (heap_alloc_new _ _)
      have BA := Lib.hid (((Below.refl w1.heap.size w1).alloc (Nat.le_refl _) (.cells #[.int .u8 (IntKind.u8.wrap p6), .int .u8 (IntKind.u8.wrap p7)] 5)).drew)
      have SA : Hid (w1.heap.size < (w1.alloc (.cells #[.int .u8 (IntKind.u8.wrap p6), .int .u8 (IntKind.u8.wrap p7)] 5)).drew.heap.size) := Lib.hid (by show w1.heap.size < (w1.alloc (.cells #[.int .u8 (IntKind.u8.wrap p6), .int .u8 (IntKind.u8.wrap p7)] 5)).heap.size; simp)
      have BD := Lib.hid ((Below.refl w1.heap.size w1).drew)
      have HC := Lib.hid hconv
      clear hconv
      go_region_law (first
        | (go_simp; go_at_call 8; refine (dec_short p5 _ b5.1 b5.2 (T1.out.below BA.out)).mono ?_; rintro e w2 ⟨d, hd, rfl, hb2⟩; have hds : ¬ (9223372036854775807 < d.size + 2) := (by omega); have hw2 : Below w1.heap.size w1 w2 := BA.out.trans (hb2.mono BA.out.size); have q6 := (hw2.cell (p := ⟨g, 6, none⟩) hgb).trans k6; have q7 := (hw2.cell (p := ⟨g, 7, none⟩) hgb).trans k7; have hcv1 := HC.out w2 w1.heap.size ((hb2.block w1.heap.size SA.out).trans (heap_alloc_new _ _)))
        | (go_simp; go_at_call 8; refine (dec_short p5 _ b5.1 b5.2 (T1.out.below BD.out)).mono ?_; rintro e w2 ⟨d, hd, rfl, hb2⟩; have hds : ¬ (9223372036854775807 < d.size + 2) := (by omega); have hw2 : Below w1.heap.size w1 w2 := BD.out.trans hb2; have q6 := (hw2.cell (p := ⟨g, 6, none⟩) hgb).trans k6; have q7 := (hw2.cell (p := ⟨g, 7, none⟩) hgb).trans k7; have hcv2 := HC.out (w2.alloc (.cells #[.int .u8 (IntKind.u8.wrap p6), .int .u8 (IntKind.u8.wrap p7)] 5)) w2.heap.size (heap_alloc_new _ _)))
      all_goals
        go_wp2_with fail
        go_meet
        exact ⟨d ++ S, rfl, by rw [ByteArray.size_append]; omega, by first | exact hw2 | exact hw2.alloc hw2.size _⟩
    case rest =>
      obtain ⟨t, rfl, ht, hbc⟩ := hcut
      have BC := Lib.hid hbc
      clear hbc hconv
      go_wp2_with fail
      refine (hex_call t wc (by omega)).mono ?_
      rintro e w3 ⟨rfl, hb3⟩
      go_wp2_with fail
      refine (unhex_call t w3 (by omega)).mono ?_
      rintro e w4 ⟨rfl, hb4⟩
      have B4 := Lib.hid (BC.out.trans ((hb3.trans (hb4.mono hb3.size)).mono BC.out.size))
      clear hb3 hb4
      have j0 := (B4.out.cell (p := ⟨g, 0, none⟩) hgb).trans k0
      have j1 := (B4.out.cell (p := ⟨g, 1, none⟩) hgb).trans k1
      have c1 : IntKind.i64.wrap (p0 * 10000) = p0 * 10000 := IntWalk.i64_in _ (by omega)
      have c2 : IntKind.i64.wrap (p0 * 10000 + p1) = p0 * 10000 + p1 := IntWalk.i64_in _ (by omega)
      go_wp2_with fail
      go_quiet (fail)
      clear j0 j1 c1 c2
      go_wp2_with fail
      refine (implDecimal_any _ (w4.drewN nq) (by omega) (by omega) (T1.out.below (below_draws B4.out nq))).mono ?_
      rintro e w5 ⟨rfl, hb5⟩
      have B5 : Hid (Below w1.heap.size w1 w5) := Lib.hid ((below_draws B4.out nq).trans (hb5.mono B4.out.size))
      clear hb5
      go_wp2_with fail
      refine (read_call _ w5 (by omega) (by omega) (T1.out.below B5.out) (E1.out.below B5.out)).mono ?_
      rintro e w6 ⟨rfl, hb6⟩
      have B6 := Lib.hid (B5.out.trans (hb6.mono B5.out.size))
      clear hb6
      have j2 := (B6.out.cell (p := ⟨g, 2, none⟩) hgb).trans k2
      have j3 := (B6.out.cell (p := ⟨g, 3, none⟩) hgb).trans k3
      have j4 := (B6.out.cell (p := ⟨g, 4, none⟩) hgb).trans k4
      have c1 : IntKind.i64.wrap (p2 - 5000) = p2 - 5000 := IntWalk.i64_in _ (by omega)
      have c2 : IntKind.i64.wrap (-p3) = -p3 := IntWalk.i64_in _ (by omega)
      obtain ⟨b, hb⟩ : ∃ b, brI (p2 - 5000) (-p3) p4 = b := ⟨_, rfl⟩
      have hbd := brI_bd (p2 - 5000) (-p3) p4 (by omega)
      rw [hb] at hbd
      obtain ⟨bl, bu⟩ := hbd
      have Q1 : Hid (∀ w, Calls Tryd.prog 12 #[.int .i64 (p2 - 5000), .int .i64 (-p3), .int .i64 p4] w fun e w' => e = .returned (.int .i64 b) ∧ w' = w) := Lib.hid (fun w => by rw [← hb]; exact brought_any _ _ _ w (by omega))
      have Q2 : Hid (∀ w, Calls Tryd.prog 12 #[.int .i64 b, .int .i64 (-p3), .int .i64 p4] w fun e w' => e = .returned (.int .i64 b) ∧ w' = w) := Lib.hid (fun w => by have h := brought_any b (-p3) p4 w (by omega); rwa [brI_in b (-p3) p4 bl bu] at h)
      clear hb
      go_wp2_with fail
      go_quiet ((go_at_call 12; exact Calls.quiet_of_same (Q1.out _)))
      clear c1
      have hsz : (((hexText t).size : Int) == 2 * (t.size : Int)) = true := by rw [hexText_size]; simp
      have c3 : IntKind.i64.wrap (2 * (t.size : Int)) = 2 * (t.size : Int) := IntWalk.i64_in _ (by omega)
      go_wp2_with fail
      go_quiet ((go_at_call 12; exact quiet_again Q2.out))
      go_wp2
      go_ret
      exact ⟨rfl, B1.out.trans ((below_draws (below_draws B6.out _) _).mono B1.out.size)⟩

set_option maxHeartbeats 400000 in
theorem figures_big (ad : Option Addr) (len cap : Nat) (w : World) (hlen : 1048576 < len) :
    Calls Tryd.prog 3 #[.slice ad len cap] w fun e w' => e = .returned (.bool true) ∧ Below w.heap.size w w' := by
  go_enter Tryd.func3, Tryd.ntmps3
  go_wp2_with (go_at_call 6; go_in)
  go_ret
  exact ⟨rfl, Below.refl _ _⟩
end Fig
end Go.Proofs.YtlnfbddamlhifaaDoor
