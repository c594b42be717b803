/- FnField: the law's walk, over what the program's functions return. -/
import Derived.Test.YtakkodpekegioaaCh5Law
import Derived.Test.YtakkodpekegioaaDrawPlaces
namespace Go.Proofs.Ytakkodpekegioaa
open Go.RowKit Go.Proofs.Ytakkodpekegioaa.Fld Go.Proofs.Ytakkodpekegioaa.BitsM

theorem pow_three (A : Nat) (h : A < 256) : pow A 3 = mul A (mul A A) := by
  have e : pow A 3 = mul (mul (mul 1 A) A) A := rfl
  rw [e, mul_comm 1 A (by omega) h, mul_one A h, mul_assoc A A A h h]
theorem place_at {w : World} {B g cap : Nat} {xs : List Int} (h : w.ownsRow B 3 1 (.slice (some ⟨g, 0, none⟩) 12 cap) 12 (Draw.icells xs)) (hl : xs.length = 12) (j : Nat) (hj : j < 12) : w.cell? ⟨g, j, none⟩ = some (.int .i64 (xs.getD j 0)) := by
  rw [h.cellAt j (by omega)]
  have hj' : j < xs.length := by omega
  simp [Draw.icells, List.getD, hj']
theorem place_bd {xs : List Int} (hl : xs.length = 12) (h : ∀ x ∈ xs, 0 ≤ x ∧ x < 10000) (j : Nat) (hj : j < 12) : 0 ≤ xs.getD j 0 ∧ xs.getD j 0 < 10000 := by
  have hj' : j < xs.length := by omega
  have e : xs.getD j 0 = xs[j] := by simp [List.getD, hj']
  rw [e]; exact h _ (List.getElem_mem _)

def RetI (f : FuncId) (args : Array Value) (v : Nat) : Prop := ∀ w, Calls Try.prog f args w fun e w' => e = .returned (.int .i64 v) ∧ Below w.heap.size w w'

set_option maxRecDepth 100000 in
set_option maxHeartbeats 4000000 in
theorem field_law_of (ad : Option Addr) (len cap : Nat) (w : World) (hlen : len ≤ 1048576) (hs : Draw.Src w w.heap.size ad len)
    (hm : ∀ m n : Nat, m < 256 → n < 256 → RetI 13 #[.int .i64 m, .int .i64 n] (mul m n))
    (hd : ∀ m : Nat, m < 256 → RetI 14 #[.int .i64 m] (dbl m))
    (hi : ∀ m : Nat, m < 256 → RetI 12 #[.int .i64 m] (inv m))
    (hp : ∀ m : Nat, m < 256 → RetI 15 #[.int .i64 m, .int .i64 (3 : Nat)] (pow m 3)) :
    Calls Try.prog 3 #[.slice ad len cap] w fun e w' => e = .returned (.bool true) ∧ Below w.heap.size w w' := by
  have HS := Lib.hid hs
  have Hm := Lib.hid hm
  have Hd := Lib.hid hd
  have Hi := Lib.hid hi
  have Hp := Lib.hid hp
  clear hs hm hd hi hp
  go_enter Try.func3, Try.ntmps3
  go_wp2_with (go_at_call 10; go_in)
  refine (Draw.places_any ad len cap w hlen HS.out).mono ?_
  rintro e w1 ⟨v1, xs, hxl, hxb, rfl, hown, hb1⟩
  obtain ⟨ad1, cap1, rfl, hcm, hcn, hr⟩ := Parts.own_form hown
  obtain ⟨g, hg, hgx⟩ := hr 0 (by simp [Draw.icells, hxl])
  clear hgx
  subst hg
  match xs, hxl with
  | [x0, x1, x2, p3, p4, p5, p6, p7, p8, p9, p10, p11], _ =>
    have d0 := hxb x0 (by simp)
    have d1 := hxb x1 (by simp)
    have d2 := hxb x2 (by simp)
    have c0 := hown.cellAt 0 (by decide)
    have c1 := hown.cellAt 1 (by decide)
    have c2 := hown.cellAt 2 (by decide)
    simp [Draw.icells] at c0 c1 c2
    have B1 := Lib.hid hb1
    clear hown hb1 hxb hr hcm hcn HS
    obtain ⟨A, hA⟩ : ∃ A : Nat, x0 % 256 = A := ⟨(x0 % 256).toNat, by omega⟩
    obtain ⟨B, hB⟩ : ∃ B : Nat, x1 % 256 = B := ⟨(x1 % 256).toNat, by omega⟩
    obtain ⟨D, hD⟩ : ∃ D : Nat, x2 % 256 = D := ⟨(x2 % 256).toNat, by omega⟩
    have lA : A < 256 := by omega
    have lB : B < 256 := by omega
    have lD : D < 256 := by omega
    have K (m n : Nat) (v : Nat) (h1 : m < 256) (h2 : n < 256) (h : mul m n = v) : RetI 13 #[.int .i64 m, .int .i64 n] v := h ▸ Hm.out m n h1 h2
    obtain ⟨P, hP⟩ : ∃ P, mul A B = P := ⟨_, rfl⟩
    obtain ⟨R, hR⟩ : ∃ R, mul A D = R := ⟨_, rfl⟩
    obtain ⟨T, hT⟩ : ∃ T, mul B D = T := ⟨_, rfl⟩
    obtain ⟨S, hS⟩ : ∃ S, mul A T = S := ⟨_, rfl⟩
    obtain ⟨U, hU⟩ : ∃ U, dbl A = U := ⟨_, rfl⟩
    obtain ⟨V, hV⟩ : ∃ V, mul A A = V := ⟨_, rfl⟩
    obtain ⟨Y, hY⟩ : ∃ Y, mul A V = Y := ⟨_, rfl⟩
    have lP : P < 256 := hP ▸ mul_lt A B lA
    have lR : R < 256 := hR ▸ mul_lt A D lA
    have lT : T < 256 := hT ▸ mul_lt B D lB
    have lV : V < 256 := hV ▸ mul_lt A A lA
    have k1 := Lib.hid (K A B P lA lB hP)
    have k2 := Lib.hid (K B A P lB lA (by rw [← hP]; exact mul_comm B A lB lA))
    have k3 := Lib.hid (K A (B ^^^ D) (P ^^^ R) lA (xor_lt lB lD) (by rw [mul_xor, hP, hR]))
    have k4 := Lib.hid (K A D R lA lD hR)
    have k5 := Lib.hid (K P D S lP lD (by rw [← hP, mul_assoc A B D lA lB, hT, hS]))
    have k6 := Lib.hid (K B D T lB lD hT)
    have k7 := Lib.hid (K A T S lA lT hS)
    have k8 : Hid (RetI 14 #[.int .i64 A] U) := Lib.hid (hU ▸ Hd.out A lA)
    have k9 := Lib.hid (K A 2 U lA (by omega) (by rw [← dbl_two A lA, hU]))
    have kA : Hid (RetI 15 #[.int .i64 A, .int .i64 (3 : Nat)] Y) := Lib.hid ((show pow A 3 = Y by rw [pow_three A lA, hV, hY]) ▸ Hp.out A lA)
    have kB := Lib.hid (K A A V lA lA hV)
    have kC := Lib.hid (K A V Y lA lV hY)
    have kD := Lib.hid (K 87 131 193 (by omega) (by omega) (by decide +kernel))
    have y1 := xor64 B D (by omega) (by omega)
    have y2 := xor64 P R (by omega) (by omega)
    have J := K
    clear Hm Hd Hp K hP hR hT hS hU hV hY
    by_cases hz : A = 0
    · subst hz
      have hA : x0 % 256 = 0 := hA
      have hi0 : RetI 12 #[.int .i64 (0 : Nat)] 0 := by have := Hi.out 0 lA; rwa [inv_zero] at this
      have HI := Lib.hid hi0
      clear hi0 Hi J
      go_wp2_with fail
      refine (HI.out _).mono ?_
      rintro e w2 ⟨rfl, hb2⟩
      have B2 : Hid (Below w.heap.size w w2) := Lib.hid (B1.out.trans (hb2.mono B1.out.size))
      clear hb2 B1
      go_wp2_with fail
      refine (k1.out _).mono ?_
      rintro e w3 ⟨rfl, hb3⟩
      have B3 : Hid (Below w.heap.size w w3) := Lib.hid (B2.out.trans (hb3.mono B2.out.size))
      clear hb3 B2
      go_wp2_with fail
      refine (k2.out _).mono ?_
      rintro e w4 ⟨rfl, hb4⟩
      have B4 : Hid (Below w.heap.size w w4) := Lib.hid (B3.out.trans (hb4.mono B3.out.size))
      clear hb4 B3
      go_wp2_with fail
      refine (k3.out _).mono ?_
      rintro e w5 ⟨rfl, hb5⟩
      have B5 : Hid (Below w.heap.size w w5) := Lib.hid (B4.out.trans (hb5.mono B4.out.size))
      clear hb5 B4
      go_wp2_with fail
      refine (k1.out _).mono ?_
      rintro e w6 ⟨rfl, hb6⟩
      have B6 : Hid (Below w.heap.size w w6) := Lib.hid (B5.out.trans (hb6.mono B5.out.size))
      clear hb6 B5
      go_wp2_with fail
      refine (k4.out _).mono ?_
      rintro e w7 ⟨rfl, hb7⟩
      have B7 : Hid (Below w.heap.size w w7) := Lib.hid (B6.out.trans (hb7.mono B6.out.size))
      clear hb7 B6
      go_wp2_with fail
      refine (k1.out _).mono ?_
      rintro e w8 ⟨rfl, hb8⟩
      have B8 : Hid (Below w.heap.size w w8) := Lib.hid (B7.out.trans (hb8.mono B7.out.size))
      clear hb8 B7
      go_wp2_with fail
      refine (k5.out _).mono ?_
      rintro e w9 ⟨rfl, hb9⟩
      have B9 : Hid (Below w.heap.size w w9) := Lib.hid (B8.out.trans (hb9.mono B8.out.size))
      clear hb9 B8
      go_wp2_with fail
      refine (k6.out _).mono ?_
      rintro e w10 ⟨rfl, hb10⟩
      have B10 : Hid (Below w.heap.size w w10) := Lib.hid (B9.out.trans (hb10.mono B9.out.size))
      clear hb10 B9
      go_wp2_with fail
      refine (k7.out _).mono ?_
      rintro e w11 ⟨rfl, hb11⟩
      have B11 : Hid (Below w.heap.size w w11) := Lib.hid (B10.out.trans (hb11.mono B10.out.size))
      clear hb11 B10
      go_wp2_with fail
      refine (k8.out _).mono ?_
      rintro e w12 ⟨rfl, hb12⟩
      have B12 : Hid (Below w.heap.size w w12) := Lib.hid (B11.out.trans (hb12.mono B11.out.size))
      clear hb12 B11
      go_wp2_with fail
      refine (k9.out _).mono ?_
      rintro e w13 ⟨rfl, hb13⟩
      have B13 : Hid (Below w.heap.size w w13) := Lib.hid (B12.out.trans (hb13.mono B12.out.size))
      clear hb13 B12
      go_wp2_with fail
      refine (kA.out _).mono ?_
      rintro e w14 ⟨rfl, hb14⟩
      have B14 : Hid (Below w.heap.size w w14) := Lib.hid (B13.out.trans (hb14.mono B13.out.size))
      clear hb14 B13
      go_wp2_with fail
      refine (kB.out _).mono ?_
      rintro e w15 ⟨rfl, hb15⟩
      have B15 : Hid (Below w.heap.size w w15) := Lib.hid (B14.out.trans (hb15.mono B14.out.size))
      clear hb15 B14
      go_wp2_with fail
      refine (kC.out _).mono ?_
      rintro e w16 ⟨rfl, hb16⟩
      have B16 : Hid (Below w.heap.size w w16) := Lib.hid (B15.out.trans (hb16.mono B15.out.size))
      clear hb16 B15
      go_wp2_with fail
      refine (kD.out _).mono ?_
      rintro e w17 ⟨rfl, hb17⟩
      have B17 : Hid (Below w.heap.size w w17) := Lib.hid (B16.out.trans (hb17.mono B16.out.size))
      clear hb17 B16
      go_wp2
      go_ret
      exact ⟨rfl, B17.out⟩
    · obtain ⟨I, hI⟩ : ∃ I, inv A = I := ⟨_, rfl⟩
      have lI : I < 256 := hI ▸ inv_lt A lA
      have hi0 : RetI 12 #[.int .i64 A] I := hI ▸ Hi.out A lA
      have HI := Lib.hid hi0
      have HJ := Lib.hid (J A I 1 lA lI (by rw [← hI]; exact mul_inv A (by omega) lA))
      clear hi0 Hi hI J
      go_wp2_with fail
      refine (HI.out _).mono ?_
      rintro e wa ⟨rfl, hba⟩
      have Ba : Hid (Below w.heap.size w wa) := Lib.hid (B1.out.trans (hba.mono B1.out.size))
      clear hba B1
      go_wp2_with fail
      refine (HJ.out _).mono ?_
      rintro e w2 ⟨rfl, hb2⟩
      have B2 : Hid (Below w.heap.size w w2) := Lib.hid (Ba.out.trans (hb2.mono Ba.out.size))
      clear hb2 Ba
      go_wp2_with fail
      refine (k1.out _).mono ?_
      rintro e w3 ⟨rfl, hb3⟩
      have B3 : Hid (Below w.heap.size w w3) := Lib.hid (B2.out.trans (hb3.mono B2.out.size))
      clear hb3 B2
      go_wp2_with fail
      refine (k2.out _).mono ?_
      rintro e w4 ⟨rfl, hb4⟩
      have B4 : Hid (Below w.heap.size w w4) := Lib.hid (B3.out.trans (hb4.mono B3.out.size))
      clear hb4 B3
      go_wp2_with fail
      refine (k3.out _).mono ?_
      rintro e w5 ⟨rfl, hb5⟩
      have B5 : Hid (Below w.heap.size w w5) := Lib.hid (B4.out.trans (hb5.mono B4.out.size))
      clear hb5 B4
      go_wp2_with fail
      refine (k1.out _).mono ?_
      rintro e w6 ⟨rfl, hb6⟩
      have B6 : Hid (Below w.heap.size w w6) := Lib.hid (B5.out.trans (hb6.mono B5.out.size))
      clear hb6 B5
      go_wp2_with fail
      refine (k4.out _).mono ?_
      rintro e w7 ⟨rfl, hb7⟩
      have B7 : Hid (Below w.heap.size w w7) := Lib.hid (B6.out.trans (hb7.mono B6.out.size))
      clear hb7 B6
      go_wp2_with fail
      refine (k1.out _).mono ?_
      rintro e w8 ⟨rfl, hb8⟩
      have B8 : Hid (Below w.heap.size w w8) := Lib.hid (B7.out.trans (hb8.mono B7.out.size))
      clear hb8 B7
      go_wp2_with fail
      refine (k5.out _).mono ?_
      rintro e w9 ⟨rfl, hb9⟩
      have B9 : Hid (Below w.heap.size w w9) := Lib.hid (B8.out.trans (hb9.mono B8.out.size))
      clear hb9 B8
      go_wp2_with fail
      refine (k6.out _).mono ?_
      rintro e w10 ⟨rfl, hb10⟩
      have B10 : Hid (Below w.heap.size w w10) := Lib.hid (B9.out.trans (hb10.mono B9.out.size))
      clear hb10 B9
      go_wp2_with fail
      refine (k7.out _).mono ?_
      rintro e w11 ⟨rfl, hb11⟩
      have B11 : Hid (Below w.heap.size w w11) := Lib.hid (B10.out.trans (hb11.mono B10.out.size))
      clear hb11 B10
      go_wp2_with fail
      refine (k8.out _).mono ?_
      rintro e w12 ⟨rfl, hb12⟩
      have B12 : Hid (Below w.heap.size w w12) := Lib.hid (B11.out.trans (hb12.mono B11.out.size))
      clear hb12 B11
      go_wp2_with fail
      refine (k9.out _).mono ?_
      rintro e w13 ⟨rfl, hb13⟩
      have B13 : Hid (Below w.heap.size w w13) := Lib.hid (B12.out.trans (hb13.mono B12.out.size))
      clear hb13 B12
      go_wp2_with fail
      refine (kA.out _).mono ?_
      rintro e w14 ⟨rfl, hb14⟩
      have B14 : Hid (Below w.heap.size w w14) := Lib.hid (B13.out.trans (hb14.mono B13.out.size))
      clear hb14 B13
      go_wp2_with fail
      refine (kB.out _).mono ?_
      rintro e w15 ⟨rfl, hb15⟩
      have B15 : Hid (Below w.heap.size w w15) := Lib.hid (B14.out.trans (hb15.mono B14.out.size))
      clear hb15 B14
      go_wp2_with fail
      refine (kC.out _).mono ?_
      rintro e w16 ⟨rfl, hb16⟩
      have B16 : Hid (Below w.heap.size w w16) := Lib.hid (B15.out.trans (hb16.mono B15.out.size))
      clear hb16 B15
      go_wp2_with fail
      refine (kD.out _).mono ?_
      rintro e w17 ⟨rfl, hb17⟩
      have B17 : Hid (Below w.heap.size w w17) := Lib.hid (B16.out.trans (hb17.mono B16.out.size))
      clear hb17 B16
      go_wp2
      go_ret
      exact ⟨rfl, B17.out⟩

theorem field_big (ad : Option Addr) (len cap : Nat) (w : World) (hlen : 1048576 < len) :
    Calls Try.prog 3 #[.slice ad len cap] w fun e w' => e = .returned (.bool true) ∧ Below w.heap.size w w' := by
  go_enter Try.func3, Try.ntmps3
  go_wp2_with (go_at_call 10; go_in)
  go_ret
  exact ⟨rfl, Below.refl _ _⟩
end Go.Proofs.Ytakkodpekegioaa
