/- Merged texts: Unsure, UnsLaw. -/
import Derived.Test.YtpahihcnmpeenaaP10J
import Derived.Deep.RegionHeld3
import Derived.Deep.DeepCutAuto
import Derived.IntWalk
namespace Go.Proofs.Ytpahihcnmpeenaa
open Go.RowKit Go.Proofs.Ytpahihcnmpeenaa.Parts Go.Proofs.Ytpahihcnmpeenaa.Hexa

def linesL (L : List C3) : List Int := L.map fun c => c.l
theorem linesL_succ {L : List C3} {k : Nat} (h : k < L.length) : linesL (L.take (k + 1)) = linesL (L.take k) ++ [(L.getD k default).l] := by
  rw [take_succ h]; simp [linesL]
theorem linesL_take {L : List C3} {k : Nat} (h : k ≤ L.length) : (linesL (L.take k)).length = k := by simp [linesL]; omega
def GivesZ (P : List Int) (w : World) (e : Ending) (w' : World) : Prop :=
  ∃ v, e = .returned v ∧ w'.ownsRow w.heap.size 3 1 v P.length (icells P) ∧ Below w.heap.size w w'

set_option maxRecDepth 100000 in
set_option maxHeartbeats 1000000 in
theorem specUnsure_any (K : ByteArray) (a : Option Addr) (n c : Nat) (L : List C3) (w : World) (hs : SrcC w a n L) (hn : n ≤ 1048600) :
    Calls Try.prog 31 #[.agg #[.string K, .slice a n c]] w (GivesZ (linesL L) w) := by
  obtain ⟨i0, hi, hz0, hz1, hz2⟩ := info_parts infoInt
  have HS := Lib.hid hs
  have HL := Lib.hid hs.len
  have B0 := Lib.hid (below_alloc w (.cells #[.string K, .slice a n c] 26))
  clear hs
  go_enter Try.func31, Try.ntmps31
  go_wp2
  go_loopw [3, 4] (fun v iv wr => ∃ (k : Nat) (P : List Int), k ≤ n ∧ P.length = k ∧ iv = .int .i64 k ∧ Hid (P = linesL (L.take k)) ∧ wr.ownsRow (w.heap.size + 1) 3 1 v P.length (icells P) ∧ Below (w.heap.size + 1) (w.alloc (.cells #[.string K, .slice a n c] 26)) wr)
    (fun _ iv _ => n - (intOf iv).toNat)
  case atStart => exact ⟨0, [], Nat.zero_le _, rfl, rfl, Lib.hid (by simp [linesL]), by have := World.ownsRow_lit (base := w.heap.size + 1) (e := 3) (size := 1) (w.alloc (.cells #[.string K, .slice a n c] 26)) #[] 0 (by simp) (by decide) rfl; simpa [icells] using this, (Below.refl _ _).alloc (by simp) _⟩
  case round =>
    obtain ⟨k, P, hk, hPl, rfl, HP, hown, hbel⟩ := hrel
    have BW : Hid (Below w.heap.size w wr) := Lib.hid (B0.out.trans (hbel.mono (by omega)))
    have hsz : Hid (w.heap.size + 1 ≤ wr.heap.size) := Lib.hid (by have := hbel.size; simp at this; omega)
    have q1 := cell1_of_two (below_two hbel)
    have HB := Lib.hid hbel
    have HO := Lib.hid hown
    clear hbel hown
    by_cases hlt : k < n
    · obtain ⟨g, off, rfl, hg, d1, d2, d3⟩ := HS.out.cells3_at BW.out (Nat.le_refl _) k hlt
      have HE := Lib.hid (linesL_succ (L := L) (k := k) (by have := HL.out; omega))
      obtain ⟨x, hx⟩ : ∃ x, (L.getD k default).l = x := ⟨_, rfl⟩
      rw [hx, ← HP.out] at HE
      rw [hx] at d1
      clear hx d2 d3
      go_wp2_with (first | (at_builtin; refine wpList_append_own _ rfl (.tmp 13) (.tmp 20) 35 rfl (w.heap.size + 1) 3 i0 (.int .i64 0) 1 8 Try.underlying35 hi hz0 hz1 hz2 rfl (by decide) _ _ _ rfl (HO.out.alloc _) ⟨wr.heap.size, 0, none⟩ 1 1 [.int .i64 x] rfl rfl (World.news_of_block (heap_alloc_new _ _)) (by simp [Value.oneCell']) (by unfold maxLen; omega) (by omega) (by have := hsz.out; simp; omega) ?_; intro v1 w2 hown1 hgrow1 hn1))
      have hb1 : Below (w.heap.size + 1) (w.alloc (.cells #[.string K, .slice (some ⟨g, off, none⟩) n c] 26)) w2 := (HB.out.alloc hsz.out _).grown hgrow1 (by have := hsz.out; simp; omega) (own_block_ge HO.out)
      have HO2 : Hid (w2.ownsRow (w.heap.size + 1) 3 1 v1 (P ++ [x]).length (icells (P ++ [x]))) := Lib.hid (by simpa [icells, List.length_append] using hown1)
      clear hown1 hgrow1 hn1 HO d1
      go_wp2
      go_roundw
      case rel => exact ⟨k + 1, P ++ [x], by omega, by simp; omega, by go_num, Lib.hid HE.out.symm, HO2.out, hb1⟩
      case measure => (simp [intOf]; try omega)
    · obtain rfl : k = n := by omega
      have HF : Hid (P = linesL L) := Lib.hid (by rw [HP.out, ← HL.out, List.take_length])
      go_wp2
      go_ret
      exact ⟨_, rfl, by rw [← HF.out]; exact ownE_mono HO.out (by omega), BW.out⟩

set_option maxRecDepth 100000 in
set_option maxHeartbeats 1000000 in
theorem implUnsure_any (K : ByteArray) (a : Option Addr) (n c : Nat) (L : List C3) (w : World) (hs : SrcC w a n L) (hn : n ≤ 1048600) :
    Calls Try.prog 29 #[.agg #[.string K, .slice a n c]] w (GivesZ (linesL L) w) := by
  obtain ⟨i0, hi, hz0, hz1, hz2⟩ := info_parts infoInt
  have HS := Lib.hid hs
  have HL := Lib.hid hs.len
  have B0 := Lib.hid (below_alloc w (.cells #[.string K, .slice a n c] 26))
  clear hs
  go_enter Try.func29, Try.ntmps29
  go_wp2
  go_loopw [3, 9] (fun v iv wr => ∃ (k : Nat) (P : List Int), k ≤ n ∧ P.length = k ∧ iv = .int .i64 k ∧ Hid (P = linesL (L.take k)) ∧ wr.ownsRow (w.heap.size + 1) 3 1 v P.length (icells P) ∧ Below (w.heap.size + 1) (w.alloc (.cells #[.string K, .slice a n c] 26)) wr)
    (fun _ iv _ => n - (intOf iv).toNat)
  case atStart => exact ⟨0, [], Nat.zero_le _, rfl, rfl, Lib.hid (by simp [linesL]), World.ownsRow_nil _ _ _ _, Below.refl _ _⟩
  case round =>
    obtain ⟨k, P, hk, hPl, rfl, HP, hown, hbel⟩ := hrel
    have BW : Hid (Below w.heap.size w wr) := Lib.hid (B0.out.trans (hbel.mono (by omega)))
    have hsz : Hid (w.heap.size + 1 ≤ wr.heap.size) := Lib.hid (by have := hbel.size; simp at this; omega)
    have HB := Lib.hid hbel
    have HO := Lib.hid hown
    clear hbel hown
    by_cases hlt : k < n
    · obtain ⟨g, off, rfl, hg, d1, d2, d3⟩ := HS.out.cells3_at BW.out (Nat.le_refl _) k hlt
      have HE := Lib.hid (linesL_succ (L := L) (k := k) (by have := HL.out; omega))
      obtain ⟨x, hx⟩ : ∃ x, L.getD k default = x := ⟨_, rfl⟩
      rw [hx, ← HP.out] at HE
      rw [hx] at d1 d2 d3
      clear hx
      have hb0 : Below (w.heap.size + 1) (w.alloc (.cells #[.string K, .slice (some ⟨g, off, none⟩) n c] 26)) (wr.alloc (.cells #[.int .i64 x.l, .string x.t, .bool x.f] 68)) := HB.out.alloc hsz.out _
      have HB0 := Lib.hid hb0
      clear hb0
      go_wp2_with (first | (at_builtin; refine wpList_append_own _ rfl (.tmp 13) (.tmp 16) 35 rfl (w.heap.size + 1) 3 i0 (.int .i64 0) 1 8 Try.underlying35 hi hz0 hz1 hz2 rfl (by decide) _ _ _ rfl ((HO.out.alloc _).alloc _) ⟨wr.heap.size + 1, 0, none⟩ 1 1 [.int .i64 x.l] rfl rfl (World.news_of_block (by have h := heap_alloc_new (wr.alloc (.cells #[.int .i64 x.l, .string x.t, .bool x.f] 68)) (.cells #[.int .i64 x.l] 3); simpa using h)) (by simp [Value.oneCell']) (by unfold maxLen; omega) (by omega) (by have := hsz.out; simp; omega) ?_; intro v1 w2 hown1 hgrow1 hn1))
      have hb1 : Below (w.heap.size + 1) (w.alloc (.cells #[.string K, .slice (some ⟨g, off, none⟩) n c] 26)) w2 := (HB0.out.alloc (by have := hsz.out; simp; omega) _).grown hgrow1 (by have := hsz.out; simp; omega) (own_block_ge HO.out)
      have HO2 : Hid (w2.ownsRow (w.heap.size + 1) 3 1 v1 (P ++ [x.l]).length (icells (P ++ [x.l]))) := Lib.hid (by simpa [icells, List.length_append] using hown1)
      clear hown1 hgrow1 hn1 HO d1 d2 d3
      go_wp2
      go_roundw
      case rel => exact ⟨k + 1, P ++ [x.l], by omega, by simp; omega, by go_num, Lib.hid HE.out.symm, HO2.out, hb1⟩
      case measure => (simp [intOf]; try omega)
    · obtain rfl : k = n := by omega
      have HF : Hid (P = linesL L) := Lib.hid (by rw [HP.out, ← HL.out, List.take_length])
      go_wp2
      go_ret
      exact ⟨_, rfl, by rw [← HF.out]; exact ownE_mono HO.out (by omega), BW.out⟩
end Go.Proofs.Ytpahihcnmpeenaa
namespace Go.Proofs.Ytpahihcnmpeenaa
open Go.RowKit Go.Proofs.Ytpahihcnmpeenaa.Parts Go.Proofs.Ytpahihcnmpeenaa.Hexa Go.Proofs.Ytpahihcnmpeenaa.Draw

theorem lines_at {L : List C3} {j : Nat} (h : j < L.length) : (icells (linesL L))[j]? = some (.int .i64 (L.getD j default).l) := by simp [icells, linesL, List.getD, h]
/-- What the law finds where all lines are picked. -/
structure UnsFacts (K : ByteArray) (L : List C3) : Prop where
  none : fallenL K L 9223372036854775807 = []
  size : (fallenK K L 9223372036854775807).size = K.size
  line : ∀ j, j < L.length → ∃ l : Nat, (L.getD j default).l = l ∧ l < 1000 ∧ ∀ r : Nat, r < 2 → wordAtB (fallenK K L 9223372036854775807) [] ((2 * l + r : Nat) : Int) = wordAtB K L ((2 * l + r : Nat) : Int)
theorem uns_facts {K : ByteArray} {L : List C3} (h : MemOk K L) (hk : K.size ≤ 1000) : UnsFacts K L := by
  have hf := h.few
  have hfe := fellB_ok h (p := 9223372036854775807) (by decide)
  have hsz := fall_size 9223372036854775807 h
  have h16 := h.1
  refine ⟨fallenL_yes hfe, by rw [fallenK_yes hfe]; exact hsz, fun j hj => ?_⟩
  obtain ⟨l, hl, hl2⟩ := laid_nat (h.laid _ (mem_getD hj)) h.1
  refine ⟨l, hl, by omega, fun r hr => ?_⟩
  have hnil : MemOk (fallK K L 9223372036854775807) [] := ⟨by rw [hsz]; exact h.1, by rw [hsz]; exact h.2.1, fun j hj => by cases hj⟩
  rw [fallenK_yes hfe, wordAtB_yes hnil (by rw [hsz]; omega), wordAtB_yes h (by omega)]
  exact all_word h (fun i hi => pick_all i (by omega)) hj (by rw [hl]; congr 1; omega)

/-- The law's loop: two memories in boxes, the lines. -/
structure UnsSt (w wr : World) (l : List MB) (v : Value) (n : Nat) (P : List Int) : Prop where
  bx : Bx w wr l
  own : wr.ownsRow w.heap.size 3 1 v n (icells P)
theorem UnsSt.later {w wr w' : World} {l : List MB} {v : Value} {n : Nat} {P : List Int} (h : UnsSt w wr l v n P) (hb : Below wr.heap.size wr w') : UnsSt w w' l v n P := ⟨h.bx.later hb, own_below h.own hb⟩

set_option maxRecDepth 100000 in
set_option maxHeartbeats 4000000 in
theorem fnUnsure_law (ad : Option Addr) (len cap : Nat) (w : World) (hs : Draw.Src w w.heap.size ad len) :
    Calls Try.prog 4 #[.slice ad len cap] w fun e w' => e = .returned (.bool true) ∧ Below w.heap.size w w' := by
  by_cases hbig : len ≤ 1048576
  · have HS := Lib.hid hs
    clear hs
    have HZ1 : Hid ((newB 1).size = 16) := Lib.hid newB_one
    obtain ⟨nb, hnb⟩ : ∃ nb, newB 1 = nb := ⟨_, rfl⟩
    have HNB := Lib.hid hnb
    rw [hnb] at HZ1
    clear hnb
    have hbd : decide ((1048576 : Int) < (len : Int)) = false := decide_eq_false (by omega)
    go_enter Try.func4, Try.ntmps4
    go_wp2_with (go_at_call 13; go_in)
    refine (drawFall_any ad len cap w hbig HS.out).mono ?_
    rintro e w1 ⟨K, L, a, n, c, z, rfl, hfit, hll, hkl, z0, z1, hown, hb1⟩
    have hn : L.length = n := (srcC_of_own hown).len
    have HF := Lib.hid hfit
    have HLEN := Lib.hid hn
    have HLL : Hid (n ≤ 1000) := Lib.hid (by omega)
    have HKL := Lib.hid hkl
    have S10 := (Bx.start w).push (K := K) hb1 (Nat.le_refl _) hown
    obtain ⟨b3, hb3⟩ : ∃ b, w1.heap.size = b := ⟨_, rfl⟩
    obtain ⟨W1, hW1⟩ : ∃ x, w1.alloc (.cells #[.string K, .slice a n c] 26) = x := ⟨_, rfl⟩
    rw [hb3, hW1] at S10
    have S1 := Lib.hid S10
    have Hb3 := Lib.hid hb3
    have HW1 := Lib.hid hW1
    clear S10 hb3 hW1
    clear hfit hll hkl hown hb1 hn
    go_wp2_with fail
    rw [Hb3.out, HW1.out]
    clear Hb3 HW1
    refine (implFall_any K a n c L z _ S1.out.h1.src (by have := HLL.out; omega) (by have := HKL.out; omega) HF.out z1).mono ?_
    obtain ⟨KX, hKX⟩ : ∃ X, fallenK K L z = X := ⟨_, rfl⟩
    obtain ⟨X, hX⟩ : ∃ X, fallenL K L z = X := ⟨_, rfl⟩
    rw [hX, hKX]
    have HX := Lib.hid hX
    have HKX := Lib.hid hKX
    clear hX hKX
    obtain ⟨n2, hn2⟩ : ∃ k, X.length = k := ⟨_, rfl⟩
    rintro e w2 ⟨v2, rfl, hown2, hb2⟩
    rw [hn2] at hown2
    obtain ⟨a2, c2, rfl, _, _, _⟩ := ownE_form hown2
    have HN2 := Lib.hid hn2
    have HX2 : Hid (n2 ≤ 1001) := Lib.hid (by rw [← hn2, ← HX.out]; have h1 := HLEN.out; have h2 := HLL.out; have h3 := fallenL_len K L z; omega)
    have S20 := S1.out.push (K := KX) hb2 S1.out.below.size hown2
    obtain ⟨b5, hb5⟩ : ∃ b, w2.heap.size = b := ⟨_, rfl⟩
    obtain ⟨W2, hW2⟩ : ∃ x, w2.alloc (.cells #[.string KX, .slice a2 n2 c2] 26) = x := ⟨_, rfl⟩
    rw [hb5, hW2] at S20
    have S2 := Lib.hid S20
    have Hb5 := Lib.hid hb5
    have HW2 := Lib.hid hW2
    clear S20 hb5 hW2
    clear hown2 hb2 hn2 S1
    have p0 := S2.out.h2.two.c0
    have p1 := S2.out.h2.two.c1
    have p2 := S2.out.h1.two.c0
    have p3 := S2.out.h1.two.c1
    rw [← HW2.out] at p0 p1 p2 p3
    rw [← Hb5.out] at p2 p3
    go_wp2_with fail
    clear p0 p1 p2 p3
    rw [Hb5.out, HW2.out]
    clear Hb5 HW2
    have S2d := Lib.hid S2.out.drew
    go_region_held3 (fun w' => w'.cell? ⟨b5, 0, none⟩ = some (.string KX) ∧ w'.cell? ⟨b5, 1, none⟩ = some (.slice a2 n2 c2) ∧ w'.cell? ⟨b3, 0, none⟩ = some (.string K) ∧ w'.cell? ⟨b3, 1, none⟩ = some (.slice a n c))
      (first
      | exact ⟨S2d.out.h1.two.c0, S2d.out.h1.two.c1, S2d.out.h2.two.c0, S2d.out.h2.two.c1⟩
      | exact ⟨S3.out.h1.two.c0, S3.out.h1.two.c1, S3.out.h2.two.c0, S3.out.h2.two.c1⟩
      | exact ⟨S4.out.h1.two.c0, S4.out.h1.two.c1, S4.out.h2.two.c0, S4.out.h2.two.c1⟩
      | go_keep)
      (first
      | (go_at_call 27; (with_reducible refine (specFall_any K a n c L z _ S2d.out.h2.src (by have := HLL.out; omega) (by have := HKL.out; omega) HF.out z1).mono ?_); rw [HX.out, HKX.out]; rintro e w3 ⟨v3, rfl, hown3, hb3⟩; rw [HN2.out] at hown3; obtain ⟨a3, c3, rfl, _, _, _⟩ := ownE_form hown3; have S3 := Lib.hid (S2d.out.later hb3); have O3 : Hid (SrcC w3 a3 n2 X) := Lib.hid (srcC_of_own hown3); clear hown3 hb3)
      | (go_at_call 17; (with_reducible refine (sameMemory_any KX a2 a3 n2 c2 c3 X _ (by have := HX2.out; omega) S3.out.h1.src O3.out).mono ?_); rintro e w4 ⟨rfl, hb4⟩; have S4 := Lib.hid (S3.out.later hb4); clear hb4))
    clear S2 S2d S3 O3
    have h1c0 := S4.out.h1.two.c0
    have h1c1 := S4.out.h1.two.c1
    have h2c0 := S4.out.h2.two.c0
    have h2c1 := S4.out.h2.two.c1
    go_wp2_with fail
    refine (specOk_any K a n c L _ S4.out.h2.src (by have := HLL.out; omega) (by have := HKL.out; omega)).mono ?_
    by_cases hok : MemOk K L
    · rw [memOkB_yes hok]
      rintro e w5 ⟨rfl, hb5⟩
      have S5 := Lib.hid (S4.out.later hb5)
      clear hb5 S4
      clear h1c0 h1c1 h2c0 h2c1
      have h1c0 := S5.out.h1.two.c0
      have h1c1 := S5.out.h1.two.c1
      have h2c0 := S5.out.h2.two.c0
      have h2c1 := S5.out.h2.two.c1
      by_cases hz0 : 0 ≤ z
      · have UF := Lib.hid (uns_facts hok HKL.out)
        have hzn : ¬ z < 0 := by omega
        have hzd : decide (z < 0) = false := decide_eq_false hzn
        have EN := Lib.hid UF.out.none
        have EZ := Lib.hid UF.out.size
        obtain ⟨KA, hKA⟩ : ∃ X, fallenK K L 9223372036854775807 = X := ⟨_, rfl⟩
        have EL : Hid (∀ j, j < n → ∃ l : Nat, (L.getD j default).l = l ∧ l < 1000 ∧ ∀ r : Nat, r < 2 → wordAtB KA [] ((2 * l + r : Nat) : Int) = wordAtB K L ((2 * l + r : Nat) : Int)) := Lib.hid (by rw [← hKA, ← HLEN.out]; exact UF.out.line)
        rw [hKA] at EZ
        have HKA := Lib.hid hKA
        clear hKA UF hok
        go_wp2_with fail
        refine (implFall_any K a n c L 9223372036854775807 _ S5.out.h2.src (by have := HLL.out; omega) (by have := HKL.out; omega) HF.out (by decide)).mono ?_
        rw [HKA.out, EN.out]
        rintro e w6 ⟨v6, rfl, hown6x, hb6⟩
        have hown6 : w6.ownsRow w5.heap.size 68 3 v6 0 (cellsE encC []) := hown6x
        clear hown6x
        obtain ⟨a6, c6, rfl, _, _, _⟩ := ownE_form hown6
        clear h1c0 h1c1 h2c0 h2c1
        have S60 := S5.out.pop.push (K := KA) hb6 S5.out.below.size hown6
        obtain ⟨b6, hb6⟩ : ∃ b, w6.heap.size = b := ⟨_, rfl⟩
        obtain ⟨W6, hW6⟩ : ∃ x, w6.alloc (.cells #[.string KA, .slice a6 0 c6] 26) = x := ⟨_, rfl⟩
        rw [hb6, hW6] at S60
        have S6 := Lib.hid S60
        have Hb6 := Lib.hid hb6
        have HW6 := Lib.hid hW6
        clear S60 hb6 hW6
        clear hown6 hb6 S5 HKA EN
        have p0 := S6.out.h2.two.c0
        have p1 := S6.out.h2.two.c1
        rw [← HW6.out] at p0 p1
        go_wp2_with fail
        clear p0 p1
        rw [Hb6.out, HW6.out]
        clear Hb6 HW6
        refine (implUnsure_any K a n c L _ S6.out.h2.src (by have := HLL.out; omega)).mono ?_
        obtain ⟨P, hP⟩ : ∃ P, linesL L = P := ⟨_, rfl⟩
        rw [hP]
        have HP := Lib.hid hP
        have hPn : P.length = n := by rw [← hP, ← HLEN.out]; simp [linesL]
        have HPN := Lib.hid hPn
        rintro e w7 ⟨v7, rfl, hown7, hb7⟩
        rw [hPn] at hown7
        have S7 : Hid (UnsSt w w7 [⟨b6, KA, a6, 0, c6, []⟩, ⟨b3, K, a, n, c, L⟩] v7 n P) := Lib.hid ⟨S6.out.later hb7, ownE_mono hown7 S6.out.below.size⟩
        obtain ⟨a7, c7, rfl, _, _, _⟩ := own_form hown7
        clear hown7 hb7 S6 hPn hP
        have HN62 : Hid (n ≤ 1000) := HLL
        have hn1000 : n ≤ 1000 := HLL.out
        go_wp2
        go_loopw [8] (fun iv wr => ∃ k : Nat, k ≤ 2 * n ∧ iv = .int .i64 k ∧ Hid (UnsSt w wr [⟨b6, KA, a6, 0, c6, []⟩, ⟨b3, K, a, n, c, L⟩] (.slice a7 n c7) n P)) (fun iv _ => 2 * n - (intOf iv).toNat)
        case atStart => exact ⟨0, Nat.zero_le _, rfl, S7⟩
        case round =>
          obtain ⟨k, hk, rfl, SR⟩ := hrel
          clear S7
          by_cases hlt : k < 2 * n
          · obtain ⟨j, hj⟩ : ∃ j, k / 2 = j := ⟨_, rfl⟩
            obtain ⟨r, hr⟩ : ∃ r, k % 2 = r := ⟨_, rfl⟩
            have hjn : j < n := by omega
            have hr2 : r < 2 := by omega
            have hkd : (k : Int) / 2 = (j : Int) := by omega
            have hkm : (k : Int) % 2 = (r : Int) := by omega
            obtain ⟨l, hl, hl1000, hw⟩ := EL.out j hjn
            obtain ⟨_, _, hv7, _, _, hrd⟩ := own_form SR.out.own
            have ha7 := (Value.slice.inj hv7).1
            obtain ⟨g7, hg7, hc7⟩ := hrd j (by rw [icells_length, HPN.out]; exact hjn)
            rw [← ha7] at hg7
            subst hg7
            have hcl : wr.cell? ⟨g7, j, none⟩ = some (.int .i64 (l : Int)) := by rw [hc7, ← HP.out, lines_at (by rw [HLEN.out]; exact hjn), hl]
            obtain ⟨M, hM⟩ : ∃ M : Nat, 2 * l + r = M := ⟨_, rfl⟩
            have hMi : 2 * (l : Int) + (r : Int) = (M : Int) := by omega
            obtain ⟨T, hT⟩ : ∃ T, wordAtB K L (M : Int) = T := ⟨_, rfl⟩
            have HA : Hid (wordAtB KA [] (M : Int) = T) := Lib.hid (by rw [← hM, hw r hr2, hM, hT])
            have HT := Lib.hid hT
            have hM1 : M ≤ 10000 := by omega
            have HK2 := Lib.hid hlt
            have hj1 : 0 ≤ (j : Int) := by omega
            have hl1 : (l : Int) ≤ 1000 := by omega
            have hr1 : (r : Int) ≤ 1 := by omega
            have hk3 : (k : Int) ≤ 2000 := by omega
            clear hw hv7 hrd ha7 hc7 hl hM hT hj hr
            go_wp2
            have SRd := Lib.hid (SR.out.later (Below.refl wr.heap.size wr).drew)
            go_region_held3 (fun w' => w'.cell? ⟨b6, 0, none⟩ = some (.string KA) ∧ w'.cell? ⟨b6, 1, none⟩ = some (.slice a6 0 c6) ∧ w'.cell? ⟨b3, 0, none⟩ = some (.string K) ∧ w'.cell? ⟨b3, 1, none⟩ = some (.slice a n c))
              (first
          | exact ⟨SRd.out.bx.h1.two.c0, SRd.out.bx.h1.two.c1, SRd.out.bx.h2.two.c0, SRd.out.bx.h2.two.c1⟩
          | exact ⟨S8.out.bx.h1.two.c0, S8.out.bx.h1.two.c1, S8.out.bx.h2.two.c0, S8.out.bx.h2.two.c1⟩
          | exact ⟨S9.out.bx.h1.two.c0, S9.out.bx.h1.two.c1, S9.out.bx.h2.two.c0, S9.out.bx.h2.two.c1⟩
          | go_keep)
              (first
          | (go_at_call 18; (with_reducible refine (specWordAt_any KA a6 0 c6 [] (M : Int) _ SRd.out.bx.h1.src (by simp) (by have h1 := EZ.out; have h2 := HKL.out; omega)).mono ?_); rw [HA.out]; rintro e w8 ⟨rfl, hb8⟩; have S8 := Lib.hid (SRd.out.later hb8); clear hb8)
          | (go_at_call 18; (with_reducible refine (specWordAt_any K a n c L (M : Int) _ S8.out.bx.h2.src (by have := HLL.out; omega) (by have h2 := HKL.out; omega)).mono ?_); rw [HT.out]; rintro e w9 ⟨rfl, hb9⟩; have S9 := Lib.hid (S8.out.later hb9); clear hb9))
            have h2n := HK2.out
            go_wp2
            go_roundw
            case rel => exact ⟨k + 1, by omega, by go_num, S9⟩
            case measure => (simp [intOf]; try omega)
          · obtain rfl : k = 2 * n := by omega
            have h1c0 := SR.out.bx.h1.two.c0
            have h1c1 := SR.out.bx.h1.two.c1
            have h2c0 := SR.out.bx.h2.two.c0
            have h2c1 := SR.out.bx.h2.two.c1
            go_wp2_with fail
            refine (specUnsure_any K a n c L _ SR.out.bx.h2.src (by have := HLL.out; omega)).mono ?_
            rw [HP.out]
            rintro e w8 ⟨v8, rfl, hown8, hb8⟩
            rw [HPN.out] at hown8
            obtain ⟨a8, c8, rfl, _, _, r8⟩ := own_form hown8
            have S8 := Lib.hid (SR.out.later hb8)
            clear hb8 hown8 h1c0 h1c1 h2c0 h2c1
            have R8 := Lib.hid r8
            clear r8
            have R7 : Hid (Reads w8 a7 (icells P)) := Lib.hid (own_reads S8.out.own)
            go_wp2_with fail
            refine (sameInts_any a7 a8 n c7 c8 P w8 HPN.out (by have := HLL.out; omega) R7.out R8.out).mono ?_
            rintro e w9 ⟨rfl, q9, rfl⟩
            have S9 := Lib.hid (S8.out.later (below_drewsN (Below.refl w8.heap.size w8) q9))
            have h1c0 := S9.out.bx.h1.two.c0
            have h1c1 := S9.out.bx.h1.two.c1
            have h2c0 := S9.out.bx.h2.two.c0
            have h2c1 := S9.out.bx.h2.two.c1
            clear S8 R7 R8
            go_wp2_with fail
            have s9 : SrcC (w8.drewN q9) a6 0 [] := S9.out.bx.h1.src
            refine (implUnsure_any KA a6 0 c6 [] _ s9 (by simp)).mono ?_
            rintro e w10 ⟨v10, rfl, hown10x, hb10⟩
            have hown10 : w10.ownsRow (w8.drewN q9).heap.size 3 1 v10 0 (icells []) := hown10x
            obtain ⟨a10, c10, rfl, _, _, _⟩ := own_form hown10
            have S10 := Lib.hid (S9.out.later hb10)
            clear hown10x hown10 hb10 h1c0 h1c1 h2c0 h2c1 s9
            go_wp2_with fail
            refine (implNew_any 1 w10).mono ?_
            rintro e w11 ⟨rfl, hb11⟩
            rw [HNB.out]
            have S11 := Lib.hid (S10.out.later hb11)
            clear hb11
            have hz := HZ1.out
            have hfd : (Instr.field 26 (.agg #[.string nb, .slice none 0 0]) 0).run Try.prog w11 = .ok (.string nb) w11 := by kernel_rfl
            go_wp2
            go_ret
            exact ⟨rfl, S11.out.bx.below⟩
      · have hfell : fellB K L z = false := fellB_neg hz0
        have hzn : z < 0 := by omega
        clear hz0 hok z0
        have hzd : decide (z < 0) = true := decide_eq_true hzn
        obtain rfl : KX = K := by rw [← HKX.out]; exact fallenK_no hfell
        obtain rfl : X = L := by rw [← HX.out]; exact fallenL_no hfell
        obtain rfl : n = n2 := by rw [← HLEN.out, ← HN2.out]
        clear hfell
        go_wp2_with fail
        refine (sameMemory_any _ a2 a _ c2 c _ _ (by have := HX2.out; omega) S5.out.h1.src S5.out.h2.src).mono ?_
        rintro e w6 ⟨rfl, hb6⟩
        have S6 := Lib.hid (S5.out.later hb6)
        clear hb6
        clear h1c0 h1c1 h2c0 h2c1
        go_wp2_with fail
        refine (implNew_any 1 w6).mono ?_
        rintro e w7 ⟨rfl, hb7⟩
        rw [HNB.out]
        have S7 := Lib.hid (S6.out.later hb7)
        clear hb7
        have hz := HZ1.out
        have hfd : (Instr.field 26 (.agg #[.string nb, .slice none 0 0]) 0).run Try.prog w7 = .ok (.string nb) w7 := by kernel_rfl
        go_wp2
        go_ret
        exact ⟨rfl, S7.out.below⟩
    · have hfell : fellB K L z = false := fellB_bad hok
      rw [memOkB_no hok]
      clear hok
      rintro e w5 ⟨rfl, hb5⟩
      have S5 := Lib.hid (S4.out.later hb5)
      clear hb5 S4
      clear h1c0 h1c1 h2c0 h2c1
      have h1c0 := S5.out.h1.two.c0
      have h1c1 := S5.out.h1.two.c1
      have h2c0 := S5.out.h2.two.c0
      have h2c1 := S5.out.h2.two.c1
      obtain rfl : KX = K := by rw [← HKX.out]; exact fallenK_no hfell
      obtain rfl : X = L := by rw [← HX.out]; exact fallenL_no hfell
      obtain rfl : n = n2 := by rw [← HLEN.out, ← HN2.out]
      clear hfell
      go_wp2_with fail
      refine (sameMemory_any _ a2 a _ c2 c _ _ (by have := HX2.out; omega) S5.out.h1.src S5.out.h2.src).mono ?_
      rintro e w6 ⟨rfl, hb6⟩
      have S6 := Lib.hid (S5.out.later hb6)
      clear hb6
      clear h1c0 h1c1 h2c0 h2c1
      go_wp2_with fail
      refine (implNew_any 1 w6).mono ?_
      rintro e w7 ⟨rfl, hb7⟩
      rw [HNB.out]
      have S7 := Lib.hid (S6.out.later hb7)
      clear hb7
      have hz := HZ1.out
      have hfd : (Instr.field 26 (.agg #[.string nb, .slice none 0 0]) 0).run Try.prog w7 = .ok (.string nb) w7 := by kernel_rfl
      go_wp2
      go_ret
      exact ⟨rfl, S7.out.below⟩
  · go_enter Try.func4, Try.ntmps4
    go_wp2_with (go_at_call 13; go_in)
    go_ret
    exact ⟨rfl, Below.refl _ _⟩
end Go.Proofs.Ytpahihcnmpeenaa
