/- Merged texts: DrawSto, IntsBase, SameMem, PickMath, FallPtr, Fall. -/
import Derived.Test.YtpahihcnmpeenaaP10H
import Derived.Deep.RegionHeld3
import Derived.Test.YtpahihcnmpeenaaRows
import Derived.WalkKit
import Derived.WalkSpells
import Derived.WalkLawsBesides
import Derived.Lib.Hide
import Derived.Deep.QuietTactic
import Derived.BigQuiet
namespace Go.Proofs.Ytpahihcnmpeenaa
open Go.RowKit Go.Proofs.Ytpahihcnmpeenaa.Parts Go.Proofs.Ytpahihcnmpeenaa.Hexa Go.Proofs.Ytpahihcnmpeenaa.Draw

def StoreDrawn (w : World) (e : Ending) (w' : World) : Prop :=
  ∃ K L a n cp i x, e = .returned (.tuple #[.agg #[.string K, .slice a n cp], .int .i64 i, .string x]) ∧ FitT L 1048600 ∧ L.length ≤ 1000 ∧ K.size ≤ 1000 ∧ x.size ≤ 9 ∧ -9223372036854775808 ≤ i ∧ i ≤ 9223372036854775807 ∧ w'.ownsRow w.heap.size 68 3 (.slice a n cp) n (cellsE encC L) ∧ Below w.heap.size w w'

/-- The state behind the drawn memory: the result's block, the cursor's, the box. -/
structure StoSt (w wr : World) (ad : Option Addr) (len cap b : Nat) (K : ByteArray) (L : List C3) (a : Option Addr) (n cp : Nat) : Prop where
  res : Two wr w.heap.size (.string ⟨#[]⟩) (.slice none 0 0) 26
  box : BoxM wr (w.heap.size + 2) b K a n cp L
  cur : Cur wr (w.heap.size + 1) ad len cap
  src : Draw.Src wr (w.heap.size + 1) ad len
  below : Below w.heap.size w wr
section
variable {w wr w' : World} {ad : Option Addr} {len cap b : Nat} {K : ByteArray} {L : List C3} {a : Option Addr} {n cp : Nat}
theorem StoSt.draw (h : StoSt w wr ad len cap b K L a n cp) (hc : Cur w' (w.heap.size + 1) ad len cap) (hg : wr.grownBy w' (some (w.heap.size + 1))) : StoSt w w' ad len cap b K L a n cp :=
  ⟨two_grown h.res hg (by omega), h.box.grown hg (by omega), hc, src_grown h.src hg (cur_lt h.cur), h.below.grown hg h.below.size (fun k e => by simp at e; omega)⟩
theorem StoSt.drew (h : StoSt w wr ad len cap b K L a n cp) : StoSt w wr.drew ad len cap b K L a n cp :=
  ⟨h.res, h.box.drew0, h.cur, h.src, h.below.drew⟩
theorem StoSt.later (h : StoSt w wr ad len cap b K L a n cp) (hb : Below wr.heap.size wr w') : StoSt w w' ad len cap b K L a n cp :=
  ⟨h.res.later hb, h.box.later hb, cur_below h.cur hb (cur_lt h.cur), src_below h.src hb (Nat.le_of_lt (cur_lt h.cur)), h.below.trans (hb.mono h.below.size)⟩
theorem StoSt.set_two (h : StoSt w wr ad len cap b K L a n cp) (u v : Value) : Two ((wr.setCell ⟨w.heap.size, 0, none⟩ u).setCell ⟨w.heap.size, 1, none⟩ v) b (.string K) (.slice a n cp) 26 := by
  have hl := h.box.low
  exact ((Below.heap_setCell _ _ _ _ (by show b ≠ w.heap.size; omega)).trans (Below.heap_setCell _ _ _ _ (by show b ≠ w.heap.size; omega))).trans h.box.two
theorem StoSt.done (h : StoSt w wr ad len cap b K L a n cp) : ((wr.setCell ⟨w.heap.size, 0, none⟩ (.string K)).setCell ⟨w.heap.size, 1, none⟩ (.slice a n cp)).ownsRow w.heap.size 68 3 (.slice a n cp) n (cellsE encC L) ∧ Below w.heap.size w ((wr.setCell ⟨w.heap.size, 0, none⟩ (.string K)).setCell ⟨w.heap.size, 1, none⟩ (.slice a n cp)) := by
  have hn : (Value.slice a n cp).ownBlock ≠ some w.heap.size := fun e => by have := (h.box.own.lt _ e).1; omega
  exact ⟨ownE_mono (ownsRow_setCell_other (ownsRow_setCell_other h.box.own hn _) hn _) (by omega), (h.below.setCell (Nat.le_refl _) _).setCell (Nat.le_refl _) _⟩
end

set_option maxRecDepth 100000 in
set_option maxHeartbeats 4000000 in
theorem drawStore_any (ad : Option Addr) (len cap : Nat) (w : World) (hlen : len ≤ 1048576) (hs : Draw.Src w w.heap.size ad len) :
    Calls Try.prog 14 #[.slice ad len cap] w (StoreDrawn w) := by
  have HS := Lib.hid hs
  have HS0 : Hid (Draw.Src (w.alloc (.cells #[.string ⟨#[]⟩, .slice none 0 0] 26)) (w.heap.size + 1) ad len) := Lib.hid (fun i hi => by
    obtain ⟨q, off, z, e, hq, r⟩ := src_grown' (row := none) hs (grown_alloc w (.cells #[.string ⟨#[]⟩, .slice none 0 0] 26) none) (fun k e => by cases e) (Nat.le_refl _) i hi
    exact ⟨q, off, z, e, by omega, r⟩)
  have R0 := Lib.hid (Two.alloc w (.string ⟨#[]⟩) (.slice none 0 0) 26)
  have B0 : Hid (Below w.heap.size w (w.alloc (.cells #[.string ⟨#[]⟩, .slice none 0 0] 26))) := Lib.hid (below_alloc w _)
  have Z0 : Hid ((w.alloc (.cells #[.string ⟨#[]⟩, .slice none 0 0] 26)).heap.size = w.heap.size + 1) := Lib.hid (by simp)
  clear hs
  go_enter Try.func14, Try.ntmps14
  go_wp2_with fail
  generalize w.alloc (.cells #[.string ⟨#[]⟩, .slice none 0 0] 26) = W0 at HS0 R0 B0 Z0 ⊢
  refine (new_any ad len cap W0 hlen (by rw [Z0.out]; exact HS0.out)).mono ?_
  rintro e w1 ⟨rfl, h, rfl⟩
  rw [Z0.out]
  have C1 : Hid (Cur (W0.alloc (.cells #[.slice ad len cap, .int .i64 0, .int .i64 h] 76)) (w.heap.size + 1) ad len cap) := Lib.hid ⟨0, h, Nat.zero_le _, by rw [← Z0.out]; exact heap_alloc_new W0 _⟩
  have S1 : Hid (Draw.Src (W0.alloc (.cells #[.slice ad len cap, .int .i64 0, .int .i64 h] 76)) (w.heap.size + 1) ad len) := Lib.hid (src_grown' HS0.out (grown_alloc _ _ none) (fun k e => by cases e) (by rw [Z0.out]; exact Nat.le_refl _))
  have R1 := Lib.hid (R0.out.later (below_alloc W0 (.cells #[.slice ad len cap, .int .i64 0, .int .i64 h] 76)))
  have B1 := Lib.hid (B0.out.trans ((below_alloc W0 (.cells #[.slice ad len cap, .int .i64 0, .int .i64 h] 76)).mono B0.out.size))
  have Z1 : Hid ((W0.alloc (.cells #[.slice ad len cap, .int .i64 0, .int .i64 h] 76)).heap.size = w.heap.size + 2) := Lib.hid (by simp [Z0.out])
  generalize W0.alloc (.cells #[.slice ad len cap, .int .i64 0, .int .i64 h] 76) = W1 at C1 S1 R1 B1 Z1 ⊢
  clear HS HS0 R0 B0 Z0
  go_wp2_with fail
  refine (drawAny_any (w.heap.size + 1) ad len cap W1 hlen C1.out S1.out).mono ?_
  rintro e w2 ⟨K, L, v, rfl, hfit, hll, hkl, hown, hc2, hg2⟩
  rw [Z1.out] at hown
  obtain ⟨a, cp, rfl, _, _, hpl⟩ := ownE_form hown
  obtain ⟨n, hn⟩ : ∃ n, L.length = n := ⟨_, rfl⟩
  rw [hn] at hown hll ⊢
  have HF := Lib.hid hfit
  have HLL : Hid (L.length ≤ 1000) := Lib.hid (by rw [hn]; exact hll)
  have HKL := Lib.hid hkl
  have ST : Hid (StoSt w (w2.alloc (.cells #[.string K, .slice a n cp] 26)) ad len cap w2.heap.size K L a n cp) := Lib.hid (by
    have hba := below_alloc w2 (.cells #[.string K, .slice a n cp] 26)
    have hsz := hg2.size
    rw [Z1.out] at hsz
    have hb2 : Below w.heap.size w w2 := B1.out.grown hg2 B1.out.size (fun k e => by simp at e; omega)
    refine ⟨(two_grown R1.out hg2 (by omega)).later hba, ⟨Two.alloc w2 _ _ _, own_below hown hba, hsz, fun p hp => ?_⟩, cur_below hc2 hba (cur_lt hc2), src_below (src_grown S1.out hg2 (cur_lt C1.out)) hba (Nat.le_of_lt (cur_lt hc2)), hb2.trans (hba.mono hb2.size)⟩
    obtain ⟨g, e, _, hg⟩ := hpl p hp
    rw [e]; exact Nat.ne_of_lt hg)
  clear hfit hll hkl hown hpl hc2 hg2 hn R1 B1 C1 S1 Z1
  obtain ⟨b, hb⟩ : ∃ b, b = w2.heap.size := ⟨_, rfl⟩
  obtain ⟨w3, h3⟩ : ∃ x, x = w2.alloc (.cells #[.string K, .slice a n cp] 26) := ⟨_, rfl⟩
  rw [← hb, ← h3] at ST
  have c0 := ST.out.box.two.c0
  have c1 := ST.out.box.two.c1
  have HPK : Hid (∀ w5 : World, Cur w5 (w.heap.size + 1) ad len cap → Draw.Src w5 (w.heap.size + 1) ad len → Calls Try.prog 47 #[.pointer (some ⟨w.heap.size + 1, 0, none⟩), .slice (some ⟨w5.heap.size, 0, none⟩) 6 6] (w5.alloc (.cells #[.int .i64 8, .int .i64 8, .int .i64 8, .int .i64 8, .int .i64 7, .int .i64 9] 3)) fun e w' => ∃ z ∈ ([8, 8, 8, 8, 7, 9] : List Int), e = .returned (.int .i64 z) ∧ Cur w' (w.heap.size + 1) ad len cap ∧ w5.grownBy w' (some (w.heap.size + 1))) := Lib.hid (fun w5 hc hs => pickNum_new (w.heap.size + 1) ad len cap 6 [8, 8, 8, 8, 7, 9] _ _ w5 rfl hlen (by decide) (by decide) rfl hc hs)
  have HWI : Hid (∀ j, j < 6 → (w3.drew.alloc (.cells #[.int .i64 8, .int .i64 8, .int .i64 8, .int .i64 8, .int .i64 7, .int .i64 9] 3)).cell? ⟨w3.heap.size, j, none⟩ = some (.int .i64 (([8, 8, 8, 8, 7, 9] : List Int).getD j 0))) := Lib.hid (fun j hj => by
    have hh := heap_alloc_new w3.drew (.cells #[.int .i64 8, .int .i64 8, .int .i64 8, .int .i64 8, .int .i64 7, .int .i64 9] 3)
    have h1 : ∀ (o : Option Obj), o = some (.cells #[.int .i64 8, .int .i64 8, .int .i64 8, .int .i64 8, .int .i64 7, .int .i64 9] 3) → (match o with | some (.cells c _ _) => c[j]? | _ => none) = some (Value.int .i64 (([8, 8, 8, 8, 7, 9] : List Int).getD j 0)) := fun o ho => by
      subst ho
      have : j = 0 ∨ j = 1 ∨ j = 2 ∨ j = 3 ∨ j = 4 ∨ j = 5 := by omega
      rcases this with rfl | rfl | rfl | rfl | rfl | rfl <;> rfl
    exact h1 _ hh)
  have hba3 : Below w3.drew.heap.size w3.drew (w3.drew.alloc (.cells #[.int .i64 8, .int .i64 8, .int .i64 8, .int .i64 8, .int .i64 7, .int .i64 9] 3)) := below_alloc _ _
  have ST3 := Lib.hid (ST.out.drew.later hba3)
  have b0 : (w3.alloc (.cells #[.int .i64 8, .int .i64 8, .int .i64 8, .int .i64 8, .int .i64 7, .int .i64 9] 3)).cell? ⟨b, 0, none⟩ = some (.string K) := ST3.out.box.two.c0
  have b1 : (w3.alloc (.cells #[.int .i64 8, .int .i64 8, .int .i64 8, .int .i64 8, .int .i64 7, .int .i64 9] 3)).cell? ⟨b, 1, none⟩ = some (.slice a n cp) := ST3.out.box.two.c1
  have HPB : Hid (Calls Try.prog 45 #[.pointer (some ⟨w.heap.size + 1, 0, none⟩), .int .i64 10] (w3.alloc (.cells #[.int .i64 8, .int .i64 8, .int .i64 8, .int .i64 8, .int .i64 7, .int .i64 9] 3)).drew (DrawPost (fun v => ∃ z : Int, v = .int .i64 z ∧ -9223372036854775808 ≤ z ∧ z ≤ 9223372036854775807) (w3.alloc (.cells #[.int .i64 8, .int .i64 8, .int .i64 8, .int .i64 8, .int .i64 7, .int .i64 9] 3)).drew (w.heap.size + 1) ad len cap)) := Lib.hid (place_any (w.heap.size + 1) ad len cap 10 _ hlen (by decide) (by decide) ST3.out.cur ST3.out.src)
  have HLT : Hid (w.heap.size + 1 < w3.heap.size) := Lib.hid (cur_lt ST.out.cur)
  have HPI : Hid (∀ w5 : World, (w3.alloc (.cells #[.int .i64 8, .int .i64 8, .int .i64 8, .int .i64 8, .int .i64 7, .int .i64 9] 3)).drew.grownBy w5 (some (w.heap.size + 1)) → Cur w5 (w.heap.size + 1) ad len cap → Draw.Src w5 (w.heap.size + 1) ad len → Calls Try.prog 47 #[.pointer (some ⟨w.heap.size + 1, 0, none⟩), .slice (some ⟨w3.heap.size, 0, none⟩) 6 6] w5 fun e w' => ∃ z ∈ ([8, 8, 8, 8, 7, 9] : List Int), e = .returned (.int .i64 z) ∧ Cur w' (w.heap.size + 1) ad len cap ∧ w5.grownBy w' (some (w.heap.size + 1))) := Lib.hid (fun w5 hg0 hc hs => by
    have hg : (w3.drew.alloc (.cells #[.int .i64 8, .int .i64 8, .int .i64 8, .int .i64 8, .int .i64 7, .int .i64 9] 3)).grownBy w5 (some (w.heap.size + 1)) := hg0
    have hz3 : (w3.drew.alloc (.cells #[.int .i64 8, .int .i64 8, .int .i64 8, .int .i64 8, .int .i64 7, .int .i64 9] 3)).heap.size = w3.heap.size + 1 := by simp
    refine (pickInt_any (w.heap.size + 1) ad len cap w3.heap.size 6 6 [8, 8, 8, 8, 7, 9] w5 hlen (by decide) (by decide) rfl (fun j hj => ?_) (by have := hg.size; rw [hz3] at this; omega) (by have := HLT.out; omega) hc hs).mono ?_
    · rw [World.cell?_of_block (w := w3.drew.alloc (.cells #[.int .i64 8, .int .i64 8, .int .i64 8, .int .i64 8, .int .i64 7, .int .i64 9] 3)) (hg.block w3.heap.size (by rw [hz3]; omega) (fun e => by have := HLT.out; simp at e; omega))]
      exact HWI.out j hj
    · rintro e w' ⟨v, ⟨z, hz, rfl⟩, rfl, hc', hg'⟩
      exact ⟨z, hz, rfl, hc', hg'⟩)
  have HR : Hid (∀ (i z : Int) (m : Nat) (x : ByteArray) (w6 : World), StoSt w w6 ad len cap b K L a n cp → -9223372036854775808 ≤ i → i ≤ 9223372036854775807 → m ≤ 9 → x.size = m → StoreDrawn w (.returned (.tuple #[.agg #[.string K, .slice a n cp], .int .i64 i, .string x])) ((w6.setCell ⟨w.heap.size, 0, none⟩ (.string K)).setCell ⟨w.heap.size, 1, none⟩ (.slice a n cp))) := Lib.hid (fun i z m x w6 hs i0 i1 hm hx => ⟨K, L, a, n, cp, i, x, rfl, HF.out, HLL.out, HKL.out, by omega, i0, i1, hs.done.1, hs.done.2⟩)
  clear hba3 HWI
  go_wp2_with fail
  rw [← hb]
  try rw [← h3]
  clear hb h3
  clear b0 b1
  go_region_held3 (fun w' => w'.cell? ⟨b, 0, none⟩ = some (.string K) ∧ w'.cell? ⟨b, 1, none⟩ = some (.slice a n cp))
    (first
      | exact ⟨ST.out.drew.box.two.c0, ST.out.drew.box.two.c1⟩
      | exact ⟨ST3.out.box.two.c0, ST3.out.box.two.c1⟩
      | exact ⟨ST4.out.box.two.c0, ST4.out.box.two.c1⟩
      | exact ⟨ST4a.out.box.two.c0, ST4a.out.box.two.c1⟩
      | exact ⟨ST5.out.box.two.c0, ST5.out.box.two.c1⟩
      | exact ⟨ST6.out.box.two.c0, ST6.out.box.two.c1⟩
      | exact ⟨(ST6.out.set_two _ _).c0, (ST6.out.set_two _ _).c1⟩
      | go_keep)
    (first
      | (go_at_call 45; (with_reducible refine (place_any (w.heap.size + 1) ad len cap 10 w3.drew hlen (by decide) (by decide) ST.out.drew.cur ST.out.drew.src).mono ?_); rintro e w4 ⟨_, ⟨i, rfl, i0, i1⟩, rfl, hc4, hg4⟩; have ST4 := Lib.hid (ST.out.drew.draw hc4 hg4); have ST4a := Lib.hid (ST4.out.later (below_alloc w4 (.cells #[.int .i64 8, .int .i64 8, .int .i64 8, .int .i64 8, .int .i64 7, .int .i64 9] 3))); clear hc4 hg4)
      | (go_at_call 47; (with_reducible refine (HPK.out w4 ST4.out.cur ST4.out.src).mono ?_); rintro e w5 ⟨z, hz, rfl, hc5, hg5⟩; have ST5 := Lib.hid (ST4.out.draw hc5 hg5); have hz' : 0 ≤ z ∧ z ≤ 9 := (by simp at hz; omega); obtain ⟨m, rfl⟩ : ∃ m : Nat, z = m := ⟨z.toNat, (by omega)⟩; have HM : Hid (m ≤ 9) := Lib.hid (by omega); clear hc5 hg5 hz hz')
      | (go_at_call 47; (with_reducible refine (HPI.out w4 HIB.out ST4.out.cur ST4.out.src).mono ?_); rintro e w5 ⟨z, hz, rfl, hc5, hg5⟩; have ST5 := Lib.hid (ST4.out.draw hc5 hg5); have hz' : 0 ≤ z ∧ z ≤ 9 := (by simp at hz; omega); obtain ⟨m, rfl⟩ : ∃ m : Nat, z = m := ⟨z.toNat, (by omega)⟩; have HM : Hid (m ≤ 9) := Lib.hid (by omega); clear hc5 hg5 hz hz')
      | (go_at_call 46; (with_reducible refine (text_any (w.heap.size + 1) ad len cap m w5 hlen (by have := HM.out; omega) ST5.out.cur ST5.out.src).mono ?_); rintro e w6 ⟨_, ⟨x, rfl, hx⟩, rfl, hc6, hg6⟩; have ST6 := Lib.hid (ST5.out.draw hc6 hg6); have HX := Lib.hid hx; have r0 := ST6.out.res.c0; have r1 := ST6.out.res.c1; have f0 := ST6.out.res.fr (o := 0); have f1 := ST6.out.res.fr (o := 1); have q := two_set1 (two_set0 ST6.out.res (x := .string K)) (x := .slice a n cp); have q0 := cell0_of_two q; have q1 := cell1_of_two q; have HP := Lib.hid (HR.out i m m x w6 ST6.out i0 i1 HM.out HX.out); clear hc6 hg6 hx q)
      | (go_at_call 45; (with_reducible refine HPB.out.mono ?_); rintro e w4 ⟨_, ⟨i, rfl, i0, i1⟩, rfl, hc4, hg4⟩; have ST4 := Lib.hid (ST3.out.draw hc4 hg4); have HIB := Lib.hid hg4; clear hc4 hg4))
  all_goals
    go_wp2
    refine bodyPost_ret (v := .tuple #[.agg #[.string K, .slice a n cp], .int .i64 i, .string x]) ?_ rfl HP.out
    simp [results, Try.results14, go_sem, q0, q1]
end Go.Proofs.Ytpahihcnmpeenaa
namespace Go.Proofs.Ytpahihcnmpeenaa
open Go.RowKit Go.Proofs.Ytpahihcnmpeenaa.Parts Go.Proofs.Ytpahihcnmpeenaa.Hexa

theorem ret_i64' {a b : Int} (h : a = b) : Ending.returned (.int .i64 a) = .returned (.int .i64 b) := by rw [h]

/-- A row of ints as cells. -/
def icells (xs : List Int) : List Value := xs.map fun x => Value.int .i64 x
theorem icells_length (xs : List Int) : (icells xs).length = xs.length := by simp [icells]
theorem cell_int {w : World} {a : Addr} {P : List Int} {k : Nat} (hk : k < P.length) (h : w.cell? a = (icells P)[k]?) : w.cell? a = some (.int .i64 P[k]) := by
  rw [h]; simp [icells, hk]
end Go.Proofs.Ytpahihcnmpeenaa
namespace Go.Proofs.Ytpahihcnmpeenaa
open Go.RowKit Go.Proofs.Ytpahihcnmpeenaa.Parts Go.Proofs.Ytpahihcnmpeenaa.Hexa

set_option maxRecDepth 100000 in
set_option maxHeartbeats 1000000 in
theorem sameCells_any (a1 a2 : Option Addr) (n c1 c2 : Nat) (L : List C3) (w : World) (hn : n ≤ 100000000) (s1 : SrcC w a1 n L) (s2 : SrcC w a2 n L) :
    Calls Try.prog 55 #[.slice a1 n c1, .slice a2 n c2] w fun e w' => e = .returned (.bool true) ∧ Below w.heap.size w w' := by
  have R1 := Lib.hid s1
  have R2 := Lib.hid s2
  clear s1 s2
  go_enter Try.func55, Try.ntmps55
  go_wp2
  go_loopw [5] (fun iv wr => ∃ k m : Nat, k ≤ n ∧ iv = .int .i64 k ∧ wr = w.drewN m) (fun iv _ => n - (intOf iv).toNat)
  case atStart => exact ⟨0, 0, Nat.zero_le _, rfl, rfl⟩
  case round =>
    obtain ⟨k, m, hk, rfl, rfl⟩ := hrel
    by_cases hlt : k < n
    · obtain ⟨g1, o1, rfl, _, d1, d2, d3⟩ := R1.out.cells3 k hlt
      obtain ⟨g2, o2, rfl, _, e1, e2, e3⟩ := R2.out.cells3 k hlt
      obtain ⟨u, hu⟩ : ∃ u, (L.getD k default).l = u := ⟨_, rfl⟩
      obtain ⟨t, ht⟩ : ∃ t, (L.getD k default).t = t := ⟨_, rfl⟩
      obtain ⟨f, hf⟩ : ∃ f, (L.getD k default).f = f := ⟨_, rfl⟩
      rw [hu] at d1 e1
      rw [ht] at d2 e2
      rw [hf] at d3 e3
      clear hu ht hf
      go_wp2
      go_quiet (fail)
      go_wp2
      go_roundw
      case rel => exact ⟨k + 1, _, by omega, by go_num, rfl⟩
      case measure => (simp [intOf]; try omega)
    · obtain rfl : k = n := by omega
      go_wp2
      go_ret
      exact ⟨rfl, below_drewsN (Below.refl _ _) _⟩

set_option maxRecDepth 100000 in
set_option maxHeartbeats 1000000 in
theorem sameMemory_any (K : ByteArray) (a1 a2 : Option Addr) (n c1 c2 : Nat) (L : List C3) (w : World) (hn : n ≤ 100000000) (s1 : SrcC w a1 n L) (s2 : SrcC w a2 n L) :
    Calls Try.prog 17 #[.agg #[.string K, .slice a1 n c1], .agg #[.string K, .slice a2 n c2]] w fun e w' => e = .returned (.bool true) ∧ Below w.heap.size w w' := by
  have R1 := Lib.hid s1
  have R2 := Lib.hid s2
  clear s1 s2
  go_enter Try.func17, Try.ntmps17
  go_wp2_with fail
  have hb0 : Below w.heap.size w ((w.alloc (.cells #[.string K, .slice a1 n c1] 26)).alloc (.cells #[.string K, .slice a2 n c2] 26)) := ((Below.refl _ _).alloc (Nat.le_refl _) _).alloc (by simp) _
  refine (sameCells_any a1 a2 n c1 c2 L _ hn (R1.out.later hb0) (R2.out.later hb0)).mono ?_
  rintro e w1 ⟨rfl, hb1⟩
  have hb2 : Below w.heap.size w w1 := hb0.trans (hb1.mono hb0.size)
  clear hb0 hb1
  go_wp2
  go_ret
  exact ⟨rfl, hb2⟩

set_option maxRecDepth 100000 in
set_option maxHeartbeats 1000000 in
theorem sameInts_any (a1 a2 : Option Addr) (n c1 c2 : Nat) (P : List Int) (w : World) (hP : P.length = n) (hn : n ≤ 100000000) (r1 : Reads w a1 (icells P)) (r2 : Reads w a2 (icells P)) :
    Calls Try.prog 30 #[.slice a1 n c1, .slice a2 n c2] w fun e w' => e = .returned (.bool true) ∧ ∃ m, w' = w.drewN m := by
  have HP := Lib.hid hP
  clear hP
  have R1 := Lib.hid r1
  have R2 := Lib.hid r2
  clear r1 r2
  go_enter Try.func30, Try.ntmps30
  go_wp2
  go_loopw [5] (fun iv wr => ∃ k m : Nat, k ≤ n ∧ iv = .int .i64 k ∧ wr = w.drewN m) (fun iv _ => n - (intOf iv).toNat)
  case atStart => exact ⟨0, 0, Nat.zero_le _, rfl, rfl⟩
  case round =>
    obtain ⟨k, m, hk, rfl, rfl⟩ := hrel
    by_cases hlt : k < n
    · obtain ⟨g1, rfl, e1⟩ := R1.out k (by have := HP.out; simp [icells]; omega)
      obtain ⟨g2, rfl, e2⟩ := R2.out k (by have := HP.out; simp [icells]; omega)
      have d1 := cell_int (by have := HP.out; omega) e1
      have d2 := cell_int (by have := HP.out; omega) e2
      obtain ⟨x, hx⟩ : ∃ x, P[k]'(by have := HP.out; omega) = x := ⟨_, rfl⟩
      rw [hx] at d1 d2
      clear e1 e2 hx
      go_wp2
      go_quiet (fail)
      go_wp2
      go_roundw
      case rel => exact ⟨k + 1, _, by omega, by go_num, rfl⟩
      case measure => (simp [intOf]; try omega)
    · obtain rfl : k = n := by omega
      go_wp2
      go_ret
      exact ⟨rfl, _, rfl⟩

/-- Memories in boxes. -/
structure MB where
  b : Nat
  K : ByteArray
  a : Option Addr
  n : Nat
  c : Nat
  L : List C3
structure Bx (w wr : World) (l : List MB) : Prop where
  below : Below w.heap.size w wr
  all : ∀ m ∈ l, BoxM wr w.heap.size m.b m.K m.a m.n m.c m.L
theorem Bx.start (w : World) : Bx w w [] := ⟨Below.refl _ _, fun m h => by cases h⟩
section
variable {w wr w' : World} {l : List MB}
theorem Bx.later (h : Bx w wr l) (hb : Below wr.heap.size wr w') : Bx w w' l := ⟨h.below.trans (hb.mono h.below.size), fun m hm => (h.all m hm).later hb⟩
theorem Bx.drew (h : Bx w wr l) : Bx w wr.drew l := h.later (Below.refl _ _).drew
/-- A memory that a call has answered, boxed. -/
theorem Bx.push {K : ByteArray} {a : Option Addr} {n c B : Nat} {L : List C3} (h : Bx w wr l) (hb : Below wr.heap.size wr w') (hB : w.heap.size ≤ B) (ho : w'.ownsRow B 68 3 (.slice a n c) n (cellsE encC L)) :
    Bx w (w'.alloc (.cells #[.string K, .slice a n c] 26)) (⟨w'.heap.size, K, a, n, c, L⟩ :: l) := by
  have hba := below_alloc w' (.cells #[.string K, .slice a n c] 26)
  have h2 := (h.later hb).later hba
  refine ⟨h2.below, fun m hm => ?_⟩
  rcases List.mem_cons.1 hm with rfl | hm
  · obtain ⟨_, _, e, _, _, hpl⟩ := ownE_form ho
    have ha := (Value.slice.inj e).1
    refine ⟨Two.alloc w' _ _ _, own_below (ownE_mono ho hB) hba, (h.later hb).below.size, fun p hp => ?_⟩
    obtain ⟨g, rfl, _, hg⟩ := hpl p (by rw [← ha]; exact hp)
    exact Nat.ne_of_lt hg
  · exact h2.all m hm
theorem Bx.h1 {b n c : Nat} {K : ByteArray} {a : Option Addr} {L : List C3} (h : Bx w wr (⟨b, K, a, n, c, L⟩ :: l)) : BoxM wr w.heap.size b K a n c L := h.all ⟨b, K, a, n, c, L⟩ (by simp)
theorem Bx.h2 {m : MB} {b n c : Nat} {K : ByteArray} {a : Option Addr} {L : List C3} (h : Bx w wr (m :: ⟨b, K, a, n, c, L⟩ :: l)) : BoxM wr w.heap.size b K a n c L := h.all ⟨b, K, a, n, c, L⟩ (by simp)
theorem Bx.h3 {m m2 : MB} {b n c : Nat} {K : ByteArray} {a : Option Addr} {L : List C3} (h : Bx w wr (m :: m2 :: ⟨b, K, a, n, c, L⟩ :: l)) : BoxM wr w.heap.size b K a n c L := h.all ⟨b, K, a, n, c, L⟩ (by simp)
theorem Bx.pop {m : MB} (h : Bx w wr (m :: l)) : Bx w wr l := ⟨h.below, fun x hx => h.all x (by simp [hx])⟩
theorem Bx.drop2 {m m2 : MB} (h : Bx w wr (m :: m2 :: l)) : Bx w wr (m :: l) := ⟨h.below, fun x hx => h.all x (by simp only [List.mem_cons] at hx ⊢; rcases hx with h | h; exact .inl h; exact .inr (.inr h))⟩
/-- The same where the box is made ahead of the call. -/
theorem Bx.fill {K : ByteArray} {a : Option Addr} {n c : Nat} {L : List C3} {o : Obj} (h : Bx w wr l) (ho : o = .cells #[.string ⟨#[]⟩, .slice none 0 0] 26) (hb : Below (wr.alloc o).drew.heap.size (wr.alloc o).drew w') (hw : w'.ownsRow (wr.alloc o).drew.heap.size 68 3 (.slice a n c) n (cellsE encC L)) :
    Bx w ((w'.setCell ⟨wr.heap.size, 0, none⟩ (.string K)).setCell ⟨wr.heap.size, 1, none⟩ (.slice a n c)) (⟨wr.heap.size, K, a, n, c, L⟩ :: l) := by
  subst ho
  have hba := below_alloc wr (.cells #[.string ⟨#[]⟩, .slice none 0 0] 26)
  have hbd : Below wr.heap.size wr (wr.alloc (.cells #[.string ⟨#[]⟩, .slice none 0 0] 26)).drew := hba.drew
  have hsz : (wr.alloc (.cells #[.string ⟨#[]⟩, .slice none 0 0] 26)).drew.heap.size = wr.heap.size + 1 := by show (wr.alloc _).heap.size = _; simp
  have h9 := h.later (hbd.trans (hb.mono hbd.size))
  have hle := h.below.size
  have hT : Two w' wr.heap.size (.string ⟨#[]⟩) (.slice none 0 0) 26 := (Two.alloc wr (.string ⟨#[]⟩) (.slice none 0 0) 26).drew.later hb
  refine ⟨(h9.below.setCell hle _).setCell hle _, fun m hm => ?_⟩
  rcases List.mem_cons.1 hm with rfl | hm
  · exact BoxM.put hT hw (by rw [hsz]; omega) hle
  · have h0 := h.all m hm
    have h1 := h9.all m hm
    have hne : m.b ≠ wr.heap.size := Nat.ne_of_lt h0.two.lt
    have hno : (Value.slice m.a m.n m.c).ownBlock ≠ some wr.heap.size := fun e => by have := (h0.own.lt _ e).2; omega
    exact ⟨((Below.heap_setCell _ _ _ _ hne).trans (Below.heap_setCell _ _ _ _ hne)).trans h1.two, ownsRow_setCell_other (ownsRow_setCell_other h1.own hno _) hno _, h1.low, h1.ne⟩
end
end Go.Proofs.Ytpahihcnmpeenaa
namespace Go.Proofs.Ytpahihcnmpeenaa
open Go.RowKit Go.Proofs.Ytpahihcnmpeenaa.Parts Go.Proofs.Ytpahihcnmpeenaa.Hexa

theorem and_one_i64 (i : Nat) (hi : i < 9223372036854775808) : bits BinOp.and IntKind.i64 (i : Int) 1 = ((i % 2 : Nat) : Int) := by
  have e : bits .and .i64 (i : Int) 1 = IntKind.i64.wrap ((BitVec.ofInt 64 (i : Int) &&& BitVec.ofInt 64 1).toNat : Int) := rfl
  have h1 : (BitVec.ofInt 64 (i : Int)).toNat = i := by
    rw [BitVec.toNat_ofInt]; omega
  have h2 : (BitVec.ofInt 64 (1 : Int)).toNat = 1 := by decide
  rw [e, BitVec.toNat_and, h1, h2, Nat.and_one_is_mod, IntWalk.i64_in _ (by omega)]
theorem div_pow_cast (q j : Nat) : ((q : Int) / 2 ^ j) = ((q / 2 ^ j : Nat) : Int) := by
  rw [Int.natCast_ediv, Int.natCast_pow]; rfl
theorem pickB_nat (q k : Nat) : pickB (q : Int) k = decide (q / 2 ^ k % 2 = 1) := by
  unfold pickB
  rw [div_pow_cast]
  by_cases h : q / 2 ^ k % 2 = 1
  · rw [decide_eq_true h]; exact decide_eq_true (by omega)
  · rw [decide_eq_false h]; exact decide_eq_false (by omega)
theorem small_pow {q k : Nat} (hq : q < 9223372036854775808) (hk : 63 ≤ k) : q / 2 ^ k = 0 := by
  apply Nat.div_eq_of_lt
  exact Nat.lt_of_lt_of_le hq (Nat.le_trans (by decide) (Nat.pow_le_pow_right (by omega) hk))
theorem pickB_high {p : Int} {k : Nat} (h0 : 0 ≤ p) (h1 : p ≤ 9223372036854775807) (hk : 63 ≤ k) : pickB p k = false := by
  obtain ⟨q, rfl⟩ : ∃ q : Nat, p = q := ⟨p.toNat, by omega⟩
  rw [pickB_nat, small_pow (by omega) hk]
  rfl
theorem pick_bit {p : Int} (k : Nat) (h0 : 0 ≤ p) (h1 : p ≤ 9223372036854775807) : (bits BinOp.and IntKind.i64 (p / 2 ^ min k 64) 1 == 1) = pickB p k := by
  obtain ⟨q, rfl⟩ : ∃ q : Nat, p = q := ⟨p.toNat, by omega⟩
  have hle : q / 2 ^ min k 64 < 9223372036854775808 := Nat.lt_of_le_of_lt (Nat.div_le_self _ _) (by omega)
  rw [div_pow_cast, and_one_i64 _ hle, pickB_nat]
  have e : q / 2 ^ min k 64 = q / 2 ^ k := by
    by_cases h : k ≤ 64
    · rw [Nat.min_eq_left h]
    · rw [Nat.min_eq_right (by omega), small_pow (by omega) (by omega), small_pow (by omega) (by omega)]
  rw [e]
  by_cases h : q / 2 ^ k % 2 = 1
  · rw [h]; rfl
  · have h0 : q / 2 ^ k % 2 = 0 := by omega
    rw [h0]; rfl
end Go.Proofs.Ytpahihcnmpeenaa
namespace Go.Proofs.Ytpahihcnmpeenaa
open Go.RowKit Go.Proofs.Ytpahihcnmpeenaa.Parts Go.Proofs.Ytpahihcnmpeenaa.Hexa

theorem fallL_append (p : Int) : ∀ (A B : List C3) (i : Nat), fallL p i (A ++ B) = fallL p i A ++ fallL p (i + A.length) B
  | [], B, i => rfl
  | c :: A, B, i => by
    rw [List.cons_append, fallL, fallL, fallL_append p A B (i + 1), List.cons_append, List.length_cons, show i + 1 + A.length = i + (A.length + 1) by omega]
/-- The first k flags are the picks. -/
def mixL (p : Int) (L : List C3) (k : Nat) : List C3 := fallL p 0 (L.take k) ++ L.drop k
theorem mixL_zero (p : Int) (L : List C3) : mixL p L 0 = L := by simp [mixL, fallL]
theorem mixL_all (p : Int) (L : List C3) : mixL p L L.length = fallL p 0 L := by simp [mixL]
theorem mixL_length (p : Int) (L : List C3) (k : Nat) : (mixL p L k).length = L.length := by
  unfold mixL; rw [List.length_append, fallL_length, List.length_take, List.length_drop]; omega
theorem mixL_at {p : Int} {L : List C3} {k : Nat} (h : k < L.length) : (mixL p L k).getD k default = L.getD k default := by
  unfold mixL
  have hl : (fallL p 0 (L.take k)).length = k := by rw [fallL_length, List.length_take]; omega
  simp only [List.getD]
  rw [List.getElem?_append_right (by omega), hl, Nat.sub_self, List.getElem?_drop, Nat.add_zero]
theorem mixL_succ {p : Int} {L : List C3} {k : Nat} (h : k < L.length) : (mixL p L k).set k ⟨(L.getD k default).l, (L.getD k default).t, pickB p k⟩ = mixL p L (k + 1) := by
  unfold mixL
  have hl : (fallL p 0 (L.take k)).length = k := by rw [fallL_length, List.length_take]; omega
  have hlt : (L.take k).length = k := by rw [List.length_take]; omega
  rw [List.set_append_right _ _ (by omega), hl, Nat.sub_self, drop_cons h, List.set_cons_zero, take_succ h, fallL_append, hlt, Nat.zero_add, List.append_assoc]
  rfl
theorem BoxM.drew {w : World} {M b : Nat} {K : ByteArray} {a : Option Addr} {n c : Nat} {L : List C3} (h : BoxM w M b K a n c L) : BoxM w.drew M b K a n c L := ⟨h.two, h.own, h.low, h.ne⟩
theorem fall_lies {K : ByteArray} {L : List C3} (p : Int) (h : Lies K L) : Lies K (fallL p 0 L) := fun j hj => by
  rw [fallL_length] at hj
  rw [fallL_at p L 0 j hj]
  exact h j hj

set_option maxRecDepth 100000 in
set_option maxHeartbeats 2000000 in
theorem fall_any (M b : Nat) (K : ByteArray) (a : Option Addr) (n c : Nat) (L : List C3) (p : Int) (w : World) (hB : BoxM w M b K a n c L) (hn : n ≤ 1048600) (hK : K.size ≤ 16000) (hli : Lies K L) (hp : 0 ≤ p) (hp2 : p ≤ 9223372036854775807) :
    Calls Try.prog 61 #[.pointer (some ⟨b, 0, none⟩), .int .i64 p] w fun e w' => e = .returned (.tuple #[]) ∧ BoxM w' M b (fallK K L p) none 0 0 [] ∧ Below M w w' := by
  have HB := Lib.hid hB
  have HL := Lib.hid hB.len
  have HLI := Lib.hid hli
  have q1 := hB.two.c1
  clear hB hli
  go_enter Try.func61, Try.ntmps61
  go_wp2
  clear q1
  go_loopw [10] (fun iv wr => ∃ k : Nat, k ≤ n ∧ iv = .int .i64 k ∧ Hid (BoxM wr M b K a n c (mixL p L k)) ∧ Hid (Below M w wr)) (fun iv _ => n - (intOf iv).toNat)
  case atStart => exact ⟨0, Nat.zero_le _, rfl, Lib.hid (by rw [mixL_zero]; exact HB.out), Lib.hid (Below.refl _ _)⟩
  case round =>
    obtain ⟨k, hk, rfl, HX, HW⟩ := hrel
    by_cases hlt : k < n
    · have hkl : Hid (k < L.length) := Lib.hid (by rw [HL.out]; exact hlt)
      obtain ⟨g, off, rfl, hg, d1, d2, d3⟩ := HX.out.src.cells3 k hlt
      obtain ⟨ad9, cap9, hv, _, _, hpl⟩ := ownE_form HX.out.own
      cases hv
      obtain ⟨g0, e0, hg0, hg1⟩ := hpl _ rfl
      cases e0
      have q1 := HX.out.two.c1
      have f3 := HX.out.own.frozenAt (k * 3 + 2)
      obtain ⟨pk, hpk⟩ : ∃ pk, pickB p k = pk := ⟨_, rfl⟩
      have X2 : Hid (BoxM (wr.setCell ⟨g, k * 3 + 2, none⟩ (.bool pk)) M b K (some ⟨g, 0, none⟩) n c (mixL p L (k + 1))) := Lib.hid (HX.out.stored (k * 3 + 2) (.bool pk) (by
        rw [set_flag pk (by rw [mixL_length]; exact hkl.out), mixL_at hkl.out, ← hpk, mixL_succ hkl.out]))
      have W2 : Hid (Below M w (wr.setCell ⟨g, k * 3 + 2, none⟩ (.bool pk))) := Lib.hid (HW.out.setCell hg0 _)
      have HPK := Lib.hid hpk
      simp only [Nat.zero_add] at d1 d2 d3
      clear hpl hpk
      go_wp2
      have hbit : (bits BinOp.and IntKind.i64 (p / 2 ^ min k 64) 1 == 1) = pk := by rw [pick_bit k hp hp2]; exact HPK.out
      go_still_tail 12, (by kernel_rfl)
      change wpList _ _ _ _ _ wr.drew
      have d3' : ∃ v3, wr.drew.cell? ⟨g, k * 3 + 2, none⟩ = some v3 := ⟨_, d3⟩
      have f3' : wr.drew.frozen? ⟨g, k * 3 + 2, none⟩ = false := f3
      go_wp2
      trace_state
      go_roundw
      case rel => exact ⟨k + 1, by omega, by go_num, Lib.hid (BoxM.drew X2.out), Lib.hid W2.out.drew⟩
      case measure => (simp [intOf]; try omega)
    · obtain rfl : k = n := by omega
      have hall : mixL p L k = fallL p 0 L := by rw [← mixL_all, HL.out]
      have X1 : Hid (BoxM wr M b K a k c (fallL p 0 L)) := Lib.hid (by rw [← hall]; exact HX.out)
      clear hall
      go_wp2_with fail
      refine (fence_any M b K a k c (fallL p 0 L) wr X1.out hn hK (fall_lies p HLI.out)).mono ?_
      rintro e w2 ⟨rfl, a2, n2, c2, hx2, hb2⟩
      have e0 := hx2.two.c0
      have e1 := hx2.two.c1
      have f1 := hx2.two.fr (o := 1)
      have X2 : Hid (BoxM (w2.setCell ⟨b, 1, none⟩ (.slice none 0 0)) M b (fallK K L p) none 0 0 []) := Lib.hid ⟨two_set1 hx2.two, nilC _ _, hx2.low, fun p hp => by cases hp⟩
      have W2 : Hid (Below M w (w2.setCell ⟨b, 1, none⟩ (.slice none 0 0))) := Lib.hid ((HW.out.trans hb2).setCell hx2.low _)
      clear hx2 hb2
      go_wp2
      exact end_void rfl rfl ⟨rfl, X2.out, W2.out⟩
end Go.Proofs.Ytpahihcnmpeenaa
namespace Go.Proofs.Ytpahihcnmpeenaa
open Go.RowKit Go.Proofs.Ytpahihcnmpeenaa.Parts Go.Proofs.Ytpahihcnmpeenaa.Hexa

noncomputable def fellB (K : ByteArray) (L : List C3) (p : Int) : Bool := memOkB K L && decide (0 ≤ p)
noncomputable def fallenK (K : ByteArray) (L : List C3) (p : Int) : ByteArray := if fellB K L p = true then fallK K L p else K
noncomputable def fallenL (K : ByteArray) (L : List C3) (p : Int) : List C3 := if fellB K L p = true then [] else L
theorem fellB_ok {K : ByteArray} {L : List C3} {p : Int} (h : MemOk K L) (h0 : 0 ≤ p) : fellB K L p = true := by unfold fellB; rw [memOkB_yes h, decide_eq_true h0]; rfl
theorem fellB_bad {K : ByteArray} {L : List C3} {p : Int} (h : ¬ MemOk K L) : fellB K L p = false := by unfold fellB; rw [memOkB_no h]; rfl
theorem fellB_neg {K : ByteArray} {L : List C3} {p : Int} (h0 : ¬ 0 ≤ p) : fellB K L p = false := by unfold fellB; rw [decide_eq_false h0]; simp
theorem fallenK_yes {K : ByteArray} {L : List C3} {p : Int} (h : fellB K L p = true) : fallenK K L p = fallK K L p := if_pos h
theorem fallenK_no {K : ByteArray} {L : List C3} {p : Int} (h : fellB K L p = false) : fallenK K L p = K := if_neg (by rw [h]; simp)
theorem fallenL_yes {K : ByteArray} {L : List C3} {p : Int} (h : fellB K L p = true) : fallenL K L p = [] := if_pos h
theorem fallenL_no {K : ByteArray} {L : List C3} {p : Int} (h : fellB K L p = false) : fallenL K L p = L := if_neg (by rw [h]; simp)
theorem keptTo_high (K : ByteArray) (L : List C3) (p : Int) (h0 : 0 ≤ p) (h1 : p ≤ 9223372036854775807) (hk : 63 ≤ L.length) : keptTo K (fallL p 0 L) 63 = fallK K L p := by
  have step : ∀ d, 63 + d ≤ L.length → keptTo K (fallL p 0 L) (63 + d) = keptTo K (fallL p 0 L) 63 := by
    intro d
    induction d with
    | zero => intro _; rfl
    | succ d ih =>
      intro hd
      have hf : ((fallL p 0 L).getD (63 + d) default).f = false := by
        rw [fallL_at p L 0 (63 + d) (by omega), Nat.zero_add]
        exact pickB_high h0 h1 (by omega)
      rw [show 63 + (d + 1) = (63 + d) + 1 by omega, keptTo_no (by rw [fallL_length]; omega) hf]
      exact ih (by omega)
  have := step (L.length - 63) (by omega)
  rw [show 63 + (L.length - 63) = (fallL p 0 L).length by rw [fallL_length]; omega, keptTo_all] at this
  exact this.symm
theorem fallenL_len (K : ByteArray) (L : List C3) (p : Int) : (fallenL K L p).length ≤ L.length + 1 := by
  unfold fallenL
  split
  · simp
  · omega

set_option maxRecDepth 100000 in
set_option maxHeartbeats 2000000 in
theorem implFall_any (K : ByteArray) (a : Option Addr) (n c : Nat) (L : List C3) (p : Int) (w : World) (hs : SrcC w a n L) (hn : n ≤ 1048600) (hK : K.size ≤ 1048600) (hF : FitT L 1048600) (hp2 : p ≤ 9223372036854775807) :
    Calls Try.prog 23 #[.agg #[.string K, .slice a n c], .int .i64 p] w (GivesM (fallenK K L p) (fallenL K L p) w) := by
  have HS := Lib.hid hs
  have HL := Lib.hid hs.len
  have HF := Lib.hid hF
  have hb0 : Below w.heap.size w ((w.alloc (.cells #[.string K, .slice a n c] 26)).alloc (.cells #[.string ⟨#[]⟩, .slice none 0 0] 26)) := ((Below.refl _ _).alloc (Nat.le_refl _) _).alloc (by simp) _
  have k0 : Two ((w.alloc (.cells #[.string K, .slice a n c] 26)).alloc (.cells #[.string ⟨#[]⟩, .slice none 0 0] 26)) w.heap.size (.string K) (.slice a n c) 26 := (Two.alloc w _ _ _).later (below_alloc _ _)
  have k1 : Two ((w.alloc (.cells #[.string K, .slice a n c] 26)).alloc (.cells #[.string ⟨#[]⟩, .slice none 0 0] 26)) (w.heap.size + 1) (.string ⟨#[]⟩) (.slice none 0 0) 26 := by
    have h := Two.alloc (w.alloc (.cells #[.string K, .slice a n c] 26)) (.string ⟨#[]⟩) (.slice none 0 0) 26
    simpa using h
  have k3 : ((w.alloc (.cells #[.string K, .slice a n c] 26)).alloc (.cells #[.string ⟨#[]⟩, .slice none 0 0] 26)).heap.size = w.heap.size + 2 := by simp
  have K0 := Lib.hid k0
  have K1 := Lib.hid k1
  have K3 := Lib.hid k3
  have B0 := Lib.hid hb0
  clear hs hF hb0 k0 k1 k3
  go_enter Try.func23, Try.ntmps23
  go_wp2_with fail
  obtain ⟨W2, hW⟩ : ∃ x, x = (w.alloc (.cells #[.string K, .slice a n c] 26)).alloc (.cells #[.string ⟨#[]⟩, .slice none 0 0] 26) := ⟨_, rfl⟩
  rw [← hW] at K0 K1 K3 B0 ⊢
  clear hW
  refine (memoryCopy_any K a n c L W2 (HS.out.later B0.out) hn hK HF.out).mono ?_
  rintro e w1 ⟨v, rfl, hown, hb1⟩
  rw [HL.out, K3.out] at hown
  obtain ⟨ad, cap, rfl, hnc, hcm, hpl⟩ := ownE_form hown
  have T3 := Lib.hid ((K0.out.later hb1).later (below_alloc w1 (.cells #[.string K, .slice ad n cap] 26)))
  have R3 := Lib.hid ((K1.out.later hb1).later (below_alloc w1 (.cells #[.string K, .slice ad n cap] 26)))
  have X3 : Hid (BoxM (w1.alloc (.cells #[.string K, .slice ad n cap] 26)) (w.heap.size + 2) w1.heap.size K ad n cap L) := Lib.hid ⟨Two.alloc w1 _ _ _, own_below hown (below_alloc w1 _), by have := hb1.size; rw [K3.out] at this; exact this, fun p hp => by
    obtain ⟨g, e, _, hg⟩ := hpl p hp
    rw [e]; exact Nat.ne_of_lt hg⟩
  have B3 : Hid (Below w.heap.size w (w1.alloc (.cells #[.string K, .slice ad n cap] 26))) := Lib.hid (B0.out.trans ((hb1.trans ((below_alloc w1 _).mono hb1.size)).mono B0.out.size))
  have c0 := T3.out.c0
  have c1 := T3.out.c1
  unfold maxLen at hcm
  clear hown hb1 hpl K0 K1
  go_wp2_with fail
  clear c0 c1
  obtain ⟨b, hb⟩ : ∃ b, w1.heap.size = b := ⟨_, rfl⟩
  obtain ⟨w3, h3⟩ : ∃ x, x = w1.alloc (.cells #[.string K, .slice ad n cap] 26) := ⟨_, rfl⟩
  rw [hb] at X3 ⊢
  rw [← h3] at X3 T3 R3 B3 ⊢
  clear hb h3
  refine (implOk_any K a n c L w3 (HS.out.later B3.out) hn hK).mono ?_
  rintro e w4 ⟨rfl, hb4⟩
  have R4 := Lib.hid (R3.out.later hb4)
  have X4 := Lib.hid (X3.out.later hb4)
  have B4 : Hid (Below w.heap.size w w4) := Lib.hid (B3.out.trans (hb4.mono B3.out.size))
  clear hb4
  by_cases hok : MemOk K L
  · rw [memOkB_yes hok]
    by_cases h0 : 0 ≤ p
    · have HOK := Lib.hid hok
      have HEK := Lib.hid (fallenK_yes (fellB_ok hok h0))
      have HE := Lib.hid (fallenL_yes (fellB_ok hok h0))
      clear hok
      go_wp2_with fail
      refine (fall_any (w.heap.size + 2) b K ad n cap L p w4 X4.out hn HOK.out.2.1 HOK.out.lies h0 hp2).mono ?_
      rintro e w5 ⟨rfl, hx5, hb5⟩
      have X5 := Lib.hid hx5
      have R5 : Hid (Two w5 (w.heap.size + 1) (.string ⟨#[]⟩) (.slice none 0 0) 26) := Lib.hid ((hb5.block _ (by omega)).trans R4.out)
      have B5 : Hid (Below w.heap.size w w5) := Lib.hid (B4.out.trans (hb5.mono (by omega)))
      clear hx5 hb5
      obtain ⟨FK, hFK⟩ : ∃ FK, fallK K L p = FK := ⟨_, rfl⟩
      rw [hFK] at X5 HEK
      clear hFK
      have c0 := X5.out.two.c0
      have c1 := X5.out.two.c1
      have r0 := R5.out.c0
      have r1 := R5.out.c1
      have f0 := R5.out.fr (o := 0)
      have f1 := R5.out.fr (o := 1)
      have q := two_set1 (two_set0 R5.out (x := .string FK)) (x := .slice none 0 0)
      have q0 := cell0_of_two q
      have q1 := cell1_of_two q
      have HG := Lib.hid (gives_box (w := w) (b2 := w.heap.size + 1) (u := .string FK) (v := .slice none 0 0) X5.out (by omega) B5.out (by omega) (fun p hp => by
        obtain ⟨ad9, cap9, hv9, _, _, hpl9⟩ := ownE_form X5.out.own
        cases hv9
        obtain ⟨g9, e9, h9, _⟩ := hpl9 p hp
        rw [e9]; show g9 ≠ w.heap.size + 1; omega))
      clear q
      go_wp2
      refine bodyPost_ret (v := .agg #[.string FK, .slice none 0 0]) ?_ rfl ⟨_, by rw [HEK.out], by rw [HE.out]; exact HG.out.1, HG.out.2⟩
      simp [results, Try.results23, go_sem, q0, q1]
    · have HEK := Lib.hid (fallenK_no (fellB_neg (K := K) (L := L) h0))
      have HE := Lib.hid (fallenL_no (fellB_neg (K := K) (L := L) h0))
      clear hok
      have c0 := X4.out.two.c0
      have c1 := X4.out.two.c1
      have r0 := R4.out.c0
      have r1 := R4.out.c1
      have f0 := R4.out.fr (o := 0)
      have f1 := R4.out.fr (o := 1)
      have q := two_set1 (two_set0 R4.out (x := .string K)) (x := .slice ad n cap)
      have q0 := cell0_of_two q
      have q1 := cell1_of_two q
      have HG := Lib.hid (gives_box (w := w) (b2 := w.heap.size + 1) (u := .string K) (v := .slice ad n cap) X4.out (by omega) B4.out (by omega) (fun p hp => by
        obtain ⟨ad9, cap9, hv9, _, _, hpl9⟩ := ownE_form X4.out.own
        cases hv9
        obtain ⟨g9, e9, h9, _⟩ := hpl9 p hp
        rw [e9]; show g9 ≠ w.heap.size + 1; omega))
      clear q
      go_wp2
      refine bodyPost_ret (v := .agg #[.string K, .slice ad n cap]) ?_ rfl ⟨_, by rw [HEK.out], by rw [HE.out]; exact HG.out.1, HG.out.2⟩
      simp [results, Try.results23, go_sem, q0, q1]
  · rw [memOkB_no hok]
    have HEK := Lib.hid (fallenK_no (fellB_bad (p := p) hok))
    have HE := Lib.hid (fallenL_no (fellB_bad (p := p) hok))
    clear hok
    have c0 := X4.out.two.c0
    have c1 := X4.out.two.c1
    have r0 := R4.out.c0
    have r1 := R4.out.c1
    have f0 := R4.out.fr (o := 0)
    have f1 := R4.out.fr (o := 1)
    have q := two_set1 (two_set0 R4.out (x := .string K)) (x := .slice ad n cap)
    have q0 := cell0_of_two q
    have q1 := cell1_of_two q
    have HG := Lib.hid (gives_box (w := w) (b2 := w.heap.size + 1) (u := .string K) (v := .slice ad n cap) X4.out (by omega) B4.out (by omega) (fun p hp => by
      obtain ⟨ad9, cap9, hv9, _, _, hpl9⟩ := ownE_form X4.out.own
      cases hv9
      obtain ⟨g9, e9, h9, _⟩ := hpl9 p hp
      rw [e9]; show g9 ≠ w.heap.size + 1; omega))
    clear q
    go_wp2
    refine bodyPost_ret (v := .agg #[.string K, .slice ad n cap]) ?_ rfl ⟨_, by rw [HEK.out], by rw [HE.out]; exact HG.out.1, HG.out.2⟩
    simp [results, Try.results23, go_sem, q0, q1]

set_option maxRecDepth 100000 in
set_option maxHeartbeats 2000000 in
theorem specFall_any (K : ByteArray) (a : Option Addr) (n c : Nat) (L : List C3) (p : Int) (w : World) (hs : SrcC w a n L) (hn : n ≤ 1048600) (hK : K.size ≤ 1048600) (hF : FitT L 1048600) (hp2 : p ≤ 9223372036854775807) :
    Calls Try.prog 27 #[.agg #[.string K, .slice a n c], .int .i64 p] w (GivesM (fallenK K L p) (fallenL K L p) w) := by
  have HS := Lib.hid hs
  have HL := Lib.hid hs.len
  have HF := Lib.hid hF
  have hb0 : Below w.heap.size w ((w.alloc (.cells #[.string K, .slice a n c] 26)).alloc (.cells #[.string ⟨#[]⟩, .slice none 0 0] 26)) := ((Below.refl _ _).alloc (Nat.le_refl _) _).alloc (by simp) _
  have k0 : Two ((w.alloc (.cells #[.string K, .slice a n c] 26)).alloc (.cells #[.string ⟨#[]⟩, .slice none 0 0] 26)) w.heap.size (.string K) (.slice a n c) 26 := (Two.alloc w _ _ _).later (below_alloc _ _)
  have k1 : Two ((w.alloc (.cells #[.string K, .slice a n c] 26)).alloc (.cells #[.string ⟨#[]⟩, .slice none 0 0] 26)) (w.heap.size + 1) (.string ⟨#[]⟩) (.slice none 0 0) 26 := by
    have h := Two.alloc (w.alloc (.cells #[.string K, .slice a n c] 26)) (.string ⟨#[]⟩) (.slice none 0 0) 26
    simpa using h
  have k3 : ((w.alloc (.cells #[.string K, .slice a n c] 26)).alloc (.cells #[.string ⟨#[]⟩, .slice none 0 0] 26)).heap.size = w.heap.size + 2 := by simp
  have K0 := Lib.hid k0
  have K1 := Lib.hid k1
  have K3 := Lib.hid k3
  have B0 := Lib.hid hb0
  clear hs hF hb0 k0 k1 k3
  go_enter Try.func27, Try.ntmps27
  go_wp2_with fail
  obtain ⟨W2, hW⟩ : ∃ x, x = (w.alloc (.cells #[.string K, .slice a n c] 26)).alloc (.cells #[.string ⟨#[]⟩, .slice none 0 0] 26) := ⟨_, rfl⟩
  rw [← hW] at K0 K1 K3 B0 ⊢
  clear hW
  refine (specOk_any K a n c L W2 (HS.out.later B0.out) hn hK).mono ?_
  rintro e w1 ⟨rfl, hb1⟩
  have T1 := Lib.hid (K0.out.later hb1)
  have R1 := Lib.hid (K1.out.later hb1)
  have B1 : Hid (Below w.heap.size w w1) := Lib.hid (B0.out.trans (hb1.mono B0.out.size))
  have S1 : Hid (w.heap.size + 2 ≤ w1.heap.size) := Lib.hid (by have := hb1.size; rw [K3.out] at this; exact this)
  clear hb1 K0 K1
  by_cases hok : MemOk K L
  · rw [memOkB_yes hok]
    by_cases h0 : 0 ≤ p
    · have HOK := Lib.hid hok
      have HLI := Lib.hid hok.lies
      have HEK := Lib.hid (fallenK_yes (fellB_ok hok h0))
      have HE := Lib.hid (fallenL_yes (fellB_ok hok h0))
      have hK16 := hok.2.1
      have h0' : ¬ (p < 0) := by omega
      clear hok
      have X3 : Hid (BoxM (w1.alloc (.cells #[.string K, .slice none 0 0] 26)) w1.heap.size w1.heap.size K none 0 0 []) := Lib.hid ⟨Two.alloc w1 _ _ _, nilC _ _, Nat.le_refl _, fun p hp => by cases hp⟩
      have B3 := Lib.hid (below_alloc w1 (.cells #[.string K, .slice none 0 0] 26))
      have z0 := T1.out.c0
      have z1 := T1.out.c1
      go_wp2
      clear z0 z1
      go_loopw [6] (fun iv wr => ∃ (k : Nat), k ≤ n ∧ k ≤ 63 ∧ iv = .int .i64 k ∧ Hid (BoxM wr w1.heap.size w1.heap.size (keptTo K (fallL p 0 L) k) none 0 0 []) ∧ Hid (Below w1.heap.size w1 wr)) (fun iv _ => n - (intOf iv).toNat)
      case atStart => exact ⟨0, Nat.zero_le _, by omega, rfl, Lib.hid (by rw [keptTo_zero]; exact X3.out), B3⟩
      case round =>
        clear X3 B3
        obtain ⟨k, hk, hk63, rfl, HX, HW⟩ := hrel
        have BW : Hid (Below w.heap.size w wr) := Lib.hid (B1.out.trans (HW.out.mono B1.out.size))
        have Tr : Hid (Two wr w.heap.size (.string K) (.slice a n c) 26) := Lib.hid (T1.out.later HW.out)
        have Rr : Hid (Two wr (w.heap.size + 1) (.string ⟨#[]⟩) (.slice none 0 0) 26) := Lib.hid (R1.out.later HW.out)
        have z1 := Tr.out.c1
        have x0 := HX.out.two.c0
        have x1 := HX.out.two.c1
        by_cases hlt : k < n ∧ k < 63
        · have hlt1 := hlt.1
          have hlt2 := hlt.2
          clear hlt
          have hkl : Hid (k < L.length) := Lib.hid (by rw [HL.out]; exact hlt1)
          have hkf : Hid (k < (fallL p 0 L).length) := Lib.hid (by rw [fallL_length]; exact hkl.out)
          obtain ⟨g, off, rfl, hg, d1, d2, d3⟩ := HS.out.cells3_at BW.out (Nat.le_refl _) k hlt1
          obtain ⟨x, hx⟩ : ∃ x, L.getD k default = x := ⟨_, rfl⟩
          rw [hx] at d1 d2 d3
          have hlx := HLI.out k hkl.out
          rw [hx] at hlx
          have HFX : Hid ((fallL p 0 L).getD k default = ⟨x.l, x.t, pickB p k⟩) := Lib.hid (by rw [fallL_at p L 0 k hkl.out, hx, Nat.zero_add])
          have HLX := Lib.hid hlx
          have hbit := pick_bit (p := p) k h0 hp2
          have hmin : min k 64 = k := by omega
          rw [hmin] at hbit
          clear hx hlx hmin
          cases hf : pickB p k with
          | true =>
            rw [hf] at hbit HFX
            obtain ⟨KT, hKT⟩ : ∃ KT, keptTo K (fallL p 0 L) k = KT := ⟨_, rfl⟩
            have hKs : KT.size = K.size := by rw [← hKT]; exact keptTo_size (fall_lies p HLI.out) k (by have := hkf.out; omega)
            have HKn : Hid (keptTo K (fallL p 0 L) (k + 1) = keepB KT x) := Lib.hid (by rw [keptTo_yes hkf.out (by rw [HFX.out]), hKT, HFX.out]; rfl)
            rw [hKT] at HX x0
            have HKS := Lib.hid hKs
            clear hf hKT hKs
            go_wp2
            go_still_tail 7, (by kernel_rfl)
            change wpList _ _ _ _ _ wr.drew
            go_wp2_with fail
            refine (specKeep_any KT x x.l.toNat wr.drew (by have := HLX.out.1; omega) (by rw [HKS.out]; have := HLX.out; omega) (by rw [HKS.out]; exact hK16) HLX.out.2.2).mono ?_
            rintro e w2 ⟨rfl, hb2⟩
            have X5 := Lib.hid (HX.out.drew0.later hb2)
            have y0 := X5.out.two.c0
            have y2 := X5.out.two.fr (o := 0)
            have X6 : Hid (BoxM (w2.setCell ⟨w1.heap.size, 0, none⟩ (.string (keepB KT x))) w1.heap.size w1.heap.size (keptTo K (fallL p 0 L) (k + 1)) none 0 0 []) := Lib.hid (by rw [HKn.out]; exact X5.out.set0 _)
            have W6 : Hid (Below w1.heap.size w1 (w2.setCell ⟨w1.heap.size, 0, none⟩ (.string (keepB KT x)))) := Lib.hid ((HW.out.drew.trans (hb2.mono HW.out.size)).setCell (Nat.le_refl _) _)
            clear hb2 x0 x1 z1 d1 d2 d3
            go_wp2
            go_roundw
            case rel => exact ⟨k + 1, by omega, by omega, by go_num, X6, W6⟩
            case measure => (simp [intOf]; try omega)
          | false =>
            rw [hf] at hbit HFX
            have X6 : Hid (BoxM wr w1.heap.size w1.heap.size (keptTo K (fallL p 0 L) (k + 1)) none 0 0 []) := Lib.hid (by rw [keptTo_no hkf.out (by rw [HFX.out])]; exact HX.out)
            clear hf
            go_wp2
            go_roundw
            case rel => exact ⟨k + 1, by omega, by omega, by go_num, X6, HW⟩
            case measure => (simp [intOf]; try omega)
        · have hfin : keptTo K (fallL p 0 L) k = fallK K L p := by
            have hkn : k = n ∨ k = 63 := by omega
            rcases hkn with e | e
            · subst e
              rw [show k = (fallL p 0 L).length by rw [fallL_length, HL.out], keptTo_all]; rfl
            · subst e
              exact keptTo_high K L p h0 hp2 (by rw [HL.out]; exact hk)
          obtain ⟨FK, hFK⟩ : ∃ FK, fallK K L p = FK := ⟨_, rfl⟩
          rw [hfin, hFK] at HX
          rw [hFK] at HEK
          have hbH := S1.out
          clear hfin hFK x0 x1
          by_cases hkn : k = n
          · subst hkn
            clear hlt
            have c0 := HX.out.two.c0
            have c1 := HX.out.two.c1
            have r0 := Rr.out.c0
            have r1 := Rr.out.c1
            have f0 := Rr.out.fr (o := 0)
            have f1 := Rr.out.fr (o := 1)
            have q := two_set1 (two_set0 Rr.out (x := .string FK)) (x := .slice none 0 0)
            have q0 := cell0_of_two q
            have q1 := cell1_of_two q
            have HG := Lib.hid (gives_box (w := w) (b2 := w.heap.size + 1) (u := .string FK) (v := .slice none 0 0) HX.out (by omega) BW.out (by omega) (fun p hp => by
              obtain ⟨ad9, cap9, hv9, _, _, hpl9⟩ := ownE_form HX.out.own
              cases hv9
              obtain ⟨g9, e9, h9, _⟩ := hpl9 p hp
              rw [e9]; show g9 ≠ w.heap.size + 1; omega))
            clear q
            go_wp2
            refine bodyPost_ret (v := .agg #[.string FK, .slice none 0 0]) ?_ rfl ⟨_, by rw [HEK.out], by rw [HE.out]; exact HG.out.1, HG.out.2⟩
            simp [results, Try.results27, go_sem, q0, q1]
          · obtain rfl : k = 63 := by omega
            have hlt3 : (63 : Int) < (n : Int) := by omega
            clear hlt
            have c0 := HX.out.two.c0
            have c1 := HX.out.two.c1
            have r0 := Rr.out.c0
            have r1 := Rr.out.c1
            have f0 := Rr.out.fr (o := 0)
            have f1 := Rr.out.fr (o := 1)
            have q := two_set1 (two_set0 Rr.out (x := .string FK)) (x := .slice none 0 0)
            have q0 := cell0_of_two q
            have q1 := cell1_of_two q
            have HG := Lib.hid (gives_box (w := w) (b2 := w.heap.size + 1) (u := .string FK) (v := .slice none 0 0) HX.out (by omega) BW.out (by omega) (fun p hp => by
              obtain ⟨ad9, cap9, hv9, _, _, hpl9⟩ := ownE_form HX.out.own
              cases hv9
              obtain ⟨g9, e9, h9, _⟩ := hpl9 p hp
              rw [e9]; show g9 ≠ w.heap.size + 1; omega))
            clear q
            go_wp2
            refine bodyPost_ret (v := .agg #[.string FK, .slice none 0 0]) ?_ rfl ⟨_, by rw [HEK.out], by rw [HE.out]; exact HG.out.1, HG.out.2⟩
            simp [results, Try.results27, go_sem, q0, q1]
    · have HEK := Lib.hid (fallenK_no (fellB_neg (K := K) (L := L) h0))
      have HE := Lib.hid (fallenL_no (fellB_neg (K := K) (L := L) h0))
      have h0' : p < 0 := by omega
      clear hok
      have z0 := T1.out.c0
      have z1 := T1.out.c1
      go_wp2_with fail
      clear z0 z1
      refine (specCopy_any K a n c L w1 (HS.out.later B1.out) hn).mono ?_
      rintro e w2 ⟨v, rfl, hown, hb2⟩
      obtain ⟨ad, cap, rfl, hnc, hcm, hpl⟩ := ownE_form hown
      have R2 := Lib.hid (R1.out.later hb2)
      have B2 : Hid (Below w.heap.size w w2) := Lib.hid (B1.out.trans (hb2.mono B1.out.size))
      have O2 := Lib.hid hown
      have r0 := R2.out.c0
      have r1 := R2.out.c1
      have f0 := R2.out.fr (o := 0)
      have f1 := R2.out.fr (o := 1)
      have q := two_set1 (two_set0 R2.out (x := .string K)) (x := .slice ad L.length cap)
      have q0 := cell0_of_two q
      have q1 := cell1_of_two q
      clear q hown hb2 hpl hcm hnc
      go_wp2
      refine bodyPost_ret (v := .agg #[.string K, .slice ad L.length cap]) ?_ rfl ⟨_, by rw [HEK.out], ?_, (B2.out.setCell (by simp) _).setCell (by simp) _⟩
      · simp [results, Try.results27, go_sem, q0, q1]
      · rw [HE.out]
        have hne : ∀ g, (Value.slice ad L.length cap).ownBlock = some g → w.heap.size + 2 ≤ g := fun g hg => Nat.le_trans S1.out (O2.out.lt g hg).1
        exact ownsRow_setCell_other (ownsRow_setCell_other (ownE_mono O2.out B1.out.size) (fun h => by have := hne _ h; simp at this) _) (fun h => by have := hne _ h; simp at this) _
  · rw [memOkB_no hok]
    have HEK := Lib.hid (fallenK_no (fellB_bad (p := p) hok))
    have HE := Lib.hid (fallenL_no (fellB_bad (p := p) hok))
    clear hok
    have z0 := T1.out.c0
    have z1 := T1.out.c1
    go_wp2_with fail
    clear z0 z1
    refine (specCopy_any K a n c L w1 (HS.out.later B1.out) hn).mono ?_
    rintro e w2 ⟨v, rfl, hown, hb2⟩
    obtain ⟨ad, cap, rfl, hnc, hcm, hpl⟩ := ownE_form hown
    have R2 := Lib.hid (R1.out.later hb2)
    have B2 : Hid (Below w.heap.size w w2) := Lib.hid (B1.out.trans (hb2.mono B1.out.size))
    have O2 := Lib.hid hown
    have r0 := R2.out.c0
    have r1 := R2.out.c1
    have f0 := R2.out.fr (o := 0)
    have f1 := R2.out.fr (o := 1)
    have q := two_set1 (two_set0 R2.out (x := .string K)) (x := .slice ad L.length cap)
    have q0 := cell0_of_two q
    have q1 := cell1_of_two q
    clear q hown hb2 hpl hcm hnc
    go_wp2
    refine bodyPost_ret (v := .agg #[.string K, .slice ad L.length cap]) ?_ rfl ⟨_, by rw [HEK.out], ?_, (B2.out.setCell (by simp) _).setCell (by simp) _⟩
    · simp [results, Try.results27, go_sem, q0, q1]
    · rw [HE.out]
      have hne : ∀ g, (Value.slice ad L.length cap).ownBlock = some g → w.heap.size + 2 ≤ g := fun g hg => Nat.le_trans S1.out (O2.out.lt g hg).1
      exact ownsRow_setCell_other (ownsRow_setCell_other (ownE_mono O2.out B1.out.size) (fun h => by have := hne _ h; simp at this) _) (fun h => by have := hne _ h; simp at this) _
end Go.Proofs.Ytpahihcnmpeenaa
