/- The program's ShaBlock. -/
import Derived.Test.YtbojcphcjggccaaDoorShaWords
import Derived.Test.YtbojcphcjggccaaDoorIntsAt
import Derived.Laws.Cover3
namespace Go.Proofs.YtbojcphcjggccaaDoor
open Go.RowKit Go.Proofs.YtbojcphcjggccaaDoor.Sha Go.Proofs.YtbojcphcjggccaaDoor.Hexa Go.Proofs.YtbojcphcjggccaaDoor.Parts

/-- A slice of the call's own that holds these ints. -/
def GivesL (L : List Int) (w : World) (e : Ending) (w' : World) : Prop :=
  ∃ v, e = .returned v ∧ w'.ownsRow w.heap.size 3 1 v L.length (icells L) ∧ Below w.heap.size w w'

theorem icells_one (zs : List Int) : ∀ u ∈ icells zs, u.oneCell' = true := by
  intro u hu
  simp only [icells, List.mem_map] at hu
  obtain ⟨z, _, rfl⟩ := hu
  rfl
theorem IntsAt.news {w : World} {g n : Nat} {zs : List Int} (h : IntsAt w g n zs) : ∀ j u, (icells zs)[j]? = some u → w.cell? ((⟨g, 0, none⟩ : Addr).add j) = some u := by
  intro j u hu
  have hj : j < zs.length := by
    rcases Nat.lt_or_ge j zs.length with h' | h'
    · exact h'
    · rw [List.getElem?_eq_none (by rw [icells_length]; exact h')] at hu; cases hu
  have hadd : (⟨g, 0, none⟩ : Addr).add j = ⟨g, j, none⟩ := by unfold Addr.add; split <;> simp_all
  rw [hadd, h.cell j (by have := h.len; omega), ← hu]
  simp [icells, List.getD, hj]

set_option maxRecDepth 100000 in
set_option maxHeartbeats 1000000 in
theorem clone_any (g n c : Nat) (zs : List Int) (w : World) (hI : IntsAt w g n zs) (hn : n ≤ 10000000) :
    Calls Tryd.prog 26 #[.slice (some ⟨g, 0, none⟩) n c] w (GivesL zs w) := by
  obtain ⟨i0, hi, hz0, hz1, hz2⟩ := info_parts infoInt
  have HI := Lib.hid (hI.later ((Below.refl _ _).alloc (Nat.le_refl _) (.cells #[] 3)))
  have hl := hI.len
  clear hI
  unfold GivesL
  rw [hl]
  have HL := Lib.hid hl
  clear hl
  have heq : (binOp .eql 26 (.slice (some ⟨g, 0, none⟩) n c) (.slice none 0 0)).run Tryd.prog w = .ok (.bool false) w := by
    have := run_equal_slice_nil (P := Tryd.prog) w 26 3 (some ⟨g, 0, none⟩) n c Tryd.underlying26
    simp [binOp, this]
  go_enter Tryd.func26, Tryd.ntmps26
  go_wp2_with (at_builtin; refine wpList_append_own _ rfl (.tmp 5) (.tmp 6) 26 rfl w.heap.size 3 i0 (.int .i64 0) 1 8 Tryd.underlying26 hi hz0 hz1 hz2 rfl (by decide) _ 0 [] rfl (World.ownsRow_lit w #[] 0 (Nat.le_refl _) (by decide) rfl) ⟨g, 0, none⟩ n c (icells zs) rfl (by rw [icells_length, HL.out]; omega) HI.out.news (icells_one zs) (by unfold maxLen; omega) (by omega) (by simp) ?_; intro v2 w2 hown2 hgrow2 hn2)
  have hb2 : Below w.heap.size w w2 := ((Below.refl w.heap.size w).alloc (Nat.le_refl _) (.cells #[] 3)).grown hgrow2 (by simp) (own_block_ge (World.ownsRow_lit (e := 3) (size := 1) (base := w.heap.size) w #[] 0 (Nat.le_refl _) (by decide) rfl))
  go_ret
  exact ⟨v2, rfl, by simpa using hown2, hb2⟩

/-- A state stored into a variable of the program's own type. -/
theorem laid_rowW (w1 : World) {st : Array Value} (hss : st.size = 8) (hso : ∀ v ∈ st.toList, v.oneCell' = true) :
    ∃ W2 : World, (storeCells ⟨w1.heap.size, 0, none⟩ st.toList 0).run Tryd.prog (w1.alloc (.cells (zeros 8) 45)) = .ok () W2 ∧ W2.heap[w1.heap.size]? = some (.cells st 45 (0, 0)) ∧ W2.heap.size = w1.heap.size + 1 ∧ Below w1.heap.size w1 W2 := by
  have r1 := run_storeCells_from (P := Tryd.prog) w1.heap.size 45 st.toList 0 (zeros 8) _ (heap_alloc_new w1 (.cells (zeros 8) 45)) (by simp [zeros, wcells, hss]) hso
  simp at r1
  exact ⟨_, r1, setRow_heap _ _ _ _ _ _ (heap_alloc_new w1 _), by simp, ((Below.refl _ _).alloc (Nat.le_refl _) _).trans ⟨rfl, rfl, rfl, by simp, fun k hk => setRow_other _ _ _ _ (by omega)⟩⟩

set_option maxRecDepth 100000 in
set_option maxHeartbeats 2000000 in
theorem implBlock_good (g c : Nat) (zs : List Int) (b : ByteArray) (w : World) (hI : IntsAt w g 8 zs) (hG : Good zs) (hb : b.size = 64) (hk : IsTab w 1 keyL) :
    Calls Tryd.prog 9 #[.slice (some ⟨g, 0, none⟩) 8 c, .string b] w (GivesL (ints (blockS (stOf zs) keyL b)) w) := by
  have k1 := Lib.hid (wordsOf_any (some ⟨g, 0, none⟩) 8 c zs w hG.1 hI.reads (by omega) (fun g' e _ => by cases e; exact hI.lt))
  have HG := Lib.hid hG
  have HB := Lib.hid hb
  have HK := Lib.hid hk
  clear hI hG hk
  obtain ⟨st, hst⟩ : ∃ st, (stOf zs).cells = st := ⟨_, rfl⟩
  have s8 : Hid (st.size = 8) := Lib.hid (by rw [← hst]; rfl)
  have s1 : Hid (∀ v ∈ st.toList, v.oneCell' = true) := Lib.hid (by rw [← hst]; exact wcells_one (stOf zs).list)
  have HST := Lib.hid hst
  clear hst
  go_enter Tryd.func9, Tryd.ntmps9
  go_wp2_with (first
    | (refine wpList_allocRow rfl 45 rfl (zeros 8) run_allocW ?_)
    | (go_at_call 25; refine k1.out.mono ?_; rintro e w1 ⟨hcase, hb1⟩
       obtain ⟨_, rfl⟩ | ⟨hno, _⟩ := hcase
       rotate_left
       · exact absurd HG.out hno
       rw [HST.out]
       obtain ⟨W2, r1, m2, z2, b2⟩ := laid_rowW w1 s8.out s1.out
       have B2 : Hid (Below w.heap.size w W2) := Lib.hid (hb1.trans (b2.mono hb1.size))
       clear z2 b2 hb1)
    | (refine wpList_load_row rfl 45 (.tmp 5) rfl w1.heap.size rfl 45 st (0, 0) _ m2 Tryd.underlying45 rfl (by rw [s8.out]; kernel_rfl) ?_)
    | (go_at_call 27; rw [← HST.out]; refine (after_any (stOf zs) b _ HB.out (HK.out.below HK.out.lt B2.out)).mono ?_; rintro e w3 ⟨rfl, hb3⟩
       have B3 := Lib.hid hb3
       clear hb3)
    | (go_at_call 24; refine (numbers_any _ _).mono ?_; rintro e w4 ⟨v4, rfl, hown4, hb4⟩))
  go_ret
  have hsz : w.heap.size ≤ w3.heap.size := Nat.le_trans B2.out.size B3.out.size
  exact ⟨v4, rfl, own_lower hown4 hsz, B2.out.trans ((B3.out.trans (hb4.mono B3.out.size)).mono B2.out.size)⟩

set_option maxRecDepth 100000 in
set_option maxHeartbeats 2000000 in
theorem implBlock_bad (g n c : Nat) (zs : List Int) (b : ByteArray) (w : World) (hI : IntsAt w g n zs) (hn : n ≤ 10000000) (hG : ¬ (Good zs ∧ b.size = 64)) :
    Calls Tryd.prog 9 #[.slice (some ⟨g, 0, none⟩) n c, .string b] w (GivesL zs w) := by
  have k1 := Lib.hid (wordsOf_any (some ⟨g, 0, none⟩) n c zs w hI.len hI.reads (by omega) (fun g' e _ => by cases e; exact hI.lt))
  have HI := Lib.hid hI
  have HG := Lib.hid hG
  clear hI hG
  by_cases hgood : Good zs
  · have hbs : b.size ≠ 64 := fun h => HG.out ⟨hgood, h⟩
    obtain ⟨st, hst⟩ : ∃ st, (stOf zs).cells = st := ⟨_, rfl⟩
    have s8 : Hid (st.size = 8) := Lib.hid (by rw [← hst]; rfl)
    have s1 : Hid (∀ v ∈ st.toList, v.oneCell' = true) := Lib.hid (by rw [← hst]; exact wcells_one (stOf zs).list)
    have HST := Lib.hid hst
    have HGD := Lib.hid hgood
    clear hst hgood
    go_enter Tryd.func9, Tryd.ntmps9
    go_wp2_with (first
      | (refine wpList_allocRow rfl 45 rfl (zeros 8) run_allocW ?_)
      | (go_at_call 25; refine k1.out.mono ?_; rintro e w1 ⟨hcase, hb1⟩
         obtain ⟨_, rfl⟩ | ⟨hno, _⟩ := hcase
         rotate_left
         · exact absurd HGD.out hno
         rw [HST.out]
         obtain ⟨W2, r1, m2, z2, b2⟩ := laid_rowW w1 s8.out s1.out
         have B2 : Hid (Below w.heap.size w W2) := Lib.hid (hb1.trans (b2.mono hb1.size))
         clear z2 b2 hb1 m2)
      | (go_at_call 26; refine (clone_any g n c zs _ (HI.out.later B2.out) (by omega)).mono ?_; rintro e w4 ⟨v4, rfl, hown4, hb4⟩))
    go_ret
    exact ⟨v4, rfl, own_lower hown4 B2.out.size, B2.out.trans (hb4.mono B2.out.size)⟩
  · have s1 : Hid (∀ v ∈ (zeros 8).toList, v.oneCell' = true) := Lib.hid (wcells_one (List.replicate 8 0))
    have HGD := Lib.hid hgood
    clear hgood
    go_enter Tryd.func9, Tryd.ntmps9
    go_wp2_with (first
      | (refine wpList_allocRow rfl 45 rfl (zeros 8) run_allocW ?_)
      | (go_at_call 25; refine k1.out.mono ?_; rintro e w1 ⟨hcase, hb1⟩
         obtain ⟨hyes, _⟩ | ⟨_, rfl⟩ := hcase
         · exact absurd hyes HGD.out
         obtain ⟨W2, r1, m2, z2, b2⟩ := laid_rowW w1 rfl s1.out
         have B2 : Hid (Below w.heap.size w W2) := Lib.hid (hb1.trans (b2.mono hb1.size))
         clear z2 b2 hb1 m2)
      | (go_at_call 26; refine (clone_any g n c zs _ (HI.out.later B2.out) (by omega)).mono ?_; rintro e w4 ⟨v4, rfl, hown4, hb4⟩))
    go_ret
    exact ⟨v4, rfl, own_lower hown4 B2.out.size, B2.out.trans (hb4.mono B2.out.size)⟩
end Go.Proofs.YtbojcphcjggccaaDoor
