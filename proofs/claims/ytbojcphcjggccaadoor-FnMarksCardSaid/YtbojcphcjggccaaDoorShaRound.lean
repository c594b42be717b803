/- The program's round of SHA-256. -/
import Derived.Test.YtbojcphcjggccaaDoorShaBits
namespace Go.Proofs.YtbojcphcjggccaaDoor
open Go.RowKit Go.Proofs.YtbojcphcjggccaaDoor.Sha

/-- A round, the two words that it adds being summed ahead. -/
def rndA (s : St8) (x : UInt32) : St8 :=
  ⟨s.h + bigE s.e + chF s.e s.f s.g + x + (bigA s.a + majF s.a s.b s.c), s.a, s.b, s.c, s.d + (s.h + bigE s.e + chF s.e s.f s.g + x), s.e, s.f, s.g⟩
theorem rndA_eq (s : St8) (key word : UInt32) : rndA s (word + key) = rnd s key word := by
  have e : s.h + bigE s.e + chF s.e s.f s.g + (word + key) = s.h + bigE s.e + chF s.e s.f s.g + key + word := by
    rw [UInt32.add_comm word key, UInt32.add_assoc (s.h + bigE s.e + chF s.e s.f s.g) key word]
  unfold rndA rnd
  rw [e]

theorem run_allocW (W : World) : (Instr.alloc 45 true (.tuple #[])).run Tryd.prog W = .ok (.pointer (some ⟨W.heap.size, 0, none⟩)) (W.alloc (.cells (zeros 8) 45)) := by kernel_rfl

theorem eight_up {w : World} {q : Nat} {cs : Array Value} {t : TypeId} (h : w.heap[q]? = some (.cells cs t (0, 0))) (hs : cs.size = 8) (v0 v1 v2 v3 v4 v5 v6 v7 : Value) :
    ((((((((w.setCell ⟨q, 0, none⟩ v0).setCell ⟨q, 1, none⟩ v1).setCell ⟨q, 2, none⟩ v2).setCell ⟨q, 3, none⟩ v3).setCell ⟨q, 4, none⟩ v4).setCell ⟨q, 5, none⟩ v5).setCell ⟨q, 6, none⟩ v6).setCell ⟨q, 7, none⟩ v7).heap[q]? = some (.cells #[v0, v1, v2, v3, v4, v5, v6, v7] t (0, 0)) := by
  have e : (((((((((cs.setIfInBounds 0 v0).setIfInBounds 1 v1).setIfInBounds 2 v2).setIfInBounds 3 v3).setIfInBounds 4 v4).setIfInBounds 5 v5).setIfInBounds 6 v6).setIfInBounds 7 v7)) = #[v0, v1, v2, v3, v4, v5, v6, v7] := by
    apply Array.ext
    · simp [hs]
    · intro i h1 h2
      have : i < 8 := by simpa using h2
      rcases i with _ | _ | _ | _ | _ | _ | _ | _ | i
      all_goals first | (simp [hs]; done) | omega
  rw [← e]
  exact heap_setCell_same _ q 7 _ t v7 (heap_setCell_same _ q 6 _ t v6 (heap_setCell_same _ q 5 _ t v5 (heap_setCell_same _ q 4 _ t v4 (heap_setCell_same _ q 3 _ t v3 (heap_setCell_same _ q 2 _ t v2 (heap_setCell_same _ q 1 _ t v1 (heap_setCell_same w q 0 cs t v0 h)))))))
theorem eight_below {w W : World} {q : Nat} (h : Below w.heap.size w W) (hq : w.heap.size ≤ q) (v0 v1 v2 v3 v4 v5 v6 v7 : Value) :
    Below w.heap.size w ((((((((W.setCell ⟨q, 0, none⟩ v0).setCell ⟨q, 1, none⟩ v1).setCell ⟨q, 2, none⟩ v2).setCell ⟨q, 3, none⟩ v3).setCell ⟨q, 4, none⟩ v4).setCell ⟨q, 5, none⟩ v5).setCell ⟨q, 6, none⟩ v6).setCell ⟨q, 7, none⟩ v7) :=
  (((((((h.setCell hq v0).setCell hq v1).setCell hq v2).setCell hq v3).setCell hq v4).setCell hq v5).setCell hq v6).setCell hq v7
theorem add4 (a b c d : UInt32) : (u a + u b + u c + u d) % 4294967296 = u (a + b + c + d) := by
  rw [← add_u, ← add_u, ← add_u]; omega
theorem add3r (a b c d : UInt32) : (u a + (u b + u c + u d)) % 4294967296 = u (a + (b + c + d)) := by
  rw [← add_u, ← add_u, ← add_u]; omega
theorem max_xor (x : UInt32) : bits .xor .u32 IntKind.u32.max (u x) = u (x ^^^ 4294967295) := by
  have := xor_u 4294967295 x
  rw [UInt32.xor_comm] at this
  exact this

set_option maxRecDepth 100000 in
set_option maxHeartbeats 2000000 in
theorem round_any (S : St8) (x : UInt32) (w : World) :
    Calls Tryd.prog 42 #[.agg S.cells, .int .u32 (u x)] w fun e w' => e = .returned (.agg (rndA S x).cells) ∧ Below w.heap.size w w' := by
  have xo := xor_u
  have xc := max_xor
  have an := and_u
  have ad := add_u
  have adw := add_w
  have HB := heap_alloc_new w (.cells S.cells 45)
  have HB2 := Below.heap_alloc (w.alloc (.cells S.cells 45)) (.cells (zeros 8) 45) w.heap.size (by simp)
  rw [HB] at HB2
  have HZ := heap_alloc_new (w.alloc (.cells S.cells 45)) (.cells (zeros 8) 45)
  simp only [World.size_alloc] at HZ
  have HW : Below w.heap.size w ((w.alloc (.cells S.cells 45)).alloc (.cells (zeros 8) 45)) := ((Below.refl _ _).alloc (Nat.le_refl _) _).alloc (by simp) _
  have H1 := Lib.hid HB2
  have H2 := Lib.hid HZ
  have H3 := Lib.hid HW
  clear HB HB2 HZ HW
  go_enter Tryd.func42, Tryd.ntmps42
  go_wp2_with (first
    | (refine wpList_allocRow rfl 45 rfl (zeros 8) run_allocW ?_))
  generalize (w.alloc (.cells S.cells 45)).alloc (.cells (zeros 8) 45) = W at H1 H2 H3 ⊢
  have N := H1.out
  have d0 : W.cell? ⟨w.heap.size, 0, none⟩ = some (.int .u32 (u S.a)) := by simp [World.cell?, N, St8.cells]
  have d1 : W.cell? ⟨w.heap.size, 1, none⟩ = some (.int .u32 (u S.b)) := by simp [World.cell?, N, St8.cells]
  have d2 : W.cell? ⟨w.heap.size, 2, none⟩ = some (.int .u32 (u S.c)) := by simp [World.cell?, N, St8.cells]
  have d3 : W.cell? ⟨w.heap.size, 3, none⟩ = some (.int .u32 (u S.d)) := by simp [World.cell?, N, St8.cells]
  have d4 : W.cell? ⟨w.heap.size, 4, none⟩ = some (.int .u32 (u S.e)) := by simp [World.cell?, N, St8.cells]
  have d5 : W.cell? ⟨w.heap.size, 5, none⟩ = some (.int .u32 (u S.f)) := by simp [World.cell?, N, St8.cells]
  have d6 : W.cell? ⟨w.heap.size, 6, none⟩ = some (.int .u32 (u S.g)) := by simp [World.cell?, N, St8.cells]
  have d7 : W.cell? ⟨w.heap.size, 7, none⟩ = some (.int .u32 (u S.h)) := by simp [World.cell?, N, St8.cells]
  clear N
  go_quiet (fail)
  go_wp2
  go_quiet (fail)
  have fz : ∀ j, W.frozen? ⟨w.heap.size + 1, j, none⟩ = false := fun j => free_words H2.out j
  have hz : ∀ j, j < 8 → W.cell? ⟨w.heap.size + 1, j, none⟩ = some (.int .u32 (u 0)) := fun j hj => by
    rw [cell_words (xs := List.replicate 8 0) H2.out j (by simpa using hj), List.getElem_replicate]
  have z0 := hz 0 (by decide)
  have z1 := hz 1 (by decide)
  have z2 := hz 2 (by decide)
  have z3 := hz 3 (by decide)
  have z4 := hz 4 (by decide)
  have z5 := hz 5 (by decide)
  have z6 := hz 6 (by decide)
  have z7 := hz 7 (by decide)
  clear hz
  go_wp2_with (first
    | (go_at_call 61; refine (spread_any _ _ _ _ _ (by decide) (by decide) (by decide) (by decide) (by decide) (by decide)).mono ?_; rintro e w1 ⟨rfl, rfl⟩))
  (try simp only [Exit.inBlock, Exit.then])
  refine bodyPost_ret (results_cell_row rfl _ _ (w.heap.size + 1) 45 _ (0, 0) _ rfl (eight_up (w := W.drewN _) H2.out (by simp [zeros, wcells]) _ _ _ _ _ _ _ _) Tryd.underlying45 rfl (by kernel_rfl)) rfl ?_
  exact ⟨by rw [add4, add3r]; rfl, eight_below (W := W.drewN _) ⟨H3.out.os, H3.out.tape, H3.out.output, H3.out.size, H3.out.block⟩ (by omega) _ _ _ _ _ _ _ _⟩
end Go.Proofs.YtbojcphcjggccaaDoor
