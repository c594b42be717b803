/- The program's schedule of SHA-256. -/
import Derived.Test.YtbojcphcjggccaaDoorShaRound
namespace Go.Proofs.YtbojcphcjggccaaDoor
open Go.RowKit Go.Proofs.YtbojcphcjggccaaDoor.Sha

/-- The 64 words of a block's schedule. -/
def schL (s : ByteArray) : List UInt32 := (List.range 64).map (sch s)
theorem schL_length (s : ByteArray) : (schL s).length = 64 := by simp [schL]
theorem schL_of {xs : List UInt32} {s : ByteArray} (hl : xs.length = 64) (h : ∀ j, j < 64 → xs[j]? = some (sch s j)) : xs = schL s := by
  apply List.ext_getElem?
  intro j
  by_cases hj : j < 64
  · rw [h j hj]; simp [schL, hj]
  · rw [List.getElem?_eq_none (by omega), List.getElem?_eq_none (by rw [schL_length]; omega)]

/-- The two blocks of the call: the result, the schedule. -/
def Mem2 (w wr : World) (ws : Array Value) : Prop :=
  wr.heap[w.heap.size]? = some (.cells (zeros 64) 67 (0, 0)) ∧ wr.heap[w.heap.size + 1]? = some (.cells ws 67 (0, 0)) ∧ Below w.heap.size w wr
theorem mem2_start (w : World) (ws : Array Value) : Mem2 w ((w.alloc (.cells (zeros 64) 67)).alloc (.cells ws 67)) ws := by
  have n1 := heap_alloc_new w (.cells (zeros 64) 67)
  have n2 := heap_alloc_new (w.alloc (.cells (zeros 64) 67)) (.cells ws 67)
  simp only [World.size_alloc] at n2
  refine ⟨?_, n2, ((Below.refl _ _).alloc (Nat.le_refl _) _).alloc (by simp) _⟩
  rw [Below.heap_alloc _ _ _ (by simp)]; exact n1
theorem mem2_set {w wr : World} {ws : Array Value} (h : Mem2 w wr ws) {xs : List UInt32} (e : ws = wcells xs) (k : Nat) (x : UInt32) :
    Mem2 w (wr.setCell ⟨w.heap.size + 1, k, none⟩ (.int .u32 (u x))) (wcells (xs.set k x)) := by
  subst e
  obtain ⟨h1, h2, h5⟩ := h
  refine ⟨?_, set_words h2 x, h5.setCell (by show _ ≤ w.heap.size + 1; omega) _⟩
  rw [Below.heap_setCell _ _ _ _ (by simp)]; assumption
theorem mem2_draws {w wr : World} {ws : Array Value} (h : Mem2 w wr ws) (n : Nat) : Mem2 w (wr.drewN n) ws := ⟨h.1, h.2.1, ⟨h.2.2.os, h.2.2.tape, h.2.2.output, h.2.2.size, h.2.2.block⟩⟩

set_option maxRecDepth 100000 in
set_option maxHeartbeats 4000000 in
theorem sched_any (s : ByteArray) (w : World) (hs : s.size = 64) :
    Calls Tryd.prog 41 #[.string s] w fun e w' => e = .returned (.agg (wcells (schL s))) ∧ Below w.heap.size w w' := by
  have HS := Lib.hid hs
  clear hs
  have M0 := Lib.hid (mem2_start w (zeros 64))
  go_enter Tryd.func41, Tryd.ntmps41
  go_wp2_with (first
    | (refine wpList_allocRow rfl 67 rfl (zeros 64) run_alloc64 ?_))
  generalize (w.alloc (.cells (zeros 64) 67)).alloc (.cells (zeros 64) 67) = W at M0 ⊢
  go_loopw [4, 5, 11] (fun _ _ iv wr => ∃ (k : Nat) (xs : List UInt32), k ≤ 16 ∧ iv = .int .i64 k ∧ Hid (xs.length = 64) ∧ Hid (∀ j, j < k → xs[j]? = some (word s j)) ∧ Hid (Mem2 w wr (wcells xs)))
    (fun _ _ iv _ => 16 - (intOf iv).toNat)
  case atStart => exact ⟨0, List.replicate 64 0, Nat.zero_le _, rfl, Lib.hid (by simp), Lib.hid (fun j hj => by omega), M0⟩
  case round =>
    clear M0
    obtain ⟨k, xs, hk, rfl, HL, HX, HM⟩ := hrel
    by_cases hlt : k < 16
    · have hs0 : 4 * k + 4 ≤ s.size := by have := HS.out; omega
      have c7 := cell_words HM.out.2.1 k (by have := HL.out; omega)
      have z7 := free_words HM.out.2.1 k
      obtain ⟨v7, hv7⟩ : ∃ v, u (xs[k]'(by have := HL.out; omega)) = v := ⟨_, rfl⟩
      rw [hv7] at c7
      clear hv7
      have i0 : 0 ≤ 4 * (k : Int) ∧ 4 * (k : Int) + 4 ≤ s.size := by omega
      have o := or_u
      go_wp2
      obtain ⟨b, hb⟩ : ∃ b, s.extract (4 * k) (4 * k + 4) = b := ⟨_, rfl⟩
      have hbs : b.size = 4 := by rw [← hb]; simp; omega
      have eb : ∀ i (h : i < b.size), ((b[i]'h).toNat : Int) = u (byteW s (4 * k + i)) := fun i h => by
        subst hb
        rw [← byteW_at s (4 * k + i) (by omega)]
        rw [ByteArray.getElem_extract]
      rw [hb]
      have e0 := eb 0 (by omega)
      have e1 := eb 1 (by omega)
      have e2 := eb 2 (by omega)
      have e3 := eb 3 (by omega)
      have g0 : (0 : Nat) < b.size := by omega
      clear eb hb
      go_region
      rw [word_u]
      clear c7 z7 e0 e1 e2 e3 o hbs g0
      go_wp2
      go_roundw
      case rel => exact ⟨k + 1, xs.set k (word s k), by omega, by go_num, Lib.hid (by have := HL.out; simpa using this), Lib.hid (row_next HX.out (by have := HL.out; omega) rfl), Lib.hid (mem2_draws (mem2_set HM.out rfl k _) 1)⟩
      case measure => (simp [intOf]; try omega)
    · obtain rfl : k = 16 := by omega
      go_wp2
      rw [show ((16 : Nat) : Int) = 16 from rfl]
      go_loopw [6, 7, 8, 9, 10] (fun iv _ _ _ _ wr => ∃ (k : Nat) (xs : List UInt32), 16 ≤ k ∧ k ≤ 64 ∧ iv = .int .i64 k ∧ Hid (xs.length = 64) ∧ Hid (∀ j, j < k → xs[j]? = some (sch s j)) ∧ Hid (Mem2 w wr (wcells xs)))
        (fun iv _ _ _ _ _ => 64 - (intOf iv).toNat)
      case atStart => exact ⟨16, xs, Nat.le_refl _, by omega, rfl, HL, Lib.hid (fun j hj => by rw [sch_low s j hj]; exact HX.out j hj), HM⟩
      case round =>
        clear HL HX HM
        obtain ⟨k, xs, hk1, hk, rfl, HL, HX, HM⟩ := hrel
        by_cases hlt : k < 64
        · have at_ : ∀ j, j < k → wr.cell? ⟨w.heap.size + 1, j, none⟩ = some (.int .u32 (u (sch s j))) := fun j hj => by
            have hl : j < xs.length := by have := HL.out; omega
            rw [cell_words HM.out.2.1 j hl]
            have := HX.out j hj
            rw [List.getElem?_eq_getElem hl] at this
            rw [Option.some.inj this]
          have c15 := at_ (k - 15) (by omega)
          have c2 := at_ (k - 2) (by omega)
          have c16 := at_ (k - 16) (by omega)
          have c7 := at_ (k - 7) (by omega)
          clear at_
          have ck := cell_words HM.out.2.1 k (by have := HL.out; omega)
          have zk := free_words HM.out.2.1 k
          obtain ⟨vk, hvk⟩ : ∃ v, u (xs[k]'(by have := HL.out; omega)) = v := ⟨_, rfl⟩
          rw [hvk] at ck
          clear hvk
          have w15 : IntKind.i64.wrap ((k : Int) - 15) = (k : Int) - 15 := IntWalk.i64_in _ (by omega)
          have w2 : IntKind.i64.wrap ((k : Int) - 2) = (k : Int) - 2 := IntWalk.i64_in _ (by omega)
          have w16 : IntKind.i64.wrap ((k : Int) - 16) = (k : Int) - 16 := IntWalk.i64_in _ (by omega)
          have w7 : IntKind.i64.wrap ((k : Int) - 7) = (k : Int) - 7 := IntWalk.i64_in _ (by omega)
          have n15 : ((k : Int) - 15).toNat = k - 15 := by omega
          have n2 : ((k : Int) - 2).toNat = k - 2 := by omega
          have n16 : ((k : Int) - 16).toNat = k - 16 := by omega
          have n7 : ((k : Int) - 7).toNat = k - 7 := by omega
          have b15 : 0 ≤ (k : Int) - 15 ∧ (k : Int) - 15 < 64 := by omega
          have b2 : 0 ≤ (k : Int) - 2 ∧ (k : Int) - 2 < 64 := by omega
          have b16 : 0 ≤ (k : Int) - 16 ∧ (k : Int) - 16 < 64 := by omega
          have b7 : 0 ≤ (k : Int) - 7 ∧ (k : Int) - 7 < 64 := by omega
          have xo := xor_u
          have s3 := sr3_u
          have s10 := sr10_u
          go_wp2
          go_quiet (fail)
          go_wp2_with (first
            | (go_at_call 60; refine (rot_int _ _ _ (by decide) (by decide)).mono ?_; rintro e w1 ⟨rfl, rfl⟩))
          have ad := add_u
          have adw := add_w
          go_region
          go_wp2
          go_roundw
          case rel => exact ⟨k + 1, xs.set k _, by omega, by omega, by go_num, Lib.hid (by have := HL.out; simpa using this), Lib.hid (row_next HX.out (by have := HL.out; omega) (sch_high s k hk1).symm), Lib.hid (mem2_set (mem2_draws HM.out _) rfl k _)⟩
          case measure => (simp [intOf]; try omega)
        · obtain rfl : k = 64 := by omega
          have hfin := schL_of HL.out HX.out
          subst hfin
          have m0 := HM.out.2.1
          have hcs : (wcells (schL s)).size = 64 := by rw [wcells_size, schL_length]
          have hone := wcells_one (schL s)
          obtain ⟨cs, hcse⟩ : ∃ cs, wcells (schL s) = cs := ⟨_, rfl⟩
          rw [hcse] at m0 hcs hone
          have HCS := Lib.hid hcse
          clear hcse
          have hsr3 := run_storeCells_from (P := Tryd.prog) w.heap.size 67 cs.toList 0 (zeros 64) _ HM.out.1 (by simp [zeros, wcells, hcs]) hone
          simp at hsr3
          clear hone
          go_wp2_with (first
            | (refine wpList_load_row rfl 67 (.tmp 3) rfl (w.heap.size + 1) rfl 67 cs (0, 0) _ m0 Tryd.underlying67 rfl (by rw [hcs]; kernel_rfl) ?_))
          (try simp only [Exit.inBlock, Exit.then])
          refine bodyPost_ret (results_cell_row rfl _ _ w.heap.size 67 cs (0, 0) _ rfl (setRow_heap _ _ _ _ _ _ HM.out.1) Tryd.underlying67 rfl (by rw [hcs]; kernel_rfl)) rfl ?_
          exact ⟨by rw [HCS.out], HM.out.2.2.trans ⟨rfl, rfl, rfl, by simp, fun k hk => setRow_other _ _ _ _ (by omega)⟩⟩
end Go.Proofs.YtbojcphcjggccaaDoor
