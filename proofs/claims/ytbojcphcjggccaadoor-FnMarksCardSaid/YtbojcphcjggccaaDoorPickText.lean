/- A text drawn out of a list. -/
import Derived.Test.YtbojcphcjggccaaDoorDrawLem
namespace Go.Proofs.YtbojcphcjggccaaDoor
open Go.RowKit Go.Proofs.YtbojcphcjggccaaDoor.Hexa
namespace Draw

set_option maxRecDepth 100000 in
set_option maxHeartbeats 1000000 in
theorem pickText_any (c : Nat) (ad : Option Addr) (len cap : Nat) (g n m : Nat) (zs : List ByteArray) (w : World) (hlen : len ≤ 1048576) (hn : 0 < n) (hn2 : n ≤ 200) (hz : zs.length = n) (hcell : ∀ j, j < n → w.cell? ⟨g, j, none⟩ = some (.string (zs.getD j ByteArray.empty))) (hg : g < w.heap.size) (hgc : g ≠ c) (hc : Cur w c ad len cap) (hs : Src w c ad len) :
    Calls Tryd.prog 62 #[.pointer (some ⟨c, 0, none⟩), .slice (some ⟨g, 0, none⟩) n m] w (DrawPost (fun v => ∃ z ∈ zs, v = .string z) w c ad len cap) := by
  have HC := Lib.hid hc
  have HS := Lib.hid hs
  have HCE := Lib.hid hcell
  clear hc hs hcell
  go_enter Tryd.func62, Tryd.ntmps62
  go_wp2_with fail
  refine (below_small c ad len cap n w hlen (by omega) (by omega) HC.out HS.out).mono ?_
  rintro e w1 ⟨x, x0, x1, rfl, hc1, hg1⟩
  have HC1 := Lib.hid hc1
  have HG1 := Lib.hid hg1
  obtain ⟨k, rfl⟩ : ∃ k : Nat, x = k := ⟨x.toNat, by omega⟩
  have hk : k < n := by omega
  have ck : w1.cell? ⟨g, k, none⟩ = some (.string (zs.getD k ByteArray.empty)) := by
    rw [World.cell?_of_block (w := w) (hg1.block g hg (fun e => hgc (by simpa using e)))]; exact HCE.out k hk
  have HM : Hid (zs.getD k ByteArray.empty ∈ zs) := Lib.hid (by
    have e : zs.getD k ByteArray.empty = zs[k]'(by omega) := by simp [List.getD, show k < zs.length by omega]
    rw [e]; exact List.getElem_mem _)
  obtain ⟨z, hzz⟩ : ∃ z, zs.getD k ByteArray.empty = z := ⟨_, rfl⟩
  rw [hzz] at ck HM
  clear hc1 hg1 hzz
  go_wp2
  go_ret
  exact ⟨_, ⟨z, HM.out, rfl⟩, rfl, HC1.out, HG1.out⟩

/-- A pick out of a list that the call has just laid. -/
theorem pickNew_any (c : Nat) (ad : Option Addr) (len cap : Nat) (n : Nat) (zs : List ByteArray) (cs : Array Value) (t : TypeId) (w : World) (hcs : cs = (zs.map Value.string).toArray) (hlen : len ≤ 1048576) (hn : 0 < n) (hn2 : n ≤ 200) (hz : zs.length = n) (hc : Cur w c ad len cap) (hs : Src w c ad len) :
    Calls Tryd.prog 62 #[.pointer (some ⟨c, 0, none⟩), .slice (some ⟨w.heap.size, 0, none⟩) n n] (w.alloc (.cells cs t)) fun e w' => ∃ z ∈ zs, e = .returned (.string z) ∧ Cur w' c ad len cap ∧ w.grownBy w' (some c) := by
  have hh := heap_alloc_new w (.cells cs t)
  have hlt := cur_lt hc
  refine (pickText_any c ad len cap w.heap.size n n zs _ hlen hn hn2 hz (fun j hj => ?_) (by simp) (by omega) (cur_grown hc (grown_alloc _ _ none) (by simp)) (src_grown' hs (grown_alloc _ _ none) (fun k e => by cases e) (by omega))).mono ?_
  · have h1 : ∀ (o : Option Obj), o = some (.cells cs t) → (match o with | some (.cells c _ _) => c[j]? | _ => none) = some (.string (zs.getD j ByteArray.empty)) := fun o ho => by
      subst ho
      subst hcs
      have hj' : j < zs.length := by omega
      simp [List.getD, hj']
    exact h1 _ hh
  · rintro e w' ⟨v, ⟨z, hz, rfl⟩, rfl, hc', hg'⟩
    exact ⟨z, hz, rfl, hc', grownBy_trans (grown_alloc w _ _) hg'⟩
end Draw
end Go.Proofs.YtbojcphcjggccaaDoor
