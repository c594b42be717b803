/- A number drawn out of a list. -/
import Derived.Test.YtmcelfiljnlmoaaDrawLem
namespace Go.Proofs.Ytmcelfiljnlmoaa
open Go.RowKit Go.Proofs.Ytmcelfiljnlmoaa.Hexa
namespace Draw

set_option maxRecDepth 100000 in
set_option maxHeartbeats 1000000 in
theorem pickInt_any (c : Nat) (ad : Option Addr) (len cap : Nat) (g n m : Nat) (zs : List Int) (w : World) (hlen : len ≤ 1048576) (hn : 0 < n) (hn2 : n ≤ 1000000) (hz : zs.length = n) (hcell : ∀ j, j < n → w.cell? ⟨g, j, none⟩ = some (.int .i64 (zs.getD j 0))) (hg : g < w.heap.size) (hgc : g ≠ c) (hc : Cur w c ad len cap) (hs : Src w c ad len) :
    Calls Try.prog 105 #[.pointer (some ⟨c, 0, none⟩), .slice (some ⟨g, 0, none⟩) n m] w (DrawPost (fun v => ∃ z ∈ zs, v = .int .i64 z) w c ad len cap) := by
  have HC := Lib.hid hc
  have HS := Lib.hid hs
  have HCE := Lib.hid hcell
  clear hc hs hcell
  go_enter Try.func105, Try.ntmps105
  go_wp2_with fail
  refine (below_any c ad len cap n w hlen (by omega) (by omega) HC.out HS.out).mono ?_
  rintro e w1 ⟨x, x0, x1, rfl, hc1, hg1⟩
  have HC1 := Lib.hid hc1
  have HG1 := Lib.hid hg1
  obtain ⟨k, rfl⟩ : ∃ k : Nat, x = k := ⟨x.toNat, by omega⟩
  have hk : k < n := by omega
  have ck : w1.cell? ⟨g, k, none⟩ = some (.int .i64 (zs.getD k 0)) := by
    rw [World.cell?_of_block (w := w) (hg1.block g hg (fun e => hgc (by simpa using e)))]; exact HCE.out k hk
  have HM : Hid (zs.getD k 0 ∈ zs) := Lib.hid (by
    have e : zs.getD k 0 = zs[k]'(by omega) := by simp [List.getD, show k < zs.length by omega]
    rw [e]; exact List.getElem_mem _)
  obtain ⟨z, hzz⟩ : ∃ z, zs.getD k 0 = z := ⟨_, rfl⟩
  rw [hzz] at ck HM
  clear hc1 hg1 hzz
  go_wp2
  go_ret
  exact ⟨_, ⟨z, HM.out, rfl⟩, rfl, HC1.out, HG1.out⟩
end Draw
end Go.Proofs.Ytmcelfiljnlmoaa
