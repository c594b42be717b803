/- Unsure: the model's and the program's. -/
import Derived.Test.YtlemlgadjapamaaMemNewLaw
import Derived.Test.YtlemlgadjapamaaIntsAt
namespace Go.Proofs.Ytlemlgadjapamaa
open Go.RowKit Go.Proofs.Ytlemlgadjapamaa.Parts Go.Proofs.Ytlemlgadjapamaa.Hexa

def linesL (L : List C3) : List Int := L.map fun c => c.l
theorem linesL_succ {L : List C3} {k : Nat} (h : k < L.length) : linesL (L.take (k + 1)) = linesL (L.take k) ++ [(L.getD k default).l] := by
  rw [take_succ h]; simp [linesL]
theorem linesL_take {L : List C3} {k : Nat} (h : k ≤ L.length) : (linesL (L.take k)).length = k := by simp [linesL]; omega
def GivesZ (P : List Int) (w : World) (e : Ending) (w' : World) : Prop :=
  ∃ v, e = .returned v ∧ w'.ownsRow w.heap.size 3 1 v P.length (icells P) ∧ Below w.heap.size w w'

set_option maxRecDepth 100000 in
set_option maxHeartbeats 1000000 in
theorem specUnsure_any (K : ByteArray) (a : Option Addr) (n c : Nat) (L : List C3) (w : World) (hs : SrcC w a n L) (hn : n ≤ 1048600) :
    Calls Try.prog 31 #[.agg #[.string K, .slice a n c]] w (GivesZ (linesL L) w) := by
  obtain ⟨i0, hi, hz0, hz1, hz2⟩ := info_parts infoInt
  have HS := Lib.hid hs
  have HL := Lib.hid hs.len
  have B0 := Lib.hid (below_alloc w (.cells #[.string K, .slice a n c] 26))
  clear hs
  go_enter Try.func31, Try.ntmps31
  go_wp2
  go_loopw [3, 4] (fun v iv wr => ∃ (k : Nat) (P : List Int), k ≤ n ∧ P.length = k ∧ iv = .int .i64 k ∧ Hid (P = linesL (L.take k)) ∧ wr.ownsRow (w.heap.size + 1) 3 1 v P.length (icells P) ∧ Below (w.heap.size + 1) (w.alloc (.cells #[.string K, .slice a n c] 26)) wr)
    (fun _ iv _ => n - (intOf iv).toNat)
  case atStart => exact ⟨0, [], Nat.zero_le _, rfl, rfl, Lib.hid (by simp [linesL]), by have := World.ownsRow_lit (base := w.heap.size + 1) (e := 3) (size := 1) (w.alloc (.cells #[.string K, .slice a n c] 26)) #[] 0 (by simp) (by decide) rfl; simpa [icells] using this, (Below.refl _ _).alloc (by simp) _⟩
  case round =>
    obtain ⟨k, P, hk, hPl, rfl, HP, hown, hbel⟩ := hrel
    have BW : Hid (Below w.heap.size w wr) := Lib.hid (B0.out.trans (hbel.mono (by omega)))
    have hsz : Hid (w.heap.size + 1 ≤ wr.heap.size) := Lib.hid (by have := hbel.size; simp at this; omega)
    have q1 := cell1_of_two (below_two hbel)
    have HB := Lib.hid hbel
    have HO := Lib.hid hown
    clear hbel hown
    by_cases hlt : k < n
    · obtain ⟨g, off, rfl, hg, d1, d2, d3⟩ := HS.out.cells3_at BW.out (Nat.le_refl _) k hlt
      have HE := Lib.hid (linesL_succ (L := L) (k := k) (by have := HL.out; omega))
      obtain ⟨x, hx⟩ : ∃ x, (L.getD k default).l = x := ⟨_, rfl⟩
      rw [hx, ← HP.out] at HE
      rw [hx] at d1
      clear hx d2 d3
      go_wp2_with (first | (at_builtin; refine wpList_append_own _ rfl (.tmp 13) (.tmp 20) 35 rfl (w.heap.size + 1) 3 i0 (.int .i64 0) 1 8 Try.underlying35 hi hz0 hz1 hz2 rfl (by decide) _ _ _ rfl (HO.out.alloc _) ⟨wr.heap.size, 0, none⟩ 1 1 [.int .i64 x] rfl rfl (World.news_of_block (heap_alloc_new _ _)) (by simp [Value.oneCell']) (by unfold maxLen; omega) (by omega) (by have := hsz.out; simp; omega) ?_; intro v1 w2 hown1 hgrow1 hn1))
      have hb1 : Below (w.heap.size + 1) (w.alloc (.cells #[.string K, .slice (some ⟨g, off, none⟩) n c] 26)) w2 := (HB.out.alloc hsz.out _).grown hgrow1 (by have := hsz.out; simp; omega) (own_block_ge HO.out)
      have HO2 : Hid (w2.ownsRow (w.heap.size + 1) 3 1 v1 (P ++ [x]).length (icells (P ++ [x]))) := Lib.hid (by simpa [icells, List.length_append] using hown1)
      clear hown1 hgrow1 hn1 HO d1
      go_wp2
      go_roundw
      case rel => exact ⟨k + 1, P ++ [x], by omega, by simp; omega, by go_num, Lib.hid HE.out.symm, HO2.out, hb1⟩
      case measure => (simp [intOf]; try omega)
    · obtain rfl : k = n := by omega
      have HF : Hid (P = linesL L) := Lib.hid (by rw [HP.out, ← HL.out, List.take_length])
      go_wp2
      go_ret
      exact ⟨_, rfl, by rw [← HF.out]; exact ownE_mono HO.out (by omega), BW.out⟩

set_option maxRecDepth 100000 in
set_option maxHeartbeats 1000000 in
theorem implUnsure_any (K : ByteArray) (a : Option Addr) (n c : Nat) (L : List C3) (w : World) (hs : SrcC w a n L) (hn : n ≤ 1048600) :
    Calls Try.prog 29 #[.agg #[.string K, .slice a n c]] w (GivesZ (linesL L) w) := by
  obtain ⟨i0, hi, hz0, hz1, hz2⟩ := info_parts infoInt
  have HS := Lib.hid hs
  have HL := Lib.hid hs.len
  have B0 := Lib.hid (below_alloc w (.cells #[.string K, .slice a n c] 26))
  clear hs
  go_enter Try.func29, Try.ntmps29
  go_wp2
  go_loopw [3, 9] (fun v iv wr => ∃ (k : Nat) (P : List Int), k ≤ n ∧ P.length = k ∧ iv = .int .i64 k ∧ Hid (P = linesL (L.take k)) ∧ wr.ownsRow (w.heap.size + 1) 3 1 v P.length (icells P) ∧ Below (w.heap.size + 1) (w.alloc (.cells #[.string K, .slice a n c] 26)) wr)
    (fun _ iv _ => n - (intOf iv).toNat)
  case atStart => exact ⟨0, [], Nat.zero_le _, rfl, rfl, Lib.hid (by simp [linesL]), World.ownsRow_nil _ _ _ _, Below.refl _ _⟩
  case round =>
    obtain ⟨k, P, hk, hPl, rfl, HP, hown, hbel⟩ := hrel
    have BW : Hid (Below w.heap.size w wr) := Lib.hid (B0.out.trans (hbel.mono (by omega)))
    have hsz : Hid (w.heap.size + 1 ≤ wr.heap.size) := Lib.hid (by have := hbel.size; simp at this; omega)
    have HB := Lib.hid hbel
    have HO := Lib.hid hown
    clear hbel hown
    by_cases hlt : k < n
    · obtain ⟨g, off, rfl, hg, d1, d2, d3⟩ := HS.out.cells3_at BW.out (Nat.le_refl _) k hlt
      have HE := Lib.hid (linesL_succ (L := L) (k := k) (by have := HL.out; omega))
      obtain ⟨x, hx⟩ : ∃ x, L.getD k default = x := ⟨_, rfl⟩
      rw [hx, ← HP.out] at HE
      rw [hx] at d1 d2 d3
      clear hx
      have hb0 : Below (w.heap.size + 1) (w.alloc (.cells #[.string K, .slice (some ⟨g, off, none⟩) n c] 26)) (wr.alloc (.cells #[.int .i64 x.l, .string x.t, .bool x.f] 68)) := HB.out.alloc hsz.out _
      have HB0 := Lib.hid hb0
      clear hb0
      go_wp2_with (first | (at_builtin; refine wpList_append_own _ rfl (.tmp 13) (.tmp 16) 35 rfl (w.heap.size + 1) 3 i0 (.int .i64 0) 1 8 Try.underlying35 hi hz0 hz1 hz2 rfl (by decide) _ _ _ rfl ((HO.out.alloc _).alloc _) ⟨wr.heap.size + 1, 0, none⟩ 1 1 [.int .i64 x.l] rfl rfl (World.news_of_block (by have h := heap_alloc_new (wr.alloc (.cells #[.int .i64 x.l, .string x.t, .bool x.f] 68)) (.cells #[.int .i64 x.l] 3); simpa using h)) (by simp [Value.oneCell']) (by unfold maxLen; omega) (by omega) (by have := hsz.out; simp; omega) ?_; intro v1 w2 hown1 hgrow1 hn1))
      have hb1 : Below (w.heap.size + 1) (w.alloc (.cells #[.string K, .slice (some ⟨g, off, none⟩) n c] 26)) w2 := (HB0.out.alloc (by have := hsz.out; simp; omega) _).grown hgrow1 (by have := hsz.out; simp; omega) (own_block_ge HO.out)
      have HO2 : Hid (w2.ownsRow (w.heap.size + 1) 3 1 v1 (P ++ [x.l]).length (icells (P ++ [x.l]))) := Lib.hid (by simpa [icells, List.length_append] using hown1)
      clear hown1 hgrow1 hn1 HO d1 d2 d3
      go_wp2
      go_roundw
      case rel => exact ⟨k + 1, P ++ [x.l], by omega, by simp; omega, by go_num, Lib.hid HE.out.symm, HO2.out, hb1⟩
      case measure => (simp [intOf]; try omega)
    · obtain rfl : k = n := by omega
      have HF : Hid (P = linesL L) := Lib.hid (by rw [HP.out, ← HL.out, List.take_length])
      go_wp2
      go_ret
      exact ⟨_, rfl, by rw [← HF.out]; exact ownE_mono HO.out (by omega), BW.out⟩
end Go.Proofs.Ytlemlgadjapamaa
