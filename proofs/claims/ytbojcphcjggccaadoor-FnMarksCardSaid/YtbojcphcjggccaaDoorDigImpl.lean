/- The program's Digest, at a text of at most 8000000 bytes. -/
import Derived.Test.YtbojcphcjggccaaDoorDigSpec
namespace Go.Proofs.YtbojcphcjggccaaDoor
open Go.RowKit Go.Proofs.YtbojcphcjggccaaDoor.Sha Go.Proofs.YtbojcphcjggccaaDoor.Hexa Go.Proofs.YtbojcphcjggccaaDoor.Parts Go.Proofs.YtbojcphcjggccaaDoor.Byt

/-- The block of the call: the state. -/
structure MemI (w wr : World) (g : Nat) (st : Array Value) : Prop where
  state : wr.heap[g]? = some (.cells st 45 (0, 0))
  lo : w.heap.size ≤ g
  below : Below w.heap.size w wr
theorem memI_store {w wr w6 : World} {g : Nat} {st : Array Value} (h : MemI w wr g st) (hb : Below wr.drew.heap.size wr.drew w6) (R : St8) (hs : st.size = 8) :
    ∃ W7, (storeCells ⟨g, 0, none⟩ R.cells.toList 0).run Tryd.prog w6 = .ok () W7 ∧ MemI w W7 g R.cells := by
  have l1 : g < wr.heap.size := (Array.getElem?_eq_some_iff.1 h.state).1
  have b1 : Below wr.heap.size wr w6 := ((Below.refl wr.heap.size wr).drew).trans hb
  have h6 : w6.heap[g]? = some (.cells st 45 (0, 0)) := by rw [b1.block g l1]; exact h.state
  have r := run_storeCells_from (P := Tryd.prog) g 45 R.cells.toList 0 st w6 h6 (by rw [hs]; rfl) (wcells_one R.list)
  have e : (st.toList.take 0 ++ R.cells.toList).toArray = R.cells := by simp
  rw [e] at r
  exact ⟨_, r, setRow_heap _ _ _ _ _ _ h6, h.lo, (h.below.trans (b1.mono h.below.size)).trans ⟨rfl, rfl, rfl, by simp, fun k hk => setRow_other _ _ _ _ (by have := h.lo; omega)⟩⟩

theorem extract_rest (p : ByteArray) (k N : Nat) (hp : p.size = 64 * N) (hk : k < N) : (p.extract (64 * k) (64 * N)).extract 64 (p.extract (64 * k) (64 * N)).size = p.extract (64 * (k + 1)) (64 * N) := by
  rw [ByteArray.extract_extract]
  congr 1
  simp
  omega
theorem extract_head (p : ByteArray) (k N : Nat) (_hp : p.size = 64 * N) (hk : k < N) : (p.extract (64 * k) (64 * N)).extract 0 64 = p.extract (64 * k) (64 * k + 64) := by
  rw [ByteArray.extract_extract]
  congr 1
  omega

theorem head_of {t p : ByteArray} {k N : Nat} (ht : t = p.extract (64 * k) (64 * N)) (hp : p.size = 64 * N) (hk : k < N) : t.extract 0 64 = p.extract (64 * k) (64 * k + 64) := by subst ht; exact extract_head p k N hp hk
theorem rest_of {t p : ByteArray} {k N : Nat} (ht : t = p.extract (64 * k) (64 * N)) (hp : p.size = 64 * N) (hk : k < N) : t.extract 64 t.size = p.extract (64 * (k + 1)) (64 * N) := by subst ht; exact extract_rest p k N hp hk
theorem emptyB (t : ByteArray) : t.toList.isEmpty = (t.size == 0) := by
  rw [Go.ByteArray.toList_eq]
  have : t.size = t.data.toList.length := by simp
  rw [this]
  cases t.data.toList <;> simp

def sizeV : Value → Nat
  | .string t => t.size
  | _ => 0

set_option maxRecDepth 100000 in
set_option maxHeartbeats 4000000 in
theorem implDigest_any (s : ByteArray) (w : World) (hs : s.size ≤ 8000000) (hk0 : IsTab w 0 firstS.list) (hk1 : IsTab w 1 keyL) :
    Calls Tryd.prog 11 #[.string s] w fun e w' => e = .returned (.string (digB s)) ∧ Below w.heap.size w w' := by
  have KP := Lib.hid fun w => Pad.impl_any s w hs
  have HPS := Lib.hid (padB_size s)
  have HPN := Lib.hid (padN_le s hs)
  have HK1 := Lib.hid hk1
  obtain ⟨t0, fr0, hk0⟩ := hk0
  have HK0 := Lib.hid hk0
  clear hk0 hk1 hs
  have HN0 := heap_alloc_new w (.cells (zeros 8) 45)
  have r0 := run_storeCells_from (P := Tryd.prog) w.heap.size 45 (wcells firstS.list).toList 0 (zeros 8) _ HN0 (by simp [zeros, wcells]; rfl) (wcells_one _)
  have MI : MemI w ((w.alloc (.cells (zeros 8) 45)).setRow w.heap.size (wcells firstS.list)) w.heap.size (wcells firstS.list) :=
    ⟨setRow_heap _ _ _ _ _ _ HN0, Nat.le_refl _, ((Below.refl _ _).alloc (Nat.le_refl _) _).trans ⟨rfl, rfl, rfl, by simp, fun k hk => setRow_other _ _ _ _ (by omega)⟩⟩
  have e0 : ((zeros 8).toList.take 0 ++ (wcells firstS.list).toList).toArray = wcells firstS.list := by simp
  rw [e0] at r0
  obtain ⟨W1, hW1⟩ : ∃ W1, (w.alloc (.cells (zeros 8) 45)).setRow w.heap.size (wcells firstS.list) = W1 := ⟨_, rfl⟩
  rw [hW1] at r0 MI
  have HST := Lib.hid (show (blocksS (padB s) 0).cells = wcells firstS.list from rfl)
  obtain ⟨st, hst⟩ : ∃ st, wcells firstS.list = st := ⟨_, rfl⟩
  have s8 : Hid (st.size = 8) := Lib.hid (by rw [← hst]; rfl)
  rw [hst] at r0 MI HST HK0
  have HMI := Lib.hid MI
  clear hst hW1 e0 MI HN0
  go_enter Tryd.func11, Tryd.ntmps11
  go_wp2_with (first
    | (refine wpList_load_row rfl 45 (.global 0) rfl 0 rfl t0 st fr0 _ HK0.out Tryd.underlying45 rfl (by rw [s8.out]; kernel_rfl) ?_)
    | (refine wpList_allocRow rfl 45 rfl (zeros 8) run_allocW ?_)
    | (go_at_call 7; refine (KP.out _).mono ?_; rintro e w5 ⟨rfl, hb5⟩
       have B5 := Lib.hid hb5
       clear hb5))
  have HM5 : Hid (MemI w w5 w.heap.size st) := Lib.hid ⟨by rw [B5.out.block _ (Array.getElem?_eq_some_iff.1 HMI.out.state).1]; exact HMI.out.state, Nat.le_refl _, HMI.out.below.trans (B5.out.mono HMI.out.below.size)⟩
  have HP2 : Hid (({ data := (Pad.padL s).toArray } : ByteArray) = padB s) := Lib.hid rfl
  rw [HP2.out]
  have HEX : Hid (padB s = (padB s).extract (64 * 0) (64 * padN s)) := Lib.hid (by rw [← HPS.out]; simp)
  generalize hpp : padB s = p at HPS HEX HST ⊢
  have HPP := Lib.hid hpp
  generalize hN : padN s = N at HPS HPN HEX
  have HN := Lib.hid hN
  clear hN hpp HP2 r0
  go_loopw [4] (fun pv wr => ∃ (k : Nat) (t : ByteArray), k ≤ N ∧ pv = .string t ∧ t.size = 64 * (N - k) ∧ Hid (t = p.extract (64 * k) (64 * N)) ∧ Hid (MemI w wr w.heap.size (blocksS p k).cells))
    (fun pv _ => sizeV pv)
  case atStart => exact ⟨0, p, Nat.zero_le _, rfl, by have := HPS.out; omega, HEX, Lib.hid (by rw [HST.out]; exact HM5.out)⟩
  case round =>
    clear HM5 HEX
    obtain ⟨k, t, hk, rfl, hts, HT, HM⟩ := hrel
    have hpn := HPN.out
    by_cases hlt : k < N
    · have hem : t.toList.isEmpty = false := by rw [emptyB]; exact beq_eq_false_iff_ne.2 (by omega)
      have hsz : t.size = 64 * (N - k) := hts
      have h64 : (64 : Int) ≤ 64 * ((N - k : Nat) : Int) := by omega
      go_wp2
      refine wp_region_still_tail 3 (by kernel_rfl) (by kernel_rfl) ?_
      simp only [List.take_succ_cons, List.take_zero, List.drop_succ_cons, List.drop_zero]
      refine wpStill_load_row rfl 45 (.tmp 3) rfl w.heap.size rfl _ (blocksS p k).cells (0, 0) _ HM.out.state Tryd.underlying45 rfl (by kernel_rfl) ?_
      still_step
      still_step
      refine wpStill_nil ?_
      change wpList _ _ _ _ _ wr.drew
      have hhd : t.extract 0 64 = p.extract (64 * k) (64 * k + 64) := head_of HT.out HPS.out hlt
      have hrs : t.extract 64 (64 * (N - k)) = p.extract (64 * (k + 1)) (64 * N) := by rw [← hts]; exact rest_of HT.out HPS.out hlt
      have hrz : (t.extract 64 (64 * (N - k))).size = 64 * (N - (k + 1)) := by rw [ByteArray.size_extract, hts]; omega
      have HB := Lib.hid (show (p.extract (64 * k) (64 * k + 64)).size = 64 by simp; have := HPS.out; omega)
      have hnx : blockS (blocksS p k) keyL (p.extract (64 * k) (64 * k + 64)) = blocksS p (k + 1) := rfl
      have hk1 := Lib.hid (HK1.out.below HK1.out.lt (HM.out.below.drew))
      rw [hhd]
      have HRS := Lib.hid hrs
      have HRZ := Lib.hid hrz
      clear hhd hrs hem h64 hrz
      go_wp2_with (first
        | (go_at_call 27; refine (after_any (blocksS p k) (p.extract (64 * k) (64 * k + 64)) wr.drew HB.out hk1.out).mono ?_; rintro e w6 ⟨rfl, hb6⟩
           rw [hnx]
           obtain ⟨W7, r7, M7⟩ := memI_store HM.out hb6 (blocksS p (k + 1)) rfl
           have HM7 := Lib.hid M7
           clear M7 hb6 hnx
           obtain ⟨cs2, hcs2⟩ : ∃ cs2, (blocksS p (k + 1)).cells = cs2 := ⟨_, rfl⟩
           have h82 : cs2.size = 8 := by rw [← hcs2]; rfl
           rw [hcs2] at r7 HM7 ⊢
           have HC2 := Lib.hid hcs2
           clear hcs2
           have h64 : (64 : Int) ≤ 64 * ((N - k : Nat) : Int) := by omega))
      go_roundw
      case rel => exact ⟨k + 1, t.extract 64 (64 * (N - k)), by omega, rfl, HRZ.out, HRS, Lib.hid (by rw [HC2.out]; exact HM7.out)⟩
      case measure =>
        show (t.extract 64 (64 * (N - k))).size < t.size
        rw [HRZ.out]; omega
    · obtain rfl : k = N := by omega
      have hem : t.toList.isEmpty = true := by rw [emptyB]; exact beq_iff_eq.2 (by omega)
      have m0 := HM.out.state
      generalize hS : blocksS p k = S at HM m0
      have HSS : Hid (digB s = ⟨(textL S).toArray⟩) := Lib.hid (by rw [← hS, ← HPP.out, ← HN.out]; rfl)
      clear hS
      go_wp2_with (first
        | (refine wpList_load_row rfl 45 (.tmp 3) rfl w.heap.size rfl 45 S.cells (0, 0) _ m0 Tryd.underlying45 rfl (by kernel_rfl) ?_)
        | (go_at_call 29; refine (text_any S _).mono ?_; rintro e w6 ⟨rfl, hb6⟩))
      go_ret
      exact ⟨by rw [HSS.out]; rfl, HM.out.below.trans (hb6.mono HM.out.below.size)⟩
end Go.Proofs.YtbojcphcjggccaaDoor
