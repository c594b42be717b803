/- Merged texts: Long, MarkSpec, DigImpl, MarkTSpec, DerMath, NumTSpec, XorSpec, DerSpec, SameMath, SameImpl, DerHas, MaskImpl. -/
import Derived.Test.YtpjcdppeieakhaaDoorP8C
import Derived.Test.YtpjcdppeieakhaaDoorRows
import Derived.WalkKit
import Derived.WalkSpells
import Derived.WalkLawsBesides
import Derived.Lib.Hide
import Derived.Deep.QuietTactic
import Derived.BigQuiet
import Derived.Below
import Derived.Deep.RegionHeld3
import Derived.Deep.DeepCutAuto
namespace Go.Proofs.YtpjcdppeieakhaaDoor
open Go.RowKit Go.Proofs.YtpjcdppeieakhaaDoor.Hexa Go.Proofs.YtpjcdppeieakhaaDoor.Byt Go.Proofs.YtpjcdppeieakhaaDoor.BitsM

set_option maxRecDepth 100000 in
set_option maxHeartbeats 1000000 in
theorem long_any (n : Nat) (x : UInt8) (w : World) (hn : n ≤ 8000000) :
    Calls Tryd.prog 74 #[.int .i64 n, .int .u8 x.toNat] w fun e w' => e = .returned (.string (longB n x)) ∧ Below w.heap.size w w' := by
  obtain ⟨i0, hi, hz0, hz1, hz2⟩ := info_parts infoByte
  obtain ⟨xv, hxv⟩ : ∃ xv : Int, (x.toNat : Int) = xv := ⟨_, rfl⟩
  rw [hxv]
  have HXV := Lib.hid hxv
  clear hxv
  go_enter Tryd.func74, Tryd.ntmps74
  go_wp2_with (at_make; refine wpList_make_full _ rfl _ _ 22 rfl w.heap.size 5 i0 (.int .u8 0) 1 Tryd.underlying22 hi hz0 hz1 .i64 .i64 _ _ n rfl rfl rfl rfl (by rw [hz2]; omega) (by unfold maxLen; omega) (Nat.le_refl _) ?_; intro w0 hown0 hgrow0)
  have hg0 : Below w.heap.size w w0 := (Below.refl _ _).grown hgrow0 (Nat.le_refl _) (fun k h => by cases h)
  have HO0 := Lib.hid hown0
  clear hown0 hgrow0
  go_loopw [6] (fun iv wr => ∃ (k : Nat) (xs : List Value), k ≤ n ∧ iv = .int .i64 k ∧ Hid (wr.ownsRow w.heap.size 5 1 (.slice (some ⟨w.heap.size, 0, none⟩) n n) n xs) ∧ Hid (∀ j, j < k → xs[j]? = some (.int .u8 xv)) ∧ Below w.heap.size w wr)
    (fun iv _ => n - (intOf iv).toNat)
  case atStart => exact ⟨0, _, Nat.zero_le _, rfl, HO0, Lib.hid (fun j hj => by omega), hg0⟩
  case round =>
    clear HO0 hg0
    obtain ⟨k, xs, hk, rfl, HW, HX, hbel⟩ := hrel
    have hxl : Hid (xs.length = n) := Lib.hid (own_length HW.out)
    by_cases hlt : k < n
    · have c3 : ∃ v, wr.cell? ⟨w.heap.size, k, none⟩ = some v := ⟨xs[k]'(by have := hxl.out; omega), by rw [HW.out.cellAt k (by omega)]; simp [hxl.out, hlt]⟩
      obtain ⟨v3, c3⟩ := c3
      have z3 := HW.out.frozenAt k
      have O1 := Lib.hid (HW.out.stored k (.int .u8 xv)).1
      have hb1 : Below w.heap.size w (wr.setCell ⟨w.heap.size, k, none⟩ (.int .u8 xv)) := hbel.setCell (Nat.le_refl _) _
      have X1 : Hid (∀ j, j < k + 1 → (xs.set k (.int .u8 xv))[j]? = some (.int .u8 xv)) := Lib.hid (fun j hj => by
        by_cases e : j = k
        · subst e; rw [List.getElem?_set_self (by have := hxl.out; omega)]
        · rw [List.getElem?_set_ne (by omega)]; exact HX.out j (by omega))
      go_wp2
      go_roundw
      case rel => exact ⟨k + 1, _, by omega, by go_num, O1, X1, hb1⟩
      case measure => (simp [intOf]; try omega)
    · obtain rfl : k = n := by omega
      have hfin : xs = bcells (List.replicate k x) := by
        apply List.ext_getElem?
        intro j
        by_cases hj : j < k
        · rw [HX.out j hj, ← HXV.out]; simp [bcells, hj]
        · rw [List.getElem?_eq_none (by have := hxl.out; omega), List.getElem?_eq_none (by rw [bcells_length]; simp; omega)]
      have ho := HW.out
      rw [hfin] at ho
      have hconv := own_string (P := Tryd.prog) 22 9 Tryd.underlying22 Tryd.underlying5 Tryd.underlying9 ho
      clear hfin ho
      go_wp2
      go_ret
      exact ⟨rfl, hbel⟩

end Go.Proofs.YtpjcdppeieakhaaDoor
namespace Go.Proofs.YtpjcdppeieakhaaDoor
open Go.RowKit Go.Proofs.YtpjcdppeieakhaaDoor.Sha Go.Proofs.YtpjcdppeieakhaaDoor.Hexa Go.Proofs.YtpjcdppeieakhaaDoor.Parts Go.Proofs.YtpjcdppeieakhaaDoor.Byt Go.Proofs.YtpjcdppeieakhaaDoor.BitsM

/-- A text with each byte combined with one. -/
def xorB (s : ByteArray) (b : UInt8) : ByteArray := ⟨(s.data.toList.map (· ^^^ b)).toArray⟩
theorem xorB_size (s : ByteArray) (b : UInt8) : (xorB s b).size = s.size := by show (s.data.toList.map (· ^^^ b)).toArray.size = s.size; simp

set_option maxRecDepth 100000 in
set_option maxHeartbeats 1000000 in
theorem xor_any (s : ByteArray) (b : UInt8) (w : World) (hs : s.size ≤ 8000000) :
    Calls Tryd.prog 65 #[.string s, .int .u8 b.toNat] w fun e w' => e = .returned (.string (xorB s b)) ∧ Below w.heap.size w w' := by
  have kc0 := run_bytes_of_string (P := Tryd.prog) w 9 22 5 s Tryd.underlying9 Tryd.underlying22 Tryd.underlying5
  have b0 := bytes_conv w 5 s w.heap.size (Nat.le_refl _) (by omega)
  have g0 : Below w.heap.size w (w.drew.alloc (.cells (bytesRow s (grownCap w s.size 0 5)) 5 ((bytesRow s (grownCap w s.size 0 5)).size, (bytesRow s (grownCap w s.size 0 5)).size + 1))) := below_grown w (Nat.le_refl _) _
  generalize w.drew.alloc (.cells (bytesRow s (grownCap w s.size 0 5)) 5 ((bytesRow s (grownCap w s.size 0 5)).size, (bytesRow s (grownCap w s.size 0 5)).size + 1)) = W0 at b0 g0 kc0
  generalize grownCap w s.size 0 5 = c0 at b0 kc0
  have HB := Lib.hid b0
  have HG := Lib.hid g0
  obtain ⟨bv, hbv⟩ : ∃ bv : Int, (b.toNat : Int) = bv := ⟨_, rfl⟩
  have hx8 : ∀ a : UInt8, bits .xor .u8 (a.toNat : Int) bv = ((a ^^^ b).toNat : Int) := fun a => by rw [← hbv]; exact xor8 a b
  rw [hbv]
  clear b0 g0 hbv
  go_enter Tryd.func65, Tryd.ntmps65
  go_wp2
  clear kc0
  go_loopw [6] (fun iv wr => ∃ (k : Nat) (l : List UInt8), k ≤ s.size ∧ iv = .int .i64 k ∧ l.length = s.size ∧ Hid (∀ j, j < k → l[j]? = (s.data.toList.map (· ^^^ b))[j]?) ∧ Hid (∀ j, k ≤ j → l[j]? = s.data.toList[j]?) ∧ Hid (Bytes wr w.heap.size 5 (.slice (some ⟨w.heap.size, 0, none⟩) l.length c0) l) ∧ Below w.heap.size w wr)
    (fun iv _ => s.size - (intOf iv).toNat)
  case atStart => exact ⟨0, s.data.toList, Nat.zero_le _, rfl, by simp, Lib.hid (fun j hj => by omega), Lib.hid (fun j _ => rfl), Lib.hid (by have := HB.out; simpa using this), HG.out⟩
  case round =>
    clear HB HG
    obtain ⟨k, l, hk, rfl, hl, HA, HC, HW, hbel⟩ := hrel
    by_cases hlt : k < s.size
    · obtain ⟨hc, hz, hB⟩ := bytes_at HW.out k (by omega)
      have hks : k < s.data.toList.length := by simpa using hlt
      have hlk : l[k]'(by omega) = s.data.toList[k] := by
        have h1 := HC.out k (Nat.le_refl _)
        rw [List.getElem?_eq_getElem (by omega), List.getElem?_eq_getElem hks] at h1
        exact Option.some.inj h1
      obtain ⟨x, hx⟩ : ∃ x, s.data.toList[k] = x := ⟨_, rfl⟩
      rw [hlk, hx] at hc
      have HX : Hid ((s.data.toList.map (· ^^^ b))[k]? = some (x ^^^ b)) := Lib.hid (by rw [List.getElem?_map, List.getElem?_eq_getElem hks, hx]; rfl)
      have h8 := hx8 x
      have W1 := Lib.hid (bytes_set HW.out k (x ^^^ b))
      have hb1 : Below w.heap.size w (wr.setCell ⟨w.heap.size, k, none⟩ (.int .u8 ((x ^^^ b).toNat : Int))) := hbel.setCell (Nat.le_refl _) _
      have hbd := x.toNat_lt
      clear hlk hx hks
      go_wp2
      go_roundw
      case rel => exact ⟨k + 1, l.set k (x ^^^ b), by omega, by go_num, by simpa using hl, Lib.hid (fun j hj => by
        by_cases e : j = k
        · subst e; rw [List.getElem?_set_self (by omega), HX.out]
        · rw [List.getElem?_set_ne (by omega)]; exact HA.out j (by omega)), Lib.hid (fun j hj => by rw [List.getElem?_set_ne (by omega)]; exact HC.out j (by omega)), by simpa using W1, hb1⟩
      case measure => (simp [intOf]; try omega)
    · obtain rfl : k = s.size := by omega
      have hfin : l = s.data.toList.map (· ^^^ b) := by
        apply List.ext_getElem?
        intro j
        by_cases hj : j < s.size
        · exact HA.out j hj
        · rw [List.getElem?_eq_none (by omega), List.getElem?_eq_none (by simp; omega)]
      have h9 := HW.out
      have hconv := bytes_string (P := Tryd.prog) 22 9 Tryd.underlying22 Tryd.underlying5 Tryd.underlying9 h9
      rw [hl] at hconv
      clear h9
      go_wp2
      go_ret
      exact ⟨rfl, hbel⟩

/-- The key of a keyed hash. -/
def keyBase (s : ByteArray) : ByteArray := if 64 < s.size then digB s else s
def keyB (s : ByteArray) : ByteArray := keyBase s ++ longB (64 - (keyBase s).size) 0
theorem keyBase_size (s : ByteArray) : (keyBase s).size ≤ 64 := by
  unfold keyBase
  split
  · rw [digB_size]; omega
  · omega
theorem keyB_size (s : ByteArray) : (keyB s).size = 64 := by
  have := keyBase_size s
  unfold keyB
  rw [ByteArray.size_append, longB_size]
  omega

set_option maxRecDepth 100000 in
set_option maxHeartbeats 1000000 in
theorem specKey_any (s : ByteArray) (w : World) (hs : s.size ≤ 2000000) :
    Calls Tryd.prog 64 #[.string s] w fun e w' => e = .returned (.string (keyB s)) ∧ Below w.heap.size w w' := by
  have k1 := Lib.hid fun w => specDigest_any s w (by omega)
  have KL := Lib.hid (fun (n : Nat) (w : World) (h : n ≤ 64) => long_any n 0 w (by omega))
  by_cases h : 64 < s.size
  · have hd : (digB s).size = 32 := rfl
    have HE : Hid (keyB s = digB s ++ longB 32 0) := Lib.hid (by unfold keyB keyBase; rw [if_pos h]; rfl)
    clear hs
    go_enter Tryd.func64, Tryd.ntmps64
    go_wp2_with (first
      | (go_at_call 48; refine (k1.out _).mono ?_; rintro e w1 ⟨rfl, hb1⟩)
      | (go_at_call 74; refine (KL.out 32 _ (by omega)).mono ?_; rintro e w2 ⟨rfl, hb2⟩))
    go_ret
    exact ⟨by rw [HE.out]; rfl, hb1.trans (hb2.mono hb1.size)⟩
  · have HE : Hid (keyB s = s ++ longB (64 - s.size) 0) := Lib.hid (by unfold keyB keyBase; rw [if_neg h])
    have h64 : ((64 - s.size : Nat) : Int) = 64 - (s.size : Int) := by omega
    have KL2 := fun w => KL.out (64 - s.size) w (by omega)
    rw [h64] at KL2
    have KL3 := Lib.hid KL2
    have hsz : s.size + (longB (64 - s.size) 0).size ≤ 64 := by rw [longB_size]; omega
    clear hs KL2 KL
    go_enter Tryd.func64, Tryd.ntmps64
    go_wp2_with (first
      | (go_at_call 74; refine (KL3.out _).mono ?_; rintro e w2 ⟨rfl, hb2⟩))
    go_ret
    exact ⟨by rw [HE.out]; rfl, hb2⟩

/-- The keyed hash. -/
def hmacB (key text : ByteArray) : ByteArray := digB (xorB (keyB key) 92 ++ digB (xorB (keyB key) 54 ++ text))

set_option maxRecDepth 100000 in
set_option maxHeartbeats 1000000 in
theorem specHmac_any (key text : ByteArray) (w : World) (hk : key.size ≤ 2000000) (ht : text.size ≤ 2000000) :
    Calls Tryd.prog 50 #[.string key, .string text] w fun e w' => e = .returned (.string (hmacB key text)) ∧ Below w.heap.size w w' := by
  have k1 := Lib.hid fun w => specKey_any key w hk
  have hks := keyB_size key
  generalize hK : keyB key = K at k1 hks
  have x1 := Lib.hid fun w => xor_any K 92 w (by omega)
  have x2 := Lib.hid fun w => xor_any K 54 w (by omega)
  have HE : Hid (hmacB key text = digB (xorB K 92 ++ digB (xorB K 54 ++ text))) := Lib.hid (by unfold hmacB; rw [hK])
  have hx1 := xorB_size K 92
  have hx2 := xorB_size K 54
  generalize xorB K 92 = X1 at x1 HE hx1
  generalize xorB K 54 = X2 at x2 HE hx2
  have hm1 : X2.size + text.size ≤ 2000064 := by omega
  have hm2 : X1.size + (digB (X2 ++ text)).size ≤ 96 := by rw [digB_size]; omega
  have d1 := Lib.hid fun w => specDigest_any (X2 ++ text) w (by rw [ByteArray.size_append]; omega)
  have d2 := Lib.hid fun w => specDigest_any (X1 ++ digB (X2 ++ text)) w (by rw [ByteArray.size_append, digB_size]; omega)
  clear hk ht hks hx1 hx2
  go_enter Tryd.func50, Tryd.ntmps50
  go_wp2_with fail
  refine (k1.out _).mono ?_
  rintro e w1 ⟨rfl, hb1⟩
  go_wp2_with fail
  refine (x1.out _).mono ?_
  rintro e w2 ⟨rfl, hb2⟩
  go_wp2_with fail
  refine (x2.out _).mono ?_
  rintro e w3 ⟨rfl, hb3⟩
  go_wp2_with fail
  refine (d1.out _).mono ?_
  rintro e w4 ⟨rfl, hb4⟩
  go_wp2_with fail
  refine (d2.out _).mono ?_
  rintro e w5 ⟨rfl, hb5⟩
  go_wp2
  go_ret
  exact ⟨by rw [HE.out]; rfl, hb1.trans ((hb2.trans ((hb3.trans ((hb4.trans (hb5.mono hb4.size)).mono hb3.size)).mono hb2.size)).mono hb1.size)⟩
end Go.Proofs.YtpjcdppeieakhaaDoor
namespace Go.Proofs.YtpjcdppeieakhaaDoor
open Go.RowKit Go.Proofs.YtpjcdppeieakhaaDoor.Sha Go.Proofs.YtpjcdppeieakhaaDoor.Hexa Go.Proofs.YtpjcdppeieakhaaDoor.Parts Go.Proofs.YtpjcdppeieakhaaDoor.Byt

/-- The block of the call: the state. -/
structure MemI (w wr : World) (g : Nat) (st : Array Value) : Prop where
  state : wr.heap[g]? = some (.cells st 56 (0, 0))
  lo : w.heap.size ≤ g
  below : Below w.heap.size w wr
theorem memI_store {w wr w6 : World} {g : Nat} {st : Array Value} (h : MemI w wr g st) (hb : Below wr.drew.heap.size wr.drew w6) (R : St8) (hs : st.size = 8) :
    ∃ W7, (storeCells ⟨g, 0, none⟩ R.cells.toList 0).run Tryd.prog w6 = .ok () W7 ∧ MemI w W7 g R.cells := by
  have l1 : g < wr.heap.size := (Array.getElem?_eq_some_iff.1 h.state).1
  have b1 : Below wr.heap.size wr w6 := ((Below.refl wr.heap.size wr).drew).trans hb
  have h6 : w6.heap[g]? = some (.cells st 56 (0, 0)) := by rw [b1.block g l1]; exact h.state
  have r := run_storeCells_from (P := Tryd.prog) g 56 R.cells.toList 0 st w6 h6 (by rw [hs]; rfl) (wcells_one R.list)
  have e : (st.toList.take 0 ++ R.cells.toList).toArray = R.cells := by simp
  rw [e] at r
  exact ⟨_, r, setRow_heap _ _ _ _ _ _ h6, h.lo, (h.below.trans (b1.mono h.below.size)).trans ⟨rfl, rfl, rfl, by simp, fun k hk => setRow_other _ _ _ _ (by have := h.lo; omega)⟩⟩

theorem extract_rest (p : ByteArray) (k N : Nat) (hp : p.size = 64 * N) (hk : k < N) : (p.extract (64 * k) (64 * N)).extract 64 (p.extract (64 * k) (64 * N)).size = p.extract (64 * (k + 1)) (64 * N) := by
  rw [ByteArray.extract_extract]
  congr 1
  simp
  omega
theorem extract_head (p : ByteArray) (k N : Nat) (_hp : p.size = 64 * N) (hk : k < N) : (p.extract (64 * k) (64 * N)).extract 0 64 = p.extract (64 * k) (64 * k + 64) := by
  rw [ByteArray.extract_extract]
  congr 1
  omega

theorem head_of {t p : ByteArray} {k N : Nat} (ht : t = p.extract (64 * k) (64 * N)) (hp : p.size = 64 * N) (hk : k < N) : t.extract 0 64 = p.extract (64 * k) (64 * k + 64) := by subst ht; exact extract_head p k N hp hk
theorem rest_of {t p : ByteArray} {k N : Nat} (ht : t = p.extract (64 * k) (64 * N)) (hp : p.size = 64 * N) (hk : k < N) : t.extract 64 t.size = p.extract (64 * (k + 1)) (64 * N) := by subst ht; exact extract_rest p k N hp hk
theorem emptyB (t : ByteArray) : t.toList.isEmpty = (t.size == 0) := by
  rw [Go.ByteArray.toList_eq]
  have : t.size = t.data.toList.length := by simp
  rw [this]
  cases t.data.toList <;> simp

def sizeV : Value → Nat
  | .string t => t.size
  | _ => 0

set_option maxRecDepth 100000 in
set_option maxHeartbeats 4000000 in
theorem implDigest_any (s : ByteArray) (w : World) (hs : s.size ≤ 8000000) (hk0 : IsTab w 0 firstS.list) (hk1 : IsTab w 1 keyL) :
    Calls Tryd.prog 41 #[.string s] w fun e w' => e = .returned (.string (digB s)) ∧ Below w.heap.size w w' := by
  have KP := Lib.hid fun w => Pad.impl_any s w hs
  have HPS := Lib.hid (padB_size s)
  have HPN := Lib.hid (padN_le s hs)
  have HK1 := Lib.hid hk1
  obtain ⟨t0, fr0, hk0⟩ := hk0
  have HK0 := Lib.hid hk0
  clear hk0 hk1 hs
  have HN0 := heap_alloc_new w (.cells (zeros 8) 56)
  have r0 := run_storeCells_from (P := Tryd.prog) w.heap.size 56 (wcells firstS.list).toList 0 (zeros 8) _ HN0 (by simp [zeros, wcells]; rfl) (wcells_one _)
  have MI : MemI w ((w.alloc (.cells (zeros 8) 56)).setRow w.heap.size (wcells firstS.list)) w.heap.size (wcells firstS.list) :=
    ⟨setRow_heap _ _ _ _ _ _ HN0, Nat.le_refl _, ((Below.refl _ _).alloc (Nat.le_refl _) _).trans ⟨rfl, rfl, rfl, by simp, fun k hk => setRow_other _ _ _ _ (by omega)⟩⟩
  have e0 : ((zeros 8).toList.take 0 ++ (wcells firstS.list).toList).toArray = wcells firstS.list := by simp
  rw [e0] at r0
  obtain ⟨W1, hW1⟩ : ∃ W1, (w.alloc (.cells (zeros 8) 56)).setRow w.heap.size (wcells firstS.list) = W1 := ⟨_, rfl⟩
  rw [hW1] at r0 MI
  have HST := Lib.hid (show (blocksS (padB s) 0).cells = wcells firstS.list from rfl)
  obtain ⟨st, hst⟩ : ∃ st, wcells firstS.list = st := ⟨_, rfl⟩
  have s8 : Hid (st.size = 8) := Lib.hid (by rw [← hst]; rfl)
  rw [hst] at r0 MI HST HK0
  have HMI := Lib.hid MI
  clear hst hW1 e0 MI HN0
  go_enter Tryd.func41, Tryd.ntmps41
  go_wp2_with (first
    | (refine wpList_load_row rfl 56 (.global 0) rfl 0 rfl t0 st fr0 _ HK0.out Tryd.underlying56 rfl (by rw [s8.out]; kernel_rfl) ?_)
    | (refine wpList_allocRow rfl 56 rfl (zeros 8) run_allocW ?_)
    | (go_at_call 51; refine (KP.out _).mono ?_; rintro e w5 ⟨rfl, hb5⟩
       have B5 := Lib.hid hb5
       clear hb5))
  have HM5 : Hid (MemI w w5 w.heap.size st) := Lib.hid ⟨by rw [B5.out.block _ (Array.getElem?_eq_some_iff.1 HMI.out.state).1]; exact HMI.out.state, Nat.le_refl _, HMI.out.below.trans (B5.out.mono HMI.out.below.size)⟩
  have HP2 : Hid (({ data := (Pad.padL s).toArray } : ByteArray) = padB s) := Lib.hid rfl
  rw [HP2.out]
  have HEX : Hid (padB s = (padB s).extract (64 * 0) (64 * padN s)) := Lib.hid (by rw [← HPS.out]; simp)
  generalize hpp : padB s = p at HPS HEX HST ⊢
  have HPP := Lib.hid hpp
  generalize hN : padN s = N at HPS HPN HEX
  have HN := Lib.hid hN
  clear hN hpp HP2 r0
  go_loopw [4] (fun pv wr => ∃ (k : Nat) (t : ByteArray), k ≤ N ∧ pv = .string t ∧ t.size = 64 * (N - k) ∧ Hid (t = p.extract (64 * k) (64 * N)) ∧ Hid (MemI w wr w.heap.size (blocksS p k).cells))
    (fun pv _ => sizeV pv)
  case atStart => exact ⟨0, p, Nat.zero_le _, rfl, by have := HPS.out; omega, HEX, Lib.hid (by rw [HST.out]; exact HM5.out)⟩
  case round =>
    clear HM5 HEX
    obtain ⟨k, t, hk, rfl, hts, HT, HM⟩ := hrel
    have hpn := HPN.out
    by_cases hlt : k < N
    · have hem : t.toList.isEmpty = false := by rw [emptyB]; exact beq_eq_false_iff_ne.2 (by omega)
      have hsz : t.size = 64 * (N - k) := hts
      have h64 : (64 : Int) ≤ 64 * ((N - k : Nat) : Int) := by omega
      go_wp2
      refine wp_region_still_tail 3 (by kernel_rfl) (by kernel_rfl) ?_
      simp only [List.take_succ_cons, List.take_zero, List.drop_succ_cons, List.drop_zero]
      refine wpStill_load_row rfl 56 (.tmp 3) rfl w.heap.size rfl _ (blocksS p k).cells (0, 0) _ HM.out.state Tryd.underlying56 rfl (by kernel_rfl) ?_
      still_step
      still_step
      refine wpStill_nil ?_
      change wpList _ _ _ _ _ wr.drew
      have hhd : t.extract 0 64 = p.extract (64 * k) (64 * k + 64) := head_of HT.out HPS.out hlt
      have hrs : t.extract 64 (64 * (N - k)) = p.extract (64 * (k + 1)) (64 * N) := by rw [← hts]; exact rest_of HT.out HPS.out hlt
      have hrz : (t.extract 64 (64 * (N - k))).size = 64 * (N - (k + 1)) := by rw [ByteArray.size_extract, hts]; omega
      have HB := Lib.hid (show (p.extract (64 * k) (64 * k + 64)).size = 64 by simp; have := HPS.out; omega)
      have hnx : blockS (blocksS p k) keyL (p.extract (64 * k) (64 * k + 64)) = blocksS p (k + 1) := rfl
      have hk1 := Lib.hid (HK1.out.below HK1.out.lt (HM.out.below.drew))
      rw [hhd]
      have HRS := Lib.hid hrs
      have HRZ := Lib.hid hrz
      clear hhd hrs hem h64 hrz
      go_wp2_with (first
        | (go_at_call 52; refine (after_any (blocksS p k) (p.extract (64 * k) (64 * k + 64)) wr.drew HB.out hk1.out).mono ?_; rintro e w6 ⟨rfl, hb6⟩
           rw [hnx]
           obtain ⟨W7, r7, M7⟩ := memI_store HM.out hb6 (blocksS p (k + 1)) rfl
           have HM7 := Lib.hid M7
           clear M7 hb6 hnx
           obtain ⟨cs2, hcs2⟩ : ∃ cs2, (blocksS p (k + 1)).cells = cs2 := ⟨_, rfl⟩
           have h82 : cs2.size = 8 := by rw [← hcs2]; rfl
           rw [hcs2] at r7 HM7 ⊢
           have HC2 := Lib.hid hcs2
           clear hcs2
           have h64 : (64 : Int) ≤ 64 * ((N - k : Nat) : Int) := by omega))
      go_roundw
      case rel => exact ⟨k + 1, t.extract 64 (64 * (N - k)), by omega, rfl, HRZ.out, HRS, Lib.hid (by rw [HC2.out]; exact HM7.out)⟩
      case measure =>
        show (t.extract 64 (64 * (N - k))).size < t.size
        rw [HRZ.out]; omega
    · obtain rfl : k = N := by omega
      have hem : t.toList.isEmpty = true := by rw [emptyB]; exact beq_iff_eq.2 (by omega)
      have m0 := HM.out.state
      generalize hS : blocksS p k = S at HM m0
      have HSS : Hid (digB s = ⟨(textL S).toArray⟩) := Lib.hid (by rw [← hS, ← HPP.out, ← HN.out]; rfl)
      clear hS
      go_wp2_with (first
        | (refine wpList_load_row rfl 56 (.tmp 3) rfl w.heap.size rfl 56 S.cells (0, 0) _ m0 Tryd.underlying56 rfl (by kernel_rfl) ?_)
        | (go_at_call 53; refine (text_any S _).mono ?_; rintro e w6 ⟨rfl, hb6⟩))
      go_ret
      exact ⟨by rw [HSS.out]; rfl, HM.out.below.trans (hb6.mono HM.out.below.size)⟩
end Go.Proofs.YtpjcdppeieakhaaDoor
namespace Go.Proofs.YtpjcdppeieakhaaDoor
open Go.RowKit Go.Proofs.YtpjcdppeieakhaaDoor.Sha Go.Proofs.YtpjcdppeieakhaaDoor.Hexa

/-- The two tables of the program. -/
def Tabs (w : World) : Prop := IsTab w 0 firstS.list ∧ IsTab w 1 keyL
theorem Tabs.below {w w' : World} (h : Tabs w) (hb : Below w.heap.size w w') : Tabs w' := ⟨h.1.below h.1.lt hb, h.2.below h.2.lt hb⟩

/-- Two texts compared, as the walk has it. -/
theorem same_text (a b : ByteArray) : (a.toList == b.toList) = decide (a = b) := by
  rw [Go.ByteArray.toList_eq, Go.ByteArray.toList_eq]
  by_cases h : a = b
  · rw [decide_eq_true h, h]; simp
  · rw [decide_eq_false h]
    refine beq_eq_false_iff_ne.2 (fun e => h (ByteArray.ext (Array.toList_inj.1 e)))

/-- The first n bytes of a keyed hash; none where n is not from 1 to 32. -/
def markB (k t : ByteArray) (n : Int) : ByteArray := if 1 ≤ n ∧ n ≤ 32 then (hmacB k t).extract 0 n.toNat else ⟨#[]⟩
theorem hmacB_size (k t : ByteArray) : (hmacB k t).size = 32 := rfl

set_option maxRecDepth 100000 in
set_option maxHeartbeats 400000 in
theorem specMark_any (k t : ByteArray) (n : Int) (w : World) (hk : k.size ≤ 2000000) (ht : t.size ≤ 2000000) :
    Calls Tryd.prog 39 #[.string k, .string t, .int .i64 n] w fun e w' => e = .returned (.string (markB k t n)) ∧ Below w.heap.size w w' := by
  have k1 := Lib.hid fun w => specHmac_any k t w hk ht
  have hds := hmacB_size k t
  clear hk ht
  by_cases hn : 1 ≤ n ∧ n ≤ 32
  · have HE : Hid (markB k t n = (hmacB k t).extract 0 n.toNat) := Lib.hid (if_pos hn)
    have HR := Lib.hid hn
    have hi := hn.1
    have hj := hn.2
    clear hn
    go_enter Tryd.func39, Tryd.ntmps39
    go_wp2_with (first
      | (go_at_call 47; refine (range_yes _ HR.out).mono ?_; rintro e w1 ⟨rfl, rfl⟩)
      | (go_at_call 50; refine (k1.out _).mono ?_; rintro e w1 ⟨rfl, hb1⟩))
    go_ret
    exact ⟨by rw [HE.out]; rfl, hb1⟩
  · have HE : Hid (markB k t n = ⟨#[]⟩) := Lib.hid (if_neg hn)
    have HR := Lib.hid hn
    clear hn
    go_enter Tryd.func39, Tryd.ntmps39
    go_wp2_with (first
      | (go_at_call 47; refine (range_no _ HR.out).mono ?_; rintro e w1 ⟨rfl, rfl⟩))
    go_ret
    exact ⟨by rw [HE.out]; rfl, Below.refl _ _⟩

end Go.Proofs.YtpjcdppeieakhaaDoor
namespace Go.Proofs.YtpjcdppeieakhaaDoor
open Go.RowKit Go.Proofs.YtpjcdppeieakhaaDoor.Sha Go.Proofs.YtpjcdppeieakhaaDoor.Hexa Go.Proofs.YtpjcdppeieakhaaDoor.Byt

theorem text_nil (x : ByteArray) (h : x.size = 0) : x = ⟨#[]⟩ := by
  apply ByteArray.ext
  exact Array.eq_empty_of_size_eq_zero h
theorem text_not (x : ByteArray) (h : 0 < x.size) : (x.toList == []) = false := by
  apply beq_eq_false_iff_ne.2
  intro e
  have h1 : x.toList.length = x.size := by rw [Go.ByteArray.toList_eq]; simp
  rw [e] at h1
  simp at h1
  omega
theorem text_not' (x : ByteArray) (h : 0 < x.size) : ([] == x.toList) = false := by
  have := text_not x h
  apply beq_eq_false_iff_ne.2
  intro e
  rw [← e] at this
  simp at this

/-- The mark of a word and a file's two numbers. -/
def madeB (s wd : ByteArray) (i g : Int) : ByteArray := if (numTextB i 1).size = 1 ∧ (numTextB g 2).size = 2 then markB s (wd ++ numTextB i 1 ++ numTextB g 2) 8 else ⟨#[]⟩
def keyWord : ByteArray := ⟨#[107, 101, 121]⟩
def wrapWord : ByteArray := ⟨#[119, 114, 97, 112]⟩
def pageWord : ByteArray := ⟨#[112, 97, 103, 101]⟩
def markWord : ByteArray := ⟨#[109, 97, 114, 107]⟩
def fileKeyB (s : ByteArray) (i g : Int) : ByteArray := madeB s keyWord i g
def wrapMaskB (s : ByteArray) (i g : Int) : ByteArray := madeB s wrapWord i g
def wrappedB (s : ByteArray) (i g : Int) : ByteArray := xorT (fileKeyB s i g) (wrapMaskB s i g)
def unwB (s : ByteArray) (i g : Int) (t : ByteArray) : Bool := decide (0 < (xorT t (wrapMaskB s i g)).size ∧ xorT t (wrapMaskB s i g) = fileKeyB s i g)
def unwT (s : ByteArray) (i g : Int) (t : ByteArray) : ByteArray := if unwB s i g t = true then xorT t (wrapMaskB s i g) else ⟨#[]⟩

theorem markB_le (k t : ByteArray) (n : Int) : (markB k t n).size ≤ 32 := by
  unfold markB
  split
  · rw [ByteArray.size_extract, hmacB_size]; omega
  · show 0 ≤ 32; omega
theorem madeB_le (s wd : ByteArray) (i g : Int) : (madeB s wd i g).size ≤ 32 := by
  unfold madeB
  split
  · exact markB_le _ _ _
  · show 0 ≤ 32; omega
theorem madeB_no (s wd : ByteArray) (i g : Int) (h : ¬ ((numTextB i 1).size = 1 ∧ (numTextB g 2).size = 2)) : madeB s wd i g = ⟨#[]⟩ := if_neg h
theorem madeB_yes (s wd : ByteArray) (i g : Int) (h : (numTextB i 1).size = 1 ∧ (numTextB g 2).size = 2) : madeB s wd i g = markB s (wd ++ numTextB i 1 ++ numTextB g 2) 8 := if_pos h
end Go.Proofs.YtpjcdppeieakhaaDoor
namespace Go.Proofs.YtpjcdppeieakhaaDoor
open Go.RowKit Go.Proofs.YtpjcdppeieakhaaDoor.Hexa Go.Proofs.YtpjcdppeieakhaaDoor.Byt Go.Proofs.YtpjcdppeieakhaaDoor.BitsM Go.Proofs.YtpjcdppeieakhaaDoor.Parts

set_option maxRecDepth 100000 in
set_option maxHeartbeats 1000000 in
theorem specNum_yes (m k : Nat) (w : World) (hk : 1 ≤ k) (hk' : k ≤ 7) (hm : m < 256 ^ k) :
    Calls Tryd.prog 46 #[.int .i64 m, .int .i64 k] w fun e w' => e = .returned (.string (numB m k)) ∧ Below w.heap.size w w' := by
  have hmb : m < 72057594037927936 := Nat.lt_of_lt_of_le hm (Nat.le_trans (Nat.pow_le_pow_right (by omega) hk') (by decide))
  have hq := shift_zero hm
  have h0 : ¬ ((m : Int) < 0) := by omega
  have HR : Hid ((1 : Int) ≤ (k : Int) ∧ (k : Int) ≤ 7) := Lib.hid (by omega)
  clear hm
  go_enter Tryd.func46, Tryd.ntmps46
  go_wp2_with (first
    | (go_at_call 47; refine (range_yes _ HR.out).mono ?_; rintro e w1 ⟨rfl, rfl⟩))
  try rw [hq]
  clear hq
  go_loopw [5, 6] (fun v iv wr => ∃ j : Nat, j ≤ k ∧ iv = .int .i64 ((k : Int) - 1 - j) ∧ Bytes wr w1.heap.size 5 v (numL m k j) ∧ Below w1.heap.size w1 wr)
    (fun _ iv _ => (intOf iv + 1).toNat)
  case atStart => exact ⟨0, Nat.zero_le _, by go_num, bytes_of_own (l := []) (World.ownsRow_lit w1 #[] 0 (Nat.le_refl _) (by decide) rfl), (Below.refl _ _).alloc (Nat.le_refl _) _⟩
  case round =>
    obtain ⟨j, hj, rfl, hb, hg⟩ := hrel
    obtain ⟨a, c, rfl⟩ := bytes_len hb
    have hl := numL_length m k j
    by_cases hlt : j < k
    · have hw : IntKind.u64.wrap ((k : Int) - 1 - j) = (k : Int) - 1 - j := IntWalk.u64_in _ (by omega)
      have hsh : ((k : Int) - 1 - j).toNat = k - 1 - j := by omega
      have hge : 0 ≤ (k : Int) - 1 - j := by omega
      go_wp2_with (first
        | (at_builtin; refine wpList_append_out rfl (.tmp 29) (.tmp 36) 22 22 rfl _ _ rfl rfl (outB _ hb hg.size _ (UInt8.ofNat (m / 256 ^ (k - 1 - j))) _ (num_byte m (k - 1 - j)) (by omega)) ?_; intro v1 w2 hb1 hg1))
      rw [numL_next] at hb1
      go_roundw
      case rel => exact ⟨j + 1, by omega, by go_num, hb1, (hg.alloc hg.size _).trans hg1⟩
      case measure => simp [intOf]; omega
    · obtain rfl : j = k := by omega
      have hconv := bytes_string (P := Tryd.prog) 22 9 Tryd.underlying22 Tryd.underlying5 Tryd.underlying9 hb
      rw [hl] at hconv
      go_wp2
      go_ret
      exact ⟨rfl, hg⟩

set_option maxRecDepth 100000 in
set_option maxHeartbeats 1000000 in
theorem specNum_no (n width : Int) (w : World) (h : ¬ NumFits n width) (hn : n ≤ 9223372036854775807) :
    Calls Tryd.prog 46 #[.int .i64 n, .int .i64 width] w fun e w' => e = .returned (.string ⟨#[]⟩) ∧ w' = w := by
  by_cases h0 : n < 0
  · go_enter Tryd.func46, Tryd.ntmps46
    go_wp2
    go_ret
    exact ⟨rfl, rfl⟩
  · by_cases hr : 1 ≤ width ∧ width ≤ 7
    · have hbig : ¬ n < 256 ^ width.toNat := fun hlt => h ⟨by omega, hr, hlt⟩
      obtain ⟨k, rfl⟩ : ∃ k : Nat, width = k := ⟨width.toNat, by omega⟩
      obtain ⟨m, rfl⟩ : ∃ m : Nat, n = m := ⟨n.toNat, by omega⟩
      have hm : 256 ^ k ≤ m := by
        have e : ((k : Int).toNat) = k := by omega
        rw [e] at hbig
        have e2 : (256 : Int) ^ k = ((256 ^ k : Nat) : Int) := by simp
        rw [e2] at hbig
        omega
      have hq := shift_pos hm
      have HR := Lib.hid hr
      have hk7 : k ≤ 7 := by omega
      clear h hbig hm hr
      go_enter Tryd.func46, Tryd.ntmps46
      go_wp2_with (first
        | (go_at_call 47; refine (range_yes _ HR.out).mono ?_; rintro e w1 ⟨rfl, rfl⟩))
      go_ret
      exact ⟨rfl, rfl⟩
    · have HR := Lib.hid hr
      clear h hr
      go_enter Tryd.func46, Tryd.ntmps46
      go_wp2_with (first
        | (go_at_call 47; refine (range_no _ HR.out).mono ?_; rintro e w1 ⟨rfl, rfl⟩))
      go_ret
      exact ⟨rfl, rfl⟩

theorem specNum_any (n width : Int) (w : World) (hn : n ≤ 9223372036854775807) :
    Calls Tryd.prog 46 #[.int .i64 n, .int .i64 width] w fun e w' => e = .returned (.string (numTextB n width)) ∧ Below w.heap.size w w' := by
  by_cases h : NumFits n width
  · have hE : numTextB n width = numB n.toNat width.toNat := by unfold numTextB; exact if_pos h
    obtain ⟨h0, ⟨h1, h7⟩, hf⟩ := h
    obtain ⟨m, rfl⟩ : ∃ m : Nat, n = m := ⟨n.toNat, by omega⟩
    obtain ⟨k, rfl⟩ : ∃ k : Nat, width = k := ⟨width.toNat, by omega⟩
    rw [hE]
    simp only [Int.toNat_natCast] at hf ⊢
    have e2 : (256 : Int) ^ k = ((256 ^ k : Nat) : Int) := by simp
    rw [e2] at hf
    exact specNum_yes m k w (by omega) (by omega) (by omega)
  · have hE : numTextB n width = ⟨#[]⟩ := by unfold numTextB; exact if_neg h
    rw [hE]
    exact (specNum_no n width w h hn).mono fun e w' ⟨he, hw⟩ => ⟨he, by rw [hw]; exact Below.refl _ _⟩
end Go.Proofs.YtpjcdppeieakhaaDoor
namespace Go.Proofs.YtpjcdppeieakhaaDoor
open Go.RowKit Go.Proofs.YtpjcdppeieakhaaDoor.Hexa Go.Proofs.YtpjcdppeieakhaaDoor.Byt Go.Proofs.YtpjcdppeieakhaaDoor.BitsM Go.Proofs.YtpjcdppeieakhaaDoor.Parts

set_option maxRecDepth 100000 in
set_option maxHeartbeats 1000000 in
theorem specXor_any (a b : ByteArray) (w : World) (ha : a.size ≤ 8000000) :
    Calls Tryd.prog 38 #[.string a, .string b] w fun e w' => e = .returned (.string (xorT a b)) ∧ Below w.heap.size w w' := by
  obtain ⟨i0, hi, hz0, hz1, hz2⟩ := info_parts infoByte
  by_cases hl : a.size = b.size
  · have HE : Hid (xorT a b = ⟨(xorL a b a.size).toArray⟩) := Lib.hid (if_pos hl)
    go_enter Tryd.func38, Tryd.ntmps38
    go_wp2
    go_loopw [5, 6] (fun v iv wr => ∃ k : Nat, k ≤ a.size ∧ iv = .int .i64 k ∧ wr.ownsRow w.heap.size 5 1 v k (bcells (xorL a b k)) ∧ Below w.heap.size w wr)
      (fun _ iv _ => a.size - (intOf iv).toNat)
    case atStart => exact ⟨0, Nat.zero_le _, rfl, World.ownsRow_lit w #[] 0 (Nat.le_refl _) (by decide) rfl, (Below.refl _ _).alloc (Nat.le_refl _) _⟩
    case round =>
      obtain ⟨k, hk, rfl, hown, hbel⟩ := hrel
      by_cases hlt : k < a.size
      · have hlt' : k < b.size := by omega
        have e1 := xor8 (a[k]'hlt) (b[k]'hlt')
        have hnx := xorL_next a b k hlt hlt'
        have hzl := ((a[k]'hlt) ^^^ (b[k]'hlt')).toNat_lt
        generalize ((a[k]'hlt) ^^^ (b[k]'hlt')) = z at e1 hnx hzl
        have HNX := Lib.hid hnx
        clear hnx
        go_wp2
        go_region_law (first
          | (refine step_append_lies _ rfl (.tmp 19) (.tmp 27) 22 rfl w.heap.size 5 i0 (.int .u8 0) 1 1 Tryd.underlying22 hi hz0 hz1 hz2 rfl (by decide) u5 k (bcells (xorL a b k)) (by simp [Act.eval]) (hown.alloc _) ⟨wr.heap.size, 0, none⟩ 1 1 [.int .u8 (z.toNat : Int)] (by simp [Act.eval]) rfl (World.news_of_block (heap_alloc_new _ _)) (by simp [Value.oneCell']) (by decide) (by unfold maxLen; omega) (by omega) (by have := hbel.size; simp; omega) _ rfl ?_; intro g cap w1 hown1 hgrow1 hat1 hlt1))
        all_goals
          have hb1 : Below w.heap.size w w1 := ((hbel.alloc hbel.size _).drew).grown hgrow1 (by have := hbel.size; simp; omega) (own_block_ge hown)
          rw [HNX.out] at hown1
          have HO := Lib.hid hown1
          clear hown1 hgrow1 hat1 hlt1 e1 hown
          go_wp2
          go_roundw
          case rel => exact ⟨k + 1, by omega, by go_num, HO.out, hb1⟩
          case measure => simp [intOf]; omega
      · obtain rfl : k = a.size := by omega
        have hconv := own_string (P := Tryd.prog) 22 9 Tryd.underlying22 Tryd.underlying5 Tryd.underlying9 hown
        go_wp2
        go_ret
        exact ⟨by rw [HE.out, hl]; rfl, hbel⟩
  · have HE : Hid (xorT a b = ⟨#[]⟩) := Lib.hid (if_neg hl)
    go_enter Tryd.func38, Tryd.ntmps38
    go_wp2
    go_ret
    exact ⟨by rw [HE.out]; rfl, Below.refl _ _⟩
end Go.Proofs.YtpjcdppeieakhaaDoor
namespace Go.Proofs.YtpjcdppeieakhaaDoor
open Go.RowKit Go.Proofs.YtpjcdppeieakhaaDoor.Sha Go.Proofs.YtpjcdppeieakhaaDoor.Hexa Go.Proofs.YtpjcdppeieakhaaDoor.Byt

set_option maxRecDepth 100000 in
set_option maxHeartbeats 1000000 in
theorem specMade_any (s wd : ByteArray) (i g : Int) (w : World) (hs : s.size ≤ 1100000) (hwd : wd.size ≤ 8) (hi : i ≤ 9223372036854775807) (hg : g ≤ 9223372036854775807) :
    Calls Tryd.prog 35 #[.string s, .string wd, .int .i64 i, .int .i64 g] w fun e w' => e = .returned (.string (madeB s wd i g)) ∧ Below w.heap.size w w' := by
  have h1 := fun w => specNum_any i 1 w hi
  have h2 := fun w => specNum_any g 2 w hg
  have hx : (numTextB i 1).size = 0 ∨ (numTextB i 1).size = 1 := numTextB_size i 1
  have hy : (numTextB g 2).size = 0 ∨ (numTextB g 2).size = 2 := numTextB_size g 2
  have hE : madeB s wd i g = if (numTextB i 1).size = 1 ∧ (numTextB g 2).size = 2 then markB s (wd ++ numTextB i 1 ++ numTextB g 2) 8 else ⟨#[]⟩ := rfl
  generalize madeB s wd i g = r at hE ⊢
  generalize numTextB i 1 = x at h1 hx hE
  generalize numTextB g 2 = y at h2 hy hE
  have k1 := Lib.hid h1
  have k2 := Lib.hid h2
  have HE := Lib.hid hE
  have HS : Hid (s.size ≤ 2000000) := Lib.hid (by omega)
  have HW := Lib.hid hwd
  clear h1 h2 hi hg hE hs hwd
  go_enter Tryd.func35, Tryd.ntmps35
  go_wp2_with fail
  refine (k1.out _).mono ?_
  rintro e w1 ⟨rfl, hb1⟩
  go_wp2_with fail
  refine (k2.out _).mono ?_
  rintro e w2 ⟨rfl, hb2⟩
  have HB := Lib.hid (hb1.trans (hb2.mono hb1.size))
  clear hb1 hb2
  rcases hx with hx | hx
  · obtain rfl := text_nil x hx
    have hr : r = ⟨#[]⟩ := by rw [HE.out]; exact if_neg (by have h0 : (⟨#[]⟩ : ByteArray).size = 0 := rfl; omega)
    subst hr
    go_wp2
    go_ret
    exact ⟨rfl, HB.out⟩
  · have ex := text_not x (by omega)
    rcases hy with hy | hy
    · obtain rfl := text_nil y hy
      have hr : r = ⟨#[]⟩ := by rw [HE.out]; exact if_neg (by have h0 : (⟨#[]⟩ : ByteArray).size = 0 := rfl; omega)
      subst hr
      go_wp2
      go_ret
      exact ⟨rfl, HB.out⟩
    · have ey := text_not y (by omega)
      have hr : r = markB s (wd ++ x ++ y) 8 := by rw [HE.out]; exact if_pos ⟨hx, hy⟩
      have hsz : (wd ++ x ++ y).size ≤ 16 := by rw [ByteArray.size_append, ByteArray.size_append]; have := HW.out; omega
      have k3 := Lib.hid (fun w => specMark_any s (wd ++ x ++ y) 8 w HS.out (by omega))
      rw [← hr] at k3
      have hwd := HW.out
      have hs1 : (wd ++ x).size ≤ 9 := by rw [ByteArray.size_append]; omega
      clear hr hsz HE k1 k2
      go_wp2_with fail
      refine (k3.out _).mono ?_
      rintro e w3 ⟨rfl, hb3⟩
      have HB3 := Lib.hid (HB.out.trans (hb3.mono HB.out.size))
      clear hb3
      go_wp2
      go_ret
      exact ⟨rfl, HB3.out⟩

set_option maxRecDepth 100000 in
set_option maxHeartbeats 400000 in
theorem specFileKey_any (s : ByteArray) (i g : Int) (w : World) (hs : s.size ≤ 1100000) (hi : i ≤ 9223372036854775807) (hg : g ≤ 9223372036854775807) :
    Calls Tryd.prog 17 #[.string s, .int .i64 i, .int .i64 g] w fun e w' => e = .returned (.string (fileKeyB s i g)) ∧ Below w.heap.size w w' := by
  have k1 := Lib.hid fun w => specMade_any s keyWord i g w hs (by show 3 ≤ 8; omega) hi hg
  unfold fileKeyB
  generalize madeB s keyWord i g = r at k1 ⊢
  clear hs hi hg
  unfold keyWord at k1
  go_enter Tryd.func17, Tryd.ntmps17
  go_wp2_with fail
  refine (k1.out _).mono ?_
  rintro e w1 ⟨rfl, hb1⟩
  go_wp2
  go_ret
  exact ⟨rfl, hb1⟩
set_option maxRecDepth 100000 in
set_option maxHeartbeats 400000 in
theorem specWrapMask_any (s : ByteArray) (i g : Int) (w : World) (hs : s.size ≤ 1100000) (hi : i ≤ 9223372036854775807) (hg : g ≤ 9223372036854775807) :
    Calls Tryd.prog 22 #[.string s, .int .i64 i, .int .i64 g] w fun e w' => e = .returned (.string (wrapMaskB s i g)) ∧ Below w.heap.size w w' := by
  have k1 := Lib.hid fun w => specMade_any s wrapWord i g w hs (by show 4 ≤ 8; omega) hi hg
  unfold wrapMaskB
  generalize madeB s wrapWord i g = r at k1 ⊢
  clear hs hi hg
  unfold wrapWord at k1
  go_enter Tryd.func22, Tryd.ntmps22
  go_wp2_with fail
  refine (k1.out _).mono ?_
  rintro e w1 ⟨rfl, hb1⟩
  go_wp2
  go_ret
  exact ⟨rfl, hb1⟩

set_option maxRecDepth 100000 in
set_option maxHeartbeats 400000 in
theorem specWrapped_any (s : ByteArray) (i g : Int) (w : World) (hs : s.size ≤ 1100000) (hi : i ≤ 9223372036854775807) (hg : g ≤ 9223372036854775807) :
    Calls Tryd.prog 23 #[.string s, .int .i64 i, .int .i64 g] w fun e w' => e = .returned (.string (wrappedB s i g)) ∧ Below w.heap.size w w' := by
  have k1 := Lib.hid fun w => specFileKey_any s i g w hs hi hg
  have k2 := Lib.hid fun w => specWrapMask_any s i g w hs hi hg
  have hz : (fileKeyB s i g).size ≤ 32 := madeB_le _ _ _ _
  unfold wrappedB
  generalize fileKeyB s i g = x at k1 hz ⊢
  generalize wrapMaskB s i g = y at k2 ⊢
  have k3 := Lib.hid fun w => specXor_any x y w (by omega)
  clear hs hi hg hz
  go_enter Tryd.func23, Tryd.ntmps23
  go_wp2_with fail
  refine (k1.out _).mono ?_
  rintro e w1 ⟨rfl, hb1⟩
  go_wp2_with fail
  refine (k2.out _).mono ?_
  rintro e w2 ⟨rfl, hb2⟩
  go_wp2_with fail
  refine (k3.out _).mono ?_
  rintro e w3 ⟨rfl, hb3⟩
  go_wp2
  go_ret
  exact ⟨rfl, hb1.trans ((hb2.trans (hb3.mono hb2.size)).mono hb1.size)⟩

set_option maxRecDepth 100000 in
set_option maxHeartbeats 1000000 in
theorem specUnwrapped_any (s : ByteArray) (i g : Int) (t : ByteArray) (w : World) (hs : s.size ≤ 1100000) (hi : i ≤ 9223372036854775807) (hg : g ≤ 9223372036854775807) (ht : t.size ≤ 2000000) :
    Calls Tryd.prog 24 #[.string s, .int .i64 i, .int .i64 g, .string t] w fun e w' => e = .returned (.tuple #[.string (unwT s i g t), .bool (unwB s i g t)]) ∧ Below w.heap.size w w' := by
  have k1 := Lib.hid fun w => specFileKey_any s i g w hs hi hg
  have k2 := Lib.hid fun w => specWrapMask_any s i g w hs hi hg
  have hB : unwB s i g t = decide (0 < (xorT t (wrapMaskB s i g)).size ∧ xorT t (wrapMaskB s i g) = fileKeyB s i g) := rfl
  have hT : unwT s i g t = if unwB s i g t = true then xorT t (wrapMaskB s i g) else ⟨#[]⟩ := rfl
  generalize unwB s i g t = b at hB hT ⊢
  generalize unwT s i g t = u at hT ⊢
  generalize fileKeyB s i g = x at k1 hB
  generalize wrapMaskB s i g = y at k2 hB hT
  have k3 := Lib.hid fun w => specXor_any t y w (by omega)
  generalize xorT t y = z at k3 hB hT
  clear hs hi hg ht
  have HB := Lib.hid hB
  have HT := Lib.hid hT
  clear hB hT
  go_enter Tryd.func24, Tryd.ntmps24
  go_wp2_with fail
  refine (k2.out _).mono ?_
  rintro e w1 ⟨rfl, hb1⟩
  go_wp2_with fail
  refine (k3.out _).mono ?_
  rintro e w2 ⟨rfl, hb2⟩
  have HB2 := Lib.hid (hb1.trans (hb2.mono hb1.size))
  clear hb1 hb2
  rcases Nat.eq_zero_or_pos z.size with hz | hz
  · obtain rfl := text_nil z hz
    have hb : b = false := by rw [HB.out]; exact decide_eq_false (fun h => Nat.lt_irrefl 0 h.1)
    subst hb
    have hu : u = ⟨#[]⟩ := by rw [HT.out]; exact if_neg (by simp)
    subst hu
    go_wp2
    go_ret2
    exact ⟨rfl, HB2.out⟩
  · have ez := text_not z hz
    go_wp2_with fail
    refine (k1.out _).mono ?_
    rintro e w3 ⟨rfl, hb3⟩
    have HB3 := Lib.hid (HB2.out.trans (hb3.mono HB2.out.size))
    clear hb3
    have st := same_text z x
    by_cases hzx : z = x
    · have hb : b = true := by rw [HB.out]; exact decide_eq_true ⟨hz, hzx⟩
      subst hb
      have hu : u = z := by rw [HT.out]; exact if_pos rfl
      subst hu
      rw [decide_eq_true hzx] at st
      subst hzx
      clear HB HT
      go_wp2
      go_ret2
      exact ⟨rfl, HB3.out⟩
    · have hb : b = false := by rw [HB.out]; exact decide_eq_false (fun h => hzx h.2)
      subst hb
      have hu : u = ⟨#[]⟩ := by rw [HT.out]; exact if_neg (by simp)
      subst hu
      rw [decide_eq_false hzx] at st
      have nt : ¬ (z.toList = x.toList) := beq_eq_false_iff_ne.1 st
      clear HB HT hzx
      go_wp2
      go_ret2
      exact ⟨rfl, HB3.out⟩

set_option maxRecDepth 100000 in
set_option maxHeartbeats 400000 in
theorem specPageKey_any (k : ByteArray) (w : World) (hk : k.size ≤ 2000000) :
    Calls Tryd.prog 25 #[.string k] w fun e w' => e = .returned (.string (markB k pageWord 16)) ∧ Below w.heap.size w w' := by
  have k1 := Lib.hid fun w => specMark_any k pageWord 16 w hk (by show 4 ≤ _; omega)
  generalize markB k pageWord 16 = r at k1 ⊢
  clear hk
  unfold pageWord at k1
  go_enter Tryd.func25, Tryd.ntmps25
  go_wp2_with fail
  refine (k1.out _).mono ?_
  rintro e w1 ⟨rfl, hb1⟩
  go_wp2
  go_ret
  exact ⟨rfl, hb1⟩
set_option maxRecDepth 100000 in
set_option maxHeartbeats 400000 in
theorem specMarkKey_any (k : ByteArray) (w : World) (hk : k.size ≤ 2000000) :
    Calls Tryd.prog 26 #[.string k] w fun e w' => e = .returned (.string (markB k markWord 16)) ∧ Below w.heap.size w w' := by
  have k1 := Lib.hid fun w => specMark_any k markWord 16 w hk (by show 4 ≤ _; omega)
  generalize markB k markWord 16 = r at k1 ⊢
  clear hk
  unfold markWord at k1
  go_enter Tryd.func26, Tryd.ntmps26
  go_wp2_with fail
  refine (k1.out _).mono ?_
  rintro e w1 ⟨rfl, hb1⟩
  go_wp2
  go_ret
  exact ⟨rfl, hb1⟩
end Go.Proofs.YtpjcdppeieakhaaDoor
namespace Go.Proofs.YtpjcdppeieakhaaDoor
open Go.RowKit Go.Proofs.YtpjcdppeieakhaaDoor.BitsM

/-- The first k bytes agree. -/
def SameTo (a b : ByteArray) (k : Nat) : Prop := ∀ j, j < k → a.data.toList[j]? = b.data.toList[j]?
theorem same_all {a b : ByteArray} (hl : a.size = b.size) : SameTo a b a.size ↔ a = b := by
  constructor
  · intro h
    apply ByteArray.ext
    apply Array.toList_inj.1
    apply List.ext_getElem?
    intro j
    by_cases hj : j < a.size
    · exact h j hj
    · have h1 : a.data.toList.length = a.size := by simp
      have h2 : b.data.toList.length = b.size := by simp
      rw [List.getElem?_eq_none (by omega), List.getElem?_eq_none (by omega)]
  · rintro rfl j _; rfl
theorem get_toList (a : ByteArray) (k : Nat) (h : k < a.size) : a.data.toList[k]? = some (a[k]'h) := by
  have h1 : k < a.data.toList.length := by simpa using h
  rw [List.getElem?_eq_getElem h1]; rfl
/-- One byte more. -/
theorem same_next {a b : ByteArray} {k y : Nat} (ha : k < a.size) (hb : k < b.size) (hy : y = 0 ↔ SameTo a b k) : (y ||| ((a[k]'ha) ^^^ (b[k]'hb)).toNat = 0) ↔ SameTo a b (k + 1) := by
  rw [Nat.or_eq_zero_iff, hy]
  have hx : ((a[k]'ha) ^^^ (b[k]'hb)).toNat = 0 ↔ a[k]'ha = b[k]'hb := by
    constructor
    · intro h
      have : (a[k]'ha) ^^^ (b[k]'hb) = 0 := by apply UInt8.toNat.inj; simpa using h
      exact UInt8.xor_eq_zero_iff.1 this
    · intro h; rw [h]; simp
  rw [hx]
  constructor
  · rintro ⟨h1, h2⟩ j hj
    by_cases e : j = k
    · subst e; rw [get_toList a j ha, get_toList b j hb, h2]
    · exact h1 j (by omega)
  · intro h
    refine ⟨fun j hj => h j (by omega), ?_⟩
    have := h k (by omega)
    rw [get_toList a k ha, get_toList b k hb] at this
    exact Option.some.inj this

end Go.Proofs.YtpjcdppeieakhaaDoor
namespace Go.Proofs.YtpjcdppeieakhaaDoor
open Go.RowKit Go.Proofs.YtpjcdppeieakhaaDoor.BitsM

theorem below_drewN {B : Nat} (w : World) (m : Nat) : Below B w (w.drewN m) := ⟨rfl, rfl, rfl, Nat.le_refl _, fun _ _ => rfl⟩

set_option maxRecDepth 100000 in
set_option maxHeartbeats 1000000 in
theorem implSame_any (a b : ByteArray) (w : World) (ha : a.size ≤ 100000000) :
    Calls Tryd.prog 32 #[.string a, .string b] w fun e w' => e = .returned (.bool (decide (a = b))) ∧ ∃ m, w' = w.drewN m := by
  by_cases hl : a.size = b.size
  · go_enter Tryd.func32, Tryd.ntmps32
    go_wp2
    go_loopw [5, 14] (fun yv iv wr => ∃ (k m : Nat) (y : UInt8), k ≤ a.size ∧ iv = .int .i64 k ∧ yv = .int .u8 y.toNat ∧ Hid (y.toNat = 0 ↔ SameTo a b k) ∧ wr = w.drewN m) (fun _ iv _ => a.size - (intOf iv).toNat)
    case atStart => exact ⟨0, 0, 0, Nat.zero_le _, rfl, rfl, Lib.hid ⟨fun _ j hj => by omega, fun _ => rfl⟩, rfl⟩
    case round =>
      obtain ⟨k, m, y, hk, rfl, rfl, HY, rfl⟩ := hrel
      by_cases hlt : k < a.size
      · have hlt' : k < b.size := by omega
        have e1 := xor8 (a[k]'hlt) (b[k]'hlt')
        have e2 := or8 y ((a[k]'hlt) ^^^ (b[k]'hlt'))
        have HN := Lib.hid (same_next hlt hlt' HY.out)
        have HN' : Hid ((y ||| ((a[k]'hlt) ^^^ (b[k]'hlt'))).toNat = 0 ↔ SameTo a b (k + 1)) := Lib.hid (by rw [UInt8.toNat_or]; exact HN.out)
        clear HN
        generalize ((a[k]'hlt) ^^^ (b[k]'hlt')) = z at e1 e2 HN'
        go_wp2
        go_quiet (fail)
        go_wp2
        go_roundw
        case rel => exact ⟨k + 1, _, y ||| z, by omega, by go_num, rfl, HN', rfl⟩
        case measure => (simp [intOf]; try omega)
      · obtain rfl : k = a.size := by omega
        have hr : ((y.toNat : Int) == 0) = decide (a = b) := by
          have hi := (HY.out).trans (same_all hl)
          by_cases h0 : y.toNat = 0
          · rw [decide_eq_true (hi.1 h0), h0]; rfl
          · rw [decide_eq_false (fun h => h0 (hi.2 h))]; exact beq_eq_false_iff_ne.2 (by omega)
        go_wp2
        go_ret
        exact ⟨rfl, _, rfl⟩
  · have hne : decide (a = b) = false := decide_eq_false (fun h => hl (by rw [h]))
    rw [hne]
    go_enter Tryd.func32, Tryd.ntmps32
    go_wp2
    go_ret
    exact ⟨rfl, 0, rfl⟩

end Go.Proofs.YtpjcdppeieakhaaDoor
namespace Go.Proofs.YtpjcdppeieakhaaDoor
open Go.RowKit

set_option maxRecDepth 100000 in
set_option maxHeartbeats 1000000 in
theorem index_any (q n c : Nat) (xs : List ByteArray) (w : World) (hl : xs.length = n) (hn : n ≤ 1000) (hcell : ∀ j x, xs[j]? = some x → w.cell? ⟨q, j, none⟩ = some (.string x)) :
    Calls Tryd.prog 55 #[.slice (some ⟨q, 0, none⟩) n c, .string ⟨#[]⟩] w fun e w' => ∃ r : Int, e = .returned (.int .i64 r) ∧ ((r = -1 ∧ ∀ x ∈ xs, 0 < x.size) ∨ (0 ≤ r ∧ ∃ x ∈ xs, x.size = 0)) ∧ ∃ m, w' = w.drewN m := by
  have HC := Lib.hid hcell
  clear hcell
  go_enter Tryd.func55, Tryd.ntmps55
  go_wp2
  go_loopw [8] (fun iv wr => ∃ (k m : Nat), k ≤ n ∧ iv = .int .i64 k ∧ Hid (∀ j x, j < k → xs[j]? = some x → 0 < x.size) ∧ wr = w.drewN m) (fun iv _ => n - (intOf iv).toNat)
  case atStart => exact ⟨0, 0, Nat.zero_le _, rfl, Lib.hid (fun j x hj _ => by omega), rfl⟩
  case round =>
    obtain ⟨k, m, hk, rfl, HY, rfl⟩ := hrel
    by_cases hlt : k < n
    · have hlx : k < xs.length := by omega
      obtain ⟨x, hx⟩ : ∃ x, xs[k]? = some x := ⟨_, List.getElem?_eq_getElem hlx⟩
      have hc := HC.out k x hx
      have HX := Lib.hid hx
      clear hlx hx
      rcases Nat.eq_zero_or_pos x.size with hz | hz
      · obtain rfl := text_nil x hz
        clear hz
        go_wp2
        go_ret
        exact ⟨_, rfl, .inr ⟨by omega, _, List.mem_of_getElem? HX.out, rfl⟩, _, rfl⟩
      · have ex := text_not' x hz
        have HZ := Lib.hid hz
        clear hz
        go_wp2
        go_roundw
        case rel => exact ⟨k + 1, _, by omega, by go_num, Lib.hid (fun j y hj hy => by
          by_cases e : j = k
          · subst e; rw [HX.out] at hy; cases hy; exact HZ.out
          · exact HY.out j y (by omega) hy), rfl⟩
        case measure => (simp [intOf]; try omega)
    · obtain rfl : k = n := by omega
      go_wp2
      go_ret
      refine ⟨-1, rfl, .inl ⟨rfl, fun x hx => ?_⟩, _, rfl⟩
      obtain ⟨j, hj, he⟩ := List.getElem_of_mem hx
      exact HY.out j x (by omega) (by rw [List.getElem?_eq_getElem hj, he])

set_option maxRecDepth 100000 in
set_option maxHeartbeats 400000 in
theorem has_any (q n c : Nat) (xs : List ByteArray) (w : World) (hl : xs.length = n) (hn : n ≤ 1000) (hcell : ∀ j x, xs[j]? = some x → w.cell? ⟨q, j, none⟩ = some (.string x)) :
    Calls Tryd.prog 43 #[.slice (some ⟨q, 0, none⟩) n c, .string ⟨#[]⟩] w fun e w' => ((e = .returned (.bool false) ∧ ∀ x ∈ xs, 0 < x.size) ∨ (e = .returned (.bool true) ∧ ∃ x ∈ xs, x.size = 0)) ∧ ∃ m, w' = w.drewN m := by
  have k1 := Lib.hid (index_any q n c xs w hl hn hcell)
  clear hl hn hcell
  go_enter Tryd.func43, Tryd.ntmps43
  go_wp2_with fail
  refine k1.out.mono ?_
  rintro e w1 ⟨r, rfl, h | h, m, rfl⟩
  · obtain ⟨rfl, h⟩ := h
    go_wp2
    go_ret
    exact ⟨.inl ⟨rfl, h⟩, _, rfl⟩
  · obtain ⟨h0, h⟩ := h
    go_wp2
    go_ret
    exact ⟨.inr ⟨rfl, h⟩, _, rfl⟩
end Go.Proofs.YtpjcdppeieakhaaDoor

namespace Go.Proofs.YtpjcdppeieakhaaDoor
open Go.RowKit Go.Proofs.YtpjcdppeieakhaaDoor.Sha Go.Proofs.YtpjcdppeieakhaaDoor.Hexa Go.Proofs.YtpjcdppeieakhaaDoor.Parts Go.Proofs.YtpjcdppeieakhaaDoor.Byt Go.Proofs.YtpjcdppeieakhaaDoor.BitsM

set_option maxRecDepth 100000 in
set_option maxHeartbeats 1000000 in
theorem masked_any (s : ByteArray) (b : UInt8) (w : World) (hs : s.size ≤ 8000000) :
    Calls Tryd.prog 82 #[.string s, .int .u8 b.toNat] w fun e w' => e = .returned (.string (xorB s b)) ∧ Below w.heap.size w w' := by
  have kc0 := run_bytes_of_string (P := Tryd.prog) w 9 22 5 s Tryd.underlying9 Tryd.underlying22 Tryd.underlying5
  have b0 := bytes_conv w 5 s w.heap.size (Nat.le_refl _) (by omega)
  have g0 : Below w.heap.size w (w.drew.alloc (.cells (bytesRow s (grownCap w s.size 0 5)) 5 ((bytesRow s (grownCap w s.size 0 5)).size, (bytesRow s (grownCap w s.size 0 5)).size + 1))) := below_grown w (Nat.le_refl _) _
  generalize w.drew.alloc (.cells (bytesRow s (grownCap w s.size 0 5)) 5 ((bytesRow s (grownCap w s.size 0 5)).size, (bytesRow s (grownCap w s.size 0 5)).size + 1)) = W0 at b0 g0 kc0
  generalize grownCap w s.size 0 5 = c0 at b0 kc0
  have HB := Lib.hid b0
  have HG := Lib.hid g0
  obtain ⟨bv, hbv⟩ : ∃ bv : Int, (b.toNat : Int) = bv := ⟨_, rfl⟩
  have hx8 : ∀ a : UInt8, bits .xor .u8 (a.toNat : Int) bv = ((a ^^^ b).toNat : Int) := fun a => by rw [← hbv]; exact xor8 a b
  rw [hbv]
  clear b0 g0 hbv
  go_enter Tryd.func82, Tryd.ntmps82
  go_wp2
  clear kc0
  go_loopw [11] (fun iv wr => ∃ (k : Nat) (l : List UInt8), k ≤ s.size ∧ iv = .int .i64 k ∧ l.length = s.size ∧ Hid (∀ j, j < k → l[j]? = (s.data.toList.map (· ^^^ b))[j]?) ∧ Hid (∀ j, k ≤ j → l[j]? = s.data.toList[j]?) ∧ Hid (Bytes wr w.heap.size 5 (.slice (some ⟨w.heap.size, 0, none⟩) l.length c0) l) ∧ Below w.heap.size w wr)
    (fun iv _ => s.size - (intOf iv).toNat)
  case atStart => exact ⟨0, s.data.toList, Nat.zero_le _, rfl, by simp, Lib.hid (fun j hj => by omega), Lib.hid (fun j _ => rfl), Lib.hid (by have := HB.out; simpa using this), HG.out⟩
  case round =>
    clear HB HG
    obtain ⟨k, l, hk, rfl, hl, HA, HC, HW, hbel⟩ := hrel
    by_cases hlt : k < s.size
    · obtain ⟨hc, hz, hB⟩ := bytes_at HW.out k (by omega)
      have hks : k < s.data.toList.length := by simpa using hlt
      have hlk : l[k]'(by omega) = s.data.toList[k] := by
        have h1 := HC.out k (Nat.le_refl _)
        rw [List.getElem?_eq_getElem (by omega), List.getElem?_eq_getElem hks] at h1
        exact Option.some.inj h1
      obtain ⟨x, hx⟩ : ∃ x, s.data.toList[k] = x := ⟨_, rfl⟩
      rw [hlk, hx] at hc
      have HX : Hid ((s.data.toList.map (· ^^^ b))[k]? = some (x ^^^ b)) := Lib.hid (by rw [List.getElem?_map, List.getElem?_eq_getElem hks, hx]; rfl)
      have h8 := hx8 x
      have W1 := Lib.hid (bytes_set HW.out k (x ^^^ b))
      have hb1 : Below w.heap.size w (wr.setCell ⟨w.heap.size, k, none⟩ (.int .u8 ((x ^^^ b).toNat : Int))) := hbel.setCell (Nat.le_refl _) _
      have hbd := x.toNat_lt
      clear hlk hx hks
      go_wp2
      go_roundw
      case rel => exact ⟨k + 1, l.set k (x ^^^ b), by omega, by go_num, by simpa using hl, Lib.hid (fun j hj => by
        by_cases e : j = k
        · subst e; rw [List.getElem?_set_self (by omega), HX.out]
        · rw [List.getElem?_set_ne (by omega)]; exact HA.out j (by omega)), Lib.hid (fun j hj => by rw [List.getElem?_set_ne (by omega)]; exact HC.out j (by omega)), by simpa using W1, hb1⟩
      case measure => (simp [intOf]; try omega)
    · obtain rfl : k = s.size := by omega
      have hfin : l = s.data.toList.map (· ^^^ b) := by
        apply List.ext_getElem?
        intro j
        by_cases hj : j < s.size
        · exact HA.out j hj
        · rw [List.getElem?_eq_none (by omega), List.getElem?_eq_none (by simp; omega)]
      have h9 := HW.out
      have hconv := bytes_string (P := Tryd.prog) 22 9 Tryd.underlying22 Tryd.underlying5 Tryd.underlying9 h9
      rw [hl] at hconv
      clear h9
      go_wp2
      go_ret
      exact ⟨rfl, hbel⟩
end Go.Proofs.YtpjcdppeieakhaaDoor
