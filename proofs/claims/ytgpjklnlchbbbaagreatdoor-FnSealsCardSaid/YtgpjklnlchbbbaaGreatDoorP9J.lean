/- Merged texts: Long, MarkSpec, DigImpl, MarkTSpec, DerMath, DerHas, MaskImpl, MarkFn, DerParts, DerKeyImpl. -/
import Derived.Test.YtgpjklnlchbbbaaGreatDoorP9I
import Derived.Deep.RegionHeld3
import Derived.Deep.DeepCutAuto
import Derived.Test.YtgpjklnlchbbbaaGreatDoorShelfR
import Derived.StillTailTactics
import Derived.Test.YtgpjklnlchbbbaaGreatDoorShelfJ
namespace Go.Proofs.YtgpjklnlchbbbaaGreatDoor
open Go.RowKit Go.Proofs.YtgpjklnlchbbbaaGreatDoor.Hexa Go.Proofs.YtgpjklnlchbbbaaGreatDoor.Byt Go.Proofs.YtgpjklnlchbbbaaGreatDoor.BitsM

set_option maxRecDepth 100000 in
set_option maxHeartbeats 1000000 in
theorem long_any (n : Nat) (x : UInt8) (w : World) (hn : n ≤ 8000000) :
    Calls Tryz.prog 47 #[.int .i64 n, .int .u8 x.toNat] w fun e w' => e = .returned (.string (longB n x)) ∧ Below w.heap.size w w' := by
  obtain ⟨i0, hi, hz0, hz1, hz2⟩ := info_parts infoByte
  obtain ⟨xv, hxv⟩ : ∃ xv : Int, (x.toNat : Int) = xv := ⟨_, rfl⟩
  rw [hxv]
  have HXV := Lib.hid hxv
  clear hxv
  go_enter Tryz.func47, Tryz.ntmps47
  go_wp2_with (at_make; refine wpList_make_full _ rfl _ _ 22 rfl w.heap.size 5 i0 (.int .u8 0) 1 Tryz.underlying22 hi hz0 hz1 .i64 .i64 _ _ n rfl rfl rfl rfl (by rw [hz2]; omega) (by unfold maxLen; omega) (Nat.le_refl _) ?_; intro w0 hown0 hgrow0)
  have hg0 : Below w.heap.size w w0 := (Below.refl _ _).grown hgrow0 (Nat.le_refl _) (fun k h => by cases h)
  have HO0 := Lib.hid hown0
  clear hown0 hgrow0
  go_loopw [6] (fun iv wr => ∃ (k : Nat) (xs : List Value), k ≤ n ∧ iv = .int .i64 k ∧ Hid (wr.ownsRow w.heap.size 5 1 (.slice (some ⟨w.heap.size, 0, none⟩) n n) n xs) ∧ Hid (∀ j, j < k → xs[j]? = some (.int .u8 xv)) ∧ Below w.heap.size w wr)
    (fun iv _ => n - (intOf iv).toNat)
  case atStart => exact ⟨0, _, Nat.zero_le _, rfl, HO0, Lib.hid (fun j hj => by omega), hg0⟩
  case round =>
    clear HO0 hg0
    obtain ⟨k, xs, hk, rfl, HW, HX, hbel⟩ := hrel
    have hxl : Hid (xs.length = n) := Lib.hid (own_length HW.out)
    by_cases hlt : k < n
    · have c3 : ∃ v, wr.cell? ⟨w.heap.size, k, none⟩ = some v := ⟨xs[k]'(by have := hxl.out; omega), by rw [HW.out.cellAt k (by omega)]; simp [hxl.out, hlt]⟩
      obtain ⟨v3, c3⟩ := c3
      have z3 := HW.out.frozenAt k
      have O1 := Lib.hid (HW.out.stored k (.int .u8 xv)).1
      have hb1 : Below w.heap.size w (wr.setCell ⟨w.heap.size, k, none⟩ (.int .u8 xv)) := hbel.setCell (Nat.le_refl _) _
      have X1 : Hid (∀ j, j < k + 1 → (xs.set k (.int .u8 xv))[j]? = some (.int .u8 xv)) := Lib.hid (fun j hj => by
        by_cases e : j = k
        · subst e; rw [List.getElem?_set_self (by have := hxl.out; omega)]
        · rw [List.getElem?_set_ne (by omega)]; exact HX.out j (by omega))
      go_wp2
      go_roundw
      case rel => exact ⟨k + 1, _, by omega, by go_num, O1, X1, hb1⟩
      case measure => (simp [intOf]; try omega)
    · obtain rfl : k = n := by omega
      have hfin : xs = bcells (List.replicate k x) := by
        apply List.ext_getElem?
        intro j
        by_cases hj : j < k
        · rw [HX.out j hj, ← HXV.out]; simp [bcells, hj]
        · rw [List.getElem?_eq_none (by have := hxl.out; omega), List.getElem?_eq_none (by rw [bcells_length]; simp; omega)]
      have ho := HW.out
      rw [hfin] at ho
      have hconv := own_string (P := Tryz.prog) 22 9 Tryz.underlying22 Tryz.underlying5 Tryz.underlying9 ho
      clear hfin ho
      go_wp2
      go_ret
      exact ⟨rfl, hbel⟩

end Go.Proofs.YtgpjklnlchbbbaaGreatDoor
namespace Go.Proofs.YtgpjklnlchbbbaaGreatDoor
open Go.RowKit Go.Proofs.YtgpjklnlchbbbaaGreatDoor.Sha Go.Proofs.YtgpjklnlchbbbaaGreatDoor.Hexa Go.Proofs.YtgpjklnlchbbbaaGreatDoor.Parts Go.Proofs.YtgpjklnlchbbbaaGreatDoor.Byt Go.Proofs.YtgpjklnlchbbbaaGreatDoor.BitsM

/-- A text with each byte combined with one. -/
def xorB (s : ByteArray) (b : UInt8) : ByteArray := ⟨(s.data.toList.map (· ^^^ b)).toArray⟩
theorem xorB_size (s : ByteArray) (b : UInt8) : (xorB s b).size = s.size := by show (s.data.toList.map (· ^^^ b)).toArray.size = s.size; simp

set_option maxRecDepth 100000 in
set_option maxHeartbeats 1000000 in
theorem xor_any (s : ByteArray) (b : UInt8) (w : World) (hs : s.size ≤ 8000000) :
    Calls Tryz.prog 38 #[.string s, .int .u8 b.toNat] w fun e w' => e = .returned (.string (xorB s b)) ∧ Below w.heap.size w w' := by
  have kc0 := run_bytes_of_string (P := Tryz.prog) w 9 22 5 s Tryz.underlying9 Tryz.underlying22 Tryz.underlying5
  have b0 := bytes_conv w 5 s w.heap.size (Nat.le_refl _) (by omega)
  have g0 : Below w.heap.size w (w.drew.alloc (.cells (bytesRow s (grownCap w s.size 0 5)) 5 ((bytesRow s (grownCap w s.size 0 5)).size, (bytesRow s (grownCap w s.size 0 5)).size + 1))) := below_grown w (Nat.le_refl _) _
  generalize w.drew.alloc (.cells (bytesRow s (grownCap w s.size 0 5)) 5 ((bytesRow s (grownCap w s.size 0 5)).size, (bytesRow s (grownCap w s.size 0 5)).size + 1)) = W0 at b0 g0 kc0
  generalize grownCap w s.size 0 5 = c0 at b0 kc0
  have HB := Lib.hid b0
  have HG := Lib.hid g0
  obtain ⟨bv, hbv⟩ : ∃ bv : Int, (b.toNat : Int) = bv := ⟨_, rfl⟩
  have hx8 : ∀ a : UInt8, bits .xor .u8 (a.toNat : Int) bv = ((a ^^^ b).toNat : Int) := fun a => by rw [← hbv]; exact xor8 a b
  rw [hbv]
  clear b0 g0 hbv
  go_enter Tryz.func38, Tryz.ntmps38
  go_wp2
  clear kc0
  go_loopw [6] (fun iv wr => ∃ (k : Nat) (l : List UInt8), k ≤ s.size ∧ iv = .int .i64 k ∧ l.length = s.size ∧ Hid (∀ j, j < k → l[j]? = (s.data.toList.map (· ^^^ b))[j]?) ∧ Hid (∀ j, k ≤ j → l[j]? = s.data.toList[j]?) ∧ Hid (Bytes wr w.heap.size 5 (.slice (some ⟨w.heap.size, 0, none⟩) l.length c0) l) ∧ Below w.heap.size w wr)
    (fun iv _ => s.size - (intOf iv).toNat)
  case atStart => exact ⟨0, s.data.toList, Nat.zero_le _, rfl, by simp, Lib.hid (fun j hj => by omega), Lib.hid (fun j _ => rfl), Lib.hid (by have := HB.out; simpa using this), HG.out⟩
  case round =>
    clear HB HG
    obtain ⟨k, l, hk, rfl, hl, HA, HC, HW, hbel⟩ := hrel
    by_cases hlt : k < s.size
    · obtain ⟨hc, hz, hB⟩ := bytes_at HW.out k (by omega)
      have hks : k < s.data.toList.length := by simpa using hlt
      have hlk : l[k]'(by omega) = s.data.toList[k] := by
        have h1 := HC.out k (Nat.le_refl _)
        rw [List.getElem?_eq_getElem (by omega), List.getElem?_eq_getElem hks] at h1
        exact Option.some.inj h1
      obtain ⟨x, hx⟩ : ∃ x, s.data.toList[k] = x := ⟨_, rfl⟩
      rw [hlk, hx] at hc
      have HX : Hid ((s.data.toList.map (· ^^^ b))[k]? = some (x ^^^ b)) := Lib.hid (by rw [List.getElem?_map, List.getElem?_eq_getElem hks, hx]; rfl)
      have h8 := hx8 x
      have W1 := Lib.hid (bytes_set HW.out k (x ^^^ b))
      have hb1 : Below w.heap.size w (wr.setCell ⟨w.heap.size, k, none⟩ (.int .u8 ((x ^^^ b).toNat : Int))) := hbel.setCell (Nat.le_refl _) _
      have hbd := x.toNat_lt
      clear hlk hx hks
      go_wp2
      go_roundw
      case rel => exact ⟨k + 1, l.set k (x ^^^ b), by omega, by go_num, by simpa using hl, Lib.hid (fun j hj => by
        by_cases e : j = k
        · subst e; rw [List.getElem?_set_self (by omega), HX.out]
        · rw [List.getElem?_set_ne (by omega)]; exact HA.out j (by omega)), Lib.hid (fun j hj => by rw [List.getElem?_set_ne (by omega)]; exact HC.out j (by omega)), by simpa using W1, hb1⟩
      case measure => (simp [intOf]; try omega)
    · obtain rfl : k = s.size := by omega
      have hfin : l = s.data.toList.map (· ^^^ b) := by
        apply List.ext_getElem?
        intro j
        by_cases hj : j < s.size
        · exact HA.out j hj
        · rw [List.getElem?_eq_none (by omega), List.getElem?_eq_none (by simp; omega)]
      have h9 := HW.out
      have hconv := bytes_string (P := Tryz.prog) 22 9 Tryz.underlying22 Tryz.underlying5 Tryz.underlying9 h9
      rw [hl] at hconv
      clear h9
      go_wp2
      go_ret
      exact ⟨rfl, hbel⟩

/-- The key of a keyed hash. -/
def keyBase (s : ByteArray) : ByteArray := if 64 < s.size then digB s else s
def keyB (s : ByteArray) : ByteArray := keyBase s ++ longB (64 - (keyBase s).size) 0
theorem keyBase_size (s : ByteArray) : (keyBase s).size ≤ 64 := by
  unfold keyBase
  split
  · rw [digB_size]; omega
  · omega
theorem keyB_size (s : ByteArray) : (keyB s).size = 64 := by
  have := keyBase_size s
  unfold keyB
  rw [ByteArray.size_append, longB_size]
  omega

set_option maxRecDepth 100000 in
set_option maxHeartbeats 1000000 in
theorem specKey_any (s : ByteArray) (w : World) (hs : s.size ≤ 2000000) :
    Calls Tryz.prog 36 #[.string s] w fun e w' => e = .returned (.string (keyB s)) ∧ Below w.heap.size w w' := by
  have k1 := Lib.hid fun w => specDigest_any s w (by omega)
  have KL := Lib.hid (fun (n : Nat) (w : World) (h : n ≤ 64) => long_any n 0 w (by omega))
  by_cases h : 64 < s.size
  · have hd : (digB s).size = 32 := rfl
    have HE : Hid (keyB s = digB s ++ longB 32 0) := Lib.hid (by unfold keyB keyBase; rw [if_pos h]; rfl)
    clear hs
    go_enter Tryz.func36, Tryz.ntmps36
    go_wp2_with (first
      | (go_at_call 37; refine (k1.out _).mono ?_; rintro e w1 ⟨rfl, hb1⟩)
      | (go_at_call 47; refine (KL.out 32 _ (by omega)).mono ?_; rintro e w2 ⟨rfl, hb2⟩))
    go_ret
    exact ⟨by rw [HE.out]; rfl, hb1.trans (hb2.mono hb1.size)⟩
  · have HE : Hid (keyB s = s ++ longB (64 - s.size) 0) := Lib.hid (by unfold keyB keyBase; rw [if_neg h])
    have h64 : ((64 - s.size : Nat) : Int) = 64 - (s.size : Int) := by omega
    have KL2 := fun w => KL.out (64 - s.size) w (by omega)
    rw [h64] at KL2
    have KL3 := Lib.hid KL2
    have hsz : s.size + (longB (64 - s.size) 0).size ≤ 64 := by rw [longB_size]; omega
    clear hs KL2 KL
    go_enter Tryz.func36, Tryz.ntmps36
    go_wp2_with (first
      | (go_at_call 47; refine (KL3.out _).mono ?_; rintro e w2 ⟨rfl, hb2⟩))
    go_ret
    exact ⟨by rw [HE.out]; rfl, hb2⟩

/-- The keyed hash. -/
def hmacB (key text : ByteArray) : ByteArray := digB (xorB (keyB key) 92 ++ digB (xorB (keyB key) 54 ++ text))

set_option maxRecDepth 100000 in
set_option maxHeartbeats 1000000 in
theorem specHmac_any (key text : ByteArray) (w : World) (hk : key.size ≤ 2000000) (ht : text.size ≤ 2000000) :
    Calls Tryz.prog 31 #[.string key, .string text] w fun e w' => e = .returned (.string (hmacB key text)) ∧ Below w.heap.size w w' := by
  have k1 := Lib.hid fun w => specKey_any key w hk
  have hks := keyB_size key
  generalize hK : keyB key = K at k1 hks
  have x1 := Lib.hid fun w => xor_any K 92 w (by omega)
  have x2 := Lib.hid fun w => xor_any K 54 w (by omega)
  have HE : Hid (hmacB key text = digB (xorB K 92 ++ digB (xorB K 54 ++ text))) := Lib.hid (by unfold hmacB; rw [hK])
  have hx1 := xorB_size K 92
  have hx2 := xorB_size K 54
  generalize xorB K 92 = X1 at x1 HE hx1
  generalize xorB K 54 = X2 at x2 HE hx2
  have hm1 : X2.size + text.size ≤ 2000064 := by omega
  have hm2 : X1.size + (digB (X2 ++ text)).size ≤ 96 := by rw [digB_size]; omega
  have d1 := Lib.hid fun w => specDigest_any (X2 ++ text) w (by rw [ByteArray.size_append]; omega)
  have d2 := Lib.hid fun w => specDigest_any (X1 ++ digB (X2 ++ text)) w (by rw [ByteArray.size_append, digB_size]; omega)
  clear hk ht hks hx1 hx2
  go_enter Tryz.func31, Tryz.ntmps31
  go_wp2_with fail
  refine (k1.out _).mono ?_
  rintro e w1 ⟨rfl, hb1⟩
  go_wp2_with fail
  refine (x1.out _).mono ?_
  rintro e w2 ⟨rfl, hb2⟩
  go_wp2_with fail
  refine (x2.out _).mono ?_
  rintro e w3 ⟨rfl, hb3⟩
  go_wp2_with fail
  refine (d1.out _).mono ?_
  rintro e w4 ⟨rfl, hb4⟩
  go_wp2_with fail
  refine (d2.out _).mono ?_
  rintro e w5 ⟨rfl, hb5⟩
  go_wp2
  go_ret
  exact ⟨by rw [HE.out]; rfl, hb1.trans ((hb2.trans ((hb3.trans ((hb4.trans (hb5.mono hb4.size)).mono hb3.size)).mono hb2.size)).mono hb1.size)⟩
end Go.Proofs.YtgpjklnlchbbbaaGreatDoor
namespace Go.Proofs.YtgpjklnlchbbbaaGreatDoor
open Go.RowKit Go.Proofs.YtgpjklnlchbbbaaGreatDoor.Sha Go.Proofs.YtgpjklnlchbbbaaGreatDoor.Hexa Go.Proofs.YtgpjklnlchbbbaaGreatDoor.Parts Go.Proofs.YtgpjklnlchbbbaaGreatDoor.Byt

/-- The block of the call: the state. -/
structure MemI (w wr : World) (g : Nat) (st : Array Value) : Prop where
  state : wr.heap[g]? = some (.cells st 104 (0, 0))
  lo : w.heap.size ≤ g
  below : Below w.heap.size w wr
theorem memI_store {w wr w6 : World} {g : Nat} {st : Array Value} (h : MemI w wr g st) (hb : Below wr.drew.heap.size wr.drew w6) (R : St8) (hs : st.size = 8) :
    ∃ W7, (storeCells ⟨g, 0, none⟩ R.cells.toList 0).run Tryz.prog w6 = .ok () W7 ∧ MemI w W7 g R.cells := by
  have l1 : g < wr.heap.size := (Array.getElem?_eq_some_iff.1 h.state).1
  have b1 : Below wr.heap.size wr w6 := ((Below.refl wr.heap.size wr).drew).trans hb
  have h6 : w6.heap[g]? = some (.cells st 104 (0, 0)) := by rw [b1.block g l1]; exact h.state
  have r := run_storeCells_from (P := Tryz.prog) g 104 R.cells.toList 0 st w6 h6 (by rw [hs]; rfl) (wcells_one R.list)
  have e : (st.toList.take 0 ++ R.cells.toList).toArray = R.cells := by simp
  rw [e] at r
  exact ⟨_, r, setRow_heap _ _ _ _ _ _ h6, h.lo, (h.below.trans (b1.mono h.below.size)).trans ⟨rfl, rfl, rfl, by simp, fun k hk => setRow_other _ _ _ _ (by have := h.lo; omega)⟩⟩

theorem extract_rest (p : ByteArray) (k N : Nat) (hp : p.size = 64 * N) (hk : k < N) : (p.extract (64 * k) (64 * N)).extract 64 (p.extract (64 * k) (64 * N)).size = p.extract (64 * (k + 1)) (64 * N) := by
  rw [ByteArray.extract_extract]
  congr 1
  simp
  omega
theorem extract_head (p : ByteArray) (k N : Nat) (_hp : p.size = 64 * N) (hk : k < N) : (p.extract (64 * k) (64 * N)).extract 0 64 = p.extract (64 * k) (64 * k + 64) := by
  rw [ByteArray.extract_extract]
  congr 1
  omega

theorem head_of {t p : ByteArray} {k N : Nat} (ht : t = p.extract (64 * k) (64 * N)) (hp : p.size = 64 * N) (hk : k < N) : t.extract 0 64 = p.extract (64 * k) (64 * k + 64) := by subst ht; exact extract_head p k N hp hk
theorem rest_of {t p : ByteArray} {k N : Nat} (ht : t = p.extract (64 * k) (64 * N)) (hp : p.size = 64 * N) (hk : k < N) : t.extract 64 t.size = p.extract (64 * (k + 1)) (64 * N) := by subst ht; exact extract_rest p k N hp hk
theorem emptyB (t : ByteArray) : t.toList.isEmpty = (t.size == 0) := by
  rw [Go.ByteArray.toList_eq]
  have : t.size = t.data.toList.length := by simp
  rw [this]
  cases t.data.toList <;> simp

def sizeV : Value → Nat
  | .string t => t.size
  | _ => 0

set_option maxRecDepth 100000 in
set_option maxHeartbeats 4000000 in
theorem implDigest_any (s : ByteArray) (w : World) (hs : s.size ≤ 8000000) (hk0 : IsTab w 0 firstS.list) (hk1 : IsTab w 2 keyL) :
    Calls Tryz.prog 70 #[.string s] w fun e w' => e = .returned (.string (digB s)) ∧ Below w.heap.size w w' := by
  have KP := Lib.hid fun w => Pad.impl_any s w hs
  have HPS := Lib.hid (padB_size s)
  have HPN := Lib.hid (padN_le s hs)
  have HK1 := Lib.hid hk1
  obtain ⟨t0, fr0, hk0⟩ := hk0
  have HK0 := Lib.hid hk0
  clear hk0 hk1 hs
  have HN0 := heap_alloc_new w (.cells (zeros 8) 104)
  have r0 := run_storeCells_from (P := Tryz.prog) w.heap.size 104 (wcells firstS.list).toList 0 (zeros 8) _ HN0 (by simp [zeros, wcells]; rfl) (wcells_one _)
  have MI : MemI w ((w.alloc (.cells (zeros 8) 104)).setRow w.heap.size (wcells firstS.list)) w.heap.size (wcells firstS.list) :=
    ⟨setRow_heap _ _ _ _ _ _ HN0, Nat.le_refl _, ((Below.refl _ _).alloc (Nat.le_refl _) _).trans ⟨rfl, rfl, rfl, by simp, fun k hk => setRow_other _ _ _ _ (by omega)⟩⟩
  have e0 : ((zeros 8).toList.take 0 ++ (wcells firstS.list).toList).toArray = wcells firstS.list := by simp
  rw [e0] at r0
  obtain ⟨W1, hW1⟩ : ∃ W1, (w.alloc (.cells (zeros 8) 104)).setRow w.heap.size (wcells firstS.list) = W1 := ⟨_, rfl⟩
  rw [hW1] at r0 MI
  have HST := Lib.hid (show (blocksS (padB s) 0).cells = wcells firstS.list from rfl)
  obtain ⟨st, hst⟩ : ∃ st, wcells firstS.list = st := ⟨_, rfl⟩
  have s8 : Hid (st.size = 8) := Lib.hid (by rw [← hst]; rfl)
  rw [hst] at r0 MI HST HK0
  have HMI := Lib.hid MI
  clear hst hW1 e0 MI HN0
  go_enter Tryz.func70, Tryz.ntmps70
  go_wp2_with (first
    | (refine wpList_load_row rfl 104 (.global 0) rfl 0 rfl t0 st fr0 _ HK0.out Tryz.underlying104 rfl (by rw [s8.out]; kernel_rfl) ?_)
    | (refine wpList_allocRow rfl 104 rfl (zeros 8) run_allocW ?_)
    | (go_at_call 74; refine (KP.out _).mono ?_; rintro e w5 ⟨rfl, hb5⟩
       have B5 := Lib.hid hb5
       clear hb5))
  have HM5 : Hid (MemI w w5 w.heap.size st) := Lib.hid ⟨by rw [B5.out.block _ (Array.getElem?_eq_some_iff.1 HMI.out.state).1]; exact HMI.out.state, Nat.le_refl _, HMI.out.below.trans (B5.out.mono HMI.out.below.size)⟩
  have HP2 : Hid (({ data := (Pad.padL s).toArray } : ByteArray) = padB s) := Lib.hid rfl
  rw [HP2.out]
  have HEX : Hid (padB s = (padB s).extract (64 * 0) (64 * padN s)) := Lib.hid (by rw [← HPS.out]; simp)
  generalize hpp : padB s = p at HPS HEX HST ⊢
  have HPP := Lib.hid hpp
  generalize hN : padN s = N at HPS HPN HEX
  have HN := Lib.hid hN
  clear hN hpp HP2 r0
  go_loopw [4] (fun pv wr => ∃ (k : Nat) (t : ByteArray), k ≤ N ∧ pv = .string t ∧ t.size = 64 * (N - k) ∧ Hid (t = p.extract (64 * k) (64 * N)) ∧ Hid (MemI w wr w.heap.size (blocksS p k).cells))
    (fun pv _ => sizeV pv)
  case atStart => exact ⟨0, p, Nat.zero_le _, rfl, by have := HPS.out; omega, HEX, Lib.hid (by rw [HST.out]; exact HM5.out)⟩
  case round =>
    clear HM5 HEX
    obtain ⟨k, t, hk, rfl, hts, HT, HM⟩ := hrel
    have hpn := HPN.out
    by_cases hlt : k < N
    · have hem : t.toList.isEmpty = false := by rw [emptyB]; exact beq_eq_false_iff_ne.2 (by omega)
      have hsz : t.size = 64 * (N - k) := hts
      have h64 : (64 : Int) ≤ 64 * ((N - k : Nat) : Int) := by omega
      go_wp2
      refine wp_region_still_tail 3 (by kernel_rfl) (by kernel_rfl) ?_
      simp only [List.take_succ_cons, List.take_zero, List.drop_succ_cons, List.drop_zero]
      refine wpStill_load_row rfl 104 (.tmp 3) rfl w.heap.size rfl _ (blocksS p k).cells (0, 0) _ HM.out.state Tryz.underlying104 rfl (by kernel_rfl) ?_
      still_step
      still_step
      refine wpStill_nil ?_
      change wpList _ _ _ _ _ wr.drew
      have hhd : t.extract 0 64 = p.extract (64 * k) (64 * k + 64) := head_of HT.out HPS.out hlt
      have hrs : t.extract 64 (64 * (N - k)) = p.extract (64 * (k + 1)) (64 * N) := by rw [← hts]; exact rest_of HT.out HPS.out hlt
      have hrz : (t.extract 64 (64 * (N - k))).size = 64 * (N - (k + 1)) := by rw [ByteArray.size_extract, hts]; omega
      have HB := Lib.hid (show (p.extract (64 * k) (64 * k + 64)).size = 64 by simp; have := HPS.out; omega)
      have hnx : blockS (blocksS p k) keyL (p.extract (64 * k) (64 * k + 64)) = blocksS p (k + 1) := rfl
      have hk1 := Lib.hid (HK1.out.below HK1.out.lt (HM.out.below.drew))
      rw [hhd]
      have HRS := Lib.hid hrs
      have HRZ := Lib.hid hrz
      clear hhd hrs hem h64 hrz
      go_wp2_with (first
        | (go_at_call 75; refine (after_any (blocksS p k) (p.extract (64 * k) (64 * k + 64)) wr.drew HB.out hk1.out).mono ?_; rintro e w6 ⟨rfl, hb6⟩
           rw [hnx]
           obtain ⟨W7, r7, M7⟩ := memI_store HM.out hb6 (blocksS p (k + 1)) rfl
           have HM7 := Lib.hid M7
           clear M7 hb6 hnx
           obtain ⟨cs2, hcs2⟩ : ∃ cs2, (blocksS p (k + 1)).cells = cs2 := ⟨_, rfl⟩
           have h82 : cs2.size = 8 := by rw [← hcs2]; rfl
           rw [hcs2] at r7 HM7 ⊢
           have HC2 := Lib.hid hcs2
           clear hcs2
           have h64 : (64 : Int) ≤ 64 * ((N - k : Nat) : Int) := by omega))
      go_roundw
      case rel => exact ⟨k + 1, t.extract 64 (64 * (N - k)), by omega, rfl, HRZ.out, HRS, Lib.hid (by rw [HC2.out]; exact HM7.out)⟩
      case measure =>
        show (t.extract 64 (64 * (N - k))).size < t.size
        rw [HRZ.out]; omega
    · obtain rfl : k = N := by omega
      have hem : t.toList.isEmpty = true := by rw [emptyB]; exact beq_iff_eq.2 (by omega)
      have m0 := HM.out.state
      generalize hS : blocksS p k = S at HM m0
      have HSS : Hid (digB s = ⟨(textL S).toArray⟩) := Lib.hid (by rw [← hS, ← HPP.out, ← HN.out]; rfl)
      clear hS
      go_wp2_with (first
        | (refine wpList_load_row rfl 104 (.tmp 3) rfl w.heap.size rfl 104 S.cells (0, 0) _ m0 Tryz.underlying104 rfl (by kernel_rfl) ?_)
        | (go_at_call 76; refine (text_any S _).mono ?_; rintro e w6 ⟨rfl, hb6⟩))
      go_ret
      exact ⟨by rw [HSS.out]; rfl, HM.out.below.trans (hb6.mono HM.out.below.size)⟩
end Go.Proofs.YtgpjklnlchbbbaaGreatDoor
namespace Go.Proofs.YtgpjklnlchbbbaaGreatDoor
open Go.RowKit Go.Proofs.YtgpjklnlchbbbaaGreatDoor.Sha Go.Proofs.YtgpjklnlchbbbaaGreatDoor.Hexa

/-- The two tables of the program. -/
def Tabs (w : World) : Prop := IsTab w 0 firstS.list ∧ IsTab w 2 keyL
theorem Tabs.below {w w' : World} (h : Tabs w) (hb : Below w.heap.size w w') : Tabs w' := ⟨h.1.below h.1.lt hb, h.2.below h.2.lt hb⟩

/-- Two texts compared, as the walk has it. -/
theorem same_text (a b : ByteArray) : (a.toList == b.toList) = decide (a = b) := by
  rw [Go.ByteArray.toList_eq, Go.ByteArray.toList_eq]
  by_cases h : a = b
  · rw [decide_eq_true h, h]; simp
  · rw [decide_eq_false h]
    refine beq_eq_false_iff_ne.2 (fun e => h (ByteArray.ext (Array.toList_inj.1 e)))

/-- The first n bytes of a keyed hash; none where n is not from 1 to 32. -/
def markB (k t : ByteArray) (n : Int) : ByteArray := if 1 ≤ n ∧ n ≤ 32 then (hmacB k t).extract 0 n.toNat else ⟨#[]⟩
theorem hmacB_size (k t : ByteArray) : (hmacB k t).size = 32 := rfl

set_option maxRecDepth 100000 in
set_option maxHeartbeats 400000 in
theorem specMark_any (k t : ByteArray) (n : Int) (w : World) (hk : k.size ≤ 2000000) (ht : t.size ≤ 2000000) :
    Calls Tryz.prog 20 #[.string k, .string t, .int .i64 n] w fun e w' => e = .returned (.string (markB k t n)) ∧ Below w.heap.size w w' := by
  have k1 := Lib.hid fun w => specHmac_any k t w hk ht
  have hds := hmacB_size k t
  clear hk ht
  by_cases hn : 1 ≤ n ∧ n ≤ 32
  · have HE : Hid (markB k t n = (hmacB k t).extract 0 n.toNat) := Lib.hid (if_pos hn)
    have HR := Lib.hid hn
    have hi := hn.1
    have hj := hn.2
    clear hn
    go_enter Tryz.func20, Tryz.ntmps20
    go_wp2_with (first
      | (go_at_call 30; refine (range_yes _ HR.out).mono ?_; rintro e w1 ⟨rfl, rfl⟩)
      | (go_at_call 31; refine (k1.out _).mono ?_; rintro e w1 ⟨rfl, hb1⟩))
    go_ret
    exact ⟨by rw [HE.out]; rfl, hb1⟩
  · have HE : Hid (markB k t n = ⟨#[]⟩) := Lib.hid (if_neg hn)
    have HR := Lib.hid hn
    clear hn
    go_enter Tryz.func20, Tryz.ntmps20
    go_wp2_with (first
      | (go_at_call 30; refine (range_no _ HR.out).mono ?_; rintro e w1 ⟨rfl, rfl⟩))
    go_ret
    exact ⟨by rw [HE.out]; rfl, Below.refl _ _⟩

end Go.Proofs.YtgpjklnlchbbbaaGreatDoor
namespace Go.Proofs.YtgpjklnlchbbbaaGreatDoor
open Go.RowKit Go.Proofs.YtgpjklnlchbbbaaGreatDoor.Sha Go.Proofs.YtgpjklnlchbbbaaGreatDoor.Hexa Go.Proofs.YtgpjklnlchbbbaaGreatDoor.Byt

theorem text_nil (x : ByteArray) (h : x.size = 0) : x = ⟨#[]⟩ := by
  apply ByteArray.ext
  exact Array.eq_empty_of_size_eq_zero h
theorem text_not (x : ByteArray) (h : 0 < x.size) : (x.toList == []) = false := by
  apply beq_eq_false_iff_ne.2
  intro e
  have h1 : x.toList.length = x.size := by rw [Go.ByteArray.toList_eq]; simp
  rw [e] at h1
  simp at h1
  omega
theorem text_not' (x : ByteArray) (h : 0 < x.size) : ([] == x.toList) = false := by
  have := text_not x h
  apply beq_eq_false_iff_ne.2
  intro e
  rw [← e] at this
  simp at this

/-- The mark of a word and a file's two numbers. -/
def madeB (s wd : ByteArray) (i g : Int) : ByteArray := if (numTextB i 1).size = 1 ∧ (numTextB g 2).size = 2 then markB s (wd ++ numTextB i 1 ++ numTextB g 2) 8 else ⟨#[]⟩
def keyWord : ByteArray := ⟨#[107, 101, 121]⟩
def wrapWord : ByteArray := ⟨#[119, 114, 97, 112]⟩
def pageWord : ByteArray := ⟨#[112, 97, 103, 101]⟩
def markWord : ByteArray := ⟨#[109, 97, 114, 107]⟩
def fileKeyB (s : ByteArray) (i g : Int) : ByteArray := madeB s keyWord i g
def wrapMaskB (s : ByteArray) (i g : Int) : ByteArray := madeB s wrapWord i g
def wrappedB (s : ByteArray) (i g : Int) : ByteArray := xorT (fileKeyB s i g) (wrapMaskB s i g)
def unwB (s : ByteArray) (i g : Int) (t : ByteArray) : Bool := decide (0 < (xorT t (wrapMaskB s i g)).size ∧ xorT t (wrapMaskB s i g) = fileKeyB s i g)
def unwT (s : ByteArray) (i g : Int) (t : ByteArray) : ByteArray := if unwB s i g t = true then xorT t (wrapMaskB s i g) else ⟨#[]⟩

theorem markB_le (k t : ByteArray) (n : Int) : (markB k t n).size ≤ 32 := by
  unfold markB
  split
  · rw [ByteArray.size_extract, hmacB_size]; omega
  · show 0 ≤ 32; omega
theorem madeB_le (s wd : ByteArray) (i g : Int) : (madeB s wd i g).size ≤ 32 := by
  unfold madeB
  split
  · exact markB_le _ _ _
  · show 0 ≤ 32; omega
theorem madeB_no (s wd : ByteArray) (i g : Int) (h : ¬ ((numTextB i 1).size = 1 ∧ (numTextB g 2).size = 2)) : madeB s wd i g = ⟨#[]⟩ := if_neg h
theorem madeB_yes (s wd : ByteArray) (i g : Int) (h : (numTextB i 1).size = 1 ∧ (numTextB g 2).size = 2) : madeB s wd i g = markB s (wd ++ numTextB i 1 ++ numTextB g 2) 8 := if_pos h
end Go.Proofs.YtgpjklnlchbbbaaGreatDoor
namespace Go.Proofs.YtgpjklnlchbbbaaGreatDoor
open Go.RowKit

set_option maxRecDepth 100000 in
set_option maxHeartbeats 1000000 in
theorem index_any (q n c : Nat) (xs : List ByteArray) (w : World) (hl : xs.length = n) (hn : n ≤ 1000) (hcell : ∀ j x, xs[j]? = some x → w.cell? ⟨q, j, none⟩ = some (.string x)) :
    Calls Tryz.prog 58 #[.slice (some ⟨q, 0, none⟩) n c, .string ⟨#[]⟩] w fun e w' => ∃ r : Int, e = .returned (.int .i64 r) ∧ ((r = -1 ∧ ∀ x ∈ xs, 0 < x.size) ∨ (0 ≤ r ∧ ∃ x ∈ xs, x.size = 0)) ∧ ∃ m, w' = w.drewN m := by
  have HC := Lib.hid hcell
  clear hcell
  go_enter Tryz.func58, Tryz.ntmps58
  go_wp2
  go_loopw [8] (fun iv wr => ∃ (k m : Nat), k ≤ n ∧ iv = .int .i64 k ∧ Hid (∀ j x, j < k → xs[j]? = some x → 0 < x.size) ∧ wr = w.drewN m) (fun iv _ => n - (intOf iv).toNat)
  case atStart => exact ⟨0, 0, Nat.zero_le _, rfl, Lib.hid (fun j x hj _ => by omega), rfl⟩
  case round =>
    obtain ⟨k, m, hk, rfl, HY, rfl⟩ := hrel
    by_cases hlt : k < n
    · have hlx : k < xs.length := by omega
      obtain ⟨x, hx⟩ : ∃ x, xs[k]? = some x := ⟨_, List.getElem?_eq_getElem hlx⟩
      have hc := HC.out k x hx
      have HX := Lib.hid hx
      clear hlx hx
      rcases Nat.eq_zero_or_pos x.size with hz | hz
      · obtain rfl := text_nil x hz
        clear hz
        go_wp2
        go_ret
        exact ⟨_, rfl, .inr ⟨by omega, _, List.mem_of_getElem? HX.out, rfl⟩, _, rfl⟩
      · have ex := text_not' x hz
        have HZ := Lib.hid hz
        clear hz
        go_wp2
        go_roundw
        case rel => exact ⟨k + 1, _, by omega, by go_num, Lib.hid (fun j y hj hy => by
          by_cases e : j = k
          · subst e; rw [HX.out] at hy; cases hy; exact HZ.out
          · exact HY.out j y (by omega) hy), rfl⟩
        case measure => (simp [intOf]; try omega)
    · obtain rfl : k = n := by omega
      go_wp2
      go_ret
      refine ⟨-1, rfl, .inl ⟨rfl, fun x hx => ?_⟩, _, rfl⟩
      obtain ⟨j, hj, he⟩ := List.getElem_of_mem hx
      exact HY.out j x (by omega) (by rw [List.getElem?_eq_getElem hj, he])

set_option maxRecDepth 100000 in
set_option maxHeartbeats 400000 in
theorem has_any (q n c : Nat) (xs : List ByteArray) (w : World) (hl : xs.length = n) (hn : n ≤ 1000) (hcell : ∀ j x, xs[j]? = some x → w.cell? ⟨q, j, none⟩ = some (.string x)) :
    Calls Tryz.prog 43 #[.slice (some ⟨q, 0, none⟩) n c, .string ⟨#[]⟩] w fun e w' => ((e = .returned (.bool false) ∧ ∀ x ∈ xs, 0 < x.size) ∨ (e = .returned (.bool true) ∧ ∃ x ∈ xs, x.size = 0)) ∧ ∃ m, w' = w.drewN m := by
  have k1 := Lib.hid (index_any q n c xs w hl hn hcell)
  clear hl hn hcell
  go_enter Tryz.func43, Tryz.ntmps43
  go_wp2_with fail
  refine k1.out.mono ?_
  rintro e w1 ⟨r, rfl, h | h, m, rfl⟩
  · obtain ⟨rfl, h⟩ := h
    go_wp2
    go_ret
    exact ⟨.inl ⟨rfl, h⟩, _, rfl⟩
  · obtain ⟨h0, h⟩ := h
    go_wp2
    go_ret
    exact ⟨.inr ⟨rfl, h⟩, _, rfl⟩
end Go.Proofs.YtgpjklnlchbbbaaGreatDoor

namespace Go.Proofs.YtgpjklnlchbbbaaGreatDoor
open Go.RowKit Go.Proofs.YtgpjklnlchbbbaaGreatDoor.Sha Go.Proofs.YtgpjklnlchbbbaaGreatDoor.Hexa Go.Proofs.YtgpjklnlchbbbaaGreatDoor.Parts Go.Proofs.YtgpjklnlchbbbaaGreatDoor.Byt Go.Proofs.YtgpjklnlchbbbaaGreatDoor.BitsM

set_option maxRecDepth 100000 in
set_option maxHeartbeats 1000000 in
theorem masked_any (s : ByteArray) (b : UInt8) (w : World) (hs : s.size ≤ 8000000) :
    Calls Tryz.prog 63 #[.string s, .int .u8 b.toNat] w fun e w' => e = .returned (.string (xorB s b)) ∧ Below w.heap.size w w' := by
  have kc0 := run_bytes_of_string (P := Tryz.prog) w 9 22 5 s Tryz.underlying9 Tryz.underlying22 Tryz.underlying5
  have b0 := bytes_conv w 5 s w.heap.size (Nat.le_refl _) (by omega)
  have g0 : Below w.heap.size w (w.drew.alloc (.cells (bytesRow s (grownCap w s.size 0 5)) 5 ((bytesRow s (grownCap w s.size 0 5)).size, (bytesRow s (grownCap w s.size 0 5)).size + 1))) := below_grown w (Nat.le_refl _) _
  generalize w.drew.alloc (.cells (bytesRow s (grownCap w s.size 0 5)) 5 ((bytesRow s (grownCap w s.size 0 5)).size, (bytesRow s (grownCap w s.size 0 5)).size + 1)) = W0 at b0 g0 kc0
  generalize grownCap w s.size 0 5 = c0 at b0 kc0
  have HB := Lib.hid b0
  have HG := Lib.hid g0
  obtain ⟨bv, hbv⟩ : ∃ bv : Int, (b.toNat : Int) = bv := ⟨_, rfl⟩
  have hx8 : ∀ a : UInt8, bits .xor .u8 (a.toNat : Int) bv = ((a ^^^ b).toNat : Int) := fun a => by rw [← hbv]; exact xor8 a b
  rw [hbv]
  clear b0 g0 hbv
  go_enter Tryz.func63, Tryz.ntmps63
  go_wp2
  clear kc0
  go_loopw [11] (fun iv wr => ∃ (k : Nat) (l : List UInt8), k ≤ s.size ∧ iv = .int .i64 k ∧ l.length = s.size ∧ Hid (∀ j, j < k → l[j]? = (s.data.toList.map (· ^^^ b))[j]?) ∧ Hid (∀ j, k ≤ j → l[j]? = s.data.toList[j]?) ∧ Hid (Bytes wr w.heap.size 5 (.slice (some ⟨w.heap.size, 0, none⟩) l.length c0) l) ∧ Below w.heap.size w wr)
    (fun iv _ => s.size - (intOf iv).toNat)
  case atStart => exact ⟨0, s.data.toList, Nat.zero_le _, rfl, by simp, Lib.hid (fun j hj => by omega), Lib.hid (fun j _ => rfl), Lib.hid (by have := HB.out; simpa using this), HG.out⟩
  case round =>
    clear HB HG
    obtain ⟨k, l, hk, rfl, hl, HA, HC, HW, hbel⟩ := hrel
    by_cases hlt : k < s.size
    · obtain ⟨hc, hz, hB⟩ := bytes_at HW.out k (by omega)
      have hks : k < s.data.toList.length := by simpa using hlt
      have hlk : l[k]'(by omega) = s.data.toList[k] := by
        have h1 := HC.out k (Nat.le_refl _)
        rw [List.getElem?_eq_getElem (by omega), List.getElem?_eq_getElem hks] at h1
        exact Option.some.inj h1
      obtain ⟨x, hx⟩ : ∃ x, s.data.toList[k] = x := ⟨_, rfl⟩
      rw [hlk, hx] at hc
      have HX : Hid ((s.data.toList.map (· ^^^ b))[k]? = some (x ^^^ b)) := Lib.hid (by rw [List.getElem?_map, List.getElem?_eq_getElem hks, hx]; rfl)
      have h8 := hx8 x
      have W1 := Lib.hid (bytes_set HW.out k (x ^^^ b))
      have hb1 : Below w.heap.size w (wr.setCell ⟨w.heap.size, k, none⟩ (.int .u8 ((x ^^^ b).toNat : Int))) := hbel.setCell (Nat.le_refl _) _
      have hbd := x.toNat_lt
      clear hlk hx hks
      go_wp2
      go_roundw
      case rel => exact ⟨k + 1, l.set k (x ^^^ b), by omega, by go_num, by simpa using hl, Lib.hid (fun j hj => by
        by_cases e : j = k
        · subst e; rw [List.getElem?_set_self (by omega), HX.out]
        · rw [List.getElem?_set_ne (by omega)]; exact HA.out j (by omega)), Lib.hid (fun j hj => by rw [List.getElem?_set_ne (by omega)]; exact HC.out j (by omega)), by simpa using W1, hb1⟩
      case measure => (simp [intOf]; try omega)
    · obtain rfl : k = s.size := by omega
      have hfin : l = s.data.toList.map (· ^^^ b) := by
        apply List.ext_getElem?
        intro j
        by_cases hj : j < s.size
        · exact HA.out j hj
        · rw [List.getElem?_eq_none (by omega), List.getElem?_eq_none (by simp; omega)]
      have h9 := HW.out
      have hconv := bytes_string (P := Tryz.prog) 22 9 Tryz.underlying22 Tryz.underlying5 Tryz.underlying9 h9
      rw [hl] at hconv
      clear h9
      go_wp2
      go_ret
      exact ⟨rfl, hbel⟩
end Go.Proofs.YtgpjklnlchbbbaaGreatDoor
namespace Go.Proofs.YtgpjklnlchbbbaaGreatDoor
open Go.RowKit Go.Proofs.YtgpjklnlchbbbaaGreatDoor.Sha Go.Proofs.YtgpjklnlchbbbaaGreatDoor.Hexa Go.Proofs.YtgpjklnlchbbbaaGreatDoor.Parts Go.Proofs.YtgpjklnlchbbbaaGreatDoor.Byt Go.Proofs.YtgpjklnlchbbbaaGreatDoor.BitsM

theorem repeat0 (n : Nat) (w : World) (hn : n ≤ 8000000) :
    Calls Tryz.prog 71 #[.string { data := #[0] }, .int .i64 n] w fun e w' => e = .returned (.string (longB n 0)) ∧ Below w.heap.size w w' := by
  refine (Tryz.strings_Repeat { data := #[0] } n w (by omega) (by show 1 * n ≤ _; omega)).mono ?_
  rintro e w' ⟨rfl, hb⟩
  refine ⟨?_, hb⟩
  have h := Lib.repeatL_replicate 0 1 n
  have : (({ data := #[0] } : ByteArray)).data.toList = List.replicate 1 0 := rfl
  rw [this, h, Nat.mul_one]; rfl

set_option maxRecDepth 100000 in
set_option maxHeartbeats 1000000 in
theorem implKey_any (s : ByteArray) (w : World) (hT : Tabs w) (hs : s.size ≤ 2000000) :
    Calls Tryz.prog 62 #[.string s] w fun e w' => e = .returned (.string (keyB s)) ∧ Below w.heap.size w w' := by
  have k1 := Lib.hid fun w hT => implDigest_any s w (by omega) (And.left (b := IsTab w 2 keyL) hT) (And.right hT)
  have KL := Lib.hid (fun (n : Nat) (w : World) (h : n ≤ 64) => repeat0 n w (by omega))
  have HT := Lib.hid hT
  clear hT
  by_cases h : 64 < s.size
  · have hd : (digB s).size = 32 := rfl
    have HE : Hid (keyB s = digB s ++ longB 32 0) := Lib.hid (by unfold keyB keyBase; rw [if_pos h]; rfl)
    clear hs
    go_enter Tryz.func62, Tryz.ntmps62
    go_wp2_with (first
      | (go_at_call 70; refine (k1.out _ HT.out).mono ?_; rintro e w1 ⟨rfl, hb1⟩)
      | (go_at_call 71; refine (KL.out 32 _ (by omega)).mono ?_; rintro e w2 ⟨rfl, hb2⟩))
    go_ret
    exact ⟨by rw [HE.out]; rfl, hb1.trans (hb2.mono hb1.size)⟩
  · have HE : Hid (keyB s = s ++ longB (64 - s.size) 0) := Lib.hid (by unfold keyB keyBase; rw [if_neg h])
    have h64 : ((64 - s.size : Nat) : Int) = 64 - (s.size : Int) := by omega
    have KL2 := fun w => KL.out (64 - s.size) w (by omega)
    rw [h64] at KL2
    have KL3 := Lib.hid KL2
    have hsz : s.size + (longB (64 - s.size) 0).size ≤ 64 := by rw [longB_size]; omega
    clear hs KL2 KL
    go_enter Tryz.func62, Tryz.ntmps62
    go_wp2_with (first
      | (go_at_call 71; refine (KL3.out _).mono ?_; rintro e w2 ⟨rfl, hb2⟩))
    go_ret
    exact ⟨by rw [HE.out]; rfl, hb2⟩

set_option maxRecDepth 100000 in
set_option maxHeartbeats 1000000 in
theorem hashDigest_any (a t : ByteArray) (w : World) (hT : Tabs w) (ha : a.size ≤ 4000000) (ht : t.size ≤ 4000000) :
    Calls Tryz.prog 64 #[.agg #[.string a], .string t] w fun e w' => e = .returned (.string (digB (a ++ t))) ∧ Below w.heap.size w w' := by
  have k1 := Lib.hid fun w hT => implDigest_any (a ++ t) w (by rw [ByteArray.size_append]; omega) (And.left (b := IsTab w 2 keyL) hT) (And.right hT)
  have HT := Lib.hid (Tabs.below hT ((Below.refl w.heap.size w).alloc (Nat.le_refl _) (.cells #[.string a] 73)))
  have hsz : a.size + t.size ≤ 8000000 := by omega
  clear hT ha ht
  go_enter Tryz.func64, Tryz.ntmps64
  go_wp2_with (first
    | (go_at_call 70; refine (k1.out _ HT.out).mono ?_; rintro e w1 ⟨rfl, hb1⟩))
  go_ret
  exact ⟨rfl, ((Below.refl _ _).alloc (Nat.le_refl _) _).trans (hb1.mono (by simp))⟩

set_option maxRecDepth 100000 in
set_option maxHeartbeats 1000000 in
theorem newKeyed_any (key : ByteArray) (w : World) (hT : Tabs w) (hk : key.size ≤ 2000000) :
    Calls Tryz.prog 45 #[.string key] w fun e w' => e = .returned (.agg #[.string (xorB (keyB key) 54), .string (xorB (keyB key) 92)]) ∧ Below w.heap.size w w' := by
  have k1 := Lib.hid fun w hT => implKey_any key w hT hk
  have hks := keyB_size key
  generalize hK : keyB key = K at k1 hks
  have x1 := Lib.hid fun w => masked_any K 92 w (by omega)
  have x2 := Lib.hid fun w => masked_any K 54 w (by omega)
  have HT := Lib.hid hT
  clear hT hK hks hk
  go_enter Tryz.func45, Tryz.ntmps45
  go_wp2_with fail
  have HN := heap_alloc_new w (.cells #[.string { data := #[] }, .string { data := #[] }] 75)
  have hb0 : Below w.heap.size w (w.alloc (.cells #[.string { data := #[] }, .string { data := #[] }] 75)) := (Below.refl w.heap.size w).alloc (Nat.le_refl _) _
  have hz0 : (w.alloc (.cells #[.string { data := #[] }, .string { data := #[] }] 75)).heap.size = w.heap.size + 1 := by simp
  have HT1 := Lib.hid (Tabs.below HT.out hb0)
  generalize w.alloc (.cells #[.string { data := #[] }, .string { data := #[] }] 75) = w0 at HN hb0 HT1 hz0 ⊢
  have HZ := Lib.hid hz0
  clear hz0
  refine (k1.out _ HT1.out).mono ?_
  rintro e w1 ⟨rfl, hb1⟩
  go_wp2_with fail
  refine (x2.out _).mono ?_
  rintro e w2 ⟨rfl, hb2⟩
  go_wp2_with fail
  refine (x1.out _).mono ?_
  rintro e w3 ⟨rfl, hb3⟩
  have hb4 := Lib.hid (hb1.trans ((hb2.trans (hb3.mono hb2.size)).mono hb1.size))
  have HH : w3.heap[w.heap.size]? = some (.cells #[.string { data := #[] }, .string { data := #[] }] 75 (0, 0)) := by rw [hb4.out.block _ (by have := HZ.out; omega)]; exact HN
  have c0 : w3.cell? ⟨w.heap.size, 0, none⟩ = some (.string { data := #[] }) := by simp [World.cell?, HH]
  have c1 : w3.cell? ⟨w.heap.size, 1, none⟩ = some (.string { data := #[] }) := by simp [World.cell?, HH]
  have f0 : ∀ j, w3.frozen? ⟨w.heap.size, j, none⟩ = false := fun j => by simp [World.frozen?, HH]
  have hbw := Lib.hid (hb0.trans (hb4.out.mono hb0.size))
  clear hb0 hb1 hb2 hb3 HN HH
  go_wp2_with fail
  refine bodyPost_ret (v := .agg #[.string (xorB K 54), .string (xorB K 92)]) ?_ rfl ⟨rfl, (hbw.out.setCell (Nat.le_refl _) _).setCell (Nat.le_refl _) _⟩
  simp [results, Tryz.results45, go_sem, c0, c1]

set_option maxRecDepth 100000 in
set_option maxHeartbeats 1000000 in
theorem tag_any (a b t : ByteArray) (w : World) (hT : Tabs w) (ha : a.size ≤ 64) (hb : b.size ≤ 64) (ht : t.size ≤ 2000000) :
    Calls Tryz.prog 46 #[.agg #[.string a, .string b], .string t] w fun e w' => e = .returned (.string (digB (b ++ digB (a ++ t)))) ∧ Below w.heap.size w w' := by
  have k1 := Lib.hid fun w hT => hashDigest_any a t w hT (by omega) (by omega)
  have hds : (digB (a ++ t)).size = 32 := digB_size _
  generalize digB (a ++ t) = d at k1 hds
  have k2 := Lib.hid fun w hT => hashDigest_any b d w hT (by omega) (by omega)
  generalize digB (b ++ d) = d2 at k2
  have HT := Lib.hid hT
  clear hT hds ha hb ht
  go_enter Tryz.func46, Tryz.ntmps46
  go_wp2_with fail
  have HN := heap_alloc_new w (.cells #[.string a, .string b] 75)
  have hb0 : Below w.heap.size w (w.alloc (.cells #[.string a, .string b] 75)) := (Below.refl w.heap.size w).alloc (Nat.le_refl _) _
  have hz0 : (w.alloc (.cells #[.string a, .string b] 75)).heap.size = w.heap.size + 1 := by simp
  have HT1 := Lib.hid (Tabs.below HT.out hb0)
  generalize w.alloc (.cells #[.string a, .string b] 75) = w0 at HN hb0 HT1 hz0 ⊢
  have HZ := Lib.hid hz0
  have HB0 := Lib.hid hb0
  have c0 : w0.cell? ⟨w.heap.size, 0, none⟩ = some (.string a) := by simp [World.cell?, HN]
  have c1 : w0.cell? ⟨w.heap.size, 1, none⟩ = some (.string b) := by simp [World.cell?, HN]
  have HD0 : Below w0.heap.size w0 w0.drew := (Below.refl _ w0).drew
  have HT2 := Lib.hid (HT1.out.below HD0)
  have HB2 := Lib.hid (HB0.out.trans (HD0.mono HB0.out.size))
  have d0 : w0.drew.cell? ⟨w.heap.size, 0, none⟩ = some (.string a) := c0
  have d1 : w0.drew.cell? ⟨w.heap.size, 1, none⟩ = some (.string b) := c1
  clear hz0 hb0 HN HD0
  go_region_held3 (fun w' => w'.cell? ⟨w.heap.size, 0, none⟩ = some (.string a) ∧ w'.cell? ⟨w.heap.size, 1, none⟩ = some (.string b))
    (first
      | go_keep
      | (refine ⟨?_, ?_⟩
         · (rw [hb2.out.cell (p := ⟨w.heap.size, 0, none⟩) (by have := HZ.out; show w.heap.size < w0.heap.size; omega)]; exact d0)
         · (rw [hb2.out.cell (p := ⟨w.heap.size, 1, none⟩) (by have := HZ.out; show w.heap.size < w0.heap.size; omega)]; exact d1))
      | (refine ⟨?_, ?_⟩
         · (rw [hb1.out.cell (p := ⟨w.heap.size, 0, none⟩) (by have := HZ.out; show w.heap.size < w0.heap.size; omega)]; exact d0)
         · (rw [hb1.out.cell (p := ⟨w.heap.size, 1, none⟩) (by have := HZ.out; show w.heap.size < w0.heap.size; omega)]; exact d1)))
    (first
      | (go_at_call 64; (with_reducible refine (k1.out _ HT2.out).mono ?_); rintro e w1 ⟨rfl, hb⟩; have hb1 := Lib.hid hb; clear hb)
      | (go_at_call 64; (with_reducible refine (k2.out _ (HT2.out.below hb1.out)).mono ?_); rintro e w2 ⟨rfl, hb⟩; have hb2 := Lib.hid (hb1.out.trans (hb.mono hb1.out.size)); clear hb))
  go_wp2
  go_ret
  exact ⟨rfl, HB2.out.trans (hb2.out.mono HB2.out.size)⟩

set_option maxRecDepth 100000 in
set_option maxHeartbeats 1000000 in
theorem implHmac_any (key text : ByteArray) (w : World) (hT : Tabs w) (hk : key.size ≤ 2000000) (ht : text.size ≤ 2000000) :
    Calls Tryz.prog 35 #[.string key, .string text] w fun e w' => e = .returned (.string (hmacB key text)) ∧ Below w.heap.size w w' := by
  have k1 := Lib.hid fun w hT => newKeyed_any key w hT hk
  have hx1 : (xorB (keyB key) 54).size ≤ 64 := by rw [xorB_size, keyB_size]; omega
  have hx2 : (xorB (keyB key) 92).size ≤ 64 := by rw [xorB_size, keyB_size]; omega
  have HE : Hid (hmacB key text = digB (xorB (keyB key) 92 ++ digB (xorB (keyB key) 54 ++ text))) := Lib.hid rfl
  generalize xorB (keyB key) 54 = A at k1 hx1 HE
  generalize xorB (keyB key) 92 = B at k1 hx2 HE
  have k2 := Lib.hid fun w hT => tag_any A B text w hT hx1 hx2 ht
  have HT := Lib.hid hT
  clear hT hx1 hx2 hk ht
  go_enter Tryz.func35, Tryz.ntmps35
  go_wp2_with fail
  refine (k1.out _ HT.out).mono ?_
  rintro e w1 ⟨rfl, hb1⟩
  go_wp2_with fail
  refine (k2.out _ (HT.out.below hb1)).mono ?_
  rintro e w2 ⟨rfl, hb2⟩
  go_wp2
  go_ret
  exact ⟨by rw [HE.out]; rfl, hb1.trans (hb2.mono hb1.size)⟩

theorem implMark_any (k t : ByteArray) (n : Int) (w : World) (hT : Tabs w) (hk : k.size ≤ 2000000) (ht : t.size ≤ 2000000) :
    Calls Tryz.prog 27 #[.string k, .string t, .int .i64 n] w fun e w' => e = .returned (.string (markB k t n)) ∧ Below w.heap.size w w' := by
  have k1 := Lib.hid fun w hT => implHmac_any k t w hT hk ht
  have hds := hmacB_size k t
  have HT := Lib.hid hT
  clear hk ht hT
  by_cases hn : 1 ≤ n ∧ n ≤ 32
  · have HE : Hid (markB k t n = (hmacB k t).extract 0 n.toNat) := Lib.hid (if_pos hn)
    have hi := hn.1
    have hj := hn.2
    clear hn
    go_enter Tryz.func27, Tryz.ntmps27
    go_wp2_with (first
      | (go_at_call 35; refine (k1.out _ HT.out).mono ?_; rintro e w1 ⟨rfl, hb1⟩))
    go_ret
    exact ⟨by rw [HE.out]; rfl, hb1⟩
  · have HE : Hid (markB k t n = ⟨#[]⟩) := Lib.hid (if_neg hn)
    by_cases h1 : n < 1
    · clear hn
      go_enter Tryz.func27, Tryz.ntmps27
      go_wp2
      go_ret
      exact ⟨by rw [HE.out]; rfl, Below.refl _ _⟩
    · have h2 : 32 < n := by omega
      have h1' : 1 ≤ n := by omega
      clear hn h1
      go_enter Tryz.func27, Tryz.ntmps27
      go_wp2
      go_ret
      exact ⟨by rw [HE.out]; rfl, Below.refl _ _⟩

end Go.Proofs.YtgpjklnlchbbbaaGreatDoor
namespace Go.Proofs.YtgpjklnlchbbbaaGreatDoor
open Go.RowKit Go.Proofs.YtgpjklnlchbbbaaGreatDoor.Sha Go.Proofs.YtgpjklnlchbbbaaGreatDoor.Hexa Go.Proofs.YtgpjklnlchbbbaaGreatDoor.Byt

/-- The parts behind one another. -/
def joinedB (xs : List ByteArray) : ByteArray := ⟨(Lib.join (xs.map (·.data.toList)) []).toArray⟩

set_option maxRecDepth 100000 in
set_option maxHeartbeats 1000000 in
theorem parts_yes (k : ByteArray) (n : Int) (q m : Nat) (xs : List ByteArray) (w : World) (hT : Tabs w) (hk : k.size ≤ 2000000) (hl : xs.length = m) (hm : m ≤ 10) (hcell : ∀ j x, xs[j]? = some x → w.cell? ⟨q, j, none⟩ = some (.string x)) (hq : q < w.heap.size) (hj : (joinedB xs).size ≤ 1000)
    (hx : ∀ x ∈ xs, 0 < x.size) :
    Calls Tryz.prog 34 #[.string k, .int .i64 n, .slice (some ⟨q, 0, none⟩) m m] w fun e w' => e = .returned (.string (markB k (joinedB xs) n)) ∧ Below w.heap.size w w' := by
  have h1 := has_any q m m xs w hl (by omega) hcell
  have h2 : ∀ m', Calls Tryz.prog 44 #[.slice (some ⟨q, 0, none⟩) m m, .string ⟨#[]⟩] (w.drewN m') fun e w' => e = .returned (.string (joinedB xs)) ∧ Below w.heap.size w w' := fun m' => by
    subst hl
    refine (Tryz.strings_Join q 0 xs.length xs ⟨#[]⟩ (w.drewN m') (fun j x hx => by rw [Nat.zero_add, World.cell?_drewN]; exact hcell j x hx) hq (by omega) (Nat.le_refl _) (by
      have : (Lib.join (xs.map (·.data.toList)) []).length = (joinedB xs).size := by show _ = (Lib.join (xs.map (·.data.toList)) []).toArray.size; simp
      show (Lib.join (xs.map (·.data.toList)) []).length ≤ _
      omega)).mono ?_
    rintro e w' ⟨rfl, hb⟩
    exact ⟨rfl, (below_drewN w m').trans hb⟩
  have h3 : ∀ w', Below w.heap.size w w' → Calls Tryz.prog 27 #[.string k, .string (joinedB xs), .int .i64 n] w' fun e w'' => e = .returned (.string (markB k (joinedB xs) n)) ∧ Below w.heap.size w w'' := fun w' hb =>
    (implMark_any k (joinedB xs) n w' (hT.below hb) hk (by omega)).mono fun e w'' ⟨he, hb2⟩ => ⟨he, hb.trans (hb2.mono hb.size)⟩
  generalize markB k (joinedB xs) n = r at h3 ⊢
  generalize joinedB xs = t at h2 h3
  have k1 := Lib.hid h1
  have k2 := Lib.hid h2
  have k3 := Lib.hid h3
  have HX := Lib.hid hx
  clear h1 h2 h3 hT hk hl hm hcell hq hj hx
  go_enter Tryz.func34, Tryz.ntmps34
  go_wp2_with fail
  refine k1.out.mono ?_
  rintro e w1 ⟨⟨rfl, _⟩ | ⟨_, x, hx, hz⟩, m1, rfl⟩
  · go_wp2_with fail
    refine (k2.out _).mono ?_
    rintro e w2 ⟨rfl, hb2⟩
    have HB2 := Lib.hid hb2
    clear hb2
    go_wp2_with fail
    refine (k3.out _ HB2.out).mono ?_
    rintro e w3 ⟨rfl, hb3⟩
    go_wp2
    go_ret
    exact ⟨rfl, hb3⟩
  · exact absurd (HX.out x hx) (by omega)

set_option maxRecDepth 100000 in
set_option maxHeartbeats 1000000 in
theorem parts_no (k : ByteArray) (n : Int) (q m : Nat) (xs : List ByteArray) (w : World) (hl : xs.length = m) (hm : m ≤ 10) (hcell : ∀ j x, xs[j]? = some x → w.cell? ⟨q, j, none⟩ = some (.string x))
    (hx : ∃ x ∈ xs, x.size = 0) :
    Calls Tryz.prog 34 #[.string k, .int .i64 n, .slice (some ⟨q, 0, none⟩) m m] w fun e w' => e = .returned (.string ⟨#[]⟩) ∧ Below w.heap.size w w' := by
  have k1 := Lib.hid (has_any q m m xs w hl (by omega) hcell)
  have HX := Lib.hid hx
  clear hl hm hcell hx
  go_enter Tryz.func34, Tryz.ntmps34
  go_wp2_with fail
  refine k1.out.mono ?_
  rintro e w1 ⟨⟨_, h⟩ | ⟨rfl, _⟩, m1, rfl⟩
  · obtain ⟨x, hx, hz⟩ := HX.out
    exact absurd (h x hx) (by omega)
  · go_wp2
    go_ret
    exact ⟨rfl, below_drewN _ _⟩
end Go.Proofs.YtgpjklnlchbbbaaGreatDoor
namespace Go.Proofs.YtgpjklnlchbbbaaGreatDoor
open Go.RowKit Go.Proofs.YtgpjklnlchbbbaaGreatDoor.Sha Go.Proofs.YtgpjklnlchbbbaaGreatDoor.Hexa Go.Proofs.YtgpjklnlchbbbaaGreatDoor.Byt
theorem joined_one (a : ByteArray) : joinedB [a] = a := by
  unfold joinedB
  apply ByteArray.ext
  simp [Lib.join]
theorem cells_one {w : World} {t : TypeId} (a : ByteArray) (j : Nat) (x : ByteArray) (h : [a][j]? = some x) : (w.alloc (.cells #[.string a] t)).cell? ⟨w.heap.size, j, none⟩ = some (.string x) := by
  have hn := heap_alloc_new w (.cells #[.string a] t)
  rcases j with _ | j
  all_goals simp at h
  all_goals subst h
  all_goals (simp only [World.cell?, hn]; rfl)

theorem parts_single (s wd : ByteArray) (w : World) (t : TypeId) (hT : Tabs w) (hs : s.size ≤ 2000000) (h0 : 0 < wd.size) (hw : wd.size ≤ 8) :
    Calls Tryz.prog 34 #[.string s, .int .i64 16, .slice (some ⟨w.heap.size, 0, none⟩) 1 1] (w.alloc (.cells #[.string wd] t)) fun e w' => e = .returned (.string (markB s wd 16)) ∧ Below w.heap.size w w' := by
  have hb0 : Below w.heap.size w (w.alloc (.cells #[.string wd] t)) := (Below.refl _ _).alloc (Nat.le_refl _) _
  have e := joined_one wd
  refine (parts_yes s 16 w.heap.size 1 [wd] _ (hT.below hb0) hs rfl (by omega) (cells_one wd) (by simp) (by rw [e]; omega) (by
      intro z hz
      simp at hz
      subst hz; exact h0)).mono ?_
  rintro e w' ⟨rfl, hb⟩
  exact ⟨by rw [joined_one], hb0.trans (hb.mono hb0.size)⟩

set_option maxRecDepth 100000 in
set_option maxHeartbeats 1000000 in
theorem implPageKey_any (k : ByteArray) (w : World) (hT : Tabs w) (hk : k.size ≤ 2000000) :
    Calls Tryz.prog 26 #[.string k] w fun e w' => e = .returned (.string (markB k pageWord 16)) ∧ Below w.heap.size w w' := by
  have h3 := fun (w : World) (t : TypeId) (hT : Tabs w) => parts_single k pageWord w t hT hk (by show 0 < 4; omega) (by show 4 ≤ 8; omega)
  generalize markB k pageWord 16 = r at h3 ⊢
  unfold pageWord at h3
  have k3 := Lib.hid h3
  have HT := Lib.hid hT
  clear h3 hT hk
  go_enter Tryz.func26, Tryz.ntmps26
  go_wp2_with fail
  refine (k3.out _ _ HT.out).mono ?_
  rintro e w3 ⟨rfl, hb3⟩
  go_wp2
  go_ret
  exact ⟨rfl, hb3⟩

set_option maxRecDepth 100000 in
set_option maxHeartbeats 1000000 in
theorem implMarkKey_any (k : ByteArray) (w : World) (hT : Tabs w) (hk : k.size ≤ 2000000) :
    Calls Tryz.prog 28 #[.string k] w fun e w' => e = .returned (.string (markB k markWord 16)) ∧ Below w.heap.size w w' := by
  have h3 := fun (w : World) (t : TypeId) (hT : Tabs w) => parts_single k markWord w t hT hk (by show 0 < 4; omega) (by show 4 ≤ 8; omega)
  generalize markB k markWord 16 = r at h3 ⊢
  unfold markWord at h3
  have k3 := Lib.hid h3
  have HT := Lib.hid hT
  clear h3 hT hk
  go_enter Tryz.func28, Tryz.ntmps28
  go_wp2_with fail
  refine (k3.out _ _ HT.out).mono ?_
  rintro e w3 ⟨rfl, hb3⟩
  go_wp2
  go_ret
  exact ⟨rfl, hb3⟩

end Go.Proofs.YtgpjklnlchbbbaaGreatDoor
