/- The program's chapter 3: a text combined with a byte, the key, the keyed hash. -/
import Derived.Test.YtbojcphcjggccaaDoorMarkDef

import Derived.Deep.RegionHeld3
import Derived.Deep.DeepCutAuto
namespace Go.Proofs.YtbojcphcjggccaaDoor
open Go.RowKit Go.Proofs.YtbojcphcjggccaaDoor.Sha Go.Proofs.YtbojcphcjggccaaDoor.Hexa Go.Proofs.YtbojcphcjggccaaDoor.Parts Go.Proofs.YtbojcphcjggccaaDoor.Byt Go.Proofs.YtbojcphcjggccaaDoor.BitsM

set_option maxRecDepth 100000 in
set_option maxHeartbeats 1000000 in
theorem masked_any (s : ByteArray) (b : UInt8) (w : World) (hs : s.size ≤ 8000000) :
    Calls Tryd.prog 47 #[.string s, .int .u8 b.toNat] w fun e w' => e = .returned (.string (xorB s b)) ∧ Below w.heap.size w w' := by
  have kc0 := run_bytes_of_string (P := Tryd.prog) w 9 22 5 s Tryd.underlying9 Tryd.underlying22 Tryd.underlying5
  have b0 := bytes_conv w 5 s w.heap.size (Nat.le_refl _) (by omega)
  have g0 : Below w.heap.size w (w.drew.alloc (.cells (bytesRow s (grownCap w s.size 0 5)) 5 ((bytesRow s (grownCap w s.size 0 5)).size, (bytesRow s (grownCap w s.size 0 5)).size + 1))) := below_grown w (Nat.le_refl _) _
  generalize w.drew.alloc (.cells (bytesRow s (grownCap w s.size 0 5)) 5 ((bytesRow s (grownCap w s.size 0 5)).size, (bytesRow s (grownCap w s.size 0 5)).size + 1)) = W0 at b0 g0 kc0
  generalize grownCap w s.size 0 5 = c0 at b0 kc0
  have HB := Lib.hid b0
  have HG := Lib.hid g0
  obtain ⟨bv, hbv⟩ : ∃ bv : Int, (b.toNat : Int) = bv := ⟨_, rfl⟩
  have hx8 : ∀ a : UInt8, bits .xor .u8 (a.toNat : Int) bv = ((a ^^^ b).toNat : Int) := fun a => by rw [← hbv]; exact xor8 a b
  rw [hbv]
  clear b0 g0 hbv
  go_enter Tryd.func47, Tryd.ntmps47
  go_wp2
  clear kc0
  go_loopw [11] (fun iv wr => ∃ (k : Nat) (l : List UInt8), k ≤ s.size ∧ iv = .int .i64 k ∧ l.length = s.size ∧ Hid (∀ j, j < k → l[j]? = (s.data.toList.map (· ^^^ b))[j]?) ∧ Hid (∀ j, k ≤ j → l[j]? = s.data.toList[j]?) ∧ Hid (Bytes wr w.heap.size 5 (.slice (some ⟨w.heap.size, 0, none⟩) l.length c0) l) ∧ Below w.heap.size w wr)
    (fun iv _ => s.size - (intOf iv).toNat)
  case atStart => exact ⟨0, s.data.toList, Nat.zero_le _, rfl, by simp, Lib.hid (fun j hj => by omega), Lib.hid (fun j _ => rfl), Lib.hid (by have := HB.out; simpa using this), HG.out⟩
  case round =>
    clear HB HG
    obtain ⟨k, l, hk, rfl, hl, HA, HC, HW, hbel⟩ := hrel
    by_cases hlt : k < s.size
    · obtain ⟨hc, hz, hB⟩ := bytes_at HW.out k (by omega)
      have hks : k < s.data.toList.length := by simpa using hlt
      have hlk : l[k]'(by omega) = s.data.toList[k] := by
        have h1 := HC.out k (Nat.le_refl _)
        rw [List.getElem?_eq_getElem (by omega), List.getElem?_eq_getElem hks] at h1
        exact Option.some.inj h1
      obtain ⟨x, hx⟩ : ∃ x, s.data.toList[k] = x := ⟨_, rfl⟩
      rw [hlk, hx] at hc
      have HX : Hid ((s.data.toList.map (· ^^^ b))[k]? = some (x ^^^ b)) := Lib.hid (by rw [List.getElem?_map, List.getElem?_eq_getElem hks, hx]; rfl)
      have h8 := hx8 x
      have W1 := Lib.hid (bytes_set HW.out k (x ^^^ b))
      have hb1 : Below w.heap.size w (wr.setCell ⟨w.heap.size, k, none⟩ (.int .u8 ((x ^^^ b).toNat : Int))) := hbel.setCell (Nat.le_refl _) _
      have hbd := x.toNat_lt
      clear hlk hx hks
      go_wp2
      go_roundw
      case rel => exact ⟨k + 1, l.set k (x ^^^ b), by omega, by go_num, by simpa using hl, Lib.hid (fun j hj => by
        by_cases e : j = k
        · subst e; rw [List.getElem?_set_self (by omega), HX.out]
        · rw [List.getElem?_set_ne (by omega)]; exact HA.out j (by omega)), Lib.hid (fun j hj => by rw [List.getElem?_set_ne (by omega)]; exact HC.out j (by omega)), by simpa using W1, hb1⟩
      case measure => (simp [intOf]; try omega)
    · obtain rfl : k = s.size := by omega
      have hfin : l = s.data.toList.map (· ^^^ b) := by
        apply List.ext_getElem?
        intro j
        by_cases hj : j < s.size
        · exact HA.out j hj
        · rw [List.getElem?_eq_none (by omega), List.getElem?_eq_none (by simp; omega)]
      have h9 := HW.out
      have hconv := bytes_string (P := Tryd.prog) 22 9 Tryd.underlying22 Tryd.underlying5 Tryd.underlying9 h9
      rw [hl] at hconv
      clear h9
      go_wp2
      go_ret
      exact ⟨rfl, hbel⟩
end Go.Proofs.YtbojcphcjggccaaDoor
