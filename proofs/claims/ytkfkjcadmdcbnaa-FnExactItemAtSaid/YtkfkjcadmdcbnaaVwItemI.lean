/- The program's ItemAt. -/
import Derived.Test.YtkfkjcadmdcbnaaVwItem
import Derived.Test.YtkfkjcadmdcbnaaSays
import Derived.Test.YtkfkjcadmdcbnaaMarkAt
import Derived.Test.YtkfkjcadmdcbnaaTextEq
namespace Go.Proofs.Ytkfkjcadmdcbnaa
open Go.RowKit Go.Proofs.Ytkfkjcadmdcbnaa.Parts Go.Proofs.Ytkfkjcadmdcbnaa.Hexa

set_option maxRecDepth 100000 in
set_option maxHeartbeats 2000000 in
theorem implItem_any (a : Option Addr) (c : Nat) (L : List ItemR) (p : ByteArray) (w : World) (h : (celRow cItem L).Rd w (.slice a L.length c)) (hn : L.length ≤ 100000000) :
    Calls Try.prog 16 #[.agg #[.slice a L.length c], .string p] w (SaysI (itemZ L p) w) := by
  have B0 := Lib.hid (below_bk w (.cells #[.slice a L.length c] 26))
  have HS := Lib.hid h
  obtain ⟨z, hz⟩ : ∃ z, itemZ L p = z := ⟨_, rfl⟩
  have HZ := Lib.hid hz
  rw [hz]
  clear h hz
  go_enter Try.func16, Try.ntmps16
  go_wp2
  go_loopw [10] (fun jv wr => ∃ j : Nat, j ≤ L.length ∧ jv = .int .i64 j ∧ Hid (∀ r, r < j → (L.getD r default).path ≠ p) ∧ Hid (Below w.heap.size w wr)) (fun jv _ => L.length - (intOf jv).toNat)
  case atStart => exact ⟨0, Nat.zero_le _, rfl, Lib.hid (fun r hr => by omega), B0⟩
  case round =>
    clear B0
    obtain ⟨j, hj, rfl, HA, HB⟩ := hrel
    by_cases hjt : j < L.length
    · obtain ⟨g, off, rfl, hg, d0, d1, d2⟩ := cItem_at (Cel.Rd.later HB.out _ _ HS.out) j hjt
      obtain ⟨x, hx⟩ : ∃ x, L.getD j default = x := ⟨_, rfl⟩
      rw [hx] at d0 d1 d2
      have HX := Lib.hid hx
      clear hx
      have HB2 : Hid (Below w.heap.size w (wr.alloc (.cells #[.string x.path, .bool x.dir, .string x.text] 28))) := Lib.hid (HB.out.alloc HB.out.size _)
      by_cases hq : x.path = p
      · have HZ2 : Hid ((j : Int) = z) := Lib.hid (by rw [← HZ.out, itemZ_some hjt HA.out (by rw [HX.out]; exact hq)])
        subst hq
        go_wp2
        go_ret
        exact ⟨ret_i64m HZ2.out, HB2.out⟩
      · have HA2 : Hid (∀ r, r < j + 1 → (L.getD r default).path ≠ p) := Lib.hid (fun r hr => by
          by_cases e : r = j
          · subst e; rw [HX.out]; exact hq
          · exact HA.out r (by omega))
        have i1 := text_neB hq
        have i3 := text_ne hq
        clear HA
        go_wp2
        go_roundw
        case rel => exact ⟨j + 1, by omega, by go_num, HA2, HB2⟩
        case measure => (simp [intOf]; try omega)
    · obtain rfl : j = L.length := by omega
      have HE : Hid (-1 = z) := Lib.hid (by rw [← HZ.out, itemZ_none HA.out])
      go_wp2
      go_ret
      exact ⟨ret_i64m HE.out, HB.out⟩
end Go.Proofs.Ytkfkjcadmdcbnaa
