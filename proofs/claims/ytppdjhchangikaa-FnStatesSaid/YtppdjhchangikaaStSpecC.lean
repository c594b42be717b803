/- The model's page states: StatesWords. -/
import Derived.Test.YtppdjhchangikaaStSpec
import Derived.Test.YtppdjhchangikaaMade
import Derived.Test.YtppdjhchangikaaLongMath
import Derived.Test.YtppdjhchangikaaWordsMath
import Derived.Deep.RegionLaw
namespace Go.Proofs.Ytppdjhchangikaa
open Go.RowKit Go.Proofs.Ytppdjhchangikaa.Parts Go.Proofs.Ytppdjhchangikaa.Hexa Go.Proofs.Ytppdjhchangikaa.Byt

theorem bytes_cut_text {P : Program} {w : World} {B e g c : Nat} {l : List UInt8} (src dst : TypeId)
    (hs : P.underlying src = some (.slice e)) (he : P.underlying e = some (.int .u8)) (hd : P.underlying dst = some .string)
    (h : Bytes w B e (.slice (some ⟨g, 0, none⟩) l.length c) l) (o n c' : Nat) (hon : o + n ≤ l.length) :
    (convert src dst (.slice (some ⟨g, o, none⟩) n c')).run P w = .ok (.string ⟨((l.drop o).take n).toArray⟩) w := by
  have hl : ((l.drop o).take n).length = n := by rw [List.length_take, List.length_drop]; omega
  have := run_convert_bytes_back (P := P) w src dst e ⟨g, o, none⟩ c' ((l.drop o).take n) hs he hd (fun j hj => by
    have hj' : o + j < l.length := by omega
    have h1 := (bytes_at h (o + j) hj').1
    have hadd : (⟨g, o, none⟩ : Addr).add j = ⟨g, o + j, none⟩ := by unfold Addr.add; split <;> simp_all
    rw [hadd, h1]
    simp)
  rw [hl] at this
  exact this

/-- The states as bytes. -/
def stT (zs : List Int) : List UInt8 := zs.map fun x => UInt8.ofNat x.toNat
theorem stT_len (zs : List Int) : (stT zs).length = zs.length := by simp [stT]
theorem stT_succ {zs : List Int} {k : Nat} (h : k < zs.length) : stT (zs.take (k + 1)) = stT (zs.take k) ++ [UInt8.ofNat (zs.getD k 0).toNat] := by
  have e : zs.getD k 0 = zs[k] := by simp [List.getD, h]
  unfold stT
  rw [List.take_succ_eq_append_getElem h, List.map_append, e]
  rfl
def cutSt (l : List UInt8) (o : Nat) : ByteArray := ⟨((l.drop o).take 8).toArray⟩
noncomputable def stWords (zs : List Int) : List ByteArray := if stB zs zs.length = true then [cutSt (partB (stT zs) 16) 0, cutSt (partB (stT zs) 16) 8] else []
theorem stWords_yes {zs : List Int} (h : StOk zs zs.length) : stWords zs = [cutSt (partB (stT zs) 16) 0, cutSt (partB (stT zs) 16) 8] := if_pos (stB_yes h)
theorem stWords_no {zs : List Int} (h : ¬ StOk zs zs.length) : stWords zs = [] := if_neg (by rw [stB_no h]; decide)
theorem st_byte {x : Int} (h : 0 ≤ x ∧ x ≤ 2) : IntKind.u8.wrap x = ((UInt8.ofNat x.toNat).toNat : Int) := by
  rw [IntKind.wrap_u8]
  obtain ⟨n, rfl⟩ : ∃ n : Nat, x = n := ⟨x.toNat, by omega⟩
  rw [Int.toNat_natCast, UInt8.toNat_ofNat']
  omega

set_option maxRecDepth 100000 in
set_option maxHeartbeats 1000000 in
theorem specStWords_any (a : Option Addr) (n c : Nat) (zs : List Int) (w : World) (hs : SrcI w a n zs) (hn : n ≤ 2000000) :
    Calls Try.prog 24 #[.slice a n c] w (GivesT (stWords zs) w) := by
  obtain ⟨i0, hi, hz0, hz1, hz2⟩ := info_parts infoByte
  have HL := Lib.hid hs.len
  have HS := Lib.hid hs
  clear hs
  by_cases hok : StOk zs n
  · have HB := Lib.hid (stB_yes hok)
    have HW : Hid (stWords zs = [cutSt (partB (stT zs) 16) 0, cutSt (partB (stT zs) 16) 8]) := Lib.hid (stWords_yes (by rw [HL.out]; exact hok))
    have h12 : n ≤ 12 := by have := hok.2.2.2; omega
    have HR : Hid (StR zs n) := Lib.hid (by rw [← HL.out]; exact hok.1)
    clear hok
    go_enter Try.func24, Try.ntmps24
    go_wp2_with fail
    refine (specStOk_any a n c zs n _ HS.out hn).mono ?_
    rw [HB.out]
    rintro e w1 ⟨rfl, rfl⟩
    go_wp2_with (at_make; refine wpList_make_full _ rfl _ _ 22 rfl w1.heap.size 5 i0 (.int .u8 0) 1 Try.underlying22 hi hz0 hz1 .i64 .i64 _ _ 16 rfl rfl rfl rfl (by rw [hz2]; omega) (by unfold maxLen; omega) (Nat.le_refl _) ?_; intro w0 hown0 hgrow0)
    have HG0 : Hid (Below w1.heap.size w1 w0) := Lib.hid ((Below.refl _ _).grown hgrow0 (Nat.le_refl _) (fun k h => by cases h))
    have HO0 := Lib.hid (part_start hown0)
    clear hown0 hgrow0
    go_wp2
    go_loopw [4] (fun iv wr => ∃ k : Nat, k ≤ n ∧ iv = .int .i64 k ∧ Hid (Bytes wr w1.heap.size 5 (.slice (some ⟨w1.heap.size, 0, none⟩) 16 16) (partB (stT (zs.take k)) 16)) ∧ Hid (Below w1.heap.size w1 wr)) (fun iv _ => n - (intOf iv).toNat)
    case atStart => exact ⟨0, Nat.zero_le _, rfl, HO0, HG0⟩
    case round =>
      obtain ⟨k, hk, rfl, HO, HG⟩ := hrel
      clear HO0 HG0
      have hl : (stT (zs.take k)).length = k := by rw [stT_len, List.length_take, HL.out]; omega
      by_cases hlt : k < n
      · obtain ⟨g, off, rfl, hg, d⟩ := HS.out.cell k hlt
        have d0 : wr.cell? ⟨g, off + k, none⟩ = some (.int .i64 (zs.getD k 0)) := by rw [HG.out.cell hg]; exact d
        have HX := Lib.hid (HR.out k hlt)
        have HE := Lib.hid (stT_succ (zs := zs) (k := k) (by rw [HL.out]; exact hlt))
        have hby := st_byte HX.out
        obtain ⟨⟨u, c3⟩, z3, _⟩ := part_at HO.out (by omega)
        have N3 := part_next HO.out (UInt8.ofNat (zs.getD k 0).toNat) (by omega)
        rw [hl] at c3 z3 N3
        rw [← HE.out] at N3
        obtain ⟨x, hx⟩ : ∃ x, zs.getD k 0 = x := ⟨_, rfl⟩
        rw [hx] at d0 hby N3
        clear hx d
        generalize UInt8.ofNat x.toNat = z at hby N3
        have N4 := Lib.hid N3
        have HG2 : Hid (Below w1.heap.size w1 (wr.setCell ⟨w1.heap.size, k, none⟩ (.int .u8 (z.toNat : Int)))) := Lib.hid (HG.out.setCell (Nat.le_refl _) _)
        have hb1 : ¬ g = w1.heap.size := by omega
        clear N3 hl HX HE
        go_wp2
        go_roundw
        case rel => exact ⟨k + 1, by omega, by go_num, N4, HG2⟩
        case measure => (simp [intOf]; try omega)
      · obtain rfl : n = k := by omega
        rw [show zs.take n = zs by rw [← HL.out, List.take_length]] at HO hl
        have hpl := partB_length (stT zs) 16 (by omega)
        have HO' : Bytes wr w1.heap.size 5 (.slice (some ⟨w1.heap.size, 0, none⟩) (partB (stT zs) 16).length 16) (partB (stT zs) 16) := by rw [hpl]; exact HO.out
        have HD' : Bytes wr.drew w1.heap.size 5 (.slice (some ⟨w1.heap.size, 0, none⟩) (partB (stT zs) 16).length 16) (partB (stT zs) 16) := HO'
        have k0 := bytes_cut_text (P := Try.prog) 22 9 Try.underlying22 Try.underlying5 Try.underlying9 HD' 0 8 16 (by rw [hpl]; omega)
        have k8 := bytes_cut_text (P := Try.prog) 22 9 Try.underlying22 Try.underlying5 Try.underlying9 HD' 8 8 8 (by rw [hpl]; omega)
        change _ = Result.ok (Value.string (cutSt (partB (stT zs) 16) 0)) wr.drew at k0
        change _ = Result.ok (Value.string (cutSt (partB (stT zs) 16) 8)) wr.drew at k8
        obtain ⟨A, hA⟩ : ∃ A, cutSt (partB (stT zs) 16) 0 = A := ⟨_, rfl⟩
        obtain ⟨B, hB⟩ : ∃ B, cutSt (partB (stT zs) 16) 8 = B := ⟨_, rfl⟩
        rw [hA] at k0 HW
        rw [hB] at k8 HW
        have hsz := HG.out.size
        have HOW : Hid ((wr.drew.alloc (.cells #[.string A, .string B] 9)).ownsRow w1.heap.size 9 1 (.slice (some ⟨wr.heap.size, 0, none⟩) 2 2) 2 (scells [A, B])) :=
          Lib.hid (World.ownsRow_lit (e := 9) (size := 1) (base := w1.heap.size) wr.drew #[.string A, .string B] 2 hsz (by decide) rfl)
        have HGW : Hid (Below w1.heap.size w1 (wr.drew.alloc (.cells #[.string A, .string B] 9))) := Lib.hid (HG.out.drew.alloc hsz _)
        clear hpl HO' HD' hA hB hl
        go_wp2
        go_region
        all_goals
          go_wp2
          go_ret
          rw [HW.out]
          exact ⟨_, rfl, HOW.out, HGW.out⟩
  · have HB := Lib.hid (stB_no hok)
    have HW : Hid (stWords zs = []) := Lib.hid (stWords_no (by rw [HL.out]; exact hok))
    clear hok
    have HOW : Hid ((w.alloc (.cells #[] 9)).ownsRow w.heap.size 9 1 (.slice (some ⟨w.heap.size, 0, none⟩) 0 0) 0 (scells [])) :=
      Lib.hid (World.ownsRow_lit (e := 9) (size := 1) (base := w.heap.size) w #[] 0 (Nat.le_refl _) (by decide) rfl)
    have HGW : Hid (Below w.heap.size w (w.alloc (.cells #[] 9))) := Lib.hid ((Below.refl _ _).alloc (Nat.le_refl _) _)
    go_enter Try.func24, Try.ntmps24
    go_wp2_with fail
    refine (specStOk_any a n c zs n _ HS.out hn).mono ?_
    rw [HB.out]
    rintro e w1 ⟨rfl, rfl⟩
    go_wp2
    go_ret
    rw [HW.out]
    exact ⟨_, rfl, HOW.out, HGW.out⟩
end Go.Proofs.Ytppdjhchangikaa
