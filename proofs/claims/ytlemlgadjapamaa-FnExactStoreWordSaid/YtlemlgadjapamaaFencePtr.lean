/- The program's fence, behind a pointer. -/
import Derived.Test.YtlemlgadjapamaaFlushPtr
import Derived.Test.YtlemlgadjapamaaFenceMath
import Derived.Test.YtlemlgadjapamaaCopyAt
import Derived.StillTailTactics
namespace Go.Proofs.Ytlemlgadjapamaa
open Go.RowKit Go.Proofs.Ytlemlgadjapamaa.Parts Go.Proofs.Ytlemlgadjapamaa.Hexa Go.Proofs.Ytlemlgadjapamaa.Byt

theorem bytes_grown_kept {w w' : World} {B e M : Nat} {v : Value} {l : List UInt8} (h : Bytes w B e v l) (hb : Below M w w') (hn : ∀ g, v.ownBlock = some g → g < M) : Bytes w' B e v l := by
  rcases h with h | ⟨g, cap, cur, fz, rfl, hB, hg, r⟩
  · exact .inl h
  · exact .inr ⟨g, cap, cur, fz, rfl, hB, by rw [hb.block g (hn g rfl)]; exact hg, r⟩
theorem bytes_later {w w' : World} {B e : Nat} {v : Value} {l : List UInt8} (h : Bytes w B e v l) (hb : Below w.heap.size w w') : Bytes w' B e v l := by
  rcases h with h | ⟨g, cap, cur, fz, rfl, hB, hg, r⟩
  · exact .inl h
  · exact .inr ⟨g, cap, cur, fz, rfl, hB, by rw [hb.block g (Array.getElem?_eq_some_iff.1 hg).1]; exact hg, r⟩
theorem list_toByteArray (B : ByteArray) : (⟨B.data.toList.toArray⟩ : ByteArray) = B := by cases B; simp

/-- What a fence gives, behind the pointer. -/
def FencePost (M b : Nat) (K : ByteArray) (L : List C3) (w : World) (e : Ending) (w' : World) : Prop :=
  e = .returned (.tuple #[]) ∧ ∃ a' n' c', BoxM w' M b (fenceK K L) a' n' c' (fenceL L) ∧ Below M w w'

set_option maxRecDepth 100000 in
set_option maxHeartbeats 2000000 in
theorem fence_any (M b : Nat) (K : ByteArray) (a : Option Addr) (n c : Nat) (L : List C3) (w : World) (hB : BoxM w M b K a n c L) (hn : n ≤ 1048600) (hK : K.size ≤ 16000) (hli : Lies K L) :
    Calls Try.prog 58 #[.pointer (some ⟨b, 0, none⟩)] w (FencePost M b K L w) := by
  obtain ⟨i0, hi, hz0, hz1, hz2⟩ := info_parts infoByte
  have kc0 := run_bytes_of_string (P := Try.prog) w 9 22 5 K Try.underlying9 Try.underlying22 Try.underlying5
  have b0 := bytes_conv w 5 K w.heap.size (Nat.le_refl _) (by omega)
  have g0 : Below w.heap.size w (w.drew.alloc (.cells (bytesRow K (grownCap w K.size 0 5)) 5 ((bytesRow K (grownCap w K.size 0 5)).size, (bytesRow K (grownCap w K.size 0 5)).size + 1))) := below_grown w (Nat.le_refl _) _
  have hge := grownCap_ge w K.size 0 5
  have hz9 : (w.drew.alloc (.cells (bytesRow K (grownCap w K.size 0 5)) 5 ((bytesRow K (grownCap w K.size 0 5)).size, (bytesRow K (grownCap w K.size 0 5)).size + 1))).heap.size = w.heap.size + 1 := by simp
  generalize w.drew.alloc (.cells (bytesRow K (grownCap w K.size 0 5)) 5 ((bytesRow K (grownCap w K.size 0 5)).size, (bytesRow K (grownCap w K.size 0 5)).size + 1)) = W0 at b0 g0 kc0 hz9
  generalize grownCap w K.size 0 5 = cc at b0 kc0 hge
  have HBY := Lib.hid b0
  have HG := Lib.hid g0
  have HZ := Lib.hid hz9
  have HB := Lib.hid hB
  have HB0 := Lib.hid (hB.later g0)
  have HL := Lib.hid hB.len
  have HLI := Lib.hid hli
  have q0 := hB.two.c0
  have q1 := (hB.later g0).two.c1
  obtain ⟨N, hN⟩ : ∃ N, K.size = N := ⟨_, rfl⟩
  have HN := Lib.hid hN
  rw [hN] at kc0 hge hK
  have hN16 : Hid (∀ j, j < n → (L.getD j default).l * 16 + 16 ≤ (N : Int)) := Lib.hid (fun j hj => by have := hli j (by rw [hB.len]; exact hj); omega)
  clear b0 g0 hz9 hB hli hN
  go_enter Try.func58, Try.ntmps58
  go_wp2
  clear kc0 q0 q1
  go_loopw [3, 16] (fun v iv wr => ∃ (k p : Nat) (l : List UInt8), k ≤ n ∧ iv = .int .i64 k ∧ l.length = N ∧ p ≤ k ∧ Hid (l = (keptTo K L k).data.toList) ∧ Hid (p = (openTo L k).length) ∧ Hid (Bytes wr w.heap.size 5 (.slice (some ⟨w.heap.size, 0, none⟩) l.length cc) l) ∧ Hid (wr.ownsRow (w.heap.size + 1) 68 3 v p (cellsE encC (openTo L k))) ∧ Hid (Below w.heap.size w wr) ∧ Hid (w.heap.size + 1 ≤ wr.heap.size))
    (fun _ iv _ => n - (intOf iv).toNat)
  case atStart => exact ⟨0, 0, K.data.toList, Nat.zero_le _, rfl, by rw [← HN.out]; simp, Nat.le_refl _, Lib.hid (by rw [keptTo_zero]), Lib.hid (by rw [openTo_zero]; rfl), Lib.hid (by have := HBY.out; simpa using this), Lib.hid (by rw [openTo_zero]; exact nilC _ _), HG, Lib.hid (by rw [HZ.out]; exact Nat.le_refl _)⟩
  case round =>
    clear HBY HG HZ
    obtain ⟨k, p, l, hk, rfl, hl, hpk, HLK, HPP, HY, HO, HW, HSZ⟩ := hrel
    by_cases hlt : k < n
    · obtain ⟨g, off, rfl, hg, d1, d2, d3⟩ := HB.out.src.cells3_at HW.out (Nat.le_refl _) k hlt
      obtain ⟨x, hx⟩ : ∃ x, L.getD k default = x := ⟨_, rfl⟩
      rw [hx] at d1 d2 d3
      have HX := Lib.hid hx
      have hkl : Hid (k < L.length) := Lib.hid (by rw [HL.out]; exact hlt)
      have hlx := HLI.out k hkl.out
      rw [hx] at hlx
      have h16 := hN16.out k hlt
      rw [hx] at h16
      obtain ⟨xl, hxl⟩ : ∃ xl : Nat, x.l = xl := ⟨x.l.toNat, by omega⟩
      have HXL := Lib.hid hxl
      have ht16 := hlx.2.2
      rw [hxl] at d1 h16
      have hxN : xl * 16 + 16 ≤ N := by omega
      have W1 : Hid (Below w.heap.size w (wr.alloc (.cells #[.int .i64 xl, .string x.t, .bool x.f] 68))) := Lib.hid (HW.out.alloc (by have := HSZ.out; omega) _)
      clear hx hlx hxl h16
      cases hf : x.f with
      | true =>
        rw [hf] at d3 W1
        have HF := Lib.hid hf
        have hY1 := bytes_later HY.out (below_alloc wr (.cells #[.int .i64 xl, .string x.t, .bool true] 68)).drew
        obtain ⟨w2, hr2, hy2, hg2⟩ := bytes_copy_at (P := Try.prog) (u := 9) (ty := 3) Try.underlying22 hi hz1 rfl hY1 x.t (xl * 16) (N - xl * 16) (cc - xl * 16) (by omega) (by omega)
        have hidx : ((xl : Int) * 16).toNat = xl * 16 := by omega
        have hb2 : Below w.heap.size w w2 := W1.out.drew.grown hg2 (by have := HSZ.out; simp; omega) (fun q hq => by cases hq; exact Nat.le_refl _)
        have HY2 : Hid (Bytes w2 w.heap.size 5 (.slice (some ⟨w.heap.size, 0, none⟩) (keptTo K L (k + 1)).data.toList.length cc) (keptTo K L (k + 1)).data.toList) := Lib.hid (by
          have e : (keptTo K L (k + 1)).data.toList = l.take (xl * 16) ++ x.t.data.toList ++ l.drop (xl * 16 + x.t.size) := by
            rw [keptTo_yes hkl.out (by rw [HX.out]; exact HF.out), HX.out, keepB_list _ _ xl HXL.out (by rw [keptTo_size HLI.out k (by have := hkl.out; omega), HN.out]; exact hxN), ← HLK.out, ht16]
          have el : (keptTo K L (k + 1)).data.toList.length = l.length := by
            have hx16 : x.t.data.toList.length = 16 := by rw [Array.length_toList]; exact ht16
            rw [e, List.length_append, List.length_append, List.length_take, List.length_drop, hx16, ht16]
            omega
          rw [el, e]; exact hy2)
        have HO2 : Hid (w2.ownsRow (w.heap.size + 1) 68 3 u3 p (cellsE encC (openTo L (k + 1)))) := Lib.hid (by
          rw [openTo_yes hkl.out (by rw [HX.out]; exact HF.out)]
          exact ((HO.out.alloc (.cells #[.int .i64 xl, .string x.t, .bool true] 68)).drew).kept hg2 (by
            cases hv : u3.ownBlock with
            | none => exact .inl rfl
            | some q => exact .inr (fun e => by cases e; have := (HO.out.lt _ hv).1; omega)))
        have HSZ2 : Hid (w.heap.size + 1 ≤ w2.heap.size) := Lib.hid (Nat.le_trans HSZ.out (Nat.le_trans (by simp) hg2.size))
        have HB2 := Lib.hid hb2
        have HR2 := Lib.hid hr2
        have hEl : Hid ((keptTo K L (k + 1)).data.toList.length = N) := Lib.hid (by rw [Array.length_toList]; exact (keptTo_size HLI.out (k + 1) hkl.out).trans HN.out)
        clear hr2 hy2 hg2 hY1 hb2 hf
        go_wp2
        obtain ⟨W4, hW4⟩ : ∃ y, y = wr.alloc (.cells #[.int .i64 xl, .string x.t, .bool true] 68) := ⟨_, rfl⟩
        have e4 : W4.heap[wr.heap.size]? = some (.cells #[.int .i64 xl, .string x.t, .bool true] 68 (0, 0)) := by rw [hW4]; exact heap_alloc_new _ _
        have e40 : W4.cell? ⟨wr.heap.size, 0, none⟩ = some (.int .i64 xl) := by simp [World.cell?, e4]
        have e41 : W4.cell? ⟨wr.heap.size, 1, none⟩ = some (.string x.t) := by simp [World.cell?, e4]
        rw [← hW4] at HR2 ⊢
        clear hW4 e4
        have hwr : IntKind.i64.wrap ((xl : Int) * 16) = (xl : Int) * 16 := IntWalk.i64_in _ (by omega)
        have hb1 : 0 ≤ (xl : Int) * 16 ∧ (xl : Int) * 16 ≤ (N : Int) := by omega
        have hcc : ¬ (cc = xl * 16) := by omega
        go_still_tail 7, (by kernel_rfl)
        change wpList _ _ _ _ _ W4.drew
        refine wpList_copy_text rfl _ _ _ _ rfl _ _ _ _ rfl rfl HR2.out ?_
        go_wp2
        go_roundw
        case rel => exact ⟨k + 1, p, _, by omega, by go_num, hEl.out, by omega, Lib.hid rfl, Lib.hid (by rw [openTo_yes hkl.out (by rw [HX.out]; exact HF.out)]; exact HPP.out), HY2, HO2, HB2, HSZ2⟩
        case measure => (simp [intOf]; try omega)
      | false =>
        rw [hf] at d3 W1
        have HF := Lib.hid hf
        have hb0 := below_alloc wr (.cells #[.int .i64 xl, .string x.t, .bool false] 68)
        have hb1 := hb0.trans ((below_alloc (wr.alloc (.cells #[.int .i64 xl, .string x.t, .bool false] 68)) (.cells #[.int .i64 xl, .string x.t, .bool false] 68)).mono hb0.size)
        have hsrc : SrcC ((wr.alloc (.cells #[.int .i64 xl, .string x.t, .bool false] 68)).alloc (.cells #[.int .i64 xl, .string x.t, .bool false] 68)) (some ⟨wr.heap.size + 1, 0, none⟩) 1 [x] := by
          have h := World.ownsRow_lit (base := 0) (e := 68) (size := 3) (wr.alloc (.cells #[.int .i64 xl, .string x.t, .bool false] 68)) #[.int .i64 xl, .string x.t, .bool false] 1 (Nat.zero_le _) (by decide) rfl
          have e : (#[.int .i64 xl, .string x.t, .bool false] : Array Value).toList = cellsE encC [x] := by rw [cellsE_one, encC_cells, HXL.out, HF.out]
          rw [e] at h
          have h2 := srcC_of_own h
          simpa using h2
        have HA := Lib.hid (appC _ 24 (w.heap.size + 1) u3 p (openTo L k) (own_below HO.out hb1) (by have := HSZ.out; simp; omega) (some ⟨wr.heap.size + 1, 0, none⟩) 1 1 [x] hsrc (by omega))
        have HY1 := Lib.hid (bytes_later HY.out hb1)
        have W2 : Hid (Below w.heap.size w ((wr.alloc (.cells #[.int .i64 xl, .string x.t, .bool false] 68)).alloc (.cells #[.int .i64 xl, .string x.t, .bool false] 68))) := Lib.hid (HW.out.trans (hb1.mono (by have := HSZ.out; omega)))
        clear hf hb0 hb1 hsrc
        go_wp2_with (at_builtin; refine wpList_appE rfl _ _ _ _ rfl _ _ rfl rfl HA.out ?_; intro v1 w2 hown2 hgrow2 hat2)
        have HO2 : Hid (w2.ownsRow (w.heap.size + 1) 68 3 v1 (p + 1) (cellsE encC (openTo L (k + 1)))) := Lib.hid (by rw [openTo_no hkl.out (by rw [HX.out]; exact HF.out), HX.out]; exact hown2)
        have HB2 : Hid (Below w.heap.size w w2) := Lib.hid (W2.out.grown hgrow2 (by have := HSZ.out; simp; omega) (fun q hq => by have := (HO.out.lt q hq).1; omega))
        have HY2 : Hid (Bytes w2 w.heap.size 5 (.slice (some ⟨w.heap.size, 0, none⟩) l.length cc) l) := Lib.hid (by
          rcases HY1.out with h | ⟨g9, cap, cur, fz, hv, hB9, hg9, r9⟩
          · exact .inl h
          · cases hv
            exact .inr ⟨_, _, cur, fz, rfl, hB9, by rw [hgrow2.block _ (Array.getElem?_eq_some_iff.1 hg9).1 (fun e => by have := (HO.out.lt _ e.symm).1; omega)]; exact hg9, r9⟩)
        have HSZ2 : Hid (w.heap.size + 1 ≤ w2.heap.size) := Lib.hid (by have := HSZ.out; have h := hgrow2.size; simp at h; omega)
        clear hown2 hgrow2 hat2 HA HY1
        go_wp2
        go_roundw
        case rel => exact ⟨k + 1, p + 1, l, by omega, by go_num, hl, by omega, Lib.hid (by rw [keptTo_no hkl.out (by rw [HX.out]; exact HF.out)]; exact HLK.out), Lib.hid (by rw [openTo_no hkl.out (by rw [HX.out]; exact HF.out), List.length_append, ← HPP.out]; rfl), HY2, HO2, HB2, HSZ2⟩
        case measure => (simp [intOf]; try omega)
    · obtain rfl : k = n := by omega
      have hconv := bytes_string (P := Try.prog) 22 9 Try.underlying22 Try.underlying5 Try.underlying9 HY.out
      have hfin : (⟨l.toArray⟩ : ByteArray) = fenceK K L := by rw [HLK.out, list_toByteArray, ← keptTo_all, HL.out]
      have hopen : openTo L k = fenceL L := by rw [← openTo_all, HL.out]
      rw [hfin, hl] at hconv
      rw [hopen] at HO
      obtain ⟨a3, c3, hv3, _, _, hpl⟩ := ownE_form HO.out
      have T0 : Hid (Two wr b (.string K) (.slice a k c) 26) := Lib.hid (HB.out.two.later HW.out)
      have f0 := T0.out.fr (o := 0)
      have f1 := T0.out.fr (o := 1)
      have e0 := T0.out.c0
      have e1 := T0.out.c1
      have hblt := HB.out.two.lt
      have HBL := Lib.hid hblt
      have HPL := Lib.hid hpl
      clear hfin hopen hpl hblt
      subst hv3
      go_wp2
      refine end_void rfl rfl ⟨rfl, a3, p, c3, ⟨two_set1 (two_set0 T0.out), ?_, HB.out.low, fun q hq => by
        obtain ⟨g9, e9, h9, _⟩ := HPL.out q hq
        rw [e9]; have := HBL.out; show g9 ≠ b; omega⟩, ((HW.out.mono HB.out.lowM).setCell (by exact HB.out.low) _).setCell (by exact HB.out.low) _⟩
      have hnb : (Value.slice a3 p c3).ownBlock ≠ some b := fun h => by have := (HO.out.lt b h).1; have := HBL.out; omega
      exact ownE_mono (ownsRow_setCell_other (ownsRow_setCell_other HO.out hnb _) hnb _) (by have := HB.out.lowM; omega)
end Go.Proofs.Ytlemlgadjapamaa
