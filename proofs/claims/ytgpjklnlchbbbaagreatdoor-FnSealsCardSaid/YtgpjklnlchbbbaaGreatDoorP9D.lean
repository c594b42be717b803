/- Merged texts: KeysSpec, StepRow, BlkBase, NumTSpec, CtrSpec, CtrSpecA, MixMath, ByteMath, PowMath. -/
import Derived.Test.YtgpjklnlchbbbaaGreatDoorP9C
import Derived.StillTailTactics
import Derived.Test.YtgpjklnlchbbbaaGreatDoorRows
import Derived.Laws.Rows
import Derived.WalkKit
import Derived.Below
namespace Go.Proofs.YtgpjklnlchbbbaaGreatDoor
open Go.RowKit Go.Proofs.YtgpjklnlchbbbaaGreatDoor.Hexa Go.Proofs.YtgpjklnlchbbbaaGreatDoor.Byt Go.Proofs.YtgpjklnlchbbbaaGreatDoor.Aes Go.Proofs.YtgpjklnlchbbbaaGreatDoor.Fld Go.Proofs.YtgpjklnlchbbbaaGreatDoor.BitsM Go.Proofs.YtgpjklnlchbbbaaGreatDoor.Parts

/-- The box's block and the bytes of the words so far. -/
def WMem (w wr : World) (v : Value) (l : List UInt8) : Prop :=
  wr.heap[w.heap.size]? = some (.cells boxCells 65 (0, 0)) ∧ Bytes wr (w.heap.size + 1) 5 v l ∧ v ≠ .slice none 0 0 ∧ Below w.heap.size w wr
/-- And the word before, in a block of its own. -/
def TMem (w wr : World) (v : Value) (l : List UInt8) (gt : Nat) (T : List UInt8) : Prop :=
  WMem w wr v l ∧ wr.heap[gt]? = some (.cells (bcells T).toArray 5 (0, 0)) ∧ v.ownBlock ≠ some gt
theorem WMem.box_lt {w wr : World} {v : Value} {l : List UInt8} (h : WMem w wr v l) : w.heap.size < wr.heap.size := (Array.getElem?_eq_some_iff.1 h.1).1
theorem WMem.ge {w wr : World} {v : Value} {l : List UInt8} (h : WMem w wr v l) : ∀ k, v.ownBlock = some k → w.heap.size + 1 ≤ k ∧ k < wr.heap.size := by
  obtain ⟨g, c, rfl, h1, h2, _⟩ := bytes_some h.2.1 h.2.2.1
  intro k hk
  cases hk
  exact ⟨h1, h2⟩
theorem WMem.kept {w wr wq : World} {v v' : Value} {l l' : List UInt8} (h : WMem w wr v l) (hb : Bytes wq (w.heap.size + 1) 5 v' l') (hv : v' ≠ .slice none 0 0) (hg : wr.grownBy wq v.ownBlock) : WMem w wq v' l' := by
  have hx := h.box_lt
  have hge := h.ge
  refine ⟨?_, hb, hv, h.2.2.2.grown hg (by omega) (fun k e => by have := hge k e; omega)⟩
  rw [hg.block _ hx (fun e => by have := hge _ e.symm; omega)]
  exact h.1
theorem WMem.alloc {w wr : World} {v : Value} {l : List UInt8} (h : WMem w wr v l) (o : Obj) : WMem w (wr.alloc o) v l := by
  have hx := h.box_lt
  refine ⟨?_, bytes_alloc h.2.1 o, h.2.2.1, h.2.2.2.alloc (by omega) o⟩
  rw [Below.heap_alloc _ _ _ hx]; exact h.1
theorem WMem.drew {w wr : World} {v : Value} {l : List UInt8} (h : WMem w wr v l) : WMem w wr.drew v l := ⟨h.1, h.2.1, h.2.2.1, h.2.2.2.drew⟩
theorem TMem.start {w wr : World} {v : Value} {l : List UInt8} (h : WMem w wr v l) (T : List UInt8) : TMem w (wr.drew.alloc (.cells (bcells T).toArray 5)) v l wr.heap.size T :=
  ⟨h.drew.alloc _, heap_alloc_new wr.drew _, fun e => by have := h.ge _ e; omega⟩
theorem TMem.t_lt {w wr : World} {v : Value} {l : List UInt8} {gt : Nat} {T : List UInt8} (h : TMem w wr v l gt T) : gt < wr.heap.size := (Array.getElem?_eq_some_iff.1 h.2.1).1
/-- One byte appended, behind its one-cell slice. -/
theorem TMem.next {w wr wq : World} {v v' : Value} {l l' : List UInt8} {gt : Nat} {T : List UInt8} {o : Obj} (h : TMem w wr v l gt T) (hb : Bytes wq (w.heap.size + 1) 5 v' l') (hv : v' ≠ .slice none 0 0)
    (hg : (wr.drew.alloc o).grownBy wq v.ownBlock) (ho : v'.ownBlock = v.ownBlock ∨ v'.ownBlock = some (wr.drew.alloc o).heap.size) : TMem w wq v' l' gt T := by
  have ht := h.t_lt
  refine ⟨(h.1.drew.alloc o).kept hb hv hg, ?_, ?_⟩
  · rw [hg.block gt (by simp; omega) (fun e => h.2.2 e.symm), Below.heap_alloc _ _ _ (by exact ht)]
    exact h.2.1
  · rcases ho with e | e
    · rw [e]; exact h.2.2
    · rw [e]; intro e2; simp at e2; omega

theorem tmem_at {w wr : World} {v : Value} {l : List UInt8} {gt : Nat} {T : List UInt8} (h : TMem w wr v l gt T) (k : Nat) (x : UInt8) (hk : T[k]? = some x) : wr.cell? ⟨gt, k, none⟩ = some (.int .u8 x.toNat) := cell_byte h.2.1 k x hk
theorem TMem.box {w wr : World} {v : Value} {l : List UInt8} {gt : Nat} {T : List UInt8} (h : TMem w wr v l gt T) (x : UInt8) : wr.cell? ⟨w.heap.size, x.toNat, none⟩ = some (.int .u8 (boxU x).toNat) := cell_box h.1.1 x
theorem xorN8 (x : UInt8) (r : Nat) (hr : r < 256) : bits .xor .u8 (x.toNat : Int) (r : Int) = ((x ^^^ UInt8.ofNat r).toNat : Int) := by
  rw [← xor8, UInt8.toNat_ofNat', Nat.mod_eq_of_lt hr]
theorem tmpW_yes (l : List UInt8) (i p : Nat) (h : i % 4 = 0) (hp : i / 4 - 1 = p) : tmpW l i = [boxU (l.getD (4 * i - 3) 0) ^^^ UInt8.ofNat (pow 2 p), boxU (l.getD (4 * i - 2) 0), boxU (l.getD (4 * i - 1) 0), boxU (l.getD (4 * i - 4) 0)] := by
  unfold tmpW; rw [if_pos h, hp]
theorem tmpW_no (l : List UInt8) (i : Nat) (h : ¬ i % 4 = 0) : tmpW l i = [l.getD (4 * i - 4) 0, l.getD (4 * i - 3) 0, l.getD (4 * i - 2) 0, l.getD (4 * i - 1) 0] := by
  unfold tmpW; rw [if_neg h]
theorem own_mono {w : World} {B B' e : Nat} {v : Value} {n : Nat} {xs : List Value} (h : w.ownsRow B e 1 v n xs) (hb : B' ≤ B) : w.ownsRow B' e 1 v n xs := by
  refine ⟨h.1, ?_⟩
  rcases h.2 with h2 | ⟨g, cap, cur, h1, h2, h3⟩
  · exact .inl h2
  · exact .inr ⟨g, cap, cur, h1, Nat.le_trans hb h2, h3⟩
theorem getD_front (l m : List UInt8) (k : Nat) (h : k < l.length) : (l ++ m).getD k 0 = l.getD k 0 := by
  simp [List.getD, List.getElem?_append_left h]
theorem wmem_at {w wr : World} {g c : Nat} {n : Nat} {l : List UInt8} (h : WMem w wr (.slice (some ⟨g, 0, none⟩) n c) l) (hn : l.length = n) (k : Nat) (hk : k < n) : wr.cell? ⟨g, k, none⟩ = some (.int .u8 (l.getD k 0).toNat) := by
  subst hn
  rw [(bytes_at h.2.1 k hk).1]
  simp [List.getD, hk]

set_option maxRecDepth 100000 in
set_option maxHeartbeats 4000000 in
theorem specKeys_any (s : ByteArray) (w : World) (hs : s.size = 16) :
    Calls Tryz.prog 40 #[.string s, .agg boxCells] w (GivesK (keysTo s 11) w) := by
  have kc0 := run_bytes_of_string (P := Tryz.prog) (w.alloc (.cells boxCells 65)) 9 22 5 s Tryz.underlying9 Tryz.underlying22 Tryz.underlying5
  have b0 := bytes_conv (w.alloc (.cells boxCells 65)) 5 s (w.heap.size + 1) (by simp) (by omega)
  have g0 : Below (w.heap.size + 1) (w.alloc (.cells boxCells 65)) ((w.alloc (.cells boxCells 65)).drew.alloc (.cells (bytesRow s (grownCap (w.alloc (.cells boxCells 65)) s.size 0 5)) 5 ((bytesRow s (grownCap (w.alloc (.cells boxCells 65)) s.size 0 5)).size, (bytesRow s (grownCap (w.alloc (.cells boxCells 65)) s.size 0 5)).size + 1))) := below_grown _ (by simp) _
  generalize (w.alloc (.cells boxCells 65)).drew.alloc (.cells (bytesRow s (grownCap (w.alloc (.cells boxCells 65)) s.size 0 5)) 5 ((bytesRow s (grownCap (w.alloc (.cells boxCells 65)) s.size 0 5)).size, (bytesRow s (grownCap (w.alloc (.cells boxCells 65)) s.size 0 5)).size + 1)) = W0 at b0 g0 kc0
  generalize grownCap (w.alloc (.cells boxCells 65)) s.size 0 5 = c0 at b0 kc0
  simp only [World.size_alloc] at b0 kc0
  have hsl : s.data.toList.length = 16 := by simpa using hs
  have M0 : Hid (WMem w W0 (.slice (some ⟨w.heap.size + 1, 0, none⟩) 16 c0) (keyB s.data.toList 0)) := Lib.hid ⟨by rw [g0.block _ (by omega)]; exact heap_alloc_new w _, by rw [hs] at b0; exact b0, by simp, ((Below.refl _ _).alloc (Nat.le_refl _) _).trans (g0.mono (by omega))⟩
  rw [hs] at kc0
  have HL := Lib.hid hsl
  clear b0 g0 hsl
  go_enter Tryz.func40, Tryz.ntmps40
  go_wp2
  clear kc0
  go_loopw [5, 6, 7, 8] (fun v iv _ _ wr => ∃ i : Nat, 4 ≤ i ∧ i ≤ 44 ∧ iv = .int .i64 i ∧ Hid (WMem w wr v (keyB s.data.toList (i - 4))))
    (fun _ iv _ _ _ => 44 - (intOf iv).toNat)
  case atStart => exact ⟨4, Nat.le_refl _, by omega, rfl, M0⟩
  case round =>
    clear M0
    obtain ⟨i, hi4, hi, rfl, HM⟩ := hrel
    have hlen := keyB_length s.data.toList HL.out (i - 4)
    generalize hl : keyB s.data.toList (i - 4) = l at HM hlen
    have HB := Lib.hid hl
    clear hl
    obtain ⟨g, c, hv, hg1, hg2, hlc, hcm⟩ := bytes_some HM.out.2.1 HM.out.2.2.1
    obtain ⟨m, hm⟩ : ∃ m, l.length = m := ⟨_, rfl⟩
    have hlen4 : m = 4 * i := by omega
    rw [hm] at hv hlc
    subst hv
    by_cases hlt : i < 44
    · have c1 := wmem_at HM.out hm (4 * i - 4) (by omega)
      have c2 := wmem_at HM.out hm (4 * i - 3) (by omega)
      have c3 := wmem_at HM.out hm (4 * i - 2) (by omega)
      have c4 := wmem_at HM.out hm (4 * i - 1) (by omega)
      have w0 : IntKind.i64.wrap (4 * (i : Int)) = 4 * (i : Int) := IntWalk.i64_in _ (by omega)
      have w1 : IntKind.i64.wrap (4 * (i : Int) - 1) = 4 * (i : Int) - 1 := IntWalk.i64_in _ (by omega)
      have w2 : IntKind.i64.wrap (4 * (i : Int) - 2) = 4 * (i : Int) - 2 := IntWalk.i64_in _ (by omega)
      have w3 : IntKind.i64.wrap (4 * (i : Int) - 3) = 4 * (i : Int) - 3 := IntWalk.i64_in _ (by omega)
      have w4 : IntKind.i64.wrap (4 * (i : Int) - 4) = 4 * (i : Int) - 4 := IntWalk.i64_in _ (by omega)
      have n1 : (4 * (i : Int) - 1).toNat = 4 * i - 1 := by omega
      have n2 : (4 * (i : Int) - 2).toNat = 4 * i - 2 := by omega
      have n3 : (4 * (i : Int) - 3).toNat = 4 * i - 3 := by omega
      have n4 : (4 * (i : Int) - 4).toNat = 4 * i - 4 := by omega
      have b1 : (1 : Int) ≤ 4 * (i : Int) ∧ 4 * (i : Int) - 1 < (m : Int) := by omega
      have b2 : (2 : Int) ≤ 4 * (i : Int) ∧ 4 * (i : Int) - 2 < (m : Int) := by omega
      have b3 : (3 : Int) ≤ 4 * (i : Int) ∧ 4 * (i : Int) - 3 < (m : Int) := by omega
      have b4 : (4 : Int) ≤ 4 * (i : Int) ∧ 4 * (i : Int) - 4 < (m : Int) := by omega
      have hml : 4 * i ≤ m ∧ m ≤ 4 * i := by omega
      clear hlen4 hlen
      by_cases hm0 : i % 4 = 0
      · obtain ⟨p, hp, hp2⟩ : ∃ p, i / 4 - 1 = p ∧ i = 4 * (p + 1) := ⟨i / 4 - 1, rfl, by omega⟩
        have HT := Lib.hid (tmpW_yes l i p hm0 hp)
        have e4 : (i : Int) % 4 = 0 := by omega
        have hp3 : (i : Int) / 4 = (p : Int) + 1 ∧ p ≤ 1000 := by omega
        clear hp2
        have T0 := TMem.start HM.out [l.getD (4 * i - 4) 0, l.getD (4 * i - 3) 0, l.getD (4 * i - 2) 0, l.getD (4 * i - 1) 0]
        generalize l.getD (4 * i - 4) 0 = x4 at c1 T0 HT
        generalize l.getD (4 * i - 3) 0 = x3 at c2 T0 HT
        generalize l.getD (4 * i - 2) 0 = x2 at c3 T0 HT
        generalize l.getD (4 * i - 1) 0 = x1 at c4 T0 HT
        clear hm0 hp
        go_wp2_with fail
        refine wp_region_still_tail 24 (by kernel_rfl) (by kernel_rfl) ?_
        simp only [List.take_succ_cons, List.take_zero, List.drop_succ_cons, List.drop_zero]
        repeat still_step
        refine wpStill_nil ?_
        change wpList _ _ _ _ _ wr.drew
        go_wp2_with fail
        clear c1 c2 c3 c4
        change Code.wp _ _ _ _ (wr.drew.alloc (.cells (bcells [x4, x3, x2, x1]).toArray 5))
        generalize wr.drew.alloc (.cells (bcells [x4, x3, x2, x1]).toArray 5) = W1 at T0 ⊢
        have k0 := tmem_at T0 0 x4 rfl
        have k1 := tmem_at T0 1 x3 rfl
        have k2 := tmem_at T0 2 x2 rfl
        have k3 := tmem_at T0 3 x1 rfl
        have o0 := T0.box x4
        have o1 := T0.box x3
        have o2 := T0.box x2
        have o3 := T0.box x1
        have y0 : (0 : Int) ≤ (x4.toNat : Int) ∧ (x4.toNat : Int) < 256 := by have := x4.toNat_lt; omega
        have y1 : (0 : Int) ≤ (x3.toNat : Int) ∧ (x3.toNat : Int) < 256 := by have := x3.toNat_lt; omega
        have y2 : (0 : Int) ≤ (x2.toNat : Int) ∧ (x2.toNat : Int) < 256 := by have := x2.toNat_lt; omega
        have y3 : (0 : Int) ≤ (x1.toNat : Int) ∧ (x1.toNat : Int) < 256 := by have := x1.toNat_lt; omega
        have hr := pow_lt 2 p
        have kp := Lib.hid fun w => specPow_yes 2 p w (by omega) (by omega)
        have hx8 := xorN8 (boxU x3) (pow 2 p) hr
        generalize pow 2 p = r at kp hx8 HT hr
        have hr8 : (r : Int) % 256 = (r : Int) := by omega
        have d1 : (i : Int) / 4 = (p : Int) + 1 := hp3.1
        have d2 : (i : Int).tdiv 4 = (p : Int) + 1 := by rw [Int.tdiv_eq_ediv_of_nonneg (by omega)]; exact d1
        have d3 : IntKind.i64.wrap ((p : Int) + 1) = (p : Int) + 1 := IntWalk.i64_in _ (by omega)
        have d4 : IntKind.i64.wrap (p : Int) = (p : Int) := IntWalk.i64_in _ (by omega)
        refine wp_region_still_tail 26 (by kernel_rfl) (by kernel_rfl) ?_
        simp only [List.take_succ_cons, List.take_zero, List.drop_succ_cons, List.drop_zero]
        repeat still_step
        still_call (kp.out _)
        repeat still_step
        refine wpStill_nil ?_
        change wpList _ _ _ _ _ W1.drew
        have hw8 : IntKind.u8.wrap (r : Int) = (r : Int) := by have := IntKind.wrap_u8 (r : Int); rw [this]; omega
        rw [hw8, hx8]
        have T1 := TMem.start T0.1 [boxU x3 ^^^ UInt8.ofNat r, boxU x2, boxU x1, boxU x4]
        generalize boxU x3 ^^^ UInt8.ofNat r = z0 at T1 HT ⊢
        generalize boxU x2 = z1 at T1 HT ⊢
        generalize boxU x1 = z2 at T1 HT ⊢
        generalize boxU x4 = z3 at T1 HT ⊢
        clear k0 k1 k2 k3 o0 o1 o2 o3 y0 y1 y2 y3 hr kp hx8 hr8 d1 d2 d3 d4 hw8 T0 e4 hp3
        go_wp2_with fail
        change Code.wp _ _ _ _ (W1.drew.alloc (.cells (bcells [z0, z1, z2, z3]).toArray 5))
        generalize W1.drew.alloc (.cells (bcells [z0, z1, z2, z3]).toArray 5) = W2 at T1 ⊢
        generalize W1.heap.size = gt at T1 ⊢
        rw [← HT.out] at T1
        clear HT
        have TT := Lib.hid T1
        clear T1
        go_loopw [5, 8] (fun v kv wq => ∃ k : Nat, k ≤ 4 ∧ kv = .int .i64 k ∧ Hid (TMem w wq v (l ++ mapTo (nextB l i) k) gt (tmpW l i)))
          (fun _ kv _ => 4 - (intOf kv).toNat)
        case atStart => exact ⟨0, Nat.zero_le _, rfl, by simpa [mapTo] using TT⟩
        case round =>
          clear TT HM
          obtain ⟨k, hk, rfl, HT⟩ := hrel
          have hlk : (l ++ mapTo (nextB l i) k).length = m + k := by rw [List.length_append, mapTo_length, hm]
          obtain ⟨g2, cc2, hv2, hga, hgb, hlc2, hcm2⟩ := bytes_some HT.out.1.2.1 HT.out.1.2.2.1
          obtain ⟨m2, hm2⟩ : ∃ m2, (l ++ mapTo (nextB l i) k).length = m2 := ⟨_, rfl⟩
          rw [hm2] at hv2 hlc2 hlk
          subst hv2
          by_cases hkt : k < 4
          · have hml2 : 4 * i + k ≤ m2 ∧ m2 ≤ 4 * i + k := by omega
            have q1 := wmem_at HT.out.1 hm2 (4 * i - 16 + k) (by omega)
            have q2 := tmem_at HT.out k ((tmpW l i).getD k 0) (by rw [List.getD, List.getElem?_eq_getElem (by rw [tmpW_length]; exact hkt)]; rfl)
            rw [getD_front _ _ _ (by omega)] at q1
            have hsz := HT.out.1.2.2.2.size
            have hbx := HT.out.1.box_lt
            have HN : Hid (nextB l i k = l.getD (4 * i - 16 + k) 0 ^^^ (tmpW l i).getD k 0) := Lib.hid rfl
            generalize l.getD (4 * i - 16 + k) 0 = xa at q1 HN
            generalize (tmpW l i).getD k 0 = xb at q2 HN
            have hx := xor8 xa xb
            rw [← HN.out] at hx
            have v1 : IntKind.i64.wrap (4 * (i : Int) - 16) = 4 * (i : Int) - 16 := IntWalk.i64_in _ (by omega)
            have v2 : IntKind.i64.wrap (4 * (i : Int) - 16 + (k : Int)) = 4 * (i : Int) - 16 + (k : Int) := IntWalk.i64_in _ (by omega)
            have v3 : (4 * (i : Int) - 16 + (k : Int)).toNat = 4 * i - 16 + k := by omega
            have v4 : (0 : Int) ≤ 4 * (i : Int) - 16 + (k : Int) ∧ 4 * (i : Int) - 16 + (k : Int) < (m2 : Int) := by omega
            have v5 : (k : Int) < 4 := by omega
            have HM2 := Lib.hid hm2
            clear hlk hm2 hlc2
            go_wp2_with fail
            have HKE := outB_kept wr.drew HT.out.1.drew.2.1 (by show w.heap.size + 1 ≤ wr.heap.size; omega) HT.out.1.2.2.1 22 (nextB l i k) _ rfl (by rw [HM2.out]; omega)
            go_region_law (first
              | (refine step_append_kept rfl (.tmp 76) (.tmp 90) 22 22 rfl _ _ (by simp [Act.eval]) (by simp [Act.eval]) HKE ?_; intro v2 w2 hb2 hv2 hg2 ho2))
            all_goals
              have TN := TMem.next HT.out hb2 hv2 hg2 ho2
              rw [List.append_assoc, mapTo_next] at TN
              have HTN := Lib.hid TN
              clear TN hb2 hg2 ho2 HKE hx
              go_wp2
              go_roundw
              case rel => exact ⟨k + 1, by omega, by go_num, HTN⟩
              case measure => (simp [intOf]; try omega)
          · obtain rfl : k = 4 := by omega
            have HE : l ++ mapTo (nextB l i) 4 = keyB s.data.toList (i + 1 - 4) := by
              rw [show i + 1 - 4 = (i - 4) + 1 by omega]
              show _ = keyB _ (i - 4) ++ nextW (keyB _ (i - 4)) (i - 4 + 4)
              rw [HB.out, show i - 4 + 4 = i by omega]
              rfl
            have HW := HT.out.1
            rw [HE] at HW
            have HW2 := Lib.hid HW
            clear HW HE
            go_wp2
            go_roundw
            case rel => exact ⟨i + 1, by omega, by omega, by go_num, HW2⟩
            case measure => (simp [intOf]; try omega)
      · have HT := Lib.hid (tmpW_no l i hm0)
        have e4 : ¬ ((i : Int) % 4 = 0) := by omega
        have e5 : ((i : Int) % 4 == 0) = false := beq_eq_false_iff_ne.2 e4
        have T0 := TMem.start HM.out [l.getD (4 * i - 4) 0, l.getD (4 * i - 3) 0, l.getD (4 * i - 2) 0, l.getD (4 * i - 1) 0]
        generalize l.getD (4 * i - 4) 0 = x4 at c1 T0 HT
        generalize l.getD (4 * i - 3) 0 = x3 at c2 T0 HT
        generalize l.getD (4 * i - 2) 0 = x2 at c3 T0 HT
        generalize l.getD (4 * i - 1) 0 = x1 at c4 T0 HT
        clear hm0
        go_wp2_with fail
        refine wp_region_still_tail 24 (by kernel_rfl) (by kernel_rfl) ?_
        simp only [List.take_succ_cons, List.take_zero, List.drop_succ_cons, List.drop_zero]
        repeat still_step
        refine wpStill_nil ?_
        change wpList _ _ _ _ _ wr.drew
        go_wp2_with fail
        clear c1 c2 c3 c4
        change Code.wp _ _ _ _ (wr.drew.alloc (.cells (bcells [x4, x3, x2, x1]).toArray 5))
        generalize wr.drew.alloc (.cells (bcells [x4, x3, x2, x1]).toArray 5) = W2 at T0 ⊢
        generalize wr.heap.size = gt at T0 ⊢
        have T1 := T0
        rw [← HT.out] at T1
        clear HT e4 e5 T0
        have TT := Lib.hid T1
        clear T1
        go_loopw [5, 8] (fun v kv wq => ∃ k : Nat, k ≤ 4 ∧ kv = .int .i64 k ∧ Hid (TMem w wq v (l ++ mapTo (nextB l i) k) gt (tmpW l i)))
          (fun _ kv _ => 4 - (intOf kv).toNat)
        case atStart => exact ⟨0, Nat.zero_le _, rfl, by simpa [mapTo] using TT⟩
        case round =>
          clear TT HM
          obtain ⟨k, hk, rfl, HT⟩ := hrel
          have hlk : (l ++ mapTo (nextB l i) k).length = m + k := by rw [List.length_append, mapTo_length, hm]
          obtain ⟨g2, cc2, hv2, hga, hgb, hlc2, hcm2⟩ := bytes_some HT.out.1.2.1 HT.out.1.2.2.1
          obtain ⟨m2, hm2⟩ : ∃ m2, (l ++ mapTo (nextB l i) k).length = m2 := ⟨_, rfl⟩
          rw [hm2] at hv2 hlc2 hlk
          subst hv2
          by_cases hkt : k < 4
          · have hml2 : 4 * i + k ≤ m2 ∧ m2 ≤ 4 * i + k := by omega
            have q1 := wmem_at HT.out.1 hm2 (4 * i - 16 + k) (by omega)
            have q2 := tmem_at HT.out k ((tmpW l i).getD k 0) (by rw [List.getD, List.getElem?_eq_getElem (by rw [tmpW_length]; exact hkt)]; rfl)
            rw [getD_front _ _ _ (by omega)] at q1
            have hsz := HT.out.1.2.2.2.size
            have hbx := HT.out.1.box_lt
            have HN : Hid (nextB l i k = l.getD (4 * i - 16 + k) 0 ^^^ (tmpW l i).getD k 0) := Lib.hid rfl
            generalize l.getD (4 * i - 16 + k) 0 = xa at q1 HN
            generalize (tmpW l i).getD k 0 = xb at q2 HN
            have hx := xor8 xa xb
            rw [← HN.out] at hx
            have v1 : IntKind.i64.wrap (4 * (i : Int) - 16) = 4 * (i : Int) - 16 := IntWalk.i64_in _ (by omega)
            have v2 : IntKind.i64.wrap (4 * (i : Int) - 16 + (k : Int)) = 4 * (i : Int) - 16 + (k : Int) := IntWalk.i64_in _ (by omega)
            have v3 : (4 * (i : Int) - 16 + (k : Int)).toNat = 4 * i - 16 + k := by omega
            have v4 : (0 : Int) ≤ 4 * (i : Int) - 16 + (k : Int) ∧ 4 * (i : Int) - 16 + (k : Int) < (m2 : Int) := by omega
            have v5 : (k : Int) < 4 := by omega
            have HM2 := Lib.hid hm2
            clear hlk hm2 hlc2
            go_wp2_with fail
            have HKE := outB_kept wr.drew HT.out.1.drew.2.1 (by show w.heap.size + 1 ≤ wr.heap.size; omega) HT.out.1.2.2.1 22 (nextB l i k) _ rfl (by rw [HM2.out]; omega)
            go_region_law (first
              | (refine step_append_kept rfl (.tmp 76) (.tmp 90) 22 22 rfl _ _ (by simp [Act.eval]) (by simp [Act.eval]) HKE ?_; intro v2 w2 hb2 hv2 hg2 ho2))
            all_goals
              have TN := TMem.next HT.out hb2 hv2 hg2 ho2
              rw [List.append_assoc, mapTo_next] at TN
              have HTN := Lib.hid TN
              clear TN hb2 hg2 ho2 HKE hx
              go_wp2
              go_roundw
              case rel => exact ⟨k + 1, by omega, by go_num, HTN⟩
              case measure => (simp [intOf]; try omega)
          · obtain rfl : k = 4 := by omega
            have HE : l ++ mapTo (nextB l i) 4 = keyB s.data.toList (i + 1 - 4) := by
              rw [show i + 1 - 4 = (i - 4) + 1 by omega]
              show _ = keyB _ (i - 4) ++ nextW (keyB _ (i - 4)) (i - 4 + 4)
              rw [HB.out, show i - 4 + 4 = i by omega]
              rfl
            have HW := HT.out.1
            rw [HE] at HW
            have HW2 := Lib.hid HW
            clear HW HE
            go_wp2
            go_roundw
            case rel => exact ⟨i + 1, by omega, by omega, by go_num, HW2⟩
            case measure => (simp [intOf]; try omega)
    · obtain rfl : i = 44 := by omega
      obtain ⟨i0, hi0, hz0, hz1, hz2⟩ := info_parts infoKeys
      obtain ⟨w9, rfl⟩ : ∃ x, x = wr := ⟨_, rfl⟩
      have H9 : Hid (l = keyB s.data.toList 40) := Lib.hid HB.out.symm
      have HM9 := Lib.hid hm
      have hm76 : m = 176 := by omega
      subst hm76
      clear hlen4 hlen HB hi hlt
      have HK := Lib.hid fun n => keysTo_next s n
      unfold GivesK
      rw [keysTo_length]
      go_wp2_with fail
      rw [show ((44 : Nat) : Int) = 44 from rfl]
      go_loopw [9, 10] (fun ov jv wq => ∃ j : Nat, j ≤ 11 ∧ jv = .int .i64 j ∧ Hid (wq.ownsRow w9.heap.size 9 1 ov j (scells (keysTo s j))) ∧ Below w9.heap.size w9 wq)
        (fun _ jv _ => 11 - (intOf jv).toNat)
      case atStart => exact ⟨0, Nat.zero_le _, rfl, Lib.hid (World.ownsRow_lit w9 #[] 0 (Nat.le_refl _) (by decide) rfl), (Below.refl _ _).alloc (Nat.le_refl _) _⟩
      case round =>
        obtain ⟨j, hj, rfl, HW, hbel⟩ := hrel
        obtain ⟨ad, cap, hv, hc1, hc2, hr⟩ := own_form HW.out
        subst hv
        clear hr
        by_cases hlt : j < 11
        · have hcv := bytes_string_cut (P := Tryz.prog) 22 9 Tryz.underlying22 Tryz.underlying5 Tryz.underlying9 (by rw [HM9.out]; exact bytes_below HM.out.2.1 hbel) (16 * j) 16 (c - 16 * j) (by rw [HM9.out]; omega)
          rw [H9.out] at hcv
          change (convert _ _ _).run _ _ = .ok (.string (keyT s j)) _ at hcv
          go_wp2_with (first
            | (at_builtin; refine wpList_append_own _ rfl (.tmp 97) (.tmp 106) 29 rfl w9.heap.size 9 i0 (.string ⟨#[]⟩) 1 16 Tryz.underlying29 hi0 hz0 hz1 hz2 rfl (by decide) _ _ _ rfl (HW.out.alloc _) ⟨wr.heap.size, 0, none⟩ 1 1 [.string (keyT s j)] rfl rfl (World.news_of_block (heap_alloc_new _ _)) (by simp [Value.oneCell']) (by unfold maxLen; omega) (by omega) (by have := hbel.size; simp; omega) ?_; intro v2 w2 hown2 hgrow2 hn2))
          have hb3 : Below w9.heap.size w9 w2 := (hbel.alloc hbel.size _).grown hgrow2 (by have := hbel.size; simp; omega) (own_block_ge HW.out)
          rw [HK.out j] at hown2
          have HO2 := Lib.hid hown2
          clear hown2 hgrow2 hn2 hcv
          go_roundw
          case rel => exact ⟨j + 1, by omega, by go_num, HO2, hb3⟩
          case measure => (simp [intOf]; try omega)
        · obtain rfl : j = 11 := by omega
          go_wp2
          go_ret
          exact ⟨_, rfl, own_mono HW.out HM.out.2.2.2.size, HM.out.2.2.2.trans (hbel.mono HM.out.2.2.2.size)⟩
end Go.Proofs.YtgpjklnlchbbbaaGreatDoor
namespace Go.Proofs.YtgpjklnlchbbbaaGreatDoor
open Go.RowKit

theorem step_load_row {P : Program} {ops : Array Oper} {o : Oper} {a : Act} {w : World} {K : Act → World → Prop} {Q : Exit → Act → World → Prop} {E : Prop} (hgd : o.guard = none) (ty : TypeId) (x : Operand) (ho : o.op = .load ty x)
    (g : Nat) (hx : a.eval x = .pointer (some ⟨g, 0, none⟩)) (t : TypeId) (cs : Array Value) (fr : Nat × Nat) (d : TypeDesc) (hg : w.heap[g]? = some (.cells cs t fr))
    (hu : P.underlying ty = some d) (hd : (match d with | .struct _ | .array _ _ => true | _ => false) = true) (hi : (P.info? ty).map (·.size) = some cs.size)
    (h : K (a.put o.dst (.agg cs)) w) : if Region.wanted o (yielded ops a.tmps) = true then Oper.wp P o a w K Q else E := by
  rw [if_pos (by simp [Region.wanted, hgd])]
  exact wp_load_row ty x ho g hx t cs fr d hg hu hd hi h
end Go.Proofs.YtgpjklnlchbbbaaGreatDoor
namespace Go.Proofs.YtgpjklnlchbbbaaGreatDoor
open Go.RowKit Go.Proofs.YtgpjklnlchbbbaaGreatDoor.Hexa Go.Proofs.YtgpjklnlchbbbaaGreatDoor.Byt Go.Proofs.YtgpjklnlchbbbaaGreatDoor.Aes Go.Proofs.YtgpjklnlchbbbaaGreatDoor.Parts
theorem z256_size : z256.size = 256 := by unfold z256; rw [List.size_toArray, bcells_length, List.length_replicate]
end Go.Proofs.YtgpjklnlchbbbaaGreatDoor
namespace Go.Proofs.YtgpjklnlchbbbaaGreatDoor
open Go.RowKit Go.Proofs.YtgpjklnlchbbbaaGreatDoor.Hexa Go.Proofs.YtgpjklnlchbbbaaGreatDoor.Byt Go.Proofs.YtgpjklnlchbbbaaGreatDoor.BitsM Go.Proofs.YtgpjklnlchbbbaaGreatDoor.Parts

set_option maxRecDepth 100000 in
set_option maxHeartbeats 1000000 in
theorem specNum_yes (m k : Nat) (w : World) (hk : 1 ≤ k) (hk' : k ≤ 7) (hm : m < 256 ^ k) :
    Calls Tryz.prog 42 #[.int .i64 m, .int .i64 k] w fun e w' => e = .returned (.string (numB m k)) ∧ Below w.heap.size w w' := by
  have hmb : m < 72057594037927936 := Nat.lt_of_lt_of_le hm (Nat.le_trans (Nat.pow_le_pow_right (by omega) hk') (by decide))
  have hq := shift_zero hm
  have h0 : ¬ ((m : Int) < 0) := by omega
  have HR : Hid ((1 : Int) ≤ (k : Int) ∧ (k : Int) ≤ 7) := Lib.hid (by omega)
  clear hm
  go_enter Tryz.func42, Tryz.ntmps42
  go_wp2_with (first
    | (go_at_call 30; refine (range_yes _ HR.out).mono ?_; rintro e w1 ⟨rfl, rfl⟩))
  try rw [hq]
  clear hq
  go_loopw [5, 6] (fun v iv wr => ∃ j : Nat, j ≤ k ∧ iv = .int .i64 ((k : Int) - 1 - j) ∧ Bytes wr w1.heap.size 5 v (numL m k j) ∧ Below w1.heap.size w1 wr)
    (fun _ iv _ => (intOf iv + 1).toNat)
  case atStart => exact ⟨0, Nat.zero_le _, by go_num, bytes_of_own (l := []) (World.ownsRow_lit w1 #[] 0 (Nat.le_refl _) (by decide) rfl), (Below.refl _ _).alloc (Nat.le_refl _) _⟩
  case round =>
    obtain ⟨j, hj, rfl, hb, hg⟩ := hrel
    obtain ⟨a, c, rfl⟩ := bytes_len hb
    have hl := numL_length m k j
    by_cases hlt : j < k
    · have hw : IntKind.u64.wrap ((k : Int) - 1 - j) = (k : Int) - 1 - j := IntWalk.u64_in _ (by omega)
      have hsh : ((k : Int) - 1 - j).toNat = k - 1 - j := by omega
      have hge : 0 ≤ (k : Int) - 1 - j := by omega
      go_wp2_with (first
        | (at_builtin; refine wpList_append_out rfl (.tmp 29) (.tmp 36) 22 22 rfl _ _ rfl rfl (outB _ hb hg.size _ (UInt8.ofNat (m / 256 ^ (k - 1 - j))) _ (num_byte m (k - 1 - j)) (by omega)) ?_; intro v1 w2 hb1 hg1))
      rw [numL_next] at hb1
      go_roundw
      case rel => exact ⟨j + 1, by omega, by go_num, hb1, (hg.alloc hg.size _).trans hg1⟩
      case measure => simp [intOf]; omega
    · obtain rfl : j = k := by omega
      have hconv := bytes_string (P := Tryz.prog) 22 9 Tryz.underlying22 Tryz.underlying5 Tryz.underlying9 hb
      rw [hl] at hconv
      go_wp2
      go_ret
      exact ⟨rfl, hg⟩

set_option maxRecDepth 100000 in
set_option maxHeartbeats 1000000 in
theorem specNum_no (n width : Int) (w : World) (h : ¬ NumFits n width) (hn : n ≤ 9223372036854775807) :
    Calls Tryz.prog 42 #[.int .i64 n, .int .i64 width] w fun e w' => e = .returned (.string ⟨#[]⟩) ∧ w' = w := by
  by_cases h0 : n < 0
  · go_enter Tryz.func42, Tryz.ntmps42
    go_wp2
    go_ret
    exact ⟨rfl, rfl⟩
  · by_cases hr : 1 ≤ width ∧ width ≤ 7
    · have hbig : ¬ n < 256 ^ width.toNat := fun hlt => h ⟨by omega, hr, hlt⟩
      obtain ⟨k, rfl⟩ : ∃ k : Nat, width = k := ⟨width.toNat, by omega⟩
      obtain ⟨m, rfl⟩ : ∃ m : Nat, n = m := ⟨n.toNat, by omega⟩
      have hm : 256 ^ k ≤ m := by
        have e : ((k : Int).toNat) = k := by omega
        rw [e] at hbig
        have e2 : (256 : Int) ^ k = ((256 ^ k : Nat) : Int) := by simp
        rw [e2] at hbig
        omega
      have hq := shift_pos hm
      have HR := Lib.hid hr
      have hk7 : k ≤ 7 := by omega
      clear h hbig hm hr
      go_enter Tryz.func42, Tryz.ntmps42
      go_wp2_with (first
        | (go_at_call 30; refine (range_yes _ HR.out).mono ?_; rintro e w1 ⟨rfl, rfl⟩))
      go_ret
      exact ⟨rfl, rfl⟩
    · have HR := Lib.hid hr
      clear h hr
      go_enter Tryz.func42, Tryz.ntmps42
      go_wp2_with (first
        | (go_at_call 30; refine (range_no _ HR.out).mono ?_; rintro e w1 ⟨rfl, rfl⟩))
      go_ret
      exact ⟨rfl, rfl⟩

theorem specNum_any (n width : Int) (w : World) (hn : n ≤ 9223372036854775807) :
    Calls Tryz.prog 42 #[.int .i64 n, .int .i64 width] w fun e w' => e = .returned (.string (numTextB n width)) ∧ Below w.heap.size w w' := by
  by_cases h : NumFits n width
  · have hE : numTextB n width = numB n.toNat width.toNat := by unfold numTextB; exact if_pos h
    obtain ⟨h0, ⟨h1, h7⟩, hf⟩ := h
    obtain ⟨m, rfl⟩ : ∃ m : Nat, n = m := ⟨n.toNat, by omega⟩
    obtain ⟨k, rfl⟩ : ∃ k : Nat, width = k := ⟨width.toNat, by omega⟩
    rw [hE]
    simp only [Int.toNat_natCast] at hf ⊢
    have e2 : (256 : Int) ^ k = ((256 ^ k : Nat) : Int) := by simp
    rw [e2] at hf
    exact specNum_yes m k w (by omega) (by omega) (by omega)
  · have hE : numTextB n width = ⟨#[]⟩ := by unfold numTextB; exact if_neg h
    rw [hE]
    exact (specNum_no n width w h hn).mono fun e w' ⟨he, hw⟩ => ⟨he, by rw [hw]; exact Below.refl _ _⟩
end Go.Proofs.YtgpjklnlchbbbaaGreatDoor
namespace Go.Proofs.YtgpjklnlchbbbaaGreatDoor
open Go.RowKit Go.Proofs.YtgpjklnlchbbbaaGreatDoor.Hexa Go.Proofs.YtgpjklnlchbbbaaGreatDoor.Byt Go.Proofs.YtgpjklnlchbbbaaGreatDoor.Aes Go.Proofs.YtgpjklnlchbbbaaGreatDoor.Parts

theorem bytes_nt {w : World} {B e : Nat} {v : Value} {l : List UInt8} (h : Bytes w B e v l) (hl : 0 < l.length) : v ≠ .slice none 0 0 := by
  rintro rfl
  rcases h with ⟨_, rfl⟩ | ⟨g, cap, cur, fz, h1, _⟩
  · simp at hl
  · cases h1

/-- An append at a step of a region that draws its order. -/
theorem step_append_out {P : Program} {ops : Array Oper} {o : Oper} {a : Act} {w : World} {K : Act → World → Prop} {Q : Exit → Act → World → Prop} {E : Prop} (hgd : o.guard = none) (s x : Operand) (t tn : TypeId)
    (ho : o.op = .call { callee := .builtin .append, args := #[s, x], argTypes := #[t, tn] }) (vs vx : Value) (hs : a.eval s = vs) (hx : a.eval x = vx) {B : Nat} {e : TypeId} {l : List UInt8}
    (hr : Byt.Out P #[t, tn] o.type #[vs, vx] w B e l) (h : ∀ v' w', Bytes w' B e v' l → Below B w w' → K (a.put o.dst v') w') :
    if Region.wanted o (yielded ops a.tmps) = true then Oper.wp P o a w K Q else E := by
  obtain ⟨v', w', r, h1, h2⟩ := hr
  rw [if_pos (by simp [Region.wanted, hgd])]
  exact Lib.wp_append_run w s x t tn ho vs vx hs hx v' w' r (h v' w' h1 h2)

set_option maxRecDepth 100000 in
set_option maxHeartbeats 2000000 in
theorem specStreamOf_yes (key nonce : ByteArray) (n : Nat) (w : World) (hk : key.size = 16) (hn : nonce.size = 12) (hn0 : n ≤ 4096) :
    Calls Tryz.prog 33 #[.string key, .string nonce, .int .i64 n] w fun e w' => e = .returned (.string (streamT key nonce n)) ∧ Below w.heap.size w w' := by
  obtain ⟨i0, hi, hz0, hz1, hz2⟩ := info_parts infoByte
  have h1 := fun w => specBoxes_any w
  have h2 := fun w => specKeys_any key w hk
  have h3 := fun i ad cap w hr => specBlocks_any key (nonce ++ numB i 4) ad cap w hk (blkIn_size nonce hn i) hr
  have hs8 : boxCells.size = 256 := by show (bcells boxTab).toArray.size = 256; rw [List.size_toArray, bcells_length, boxTab_length]
  have hone : ∀ v ∈ boxCells.toList, v.oneCell' = true := bcells_one boxTab
  have hal := run_alloc256
  have hzz := z256_size
  generalize boxCells = bc at h1 h2 h3 hs8 hone
  generalize z256 = zz at hal hzz
  have HAL := Lib.hid hal
  have HZZ := Lib.hid hzz
  have k1 := Lib.hid h1
  have k2 := Lib.hid h2
  have k3 := Lib.hid h3
  have s8 := Lib.hid hs8
  have ho := Lib.hid hone
  have HK := Lib.hid hk
  have HN := Lib.hid hn
  have HR : Hid (0 ≤ (n : Int) ∧ (n : Int) ≤ 4096) := Lib.hid (by omega)
  clear h1 h2 h3 hs8 hone hal hzz
  go_enter Tryz.func33, Tryz.ntmps33
  go_wp2_with (first
    | (go_at_call 30; refine (range_yes _ HR.out).mono ?_; rintro e w9 ⟨rfl, hw9⟩; subst w9))
  refine (k1.out _).mono ?_
  rintro e w1 ⟨rfl, hb1⟩
  have hn0 := heap_alloc_new w1 (.cells zz 65)
  have hsr := run_storeCells_from (P := Tryz.prog) w1.heap.size 65 bc.toList 0 zz _ hn0 (by simp [HZZ.out, s8.out]) ho.out
  simp at hsr
  have HW : Hid (((w1.alloc (.cells zz 65)).setRow w1.heap.size bc).heap[w1.heap.size]? = some (.cells bc 65 (0, 0))) := Lib.hid (setRow_heap _ _ _ _ _ _ hn0)
  have HBW : Hid (Below w.heap.size w ((w1.alloc (.cells zz 65)).setRow w1.heap.size bc)) := Lib.hid ((hb1.alloc hb1.size _).trans ⟨rfl, rfl, rfl, by simp, fun k hk => setRow_other _ _ _ _ (by have := hb1.size; omega)⟩)
  generalize hW2 : (w1.alloc (.cells zz 65)).setRow w1.heap.size bc = W2 at hsr HW HBW
  generalize hbx : w1.heap.size = bx at hsr HW ⊢
  have hload := HW.out
  clear hb1 hn0
  go_wp2_with (first
    | (refine wpList_allocCells rfl 65 rfl zz HAL.out ?_)
    | (refine wpList_load_row rfl 65 (.tmp 7) rfl bx rfl 65 bc (0, 0) _ hload Tryz.underlying65 rfl (by rw [s8.out]; kernel_rfl) ?_))
  clear hsr hload
  refine (k2.out _).mono ?_
  rintro e w2 ⟨v2, rfl, hown2, hb2⟩
  rw [keysTo_length] at hown2
  obtain ⟨ad, cap, rfl, hc2, hn2, hr2⟩ := own_form hown2
  have HRD := Lib.hid hr2
  have HX : Hid (w2.heap[bx]? = some (.cells bc 65 (0, 0))) := Lib.hid ((hb2.block _ (Array.getElem?_eq_some_iff.1 HW.out).1).trans HW.out)
  have HB2 : Hid (Below w.heap.size w w2) := Lib.hid (HBW.out.trans (hb2.mono HBW.out.size))
  clear hown2 hr2 hb2 hW2 hbx HW HBW k1 k2
  obtain ⟨m, hm⟩ : ∃ m : Nat, (n + 15) / 16 = m := ⟨_, rfl⟩
  have HM : Hid (n ≤ 16 * m ∧ m ≤ 256 ∧ ∀ k, k < m → 16 * k < n) := Lib.hid ⟨by omega, by omega, fun k hk => by omega⟩
  clear hm
  go_wp2_with fail
  go_loopw [9, 10] (fun v iv wr => ∃ k : Nat, k ≤ m ∧ iv = .int .i64 k ∧ Hid (Bytes wr w2.heap.size 5 v (strL key nonce k)) ∧ Hid (v ≠ .slice none 0 0) ∧ Hid (Below w2.heap.size w2 wr))
    (fun _ iv _ => m - (intOf iv).toNat)
  case atStart => exact ⟨0, Nat.zero_le _, rfl, Lib.hid (bytes_of_own (l := []) (World.ownsRow_lit w2 #[] 0 (Nat.le_refl _) (by decide) rfl)), Lib.hid (by simp), Lib.hid ((Below.refl _ _).alloc (Nat.le_refl _) _)⟩
  case round =>
    obtain ⟨k, hkm, rfl, HB, HV, HL⟩ := hrel
    have hlen := strL_length key nonce HK.out HN.out k
    by_cases hlt : k < m
    · obtain ⟨a, c, rfl⟩ := bytes_len HB.out
      rw [hlen] at HB HV ⊢
      have HLN := Lib.hid hlen
      clear hlen
      have hll : 16 * k < n := HM.out.2.2 k hlt
      have hm2 : m ≤ 256 := HM.out.2.1
      have k4 := Lib.hid fun w => specNum_yes k 4 w (by omega) (by omega) (by omega)
      have k5 := k3.out k
      have hz4 := numB_four k
      have hds : (blockT key (nonce ++ numB k 4)).size = 16 := blkAt_size key nonce HK.out HN.out k
      have hnx : strL key nonce k ++ (blockT key (nonce ++ numB k 4)).data.toList = strL key nonce (k + 1) := rfl
      have HL2 := Lib.hid (strL_length key nonce HK.out HN.out (k + 1))
      generalize numB k 4 = q at k4 k5 hz4 hds hnx
      have hm3 : nonce.size + q.size ≤ 16 := by have := HN.out; omega
      generalize blockT key (nonce ++ q) = d at k5 hds hnx
      have HNX := Lib.hid hnx
      have K5 := Lib.hid k5
      clear hnx k3 k5
      go_wp2_with fail
      refine wp_region_any (by kernel_rfl) ?_
      change wpAny _ _ _ _ _ _ _ (World.drew wr)
      refine wpAny_take (i := 0) (v := ?_) rfl (by kernel_rfl) (by kernel_rfl) (by kernel_rfl) (fun _ _ _ h => h) (Or.inl ⟨by rfl, ?_⟩) ?_
      rotate_left
      · (intro w; go_simp; try with_reducible rfl)
      refine wpAny_take (i := 1) (v := ?_) rfl (by kernel_rfl) (by kernel_rfl) (by kernel_rfl) (fun _ _ _ h => h) (Or.inl ⟨by rfl, ?_⟩) ?_
      rotate_left
      · (intro w; go_simp; try with_reducible rfl)
      refine wpAny_take (i := 2) (v := ?_) rfl (by kernel_rfl) (by kernel_rfl) (by kernel_rfl) (fun _ _ _ h => h) (Or.inl ⟨by rfl, ?_⟩) ?_
      rotate_left
      · (intro w; go_simp; try with_reducible rfl)
      refine wpAny_take (i := 3) (v := ?_) rfl (by kernel_rfl) (by kernel_rfl) (by kernel_rfl) (fun _ _ _ h => h) (Or.inl ⟨by rfl, ?_⟩) ?_
      rotate_left
      · (intro w; go_simp; try with_reducible rfl)
      refine wpAny_ready (rs := [4, 6]) (by kernel_rfl) (by simp) ?_
      refine AllReady.cons rfl (fun K hK => ?_) (AllReady.cons rfl (fun K hK => ?_) AllReady.nil)
      · go_simp
        refine (k4.out _).mono ?_
        rintro e w3 ⟨rfl, hb3⟩
        have L3 := Lib.hid (HL.out.drew.trans (hb3.mono HL.out.size))
        have hload3 : w3.heap[bx]? = some (.cells bc 65 (0, 0)) := (L3.out.block _ (Array.getElem?_eq_some_iff.1 HX.out).1).trans HX.out
        have hbl3 := Lib.hid (bytes_below HB.out (((Below.refl wr.heap.size wr).drew).trans hb3))
        clear hb3
        refine hK _ _ ?_
        clear hK K
        refine wpAny_take (i := 5) (v := ?_) rfl (by kernel_rfl) (by kernel_rfl) (by kernel_rfl) (fun _ _ _ h => h) (Or.inl ⟨by rfl, ?_⟩) ?_
        rotate_left
        · (intro w; go_simp; try with_reducible rfl)
        refine wpAny_ready (rs := [6]) (by kernel_rfl) (by simp) ?_
        refine AllReady.cons rfl (fun K hK => ?_) AllReady.nil
        refine step_load_row rfl 65 (.tmp 7) rfl bx rfl 65 bc (0, 0) _ hload3 Tryz.underlying65 rfl (by rw [s8.out]; kernel_rfl) ?_
        refine hK _ _ ?_
        clear hK K
        refine wpAny_ready (rs := [7]) (by kernel_rfl) (by simp) ?_
        refine AllReady.cons rfl (fun K hK => ?_) AllReady.nil
        go_simp
        refine (K5.out ad cap _ (reads_below HRD.out L3.out)).mono ?_
        rintro e w4 ⟨rfl, hb4⟩
        have L4 := Lib.hid (L3.out.trans (hb4.mono L3.out.size))
        have hbl4 := bytes_below hbl3.out hb4
        have HXA := Lib.hid (append_text (P := Tryz.prog) Tryz.underlying22 hi hz0 hz1 hz2 Tryz.underlying9 w4 hbl4 L4.out.size 22 d (by have := HLN.out; omega))
        rw [HNX.out] at HXA
        clear hb4 hbl4
        refine hK _ _ ?_
        clear hK K
        refine wpAny_ready (rs := [8]) (by kernel_rfl) (by simp) ?_
        refine AllReady.cons rfl (fun K hK => ?_) AllReady.nil
        refine step_append_out rfl (.tmp 35) (.tmp 42) 22 9 rfl _ _ rfl rfl HXA.out ?_
        intro v1 w5 hb5 hg5
        refine hK _ _ ?_
        clear hK K
        refine wpAny_take (i := 9) (v := ?_) rfl (by kernel_rfl) (by kernel_rfl) (by kernel_rfl) (fun _ _ _ h => h) (Or.inl ⟨by rfl, ?_⟩) ?_
        rotate_left
        · (intro w; go_simp; try with_reducible rfl)
        refine wpAny_done (by kernel_rfl) ?_ _
        go_simp
        go_wp2
        go_roundw
        case rel => exact ⟨k + 1, by omega, by go_num, Lib.hid hb5, Lib.hid (bytes_nt hb5 (by have := HL2.out; omega)), Lib.hid (L4.out.trans hg5)⟩
        case measure => (simp [intOf]; try omega)
      · have hload2 : wr.drew.heap[bx]? = some (.cells bc 65 (0, 0)) := (HL.out.block _ (Array.getElem?_eq_some_iff.1 HX.out).1).trans HX.out
        refine step_load_row rfl 65 (.tmp 7) rfl bx rfl 65 bc (0, 0) _ hload2 Tryz.underlying65 rfl (by rw [s8.out]; kernel_rfl) ?_
        refine hK _ _ ?_
        clear hK K
        refine wpAny_ready (rs := [4]) (by kernel_rfl) (by simp) ?_
        refine AllReady.cons rfl (fun K hK => ?_) AllReady.nil
        go_simp
        refine (k4.out _).mono ?_
        rintro e w3 ⟨rfl, hb3⟩
        have L3 := Lib.hid (HL.out.drew.trans (hb3.mono HL.out.size))
        have hload3 : w3.heap[bx]? = some (.cells bc 65 (0, 0)) := (L3.out.block _ (Array.getElem?_eq_some_iff.1 HX.out).1).trans HX.out
        have hbl3 := Lib.hid (bytes_below HB.out (((Below.refl wr.heap.size wr).drew).trans hb3))
        clear hb3
        refine hK _ _ ?_
        clear hK K
        refine wpAny_take (i := 5) (v := ?_) rfl (by kernel_rfl) (by kernel_rfl) (by kernel_rfl) (fun _ _ _ h => h) (Or.inl ⟨by rfl, ?_⟩) ?_
        rotate_left
        · (intro w; go_simp; try with_reducible rfl)
        refine wpAny_ready (rs := [7]) (by kernel_rfl) (by simp) ?_
        refine AllReady.cons rfl (fun K hK => ?_) AllReady.nil
        go_simp
        refine (K5.out ad cap _ (reads_below HRD.out L3.out)).mono ?_
        rintro e w4 ⟨rfl, hb4⟩
        have L4 := Lib.hid (L3.out.trans (hb4.mono L3.out.size))
        have hbl4 := bytes_below hbl3.out hb4
        have HXA := Lib.hid (append_text (P := Tryz.prog) Tryz.underlying22 hi hz0 hz1 hz2 Tryz.underlying9 w4 hbl4 L4.out.size 22 d (by have := HLN.out; omega))
        rw [HNX.out] at HXA
        clear hb4 hbl4
        refine hK _ _ ?_
        clear hK K
        refine wpAny_ready (rs := [8]) (by kernel_rfl) (by simp) ?_
        refine AllReady.cons rfl (fun K hK => ?_) AllReady.nil
        refine step_append_out rfl (.tmp 35) (.tmp 42) 22 9 rfl _ _ rfl rfl HXA.out ?_
        intro v1 w5 hb5 hg5
        refine hK _ _ ?_
        clear hK K
        refine wpAny_take (i := 9) (v := ?_) rfl (by kernel_rfl) (by kernel_rfl) (by kernel_rfl) (fun _ _ _ h => h) (Or.inl ⟨by rfl, ?_⟩) ?_
        rotate_left
        · (intro w; go_simp; try with_reducible rfl)
        refine wpAny_done (by kernel_rfl) ?_ _
        go_simp
        go_wp2
        go_roundw
        case rel => exact ⟨k + 1, by omega, by go_num, Lib.hid hb5, Lib.hid (bytes_nt hb5 (by have := HL2.out; omega)), Lib.hid (L4.out.trans hg5)⟩
        case measure => (simp [intOf]; try omega)
    · obtain rfl : k = m := by omega
      obtain ⟨g, c, rfl, hg, hlg, hlc, hcm⟩ := bytes_some HB.out HV.out
      have HE : Hid (streamT key nonce n = ⟨((strL key nonce k).take n).toArray⟩) := Lib.hid (by unfold streamT; rw [streamL_of key nonce HK.out HN.out k n HM.out.1 HM.out.2.1])
      have hnl : ¬ (16 * k < n) := by have := HM.out; omega
      have hconv := bytes_string_cut (P := Tryz.prog) 22 9 Tryz.underlying22 Tryz.underlying5 Tryz.underlying9 HB.out 0 n c (by omega)
      rw [List.drop_zero] at hconv
      rw [hlen] at hlc
      have hnc : n ≤ c := by omega
      go_wp2
      go_ret
      exact ⟨by rw [HE.out]; rfl, HB2.out.trans (HL.out.mono HB2.out.size)⟩
end Go.Proofs.YtgpjklnlchbbbaaGreatDoor
namespace Go.Proofs.YtgpjklnlchbbbaaGreatDoor
open Go.RowKit Go.Proofs.YtgpjklnlchbbbaaGreatDoor.Hexa Go.Proofs.YtgpjklnlchbbbaaGreatDoor.Byt Go.Proofs.YtgpjklnlchbbbaaGreatDoor.Aes Go.Proofs.YtgpjklnlchbbbaaGreatDoor.Parts

theorem specStreamOf_no (key nonce : ByteArray) (n : Int) (w : World) (h : ¬ StreamFits key nonce n) :
    Calls Tryz.prog 33 #[.string key, .string nonce, .int .i64 n] w fun e w' => e = .returned (.string ⟨#[]⟩) ∧ w' = w := by
  by_cases hk : key.size = 16
  · by_cases hn : nonce.size = 12
    · have hr : ¬ (0 ≤ n ∧ n ≤ 4096) := fun e => h ⟨hk, hn, e⟩
      have HR := Lib.hid hr
      clear h hr
      go_enter Tryz.func33, Tryz.ntmps33
      go_wp2_with (first
        | (go_at_call 30; refine (range_no _ HR.out).mono ?_; rintro e w9 ⟨rfl, hw9⟩; subst w9))
      go_ret
      exact ⟨rfl, rfl⟩
    · clear h
      go_enter Tryz.func33, Tryz.ntmps33
      go_wp2_with fail
      go_ret
      exact ⟨rfl, rfl⟩
  · clear h
    go_enter Tryz.func33, Tryz.ntmps33
    go_wp2_with fail
    go_ret
    exact ⟨rfl, rfl⟩
theorem specStreamOf_any (key nonce : ByteArray) (n : Int) (w : World) :
    Calls Tryz.prog 33 #[.string key, .string nonce, .int .i64 n] w fun e w' => e = .returned (.string (streamB key nonce n)) ∧ Below w.heap.size w w' := by
  by_cases h : StreamFits key nonce n
  · rw [streamB_yes h]
    obtain ⟨hk, hn, h0, h1⟩ := h
    obtain ⟨m, rfl⟩ : ∃ m : Nat, n = m := ⟨n.toNat, by omega⟩
    exact specStreamOf_yes key nonce m w hk hn (by omega)
  · rw [streamB_no h]
    exact (specStreamOf_no key nonce n w h).mono fun e w' ⟨he, hw⟩ => ⟨he, by rw [hw]; exact Below.refl _ _⟩

set_option maxRecDepth 100000 in
set_option maxHeartbeats 400000 in
theorem specStreamed_any (key nonce text : ByteArray) (w : World) (ht : text.size ≤ 8000000) :
    Calls Tryz.prog 22 #[.string key, .string nonce, .string text] w fun e w' => e = .returned (.string (xorT text (streamB key nonce text.size))) ∧ Below w.heap.size w w' := by
  have k1 := Lib.hid fun w => specStreamOf_any key nonce text.size w
  have k2 := Lib.hid fun b w => specXor_any text b w ht
  generalize streamB key nonce text.size = b at k1 ⊢
  go_enter Tryz.func22, Tryz.ntmps22
  go_wp2_with (first
    | (go_at_call 33; refine (k1.out _).mono ?_; rintro e w1 ⟨rfl, hb1⟩)
    | (go_at_call 32; refine (k2.out _ _).mono ?_; rintro e w2 ⟨rfl, hb2⟩))
  go_ret
  exact ⟨rfl, hb1.trans (hb2.mono hb1.size)⟩
end Go.Proofs.YtgpjklnlchbbbaaGreatDoor
namespace Go.Proofs.YtgpjklnlchbbbaaGreatDoor.Aes
open Go.Proofs.YtgpjklnlchbbbaaGreatDoor.Fld

/-- The factors of a column's bytes, counted from the row that is computed. -/
def facN : Nat → Nat
  | 0 => 2
  | 1 => 3
  | _ => 1
theorem facN_lt : ∀ k, facN k < 256
  | 0 => by decide
  | 1 => by decide
  | _ + 2 => by show 1 < 256; decide
/-- Byte p of a mixed block, when the first k factors are in. -/
def mixTo (l : List UInt8) (p : Nat) : Nat → UInt8
  | 0 => 0
  | k + 1 => mixTo l p k ^^^ UInt8.ofNat (mul (l.getD (4 * (p / 4) + (p % 4 + k) % 4) 0).toNat (facN k))
theorem mul_two (a : UInt8) : UInt8.ofNat (mul a.toNat 2) = dblU a := by rw [← dbl_two _ a.toNat_lt]; rfl
theorem mul_one8 (a : UInt8) : UInt8.ofNat (mul a.toNat 1) = a := by rw [mul_one _ a.toNat_lt]; simp
theorem mul_three (a : UInt8) : UInt8.ofNat (mul a.toNat 3) = dblU a ^^^ a := by
  have h := mul_xor a.toNat 2 1
  have l1 := dbl_lt _ a.toNat_lt
  have l2 := a.toNat_lt
  rw [show (2 ^^^ 1 : Nat) = 3 from rfl, ← dbl_two _ a.toNat_lt, mul_one _ a.toNat_lt] at h
  rw [h]
  apply UInt8.toNat_inj.1
  unfold dblU
  rw [UInt8.toNat_xor, UInt8.toNat_ofNat', UInt8.toNat_ofNat', Nat.mod_eq_of_lt l1, Nat.mod_eq_of_lt (xor_lt l1 l2)]
theorem mixTo_four (l : List UInt8) (p : Nat) : mixTo l p 4 = mixAt l p := by
  have h (x : Nat) : p % 4 % 4 = p % 4 := by omega
  simp only [mixTo, facN, mul_two, mul_three, mul_one8, Nat.add_zero]
  rw [h 0]
  unfold mixAt mixB
  simp only [UInt8.zero_xor, UInt8.xor_assoc]
end Go.Proofs.YtgpjklnlchbbbaaGreatDoor.Aes
namespace Go.Proofs.YtgpjklnlchbbbaaGreatDoor
open Go.RowKit Go.Proofs.YtgpjklnlchbbbaaGreatDoor.Fld Go.Proofs.YtgpjklnlchbbbaaGreatDoor.BitsM

theorem invF_succ (f out x n : Nat) : invF (f + 1) out x n = invF f (if n % 2 = 1 then mul out x else out) (mul x x) (n / 2) := rfl
theorem invF_zero : ∀ (f out x : Nat), invF f out x 0 = out
  | 0, _, _ => rfl
  | f + 1, out, x => by rw [invF_succ, if_neg (by decide)]; exact invF_zero f out (mul x x)
/-- The inverse of a number that is none of 1 to 255 is 0. -/
def invI (a : Int) : Int := if 1 ≤ a ∧ a ≤ 255 then (inv a.toNat : Int) else 0

/-- The box of a number; 0 where it is no byte's. -/
def boxI (a : Int) : Int := if 0 ≤ a ∧ a ≤ 255 then (turnF (invI a).toNat 5 : Int) else 0
theorem invI_lt (a : Int) : 0 ≤ invI a ∧ invI a < 256 := by
  unfold invI
  split
  · rename_i h
    have := inv_lt a.toNat (by omega)
    omega
  · omega
/-- What the functions say of every number. -/
def dblI (a : Int) : Int := if 0 ≤ a ∧ a ≤ 255 then (dbl a.toNat : Int) else 0
def mulI (a b : Int) : Int := if (0 ≤ a ∧ a ≤ 255) ∧ (0 ≤ b ∧ b ≤ 255) then (mul a.toNat b.toNat : Int) else 0
def powI (a n : Int) : Int := if (0 ≤ a ∧ a ≤ 255) ∧ (0 ≤ n ∧ n ≤ 1000) then (pow a.toNat n.toNat : Int) else 0
theorem below_same {e : Ending} {w w' : World} {v : Int} (h : e = .returned (.int .i64 v) ∧ w' = w) : e = .returned (.int .i64 v) ∧ Below w.heap.size w w' := ⟨h.1, by rw [h.2]; exact Below.refl _ _⟩
end Go.Proofs.YtgpjklnlchbbbaaGreatDoor
namespace Go.Proofs.YtgpjklnlchbbbaaGreatDoor.Fld

theorem pow_square (x : Nat) (hx : x < 256) : ∀ m, pow (mul x x) m = pow x (2 * m)
  | 0 => rfl
  | m + 1 => by
    have e1 : pow (mul x x) (m + 1) = mul (pow (mul x x) m) (mul x x) := rfl
    have e2 : pow x (2 * (m + 1)) = mul (mul (pow x (2 * m)) x) x := rfl
    rw [e1, e2, pow_square x hx m, mul_assoc _ _ _ (pow_lt x (2 * m)) hx]
theorem pow_odd (out x m : Nat) (ho : out < 256) (hx : x < 256) : mul (mul out x) (pow x m) = mul out (pow x (m + 1)) := by
  have e1 : pow x (m + 1) = mul (pow x m) x := rfl
  rw [mul_assoc _ _ _ ho hx, e1, mul_comm x (pow x m) hx (pow_lt x m)]
/-- The loop's round: the exponent's lowest bit, the rest with the square. -/
theorem pow_round (out x n r : Nat) (ho : out < 256) (hx : x < 256) (h : mul out (pow x n) = r) :
    mul (if n % 2 = 1 then mul out x else out) (pow (mul x x) (n / 2)) = r := by
  rw [pow_square x hx, ← h]
  split
  · have e : n = 2 * (n / 2) + 1 := by omega
    rw [pow_odd out x _ ho hx, ← e]
  · have e : 2 * (n / 2) = n := by omega
    rw [e]
theorem pow_end (out x : Nat) (ho : out < 256) : mul out (pow x 0) = out := mul_one out ho
theorem invF_pow : ∀ (f out x n : Nat), n < 2 ^ f → out < 256 → x < 256 → invF f out x n = mul out (pow x n)
  | 0, out, x, n, hn, ho, hx => by
    obtain rfl : n = 0 := by simpa using hn
    exact (pow_end out x ho).symm
  | f + 1, out, x, n, hn, ho, hx => by
    have e : invF (f + 1) out x n = invF f (if n % 2 = 1 then mul out x else out) (mul x x) (n / 2) := rfl
    have ho' : (if n % 2 = 1 then mul out x else out) < 256 := by
      split
      · exact mul_lt _ _ ho
      · exact ho
    rw [e, invF_pow f _ _ _ (by rw [Nat.pow_succ] at hn; omega) ho' (mul_lt _ _ hx)]
    exact pow_round out x n _ ho hx rfl
theorem inv_pow (a : Nat) (h : a < 256) : inv a = pow a 254 := by
  have e : inv a = mul 1 (pow a 254) := invF_pow 8 1 a 254 (by decide) (by decide) h
  rw [e, mul_comm 1 _ (by decide) (pow_lt a 254), mul_one _ (pow_lt a 254)]
end Go.Proofs.YtgpjklnlchbbbaaGreatDoor.Fld
