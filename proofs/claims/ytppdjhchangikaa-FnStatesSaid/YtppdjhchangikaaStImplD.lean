/- The program's page states: ReadStates. -/
import Derived.Test.YtppdjhchangikaaStImplC
import Derived.Test.YtppdjhchangikaaOwnC
import Derived.Test.YtppdjhchangikaaEqualImpl
namespace Go.Proofs.Ytppdjhchangikaa
open Go.RowKit Go.Lib Go.Proofs.Ytppdjhchangikaa.Parts Go.Proofs.Ytppdjhchangikaa.Hexa Go.Proofs.Ytppdjhchangikaa.Byt

/-- The bytes behind the first k words. -/
def TT (P : List ByteArray) : Nat → List UInt8
  | 0 => partB [] 16
  | k + 1 => ovT (TT P k) (8 * k) (16 - 8 * k) (P.getD k default)
theorem TT_len (P : List ByteArray) : ∀ k, k ≤ 2 → (TT P k).length = 16
  | 0, _ => partB_length [] 16 (by decide)
  | k + 1, h => by
    have ih := TT_len P k (by omega)
    show (ovT _ _ _ _).length = 16
    rw [ovT_len _ _ _ _ (by omega), ih]
theorem TT_two {P : List ByteArray} (h0 : (P.getD 0 default).size = 8) (h1 : (P.getD 1 default).size = 8) : TT P 2 = (P.getD 0 default ++ P.getD 1 default).data.toList := by
  have e : ∀ s : ByteArray, s.size = 8 → (s.extract 0 8).data.toList = s.data.toList := fun s hs => by
    have : s.extract 0 8 = s := by
      apply ByteArray.ext
      simp [ByteArray.data_extract]
      have : s.data.size = 8 := hs
      omega
    rw [this]
  have hl0 : (P.getD 0 default).data.toList.length = 8 := by rw [Array.length_toList]; exact h0
  show ovT (ovT (partB [] 16) (8 * 0) (16 - 8 * 0) (P.getD 0 default)) (8 * 1) (16 - 8 * 1) (P.getD 1 default) = _
  generalize P.getD 0 default = A at *
  generalize P.getD 1 default = B at *
  unfold ovT
  rw [h0, h1]
  rw [show min 8 (16 - 8 * 0) = 8 from rfl, show min 8 (16 - 8 * 1) = 8 from rfl, show 8 * 0 = 0 from rfl, show 8 * 1 = 8 from rfl, show 0 + 8 = 8 from rfl, show 8 + 8 = 16 from rfl, e A h0, e B h1, partB_nil]
  simp only [List.take_zero, List.nil_append, List.drop_replicate]
  rw [List.take_left' hl0, List.drop_eq_nil_of_le (by simp [hl0]), List.append_nil]
  simp

theorem cutSt_size {l : List UInt8} {o : Nat} (h : o + 8 ≤ l.length) : (cutSt l o).size = 8 := by
  show ((l.drop o).take 8).toArray.size = 8
  simp; omega
theorem stWords_sizes {zs : List Int} {P : List ByteArray} (h : stWords zs = P) (hP : P.length = 2) : (P.getD 0 default).size = 8 ∧ (P.getD 1 default).size = 8 := by
  by_cases hok : StOk zs zs.length
  · rw [stWords_yes hok] at h
    have hl : (partB (stT zs) 16).length = 16 := partB_length _ _ (by rw [stT_len]; have := hok.2.2.2; omega)
    subst h
    exact ⟨cutSt_size (by omega), cutSt_size (by omega)⟩
  · rw [stWords_no hok] at h
    subst h; cases hP
theorem rd_same {P : List ByteArray} {q : Nat} (h0 : (P.getD 0 default).size = 8) (h1 : (P.getD 1 default).size = 8) : listSt P (q : Int) = bytesI ⟨(TT P 2).toArray⟩ q := by
  unfold listSt bytesI
  rw [TT_two h0 h1]
  simp
theorem rd_eq {P : List ByteArray} {q : Nat} (hP : P.length = 2) (hq : 1 ≤ q ∧ q ≤ 12) (h : stWords (bytesI ⟨(TT P 2).toArray⟩ q) = P) : RdOk P (q : Int) ∧ listSt P (q : Int) = bytesI ⟨(TT P 2).toArray⟩ q := by
  obtain ⟨h0, h1⟩ := stWords_sizes h hP
  have e := rd_same (q := q) h0 h1
  exact ⟨⟨hP, h0, h1, by omega, by rw [e]; exact h⟩, e⟩
theorem rd_ne {P : List ByteArray} {q : Nat} (h : ¬ stWords (bytesI ⟨(TT P 2).toArray⟩ q) = P) : ¬ RdOk P (q : Int) := fun hr => h (by
  rw [← rd_same hr.2.1 hr.2.2.1]; exact hr.2.2.2.2)

/-- The first k bytes as ints, and zeros. -/
def partI (T : List UInt8) (q k : Nat) : List Int := bytesI ⟨T.toArray⟩ k ++ List.replicate (q - k) 0
theorem partI_len {T : List UInt8} {q k : Nat} (hk : k ≤ q) (hq : q ≤ T.length) : (partI T q k).length = q := by
  unfold partI
  rw [List.length_append, bytesI_len (by show k ≤ T.toArray.size; rw [List.size_toArray]; omega), List.length_replicate]; omega
theorem partI_next {T : List UInt8} {q k : Nat} (hk : k < q) (hq : q ≤ T.length) : (partI T q k).set k ((T[k]'(by omega)).toNat : Int) = partI T q (k + 1) := by
  have hs : k < (⟨T.toArray⟩ : ByteArray).size := by show k < T.toArray.size; rw [List.size_toArray]; omega
  have hl : (bytesI ⟨T.toArray⟩ k).length = k := bytesI_len (by omega)
  obtain ⟨m, hm⟩ : ∃ m, q - k = m + 1 := ⟨q - k - 1, by omega⟩
  unfold partI
  rw [bytesI_succ hs, hm, show q - (k + 1) = m by omega, List.replicate_succ, List.set_append_right _ _ (by omega), hl, Nat.sub_self, List.set_cons_zero, List.append_assoc]
  rfl

set_option maxRecDepth 100000 in
set_option maxHeartbeats 2000000 in
theorem implReadSt_any (a : Option Addr) (n c : Nat) (P : List ByteArray) (p : Int) (w : World) (hs : SrcT w a n P) (hm : ∀ j, j < n → (P.getD j default).size ≤ 2000000) :
    Calls Try.prog 17 #[.slice a n c, .int .i64 p] w (GivesCB (rdR P p) (rdB P p) w) := by
  by_cases h2 : n = 2
  · subst h2
    obtain ⟨i0, hi, hz0, hz1, hz2⟩ := info_parts infoInt
    obtain ⟨i8, hi8, hz80, hz81, hz82⟩ := info_parts infoByte
    have HS := Lib.hid hs
    obtain ⟨g, off, rfl, hg, d0⟩ := srcT_at hs 0 (by omega)
    obtain ⟨g', off', e', _, d1⟩ := srcT_at hs 1 (by omega)
    cases e'
    obtain ⟨A, hA⟩ : ∃ A, P.getD 0 default = A := ⟨_, rfl⟩
    obtain ⟨B, hB⟩ : ∃ B, P.getD 1 default = B := ⟨_, rfl⟩
    have m0 := hm 0 (by omega)
    have m1 := hm 1 (by omega)
    rw [hA, Nat.add_zero] at d0
    rw [hA] at m0
    rw [hB] at d1 m1
    have HA := Lib.hid hA
    have HB := Lib.hid hB
    clear hs hm hA hB
    by_cases hp : 1 ≤ p ∧ p ≤ 12
    · obtain ⟨q, rfl⟩ : ∃ q : Nat, p = q := ⟨p.toNat, by omega⟩
      have hq12 : q ≤ 12 := by omega
      have hq1 : 1 ≤ q := by omega
      go_enter Try.func17, Try.ntmps17
      go_wp2_with fail
      refine (implIn_yes _ hp).mono ?_
      rintro e w1 ⟨rfl, rfl⟩
      clear hp
      have HG0 : Hid (Below w1.heap.size w1 (w1.alloc (.cells #[.int .u8 0, .int .u8 0, .int .u8 0, .int .u8 0, .int .u8 0, .int .u8 0, .int .u8 0, .int .u8 0, .int .u8 0, .int .u8 0, .int .u8 0, .int .u8 0, .int .u8 0, .int .u8 0, .int .u8 0, .int .u8 0] 51))) := Lib.hid ((Below.refl _ _).alloc (Nat.le_refl _) _)
      have HO0 := Lib.hid (zero16 w1 (B := w1.heap.size) (Nat.le_refl _) 51)
      go_wp2
      go_loopw [21] (fun iv wr => ∃ k : Nat, k ≤ 2 ∧ iv = .int .i64 k ∧ Hid (Bytes wr w1.heap.size 51 (.slice (some ⟨w1.heap.size, 0, none⟩) 16 16) (TT P k)) ∧ Hid (Below w1.heap.size w1 wr)) (fun iv _ => 2 - (intOf iv).toNat)
      case atStart => exact ⟨0, Nat.zero_le _, rfl, HO0, HG0⟩
      case round =>
        obtain ⟨k, hk, rfl, HO, HG⟩ := hrel
        clear HO0 HG0
        by_cases hlt : k < 2
        · obtain ⟨w', h'⟩ : ∃ w', w' = wr := ⟨_, rfl⟩
          obtain h | h : k = 0 ∨ k = 1 := by omega
          · subst h
            obtain ⟨r9, w9, hc9, ho9, hb9⟩ := bytes_copy_at (P := Try.prog) (t := 22) (u := 9) (ty := 3) Try.underlying22 hi8 hz81 (TT_len P 0 (by omega)) HO.out 0 16 16 (by omega) A
            have HO9 : Hid (Bytes w9 w1.heap.size 51 (.slice (some ⟨w1.heap.size, 0, none⟩) 16 16) (TT P 1)) := Lib.hid (by
              show Bytes _ _ _ _ (ovT (TT P 0) (8 * 0) (16 - 8 * 0) (P.getD 0 default)); rw [HA.out]; exact ho9)
            have HB9 : Hid (Below w1.heap.size w1 w9) := Lib.hid (HG.out.trans hb9)
            have d0' : wr.cell? ⟨g, off, none⟩ = some (.string A) := by rw [HG.out.cell hg]; exact d0
            clear ho9 hb9 HO HG h'
            rw [show ((0 : Nat) : Int) = 0 from rfl]
            go_wp2
            go_roundw
            case rel => exact ⟨1, by omega, by go_num, HO9, HB9⟩
            case measure => (simp [intOf]; try omega)
          · subst h
            obtain ⟨r9, w9, hc9, ho9, hb9⟩ := bytes_copy_at (P := Try.prog) (t := 22) (u := 9) (ty := 3) Try.underlying22 hi8 hz81 (TT_len P 1 (by omega)) HO.out 8 8 8 (by omega) B
            have HO9 : Hid (Bytes w9 w1.heap.size 51 (.slice (some ⟨w1.heap.size, 0, none⟩) 16 16) (TT P 2)) := Lib.hid (by
              show Bytes _ _ _ _ (ovT (TT P 1) (8 * 1) (16 - 8 * 1) (P.getD 1 default)); rw [HB.out]; exact ho9)
            have HB9 : Hid (Below w1.heap.size w1 w9) := Lib.hid (HG.out.trans hb9)
            have d1' : wr.cell? ⟨g, off + 1, none⟩ = some (.string B) := by rw [HG.out.cell hg]; exact d1
            clear ho9 hb9 HO HG h'
            rw [show ((1 : Nat) : Int) = 1 from rfl]
            go_wp2
            go_roundw
            case rel => exact ⟨2, by omega, by go_num, HO9, HB9⟩
            case measure => (simp [intOf]; try omega)
        · obtain rfl : k = 2 := by omega
          obtain ⟨W, hW⟩ : ∃ W, W = wr := ⟨_, rfl⟩
          rw [← hW] at HO HG ⊢
          clear hW
          obtain ⟨T, hT⟩ : ∃ T, TT P 2 = T := ⟨_, rfl⟩
          have hT16 : T.length = 16 := by rw [← hT]; exact TT_len P 2 (by omega)
          have HEQ := Lib.hid (fun h => rd_eq (P := P) (q := q) HS.out.len ⟨hq1, hq12⟩ h)
          have HNE := Lib.hid (fun h => rd_ne (P := P) (q := q) h)
          rw [hT] at HO HEQ HNE
          clear hT
          have hlt0 : w1.heap.size < W.heap.size := by
            rcases HO.out with ⟨h, _⟩ | ⟨_, _, _, _, hv, _, hg9, _⟩
            · cases h
            · have hv := (Value.slice.inj hv).1; cases hv; exact (Array.getElem?_eq_some_iff.1 hg9).1
          go_wp2_with (at_make; refine wpList_make_full _ rfl _ _ 24 rfl w1.heap.size 3 i0 (.int .i64 0) 1 Try.underlying24 hi hz0 hz1 .i64 .i64 _ _ q rfl rfl rfl rfl (by rw [hz2]; omega) (by unfold maxLen; omega) (by omega) ?_; intro w0 hown0 hgrow0)
          have HG1 : Hid (Below w1.heap.size w1 w0) := Lib.hid (HG.out.grown hgrow0 (by omega) (fun k h => by cases h))
          have HB0 : Hid (Below W.heap.size W w0) := Lib.hid ((Below.refl _ _).grown hgrow0 (Nat.le_refl _) (fun k h => by cases h))
          have HBY : Hid (Bytes w0 w1.heap.size 51 (.slice (some ⟨w1.heap.size, 0, none⟩) 16 16) T) := Lib.hid (by
            rcases HO.out with ⟨h, _⟩ | ⟨g9, cap9, cur9, fz9, hv, hb9, hg9, hr9⟩
            · cases h
            · refine .inr ⟨g9, cap9, cur9, fz9, hv, hb9, ?_, hr9⟩
              rw [HB0.out.block g9 (Array.getElem?_eq_some_iff.1 hg9).1]; exact hg9)
          have HOI : Hid (w0.ownsRow w1.heap.size 3 1 (.slice (some ⟨W.heap.size, 0, none⟩) q q) q (icells (partI T q 0))) := Lib.hid (by
            have e : (madeCells (Value.int .i64 0).cells (q * 1)).toList = icells (partI T q 0) := by
              apply List.ext_getElem?
              intro j
              have hcl : (Value.int .i64 0).cells = #[Value.int .i64 0] := rfl
              have hp0 : partI T q 0 = List.replicate q 0 := by unfold partI; rw [bytesI_zero]; rfl
              rw [hp0]
              by_cases hj : j < q
              · simp [madeCells, hj, hcl, Nat.mod_one, icells]
              · rw [List.getElem?_eq_none (by simp [madeCells]; omega), List.getElem?_eq_none (by simp [icells]; omega)]
            rw [← e]; exact hown0)
          clear hown0 hgrow0 HG HO
          go_wp2
          go_loopw [36] (fun iv wr => ∃ k : Nat, k ≤ q ∧ iv = .int .i64 k ∧ Hid (wr.ownsRow w1.heap.size 3 1 (.slice (some ⟨W.heap.size, 0, none⟩) q q) q (icells (partI T q k))) ∧ Hid (Bytes wr w1.heap.size 51 (.slice (some ⟨w1.heap.size, 0, none⟩) 16 16) T) ∧ Hid (Below w1.heap.size w1 wr)) (fun iv _ => q - (intOf iv).toNat)
          case atStart => exact ⟨0, Nat.zero_le _, rfl, HOI, HBY, HG1⟩
          case round =>
            obtain ⟨k, hk, rfl, HO, HY, HG⟩ := hrel
            clear HOI HBY HG1 HB0
            by_cases hlt : k < q
            · have hk16 : k < T.length := by omega
              have hk16' : (k : Int) < 16 := by omega
              have hy := (bytes_at (c := 16) (l := T) (by rw [hT16]; exact HY.out) k hk16).1
              have hpl := partI_len (T := T) (q := q) (k := k) (by omega) (by omega)
              have HN := Lib.hid (partI_next (T := T) (q := q) (k := k) hlt (by omega))
              obtain ⟨u, hu⟩ := ownE_cell HO.out (j := k) (by omega)
              have hfr := HO.out.frozenAt k
              obtain ⟨x, hx⟩ : ∃ x, T[k]'hk16 = x := ⟨_, rfl⟩
              rw [hx] at hy HN
              have hwr : IntKind.i64.wrap (x.toNat : Int) = (x.toNat : Int) := IntWalk.i64_in _ (by have h9 : x.toNat < 256 := x.toNat_lt; omega)
              have HO2 : Hid ((wr.setCell ⟨W.heap.size, k, none⟩ (.int .i64 (x.toNat : Int))).ownsRow w1.heap.size 3 1 (.slice (some ⟨W.heap.size, 0, none⟩) q q) q (icells (partI T q (k + 1)))) := Lib.hid (by
                have h9 := (HO.out.stored k (.int .i64 (x.toNat : Int))).1
                rw [← HN.out, show icells ((partI T q k).set k (x.toNat : Int)) = (icells (partI T q k)).set k (.int .i64 (x.toNat : Int)) by simp [icells]]
                exact h9)
              have HG2 : Hid (Below w1.heap.size w1 (wr.setCell ⟨W.heap.size, k, none⟩ (.int .i64 (x.toNat : Int)))) := Lib.hid (HG.out.setCell (by show w1.heap.size ≤ W.heap.size; omega) _)
              have HY2 : Hid (Bytes (wr.setCell ⟨W.heap.size, k, none⟩ (.int .i64 (x.toNat : Int))) w1.heap.size 51 (.slice (some ⟨w1.heap.size, 0, none⟩) 16 16) T) := Lib.hid (by
                rcases HY.out with ⟨h, _⟩ | ⟨g9, cap9, cur9, fz9, hv, hb9, hg9, hr9⟩
                · cases h
                · refine .inr ⟨g9, cap9, cur9, fz9, hv, hb9, ?_, hr9⟩
                  have hv := (Value.slice.inj hv).1
                  cases hv
                  rw [Below.heap_setCell _ _ _ _ (by show w1.heap.size ≠ W.heap.size; omega)]; exact hg9)
              have hx256 : x.toNat < 256 := x.toNat_lt
              clear hx hpl HN HO HY HG
              go_wp2
              go_roundw
              case rel => exact ⟨k + 1, by omega, by go_num, HO2, HY2, HG2⟩
              case measure => (simp [intOf]; try omega)
            · obtain rfl : q = k := by omega
              have HPI : Hid (partI T q q = bytesI ⟨T.toArray⟩ q) := Lib.hid (by unfold partI; rw [Nat.sub_self]; simp)
              rw [HPI.out] at HO
              have X3 : Hid (SrcI wr (some ⟨W.heap.size, 0, none⟩) q (bytesI ⟨T.toArray⟩ q)) := Lib.hid (srcI_of_own HO.out)
              have HBL : Hid ((bytesI ⟨T.toArray⟩ q).length = q) := Lib.hid (bytesI_len (by show q ≤ T.toArray.size; rw [List.size_toArray]; omega))
              obtain ⟨L, hL⟩ : ∃ L, bytesI ⟨T.toArray⟩ q = L := ⟨_, rfl⟩
              rw [hL] at X3 HEQ HNE HBL HO
              clear hL HPI HY
              go_wp2_with fail
              refine (implStWords_any _ q q L _ X3.out (by omega)).mono ?_
              rintro e w4 ⟨v4, rfl, ho4, hb4⟩
              have HG4 := Lib.hid (HG.out.trans (hb4.mono HG.out.size))
              have HO4 := Lib.hid (own_kept (w' := w4) HO.out (fun g hg => hb4.block g (own_block_lt HO.out g hg)))
              obtain ⟨a4, c4, rfl, _, _, _⟩ := ownE_form ho4
              have Y4 := Lib.hid (srcT_of_own ho4)
              have Z4 := Lib.hid (SrcE.later HS.out HG4.out)
              have hl4 : (stWords L).length ≤ 2 := by unfold stWords; split <;> simp
              clear ho4 hb4
              obtain ⟨m4, hm4⟩ : ∃ m, (stWords L).length = m := ⟨_, rfl⟩
              rw [hm4] at Y4 hl4 ⊢
              clear hm4
              by_cases hok : stWords L = P
              · obtain ⟨hr1, hr2⟩ := HEQ.out hok
                have HF : Hid (rdR P (q : Int) = L ∧ rdB P (q : Int) = true) := Lib.hid ⟨by rw [rdR_yes hr1, hr2], rdB_yes hr1⟩
                clear hr1 hr2
                go_wp2_with fail
                refine (implEqual_any a4 (some ⟨g, off, none⟩) m4 2 c4 c _ P _ (by omega) Y4.out Z4.out true ⟨fun _ => hok, fun _ => rfl⟩).mono ?_
                rintro e w5 ⟨rfl, q5, rfl⟩
                have HG5 := Lib.hid (below_drewsN HG4.out q5)
                clear hok
                go_wp2
                rw [HF.out.1, HF.out.2]
                refine bodyPost_ret (v := .tuple #[.slice (some ⟨W.heap.size, 0, none⟩) q q, .bool true]) ?_ rfl ⟨_, rfl, ownC_of_own (by rw [HBL.out]; exact HO4.out), HG5.out⟩
                simp [results, Try.results17, go_sem]
              · have HRN := Lib.hid (HNE.out hok)
                have HF : Hid (rdR P (q : Int) = [] ∧ rdB P (q : Int) = false) := Lib.hid ⟨rdR_no HRN.out, rdB_no HRN.out⟩
                go_wp2_with fail
                refine (implEqual_any a4 (some ⟨g, off, none⟩) m4 2 c4 c _ P _ (by omega) Y4.out Z4.out false ⟨fun h => (by cases h), fun h => absurd h hok⟩).mono ?_
                rintro e w5 ⟨rfl, q5, rfl⟩
                have HG5 := Lib.hid (below_drewsN HG4.out q5)
                clear hok
                go_wp2
                rw [HF.out.1, HF.out.2]
                refine bodyPost_ret (v := .tuple #[.slice none 0 0, .bool false]) ?_ rfl ⟨_, rfl, ownC_nil none (Nat.zero_le _), HG5.out⟩
                simp [results, Try.results17, go_sem]
    · have HF : Hid (rdR P p = [] ∧ rdB P p = false) := Lib.hid ⟨rdR_no (fun h => hp h.2.2.2.1), rdB_no (fun h => hp h.2.2.2.1)⟩
      go_enter Try.func17, Try.ntmps17
      go_wp2_with fail
      refine (implIn_no _ hp).mono ?_
      rintro e w1 ⟨rfl, rfl⟩
      clear hp
      go_wp2
      rw [HF.out.1, HF.out.2]
      refine bodyPost_ret (v := .tuple #[.slice none 0 0, .bool false]) ?_ rfl ⟨_, rfl, ownC_nil none (Nat.zero_le _), Below.refl _ _⟩
      simp [results, Try.results17, go_sem]
  · have hnr : ¬ RdOk P p := fun x => h2 (by rw [← hs.len]; exact x.1)
    have HF : Hid (rdR P p = [] ∧ rdB P p = false) := Lib.hid ⟨rdR_no hnr, rdB_no hnr⟩
    have e8 : ((n : Int) == 2) = false := by simp; omega
    have e9 : ((n : Int) != 2) = true := by simp only [bne, e8]; rfl
    clear hs h2 hm hnr
    go_enter Try.func17, Try.ntmps17
    go_wp2
    rw [HF.out.1, HF.out.2]
    refine bodyPost_ret (v := .tuple #[.slice none 0 0, .bool false]) ?_ rfl ⟨_, rfl, ownC_nil none (Nat.zero_le _), Below.refl _ _⟩
    simp [results, Try.results17, go_sem]
end Go.Proofs.Ytppdjhchangikaa
