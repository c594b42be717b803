/- The model's page states: ReadStates. -/
import Derived.Test.YtppdjhchangikaaStSpecB
import Derived.Test.YtppdjhchangikaaStSpecC
import Derived.Test.YtppdjhchangikaaWordsEq
import Derived.Test.YtppdjhchangikaaDrews
namespace Go.Proofs.Ytppdjhchangikaa
open Go.RowKit Go.Proofs.Ytppdjhchangikaa.Parts Go.Proofs.Ytppdjhchangikaa.Hexa Go.Proofs.Ytppdjhchangikaa.Byt

/-- The first k bytes as ints. -/
def bytesI (s : ByteArray) (k : Nat) : List Int := (s.data.toList.take k).map fun b => (b.toNat : Int)
theorem bytesI_zero (s : ByteArray) : bytesI s 0 = [] := rfl
theorem bytesI_succ {s : ByteArray} {k : Nat} (h : k < s.size) : bytesI s (k + 1) = bytesI s k ++ [((s[k]'h).toNat : Int)] := by
  have h' : k < s.data.toList.length := by simpa using h
  unfold bytesI
  rw [List.take_succ_eq_append_getElem h', List.map_append]
  rfl
theorem bytesI_len {s : ByteArray} {k : Nat} (h : k ≤ s.size) : (bytesI s k).length = k := by
  unfold bytesI; rw [List.length_map, List.length_take]; simp; omega
def listSt (P : List ByteArray) (p : Int) : List Int := bytesI (P.getD 0 default ++ P.getD 1 default) p.toNat
def RdOk (P : List ByteArray) (p : Int) : Prop := P.length = 2 ∧ (P.getD 0 default).size = 8 ∧ (P.getD 1 default).size = 8 ∧ (1 ≤ p ∧ p ≤ 12) ∧ stWords (listSt P p) = P
noncomputable def rdB (P : List ByteArray) (p : Int) : Bool := @decide (RdOk P p) (Classical.propDecidable _)
noncomputable def rdR (P : List ByteArray) (p : Int) : List Int := if rdB P p = true then listSt P p else []
theorem rdB_yes {P : List ByteArray} {p : Int} (h : RdOk P p) : rdB P p = true := by unfold rdB; exact @decide_eq_true _ (Classical.propDecidable _) h
theorem rdB_no {P : List ByteArray} {p : Int} (h : ¬ RdOk P p) : rdB P p = false := by unfold rdB; exact @decide_eq_false _ (Classical.propDecidable _) h
theorem rdR_yes {P : List ByteArray} {p : Int} (h : RdOk P p) : rdR P p = listSt P p := if_pos (rdB_yes h)
theorem rdR_no {P : List ByteArray} {p : Int} (h : ¬ RdOk P p) : rdR P p = [] := if_neg (by rw [rdB_no h]; decide)

section
variable (a : Option Addr) (n c : Nat) (P : List ByteArray) (p : Int) (w : World)
theorem rd_nothing {w w' : World} (hb : Below w.heap.size w w') (h : ¬ RdOk P p) : GivesIB (rdR P p) (rdB P p) w (.returned (.tuple #[.slice (some ⟨w'.heap.size, 0, none⟩) 0 0, .bool false])) (w'.alloc (.cells #[] 3)) := by
  rw [rdR_no h, rdB_no h]
  exact ⟨_, rfl, emptyI w' w.heap.size hb.size, hb.alloc hb.size _⟩

set_option maxRecDepth 100000 in
set_option maxHeartbeats 1000000 in
theorem specReadSt_len (hs : SrcT w a n P) (h : ¬ n = 2) : Calls Try.prog 30 #[.slice a n c, .int .i64 p] w (GivesIB (rdR P p) (rdB P p) w) := by
  have HN : Hid (¬ RdOk P p) := Lib.hid (fun x => h (by rw [← hs.len]; exact x.1))
  have e8 : ((n : Int) == 2) = false := by simp; omega
  have e9 : ((n : Int) != 2) = true := by simp only [bne, e8]; rfl
  have HR := Lib.hid (rd_nothing P p (Below.refl w.heap.size w) HN.out)
  clear hs h
  go_enter Try.func30, Try.ntmps30
  go_wp2
  refine bodyPost_ret (v := .tuple #[.slice (some ⟨w.heap.size, 0, none⟩) 0 0, .bool false]) ?_ rfl HR.out
  simp [results, Try.results30, go_sem]

set_option maxRecDepth 100000 in
set_option maxHeartbeats 2000000 in
theorem specReadSt_any (hs : SrcT w a n P) (hm : ∀ j, j < n → (P.getD j default).size ≤ 2000000) : Calls Try.prog 30 #[.slice a n c, .int .i64 p] w (GivesIB (rdR P p) (rdB P p) w) := by
  by_cases h2 : n = 2
  · subst h2
    obtain ⟨i0, hi, hz0, hz1, hz2⟩ := info_parts infoInt
    have HS := Lib.hid hs
    obtain ⟨g, off, rfl, hg, d0⟩ := srcT_at hs 0 (by omega)
    obtain ⟨g', off', e', _, d1⟩ := srcT_at hs 1 (by omega)
    cases e'
    obtain ⟨A, hA⟩ : ∃ A, P.getD 0 default = A := ⟨_, rfl⟩
    obtain ⟨B, hB⟩ : ∃ B, P.getD 1 default = B := ⟨_, rfl⟩
    have m0 := hm 0 (by omega)
    have m1 := hm 1 (by omega)
    rw [hA, Nat.add_zero] at d0
    rw [hA] at m0
    rw [hB] at d1 m1
    have HA := Lib.hid hA
    have HB := Lib.hid hB
    clear hs hm hA hB
    by_cases hA8 : A.size = 8
    · by_cases hB8 : B.size = 8
      · have a8 : ((A.size : Int) != 8) = false := by rw [hA8]; rfl
        have b8 : ((B.size : Int) != 8) = false := by rw [hB8]; rfl
        by_cases hp : 1 ≤ p ∧ p ≤ 12
        · obtain ⟨q, rfl⟩ : ∃ q : Nat, p = q := ⟨p.toNat, by omega⟩
          have hS16 : (A ++ B).size = 16 := by rw [ByteArray.size_append]; omega
          have HLS : Hid (listSt P (q : Int) = bytesI (A ++ B) q) := Lib.hid (by unfold listSt; rw [HA.out, HB.out]; rfl)
          have HOK : Hid (stWords (listSt P (q : Int)) = P → RdOk P (q : Int)) := Lib.hid (fun h => ⟨HS.out.len, by rw [HA.out]; exact hA8, by rw [HB.out]; exact hB8, hp, h⟩)
          go_enter Try.func30, Try.ntmps30
          go_wp2_with fail
          refine (range_yes _ hp).mono ?_
          rintro e w1 ⟨rfl, rfl⟩
          have hq12 : q ≤ 12 := by omega
          have hq1 : 1 ≤ q := by omega
          clear hp
          go_wp2
          go_quiet (fail)
          obtain ⟨S, hS⟩ : ∃ S, A ++ B = S := ⟨_, rfl⟩
          rw [hS] at hS16 HLS ⊢
          clear hS
          have HG0 : Hid (Below w1.heap.size w1 ((w1.drewN nq).alloc (.cells #[] 3))) := Lib.hid ((below_drewsN (Below.refl _ _) nq).alloc (Nat.le_refl _) _)
          have HO0 : Hid (((w1.drewN nq).alloc (.cells #[] 3)).ownsRow w1.heap.size 3 1 (.slice (some ⟨w1.heap.size, 0, none⟩) 0 0) 0 (icells (bytesI S 0))) := Lib.hid (emptyI (w1.drewN nq) w1.heap.size (Nat.le_refl _))
          go_wp2
          go_loopw [7, 8] (fun v iv wr => ∃ k : Nat, k ≤ q ∧ iv = .int .i64 k ∧ Hid (wr.ownsRow w1.heap.size 3 1 v k (icells (bytesI S k))) ∧ Hid (Below w1.heap.size w1 wr)) (fun _ iv _ => q - (intOf iv).toNat)
          case atStart => exact ⟨0, Nat.zero_le _, rfl, HO0, HG0⟩
          case round =>
            obtain ⟨k, hk, rfl, HO, HG⟩ := hrel
            clear HO0 HG0
            by_cases hlt : k < q
            · have hks : k < S.size := by omega
              have HE := Lib.hid (bytesI_succ hks)
              have hsz := HG.out.size
              have hwr : wrap64 ((S[k]'hks).toNat : Int) = ((S[k]'hks).toNat : Int) := IntWalk.wrap64_in _ (by have h9 : (S[k]'hks).toNat < 256 := (S[k]'hks).toNat_lt; omega)
              go_wp2_with (at_builtin; refine wpList_append_own _ rfl (.tmp 45) (.tmp 50) 24 rfl w1.heap.size 3 i0 (.int .i64 0) 1 8 Try.underlying24 hi hz0 hz1 hz2 rfl (by decide) _ _ _ rfl (HO.out.alloc _) ⟨wr.heap.size, 0, none⟩ 1 1 [.int .i64 ((S[k]'hks).toNat : Int)] rfl rfl (World.news_of_block (heap_alloc_new _ _)) (by simp [Value.oneCell']) (by unfold maxLen; omega) (by omega) (by simp; omega) ?_; intro v2 w2 hown2 hgrow2 hn2)
              have HB2 : Hid (Below w1.heap.size w1 w2) := Lib.hid ((HG.out.alloc hsz _).grown hgrow2 (by simp; omega) (fun k e => (HO.out.lt k e).1))
              have HO2 : Hid (w2.ownsRow w1.heap.size 3 1 v2 (k + 1) (icells (bytesI S (k + 1)))) := Lib.hid (by rw [HE.out]; simpa [icells] using hown2)
              clear hown2 hgrow2 hn2 HO HG
              go_wp2
              go_roundw
              case rel => exact ⟨k + 1, by omega, by go_num, HO2, HB2⟩
              case measure => (simp [intOf]; try omega)
            · obtain rfl : q = k := by omega
              obtain ⟨a3, c3, rfl, hc3, _, _⟩ := ownE_form HO.out
              have X3 : Hid (SrcI wr a3 q (bytesI S q)) := Lib.hid (srcI_of_own HO.out)
              go_wp2_with fail
              refine (specStWords_any a3 q c3 (bytesI S q) _ X3.out (by omega)).mono ?_
              rintro e w4 ⟨v4, rfl, ho4, hb4⟩
              have HG4 := Lib.hid (HG.out.trans (hb4.mono HG.out.size))
              have HO4 := Lib.hid (own_kept (w' := w4) HO.out (fun g hg => hb4.block g (own_block_lt HO.out g hg)))
              obtain ⟨a4, c4, rfl, _, _, _⟩ := ownE_form ho4
              have Y4 := Lib.hid (srcT_of_own ho4)
              have Z4 := Lib.hid (SrcE.later HS.out (HG4.out))
              have hl4 : (stWords (bytesI S q)).length ≤ 2 := by unfold stWords; split <;> simp
              clear ho4 hb4
              obtain ⟨m4, hm4⟩ : ∃ m, (stWords (bytesI S q)).length = m := ⟨_, rfl⟩
              rw [hm4] at Y4 hl4 ⊢
              clear hm4
              by_cases hok : stWords (bytesI S q) = P
              · have HRY : Hid (RdOk P (q : Int)) := Lib.hid (HOK.out (by rw [HLS.out]; exact hok))
                have HF : Hid (rdR P (q : Int) = bytesI S q ∧ rdB P (q : Int) = true) := Lib.hid ⟨by rw [rdR_yes HRY.out, HLS.out], rdB_yes HRY.out⟩
                have HBL : Hid ((bytesI S q).length = q) := Lib.hid (bytesI_len (by omega))
                go_wp2_with fail
                refine (wordsEq_any a4 (some ⟨g, off, none⟩) m4 2 c4 c _ P _ (by omega) Y4.out Z4.out true ⟨fun _ => hok, fun _ => rfl⟩).mono ?_
                rintro e w5 ⟨rfl, q5, rfl⟩
                have HG5 := Lib.hid (below_drewsN HG4.out q5)
                clear hok
                go_wp2
                rw [HF.out.1, HF.out.2]
                refine bodyPost_ret (v := .tuple #[.slice a3 q c3, .bool true]) ?_ rfl ⟨_, rfl, by rw [HBL.out]; exact HO4.out, HG5.out⟩
                simp [results, Try.results30, go_sem]
              · have HRN : Hid (¬ RdOk P (q : Int)) := Lib.hid (fun h => hok (by rw [← HLS.out]; exact h.2.2.2.2))
                go_wp2_with fail
                refine (wordsEq_any a4 (some ⟨g, off, none⟩) m4 2 c4 c _ P _ (by omega) Y4.out Z4.out false ⟨fun h => (by cases h), fun h => absurd h hok⟩).mono ?_
                rintro e w5 ⟨rfl, q5, rfl⟩
                have HR := Lib.hid (rd_nothing P (q : Int) (below_drewsN HG4.out q5) HRN.out)
                clear hok
                go_wp2
                refine bodyPost_ret (v := .tuple #[.slice (some ⟨w4.heap.size, 0, none⟩) 0 0, .bool false]) ?_ rfl HR.out
                simp [results, Try.results30, go_sem]
        · have HRN : Hid (¬ RdOk P p) := Lib.hid (fun h => hp h.2.2.2.1)
          have HR := Lib.hid (rd_nothing P p (Below.refl w.heap.size w) HRN.out)
          go_enter Try.func30, Try.ntmps30
          go_wp2_with fail
          refine (range_no _ hp).mono ?_
          rintro e w1 ⟨rfl, rfl⟩
          clear hp
          go_wp2
          refine bodyPost_ret (v := .tuple #[.slice (some ⟨w1.heap.size, 0, none⟩) 0 0, .bool false]) ?_ rfl HR.out
          simp [results, Try.results30, go_sem]
      · have a8 : ((A.size : Int) != 8) = false := by rw [hA8]; rfl
        have b8 : ((B.size : Int) != 8) = true := by have : ¬ ((B.size : Int) = 8) := by omega
                                                     simpa using this
        have HRN : Hid (¬ RdOk P p) := Lib.hid (fun h => hB8 (by rw [← HB.out]; exact h.2.2.1))
        have HR := Lib.hid (rd_nothing P p (Below.refl w.heap.size w) HRN.out)
        go_enter Try.func30, Try.ntmps30
        go_wp2
        refine bodyPost_ret (v := .tuple #[.slice (some ⟨w.heap.size, 0, none⟩) 0 0, .bool false]) ?_ rfl HR.out
        simp [results, Try.results30, go_sem]
    · have a8 : ((A.size : Int) != 8) = true := by have : ¬ ((A.size : Int) = 8) := by omega
                                                   simpa using this
      have HRN : Hid (¬ RdOk P p) := Lib.hid (fun h => hA8 (by rw [← HA.out]; exact h.2.1))
      have HR := Lib.hid (rd_nothing P p (Below.refl w.heap.size w) HRN.out)
      go_enter Try.func30, Try.ntmps30
      go_wp2
      refine bodyPost_ret (v := .tuple #[.slice (some ⟨w.heap.size, 0, none⟩) 0 0, .bool false]) ?_ rfl HR.out
      simp [results, Try.results30, go_sem]
  · exact specReadSt_len a n c P p w hs h2
end
end Go.Proofs.Ytppdjhchangikaa
