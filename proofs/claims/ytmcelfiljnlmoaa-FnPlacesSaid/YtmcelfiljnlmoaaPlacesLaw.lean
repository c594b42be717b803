/- FnPlaces: the law's walk. -/
import Derived.Test.YtmcelfiljnlmoaaDrawGeo
import Derived.Test.YtmcelfiljnlmoaaPlcSt
import Derived.Test.YtmcelfiljnlmoaaPlcVal
import Derived.Test.YtmcelfiljnlmoaaPlI
import Derived.Test.YtmcelfiljnlmoaaGeoS
import Derived.Test.YtmcelfiljnlmoaaPartI
import Derived.Deep.RegionHeld3
import Derived.Deep.DeepCutAuto
import Derived.IntWalk
namespace Go.Proofs.Ytmcelfiljnlmoaa
open Go.RowKit Go.Proofs.Ytmcelfiljnlmoaa.Parts Go.Proofs.Ytmcelfiljnlmoaa.Hexa Go.Proofs.Ytmcelfiljnlmoaa.Draw Go.Proofs.Ytmcelfiljnlmoaa.Plc

set_option maxRecDepth 100000 in
set_option maxHeartbeats 4000000 in
theorem fnPlaces_law (ad : Option Addr) (len cap : Nat) (w : World) (hs : Draw.Src w w.heap.size ad len) :
    Calls Try.prog 14 #[.slice ad len cap] w fun e w' => e = .returned (.bool true) ∧ Below w.heap.size w w' := by
  by_cases hbig : len ≤ 1048576
  · have HS := Lib.hid hs
    clear hs
    obtain ⟨i0, hi, hz0, hz1, hz2⟩ := info_parts infoBool
    have hbd : decide ((1048576 : Int) < (len : Int)) = false := decide_eq_false (by omega)
    go_enter Try.func14, Try.ntmps14
    go_wp2_with (go_at_call 43; go_in)
    refine (drawGeoOk_any ad len cap w hbig HS.out).mono ?_
    rintro e w1 ⟨T, P, I, Q, rfl, hb1⟩
    have F1x := Four.alloc w1 T P I Q 29
    have B1x : Below w.heap.size w (w1.alloc (.cells #[.int .i64 T, .int .i64 P, .int .i64 I, .int .i64 Q] 29)) := hb1.trans ((below_al w1 _).mono hb1.size)
    have LB : Hid (w.heap.size ≤ w1.heap.size) := Lib.hid hb1.size
    clear hb1
    have c0 := F1x.c0
    have c1 := F1x.c1
    have c2 := F1x.c2
    have c3 := F1x.c3
    go_wp2_with fail
    clear c0 c1 c2 c3
    obtain ⟨b, hb⟩ : ∃ b, w1.heap.size = b := ⟨_, rfl⟩
    obtain ⟨W1, hW1⟩ : ∃ x, w1.alloc (.cells #[.int .i64 T, .int .i64 P, .int .i64 I, .int .i64 Q] 29) = x := ⟨_, rfl⟩
    rw [hW1] at F1x B1x ⊢
    rw [hb] at F1x LB ⊢
    clear hb hW1
    have F1 := Lib.hid F1x
    have B1 := Lib.hid B1x
    clear F1x B1x
    by_cases hg : GeoR T P I Q
    · obtain ⟨tn, rfl⟩ : ∃ k : Nat, T = k := ⟨T.toNat, by have := hg.1; omega⟩
      obtain ⟨pN, rfl⟩ : ∃ k : Nat, P = k := ⟨P.toNat, by have := hg.2.2.1; omega⟩
      obtain ⟨iN, rfl⟩ : ∃ k : Nat, I = k := ⟨I.toNat, by have := hg.2.2.2.2.1; omega⟩
      have HG := Lib.hid hg
      obtain ⟨g1, g2, g3, g4, g5, g6, g7, g8⟩ := hg
      have hw := words_bd HG.out
      obtain ⟨W, hW⟩ : ∃ W, wordsOf pN iN = W := ⟨_, rfl⟩
      have HW := Lib.hid hW
      have HWE : Hid (W = 38 + 8 * (iN : Int) + 4 * (pN : Int)) := Lib.hid (by rw [← hW]; rfl)
      rw [hW] at hw
      clear hW
      have hm := mul_bd (T := tn) (W := W) (by omega) (by omega) (by omega) (by omega)
      obtain ⟨n, hn⟩ : ∃ n : Nat, (tn : Int) * W = n := ⟨((tn : Int) * W).toNat, by omega⟩
      have HN := Lib.hid hn
      rw [hn] at hm
      have e1 : IntKind.i64.wrap ((tn : Int) * W) = (n : Int) := by rw [hn]; exact IntWalk.i64_in _ (by omega)
      obtain ⟨hw1, hw2⟩ := hw
      obtain ⟨hm1, hm2⟩ := hm
      clear hn
      have G3 : Hid (5 ≤ (pN : Int) ∧ (pN : Int) ≤ 12 ∧ 2 ≤ (iN : Int) ∧ (iN : Int) ≤ 6 ∧ 1 ≤ (tn : Int) ∧ (tn : Int) ≤ 3) := Lib.hid ⟨g3, g4, g5, g6, g1, g2⟩
      refine (specGeo_yes tn pN iN Q _ HG.out).mono ?_
      rintro e w2 ⟨rfl, hb⟩
      have F2 := Lib.hid (F1.out.later hb)
      have B2 : Hid (Below w.heap.size w w2) := Lib.hid (B1.out.trans (hb.mono B1.out.size))
      clear hb
      have c0 := F2.out.c0
      have c1 := F2.out.c1
      have c2 := F2.out.c2
      have c3 := F2.out.c3
      go_wp2_with fail
      clear c0 c1 c2 c3
      have F2d := Lib.hid F2.out.drew
      have B2d : Hid (Below w.heap.size w w2.drew) := Lib.hid B2.out.drew
      go_region_held3 (fun w' => w'.cell? ⟨b, 0, none⟩ = some (.int .i64 (tn : Int)) ∧ w'.cell? ⟨b, 1, none⟩ = some (.int .i64 (pN : Int)) ∧ w'.cell? ⟨b, 2, none⟩ = some (.int .i64 (iN : Int)) ∧ w'.cell? ⟨b, 3, none⟩ = some (.int .i64 Q))
        (first
          | exact ⟨F2d.out.c0, F2d.out.c1, F2d.out.c2, F2d.out.c3⟩
          | exact ⟨F3.out.c0, F3.out.c1, F3.out.c2, F3.out.c3⟩
          | go_keep)
        (first
          | (go_at_call 47; (with_reducible refine (implPW_yes tn pN iN Q HG.out _).mono ?_); rw [HW.out]; rintro e w3 ⟨rfl, hb⟩; have F3 := Lib.hid (F2d.out.later hb); have B3 : Hid (Below w.heap.size w w3) := Lib.hid (B2d.out.trans (hb.mono B2d.out.size)); clear hb))
      have hb3 := B3.out.size
      obtain ⟨n1, hn1⟩ : ∃ k : Nat, (n : Int) + 1 = k := ⟨n + 1, rfl⟩
      have HN1 : Hid (n1 = n + 1) := Lib.hid (by omega)
      have hn2 : n1 ≤ 403 := by omega
      go_wp2_with (at_make; refine wpList_make_full _ rfl _ _ 53 rfl w.heap.size 4 i0 (.bool false) 1 Try.underlying53 hi hz0 hz1 .i64 .i64 _ _ n1 rfl rfl rfl rfl (by rw [hz2]; omega) (by unfold maxLen; omega) hb3 ?_; intro w4 hown4 hgrow4)
      rw [made_false] at hown4
      have PS4 : Hid (PSt w w4 b w3.heap.size n1 tn pN iN Q ((0 : Nat) * W) (List.replicate n1 false)) := Lib.hid ⟨(hgrow4.block b F3.out.lt (fun e => by cases e)).trans F3.out, LB.out, hown4, Nat.ne_of_gt F3.out.lt, fun x hx => by simp [List.getElem?_replicate] at hx, B3.out.grown hgrow4 B3.out.size (fun k e => by cases e)⟩
      obtain ⟨gm, hgm⟩ : ∃ g, w3.heap.size = g := ⟨_, rfl⟩
      rw [hgm] at PS4 ⊢
      clear hgm hown4 hgrow4 hn1 e1 hb3 B1 F1 F2 B2 F2d B2d F3 B3 hi hz0 hz1 hz2 LB HS
      go_wp2
      go_loopw [6] (fun tv wr => ∃ (t : Nat) (M : List Bool), t ≤ tn ∧ tv = .int .i64 t ∧ Hid (PSt w wr b gm n1 tn pN iN Q ((t : Int) * W) M)) (fun tv _ => tn - (intOf tv).toNat)
      case atStart => exact ⟨0, _, Nat.zero_le _, rfl, PS4⟩
      case round =>
        clear PS4
        obtain ⟨t, M, htl, rfl, PR⟩ := hrel
        have c0 := PR.out.box.c0
        have c1 := PR.out.box.c1
        have c2 := PR.out.box.c2
        have c3 := PR.out.box.c3
        by_cases hlt : t < tn
        · have ht0 : 0 ≤ (t : Int) ∧ (t : Int) ≤ (tn : Int) - 1 := ⟨by omega, by omega⟩
          have HT0 := Lib.hid ht0
          have hd1 : decide ((t : Int) < (tn : Int)) = true := decide_eq_true (by omega)
          have hd2 : decide (t < tn) = true := decide_eq_true hlt
          have hcW := mul_le (t := (t : Int)) (T := tn) (W := W) (by omega) (by omega)
          have hc0 := mul_nonneg' (t := (t : Int)) (W := W) ht0.1 (by omega)
          obtain ⟨c, hc⟩ : ∃ c, (t : Int) * W = c := ⟨_, rfl⟩
          rw [hc] at hcW hc0 PR
          rw [HN.out] at hcW
          have HC := Lib.hid hc
          have HCW := Lib.hid hcW
          have hcb : c ≤ 402 := by omega
          clear hc hcW ht0
          have HCM : Hid (placeV tn pN iN Q t 0 = c) := Lib.hid (by rw [commit_at HG.out HT0.out, HW.out, HC.out])
          have HSE : Hid (placeV tn pN iN Q t 2 = c + 2) := Lib.hid (by rw [serial_at HG.out HT0.out, HW.out, HC.out])
          have PRd := Lib.hid (PR.out.later (Below.refl wr.heap.size wr).drew)
          go_wp2_with fail
          clear c0 c1 c2 c3
          go_region_held3 (fun w' => w'.cell? ⟨b, 0, none⟩ = some (.int .i64 (tn : Int)) ∧ w'.cell? ⟨b, 1, none⟩ = some (.int .i64 (pN : Int)) ∧ w'.cell? ⟨b, 2, none⟩ = some (.int .i64 (iN : Int)) ∧ w'.cell? ⟨b, 3, none⟩ = some (.int .i64 Q))
            (first
              | exact ⟨PRd.out.box.c0, PRd.out.box.c1, PRd.out.box.c2, PRd.out.box.c3⟩
              | exact ⟨P5.out.box.c0, P5.out.box.c1, P5.out.box.c2, P5.out.box.c3⟩
              | exact ⟨P6.out.box.c0, P6.out.box.c1, P6.out.box.c2, P6.out.box.c3⟩
              | exact ⟨P7.out.box.c0, P7.out.box.c1, P7.out.box.c2, P7.out.box.c3⟩
              | go_keep)
            (first
              | (go_at_call 34; (with_reducible refine (implCommit_any tn pN iN Q t _).mono ?_); rw [HCM.out]; rintro e w5 ⟨rfl, hb⟩; have P5 := Lib.hid (PRd.out.later hb); clear hb)
              | (go_at_call 36; (with_reducible refine (implSerial_any tn pN iN Q t _).mono ?_); rw [HSE.out]; rintro e w6 ⟨rfl, hb⟩; have P6 := Lib.hid (P5.out.later hb); have P7 := Lib.hid (P6.out.later (below_al w6 (.cells #[.int .i64 c, .int .i64 (c + 2)] 3))); clear hb))
          have O7x : (w6.alloc (.cells #[.int .i64 c, .int .i64 (c + 2)] 3)).ownsRow w.heap.size 3 1 (.slice (some ⟨w6.heap.size, 0, none⟩) 2 2) 2 (icells (atL c 2)) := by rw [atL_two]; exact World.ownsRow_lit (base := w.heap.size) (e := 3) (size := 1) w6 #[.int .i64 c, .int .i64 (c + 2)] 2 P6.out.below.size (by decide) rfl
          have q7 : w6.heap.size ≠ b ∧ w6.heap.size ≠ gm ∧ w6.heap.size < (w6.alloc (.cells #[.int .i64 c, .int .i64 (c + 2)] 3)).heap.size := ⟨Nat.ne_of_gt P6.out.box.lt, Nat.ne_of_gt (P6.out.met.lt gm rfl).2, by simp⟩
          obtain ⟨g7, hg7⟩ : ∃ g, w6.heap.size = g := ⟨_, rfl⟩
          obtain ⟨W7, hW7⟩ : ∃ x, w6.alloc (.cells #[.int .i64 c, .int .i64 (c + 2)] 3) = x := ⟨_, rfl⟩
          rw [hW7, hg7] at O7x q7
          rw [hW7] at P7 ⊢
          rw [hg7]
          have O7 := Lib.hid O7x
          have Q7 := Lib.hid q7
          clear O7x q7 hg7 hW7 PRd P5 P6
          have ST0 : Hid (LSt w (W7.alloc (.cells #[.int .i64 1, .int .i64 2] 3)) b gm n1 tn pN iN Q c M c (.slice (some ⟨g7, 0, none⟩) 2 2) (.slice (some ⟨W7.heap.size, 0, none⟩) 2 2) 2 2) := Lib.hid (by
            have hb := below_al W7 (.cells #[.int .i64 1, .int .i64 2] 3)
            refine LSt.start (P7.out.later hb) (own_below O7.out hb) (by rw [kdL_two]; exact World.ownsRow_lit (base := w.heap.size) (e := 3) (size := 1) W7 #[.int .i64 1, .int .i64 2] 2 P7.out.below.size (by decide) rfl) ⟨Q7.out.1, Q7.out.2.1, Nat.ne_of_gt Q7.out.2.2⟩ ⟨Nat.ne_of_gt P7.out.box.lt, Nat.ne_of_gt (P7.out.met.lt gm rfl).2⟩)
          go_wp2
          obtain ⟨g8, hg8⟩ : ∃ g, W7.heap.size = g := ⟨_, rfl⟩
          obtain ⟨W8, hW8⟩ : ∃ x, W7.alloc (.cells #[.int .i64 1, .int .i64 2] 3) = x := ⟨_, rfl⟩
          rw [hW8, hg8] at ST0
          rw [hW8, hg8]
          clear hW8 hg8 O7 Q7 P7
          obtain ⟨p1, p2, p3, p4, _, _⟩ := G3.out
          go_loopw [7, 8, 9] (fun va vk iv wr => ∃ k : Nat, k ≤ 32 ∧ iv = .int .i64 k ∧ Hid (LSt w wr b gm n1 tn pN iN Q c M c va vk (2 + k) (2 + k))) (fun _ _ iv _ => 32 - (intOf iv).toNat)
          case atStart => exact ⟨0, by omega, rfl, ST0⟩
          case round =>
            obtain ⟨k, hk, rfl, SR⟩ := hrel
            clear ST0
            have c0 := SR.out.ps.box.c0
            have c1 := SR.out.ps.box.c1
            have c2 := SR.out.ps.box.c2
            have c3 := SR.out.ps.box.c3
            by_cases hlt : k < 32
            · have hki : (k : Int) < 32 := by omega
              have hdk : decide ((k : Int) < 32) = true := decide_eq_true hki
              have hj := journal_at HG.out HT0.out hlt
              rw [HW.out, HC.out] at hj
              obtain ⟨x, hx⟩ : ∃ x, jourV tn pN iN Q t ((k : Int) / 2) = x := ⟨_, rfl⟩
              rw [hx] at hj
              have HJ := Lib.hid hx
              obtain ⟨y, hy⟩ : ∃ y, c + (pl (2 + k) : Int) = y := ⟨_, rfl⟩
              have HY := Lib.hid hy
              have hpl : pl (2 + k) = 4 + k := pl_journal hlt
              have hxy : x + (k : Int) % 2 = y := by rw [← hy, hpl]; omega
              have hx0 : 0 ≤ x := by omega
              have hx1 : x ≤ 1000 := by omega
              have KD : Hid (kd iN (2 + k) = 3) := Lib.hid (kd_journal hlt)
              clear hj hx hy hpl hki
              have hk9 : k ≤ 100 := by omega
              go_wp2_with (first
                | (go_at_call 38; refine (implJournal_any tn pN iN Q t ((k : Int) / 2) _).mono ?_; rw [HJ.out]; rintro e w5 ⟨rfl, hb⟩; have S5 := Lib.hid (SR.out.later hb); clear hb)
                | (at_builtin; refine wpList_appG rfl _ _ _ _ rfl _ _ rfl rfl (S5.out.app _ y HY.out (by omega)) ?_; intro v6 w6 ho6 hg6 ha6; have S6 := Lib.hid (S5.out.apped ho6 hg6 ha6); clear ho6 hg6 ha6)
                | (at_builtin; refine wpList_appG rfl _ _ _ _ rfl _ _ rfl rfl (S6.out.kapp _ 3 KD.out (by omega)) ?_; intro v7 w7 ho7 hg7 ha7; have S7 := Lib.hid (S6.out.kapped ho7 hg7 ha7); clear ho7 hg7 ha7))
              go_roundw
              case rel => exact ⟨k + 1, by omega, by go_num, S7⟩
              case measure => (simp [intOf]; try omega)
            · have hdk : decide ((k : Int) < 32) = false := decide_eq_false (by omega)
              have ST1 : Hid (LSt w wr b gm n1 tn pN iN Q c M c u7 u8 (34 + 0) (34 + 0)) := (show 2 + k = 34 + 0 by omega) ▸ SR
              clear SR
              go_wp2
              go_loopw [7, 8, 10] (fun va vk iv wr => ∃ k : Nat, k ≤ 8 * iN ∧ iv = .int .i64 k ∧ Hid (LSt w wr b gm n1 tn pN iN Q c M c va vk (34 + k) (34 + k))) (fun _ _ iv _ => 8 * iN - (intOf iv).toNat)
              case atStart => exact ⟨0, by omega, rfl, ST1⟩
              case round =>
                obtain ⟨k, hk, rfl, SR⟩ := hrel
                clear ST1
                have c0 := SR.out.ps.box.c0
                have c1 := SR.out.ps.box.c1
                have c2 := SR.out.ps.box.c2
                have c3 := SR.out.ps.box.c3
                by_cases hlt : k < 8 * iN
                · have hki : (k : Int) < 8 * (iN : Int) := by omega
                  have hdk : decide ((k : Int) < 8 * (iN : Int)) = true := decide_eq_true hki
                  have hj := inode_at HG.out HT0.out (k := k) (by omega)
                  rw [HW.out, HC.out] at hj
                  obtain ⟨x, hx⟩ : ∃ x, inodV tn pN iN Q t ((k : Int) / 8) = x := ⟨_, rfl⟩
                  rw [hx] at hj
                  have HJ := Lib.hid hx
                  obtain ⟨y, hy⟩ : ∃ y, c + (pl (34 + k) : Int) = y := ⟨_, rfl⟩
                  have HY := Lib.hid hy
                  have hpl : pl (34 + k) = 38 + k := pl_later k
                  have hxy : x + (k : Int) % 8 = y := by rw [← hy, hpl]; omega
                  have hx0 : 0 ≤ x := by omega
                  have hx1 : x ≤ 1000 := by omega
                  have KD : Hid (kd iN (34 + k) = 5) := Lib.hid (kd_inode (by omega))
                  clear hj hx hy hpl hki
                  have hk9 : k ≤ 100 := by omega
                  go_wp2_with (first
                    | (go_at_call 40; refine (implInode_any tn pN iN Q t ((k : Int) / 8) _).mono ?_; rw [HJ.out]; rintro e w5 ⟨rfl, hb⟩; have S5 := Lib.hid (SR.out.later hb); clear hb)
                    | (at_builtin; refine wpList_appG rfl _ _ _ _ rfl _ _ rfl rfl (S5.out.app _ y HY.out (by omega)) ?_; intro v6 w6 ho6 hg6 ha6; have S6 := Lib.hid (S5.out.apped ho6 hg6 ha6); clear ho6 hg6 ha6)
                    | (at_builtin; refine wpList_appG rfl _ _ _ _ rfl _ _ rfl rfl (S6.out.kapp _ 5 KD.out (by omega)) ?_; intro v7 w7 ho7 hg7 ha7; have S7 := Lib.hid (S6.out.kapped ho7 hg7 ha7); clear ho7 hg7 ha7))
                  go_roundw
                  case rel => exact ⟨k + 1, by omega, by go_num, S7⟩
                  case measure => (simp [intOf]; try omega)
                · have hdk : decide ((k : Int) < 8 * (iN : Int)) = false := decide_eq_false (by omega)
                  have ST2 : Hid (LSt w wr b gm n1 tn pN iN Q c M c u7 u8 (34 + 8 * iN + 0) (34 + 8 * iN + 0)) := (show 34 + k = 34 + 8 * iN + 0 by omega) ▸ SR
                  clear SR
                  go_wp2
                  go_loopw [7, 8, 11] (fun va vk iv wr => ∃ k : Nat, k ≤ 4 * pN ∧ iv = .int .i64 k ∧ Hid (LSt w wr b gm n1 tn pN iN Q c M c va vk (34 + 8 * iN + k) (34 + 8 * iN + k))) (fun _ _ iv _ => 4 * pN - (intOf iv).toNat)
                  case atStart => exact ⟨0, by omega, rfl, ST2⟩
                  case round =>
                    obtain ⟨k, hk, rfl, SR⟩ := hrel
                    clear ST2
                    have c0 := SR.out.ps.box.c0
                    have c1 := SR.out.ps.box.c1
                    have c2 := SR.out.ps.box.c2
                    have c3 := SR.out.ps.box.c3
                    by_cases hlt : k < 4 * pN
                    · have hki : (k : Int) < 4 * (pN : Int) := by omega
                      have hdk : decide ((k : Int) < 4 * (pN : Int)) = true := decide_eq_true hki
                      have hj := page_at HG.out HT0.out (k := k) (by omega)
                      rw [HW.out, HC.out] at hj
                      obtain ⟨x, hx⟩ : ∃ x, pageV tn pN iN Q t ((k : Int) / 4) = x := ⟨_, rfl⟩
                      rw [hx] at hj
                      have HJ := Lib.hid hx
                      obtain ⟨y, hy⟩ : ∃ y, c + (pl (34 + 8 * iN + k) : Int) = y := ⟨_, rfl⟩
                      have HY := Lib.hid hy
                      have hpl : pl (34 + 8 * iN + k) = 38 + 8 * iN + k := by have h := pl_later (8 * iN + k); rw [show 34 + (8 * iN + k) = 34 + 8 * iN + k by omega] at h; rw [h]; omega
                      have hxy : x + (k : Int) % 4 = y := by rw [← hy, hpl]; omega
                      have hx0 : 0 ≤ x := by omega
                      have hx1 : x ≤ 1000 := by omega
                      have KD : Hid (kd iN (34 + 8 * iN + k) = 6) := Lib.hid (by have h := kd_page (I := (iN : Int)) (i := 8 * iN + k) (by omega); rwa [show 34 + (8 * iN + k) = 34 + 8 * iN + k by omega] at h)
                      clear hj hx hy hpl hki
                      have hk9 : k ≤ 100 := by omega
                      go_wp2_with (first
                        | (go_at_call 42; refine (implPage_any tn pN iN Q t ((k : Int) / 4) _).mono ?_; rw [HJ.out]; rintro e w5 ⟨rfl, hb⟩; have S5 := Lib.hid (SR.out.later hb); clear hb)
                        | (at_builtin; refine wpList_appG rfl _ _ _ _ rfl _ _ rfl rfl (S5.out.app _ y HY.out (by omega)) ?_; intro v6 w6 ho6 hg6 ha6; have S6 := Lib.hid (S5.out.apped ho6 hg6 ha6); clear ho6 hg6 ha6)
                        | (at_builtin; refine wpList_appG rfl _ _ _ _ rfl _ _ rfl rfl (S6.out.kapp _ 6 KD.out (by omega)) ?_; intro v7 w7 ho7 hg7 ha7; have S7 := Lib.hid (S6.out.kapped ho7 hg7 ha7); clear ho7 hg7 ha7))
                      go_roundw
                      case rel => exact ⟨k + 1, by omega, by go_num, S7⟩
                      case measure => (simp [intOf]; try omega)
                    · have hdk : decide ((k : Int) < 4 * (pN : Int)) = false := decide_eq_false (by omega)
                      obtain ⟨mm, hmm⟩ : ∃ mm, 34 + 8 * iN + 4 * pN = mm := ⟨_, rfl⟩
                      have HPM : Hid ((pl mm : Int) = W) := Lib.hid (by rw [← hmm, pl_last, HWE.out]; omega)
                      have hmm1 : mm ≤ 200 := by omega
                      have ST3x : Hid (LSt w wr b gm n1 tn pN iN Q c M c u7 u8 mm mm) := (show 34 + 8 * iN + k = mm by omega) ▸ SR
                      obtain ⟨a7, c7, rfl, _, _, _⟩ := own_form ST3x.out.at_
                      obtain ⟨a8, c8, rfl, _, _, _⟩ := own_form ST3x.out.kd
                      have e0 : c + ((pl 0 : Nat) : Int) = c := by simp [pl]
                      have ST3 : Hid (LSt w wr b gm n1 tn pN iN Q (c + ((pl 0 : Nat) : Int)) M c (.slice a7 mm c7) (.slice a8 mm c8) mm mm) := by rw [e0]; exact ST3x
                      clear SR ST3x e0 hmm
                      go_wp2
                      go_loopw [12] (fun iv wr => ∃ (i : Nat) (M2 : List Bool), i ≤ mm ∧ iv = .int .i64 i ∧ Hid (LSt w wr b gm n1 tn pN iN Q (c + ((pl i : Nat) : Int)) M2 c (.slice a7 mm c7) (.slice a8 mm c8) mm mm)) (fun iv _ => mm - (intOf iv).toNat)
                      case atStart => exact ⟨0, M, Nat.zero_le _, rfl, ST3⟩
                      case round =>
                        obtain ⟨i, M2, hil, rfl, SR⟩ := hrel
                        clear ST3 c0 c1 c2 c3
                        by_cases hlt2 : i < mm
                        · have hpi := pl_mono hlt2
                          have hpm := HPM.out
                          have hcw := HCW.out
                          obtain ⟨x, hx⟩ : ∃ x : Nat, c + ((pl i : Nat) : Int) = x := ⟨(c + ((pl i : Nat) : Int)).toNat, by omega⟩
                          have hxn : x + 1 ≤ n := by omega
                          have hpart := part_at HG.out HT0.out (j := i) (by rw [HW.out]; omega)
                          rw [HW.out, HC.out, hx] at hpart
                          obtain ⟨kv, hkv⟩ : ∃ kv, kd (iN : Int) i = kv := ⟨_, rfl⟩
                          rw [hkv] at hpart
                          have HPT := Lib.hid hpart
                          obtain ⟨_, _, hv7, _, _, hrd7⟩ := own_form SR.out.at_
                          have ha7 := (Value.slice.inj hv7).1
                          obtain ⟨g7, hg7, hc7⟩ := hrd7 i (by rw [icells_length, atL_length]; exact hlt2)
                          rw [← ha7] at hg7
                          subst hg7
                          obtain ⟨_, _, hv8, _, _, hrd8⟩ := own_form SR.out.kd
                          have ha8 := (Value.slice.inj hv8).1
                          obtain ⟨g8, hg8, hc8⟩ := hrd8 i (by rw [icells_length, kdL_length]; exact hlt2)
                          rw [← ha8] at hg8
                          subst hg8
                          have hcx : wr.cell? ⟨g7, i, none⟩ = some (.int .i64 (x : Int)) := by rw [hc7, atL_cell hlt2, hx]
                          have hck : wr.cell? ⟨g8, i, none⟩ = some (.int .i64 kv) := by rw [hc8, kdL_cell hlt2, hkv]
                          have hmx := SR.out.ps.unmet x (by have := HN1.out; omega) (by omega)
                          have hfx := SR.out.ps.free x
                          have hgb := SR.out.na g7 rfl
                          have hkb := SR.out.nk g8 rfl
                          have S2 := Lib.hid (SR.out.mark x (by omega) (u2 := c + ((pl (i + 1) : Nat) : Int)) (by have := pl_mono (show i < i + 1 by omega); omega))
                          have X2 : Hid ((wr.setCell ⟨gm, x, none⟩ (.bool true)).cell? ⟨g7, i, none⟩ = some (.int .i64 (x : Int))) := Lib.hid (by rw [World.cell?_of_block (w := wr) (Below.heap_setCell _ _ _ _ hgb.2.1)]; exact hcx)
                          have K2 : Hid ((wr.setCell ⟨gm, x, none⟩ (.bool true)).cell? ⟨g8, i, none⟩ = some (.int .i64 kv)) := Lib.hid (by rw [World.cell?_of_block (w := wr) (Below.heap_setCell _ _ _ _ hkb.2)]; exact hck)
                          have GL7 : Hid (g7 < wr.heap.size) := Lib.hid (own_block_lt SR.out.at_ g7 rfl)
                          have GL8 : Hid (g8 < wr.heap.size) := Lib.hid (own_block_lt SR.out.kd g8 rfl)
                          have hx8 : (x : Int) < (n : Int) := by omega
                          have hi200 : i ≤ 200 := by omega
                          have hx500 : x ≤ 500 := by omega
                          have hxn1 : x < n1 := by have := HN1.out; omega
                          have hxn1i : (x : Int) < (n1 : Int) := by omega
                          clear hpart hkv hv7 hrd7 ha7 hc7 hv8 hrd8 ha8 hc8 hgb hkb hpi hpm hcw hck hx
                          go_wp2_with fail
                          obtain ⟨W2, hW2⟩ : ∃ z, wr.setCell ⟨gm, x, none⟩ (.bool true) = z := ⟨_, rfl⟩
                          have GS : Hid (W2.heap.size = wr.heap.size) := Lib.hid (by rw [← hW2]; simp)
                          rw [hW2] at S2 X2 K2 ⊢
                          clear hW2 hmx hfx hcx
                          have S2d := Lib.hid S2.out.drew
                          have X2d : Hid (W2.drew.cell? ⟨g7, i, none⟩ = some (.int .i64 (x : Int))) := X2
                          go_region_held3 (fun w' => w'.cell? ⟨b, 0, none⟩ = some (.int .i64 (tn : Int)) ∧ w'.cell? ⟨b, 1, none⟩ = some (.int .i64 (pN : Int)) ∧ w'.cell? ⟨b, 2, none⟩ = some (.int .i64 (iN : Int)) ∧ w'.cell? ⟨b, 3, none⟩ = some (.int .i64 Q) ∧ w'.cell? ⟨g7, i, none⟩ = some (.int .i64 (x : Int)))
                            (first
                              | exact ⟨S2d.out.ps.box.c0, S2d.out.ps.box.c1, S2d.out.ps.box.c2, S2d.out.ps.box.c3, X2d.out⟩
                              | exact ⟨S3.out.ps.box.c0, S3.out.ps.box.c1, S3.out.ps.box.c2, S3.out.ps.box.c3, X3.out⟩
                              | go_keep)
                            (first
                              | (go_at_call 48; (with_reducible refine (implPart_any tn pN iN Q (x : Int) _).mono ?_); rw [HPT.out.1, HPT.out.2]; rintro e w3 ⟨rfl, hb⟩; have S3 := Lib.hid (S2d.out.later hb); have X3 : Hid (w3.cell? ⟨g7, i, none⟩ = some (.int .i64 (x : Int))) := Lib.hid ((hb.cell (p := ⟨g7, i, none⟩) (by have h1 := GL7.out; have h2 := GS.out; show g7 < W2.heap.size; omega)).trans X2d.out); have K3 : Hid (w3.cell? ⟨g8, i, none⟩ = some (.int .i64 kv)) := Lib.hid ((hb.cell (p := ⟨g8, i, none⟩) (by have h1 := GL8.out; have h2 := GS.out; show g8 < W2.heap.size; omega)).trans K2.out); clear hb))
                          have hk3 := K3.out
                          have hkk : (kv != kv) = false := by simp
                          have htt : ((t : Int) != (t : Int)) = false := by simp
                          clear S2 S2d X2 X2d K2 K3 X3
                          go_wp2
                          go_roundw
                          case rel => exact ⟨i + 1, _, by omega, by go_num, S3⟩
                          case measure => (simp [intOf]; try omega)
                        · obtain rfl : i = mm := by omega
                          have PSF : Hid (PSt w wr b gm n1 tn pN iN Q (((t + 1 : Nat) : Int) * W) M2) := by
                            have e : ((t + 1 : Nat) : Int) * W = c + ((pl i : Nat) : Int) := by have h1 := HC.out; rw [HPM.out, ← h1, show ((t + 1 : Nat) : Int) = (t : Int) + 1 by omega, Int.add_mul, Int.one_mul]
                            rw [e]; exact Lib.hid SR.out.ps
                          go_wp2
                          go_roundw
                          case rel => exact ⟨t + 1, M2, by omega, by go_num, PSF⟩
                          case measure => (simp [intOf]; try omega)
        · obtain rfl : t = tn := by omega
          have hl := linesV_yes HG.out
          obtain ⟨lv, hlv⟩ : ∃ lv, linesV t pN iN Q = lv := ⟨_, rfl⟩
          have HLV := Lib.hid hlv
          rw [hlv, HW.out, HN.out] at hl
          obtain ⟨hl1, hl2, hl3⟩ := hl
          have hl4 : 2 * lv = (n : Int) := by omega
          clear hl1 hlv
          go_wp2_with fail
          refine (implLines_yes t pN iN Q HG.out _).mono ?_
          rw [HLV.out]
          rintro e w5 ⟨rfl, hb⟩
          have P5 := Lib.hid (PR.out.later hb)
          clear hb
          clear c0 c1 c2 c3
          have c0 := P5.out.box.c0
          have c1 := P5.out.box.c1
          have c2 := P5.out.box.c2
          have c3 := P5.out.box.c3
          go_wp2_with fail
          refine (implGeo_yes t pN iN Q _ HG.out).mono ?_
          rintro e w6 ⟨rfl, hb⟩
          have P6 := Lib.hid (P5.out.later hb)
          clear hb
          go_wp2
          go_ret
          exact ⟨rfl, P6.out.below⟩
    · have hG := Lib.hid hg
      have hp : placeV T P I Q 0 0 = -1 := placeV_no (fun e => hg e.1)
      have HP := Lib.hid hp
      clear hg hp
      refine (specGeo_no T P I Q _ hG.out).mono ?_
      rintro e w2 ⟨rfl, hb⟩
      have F2 := Lib.hid (F1.out.later hb)
      have B2 : Hid (Below w.heap.size w w2) := Lib.hid (B1.out.trans (hb.mono B1.out.size))
      clear hb
      have c0 := F2.out.c0
      have c1 := F2.out.c1
      have c2 := F2.out.c2
      have c3 := F2.out.c3
      go_wp2_with fail
      clear c0 c1 c2 c3
      refine (implGeo_no T P I Q _ hG.out).mono ?_
      rintro e w3 ⟨rfl, hb⟩
      have F3 := Lib.hid (F2.out.later hb)
      have B3 : Hid (Below w.heap.size w w3) := Lib.hid (B2.out.trans (hb.mono B2.out.size))
      clear hb
      have c0 := F3.out.c0
      have c1 := F3.out.c1
      have c2 := F3.out.c2
      have c3 := F3.out.c3
      go_wp2_with fail
      clear c0 c1 c2 c3
      refine (implPW_no T P I Q hG.out _).mono ?_
      rintro e w4 ⟨rfl, hb⟩
      have F4 := Lib.hid (F3.out.later hb)
      have B4 : Hid (Below w.heap.size w w4) := Lib.hid (B3.out.trans (hb.mono B3.out.size))
      clear hb
      have c0 := F4.out.c0
      have c1 := F4.out.c1
      have c2 := F4.out.c2
      have c3 := F4.out.c3
      go_wp2_with fail
      clear c0 c1 c2 c3
      refine (implCommit_any T P I Q 0 _).mono ?_
      rw [HP.out]
      rintro e w5 ⟨rfl, hb⟩
      have F5 := Lib.hid (F4.out.later hb)
      have B5 : Hid (Below w.heap.size w w5) := Lib.hid (B4.out.trans (hb.mono B4.out.size))
      clear hb
      have c0 := F5.out.c0
      have c1 := F5.out.c1
      have c2 := F5.out.c2
      have c3 := F5.out.c3
      go_wp2
      go_ret
      exact ⟨rfl, B5.out⟩
  · go_enter Try.func14, Try.ntmps14
    go_wp2_with (go_at_call 43; go_in)
    go_ret
    exact ⟨rfl, Below.refl _ _⟩
end Go.Proofs.Ytmcelfiljnlmoaa
