/- Merged texts: WordsEq, InoReadA, InoReadB, InoReadC. -/
import Derived.Test.YtmkchilhnmkhkaaDoorPQE
import Derived.WalkLawsBesides
import Derived.Lib.Hide
import Derived.Deep.QuietTactic
import Derived.BigQuiet
namespace Go.Proofs.YtmkchilhnmkhkaaDoor
open Go.RowKit Go.Proofs.YtmkchilhnmkhkaaDoor.Parts Go.Proofs.YtmkchilhnmkhkaaDoor.Hexa

set_option maxRecDepth 100000 in
set_option maxHeartbeats 1000000 in
theorem wordsEq_any (a1 a2 : Option Addr) (n m c1 c2 : Nat) (P Q : List ByteArray) (w : World) (hn : n ≤ 100000000) (r1 : SrcT w a1 n P) (r2 : SrcT w a2 m Q) (b : Bool) (hb : b = true ↔ P = Q) :
    Calls Tryd.prog 76 #[.slice a1 n c1, .slice a2 m c2] w fun e w' => e = .returned (.bool b) ∧ ∃ q, w' = w.drewN q := by
  have hP := r1.len
  have hQ := r2.len
  by_cases hnm : n = m
  · subst hnm
    have HG := Lib.hid hb
    have HP := Lib.hid hP
    have HQ := Lib.hid hQ
    have R1 := Lib.hid r1
    have R2 := Lib.hid r2
    clear r1 r2 hb hP hQ
    go_enter Tryd.func76, Tryd.ntmps76
    go_wp2
    go_loopw [5] (fun iv wr => ∃ k q : Nat, k ≤ n ∧ iv = .int .i64 k ∧ wr = w.drewN q ∧ Hid (∀ j, j < k → P.getD j default = Q.getD j default)) (fun iv _ => n - (intOf iv).toNat)
    case atStart => exact ⟨0, 0, Nat.zero_le _, rfl, rfl, Lib.hid (fun j hj => by omega)⟩
    case round =>
      obtain ⟨k, q, hk, rfl, rfl, HA⟩ := hrel
      by_cases hlt : k < n
      · obtain ⟨g1, o1, e1, _, d1⟩ := srcT_at R1.out k hlt
        obtain ⟨g2, o2, e2, _, d2⟩ := srcT_at R2.out k hlt
        obtain ⟨x, hx⟩ : ∃ x, P.getD k default = x := ⟨_, rfl⟩
        obtain ⟨y, hy⟩ : ∃ y, Q.getD k default = y := ⟨_, rfl⟩
        rw [hx] at d1
        rw [hy] at d2
        have HX := Lib.hid hx
        have HY := Lib.hid hy
        subst e1 e2
        clear hx hy
        by_cases hxy : x = y
        · subst hxy
          have HA2 : Hid (∀ j, j < k + 1 → P.getD j default = Q.getD j default) := Lib.hid (fun j hj => by
            by_cases e : j = k
            · subst e; rw [HX.out, HY.out]
            · exact HA.out j (by omega))
          go_wp2
          go_quiet (fail)
          go_wp2
          go_roundw
          case rel => exact ⟨k + 1, _, by omega, by go_num, rfl, HA2⟩
          case measure => (simp [intOf]; try omega)
        · have i1 := text_neB hxy
          have i2 : (x.toList != y.toList) = true := by simp only [bne, i1]; rfl
          have i3 := text_ne hxy
          have HE : Hid (b = false) := Lib.hid (by
            cases b
            · rfl
            · exact absurd (by rw [← HX.out, ← HY.out, HG.out.1 rfl]) hxy)
          clear hxy
          go_wp2
          go_quiet (fail)
          go_wp2
          go_ret
          exact ⟨by rw [HE.out]; rfl, _, by rw [World.drewN_drewN]⟩
      · obtain rfl : k = n := by omega
        have HE : Hid (b = true) := Lib.hid (HG.out.2 (texts_eq HP.out HQ.out HA.out))
        go_wp2
        go_ret
        exact ⟨by rw [HE.out]; rfl, _, rfl⟩
  · have e1 : ((n : Int) == (m : Int)) = false := by simp; omega
    have e2 : ((n : Int) != (m : Int)) = true := by simp only [bne, e1]; rfl
    have HE : Hid (b = false) := Lib.hid (by
      cases b
      · rfl
      · exact absurd (by rw [← hP, ← hQ, hb.1 rfl]) hnm)
    clear r1 r2 hP hQ hb
    go_enter Tryd.func76, Tryd.ntmps76
    go_wp2
    go_ret
    exact ⟨by rw [HE.out]; rfl, 0, rfl⟩
end Go.Proofs.YtmkchilhnmkhkaaDoor
namespace Go.Proofs.YtmkchilhnmkhkaaDoor
open Go.RowKit Go.Proofs.YtmkchilhnmkhkaaDoor.Parts Go.Proofs.YtmkchilhnmkhkaaDoor.Hexa Go.Proofs.YtmkchilhnmkhkaaDoor.Byt

def GivesIno (r : InoR) (b : Bool) (w : World) (e : Ending) (w' : World) : Prop :=
  ∃ aR cR aE cE, e = .returned (.tuple #[.agg #[.int .i64 r.kd, .int .i64 r.sz, .int .i64 r.gn, .string r.key, .slice aR r.R.length cR, .slice aE r.E.length cE], .bool b])
    ∧ w'.ownsRow w.heap.size 66 3 (.slice aR r.R.length cR) r.R.length (cellsE encRec r.R) ∧ w'.ownsRow w.heap.size 47 2 (.slice aE r.E.length cE) r.E.length (cellsE encEntry r.E)
    ∧ (aR = none ∨ aE = none) ∧ Below w.heap.size w w'
theorem read_badSize {L : List ByteArray} {k : Nat} (hk : k < L.length) (hb : ¬ (L.getD k default).size = 8) : ¬ ReadOk L := fun h => by
  have h1 : L.getD k default ∈ L := by simp [List.getD, hk]
  rw [← h.2] at h1
  exact hb (by rw [← h.2]; exact inoWords_sizes h1)

section
variable (a : Option Addr) (n c : Nat) (L : List ByteArray) (w : World)
theorem gives_zero {w' : World} (hb : Below w.heap.size w w') (hL : ¬ ReadOk L) {e : Ending} (he : e = .returned (.tuple #[.agg #[.int .i64 0, .int .i64 0, .int .i64 0, .string ⟨#[]⟩, .slice none 0 0, .slice none 0 0], .bool false])) : GivesIno (readInoR L) (readInoB L) w e w' := by
  rw [readInoR_no hL, readInoB_no hL]
  exact ⟨none, 0, none, 0, he, ⟨rfl, .inl ⟨rfl, rfl⟩⟩, ⟨rfl, .inl ⟨rfl, rfl⟩⟩, .inl rfl, hb⟩

set_option maxRecDepth 100000 in
set_option maxHeartbeats 1000000 in
theorem specReadIno_len (hs : SrcT w a n L) (h : ¬ n = 8) : Calls Tryd.prog 36 #[.slice a n c] w (GivesIno (readInoR L) (readInoB L) w) := by
  have hlen : L.length = n := hs.len
  have HL : Hid (¬ ReadOk L) := Lib.hid (fun x => h (by rw [← hlen]; exact x.1))
  have B0 := Lib.hid (below_bk w (inoObj 0 0 0 ⟨#[]⟩ none 0 0 none 0 0))
  have e8 : ((n : Int) == 8) = false := by simp; omega
  have e9 : ((n : Int) != 8) = true := by simp only [bne, e8]; rfl
  clear hs hlen
  go_enter Tryd.func36, Tryd.ntmps36
  go_wp2
  refine bodyPost_ret (v := .tuple #[.agg #[.int .i64 0, .int .i64 0, .int .i64 0, .string ⟨#[]⟩, .slice none 0 0, .slice none 0 0], .bool false]) ?_ rfl (gives_zero L w B0.out HL.out rfl)
  simp [results, Tryd.results36, go_sem]

set_option maxRecDepth 100000 in
set_option maxHeartbeats 1000000 in
theorem specReadIno_size (hs : SrcT w a n L) (h8 : n = 8) (hm : ∀ j, j < n → (L.getD j default).size ≤ 2000000) (h : ¬ ∀ j, j < 8 → (L.getD j default).size = 8) : Calls Tryd.prog 36 #[.slice a n c] w (GivesIno (readInoR L) (readInoB L) w) := by
  subst h8
  have HLn : Hid (L.length = 8) := Lib.hid hs.len
  have HS := Lib.hid hs
  have HM := Lib.hid hm
  have HN := Lib.hid h
  have B0 := Lib.hid (below_bk w (inoObj 0 0 0 ⟨#[]⟩ none 0 0 none 0 0))
  clear hs hm h
  go_enter Tryd.func36, Tryd.ntmps36
  go_wp2
  go_loop [4] (fun iv => ∃ k : Nat, k ≤ 8 ∧ iv = .int .i64 k ∧ Hid (∀ j, j < k → (L.getD j default).size = 8)) (fun iv => 8 - (intOf iv).toNat)
  case atStart => exact ⟨0, Nat.zero_le _, rfl, Lib.hid (fun j hj => by omega)⟩
  case round =>
    obtain ⟨k, hk, rfl, HA⟩ := hrel
    by_cases hlt : k < 8
    · obtain ⟨g, off, ha, hg, d0⟩ := srcT_later HS.out B0.out (Nat.le_refl _) k hlt
      obtain ⟨x, hx⟩ : ∃ x, L.getD k default = x := ⟨_, rfl⟩
      have hm := HM.out k hlt
      rw [hx] at d0 hm
      have HX := Lib.hid hx
      subst ha
      clear hx
      by_cases i1 : x.size = 8
      · have HA2 : Hid (∀ j, j < k + 1 → (L.getD j default).size = 8) := Lib.hid (fun j hj => by
          by_cases e : j = k
          · subst e; rw [HX.out]; exact i1
          · exact HA.out j (by omega))
        have e9 : ((x.size : Int) != 8) = false := by simp; omega
        go_wp2
        go_round
        case rel => exact ⟨k + 1, by omega, by go_num, HA2⟩
        case measure => (simp [intOf]; try omega)
      · have HL : Hid (¬ ReadOk L) := Lib.hid (read_badSize (k := k) (by rw [HLn.out]; exact hlt) (by rw [HX.out]; exact i1))
        have e8 : ((x.size : Int) == 8) = false := by simp; omega
        have e9 : ((x.size : Int) != 8) = true := by simp only [bne, e8]; rfl
        go_wp2
        refine bodyPost_ret (v := .tuple #[.agg #[.int .i64 0, .int .i64 0, .int .i64 0, .string ⟨#[]⟩, .slice none 0 0, .slice none 0 0], .bool false]) ?_ rfl (gives_zero L w B0.out HL.out rfl)
        simp [results, Tryd.results36, go_sem]
    · exact absurd (fun j hj => HA.out j (by omega)) HN.out
end
end Go.Proofs.YtmkchilhnmkhkaaDoor
namespace Go.Proofs.YtmkchilhnmkhkaaDoor
open Go.RowKit Go.Proofs.YtmkchilhnmkhkaaDoor.Parts Go.Proofs.YtmkchilhnmkhkaaDoor.Hexa Go.Proofs.YtmkchilhnmkhkaaDoor.Byt

abbrev zeroCs : Array Value := inoCs 0 0 0 ⟨#[]⟩ none 0 0 none 0 0
/-- The result's box and the inode's box, and nothing else of the old world written. -/
structure RSt (w : World) (cs : Array Value) (wr : World) : Prop where
  res : Bk wr w.heap.size zeroCs 54
  box : Bk wr (w.heap.size + 1) cs 54
  below : Below w.heap.size w wr
section
variable {w wr w' : World} {cs : Array Value}
theorem RSt.call (h : RSt w cs wr) (hb : Below wr.heap.size wr w') : RSt w cs w' := ⟨h.res.later hb, h.box.later hb, below_on h.below (Nat.le_refl _) hb⟩
theorem RSt.drew (h : RSt w cs wr) : RSt w cs wr.drew := ⟨h.res.drew, h.box.drew, h.below.drew⟩
theorem RSt.drewN (h : RSt w cs wr) (n : Nat) : RSt w cs (wr.drewN n) := ⟨h.res, h.box, below_drewsN h.below n⟩
theorem RSt.set (h : RSt w cs wr) (j : Nat) (v : Value) : RSt w (cs.setIfInBounds j v) (wr.setCell ⟨w.heap.size + 1, j, none⟩ v) :=
  ⟨h.res.other (Nat.ne_of_lt (Nat.lt_succ_self _)) v, h.box.set j v, h.below.setCell (Nat.le_succ _) v⟩
theorem RSt.size (h : RSt w cs wr) : w.heap.size + 2 ≤ wr.heap.size := by have := h.box.lt; omega
theorem RSt.start (w : World) (cs : Array Value) : RSt w cs ((w.alloc (.cells zeroCs 54)).alloc (.cells cs 54)) :=
  ⟨(Bk.alloc w zeroCs 54).later (below_bk _ _), by have h := Bk.alloc (w.alloc (.cells zeroCs 54)) cs 54; rw [show (w.alloc (.cells zeroCs 54)).heap.size = w.heap.size + 1 by simp] at h; exact h,
   below_on (below_bk w _) (Nat.le_refl _) (below_bk _ _)⟩
end

theorem readInoB_iff {L : List ByteArray} (h : L.length = 8) : readInoB L = true ↔ inoWordsB (inoOf L) = L := by
  by_cases h1 : ReadOk L
  · exact ⟨fun _ => h1.2, fun _ => readInoB_yes h1⟩
  · exact ⟨fun e => by rw [readInoB_no h1] at e; exact absurd e (by decide), fun e => absurd ⟨h, e⟩ h1⟩
theorem inoWords_le (n : InoR) : (inoWordsB n).length ≤ 8 := by
  by_cases h : InoOk n
  · rw [inoWords_length h]; exact Nat.le_refl _
  · rw [inoWords_no h]; exact Nat.zero_le _

section
variable (a : Option Addr) (c : Nat) (L : List ByteArray) (w : World)
set_option maxRecDepth 100000 in
set_option maxHeartbeats 2000000 in
theorem specReadIno_else (hs : SrcT w a 8 L) (h8 : ∀ j, j < 8 → (L.getD j default).size = 8) (hk1 : ¬ kindOf L = 1) (hk2 : ¬ kindOf L = 2) : Calls Tryd.prog 36 #[.slice a 8 c] w (GivesIno (readInoR L) (readInoB L) w) := by
  have HLn : Hid (L.length = 8) := Lib.hid hs.len
  have HS := Lib.hid hs
  have H8 := Lib.hid h8
  have B0 := Lib.hid (below_bk w (inoObj 0 0 0 ⟨#[]⟩ none 0 0 none 0 0))
  obtain ⟨g, off, ha, hg, _⟩ := srcT_at hs 0 (by omega)
  have HC : Hid (∀ {w' : World}, Below w.heap.size w w' → ∀ j, j < 8 → w'.cell? ⟨g, off + j, none⟩ = some (.string (L.getD j default))) := Lib.hid (fun hb j hj => by
    obtain ⟨g', off', ha', _, d⟩ := srcT_later HS.out hb (Nat.le_refl _) j hj
    rw [ha] at ha'; cases ha'
    exact d)
  obtain ⟨x0, hx0⟩ : ∃ x, L.getD 0 default = x := ⟨_, rfl⟩
  have hx8 : x0.size = 8 := by rw [← hx0]; exact h8 0 (by omega)
  have h0s : 0 < x0.size := by omega
  obtain ⟨kd, hkd⟩ : ∃ kd : Int, ((x0[0]'h0s).toNat : Int) = kd := ⟨_, rfl⟩
  have hkk : kindOf L = kd := by unfold kindOf; rw [hx0, byte_getD x0 0 h0s, hkd]
  rw [hkk] at hk1 hk2
  have HX0 := Lib.hid hx0
  have HKK := Lib.hid hkk
  have HKD := Lib.hid hkd
  have kd0 : 0 ≤ kd := by omega
  have kd1 : kd ≤ 255 := by have := (x0[0]'h0s).toNat_lt; omega
  obtain ⟨sz, hsz⟩ : ∃ z : Int, numAtV x0 1 2 = z := ⟨_, rfl⟩
  obtain ⟨gn, hgn⟩ : ∃ z : Int, numAtV x0 3 2 = z := ⟨_, rfl⟩
  obtain ⟨sb, hsb⟩ : ∃ z : Bool, numAtB x0 1 2 = z := ⟨_, rfl⟩
  obtain ⟨gb, hgb⟩ : ∃ z : Bool, numAtB x0 3 2 = z := ⟨_, rfl⟩
  obtain ⟨T, hT⟩ : ∃ T, zeroB 8 = T := ⟨_, rfl⟩
  have hszb : -9223372036854775808 ≤ sz ∧ sz ≤ 9223372036854775807 := by
    have h9 : 0 ≤ numAtV x0 1 2 ∧ numAtV x0 1 2 < 256 ^ 2 := numAtV_lt x0 1 2 (by omega) (by omega)
    rw [← hsz]
    have h10 : ((256 : Int) ^ 2) = 65536 := by decide
    rw [h10] at h9
    exact ⟨by have := h9.1; omega, by have := h9.2; omega⟩
  have HSZ := Lib.hid hsz
  have HGN := Lib.hid hgn
  have HSB := Lib.hid hsb
  have HGB := Lib.hid hgb
  have HT := Lib.hid hT
  have HZB := Lib.hid hszb
  have HK1 := Lib.hid hk1
  have HK2 := Lib.hid hk2
  have hgne : ¬ g = w.heap.size + 1 := by omega
  have hgne2 : ¬ w.heap.size + 1 = g := by omega
  subst ha
  clear hs h8 hx0 hkk hsz hgn hsb hgb hT hszb
  go_enter Tryd.func36, Tryd.ntmps36
  go_wp2
  go_loop [4] (fun iv => ∃ k : Nat, k ≤ 8 ∧ iv = .int .i64 k) (fun iv => 8 - (intOf iv).toNat)
  case atStart => exact ⟨0, Nat.zero_le _, rfl⟩
  case round =>
    obtain ⟨k, hk, rfl⟩ := hrel
    by_cases hlt : k < 8
    · have d0 := HC.out B0.out k hlt
      obtain ⟨x, hx⟩ : ∃ x, L.getD k default = x := ⟨_, rfl⟩
      have hxs : x.size = 8 := by rw [← hx]; exact H8.out k hlt
      rw [hx] at d0
      have e9 : ((x.size : Int) != 8) = false := by simp; omega
      clear hx
      go_wp2
      go_round
      case rel => exact ⟨k + 1, by omega, by go_num⟩
      case measure => (simp [intOf]; try omega)
    · obtain rfl : k = 8 := by omega
      have d0 := HC.out B0.out 0 (by omega)
      rw [HX0.out, Nat.add_zero] at d0
      go_wp2_with fail
      refine (specNumAt_any x0 1 2 _ (by omega) (by omega) (by omega)).mono ?_
      rw [HSZ.out, HSB.out]
      rintro e w1 ⟨rfl, hb1⟩
      have S1 := Lib.hid ((RSt.start w (inoCs kd 0 0 ⟨#[]⟩ none 0 0 none 0 0)).call hb1)
      have x1 := S1.out.box.cell (j := 1) rfl
      have z1 := S1.out.box.fr (o := 1)
      have S2 := Lib.hid (S1.out.set 1 (.int .i64 sz))
      have d1 := HC.out S1.out.below 0 (by omega)
      rw [HX0.out, Nat.add_zero] at d1
      clear hb1 d0
      go_wp2_with fail
      refine (specNumAt_any x0 3 2 _ (by omega) (by omega) (by omega)).mono ?_
      rw [HGN.out, HGB.out]
      rintro e w2 ⟨rfl, hb2⟩
      have S3 := Lib.hid (S2.out.call hb2)
      have x2 := S3.out.box.cell (j := 2) rfl
      have z2 := S3.out.box.fr (o := 2)
      have S4 := Lib.hid (S3.out.set 2 (.int .i64 gn))
      clear hb2 d1 x1 z1
      go_wp2_with fail
      refine (specZero_any 8 _).mono ?_
      rw [HT.out]
      rintro e w3 ⟨rfl, hb3⟩
      have S5 := Lib.hid (S4.out.call hb3)
      clear hb3 x2 z2
      have y0 := S5.out.box.cell (j := 0) rfl
      have y1 := S5.out.box.cell (j := 1) rfl
      have y2 := S5.out.box.cell (j := 2) rfl
      have y3 := S5.out.box.cell (j := 3) rfl
      have y4 := S5.out.box.cell (j := 4) rfl
      have y5 := S5.out.box.cell (j := 5) rfl
      go_wp2
      go_loop [7] (fun iv => ∃ k : Nat, 2 ≤ k ∧ k ≤ 8 ∧ iv = .int .i64 k ∧ Hid (Filled L k)) (fun iv => 8 - (intOf iv).toNat)
      case atStart => exact ⟨2, by omega, by omega, rfl, Lib.hid (fun j h1 h2 => by omega)⟩
      case round =>
        obtain ⟨k, hk2, hk, rfl, HF⟩ := hrel
        by_cases hlt : k < 8
        · have d3 := HC.out S5.out.below k hlt
          obtain ⟨x, hx⟩ : ∃ x, L.getD k default = x := ⟨_, rfl⟩
          rw [hx] at d3
          have HX := Lib.hid hx
          clear hx
          by_cases hxz : x = T
          · subst hxz
            have HST : Hid (stopOf L = k) := Lib.hid (stop_at hk2 (by omega) HF.out (.inr (by rw [HX.out, ← HT.out]; rfl)))
            have HI : Hid (inoOf L = ⟨kd, sz, gn, ⟨#[]⟩, [], []⟩) := Lib.hid (by unfold inoOf inoTo; rw [HKK.out, HX0.out, HSZ.out, HGN.out, if_neg HK1.out, if_neg HK1.out, if_neg HK2.out])
            go_wp2_with fail
            refine (specInoWords_any kd sz gn ⟨#[]⟩ none 0 0 none 0 0 _ [] [] HZB.out (SrcE.nil _ _ _) (fun j hj => absurd hj (Nat.not_lt_zero _)) (SrcE.nil _ _ _) (fun j hj => absurd hj (Nat.not_lt_zero _))).mono ?_
            rintro e w6 ⟨v6, rfl, hown6, hb6⟩
            obtain ⟨a6, c6, rfl, _, _, _⟩ := own_form hown6
            have R6 := Lib.hid (srcT_of_own hown6)
            have S6 := Lib.hid (S5.out.call hb6)
            have L6 : Hid ((inoWordsB ⟨kd, sz, gn, ⟨#[]⟩, [], []⟩).length ≤ 8) := Lib.hid (inoWords_le _)
            clear hown6 hb6 y0 y1 y2 y3 y4 y5
            go_wp2_with fail
            refine (wordsEq_any _ _ _ 8 _ _ _ L _ (by have := L6.out; omega) R6.out (HS.out.below S6.out.below (Nat.le_refl _)) (readInoB L) (by rw [readInoB_iff HLn.out, HI.out])).mono ?_
            rintro e w7 ⟨rfl, q7, rfl⟩
            have S7 := Lib.hid (S6.out.drewN q7)
            have y0 := S7.out.box.cell (j := 0) rfl
            have y1 := S7.out.box.cell (j := 1) rfl
            have y2 := S7.out.box.cell (j := 2) rfl
            have y3 := S7.out.box.cell (j := 3) rfl
            have y4 := S7.out.box.cell (j := 4) rfl
            have y5 := S7.out.box.cell (j := 5) rfl
            have r0 := S7.out.res.cell (j := 0) rfl
            have r1 := S7.out.res.cell (j := 1) rfl
            have r2 := S7.out.res.cell (j := 2) rfl
            have r3 := S7.out.res.cell (j := 3) rfl
            have r4 := S7.out.res.cell (j := 4) rfl
            have r5 := S7.out.res.cell (j := 5) rfl
            have f0 := S7.out.res.fr (o := 0)
            have f1 := S7.out.res.fr (o := 1)
            have f2 := S7.out.res.fr (o := 2)
            have f3 := S7.out.res.fr (o := 3)
            have f4 := S7.out.res.fr (o := 4)
            have f5 := S7.out.res.fr (o := 5)
            by_cases hok : ReadOk L
            · have HOK := Lib.hid hok
              have hrb := readInoB_yes hok
              rw [hrb]
              clear hok hrb
              have qf := ((((((S7.out.res.set 0 (.int .i64 kd)).set 1 (.int .i64 sz)).set 2 (.int .i64 gn)).set 3 (.string ⟨#[]⟩)).set 4 (.slice none 0 0)).set 5 (.slice none 0 0))
              have q0 := qf.cell (j := 0) (v := .int .i64 kd) rfl
              have q1 := qf.cell (j := 1) (v := .int .i64 sz) rfl
              have q2 := qf.cell (j := 2) (v := .int .i64 gn) rfl
              have q3 := qf.cell (j := 3) (v := .string ⟨#[]⟩) rfl
              have q4 := qf.cell (j := 4) (v := .slice none 0 0) rfl
              have q5 := qf.cell (j := 5) (v := .slice none 0 0) rfl
              clear qf
              go_wp2
              refine bodyPost_ret (v := .tuple #[.agg #[.int .i64 kd, .int .i64 sz, .int .i64 gn, .string ⟨#[]⟩, .slice none 0 0, .slice none 0 0], .bool true]) ?_ rfl (by rw [readInoR_yes HOK.out, readInoB_yes HOK.out, HI.out]; exact ⟨none, 0, none, 0, rfl, ⟨rfl, .inl ⟨rfl, rfl⟩⟩, ⟨rfl, .inl ⟨rfl, rfl⟩⟩, .inl rfl, (((((S7.out.below.setCell (Nat.le_refl _) _).setCell (Nat.le_refl _) _).setCell (Nat.le_refl _) _).setCell (Nat.le_refl _) _).setCell (Nat.le_refl _) _).setCell (Nat.le_refl _) _⟩)
              simp [results, Tryd.results36, go_sem, q0, q1, q2, q3, q4, q5]
            · have HOK := Lib.hid hok
              have hrb := readInoB_no hok
              rw [hrb]
              clear hok hrb
              have qf := ((((((S7.out.res.set 0 (.int .i64 0)).set 1 (.int .i64 0)).set 2 (.int .i64 0)).set 3 (.string ⟨#[]⟩)).set 4 (.slice none 0 0)).set 5 (.slice none 0 0))
              have q0 := qf.cell (j := 0) (v := .int .i64 0) rfl
              have q1 := qf.cell (j := 1) (v := .int .i64 0) rfl
              have q2 := qf.cell (j := 2) (v := .int .i64 0) rfl
              have q3 := qf.cell (j := 3) (v := .string ⟨#[]⟩) rfl
              have q4 := qf.cell (j := 4) (v := .slice none 0 0) rfl
              have q5 := qf.cell (j := 5) (v := .slice none 0 0) rfl
              clear qf
              go_wp2
              refine bodyPost_ret (v := .tuple #[.agg #[.int .i64 0, .int .i64 0, .int .i64 0, .string ⟨#[]⟩, .slice none 0 0, .slice none 0 0], .bool false]) ?_ rfl (gives_zero L w ((((((S7.out.below.setCell (Nat.le_refl _) _).setCell (Nat.le_refl _) _).setCell (Nat.le_refl _) _).setCell (Nat.le_refl _) _).setCell (Nat.le_refl _) _).setCell (Nat.le_refl _) _) HOK.out rfl)
              simp [results, Tryd.results36, go_sem, q0, q1, q2, q3, q4, q5]
          · have i1 := text_neB hxz
            have i2 : (x.toList != T.toList) = true := by simp only [bne, i1]; rfl
            have i3 := text_ne hxz
            have HF2 : Hid (Filled L (k + 1)) := Lib.hid (filled_step HF.out (by rw [HX.out]; intro e; exact hxz (by rw [e, ← HT.out]; rfl)))
            clear hxz
            go_wp2
            go_round
            case rel => exact ⟨k + 1, by omega, by omega, by go_num, HF2⟩
            case measure => (simp [intOf]; try omega)
        · obtain rfl : k = 8 := by omega
          have HST : Hid (stopOf L = 8) := Lib.hid (stop_at hk2 (by omega) HF.out (.inl rfl))
          have HI : Hid (inoOf L = ⟨kd, sz, gn, ⟨#[]⟩, [], []⟩) := Lib.hid (by unfold inoOf inoTo; rw [HKK.out, HX0.out, HSZ.out, HGN.out, if_neg HK1.out, if_neg HK1.out, if_neg HK2.out])
          go_wp2_with fail
          refine (specInoWords_any kd sz gn ⟨#[]⟩ none 0 0 none 0 0 _ [] [] HZB.out (SrcE.nil _ _ _) (fun j hj => absurd hj (Nat.not_lt_zero _)) (SrcE.nil _ _ _) (fun j hj => absurd hj (Nat.not_lt_zero _))).mono ?_
          rintro e w6 ⟨v6, rfl, hown6, hb6⟩
          obtain ⟨a6, c6, rfl, _, _, _⟩ := own_form hown6
          have R6 := Lib.hid (srcT_of_own hown6)
          have S6 := Lib.hid (S5.out.call hb6)
          have L6 : Hid ((inoWordsB ⟨kd, sz, gn, ⟨#[]⟩, [], []⟩).length ≤ 8) := Lib.hid (inoWords_le _)
          clear hown6 hb6 y0 y1 y2 y3 y4 y5
          go_wp2_with fail
          refine (wordsEq_any _ _ _ 8 _ _ _ L _ (by have := L6.out; omega) R6.out (HS.out.below S6.out.below (Nat.le_refl _)) (readInoB L) (by rw [readInoB_iff HLn.out, HI.out])).mono ?_
          rintro e w7 ⟨rfl, q7, rfl⟩
          have S7 := Lib.hid (S6.out.drewN q7)
          have y0 := S7.out.box.cell (j := 0) rfl
          have y1 := S7.out.box.cell (j := 1) rfl
          have y2 := S7.out.box.cell (j := 2) rfl
          have y3 := S7.out.box.cell (j := 3) rfl
          have y4 := S7.out.box.cell (j := 4) rfl
          have y5 := S7.out.box.cell (j := 5) rfl
          have r0 := S7.out.res.cell (j := 0) rfl
          have r1 := S7.out.res.cell (j := 1) rfl
          have r2 := S7.out.res.cell (j := 2) rfl
          have r3 := S7.out.res.cell (j := 3) rfl
          have r4 := S7.out.res.cell (j := 4) rfl
          have r5 := S7.out.res.cell (j := 5) rfl
          have f0 := S7.out.res.fr (o := 0)
          have f1 := S7.out.res.fr (o := 1)
          have f2 := S7.out.res.fr (o := 2)
          have f3 := S7.out.res.fr (o := 3)
          have f4 := S7.out.res.fr (o := 4)
          have f5 := S7.out.res.fr (o := 5)
          by_cases hok : ReadOk L
          · have HOK := Lib.hid hok
            have hrb := readInoB_yes hok
            rw [hrb]
            clear hok hrb
            have qf := ((((((S7.out.res.set 0 (.int .i64 kd)).set 1 (.int .i64 sz)).set 2 (.int .i64 gn)).set 3 (.string ⟨#[]⟩)).set 4 (.slice none 0 0)).set 5 (.slice none 0 0))
            have q0 := qf.cell (j := 0) (v := .int .i64 kd) rfl
            have q1 := qf.cell (j := 1) (v := .int .i64 sz) rfl
            have q2 := qf.cell (j := 2) (v := .int .i64 gn) rfl
            have q3 := qf.cell (j := 3) (v := .string ⟨#[]⟩) rfl
            have q4 := qf.cell (j := 4) (v := .slice none 0 0) rfl
            have q5 := qf.cell (j := 5) (v := .slice none 0 0) rfl
            clear qf
            go_wp2
            refine bodyPost_ret (v := .tuple #[.agg #[.int .i64 kd, .int .i64 sz, .int .i64 gn, .string ⟨#[]⟩, .slice none 0 0, .slice none 0 0], .bool true]) ?_ rfl (by rw [readInoR_yes HOK.out, readInoB_yes HOK.out, HI.out]; exact ⟨none, 0, none, 0, rfl, ⟨rfl, .inl ⟨rfl, rfl⟩⟩, ⟨rfl, .inl ⟨rfl, rfl⟩⟩, .inl rfl, (((((S7.out.below.setCell (Nat.le_refl _) _).setCell (Nat.le_refl _) _).setCell (Nat.le_refl _) _).setCell (Nat.le_refl _) _).setCell (Nat.le_refl _) _).setCell (Nat.le_refl _) _⟩)
            simp [results, Tryd.results36, go_sem, q0, q1, q2, q3, q4, q5]
          · have HOK := Lib.hid hok
            have hrb := readInoB_no hok
            rw [hrb]
            clear hok hrb
            have qf := ((((((S7.out.res.set 0 (.int .i64 0)).set 1 (.int .i64 0)).set 2 (.int .i64 0)).set 3 (.string ⟨#[]⟩)).set 4 (.slice none 0 0)).set 5 (.slice none 0 0))
            have q0 := qf.cell (j := 0) (v := .int .i64 0) rfl
            have q1 := qf.cell (j := 1) (v := .int .i64 0) rfl
            have q2 := qf.cell (j := 2) (v := .int .i64 0) rfl
            have q3 := qf.cell (j := 3) (v := .string ⟨#[]⟩) rfl
            have q4 := qf.cell (j := 4) (v := .slice none 0 0) rfl
            have q5 := qf.cell (j := 5) (v := .slice none 0 0) rfl
            clear qf
            go_wp2
            refine bodyPost_ret (v := .tuple #[.agg #[.int .i64 0, .int .i64 0, .int .i64 0, .string ⟨#[]⟩, .slice none 0 0, .slice none 0 0], .bool false]) ?_ rfl (gives_zero L w ((((((S7.out.below.setCell (Nat.le_refl _) _).setCell (Nat.le_refl _) _).setCell (Nat.le_refl _) _).setCell (Nat.le_refl _) _).setCell (Nat.le_refl _) _).setCell (Nat.le_refl _) _) HOK.out rfl)
            simp [results, Tryd.results36, go_sem, q0, q1, q2, q3, q4, q5]
end
end Go.Proofs.YtmkchilhnmkhkaaDoor
namespace Go.Proofs.YtmkchilhnmkhkaaDoor
open Go.RowKit Go.Proofs.YtmkchilhnmkhkaaDoor.Parts Go.Proofs.YtmkchilhnmkhkaaDoor.Hexa Go.Proofs.YtmkchilhnmkhkaaDoor.Byt

theorem RSt.grown {w wr w' : World} {cs : Array Value} {r : Option Nat} (h : RSt w cs wr) (hg : wr.grownBy w' r) (hr : ∀ g, r = some g → w.heap.size + 2 ≤ g) : RSt w cs w' :=
  ⟨h.res.grown hg (fun e => by have := hr _ e; omega), h.box.grown hg (fun e => by have := hr _ e; omega), h.below.grown hg (by have := h.below.size; omega) (fun g e => by have := hr g e; omega)⟩

theorem gives_rec (sz gn : Int) (x1 : ByteArray) (aR : Option Addr) (nR cR : Nat) (L : List ByteArray) (w : World) {w' : World} {R : List RecR} (hL : ReadOk L) (hI : inoOf L = ⟨1, sz, gn, x1, R, []⟩) (hl : R.length = nR)
    (ho : w'.ownsRow (w.heap.size + 2) 66 3 (.slice aR nR cR) nR (cellsE encRec R)) (hb : Below w.heap.size w w') :
    GivesIno (readInoR L) (readInoB L) w (.returned (.tuple #[.agg #[.int .i64 1, .int .i64 sz, .int .i64 gn, .string x1, .slice aR nR cR, .slice none 0 0], .bool true])) w' := by
  subst hl
  rw [readInoR_yes hL, readInoB_yes hL, hI]
  exact ⟨aR, cR, none, 0, rfl, ownE_mono ho (by omega), ⟨rfl, .inl ⟨rfl, rfl⟩⟩, .inr rfl, hb⟩

section
variable (a : Option Addr) (c : Nat) (L : List ByteArray) (w : World)
set_option maxRecDepth 100000 in
set_option maxHeartbeats 4000000 in
theorem specReadIno_file (hs : SrcT w a 8 L) (h8 : ∀ j, j < 8 → (L.getD j default).size = 8) (hk1 : kindOf L = 1) : Calls Tryd.prog 36 #[.slice a 8 c] w (GivesIno (readInoR L) (readInoB L) w) := by
  have HLn : Hid (L.length = 8) := Lib.hid hs.len
  have HS := Lib.hid hs
  have H8 := Lib.hid h8
  have B0 := Lib.hid (below_bk w (inoObj 0 0 0 ⟨#[]⟩ none 0 0 none 0 0))
  obtain ⟨g, off, ha, hg, _⟩ := srcT_at hs 0 (by omega)
  have HC : Hid (∀ {w' : World}, Below w.heap.size w w' → ∀ j, j < 8 → w'.cell? ⟨g, off + j, none⟩ = some (.string (L.getD j default))) := Lib.hid (fun hb j hj => by
    obtain ⟨g', off', ha', _, d⟩ := srcT_later HS.out hb (Nat.le_refl _) j hj
    rw [ha] at ha'; cases ha'
    exact d)
  obtain ⟨x0, hx0⟩ : ∃ x, L.getD 0 default = x := ⟨_, rfl⟩
  have hx8 : x0.size = 8 := by rw [← hx0]; exact h8 0 (by omega)
  have h0s : 0 < x0.size := by omega
  have hkk : kindOf L = 1 := hk1
  have hkd : ((x0[0]'h0s).toNat : Int) = 1 := by unfold kindOf at hk1; rw [hx0, byte_getD x0 0 h0s] at hk1; exact hk1
  obtain ⟨x1, hx1⟩ : ∃ x, L.getD 1 default = x := ⟨_, rfl⟩
  have HX1 := Lib.hid hx1
  have hx18 : x1.size = 8 := by rw [← hx1]; exact h8 1 (by omega)
  have HX0 := Lib.hid hx0
  have HKK := Lib.hid hkk
  obtain ⟨sz, hsz⟩ : ∃ z : Int, numAtV x0 1 2 = z := ⟨_, rfl⟩
  obtain ⟨gn, hgn⟩ : ∃ z : Int, numAtV x0 3 2 = z := ⟨_, rfl⟩
  obtain ⟨sb, hsb⟩ : ∃ z : Bool, numAtB x0 1 2 = z := ⟨_, rfl⟩
  obtain ⟨gb, hgb⟩ : ∃ z : Bool, numAtB x0 3 2 = z := ⟨_, rfl⟩
  obtain ⟨T, hT⟩ : ∃ T, zeroB 8 = T := ⟨_, rfl⟩
  have hszb : -9223372036854775808 ≤ sz ∧ sz ≤ 9223372036854775807 := by
    have h9 : 0 ≤ numAtV x0 1 2 ∧ numAtV x0 1 2 < 256 ^ 2 := numAtV_lt x0 1 2 (by omega) (by omega)
    rw [← hsz]
    have h10 : ((256 : Int) ^ 2) = 65536 := by decide
    rw [h10] at h9
    exact ⟨by have := h9.1; omega, by have := h9.2; omega⟩
  have HSZ := Lib.hid hsz
  have HGN := Lib.hid hgn
  have HSB := Lib.hid hsb
  have HGB := Lib.hid hgb
  have HT := Lib.hid hT
  have HZB := Lib.hid hszb
  have hgne : ¬ g = w.heap.size + 1 := by omega
  have hgne2 : ¬ w.heap.size + 1 = g := by omega
  subst ha
  clear hs h8 hx0 hkk hk1 hx1 hsz hgn hsb hgb hT hszb
  obtain ⟨i0, hi, hz0, hz1, hz2⟩ := info_parts infoRec
  go_enter Tryd.func36, Tryd.ntmps36
  go_wp2
  go_loop [4] (fun iv => ∃ k : Nat, k ≤ 8 ∧ iv = .int .i64 k) (fun iv => 8 - (intOf iv).toNat)
  case atStart => exact ⟨0, Nat.zero_le _, rfl⟩
  case round =>
    obtain ⟨k, hk, rfl⟩ := hrel
    by_cases hlt : k < 8
    · have d0 := HC.out B0.out k hlt
      obtain ⟨x, hx⟩ : ∃ x, L.getD k default = x := ⟨_, rfl⟩
      have hxs : x.size = 8 := by rw [← hx]; exact H8.out k hlt
      rw [hx] at d0
      have e9 : ((x.size : Int) != 8) = false := by simp; omega
      clear hx
      go_wp2
      go_round
      case rel => exact ⟨k + 1, by omega, by go_num⟩
      case measure => (simp [intOf]; try omega)
    · obtain rfl : k = 8 := by omega
      have d0 := HC.out B0.out 0 (by omega)
      rw [HX0.out, Nat.add_zero] at d0
      go_wp2_with fail
      refine (specNumAt_any x0 1 2 _ (by omega) (by omega) (by omega)).mono ?_
      rw [HSZ.out, HSB.out]
      rintro e w1 ⟨rfl, hb1⟩
      have S1 := Lib.hid ((RSt.start w (inoCs 1 0 0 ⟨#[]⟩ none 0 0 none 0 0)).call hb1)
      have x1 := S1.out.box.cell (j := 1) rfl
      have z1 := S1.out.box.fr (o := 1)
      have S2 := Lib.hid (S1.out.set 1 (.int .i64 sz))
      have d1 := HC.out S1.out.below 0 (by omega)
      rw [HX0.out, Nat.add_zero] at d1
      clear hb1 d0
      go_wp2_with fail
      refine (specNumAt_any x0 3 2 _ (by omega) (by omega) (by omega)).mono ?_
      rw [HGN.out, HGB.out]
      rintro e w2 ⟨rfl, hb2⟩
      have S3 := Lib.hid (S2.out.call hb2)
      have x2 := S3.out.box.cell (j := 2) rfl
      have z2 := S3.out.box.fr (o := 2)
      have S4 := Lib.hid (S3.out.set 2 (.int .i64 gn))
      clear hb2 d1 x1 z1
      go_wp2_with fail
      refine (specZero_any 8 _).mono ?_
      rw [HT.out]
      rintro e w3 ⟨rfl, hb3⟩
      have S5 := Lib.hid (S4.out.call hb3)
      clear hb3 x2 z2
      have y0 := S5.out.box.cell (j := 0) rfl
      have y3 := S5.out.box.cell (j := 3) rfl
      have z3 := S5.out.box.fr (o := 3)
      have d2 := HC.out S5.out.below 1 (by omega)
      rw [HX1.out] at d2
      have S8 := Lib.hid (S5.out.set 3 (.string x1))
      go_wp2
      go_loopw [7] (fun iv wr => ∃ (k : Nat) (aR : Option Addr) (cR : Nat), 2 ≤ k ∧ k ≤ 8 ∧ iv = .int .i64 k ∧ Hid (Filled L k) ∧ Hid (RSt w (inoCs 1 sz gn x1 aR (k - 2) cR none 0 0) wr) ∧ Hid (wr.ownsRow (w.heap.size + 2) 66 3 (.slice aR (k - 2) cR) (k - 2) (cellsE encRec ((midTo L k).map recOf)))) (fun iv _ => 8 - (intOf iv).toNat)
      case atStart => exact ⟨2, none, 0, by omega, by omega, rfl, Lib.hid (fun j h1 h2 => by omega), Lib.hid S8.out, Lib.hid (by rw [midTo_two]; exact ⟨rfl, .inl ⟨rfl, rfl⟩⟩)⟩
      case round =>
        clear y0 y3 z3 d2 S8 S5
        obtain ⟨k, aR, cR, hk2, hk, rfl, HF, SW, HW⟩ := hrel
        have HLm : Hid (((midTo L k).map recOf).length = k - 2) := Lib.hid (by rw [List.length_map, midTo_length (by rw [HLn.out]; exact hk)])
        have HFit : Hid (FitRec ((midTo L k).map recOf) (k - 2) 2000000) := Lib.hid (fun j hj => by
          rw [map_getD _ _ _ (by rw [midTo_length (by rw [HLn.out]; exact hk)]; exact hj)]
          show (ByteArray.extract _ 4 8).size ≤ 2000000
          rw [ByteArray.size_extract]
          omega)
        have y0 := SW.out.box.cell (j := 0) rfl
        have y1 := SW.out.box.cell (j := 1) rfl
        have y2 := SW.out.box.cell (j := 2) rfl
        have y3 := SW.out.box.cell (j := 3) rfl
        have y4 := SW.out.box.cell (j := 4) rfl
        have y5 := SW.out.box.cell (j := 5) rfl
        by_cases hlt : k < 8
        · have d3 := HC.out SW.out.below k hlt
          obtain ⟨x, hx⟩ : ∃ x, L.getD k default = x := ⟨_, rfl⟩
          have hxs : x.size = 8 := by rw [← hx]; exact H8.out k hlt
          rw [hx] at d3
          have HX := Lib.hid hx
          clear hx
          by_cases hxz : x = T
          · subst hxz
            have HST : Hid (stopOf L = k) := Lib.hid (stop_at hk2 (by omega) HF.out (.inr (by rw [HX.out, ← HT.out]; rfl)))
            have HI : Hid (inoOf L = ⟨1, sz, gn, x1, (midTo L k).map recOf, []⟩) := Lib.hid (by unfold inoOf inoTo; rw [HKK.out, HX0.out, HSZ.out, HGN.out, HST.out, HX1.out, if_pos rfl, if_pos rfl, if_neg (by decide)])
            go_wp2_with fail
            refine (specInoWords_any 1 sz gn x1 aR (k - 2) cR none 0 0 _ ((midTo L k).map recOf) [] HZB.out (srcRec_of_own HW.out) HFit.out (SrcE.nil _ _ _) (fun j hj => absurd hj (Nat.not_lt_zero _))).mono ?_
            rintro e w6 ⟨v6, rfl, hown6, hb6⟩
            obtain ⟨a6, c6, rfl, _, _, _⟩ := own_form hown6
            have R6 := Lib.hid (srcT_of_own hown6)
            have S6 := Lib.hid (SW.out.call hb6)
            have HW6 := Lib.hid (own_below HW.out hb6)
            have L6 : Hid ((inoWordsB ⟨1, sz, gn, x1, (midTo L k).map recOf, []⟩).length ≤ 8) := Lib.hid (inoWords_le _)
            clear hown6 hb6 y0 y1 y2 y3 y4 y5 HW
            go_wp2_with fail
            refine (wordsEq_any _ _ _ 8 _ _ _ L _ (by have := L6.out; omega) R6.out (HS.out.below S6.out.below (Nat.le_refl _)) (readInoB L) (by rw [readInoB_iff HLn.out, HI.out])).mono ?_
            rintro e w7 ⟨rfl, q7, rfl⟩
            have S7 := Lib.hid (S6.out.drewN q7)
            have HW7 : Hid ((w6.drewN q7).ownsRow (w.heap.size + 2) 66 3 (.slice aR (k - 2) cR) (k - 2) (cellsE encRec ((midTo L k).map recOf))) := Lib.hid HW6.out
            have y0 := S7.out.box.cell (j := 0) rfl
            have y1 := S7.out.box.cell (j := 1) rfl
            have y2 := S7.out.box.cell (j := 2) rfl
            have y3 := S7.out.box.cell (j := 3) rfl
            have y4 := S7.out.box.cell (j := 4) rfl
            have y5 := S7.out.box.cell (j := 5) rfl
            have r0 := S7.out.res.cell (j := 0) rfl
            have r1 := S7.out.res.cell (j := 1) rfl
            have r2 := S7.out.res.cell (j := 2) rfl
            have r3 := S7.out.res.cell (j := 3) rfl
            have r4 := S7.out.res.cell (j := 4) rfl
            have r5 := S7.out.res.cell (j := 5) rfl
            have f0 := S7.out.res.fr (o := 0)
            have f1 := S7.out.res.fr (o := 1)
            have f2 := S7.out.res.fr (o := 2)
            have f3 := S7.out.res.fr (o := 3)
            have f4 := S7.out.res.fr (o := 4)
            have f5 := S7.out.res.fr (o := 5)
            by_cases hok : ReadOk L
            · have HOK := Lib.hid hok
              have hrb := readInoB_yes hok
              rw [hrb]
              clear hok hrb
              have qf := ((((((S7.out.res.set 0 (.int .i64 1)).set 1 (.int .i64 sz)).set 2 (.int .i64 gn)).set 3 (.string x1)).set 4 (.slice aR (k - 2) cR)).set 5 (.slice none 0 0))
              have q0 := qf.cell (j := 0) (v := .int .i64 1) rfl
              have q1 := qf.cell (j := 1) (v := .int .i64 sz) rfl
              have q2 := qf.cell (j := 2) (v := .int .i64 gn) rfl
              have q3 := qf.cell (j := 3) (v := .string x1) rfl
              have q4 := qf.cell (j := 4) (v := .slice aR (k - 2) cR) rfl
              have q5 := qf.cell (j := 5) (v := .slice none 0 0) rfl
              clear qf
              go_wp2
              refine bodyPost_ret (v := .tuple #[.agg #[.int .i64 1, .int .i64 sz, .int .i64 gn, .string x1, .slice aR (k - 2) cR, .slice none 0 0], .bool true]) ?_ rfl (gives_rec sz gn x1 aR (k - 2) cR L w HOK.out HI.out HLm.out (ownE_but HW7.out (((((((ButE.refl w.heap.size _).then_set _ _).then_set _ _).then_set _ _).then_set _ _).then_set _ _).then_set _ _) (fun g hg => by have := own_block_ge HW7.out g hg; omega)) ((((((S7.out.below.setCell (Nat.le_refl _) _).setCell (Nat.le_refl _) _).setCell (Nat.le_refl _) _).setCell (Nat.le_refl _) _).setCell (Nat.le_refl _) _).setCell (Nat.le_refl _) _))
              simp [results, Tryd.results36, go_sem, q0, q1, q2, q3, q4, q5]
            · have HOK := Lib.hid hok
              have hrb := readInoB_no hok
              rw [hrb]
              clear hok hrb
              have qf := ((((((S7.out.res.set 0 (.int .i64 0)).set 1 (.int .i64 0)).set 2 (.int .i64 0)).set 3 (.string ⟨#[]⟩)).set 4 (.slice none 0 0)).set 5 (.slice none 0 0))
              have q0 := qf.cell (j := 0) (v := .int .i64 0) rfl
              have q1 := qf.cell (j := 1) (v := .int .i64 0) rfl
              have q2 := qf.cell (j := 2) (v := .int .i64 0) rfl
              have q3 := qf.cell (j := 3) (v := .string ⟨#[]⟩) rfl
              have q4 := qf.cell (j := 4) (v := .slice none 0 0) rfl
              have q5 := qf.cell (j := 5) (v := .slice none 0 0) rfl
              clear qf
              go_wp2
              refine bodyPost_ret (v := .tuple #[.agg #[.int .i64 0, .int .i64 0, .int .i64 0, .string ⟨#[]⟩, .slice none 0 0, .slice none 0 0], .bool false]) ?_ rfl (gives_zero L w ((((((S7.out.below.setCell (Nat.le_refl _) _).setCell (Nat.le_refl _) _).setCell (Nat.le_refl _) _).setCell (Nat.le_refl _) _).setCell (Nat.le_refl _) _).setCell (Nat.le_refl _) _) HOK.out rfl)
              simp [results, Tryd.results36, go_sem, q0, q1, q2, q3, q4, q5]
          · have i1 := text_neB hxz
            have i2 : (x.toList != T.toList) = true := by simp only [bne, i1]; rfl
            have i3 := text_ne hxz
            have HF2 : Hid (Filled L (k + 1)) := Lib.hid (filled_step HF.out (by rw [HX.out]; intro e; exact hxz (by rw [e, ← HT.out]; rfl)))
            clear hxz
            go_wp2_with fail
            refine (specReadRec_any x _ (by omega)).mono ?_
            by_cases hR : RecOk (recOf x)
            · rw [show recReadR x = recOf x from if_pos ⟨hxs, hR⟩, show recReadB x = true from decide_eq_true ⟨hxs, hR⟩]
              obtain ⟨⟨p, q, m⟩, hr⟩ : ∃ r, recOf x = r := ⟨_, rfl⟩
              have HR := Lib.hid hr
              rw [hr]
              clear hr hR
              rintro e w1 ⟨rfl, hb1⟩
              have HW1 := Lib.hid (own_below HW.out hb1)
              have S1 := Lib.hid (SW.out.call hb1)
              have Z1 : Hid (w.heap.size + 2 ≤ w1.heap.size) := Lib.hid S1.out.size
              clear hb1 y0 y1 y2 y3 y4 y5 d3
              have y0 := S1.out.box.cell (j := 0) rfl
              have S1a := Lib.hid (S1.out.call (below_bk w1 (.cells #[.int .i64 p, .int .i64 q, .string m] 66)))
              have y4 := S1a.out.box.cell (j := 4) rfl
              have K1 : Hid (k + 1 - 2 = k - 2 + 1) := Lib.hid (by omega)
              have hwn : Hid (cellsE encRec ((midTo L k).map recOf) ++ [.int .i64 p, .int .i64 q, .string m] = cellsE encRec ((midTo L (k + 1)).map recOf)) := Lib.hid (by
                rw [midTo_next hk2 (by rw [HLn.out]; exact hlt), List.map_append, cellsE_append, HX.out]
                show _ = _ ++ cellsE encRec [recOf x]
                rw [HR.out, cellsE_one]; rfl)
              go_wp2_with (first
                | (at_builtin; refine wpList_append_own _ rfl (.tmp 84) (.tmp 86) 51 rfl (w.heap.size + 2) 66 i0 (.agg #[.int .i64 0, .int .i64 0, .string ByteArray.empty]) 3 32 Tryd.underlying51 hi hz0 hz1 hz2 rfl (by decide) _ _ _ rfl ((HW1.out.alloc _).alloc _) ⟨w1.heap.size + 1, 0, none⟩ 1 1 [.int .i64 p, .int .i64 q, .string m] rfl rfl (World.news_of_block (by simpa using heap_alloc_new (w1.alloc (.cells #[.int .i64 p, .int .i64 q, .string m] 66)) (.cells #[.int .i64 p, .int .i64 q, .string m] 66))) (by simp [Value.oneCell']) (by unfold maxLen; omega) (by omega) (by have := Z1.out; simp; omega) ?_; intro v2 w2 hown2 hgrow2 hn2
                   rw [hwn.out] at hown2
                   obtain ⟨aR2, cR2, rfl, _, _, hg2⟩ := ownE_form hown2
                   have S2 := Lib.hid ((S1a.out.call (below_bk _ (.cells #[.int .i64 p, .int .i64 q, .string m] 66))).grown hgrow2 (fun g hg => own_block_ge HW1.out g hg))
                   have x4 := S2.out.box.cell (j := 4) rfl
                   have z4 := S2.out.box.fr (o := 4)
                   have x0' := S2.out.box.cell (j := 0) rfl
                   have S3 := Lib.hid (S2.out.set 4 (.slice aR2 (k - 2 + 1) cR2))
                   have HW3 := Lib.hid (ownE_but hown2 ((ButE.refl (w.heap.size + 1) w2).then_set 4 (.slice aR2 (k - 2 + 1) cR2)) (fun g hg => by have := own_block_ge hown2 g hg; omega))
                   clear hown2 hgrow2 hn2 hg2 y0 y4))
              go_roundw
              case rel => exact ⟨k + 1, aR2, cR2, by omega, by omega, by go_num, HF2, Lib.hid (by rw [K1.out]; exact S3.out), Lib.hid (by rw [K1.out]; exact HW3.out)⟩
              case measure => (simp [intOf]; try omega)
            · have HL : Hid (¬ ReadOk L) := Lib.hid (read_badRec hk2 hlt HLn.out HKK.out HF2.out (by rw [HX.out]; exact hR))
              rw [show recReadR x = ⟨0, 0, ⟨#[]⟩⟩ from if_neg (fun e => hR e.2), show recReadB x = false from decide_eq_false (fun e => hR e.2)]
              clear hR
              rintro e w1 ⟨rfl, hb1⟩
              have S7 := Lib.hid ((SW.out.call hb1).call (below_bk w1 (.cells #[.int .i64 0, .int .i64 0, .string ⟨#[]⟩] 66)))
              clear hb1 y0 y1 y2 y3 y4 y5 d3 HW
              have r0 := S7.out.res.cell (j := 0) rfl
              have r1 := S7.out.res.cell (j := 1) rfl
              have r2 := S7.out.res.cell (j := 2) rfl
              have r3 := S7.out.res.cell (j := 3) rfl
              have r4 := S7.out.res.cell (j := 4) rfl
              have r5 := S7.out.res.cell (j := 5) rfl
              have f0 := S7.out.res.fr (o := 0)
              have f1 := S7.out.res.fr (o := 1)
              have f2 := S7.out.res.fr (o := 2)
              have f3 := S7.out.res.fr (o := 3)
              have f4 := S7.out.res.fr (o := 4)
              have f5 := S7.out.res.fr (o := 5)
              have qf := ((((((S7.out.res.set 0 (.int .i64 0)).set 1 (.int .i64 0)).set 2 (.int .i64 0)).set 3 (.string ⟨#[]⟩)).set 4 (.slice none 0 0)).set 5 (.slice none 0 0))
              have q0 := qf.cell (j := 0) (v := .int .i64 0) rfl
              have q1 := qf.cell (j := 1) (v := .int .i64 0) rfl
              have q2 := qf.cell (j := 2) (v := .int .i64 0) rfl
              have q3 := qf.cell (j := 3) (v := .string ⟨#[]⟩) rfl
              have q4 := qf.cell (j := 4) (v := .slice none 0 0) rfl
              have q5 := qf.cell (j := 5) (v := .slice none 0 0) rfl
              clear qf
              go_wp2
              refine bodyPost_ret (v := .tuple #[.agg #[.int .i64 0, .int .i64 0, .int .i64 0, .string ⟨#[]⟩, .slice none 0 0, .slice none 0 0], .bool false]) ?_ rfl (gives_zero L w ((((((S7.out.below.setCell (Nat.le_refl _) _).setCell (Nat.le_refl _) _).setCell (Nat.le_refl _) _).setCell (Nat.le_refl _) _).setCell (Nat.le_refl _) _).setCell (Nat.le_refl _) _) HL.out rfl)
              simp [results, Tryd.results36, go_sem, q0, q1, q2, q3, q4, q5]
        · obtain rfl : k = 8 := by omega
          have HST : Hid (stopOf L = 8) := Lib.hid (stop_at hk2 (by omega) HF.out (.inl rfl))
          have HI : Hid (inoOf L = ⟨1, sz, gn, x1, (midTo L 8).map recOf, []⟩) := Lib.hid (by unfold inoOf inoTo; rw [HKK.out, HX0.out, HSZ.out, HGN.out, HST.out, HX1.out, if_pos rfl, if_pos rfl, if_neg (by decide)])
          go_wp2_with fail
          refine (specInoWords_any 1 sz gn x1 aR (8 - 2) cR none 0 0 _ ((midTo L 8).map recOf) [] HZB.out (srcRec_of_own HW.out) HFit.out (SrcE.nil _ _ _) (fun j hj => absurd hj (Nat.not_lt_zero _))).mono ?_
          rintro e w6 ⟨v6, rfl, hown6, hb6⟩
          obtain ⟨a6, c6, rfl, _, _, _⟩ := own_form hown6
          have R6 := Lib.hid (srcT_of_own hown6)
          have S6 := Lib.hid (SW.out.call hb6)
          have HW6 := Lib.hid (own_below HW.out hb6)
          have L6 : Hid ((inoWordsB ⟨1, sz, gn, x1, (midTo L 8).map recOf, []⟩).length ≤ 8) := Lib.hid (inoWords_le _)
          clear hown6 hb6 y0 y1 y2 y3 y4 y5 HW
          go_wp2_with fail
          refine (wordsEq_any _ _ _ 8 _ _ _ L _ (by have := L6.out; omega) R6.out (HS.out.below S6.out.below (Nat.le_refl _)) (readInoB L) (by rw [readInoB_iff HLn.out, HI.out])).mono ?_
          rintro e w7 ⟨rfl, q7, rfl⟩
          have S7 := Lib.hid (S6.out.drewN q7)
          have HW7 : Hid ((w6.drewN q7).ownsRow (w.heap.size + 2) 66 3 (.slice aR (8 - 2) cR) (8 - 2) (cellsE encRec ((midTo L 8).map recOf))) := Lib.hid HW6.out
          have y0 := S7.out.box.cell (j := 0) rfl
          have y1 := S7.out.box.cell (j := 1) rfl
          have y2 := S7.out.box.cell (j := 2) rfl
          have y3 := S7.out.box.cell (j := 3) rfl
          have y4 := S7.out.box.cell (j := 4) rfl
          have y5 := S7.out.box.cell (j := 5) rfl
          have r0 := S7.out.res.cell (j := 0) rfl
          have r1 := S7.out.res.cell (j := 1) rfl
          have r2 := S7.out.res.cell (j := 2) rfl
          have r3 := S7.out.res.cell (j := 3) rfl
          have r4 := S7.out.res.cell (j := 4) rfl
          have r5 := S7.out.res.cell (j := 5) rfl
          have f0 := S7.out.res.fr (o := 0)
          have f1 := S7.out.res.fr (o := 1)
          have f2 := S7.out.res.fr (o := 2)
          have f3 := S7.out.res.fr (o := 3)
          have f4 := S7.out.res.fr (o := 4)
          have f5 := S7.out.res.fr (o := 5)
          by_cases hok : ReadOk L
          · have HOK := Lib.hid hok
            have hrb := readInoB_yes hok
            rw [hrb]
            clear hok hrb
            have qf := ((((((S7.out.res.set 0 (.int .i64 1)).set 1 (.int .i64 sz)).set 2 (.int .i64 gn)).set 3 (.string x1)).set 4 (.slice aR (8 - 2) cR)).set 5 (.slice none 0 0))
            have q0 := qf.cell (j := 0) (v := .int .i64 1) rfl
            have q1 := qf.cell (j := 1) (v := .int .i64 sz) rfl
            have q2 := qf.cell (j := 2) (v := .int .i64 gn) rfl
            have q3 := qf.cell (j := 3) (v := .string x1) rfl
            have q4 := qf.cell (j := 4) (v := .slice aR (8 - 2) cR) rfl
            have q5 := qf.cell (j := 5) (v := .slice none 0 0) rfl
            clear qf
            go_wp2
            refine bodyPost_ret (v := .tuple #[.agg #[.int .i64 1, .int .i64 sz, .int .i64 gn, .string x1, .slice aR (8 - 2) cR, .slice none 0 0], .bool true]) ?_ rfl (gives_rec sz gn x1 aR (8 - 2) cR L w HOK.out HI.out HLm.out (ownE_but HW7.out (((((((ButE.refl w.heap.size _).then_set _ _).then_set _ _).then_set _ _).then_set _ _).then_set _ _).then_set _ _) (fun g hg => by have := own_block_ge HW7.out g hg; omega)) ((((((S7.out.below.setCell (Nat.le_refl _) _).setCell (Nat.le_refl _) _).setCell (Nat.le_refl _) _).setCell (Nat.le_refl _) _).setCell (Nat.le_refl _) _).setCell (Nat.le_refl _) _))
            simp [results, Tryd.results36, go_sem, q0, q1, q2, q3, q4, q5]
          · have HOK := Lib.hid hok
            have hrb := readInoB_no hok
            rw [hrb]
            clear hok hrb
            have qf := ((((((S7.out.res.set 0 (.int .i64 0)).set 1 (.int .i64 0)).set 2 (.int .i64 0)).set 3 (.string ⟨#[]⟩)).set 4 (.slice none 0 0)).set 5 (.slice none 0 0))
            have q0 := qf.cell (j := 0) (v := .int .i64 0) rfl
            have q1 := qf.cell (j := 1) (v := .int .i64 0) rfl
            have q2 := qf.cell (j := 2) (v := .int .i64 0) rfl
            have q3 := qf.cell (j := 3) (v := .string ⟨#[]⟩) rfl
            have q4 := qf.cell (j := 4) (v := .slice none 0 0) rfl
            have q5 := qf.cell (j := 5) (v := .slice none 0 0) rfl
            clear qf
            go_wp2
            refine bodyPost_ret (v := .tuple #[.agg #[.int .i64 0, .int .i64 0, .int .i64 0, .string ⟨#[]⟩, .slice none 0 0, .slice none 0 0], .bool false]) ?_ rfl (gives_zero L w ((((((S7.out.below.setCell (Nat.le_refl _) _).setCell (Nat.le_refl _) _).setCell (Nat.le_refl _) _).setCell (Nat.le_refl _) _).setCell (Nat.le_refl _) _).setCell (Nat.le_refl _) _) HOK.out rfl)
            simp [results, Tryd.results36, go_sem, q0, q1, q2, q3, q4, q5]
end
end Go.Proofs.YtmkchilhnmkhkaaDoor
