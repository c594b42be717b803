/- Merged texts: ReadInoImpl, RecEq, RecsEq, Apart, MarkText, MarkAt, RecC, EntsEq. -/
import Derived.Test.YtmkchilhnmkhkaaDoorPQI
import Derived.Test.YtmkchilhnmkhkaaDoorRows
import Derived.WalkKit
import Derived.WalkSpells
import Derived.WalkLawsBesides
import Derived.Lib.Hide
import Derived.Deep.QuietTactic
import Derived.BigQuiet
import Derived.Deep.RegionHeld3
namespace Go.Proofs.YtmkchilhnmkhkaaDoor
open Go.RowKit Go.Proofs.YtmkchilhnmkhkaaDoor.Parts Go.Proofs.YtmkchilhnmkhkaaDoor.Hexa Go.Proofs.YtmkchilhnmkhkaaDoor.Byt

/-- The result's box, the inode's box, and nothing else of the old world written. -/
structure PSt (w : World) (bx : Nat) (cs : Array Value) (wr : World) : Prop where
  res : Bk wr w.heap.size zeroCs 54
  box : Bk wr bx cs 54
  lt : w.heap.size < bx
  below : Below w.heap.size w wr
section
variable {w wr w' : World} {bx : Nat} {cs : Array Value}
theorem PSt.call (h : PSt w bx cs wr) (hb : Below wr.heap.size wr w') : PSt w bx cs w' := ⟨h.res.later hb, h.box.later hb, h.lt, below_on h.below (Nat.le_refl _) hb⟩
theorem PSt.drewN (h : PSt w bx cs wr) (n : Nat) : PSt w bx cs (wr.drewN n) := ⟨h.res, h.box, h.lt, below_drewsN h.below n⟩
theorem PSt.set (h : PSt w bx cs wr) (j : Nat) (v : Value) : PSt w bx (cs.setIfInBounds j v) (wr.setCell ⟨bx, j, none⟩ v) :=
  ⟨h.res.other (Nat.ne_of_lt h.lt) v, h.box.set j v, h.lt, h.below.setCell (Nat.le_of_lt h.lt) v⟩
theorem PSt.start {w w0 w1 : World} (hr : Bk w0 w.heap.size zeroCs 54) (hb0 : Below w.heap.size w w0) (hb : Below w0.heap.size w0 w1) (cs : Array Value) : PSt w w1.heap.size cs (w1.alloc (.cells cs 54)) :=
  ⟨(hr.later hb).later (below_bk _ _), Bk.alloc _ _ _, Nat.lt_of_lt_of_le hr.lt hb.size, below_on (below_on hb0 (Nat.le_refl _) hb) (Nat.le_refl _) (below_bk _ _)⟩
end
theorem while_le {α : Type} (p : α → Bool) : ∀ L : List α, (L.takeWhile p).length ≤ L.length
  | [] => Nat.le_refl _
  | x :: r => by
    rw [List.takeWhile]
    have := while_le p r
    split
    · simpa using this
    · exact Nat.zero_le _
theorem numAtV_two (s : ByteArray) (a : Int) : -9223372036854775808 ≤ numAtV s a 2 ∧ numAtV s a 2 ≤ 9223372036854775807 := by
  by_cases h : 0 ≤ a ∧ a ≤ (s.size : Int) - 2
  · obtain ⟨n, rfl⟩ : ∃ n : Nat, a = n := ⟨a.toNat, by omega⟩
    have h9 := numAtV_lt s n 2 (by omega) (by omega)
    have h10 : ((256 : Int) ^ 2) = 65536 := by decide
    rw [h10] at h9
    have h1 : 0 ≤ numAtV s n 2 := h9.1
    have h2 : numAtV s n 2 < 65536 := h9.2
    omega
  · have e : numAtV s a 2 = 0 := by unfold numAtV; rw [if_neg (fun x => h x.2)]
    rw [e]; omega
theorem gives_got {L : List ByteArray} {w w' : World} {kd sz gn : Int} {key : ByteArray} {R : List RecR} {E : List EntryR} {aR aE : Option Addr} {nR cR nE cE : Nat} (h8 : L.length = 8) (hok : readInoB L = true) (hG : inoGot L = ⟨kd, sz, gn, key, R, E⟩) (hn : R.length = nR) (hn' : E.length = nE)
    (hR : w'.ownsRow w.heap.size 66 3 (.slice aR nR cR) nR (cellsE encRec R)) (hE : w'.ownsRow w.heap.size 47 2 (.slice aE nE cE) nE (cellsE encEntry E)) (hx : aR = none ∨ aE = none) (hb : Below w.heap.size w w') {e : Ending}
    (he : e = .returned (.tuple #[.agg #[.int .i64 kd, .int .i64 sz, .int .i64 gn, .string key, .slice aR nR cR, .slice aE nE cE], .bool true])) : GivesIno (readInoR L) (readInoB L) w e w' := by
  subst hn hn'
  rw [got_eq h8 hok, hG, hok]
  exact ⟨aR, cR, aE, cE, he, hR, hE, hx, hb⟩
theorem drop_two {L : List ByteArray} {w w' : World} {g off : Nat} (h8 : L.length = 8) (hg : g < w.heap.size) (hb : Below w.heap.size w w') (h : ∀ j, j < 8 → w'.cell? ⟨g, off + j, none⟩ = some (.string (L.getD j default))) : SrcT w' (some ⟨g, off + 2, none⟩) 6 (L.drop 2) :=
  ⟨by rw [List.length_drop, h8], fun j hj => ⟨g, off + 2, rfl, Nat.lt_of_lt_of_le hg hb.size, fun o v hv => by
    match o, hv with
    | 0, hv =>
      have e : (L.drop 2).getD j default = L.getD (j + 2) default := by simp only [List.getD, List.getElem?_drop, Nat.add_comm]
      rw [e] at hv
      cases hv
      have := h (j + 2) (by omega)
      rw [show off + 2 + j * encT.k + 0 = off + (j + 2) from by show off + 2 + j * 1 + 0 = _; omega]
      exact this
    | o + 1, hv => simp [encT] at hv⟩⟩
theorem drop_fit {L : List ByteArray} {b : Nat} (hf : ∀ j, j < 8 → (L.getD j default).size ≤ b) : ∀ j, j < 6 → ((L.drop 2).getD j default).size ≤ b := fun j hj => by
  have e : (L.drop 2).getD j default = L.getD (j + 2) default := by simp only [List.getD, List.getElem?_drop, Nat.add_comm]
  rw [e]; exact hf _ (by omega)

set_option maxRecDepth 100000 in
set_option maxHeartbeats 4000000 in
theorem implReadIno_file (a : Option Addr) (c : Nat) (L : List ByteArray) (w : World) (hc : 8 ≤ c) (hcm : c ≤ 9223372036854775807) (hs : SrcT w a 8 L) (hf : ∀ j, j < 8 → (L.getD j default).size ≤ 1048576) (hk : gotKind L = 1) : Calls Tryd.prog 38 #[.slice a 8 c] w (GivesIno (readInoR L) (readInoB L) w) := by
  have HLn : Hid (L.length = 8) := Lib.hid hs.len
  have HS := Lib.hid hs
  have HF := Lib.hid hf
  have B0 := Lib.hid (below_bk w (inoObj 0 0 0 ⟨#[]⟩ none 0 0 none 0 0))
  have R0 := Lib.hid (Bk.alloc w zeroCs 54)
  obtain ⟨g, off, ha, hg, _⟩ := srcT_at hs 0 (by omega)
  have HC : Hid (∀ {w' : World}, Below w.heap.size w w' → ∀ j, j < 8 → w'.cell? ⟨g, off + j, none⟩ = some (.string (L.getD j default))) := Lib.hid (fun hb j hj => by
    obtain ⟨g', off', ha', _, d⟩ := srcT_later HS.out hb (Nat.le_refl _) j hj
    rw [ha] at ha'; cases ha'
    exact d)
  obtain ⟨x0, hx0⟩ : ∃ x, L.getD 0 default = x := ⟨_, rfl⟩
  obtain ⟨x1, hx1⟩ : ∃ x, L.getD 1 default = x := ⟨_, rfl⟩
  have hx0s : Hid (x0.size ≤ 1048576) := Lib.hid (by rw [← hx0]; exact hf 0 (by omega))
  have hx1s : Hid (x1.size ≤ 1048576) := Lib.hid (by rw [← hx1]; exact hf 1 (by omega))
  obtain ⟨sz, hsz⟩ : ∃ z : Int, numAtV x0 1 2 = z := ⟨_, rfl⟩
  obtain ⟨gn, hgn⟩ : ∃ z : Int, numAtV x0 3 2 = z := ⟨_, rfl⟩
  have HZB : Hid (-9223372036854775808 ≤ sz ∧ sz ≤ 9223372036854775807) := Lib.hid (by rw [← hsz]; exact numAtV_two x0 1)
  have HKD : Hid (numAtV x0 0 1 = 1) := Lib.hid (by rw [← hx0]; exact hk)
  have HGot : Hid (inoGot L = ⟨1, sz, gn, x1, (leadRecs (L.drop 2)), []⟩) := Lib.hid (by
    unfold inoGot
    rw [hk, hx0, hx1, hsz, hgn]
    rfl)
  have HX0 := Lib.hid hx0
  have HX1 := Lib.hid hx1
  have HSZ := Lib.hid hsz
  have HGN := Lib.hid hgn
  have HCB : Hid (∀ W : World, Calls Tryd.prog 79 #[.agg #[.int .i64 1, .int .i64 sz, .int .i64 gn, .string ⟨#[]⟩, .slice none 0 0, .slice none 0 0]] W fun e w' => e = .returned (.iface 100 (.agg #[.int .i64 sz, .string ⟨#[]⟩, .slice none 0 0])) ∧ Below W.heap.size W w') := Lib.hid (fun W => implBody_any 1 sz gn ⟨#[]⟩ none 0 0 none 0 0 W)
  have hgne : ¬ g = w.heap.size := by omega
  subst ha
  clear hs hf hx0 hx1 hsz hgn hk
  go_enter Tryd.func38, Tryd.ntmps38
  have d0 := HC.out B0.out 0 (by omega)
  rw [HX0.out, Nat.add_zero] at d0
  go_wp2_with fail
  refine (implHead_any x0 _ (by have := hx0s.out; omega)).mono ?_
  rw [HKD.out, HSZ.out, HGN.out]
  rintro e w1 ⟨rfl, hb1⟩
  obtain ⟨bx, hbx⟩ : ∃ b, w1.heap.size = b := ⟨_, rfl⟩
  have S2 : Hid (PSt w bx (inoCs 1 sz gn ⟨#[]⟩ none 0 0 none 0 0) (w1.alloc (inoObj 1 sz gn ⟨#[]⟩ none 0 0 none 0 0))) := Lib.hid (by rw [← hbx]; exact PSt.start R0.out B0.out hb1 _)
  have hbg : w.heap.size < bx := S2.out.lt
  have hgb : ¬ g = bx := by omega
  have hgb2 : ¬ bx = g := by omega
  have BX := Lib.hid hbx
  clear hb1 d0
  go_wp2_with fail
  obtain ⟨w2, h2w⟩ : ∃ x, x = w1.alloc (inoObj 1 sz gn ⟨#[]⟩ none 0 0 none 0 0) := ⟨_, rfl⟩
  rw [← h2w] at S2 ⊢
  clear h2w hbx
  refine (HCB.out _).mono ?_
  rintro e w3 ⟨rfl, hb3⟩
  have S3 := Lib.hid (S2.out.call hb3)
  clear hb3 S2
  have a1 := as_file (.agg #[.int .i64 sz, .string ⟨#[]⟩, .slice none 0 0]) w3
  have d1 := HC.out S3.out.below 1 (by omega)
  rw [HX1.out] at d1
  go_wp2_with fail
  refine (cloneText_any x1 _ (by have := hx1s.out; omega)).mono ?_
  rintro e w4 ⟨rfl, hb4⟩
  have S4 := Lib.hid (S3.out.call hb4)
  have y3 := S4.out.box.cell (j := 3) rfl
  have z3 := S4.out.box.fr (o := 3)
  have S5 := Lib.hid (S4.out.set 3 (.string x1))
  clear hb4 d1
  go_wp2_with fail
  clear y3 z3
  obtain ⟨W5, h5⟩ : ∃ x, x = w4.setCell ⟨bx, 3, none⟩ (.string x1) := ⟨_, rfl⟩
  rw [← h5] at S5 ⊢
  clear h5
  refine (implLeadRecs_any (some ⟨g, off + 2, none⟩) 6 (c - 2) (L.drop 2) _ (drop_two HLn.out hg S5.out.below (fun j hj => HC.out S5.out.below j hj)) (drop_fit HF.out) (by decide)).mono ?_
  rintro e w6 ⟨aX, cX, rfl, hown6, hb6⟩
  obtain ⟨nX, hnX⟩ : ∃ n, (leadRecs (L.drop 2)).length = n := ⟨_, rfl⟩
  rw [hnX] at hown6 ⊢
  have HNX := Lib.hid hnX
  have L5 : Hid (bx < W5.heap.size) := Lib.hid S5.out.box.lt
  have S6 := Lib.hid (S5.out.call hb6)
  have HNX9 : Hid (nX ≤ 6) := Lib.hid (by rw [← hnX]; unfold leadRecs; rw [List.length_map]; exact Nat.le_trans (while_le _ _) (by rw [List.length_drop, HLn.out]; omega))
  have y4 := S6.out.box.cell (j := 4) rfl
  have z4 := S6.out.box.fr (o := 4)
  have S7 := Lib.hid (S6.out.set 4 (.slice aX nX cX))
  have O7 := Lib.hid (ownE_but hown6 ((ButE.refl bx w6).then_set 4 (.slice aX nX cX)) (fun g hg => by have := (hown6.lt g hg).1; have := L5.out; omega))
  clear hb6 hown6 hnX
  have y0 := S7.out.box.cell (j := 0) rfl
  have y1 := S7.out.box.cell (j := 1) rfl
  have y2 := S7.out.box.cell (j := 2) rfl
  have y3 := S7.out.box.cell (j := 3) rfl
  have y4 := S7.out.box.cell (j := 4) rfl
  have y5 := S7.out.box.cell (j := 5) rfl
  go_wp2_with fail
  refine (implInoWords_any sz gn x1 aX nX cX none 0 0 _ (leadRecs (L.drop 2)) [] 1 HZB.out (by omega) (srcRec_of_own O7.out) (leadRecs_fit _ _) (SrcE.nil _ _ _) (fun j hj => absurd hj (Nat.not_lt_zero _))).mono ?_
  rintro e w8 ⟨v8, rfl, hown8, hb8⟩
  obtain ⟨a8, c8, rfl, _, _, _⟩ := own_form hown8
  have R8 := Lib.hid (srcT_of_own hown8)
  have S8 := Lib.hid (S7.out.call hb8)
  have O8 := Lib.hid (own_below O7.out hb8)
  have L8 : Hid ((inoWordsB ⟨1, sz, gn, x1, (leadRecs (L.drop 2)), []⟩).length ≤ 8) := Lib.hid (inoWords_le _)
  clear hown8 hb8 y0 y1 y2 y3 y4 y5
  go_wp2_with fail
  refine (implEqual_any _ _ _ 8 _ _ _ L _ (by have := L8.out; omega) R8.out (HS.out.below S8.out.below (Nat.le_refl _)) (readInoB L) (by rw [got_iff HLn.out, HGot.out])).mono ?_
  rintro e w9 ⟨rfl, q9, hq9⟩
  have S9 : Hid (PSt w bx #[.int .i64 1, .int .i64 sz, .int .i64 gn, .string x1, .slice aX nX cX, .slice none 0 0] w9) := Lib.hid (by rw [hq9]; exact S8.out.drewN q9)
  have O9 : Hid (w9.ownsRow W5.heap.size 66 3 (.slice aX nX cX) nX (cellsE encRec (leadRecs (L.drop 2)))) := Lib.hid (by rw [hq9]; exact O8.out)
  clear hq9
  have y0 := S9.out.box.cell (j := 0) rfl
  have r0 := S9.out.res.cell (j := 0) rfl
  have f0 := S9.out.res.fr (o := 0)
  have y1 := S9.out.box.cell (j := 1) rfl
  have r1 := S9.out.res.cell (j := 1) rfl
  have f1 := S9.out.res.fr (o := 1)
  have y2 := S9.out.box.cell (j := 2) rfl
  have r2 := S9.out.res.cell (j := 2) rfl
  have f2 := S9.out.res.fr (o := 2)
  have y3 := S9.out.box.cell (j := 3) rfl
  have r3 := S9.out.res.cell (j := 3) rfl
  have f3 := S9.out.res.fr (o := 3)
  have y4 := S9.out.box.cell (j := 4) rfl
  have r4 := S9.out.res.cell (j := 4) rfl
  have f4 := S9.out.res.fr (o := 4)
  have y5 := S9.out.box.cell (j := 5) rfl
  have r5 := S9.out.res.cell (j := 5) rfl
  have f5 := S9.out.res.fr (o := 5)
  have hbw : ¬ bx = w.heap.size := by omega
  have hbw2 : ¬ w.heap.size = bx := by omega
  by_cases hok : readInoB L = true
  · have HOK := Lib.hid hok
    rw [hok]
    clear hok
    have qf := ((((((S9.out.res.set 0 (.int .i64 1)).set 1 (.int .i64 sz)).set 2 (.int .i64 gn)).set 3 (.string x1)).set 4 (.slice aX nX cX)).set 5 (.slice none 0 0))
    have q0 := qf.cell (j := 0) (v := .int .i64 1) rfl
    have q1 := qf.cell (j := 1) (v := .int .i64 sz) rfl
    have q2 := qf.cell (j := 2) (v := .int .i64 gn) rfl
    have q3 := qf.cell (j := 3) (v := .string x1) rfl
    have q4 := qf.cell (j := 4) (v := .slice aX nX cX) rfl
    have q5 := qf.cell (j := 5) (v := .slice none 0 0) rfl
    clear qf
    go_wp2
    refine bodyPost_ret (v := .tuple #[.agg #[.int .i64 1, .int .i64 sz, .int .i64 gn, .string x1, .slice aX nX cX, .slice none 0 0], .bool true]) ?_ rfl (gives_got HLn.out HOK.out HGot.out HNX.out rfl (ownE_mono (ownE_but O9.out (((((((ButE.refl w.heap.size _).then_set _ _).then_set _ _).then_set _ _).then_set _ _).then_set _ _).then_set _ _) (fun g hg => by have := (O9.out.lt g hg).1; have := L5.out; omega)) (by have := L5.out; omega)) ⟨rfl, .inl ⟨rfl, rfl⟩⟩ (.inr rfl) ((((((S9.out.below.setCell (Nat.le_refl _) _).setCell (Nat.le_refl _) _).setCell (Nat.le_refl _) _).setCell (Nat.le_refl _) _).setCell (Nat.le_refl _) _).setCell (Nat.le_refl _) _) rfl)
    simp [results, Tryd.results38, go_sem, q0, q1, q2, q3, q4, q5]
  · have HOK : Hid (¬ ReadOk L) := Lib.hid (fun h => hok (readInoB_yes h))
    rw [show readInoB L = false by simpa using hok]
    clear hok
    have qf := ((((((S9.out.res.set 0 (.int .i64 0)).set 1 (.int .i64 0)).set 2 (.int .i64 0)).set 3 (.string ⟨#[]⟩)).set 4 (.slice none 0 0)).set 5 (.slice none 0 0))
    have q0 := qf.cell (j := 0) (v := .int .i64 0) rfl
    have q1 := qf.cell (j := 1) (v := .int .i64 0) rfl
    have q2 := qf.cell (j := 2) (v := .int .i64 0) rfl
    have q3 := qf.cell (j := 3) (v := .string ⟨#[]⟩) rfl
    have q4 := qf.cell (j := 4) (v := .slice none 0 0) rfl
    have q5 := qf.cell (j := 5) (v := .slice none 0 0) rfl
    clear qf
    go_wp2
    refine bodyPost_ret (v := .tuple #[.agg #[.int .i64 0, .int .i64 0, .int .i64 0, .string ⟨#[]⟩, .slice none 0 0, .slice none 0 0], .bool false]) ?_ rfl (gives_zero L w ((((((S9.out.below.setCell (Nat.le_refl _) _).setCell (Nat.le_refl _) _).setCell (Nat.le_refl _) _).setCell (Nat.le_refl _) _).setCell (Nat.le_refl _) _).setCell (Nat.le_refl _) _) HOK.out rfl)
    simp [results, Tryd.results38, go_sem, q0, q1, q2, q3, q4, q5]

set_option maxRecDepth 100000 in
set_option maxHeartbeats 4000000 in
theorem implReadIno_dir (a : Option Addr) (c : Nat) (L : List ByteArray) (w : World) (hc : 8 ≤ c) (hcm : c ≤ 9223372036854775807) (hs : SrcT w a 8 L) (hf : ∀ j, j < 8 → (L.getD j default).size ≤ 1048576) (hk : gotKind L = 2) : Calls Tryd.prog 38 #[.slice a 8 c] w (GivesIno (readInoR L) (readInoB L) w) := by
  have HLn : Hid (L.length = 8) := Lib.hid hs.len
  have HS := Lib.hid hs
  have HF := Lib.hid hf
  have B0 := Lib.hid (below_bk w (inoObj 0 0 0 ⟨#[]⟩ none 0 0 none 0 0))
  have R0 := Lib.hid (Bk.alloc w zeroCs 54)
  obtain ⟨g, off, ha, hg, _⟩ := srcT_at hs 0 (by omega)
  have HC : Hid (∀ {w' : World}, Below w.heap.size w w' → ∀ j, j < 8 → w'.cell? ⟨g, off + j, none⟩ = some (.string (L.getD j default))) := Lib.hid (fun hb j hj => by
    obtain ⟨g', off', ha', _, d⟩ := srcT_later HS.out hb (Nat.le_refl _) j hj
    rw [ha] at ha'; cases ha'
    exact d)
  obtain ⟨x0, hx0⟩ : ∃ x, L.getD 0 default = x := ⟨_, rfl⟩
  obtain ⟨x1, hx1⟩ : ∃ x, L.getD 1 default = x := ⟨_, rfl⟩
  have hx0s : Hid (x0.size ≤ 1048576) := Lib.hid (by rw [← hx0]; exact hf 0 (by omega))
  have hx1s : Hid (x1.size ≤ 1048576) := Lib.hid (by rw [← hx1]; exact hf 1 (by omega))
  obtain ⟨sz, hsz⟩ : ∃ z : Int, numAtV x0 1 2 = z := ⟨_, rfl⟩
  obtain ⟨gn, hgn⟩ : ∃ z : Int, numAtV x0 3 2 = z := ⟨_, rfl⟩
  have HZB : Hid (-9223372036854775808 ≤ sz ∧ sz ≤ 9223372036854775807) := Lib.hid (by rw [← hsz]; exact numAtV_two x0 1)
  have HKD : Hid (numAtV x0 0 1 = 2) := Lib.hid (by rw [← hx0]; exact hk)
  have HGot : Hid (inoGot L = ⟨2, sz, gn, ⟨#[]⟩, [], (leadEnts (L.drop 2))⟩) := Lib.hid (by
    unfold inoGot
    rw [hk, hx0, hx1, hsz, hgn]
    rfl)
  have HX0 := Lib.hid hx0
  have HX1 := Lib.hid hx1
  have HSZ := Lib.hid hsz
  have HGN := Lib.hid hgn
  have HCB : Hid (∀ W : World, Calls Tryd.prog 79 #[.agg #[.int .i64 2, .int .i64 sz, .int .i64 gn, .string ⟨#[]⟩, .slice none 0 0, .slice none 0 0]] W fun e w' => e = .returned (.iface 103 (.agg #[.slice none 0 0])) ∧ Below W.heap.size W w') := Lib.hid (fun W => implBody_any 2 sz gn ⟨#[]⟩ none 0 0 none 0 0 W)
  have hgne : ¬ g = w.heap.size := by omega
  subst ha
  clear hs hf hx0 hx1 hsz hgn hk
  go_enter Tryd.func38, Tryd.ntmps38
  have d0 := HC.out B0.out 0 (by omega)
  rw [HX0.out, Nat.add_zero] at d0
  go_wp2_with fail
  refine (implHead_any x0 _ (by have := hx0s.out; omega)).mono ?_
  rw [HKD.out, HSZ.out, HGN.out]
  rintro e w1 ⟨rfl, hb1⟩
  obtain ⟨bx, hbx⟩ : ∃ b, w1.heap.size = b := ⟨_, rfl⟩
  have S2 : Hid (PSt w bx (inoCs 2 sz gn ⟨#[]⟩ none 0 0 none 0 0) (w1.alloc (inoObj 2 sz gn ⟨#[]⟩ none 0 0 none 0 0))) := Lib.hid (by rw [← hbx]; exact PSt.start R0.out B0.out hb1 _)
  have hbg : w.heap.size < bx := S2.out.lt
  have hgb : ¬ g = bx := by omega
  have hgb2 : ¬ bx = g := by omega
  have BX := Lib.hid hbx
  clear hb1 d0
  go_wp2_with fail
  obtain ⟨w2, h2w⟩ : ∃ x, x = w1.alloc (inoObj 2 sz gn ⟨#[]⟩ none 0 0 none 0 0) := ⟨_, rfl⟩
  rw [← h2w] at S2 ⊢
  clear h2w hbx
  refine (HCB.out _).mono ?_
  rintro e w3 ⟨rfl, hb3⟩
  have S3 := Lib.hid (S2.out.call hb3)
  clear hb3 S2
  have a1 := dir_no_file (.agg #[.slice none 0 0]) w3
  have a2 := as_dir (.agg #[.slice none 0 0]) w3
  have S5 := S3
  go_wp2_with fail
  obtain ⟨W5, h5⟩ : ∃ x, x = w3 := ⟨_, rfl⟩
  rw [← h5] at S5 ⊢
  clear h5
  refine (implLeadEnts_any (some ⟨g, off + 2, none⟩) 6 (c - 2) (L.drop 2) _ (drop_two HLn.out hg S5.out.below (fun j hj => HC.out S5.out.below j hj)) (drop_fit HF.out) (by decide)).mono ?_
  rintro e w6 ⟨aX, cX, rfl, hown6, hb6⟩
  obtain ⟨nX, hnX⟩ : ∃ n, (leadEnts (L.drop 2)).length = n := ⟨_, rfl⟩
  rw [hnX] at hown6 ⊢
  have HNX := Lib.hid hnX
  have L5 : Hid (bx < W5.heap.size) := Lib.hid S5.out.box.lt
  have S6 := Lib.hid (S5.out.call hb6)
  have HNX9 : Hid (nX ≤ 6) := Lib.hid (by rw [← hnX]; unfold leadEnts; rw [List.length_map]; exact Nat.le_trans (while_le _ _) (by rw [List.length_drop, HLn.out]; omega))
  have y5 := S6.out.box.cell (j := 5) rfl
  have z5 := S6.out.box.fr (o := 5)
  have S7 := Lib.hid (S6.out.set 5 (.slice aX nX cX))
  have O7 := Lib.hid (ownE_but hown6 ((ButE.refl bx w6).then_set 5 (.slice aX nX cX)) (fun g hg => by have := (hown6.lt g hg).1; have := L5.out; omega))
  clear hb6 hown6 hnX
  have y0 := S7.out.box.cell (j := 0) rfl
  have y1 := S7.out.box.cell (j := 1) rfl
  have y2 := S7.out.box.cell (j := 2) rfl
  have y3 := S7.out.box.cell (j := 3) rfl
  have y4 := S7.out.box.cell (j := 4) rfl
  have y5 := S7.out.box.cell (j := 5) rfl
  go_wp2_with fail
  refine (implInoWords_any sz gn ⟨#[]⟩ none 0 0 aX nX cX _ [] (leadEnts (L.drop 2)) 2 HZB.out (by have := HNX9.out; omega) (SrcE.nil _ _ _) (fun j hj => absurd hj (Nat.not_lt_zero _)) (srcEntry_of_own O7.out) (leadEnts_fit _ _)).mono ?_
  rintro e w8 ⟨v8, rfl, hown8, hb8⟩
  obtain ⟨a8, c8, rfl, _, _, _⟩ := own_form hown8
  have R8 := Lib.hid (srcT_of_own hown8)
  have S8 := Lib.hid (S7.out.call hb8)
  have O8 := Lib.hid (own_below O7.out hb8)
  have L8 : Hid ((inoWordsB ⟨2, sz, gn, ⟨#[]⟩, [], (leadEnts (L.drop 2))⟩).length ≤ 8) := Lib.hid (inoWords_le _)
  clear hown8 hb8 y0 y1 y2 y3 y4 y5
  go_wp2_with fail
  refine (implEqual_any _ _ _ 8 _ _ _ L _ (by have := L8.out; omega) R8.out (HS.out.below S8.out.below (Nat.le_refl _)) (readInoB L) (by rw [got_iff HLn.out, HGot.out])).mono ?_
  rintro e w9 ⟨rfl, q9, hq9⟩
  have S9 : Hid (PSt w bx #[.int .i64 2, .int .i64 sz, .int .i64 gn, .string ⟨#[]⟩, .slice none 0 0, .slice aX nX cX] w9) := Lib.hid (by rw [hq9]; exact S8.out.drewN q9)
  have O9 : Hid (w9.ownsRow W5.heap.size 47 2 (.slice aX nX cX) nX (cellsE encEntry (leadEnts (L.drop 2)))) := Lib.hid (by rw [hq9]; exact O8.out)
  clear hq9
  have y0 := S9.out.box.cell (j := 0) rfl
  have r0 := S9.out.res.cell (j := 0) rfl
  have f0 := S9.out.res.fr (o := 0)
  have y1 := S9.out.box.cell (j := 1) rfl
  have r1 := S9.out.res.cell (j := 1) rfl
  have f1 := S9.out.res.fr (o := 1)
  have y2 := S9.out.box.cell (j := 2) rfl
  have r2 := S9.out.res.cell (j := 2) rfl
  have f2 := S9.out.res.fr (o := 2)
  have y3 := S9.out.box.cell (j := 3) rfl
  have r3 := S9.out.res.cell (j := 3) rfl
  have f3 := S9.out.res.fr (o := 3)
  have y4 := S9.out.box.cell (j := 4) rfl
  have r4 := S9.out.res.cell (j := 4) rfl
  have f4 := S9.out.res.fr (o := 4)
  have y5 := S9.out.box.cell (j := 5) rfl
  have r5 := S9.out.res.cell (j := 5) rfl
  have f5 := S9.out.res.fr (o := 5)
  have hbw : ¬ bx = w.heap.size := by omega
  have hbw2 : ¬ w.heap.size = bx := by omega
  by_cases hok : readInoB L = true
  · have HOK := Lib.hid hok
    rw [hok]
    clear hok
    have qf := ((((((S9.out.res.set 0 (.int .i64 2)).set 1 (.int .i64 sz)).set 2 (.int .i64 gn)).set 3 (.string ⟨#[]⟩)).set 4 (.slice none 0 0)).set 5 (.slice aX nX cX))
    have q0 := qf.cell (j := 0) (v := .int .i64 2) rfl
    have q1 := qf.cell (j := 1) (v := .int .i64 sz) rfl
    have q2 := qf.cell (j := 2) (v := .int .i64 gn) rfl
    have q3 := qf.cell (j := 3) (v := .string ⟨#[]⟩) rfl
    have q4 := qf.cell (j := 4) (v := .slice none 0 0) rfl
    have q5 := qf.cell (j := 5) (v := .slice aX nX cX) rfl
    clear qf
    go_wp2
    refine bodyPost_ret (v := .tuple #[.agg #[.int .i64 2, .int .i64 sz, .int .i64 gn, .string ⟨#[]⟩, .slice none 0 0, .slice aX nX cX], .bool true]) ?_ rfl (gives_got HLn.out HOK.out HGot.out rfl HNX.out ⟨rfl, .inl ⟨rfl, rfl⟩⟩ (ownE_mono (ownE_but O9.out (((((((ButE.refl w.heap.size _).then_set _ _).then_set _ _).then_set _ _).then_set _ _).then_set _ _).then_set _ _) (fun g hg => by have := (O9.out.lt g hg).1; have := L5.out; omega)) (by have := L5.out; omega)) (.inl rfl) ((((((S9.out.below.setCell (Nat.le_refl _) _).setCell (Nat.le_refl _) _).setCell (Nat.le_refl _) _).setCell (Nat.le_refl _) _).setCell (Nat.le_refl _) _).setCell (Nat.le_refl _) _) rfl)
    simp [results, Tryd.results38, go_sem, q0, q1, q2, q3, q4, q5]
  · have HOK : Hid (¬ ReadOk L) := Lib.hid (fun h => hok (readInoB_yes h))
    rw [show readInoB L = false by simpa using hok]
    clear hok
    have qf := ((((((S9.out.res.set 0 (.int .i64 0)).set 1 (.int .i64 0)).set 2 (.int .i64 0)).set 3 (.string ⟨#[]⟩)).set 4 (.slice none 0 0)).set 5 (.slice none 0 0))
    have q0 := qf.cell (j := 0) (v := .int .i64 0) rfl
    have q1 := qf.cell (j := 1) (v := .int .i64 0) rfl
    have q2 := qf.cell (j := 2) (v := .int .i64 0) rfl
    have q3 := qf.cell (j := 3) (v := .string ⟨#[]⟩) rfl
    have q4 := qf.cell (j := 4) (v := .slice none 0 0) rfl
    have q5 := qf.cell (j := 5) (v := .slice none 0 0) rfl
    clear qf
    go_wp2
    refine bodyPost_ret (v := .tuple #[.agg #[.int .i64 0, .int .i64 0, .int .i64 0, .string ⟨#[]⟩, .slice none 0 0, .slice none 0 0], .bool false]) ?_ rfl (gives_zero L w ((((((S9.out.below.setCell (Nat.le_refl _) _).setCell (Nat.le_refl _) _).setCell (Nat.le_refl _) _).setCell (Nat.le_refl _) _).setCell (Nat.le_refl _) _).setCell (Nat.le_refl _) _) HOK.out rfl)
    simp [results, Tryd.results38, go_sem, q0, q1, q2, q3, q4, q5]

set_option maxRecDepth 100000 in
set_option maxHeartbeats 4000000 in
theorem implReadIno_free (a : Option Addr) (c : Nat) (L : List ByteArray) (w : World) (_hc : 8 ≤ c) (_hcm : c ≤ 9223372036854775807) (hs : SrcT w a 8 L) (hf : ∀ j, j < 8 → (L.getD j default).size ≤ 1048576) (hk : gotKind L = 0) : Calls Tryd.prog 38 #[.slice a 8 c] w (GivesIno (readInoR L) (readInoB L) w) := by
  have HLn : Hid (L.length = 8) := Lib.hid hs.len
  have HS := Lib.hid hs
  have HF := Lib.hid hf
  have B0 := Lib.hid (below_bk w (inoObj 0 0 0 ⟨#[]⟩ none 0 0 none 0 0))
  have R0 := Lib.hid (Bk.alloc w zeroCs 54)
  obtain ⟨g, off, ha, hg, _⟩ := srcT_at hs 0 (by omega)
  have HC : Hid (∀ {w' : World}, Below w.heap.size w w' → ∀ j, j < 8 → w'.cell? ⟨g, off + j, none⟩ = some (.string (L.getD j default))) := Lib.hid (fun hb j hj => by
    obtain ⟨g', off', ha', _, d⟩ := srcT_later HS.out hb (Nat.le_refl _) j hj
    rw [ha] at ha'; cases ha'
    exact d)
  obtain ⟨x0, hx0⟩ : ∃ x, L.getD 0 default = x := ⟨_, rfl⟩
  obtain ⟨x1, hx1⟩ : ∃ x, L.getD 1 default = x := ⟨_, rfl⟩
  have hx0s : Hid (x0.size ≤ 1048576) := Lib.hid (by rw [← hx0]; exact hf 0 (by omega))
  have hx1s : Hid (x1.size ≤ 1048576) := Lib.hid (by rw [← hx1]; exact hf 1 (by omega))
  obtain ⟨sz, hsz⟩ : ∃ z : Int, numAtV x0 1 2 = z := ⟨_, rfl⟩
  obtain ⟨gn, hgn⟩ : ∃ z : Int, numAtV x0 3 2 = z := ⟨_, rfl⟩
  have HZB : Hid (-9223372036854775808 ≤ sz ∧ sz ≤ 9223372036854775807) := Lib.hid (by rw [← hsz]; exact numAtV_two x0 1)
  have HKD : Hid (numAtV x0 0 1 = 0) := Lib.hid (by rw [← hx0]; exact hk)
  have HGot : Hid (inoGot L = ⟨0, sz, gn, ⟨#[]⟩, [], []⟩) := Lib.hid (by
    unfold inoGot
    rw [hk, hx0, hx1, hsz, hgn]
    rfl)
  have HX0 := Lib.hid hx0
  have HX1 := Lib.hid hx1
  have HSZ := Lib.hid hsz
  have HGN := Lib.hid hgn
  have HCB : Hid (∀ W : World, Calls Tryd.prog 79 #[.agg #[.int .i64 0, .int .i64 sz, .int .i64 gn, .string ⟨#[]⟩, .slice none 0 0, .slice none 0 0]] W fun e w' => e = .returned (.iface 115 (.agg #[])) ∧ Below W.heap.size W w') := Lib.hid (fun W => implBody_any 0 sz gn ⟨#[]⟩ none 0 0 none 0 0 W)
  have hgne : ¬ g = w.heap.size := by omega
  subst ha
  clear hs hf hx0 hx1 hsz hgn hk
  go_enter Tryd.func38, Tryd.ntmps38
  have d0 := HC.out B0.out 0 (by omega)
  rw [HX0.out, Nat.add_zero] at d0
  go_wp2_with fail
  refine (implHead_any x0 _ (by have := hx0s.out; omega)).mono ?_
  rw [HKD.out, HSZ.out, HGN.out]
  rintro e w1 ⟨rfl, hb1⟩
  obtain ⟨bx, hbx⟩ : ∃ b, w1.heap.size = b := ⟨_, rfl⟩
  have S2 : Hid (PSt w bx (inoCs 0 sz gn ⟨#[]⟩ none 0 0 none 0 0) (w1.alloc (inoObj 0 sz gn ⟨#[]⟩ none 0 0 none 0 0))) := Lib.hid (by rw [← hbx]; exact PSt.start R0.out B0.out hb1 _)
  have hbg : w.heap.size < bx := S2.out.lt
  have hgb : ¬ g = bx := by omega
  have hgb2 : ¬ bx = g := by omega
  have BX := Lib.hid hbx
  clear hb1 d0
  go_wp2_with fail
  obtain ⟨w2, h2w⟩ : ∃ x, x = w1.alloc (inoObj 0 sz gn ⟨#[]⟩ none 0 0 none 0 0) := ⟨_, rfl⟩
  rw [← h2w] at S2 ⊢
  clear h2w hbx
  refine (HCB.out _).mono ?_
  rintro e w3 ⟨rfl, hb3⟩
  have S3 := Lib.hid (S2.out.call hb3)
  clear hb3 S2
  have a1 := free_no_file (.agg #[]) w3
  have a2 := free_no_dir (.agg #[]) w3
  have S7 := S3
  have y0 := S7.out.box.cell (j := 0) rfl
  have y1 := S7.out.box.cell (j := 1) rfl
  have y2 := S7.out.box.cell (j := 2) rfl
  have y3 := S7.out.box.cell (j := 3) rfl
  have y4 := S7.out.box.cell (j := 4) rfl
  have y5 := S7.out.box.cell (j := 5) rfl
  go_wp2_with fail
  refine (implInoWords_any sz gn ⟨#[]⟩ none 0 0 none 0 0 _ [] [] 0 HZB.out (by omega) (SrcE.nil _ _ _) (fun j hj => absurd hj (Nat.not_lt_zero _)) (SrcE.nil _ _ _) (fun j hj => absurd hj (Nat.not_lt_zero _))).mono ?_
  rintro e w8 ⟨v8, rfl, hown8, hb8⟩
  obtain ⟨a8, c8, rfl, _, _, _⟩ := own_form hown8
  have R8 := Lib.hid (srcT_of_own hown8)
  have S8 := Lib.hid (S7.out.call hb8)
  have L8 : Hid ((inoWordsB ⟨0, sz, gn, ⟨#[]⟩, [], []⟩).length ≤ 8) := Lib.hid (inoWords_le _)
  clear hown8 hb8 y0 y1 y2 y3 y4 y5
  go_wp2_with fail
  refine (implEqual_any _ _ _ 8 _ _ _ L _ (by have := L8.out; omega) R8.out (HS.out.below S8.out.below (Nat.le_refl _)) (readInoB L) (by rw [got_iff HLn.out, HGot.out])).mono ?_
  rintro e w9 ⟨rfl, q9, hq9⟩
  have S9 : Hid (PSt w bx #[.int .i64 0, .int .i64 sz, .int .i64 gn, .string ⟨#[]⟩, .slice none 0 0, .slice none 0 0] w9) := Lib.hid (by rw [hq9]; exact S8.out.drewN q9)
  clear hq9
  have y0 := S9.out.box.cell (j := 0) rfl
  have r0 := S9.out.res.cell (j := 0) rfl
  have f0 := S9.out.res.fr (o := 0)
  have y1 := S9.out.box.cell (j := 1) rfl
  have r1 := S9.out.res.cell (j := 1) rfl
  have f1 := S9.out.res.fr (o := 1)
  have y2 := S9.out.box.cell (j := 2) rfl
  have r2 := S9.out.res.cell (j := 2) rfl
  have f2 := S9.out.res.fr (o := 2)
  have y3 := S9.out.box.cell (j := 3) rfl
  have r3 := S9.out.res.cell (j := 3) rfl
  have f3 := S9.out.res.fr (o := 3)
  have y4 := S9.out.box.cell (j := 4) rfl
  have r4 := S9.out.res.cell (j := 4) rfl
  have f4 := S9.out.res.fr (o := 4)
  have y5 := S9.out.box.cell (j := 5) rfl
  have r5 := S9.out.res.cell (j := 5) rfl
  have f5 := S9.out.res.fr (o := 5)
  have hbw : ¬ bx = w.heap.size := by omega
  have hbw2 : ¬ w.heap.size = bx := by omega
  by_cases hok : readInoB L = true
  · have HOK := Lib.hid hok
    rw [hok]
    clear hok
    have qf := ((((((S9.out.res.set 0 (.int .i64 0)).set 1 (.int .i64 sz)).set 2 (.int .i64 gn)).set 3 (.string ⟨#[]⟩)).set 4 (.slice none 0 0)).set 5 (.slice none 0 0))
    have q0 := qf.cell (j := 0) (v := .int .i64 0) rfl
    have q1 := qf.cell (j := 1) (v := .int .i64 sz) rfl
    have q2 := qf.cell (j := 2) (v := .int .i64 gn) rfl
    have q3 := qf.cell (j := 3) (v := .string ⟨#[]⟩) rfl
    have q4 := qf.cell (j := 4) (v := .slice none 0 0) rfl
    have q5 := qf.cell (j := 5) (v := .slice none 0 0) rfl
    clear qf
    go_wp2
    refine bodyPost_ret (v := .tuple #[.agg #[.int .i64 0, .int .i64 sz, .int .i64 gn, .string ⟨#[]⟩, .slice none 0 0, .slice none 0 0], .bool true]) ?_ rfl (gives_got HLn.out HOK.out HGot.out rfl rfl ⟨rfl, .inl ⟨rfl, rfl⟩⟩ ⟨rfl, .inl ⟨rfl, rfl⟩⟩ (.inl rfl) ((((((S9.out.below.setCell (Nat.le_refl _) _).setCell (Nat.le_refl _) _).setCell (Nat.le_refl _) _).setCell (Nat.le_refl _) _).setCell (Nat.le_refl _) _).setCell (Nat.le_refl _) _) rfl)
    simp [results, Tryd.results38, go_sem, q0, q1, q2, q3, q4, q5]
  · have HOK : Hid (¬ ReadOk L) := Lib.hid (fun h => hok (readInoB_yes h))
    rw [show readInoB L = false by simpa using hok]
    clear hok
    have qf := ((((((S9.out.res.set 0 (.int .i64 0)).set 1 (.int .i64 0)).set 2 (.int .i64 0)).set 3 (.string ⟨#[]⟩)).set 4 (.slice none 0 0)).set 5 (.slice none 0 0))
    have q0 := qf.cell (j := 0) (v := .int .i64 0) rfl
    have q1 := qf.cell (j := 1) (v := .int .i64 0) rfl
    have q2 := qf.cell (j := 2) (v := .int .i64 0) rfl
    have q3 := qf.cell (j := 3) (v := .string ⟨#[]⟩) rfl
    have q4 := qf.cell (j := 4) (v := .slice none 0 0) rfl
    have q5 := qf.cell (j := 5) (v := .slice none 0 0) rfl
    clear qf
    go_wp2
    refine bodyPost_ret (v := .tuple #[.agg #[.int .i64 0, .int .i64 0, .int .i64 0, .string ⟨#[]⟩, .slice none 0 0, .slice none 0 0], .bool false]) ?_ rfl (gives_zero L w ((((((S9.out.below.setCell (Nat.le_refl _) _).setCell (Nat.le_refl _) _).setCell (Nat.le_refl _) _).setCell (Nat.le_refl _) _).setCell (Nat.le_refl _) _).setCell (Nat.le_refl _) _) HOK.out rfl)
    simp [results, Tryd.results38, go_sem, q0, q1, q2, q3, q4, q5]

set_option maxRecDepth 100000 in
set_option maxHeartbeats 4000000 in
theorem implReadIno_other (a : Option Addr) (c : Nat) (L : List ByteArray) (w : World) (_hc : 8 ≤ c) (_hcm : c ≤ 9223372036854775807) (hs : SrcT w a 8 L) (hf : ∀ j, j < 8 → (L.getD j default).size ≤ 1048576) (kd : Int) (hk : gotKind L = kd) (h0 : ¬ kd = 0) (h1 : ¬ kd = 1) (h2 : ¬ kd = 2) : Calls Tryd.prog 38 #[.slice a 8 c] w (GivesIno (readInoR L) (readInoB L) w) := by
  have HLn : Hid (L.length = 8) := Lib.hid hs.len
  have HS := Lib.hid hs
  have HF := Lib.hid hf
  have B0 := Lib.hid (below_bk w (inoObj 0 0 0 ⟨#[]⟩ none 0 0 none 0 0))
  have R0 := Lib.hid (Bk.alloc w zeroCs 54)
  obtain ⟨g, off, ha, hg, _⟩ := srcT_at hs 0 (by omega)
  have HC : Hid (∀ {w' : World}, Below w.heap.size w w' → ∀ j, j < 8 → w'.cell? ⟨g, off + j, none⟩ = some (.string (L.getD j default))) := Lib.hid (fun hb j hj => by
    obtain ⟨g', off', ha', _, d⟩ := srcT_later HS.out hb (Nat.le_refl _) j hj
    rw [ha] at ha'; cases ha'
    exact d)
  obtain ⟨x0, hx0⟩ : ∃ x, L.getD 0 default = x := ⟨_, rfl⟩
  obtain ⟨x1, hx1⟩ : ∃ x, L.getD 1 default = x := ⟨_, rfl⟩
  have hx0s : Hid (x0.size ≤ 1048576) := Lib.hid (by rw [← hx0]; exact hf 0 (by omega))
  have hx1s : Hid (x1.size ≤ 1048576) := Lib.hid (by rw [← hx1]; exact hf 1 (by omega))
  obtain ⟨sz, hsz⟩ : ∃ z : Int, numAtV x0 1 2 = z := ⟨_, rfl⟩
  obtain ⟨gn, hgn⟩ : ∃ z : Int, numAtV x0 3 2 = z := ⟨_, rfl⟩
  have HZB : Hid (-9223372036854775808 ≤ sz ∧ sz ≤ 9223372036854775807) := Lib.hid (by rw [← hsz]; exact numAtV_two x0 1)
  have HKD : Hid (numAtV x0 0 1 = kd) := Lib.hid (by rw [← hx0]; exact hk)
  have HGot : Hid (inoGot L = ⟨kd, sz, gn, ⟨#[]⟩, [], []⟩) := Lib.hid (by
    unfold inoGot
    rw [hk, hx0, hx1, hsz, hgn]
    rw [if_neg h1, if_neg h1, if_neg h2])
  have HX0 := Lib.hid hx0
  have HX1 := Lib.hid hx1
  have HSZ := Lib.hid hsz
  have HGN := Lib.hid hgn
  have HCB : Hid (∀ W : World, Calls Tryd.prog 79 #[.agg #[.int .i64 kd, .int .i64 sz, .int .i64 gn, .string ⟨#[]⟩, .slice none 0 0, .slice none 0 0]] W fun e w' => e = .returned (.nilIface) ∧ Below W.heap.size W w') := Lib.hid (fun W => by have h9 := implBody_any kd sz gn ⟨#[]⟩ none 0 0 none 0 0 W; unfold bodyV at h9; rw [if_neg h0, if_neg h1, if_neg h2] at h9; exact h9)
  have hgne : ¬ g = w.heap.size := by omega
  subst ha
  clear hs hf hx0 hx1 hsz hgn hk h0 h1 h2
  go_enter Tryd.func38, Tryd.ntmps38
  have d0 := HC.out B0.out 0 (by omega)
  rw [HX0.out, Nat.add_zero] at d0
  go_wp2_with fail
  refine (implHead_any x0 _ (by have := hx0s.out; omega)).mono ?_
  rw [HKD.out, HSZ.out, HGN.out]
  rintro e w1 ⟨rfl, hb1⟩
  obtain ⟨bx, hbx⟩ : ∃ b, w1.heap.size = b := ⟨_, rfl⟩
  have S2 : Hid (PSt w bx (inoCs kd sz gn ⟨#[]⟩ none 0 0 none 0 0) (w1.alloc (inoObj kd sz gn ⟨#[]⟩ none 0 0 none 0 0))) := Lib.hid (by rw [← hbx]; exact PSt.start R0.out B0.out hb1 _)
  have hbg : w.heap.size < bx := S2.out.lt
  have hgb : ¬ g = bx := by omega
  have hgb2 : ¬ bx = g := by omega
  have BX := Lib.hid hbx
  clear hb1 d0
  go_wp2_with fail
  obtain ⟨w2, h2w⟩ : ∃ x, x = w1.alloc (inoObj kd sz gn ⟨#[]⟩ none 0 0 none 0 0) := ⟨_, rfl⟩
  rw [← h2w] at S2 ⊢
  clear h2w hbx
  refine (HCB.out _).mono ?_
  rintro e w3 ⟨rfl, hb3⟩
  have S3 := Lib.hid (S2.out.call hb3)
  clear hb3 S2
  have a1 := nil_no_file w3
  have a2 := nil_no_dir w3
  have S7 := S3
  have y0 := S7.out.box.cell (j := 0) rfl
  have y1 := S7.out.box.cell (j := 1) rfl
  have y2 := S7.out.box.cell (j := 2) rfl
  have y3 := S7.out.box.cell (j := 3) rfl
  have y4 := S7.out.box.cell (j := 4) rfl
  have y5 := S7.out.box.cell (j := 5) rfl
  go_wp2_with fail
  refine (implInoWords_any sz gn ⟨#[]⟩ none 0 0 none 0 0 _ [] [] kd HZB.out (by omega) (SrcE.nil _ _ _) (fun j hj => absurd hj (Nat.not_lt_zero _)) (SrcE.nil _ _ _) (fun j hj => absurd hj (Nat.not_lt_zero _))).mono ?_
  rintro e w8 ⟨v8, rfl, hown8, hb8⟩
  obtain ⟨a8, c8, rfl, _, _, _⟩ := own_form hown8
  have R8 := Lib.hid (srcT_of_own hown8)
  have S8 := Lib.hid (S7.out.call hb8)
  have L8 : Hid ((inoWordsB ⟨kd, sz, gn, ⟨#[]⟩, [], []⟩).length ≤ 8) := Lib.hid (inoWords_le _)
  clear hown8 hb8 y0 y1 y2 y3 y4 y5
  go_wp2_with fail
  refine (implEqual_any _ _ _ 8 _ _ _ L _ (by have := L8.out; omega) R8.out (HS.out.below S8.out.below (Nat.le_refl _)) (readInoB L) (by rw [got_iff HLn.out, HGot.out])).mono ?_
  rintro e w9 ⟨rfl, q9, hq9⟩
  have S9 : Hid (PSt w bx #[.int .i64 kd, .int .i64 sz, .int .i64 gn, .string ⟨#[]⟩, .slice none 0 0, .slice none 0 0] w9) := Lib.hid (by rw [hq9]; exact S8.out.drewN q9)
  clear hq9
  have y0 := S9.out.box.cell (j := 0) rfl
  have r0 := S9.out.res.cell (j := 0) rfl
  have f0 := S9.out.res.fr (o := 0)
  have y1 := S9.out.box.cell (j := 1) rfl
  have r1 := S9.out.res.cell (j := 1) rfl
  have f1 := S9.out.res.fr (o := 1)
  have y2 := S9.out.box.cell (j := 2) rfl
  have r2 := S9.out.res.cell (j := 2) rfl
  have f2 := S9.out.res.fr (o := 2)
  have y3 := S9.out.box.cell (j := 3) rfl
  have r3 := S9.out.res.cell (j := 3) rfl
  have f3 := S9.out.res.fr (o := 3)
  have y4 := S9.out.box.cell (j := 4) rfl
  have r4 := S9.out.res.cell (j := 4) rfl
  have f4 := S9.out.res.fr (o := 4)
  have y5 := S9.out.box.cell (j := 5) rfl
  have r5 := S9.out.res.cell (j := 5) rfl
  have f5 := S9.out.res.fr (o := 5)
  have hbw : ¬ bx = w.heap.size := by omega
  have hbw2 : ¬ w.heap.size = bx := by omega
  by_cases hok : readInoB L = true
  · have HOK := Lib.hid hok
    rw [hok]
    clear hok
    have qf := ((((((S9.out.res.set 0 (.int .i64 kd)).set 1 (.int .i64 sz)).set 2 (.int .i64 gn)).set 3 (.string ⟨#[]⟩)).set 4 (.slice none 0 0)).set 5 (.slice none 0 0))
    have q0 := qf.cell (j := 0) (v := .int .i64 kd) rfl
    have q1 := qf.cell (j := 1) (v := .int .i64 sz) rfl
    have q2 := qf.cell (j := 2) (v := .int .i64 gn) rfl
    have q3 := qf.cell (j := 3) (v := .string ⟨#[]⟩) rfl
    have q4 := qf.cell (j := 4) (v := .slice none 0 0) rfl
    have q5 := qf.cell (j := 5) (v := .slice none 0 0) rfl
    clear qf
    go_wp2
    refine bodyPost_ret (v := .tuple #[.agg #[.int .i64 kd, .int .i64 sz, .int .i64 gn, .string ⟨#[]⟩, .slice none 0 0, .slice none 0 0], .bool true]) ?_ rfl (gives_got HLn.out HOK.out HGot.out rfl rfl ⟨rfl, .inl ⟨rfl, rfl⟩⟩ ⟨rfl, .inl ⟨rfl, rfl⟩⟩ (.inl rfl) ((((((S9.out.below.setCell (Nat.le_refl _) _).setCell (Nat.le_refl _) _).setCell (Nat.le_refl _) _).setCell (Nat.le_refl _) _).setCell (Nat.le_refl _) _).setCell (Nat.le_refl _) _) rfl)
    simp [results, Tryd.results38, go_sem, q0, q1, q2, q3, q4, q5]
  · have HOK : Hid (¬ ReadOk L) := Lib.hid (fun h => hok (readInoB_yes h))
    rw [show readInoB L = false by simpa using hok]
    clear hok
    have qf := ((((((S9.out.res.set 0 (.int .i64 0)).set 1 (.int .i64 0)).set 2 (.int .i64 0)).set 3 (.string ⟨#[]⟩)).set 4 (.slice none 0 0)).set 5 (.slice none 0 0))
    have q0 := qf.cell (j := 0) (v := .int .i64 0) rfl
    have q1 := qf.cell (j := 1) (v := .int .i64 0) rfl
    have q2 := qf.cell (j := 2) (v := .int .i64 0) rfl
    have q3 := qf.cell (j := 3) (v := .string ⟨#[]⟩) rfl
    have q4 := qf.cell (j := 4) (v := .slice none 0 0) rfl
    have q5 := qf.cell (j := 5) (v := .slice none 0 0) rfl
    clear qf
    go_wp2
    refine bodyPost_ret (v := .tuple #[.agg #[.int .i64 0, .int .i64 0, .int .i64 0, .string ⟨#[]⟩, .slice none 0 0, .slice none 0 0], .bool false]) ?_ rfl (gives_zero L w ((((((S9.out.below.setCell (Nat.le_refl _) _).setCell (Nat.le_refl _) _).setCell (Nat.le_refl _) _).setCell (Nat.le_refl _) _).setCell (Nat.le_refl _) _).setCell (Nat.le_refl _) _) HOK.out rfl)
    simp [results, Tryd.results38, go_sem, q0, q1, q2, q3, q4, q5]

set_option maxRecDepth 100000 in
set_option maxHeartbeats 4000000 in
theorem implReadIno_len (a : Option Addr) (n c : Nat) (L : List ByteArray) (w : World) (hs : SrcT w a n L) (h : ¬ n = 8) : Calls Tryd.prog 38 #[.slice a n c] w (GivesIno (readInoR L) (readInoB L) w) := by
  have HL : Hid (¬ ReadOk L) := Lib.hid (fun x => h (by rw [← hs.len]; exact x.1))
  have B0 := Lib.hid (below_bk w (inoObj 0 0 0 ⟨#[]⟩ none 0 0 none 0 0))
  have e8 : ((n : Int) == 8) = false := by simp; omega
  have e9 : ((n : Int) != 8) = true := by simp only [bne, e8]; rfl
  clear hs
  go_enter Tryd.func38, Tryd.ntmps38
  go_wp2
  refine bodyPost_ret (v := .tuple #[.agg #[.int .i64 0, .int .i64 0, .int .i64 0, .string ⟨#[]⟩, .slice none 0 0, .slice none 0 0], .bool false]) ?_ rfl (gives_zero L w B0.out HL.out rfl)
  simp [results, Tryd.results38, go_sem]
theorem implReadIno_any (a : Option Addr) (n c : Nat) (L : List ByteArray) (w : World) (hc : n ≤ c) (hcm : c ≤ 9223372036854775807) (hs : SrcT w a n L) (hf : ∀ j, j < n → (L.getD j default).size ≤ 1048576) : Calls Tryd.prog 38 #[.slice a n c] w (GivesIno (readInoR L) (readInoB L) w) := by
  by_cases h : n = 8
  · subst h
    by_cases h0 : gotKind L = 0
    · exact implReadIno_free a c L w hc hcm hs hf h0
    · by_cases h1 : gotKind L = 1
      · exact implReadIno_file a c L w hc hcm hs hf h1
      · by_cases h2 : gotKind L = 2
        · exact implReadIno_dir a c L w hc hcm hs hf h2
        · exact implReadIno_other a c L w hc hcm hs hf _ rfl h0 h1 h2
  · exact implReadIno_len a n c L w hs h
end Go.Proofs.YtmkchilhnmkhkaaDoor
namespace Go.Proofs.YtmkchilhnmkhkaaDoor
open Go.RowKit Go.Proofs.YtmkchilhnmkhkaaDoor.Parts Go.Proofs.YtmkchilhnmkhkaaDoor.Hexa

set_option maxRecDepth 100000 in
set_option maxHeartbeats 400000 in
theorem eqRec_any (x0 : Int) (x1 : Int) (x2 : ByteArray) (w : World) :
    Calls Tryd.prog 132 #[.agg #[.int .i64 x0, .int .i64 x1, .string x2], .agg #[.int .i64 x0, .int .i64 x1, .string x2]] w fun e w' => e = .returned (.bool true) ∧ Below w.heap.size w w' := by
  go_enter Tryd.func132, Tryd.ntmps132
  go_wp2
  go_ret
  exact ⟨rfl, ((Below.refl _ _).alloc (Nat.le_refl _) _).alloc (by simp) _⟩

end Go.Proofs.YtmkchilhnmkhkaaDoor
namespace Go.Proofs.YtmkchilhnmkhkaaDoor
open Go.RowKit Go.Proofs.YtmkchilhnmkhkaaDoor.Parts Go.Proofs.YtmkchilhnmkhkaaDoor.Hexa

set_option maxRecDepth 100000 in
set_option maxHeartbeats 1000000 in
theorem eqRecs_any (a1 a2 : Option Addr) (n c1 c2 : Nat) (L : List RecR) (w : World) (hn : n ≤ 100000000) (s1 : SrcRec w a1 n L) (s2 : SrcRec w a2 n L) :
    Calls Tryd.prog 82 #[.slice a1 n c1, .slice a2 n c2] w fun e w' => e = .returned (.bool true) ∧ Below w.heap.size w w' := by
  have R1 := Lib.hid s1
  have R2 := Lib.hid s2
  clear s1 s2
  go_enter Tryd.func82, Tryd.ntmps82
  go_wp2
  go_loopw [5] (fun iv wr => ∃ k : Nat, k ≤ n ∧ iv = .int .i64 k ∧ Below w.heap.size w wr) (fun iv _ => n - (intOf iv).toNat)
  case atStart => exact ⟨0, Nat.zero_le _, rfl, Below.refl _ _⟩
  case round =>
    obtain ⟨k, hk, rfl, hbel⟩ := hrel
    by_cases hlt : k < n
    · obtain ⟨g, off, rfl, hg, d0, d1, d2⟩ := srcRec_later R1.out hbel (Nat.le_refl _) k hlt
      obtain ⟨g2, off2, rfl, hg2, m0, m1, m2⟩ := srcRec_later R2.out hbel (Nat.le_refl _) k hlt
      obtain ⟨x, hx⟩ : ∃ x, L.getD k default = x := ⟨_, rfl⟩
      rw [hx] at d0 d1 d2 m0 m1 m2
      clear hx
      go_wp2
      go_region_with (go_at_call 132; refine (eqRec_any x.f0 x.f1 x.f2 _).mono ?_; rintro e w1 ⟨rfl, hb1⟩)
      all_goals
        have hb2 : Below w.heap.size w w1 := hbel.drew.trans (hb1.mono hbel.size)
        clear d0 d1 d2 m0 m1 m2 hb1
        go_wp2
        go_roundw
        case rel => exact ⟨k + 1, by omega, by go_num, hb2⟩
        case measure => (simp [intOf]; try omega)
    · obtain rfl : k = n := by omega
      go_wp2
      go_ret
      exact ⟨rfl, hbel⟩
end Go.Proofs.YtmkchilhnmkhkaaDoor
namespace Go.Proofs.YtmkchilhnmkhkaaDoor
open Go.RowKit Go.Proofs.YtmkchilhnmkhkaaDoor.Parts Go.Proofs.YtmkchilhnmkhkaaDoor.Hexa

/-- No block is written but v's. -/
structure Apart (v : Value) (w w' : World) : Prop where
  size : w.heap.size ≤ w'.heap.size
  block : ∀ g, g < w.heap.size → v.ownBlock ≠ some g → w'.heap[g]? = w.heap[g]?
theorem Apart.own {v : Value} {w w' : World} (h : Apart v w w') {v2 : Value} {M e k n : Nat} {xs : List Value} (ho : w.ownsRow M e k v2 n xs) (hne : ∀ g, v2.ownBlock = some g → v.ownBlock ≠ some g) : w'.ownsRow M e k v2 n xs := by
  refine ⟨ho.1, ho.2.imp id fun ⟨g, cap, cur, hv, hg, hh, r⟩ => ⟨g, cap, cur, hv, hg, ?_, r⟩⟩
  rw [h.block g (Array.getElem?_eq_some_iff.1 hh).1 (hne g (by rw [hv]; rfl))]; exact hh
theorem Apart.of_below {v : Value} {w w' : World} (h : Below w.heap.size w w') : Apart v w w' := ⟨h.size, fun g hg _ => h.block g hg⟩
theorem Apart.after_below {v : Value} {w w1 w2 : World} (hb : Below w.heap.size w w1) (h : Apart v w1 w2) : Apart v w w2 := ⟨Nat.le_trans hb.size h.size, fun g hg hn => (h.block g (Nat.lt_of_lt_of_le hg hb.size) hn).trans (hb.block g hg)⟩
end Go.Proofs.YtmkchilhnmkhkaaDoor
namespace Go.Proofs.YtmkchilhnmkhkaaDoor
open Go.RowKit Go.Proofs.YtmkchilhnmkhkaaDoor.Parts Go.Proofs.YtmkchilhnmkhkaaDoor.Hexa
theorem ret_str {a b : ByteArray} (h : a = b) : Ending.returned (.string a) = .returned (.string b) := by rw [h]

set_option maxRecDepth 100000 in
set_option maxHeartbeats 1000000 in
theorem markText_any (k : Nat) (w : World) (h0 : 0 < k) (hk : k ≤ 100000000) :
    Calls Tryd.prog 59 #[.int .i64 k] w fun e w' => e = .returned (.string (markT k)) ∧ Below w.heap.size w w' := by
  go_enter Tryd.func59, Tryd.ntmps59
  go_wp2
  go_loopw [0, 3] (fun kv sv wr => ∃ (j : Nat) (t : ByteArray), j ≤ k ∧ t.size ≤ k ∧ Hid (digs j ++ t.data.toList = digs k) ∧ kv = .int .i64 j ∧ sv = .string t ∧ Below w.heap.size w wr) (fun kv _ _ => (intOf kv).toNat)
  case atStart => exact ⟨k, ⟨#[]⟩, Nat.le_refl _, Nat.zero_le _, Lib.hid (by simp), rfl, rfl, Below.refl _ _⟩
  case round =>
    obtain ⟨j, t, hj, ht, HD, rfl, rfl, hbel⟩ := hrel
    by_cases hlt : 0 < j
    · obtain ⟨cs, hcs, hcd, hce⟩ := Parts.one_byte (UInt8.ofNat (48 + j % 10))
      have HC := Lib.hid hcd
      have HT := Lib.hid (digs_round hlt HD.out hcd)
      have HS := digs_size HT.out
      have HS' : cs.size + t.size ≤ 100000001 := by omega
      have en : ((UInt8.ofNat (48 + j % 10)).toNat : Int) = 48 + (j : Int) % 10 := by rw [UInt8.toNat_ofNat']; omega
      have hown := World.ownsRow_lit (e := 5) (size := 1) (base := w.heap.size) wr #[.int .u8 (48 + (j : Int) % 10)] 1 hbel.size (by decide) rfl
      have hconv := own_string (P := Tryd.prog) (l := [UInt8.ofNat (48 + j % 10)]) 22 9 Tryd.underlying22 Tryd.underlying5 Tryd.underlying9 (by rw [show bcells [UInt8.ofNat (48 + j % 10)] = [Value.int .u8 (48 + (j : Int) % 10)] by simp only [bcells, List.map, en]]; exact hown)
      rw [← hce] at hconv
      clear hown hcd hce en
      go_wp2
      go_roundw
      case rel => exact ⟨j / 10, cs ++ t, by omega, HS, HT, by go_num, rfl, hbel.alloc hbel.size _⟩
      case measure => (simp [intOf]; omega)
    · obtain rfl : j = 0 := by omega
      go_wp2
      go_ret
      exact ⟨ret_str (mark_end HD.out), hbel⟩

end Go.Proofs.YtmkchilhnmkhkaaDoor
namespace Go.Proofs.YtmkchilhnmkhkaaDoor
open Go.RowKit Go.Proofs.YtmkchilhnmkhkaaDoor.Parts Go.Proofs.YtmkchilhnmkhkaaDoor.Hexa

theorem ret_i64m {a b : Int} (h : a = b) : Ending.returned (.int .i64 a) = .returned (.int .i64 b) := by rw [h]
theorem markText_n (i : Int) (k : Nat) (w : World) (h : i = k) (h0 : 0 < k) (hk : k ≤ 100000000) :
    Calls Tryd.prog 59 #[.int .i64 i] w fun e w' => e = .returned (.string (markT k)) ∧ Below w.heap.size w w' := by
  subst h; exact markText_any k w h0 hk
end Go.Proofs.YtmkchilhnmkhkaaDoor
namespace Go.Proofs.YtmkchilhnmkhkaaDoor
open Go.RowKit Go.Proofs.YtmkchilhnmkhkaaDoor.Parts Go.Proofs.YtmkchilhnmkhkaaDoor.Hexa

/-- The marks from k on. -/
def markRec (k : Nat) : RecR := ⟨(k : Int), (k : Int) + 1, markT (k + 2)⟩
def marksRec (k n : Nat) : List RecR := (List.range n).map fun i => markRec (k + 3 * i)
theorem marksRec_length (k n : Nat) : (marksRec k n).length = n := by simp [marksRec]
theorem marksRec_at (k n j : Nat) (hj : j < n) : (marksRec k n).getD j default = markRec (k + 3 * j) := by simp [marksRec, List.getD, hj]

def MarkPostRec (B n cap k : Nat) (w : World) (e : Ending) (w' : World) : Prop :=
  e = .returned (.int .i64 (k + 3 * n)) ∧ Below B w w' ∧ ButE B w w' ∧ w'.ownsRow B 66 3 (.slice (some ⟨B, 0, none⟩) n cap) n (cellsE encRec (marksRec k n))

set_option maxRecDepth 100000 in
set_option maxHeartbeats 1000000 in
theorem markRecs_some (B n cap k : Nat) (xs : List Value) (w : World) (h0 : 0 < k) (hk : k + 3 * n ≤ 100000000) (hown : w.ownsRow B 66 3 (.slice (some ⟨B, 0, none⟩) n cap) n xs) :
    Calls Tryd.prog 84 #[.slice (some ⟨B, 0, none⟩) n cap, .int .i64 k] w (MarkPostRec B n cap k w) := by
  have HO := Lib.hid hown
  have hB := Lib.hid (ownE_lt hown)
  clear hown
  go_enter Tryd.func84, Tryd.ntmps84
  go_wp2
  go_loopw [1, 5] (fun kv iv wr => ∃ (j q : Nat) (ys : List Value), j ≤ n ∧ q ≤ k + 3 * n ∧ 0 < q ∧ Hid (q = k + 3 * j) ∧ iv = .int .i64 j ∧ kv = .int .i64 q ∧ Hid (∀ t, t < j * 3 → ys[t]? = (cellsE encRec (marksRec k n))[t]?) ∧ Hid (wr.ownsRow B 66 3 (.slice (some ⟨B, 0, none⟩) n cap) n ys) ∧ Below B w wr ∧ Hid (ButE B w wr)) (fun _ iv _ => n - (intOf iv).toNat)
  case atStart => exact ⟨0, k, xs, Nat.zero_le _, by omega, h0, Lib.hid rfl, rfl, rfl, Lib.hid (fun t ht => by omega), HO, Below.refl _ _, Lib.hid (ButE.refl _ _)⟩
  case round =>
    clear HO
    obtain ⟨j, q, ys, hj, hq, hq0, HQ, rfl, rfl, HX, HW, hbel, HK⟩ := hrel
    by_cases hlt : j < n
    · have hl : Hid (ys.length = n * 3) := Lib.hid HW.out.1
      have hq3 : q + 3 ≤ k + 3 * n := by have := HQ.out; omega
      have X1 := Lib.hid (cellsE_step encRec (L := marksRec k n) (by rw [marksRec_length]; exact hlt) (by rw [marksRec_length]; exact hl.out) HX.out)
      rw [marksRec_at k n j hlt, ← HQ.out] at X1
      obtain ⟨v0, e0⟩ := ownE_cell HW.out (j := j * 3) (by omega)
      have z0 := HW.out.frozenAt (j * 3)
      have O0 := Lib.hid (HW.out.stored (j * 3) (.int .i64 ((q : Int)))).1
      have K0 := Lib.hid (HK.out.then_set (j * 3) (.int .i64 ((q : Int))))
      have b0 : Below B w (wr.setCell ⟨B, j * 3, none⟩ (.int .i64 ((q : Int)))) := hbel.setCell (Nat.le_refl _) _
      obtain ⟨v1, e1⟩ := ownE_cell O0.out (j := j * 3 + 1) (by omega)
      have z1 := O0.out.frozenAt (j * 3 + 1)
      have O1 := Lib.hid (O0.out.stored (j * 3 + 1) (.int .i64 ((q : Int) + 1))).1
      have K1 := Lib.hid (K0.out.then_set (j * 3 + 1) (.int .i64 ((q : Int) + 1)))
      have b1 : Below B w ((wr.setCell ⟨B, j * 3, none⟩ (.int .i64 ((q : Int)))).setCell ⟨B, j * 3 + 1, none⟩ (.int .i64 ((q : Int) + 1))) := b0.setCell (Nat.le_refl _) _
      go_wp2_with fail
      clear e0 z0 e1 z1
      obtain ⟨wa1, hwa1⟩ : ∃ x, x = ((wr.setCell ⟨B, j * 3, none⟩ (.int .i64 ((q : Int)))).setCell ⟨B, j * 3 + 1, none⟩ (.int .i64 ((q : Int) + 1))) := ⟨_, rfl⟩
      rw [← hwa1] at O1 K1 b1 ⊢
      clear hwa1
      refine (markText_n _ (q + 2) _ (by omega) (by omega) (by omega)).mono ?_
      rintro e w1x ⟨rfl, hb1⟩
      have W1 := Lib.hid (own_below O1.out hb1)
      have KW1 := Lib.hid (K1.out.then_below hb1)
      have bw1 : Below B w w1x := b1.trans (hb1.mono (by have := hB.out; have := b1.size; omega))
      clear hb1
      obtain ⟨v2, e2⟩ := ownE_cell W1.out (j := j * 3 + 2) (by omega)
      have z2 := W1.out.frozenAt (j * 3 + 2)
      have O2 := Lib.hid (W1.out.stored (j * 3 + 2) (.string (markT (q + 2)))).1
      have K2 := Lib.hid (KW1.out.then_set (j * 3 + 2) (.string (markT (q + 2))))
      have b2 : Below B w (w1x.setCell ⟨B, j * 3 + 2, none⟩ (.string (markT (q + 2)))) := bw1.setCell (Nat.le_refl _) _
      go_wp2
      clear e2 z2
      go_roundw
      case rel => exact ⟨j + 1, q + 3, _, by omega, hq3, by omega, Lib.hid (by have := HQ.out; omega), by go_num, by go_num, X1, O2, b2, K2⟩
      case measure => (simp [intOf]; try omega)
    · obtain rfl : j = n := by omega
      have hfin : ys = cellsE encRec (marksRec k j) := cellsE_all encRec (by rw [marksRec_length]; exact HW.out.1) (by rw [marksRec_length]; exact HX.out)
      have ho := HW.out
      rw [hfin] at ho
      have HO := Lib.hid ho
      clear ho hfin HW
      go_wp2
      go_ret
      exact ⟨ret_i64m (by have := HQ.out; omega), hbel, HK.out, HO.out⟩

def MarksRecA (M : Nat) (v : Value) (n k : Nat) (w : World) (e : Ending) (w' : World) : Prop :=
  e = .returned (.int .i64 (k + 3 * n)) ∧ Below M w w' ∧ Apart v w w' ∧ w'.ownsRow M 66 3 v n (cellsE encRec (marksRec k n))

set_option maxRecDepth 100000 in
set_option maxHeartbeats 1000000 in
theorem markRecs_any (M : Nat) (v : Value) (n k : Nat) (xs : List Value) (w : World) (h0 : 0 < k) (hk : k + 3 * n ≤ 100000000) (hown : w.ownsRow M 66 3 v n xs) :
    Calls Tryd.prog 84 #[v, .int .i64 k] w (MarksRecA M v n k w) := by
  rcases hown.2 with ⟨rfl, rfl⟩ | ⟨g, cap, cur, rfl, hB, hg, hnc, hcm, hcs, htk⟩
  · clear hown
    go_enter Tryd.func84, Tryd.ntmps84
    go_wp2
    go_loopw [1, 5] (fun kv iv wr => kv = .int .i64 k ∧ iv = .int .i64 0 ∧ wr = w) (fun _ _ _ => 0)
    case atStart => exact ⟨rfl, rfl, rfl⟩
    case round =>
      obtain ⟨rfl, rfl, rfl⟩ := hrel
      go_wp2
      go_ret
      exact ⟨ret_i64m (by omega), Below.refl _ _, Apart.of_below (Below.refl _ _), World.ownsRow_nil _ _ _ _⟩
  · have ho : w.ownsRow g 66 3 (.slice (some ⟨g, 0, none⟩) n cap) n xs := ⟨hown.1, .inr ⟨g, cap, cur, rfl, Nat.le_refl _, hg, hnc, hcm, hcs, htk⟩⟩
    refine (markRecs_some g n cap k xs w h0 hk ho).mono ?_
    rintro e w' ⟨rfl, hb, hbut, hown'⟩
    exact ⟨rfl, hb.mono hB, ⟨hbut.size, fun g2 hg2 hn => hbut.block g2 (fun e => hn (by rw [e]; rfl)) hg2⟩, ownE_mono hown' hB⟩

end Go.Proofs.YtmkchilhnmkhkaaDoor
namespace Go.Proofs.YtmkchilhnmkhkaaDoor
open Go.RowKit Go.Proofs.YtmkchilhnmkhkaaDoor.Parts Go.Proofs.YtmkchilhnmkhkaaDoor.Hexa

set_option maxRecDepth 100000 in
set_option maxHeartbeats 1000000 in
theorem eqEntrys_any (a1 a2 : Option Addr) (n c1 c2 : Nat) (L : List EntryR) (w : World) (hn : n ≤ 100000000) (s1 : SrcEntry w a1 n L) (s2 : SrcEntry w a2 n L) :
    Calls Tryd.prog 83 #[.slice a1 n c1, .slice a2 n c2] w fun e w' => e = .returned (.bool true) ∧ Below w.heap.size w w' := by
  have R1 := Lib.hid s1
  have R2 := Lib.hid s2
  clear s1 s2
  go_enter Tryd.func83, Tryd.ntmps83
  go_wp2
  go_loopw [5] (fun iv wr => ∃ k : Nat, k ≤ n ∧ iv = .int .i64 k ∧ Below w.heap.size w wr) (fun iv _ => n - (intOf iv).toNat)
  case atStart => exact ⟨0, Nat.zero_le _, rfl, Below.refl _ _⟩
  case round =>
    obtain ⟨k, hk, rfl, hbel⟩ := hrel
    by_cases hlt : k < n
    · obtain ⟨g, off, rfl, hg, d0, d1⟩ := srcEntry_later R1.out hbel (Nat.le_refl _) k hlt
      obtain ⟨g2, off2, rfl, hg2, m0, m1⟩ := srcEntry_later R2.out hbel (Nat.le_refl _) k hlt
      obtain ⟨x, hx⟩ : ∃ x, L.getD k default = x := ⟨_, rfl⟩
      rw [hx] at d0 d1 m0 m1
      clear hx
      go_wp2
      go_region_with (go_at_call 34; refine (eqEntry_any x.f0 x.f1 _).mono ?_; rintro e w1 ⟨rfl, hb1⟩)
      all_goals
        have hb2 : Below w.heap.size w w1 := hbel.drew.trans (hb1.mono hbel.size)
        clear d0 d1 m0 m1 hb1
        go_wp2
        go_roundw
        case rel => exact ⟨k + 1, by omega, by go_num, hb2⟩
        case measure => (simp [intOf]; try omega)
    · obtain rfl : k = n := by omega
      go_wp2
      go_ret
      exact ⟨rfl, hbel⟩
end Go.Proofs.YtmkchilhnmkhkaaDoor
