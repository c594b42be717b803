/- Merged texts: ReadInoImpl, InodesLaw. -/
import Derived.Test.YtmkchilhnmkhkaaDoorPIL
namespace Go.Proofs.YtmkchilhnmkhkaaDoor
open Go.RowKit Go.Proofs.YtmkchilhnmkhkaaDoor.Parts Go.Proofs.YtmkchilhnmkhkaaDoor.Hexa Go.Proofs.YtmkchilhnmkhkaaDoor.Byt

/-- The result's box, the inode's box, and nothing else of the old world written. -/
structure PSt (w : World) (bx : Nat) (cs : Array Value) (wr : World) : Prop where
  res : Bk wr w.heap.size zeroCs 54
  box : Bk wr bx cs 54
  lt : w.heap.size < bx
  below : Below w.heap.size w wr
section
variable {w wr w' : World} {bx : Nat} {cs : Array Value}
theorem PSt.call (h : PSt w bx cs wr) (hb : Below wr.heap.size wr w') : PSt w bx cs w' := ⟨h.res.later hb, h.box.later hb, h.lt, below_on h.below (Nat.le_refl _) hb⟩
theorem PSt.drewN (h : PSt w bx cs wr) (n : Nat) : PSt w bx cs (wr.drewN n) := ⟨h.res, h.box, h.lt, below_drewsN h.below n⟩
theorem PSt.set (h : PSt w bx cs wr) (j : Nat) (v : Value) : PSt w bx (cs.setIfInBounds j v) (wr.setCell ⟨bx, j, none⟩ v) :=
  ⟨h.res.other (Nat.ne_of_lt h.lt) v, h.box.set j v, h.lt, h.below.setCell (Nat.le_of_lt h.lt) v⟩
theorem PSt.start {w w0 w1 : World} (hr : Bk w0 w.heap.size zeroCs 54) (hb0 : Below w.heap.size w w0) (hb : Below w0.heap.size w0 w1) (cs : Array Value) : PSt w w1.heap.size cs (w1.alloc (.cells cs 54)) :=
  ⟨(hr.later hb).later (below_bk _ _), Bk.alloc _ _ _, Nat.lt_of_lt_of_le hr.lt hb.size, below_on (below_on hb0 (Nat.le_refl _) hb) (Nat.le_refl _) (below_bk _ _)⟩
end
theorem while_le {α : Type} (p : α → Bool) : ∀ L : List α, (L.takeWhile p).length ≤ L.length
  | [] => Nat.le_refl _
  | x :: r => by
    rw [List.takeWhile]
    have := while_le p r
    split
    · simpa using this
    · exact Nat.zero_le _
theorem numAtV_two (s : ByteArray) (a : Int) : -9223372036854775808 ≤ numAtV s a 2 ∧ numAtV s a 2 ≤ 9223372036854775807 := by
  by_cases h : 0 ≤ a ∧ a ≤ (s.size : Int) - 2
  · obtain ⟨n, rfl⟩ : ∃ n : Nat, a = n := ⟨a.toNat, by omega⟩
    have h9 := numAtV_lt s n 2 (by omega) (by omega)
    have h10 : ((256 : Int) ^ 2) = 65536 := by decide
    rw [h10] at h9
    have h1 : 0 ≤ numAtV s n 2 := h9.1
    have h2 : numAtV s n 2 < 65536 := h9.2
    omega
  · have e : numAtV s a 2 = 0 := by unfold numAtV; rw [if_neg (fun x => h x.2)]
    rw [e]; omega
theorem gives_got {L : List ByteArray} {w w' : World} {kd sz gn : Int} {key : ByteArray} {R : List RecR} {E : List EntryR} {aR aE : Option Addr} {nR cR nE cE : Nat} (h8 : L.length = 8) (hok : readInoB L = true) (hG : inoGot L = ⟨kd, sz, gn, key, R, E⟩) (hn : R.length = nR) (hn' : E.length = nE)
    (hR : w'.ownsRow w.heap.size 66 3 (.slice aR nR cR) nR (cellsE encRec R)) (hE : w'.ownsRow w.heap.size 47 2 (.slice aE nE cE) nE (cellsE encEntry E)) (hx : aR = none ∨ aE = none) (hb : Below w.heap.size w w') {e : Ending}
    (he : e = .returned (.tuple #[.agg #[.int .i64 kd, .int .i64 sz, .int .i64 gn, .string key, .slice aR nR cR, .slice aE nE cE], .bool true])) : GivesIno (readInoR L) (readInoB L) w e w' := by
  subst hn hn'
  rw [got_eq h8 hok, hG, hok]
  exact ⟨aR, cR, aE, cE, he, hR, hE, hx, hb⟩
theorem drop_two {L : List ByteArray} {w w' : World} {g off : Nat} (h8 : L.length = 8) (hg : g < w.heap.size) (hb : Below w.heap.size w w') (h : ∀ j, j < 8 → w'.cell? ⟨g, off + j, none⟩ = some (.string (L.getD j default))) : SrcT w' (some ⟨g, off + 2, none⟩) 6 (L.drop 2) :=
  ⟨by rw [List.length_drop, h8], fun j hj => ⟨g, off + 2, rfl, Nat.lt_of_lt_of_le hg hb.size, fun o v hv => by
    match o, hv with
    | 0, hv =>
      have e : (L.drop 2).getD j default = L.getD (j + 2) default := by simp only [List.getD, List.getElem?_drop, Nat.add_comm]
      rw [e] at hv
      cases hv
      have := h (j + 2) (by omega)
      rw [show off + 2 + j * encT.k + 0 = off + (j + 2) from by show off + 2 + j * 1 + 0 = _; omega]
      exact this
    | o + 1, hv => simp [encT] at hv⟩⟩
theorem drop_fit {L : List ByteArray} {b : Nat} (hf : ∀ j, j < 8 → (L.getD j default).size ≤ b) : ∀ j, j < 6 → ((L.drop 2).getD j default).size ≤ b := fun j hj => by
  have e : (L.drop 2).getD j default = L.getD (j + 2) default := by simp only [List.getD, List.getElem?_drop, Nat.add_comm]
  rw [e]; exact hf _ (by omega)

set_option maxRecDepth 100000 in
set_option maxHeartbeats 4000000 in
theorem implReadIno_file (a : Option Addr) (c : Nat) (L : List ByteArray) (w : World) (hc : 8 ≤ c) (hcm : c ≤ 9223372036854775807) (hs : SrcT w a 8 L) (hf : ∀ j, j < 8 → (L.getD j default).size ≤ 1048576) (hk : gotKind L = 1) : Calls Tryd.prog 38 #[.slice a 8 c] w (GivesIno (readInoR L) (readInoB L) w) := by
  have HLn : Hid (L.length = 8) := Lib.hid hs.len
  have HS := Lib.hid hs
  have HF := Lib.hid hf
  have B0 := Lib.hid (below_bk w (inoObj 0 0 0 ⟨#[]⟩ none 0 0 none 0 0))
  have R0 := Lib.hid (Bk.alloc w zeroCs 54)
  obtain ⟨g, off, ha, hg, _⟩ := srcT_at hs 0 (by omega)
  have HC : Hid (∀ {w' : World}, Below w.heap.size w w' → ∀ j, j < 8 → w'.cell? ⟨g, off + j, none⟩ = some (.string (L.getD j default))) := Lib.hid (fun hb j hj => by
    obtain ⟨g', off', ha', _, d⟩ := srcT_later HS.out hb (Nat.le_refl _) j hj
    rw [ha] at ha'; cases ha'
    exact d)
  obtain ⟨x0, hx0⟩ : ∃ x, L.getD 0 default = x := ⟨_, rfl⟩
  obtain ⟨x1, hx1⟩ : ∃ x, L.getD 1 default = x := ⟨_, rfl⟩
  have hx0s : Hid (x0.size ≤ 1048576) := Lib.hid (by rw [← hx0]; exact hf 0 (by omega))
  have hx1s : Hid (x1.size ≤ 1048576) := Lib.hid (by rw [← hx1]; exact hf 1 (by omega))
  obtain ⟨sz, hsz⟩ : ∃ z : Int, numAtV x0 1 2 = z := ⟨_, rfl⟩
  obtain ⟨gn, hgn⟩ : ∃ z : Int, numAtV x0 3 2 = z := ⟨_, rfl⟩
  have HZB : Hid (-9223372036854775808 ≤ sz ∧ sz ≤ 9223372036854775807) := Lib.hid (by rw [← hsz]; exact numAtV_two x0 1)
  have HKD : Hid (numAtV x0 0 1 = 1) := Lib.hid (by rw [← hx0]; exact hk)
  have HGot : Hid (inoGot L = ⟨1, sz, gn, x1, (leadRecs (L.drop 2)), []⟩) := Lib.hid (by
    unfold inoGot
    rw [hk, hx0, hx1, hsz, hgn]
    rfl)
  have HX0 := Lib.hid hx0
  have HX1 := Lib.hid hx1
  have HSZ := Lib.hid hsz
  have HGN := Lib.hid hgn
  have HCB : Hid (∀ W : World, Calls Tryd.prog 79 #[.agg #[.int .i64 1, .int .i64 sz, .int .i64 gn, .string ⟨#[]⟩, .slice none 0 0, .slice none 0 0]] W fun e w' => e = .returned (.iface 100 (.agg #[.int .i64 sz, .string ⟨#[]⟩, .slice none 0 0])) ∧ Below W.heap.size W w') := Lib.hid (fun W => implBody_any 1 sz gn ⟨#[]⟩ none 0 0 none 0 0 W)
  have hgne : ¬ g = w.heap.size := by omega
  subst ha
  clear hs hf hx0 hx1 hsz hgn hk
  go_enter Tryd.func38, Tryd.ntmps38
  have d0 := HC.out B0.out 0 (by omega)
  rw [HX0.out, Nat.add_zero] at d0
  go_wp2_with fail
  refine (implHead_any x0 _ (by have := hx0s.out; omega)).mono ?_
  rw [HKD.out, HSZ.out, HGN.out]
  rintro e w1 ⟨rfl, hb1⟩
  obtain ⟨bx, hbx⟩ : ∃ b, w1.heap.size = b := ⟨_, rfl⟩
  have S2 : Hid (PSt w bx (inoCs 1 sz gn ⟨#[]⟩ none 0 0 none 0 0) (w1.alloc (inoObj 1 sz gn ⟨#[]⟩ none 0 0 none 0 0))) := Lib.hid (by rw [← hbx]; exact PSt.start R0.out B0.out hb1 _)
  have hbg : w.heap.size < bx := S2.out.lt
  have hgb : ¬ g = bx := by omega
  have hgb2 : ¬ bx = g := by omega
  have BX := Lib.hid hbx
  clear hb1 d0
  go_wp2_with fail
  obtain ⟨w2, h2w⟩ : ∃ x, x = w1.alloc (inoObj 1 sz gn ⟨#[]⟩ none 0 0 none 0 0) := ⟨_, rfl⟩
  rw [← h2w] at S2 ⊢
  clear h2w hbx
  refine (HCB.out _).mono ?_
  rintro e w3 ⟨rfl, hb3⟩
  have S3 := Lib.hid (S2.out.call hb3)
  clear hb3 S2
  have a1 := as_file (.agg #[.int .i64 sz, .string ⟨#[]⟩, .slice none 0 0]) w3
  have d1 := HC.out S3.out.below 1 (by omega)
  rw [HX1.out] at d1
  go_wp2_with fail
  refine (cloneText_any x1 _ (by have := hx1s.out; omega)).mono ?_
  rintro e w4 ⟨rfl, hb4⟩
  have S4 := Lib.hid (S3.out.call hb4)
  have y3 := S4.out.box.cell (j := 3) rfl
  have z3 := S4.out.box.fr (o := 3)
  have S5 := Lib.hid (S4.out.set 3 (.string x1))
  clear hb4 d1
  go_wp2_with fail
  clear y3 z3
  obtain ⟨W5, h5⟩ : ∃ x, x = w4.setCell ⟨bx, 3, none⟩ (.string x1) := ⟨_, rfl⟩
  rw [← h5] at S5 ⊢
  clear h5
  refine (implLeadRecs_any (some ⟨g, off + 2, none⟩) 6 (c - 2) (L.drop 2) _ (drop_two HLn.out hg S5.out.below (fun j hj => HC.out S5.out.below j hj)) (drop_fit HF.out) (by decide)).mono ?_
  rintro e w6 ⟨aX, cX, rfl, hown6, hb6⟩
  obtain ⟨nX, hnX⟩ : ∃ n, (leadRecs (L.drop 2)).length = n := ⟨_, rfl⟩
  rw [hnX] at hown6 ⊢
  have HNX := Lib.hid hnX
  have L5 : Hid (bx < W5.heap.size) := Lib.hid S5.out.box.lt
  have S6 := Lib.hid (S5.out.call hb6)
  have HNX9 : Hid (nX ≤ 6) := Lib.hid (by rw [← hnX]; unfold leadRecs; rw [List.length_map]; exact Nat.le_trans (while_le _ _) (by rw [List.length_drop, HLn.out]; omega))
  have y4 := S6.out.box.cell (j := 4) rfl
  have z4 := S6.out.box.fr (o := 4)
  have S7 := Lib.hid (S6.out.set 4 (.slice aX nX cX))
  have O7 := Lib.hid (ownE_but hown6 ((ButE.refl bx w6).then_set 4 (.slice aX nX cX)) (fun g hg => by have := (hown6.lt g hg).1; have := L5.out; omega))
  clear hb6 hown6 hnX
  have y0 := S7.out.box.cell (j := 0) rfl
  have y1 := S7.out.box.cell (j := 1) rfl
  have y2 := S7.out.box.cell (j := 2) rfl
  have y3 := S7.out.box.cell (j := 3) rfl
  have y4 := S7.out.box.cell (j := 4) rfl
  have y5 := S7.out.box.cell (j := 5) rfl
  go_wp2_with fail
  refine (implInoWords_any sz gn x1 aX nX cX none 0 0 _ (leadRecs (L.drop 2)) [] 1 HZB.out (by omega) (srcRec_of_own O7.out) (leadRecs_fit _ _) (SrcE.nil _ _ _) (fun j hj => absurd hj (Nat.not_lt_zero _))).mono ?_
  rintro e w8 ⟨v8, rfl, hown8, hb8⟩
  obtain ⟨a8, c8, rfl, _, _, _⟩ := own_form hown8
  have R8 := Lib.hid (srcT_of_own hown8)
  have S8 := Lib.hid (S7.out.call hb8)
  have O8 := Lib.hid (own_below O7.out hb8)
  have L8 : Hid ((inoWordsB ⟨1, sz, gn, x1, (leadRecs (L.drop 2)), []⟩).length ≤ 8) := Lib.hid (inoWords_le _)
  clear hown8 hb8 y0 y1 y2 y3 y4 y5
  go_wp2_with fail
  refine (implEqual_any _ _ _ 8 _ _ _ L _ (by have := L8.out; omega) R8.out (HS.out.below S8.out.below (Nat.le_refl _)) (readInoB L) (by rw [got_iff HLn.out, HGot.out])).mono ?_
  rintro e w9 ⟨rfl, q9, hq9⟩
  have S9 : Hid (PSt w bx #[.int .i64 1, .int .i64 sz, .int .i64 gn, .string x1, .slice aX nX cX, .slice none 0 0] w9) := Lib.hid (by rw [hq9]; exact S8.out.drewN q9)
  have O9 : Hid (w9.ownsRow W5.heap.size 66 3 (.slice aX nX cX) nX (cellsE encRec (leadRecs (L.drop 2)))) := Lib.hid (by rw [hq9]; exact O8.out)
  clear hq9
  have y0 := S9.out.box.cell (j := 0) rfl
  have r0 := S9.out.res.cell (j := 0) rfl
  have f0 := S9.out.res.fr (o := 0)
  have y1 := S9.out.box.cell (j := 1) rfl
  have r1 := S9.out.res.cell (j := 1) rfl
  have f1 := S9.out.res.fr (o := 1)
  have y2 := S9.out.box.cell (j := 2) rfl
  have r2 := S9.out.res.cell (j := 2) rfl
  have f2 := S9.out.res.fr (o := 2)
  have y3 := S9.out.box.cell (j := 3) rfl
  have r3 := S9.out.res.cell (j := 3) rfl
  have f3 := S9.out.res.fr (o := 3)
  have y4 := S9.out.box.cell (j := 4) rfl
  have r4 := S9.out.res.cell (j := 4) rfl
  have f4 := S9.out.res.fr (o := 4)
  have y5 := S9.out.box.cell (j := 5) rfl
  have r5 := S9.out.res.cell (j := 5) rfl
  have f5 := S9.out.res.fr (o := 5)
  have hbw : ¬ bx = w.heap.size := by omega
  have hbw2 : ¬ w.heap.size = bx := by omega
  by_cases hok : readInoB L = true
  · have HOK := Lib.hid hok
    rw [hok]
    clear hok
    have qf := ((((((S9.out.res.set 0 (.int .i64 1)).set 1 (.int .i64 sz)).set 2 (.int .i64 gn)).set 3 (.string x1)).set 4 (.slice aX nX cX)).set 5 (.slice none 0 0))
    have q0 := qf.cell (j := 0) (v := .int .i64 1) rfl
    have q1 := qf.cell (j := 1) (v := .int .i64 sz) rfl
    have q2 := qf.cell (j := 2) (v := .int .i64 gn) rfl
    have q3 := qf.cell (j := 3) (v := .string x1) rfl
    have q4 := qf.cell (j := 4) (v := .slice aX nX cX) rfl
    have q5 := qf.cell (j := 5) (v := .slice none 0 0) rfl
    clear qf
    go_wp2
    refine bodyPost_ret (v := .tuple #[.agg #[.int .i64 1, .int .i64 sz, .int .i64 gn, .string x1, .slice aX nX cX, .slice none 0 0], .bool true]) ?_ rfl (gives_got HLn.out HOK.out HGot.out HNX.out rfl (ownE_mono (ownE_but O9.out (((((((ButE.refl w.heap.size _).then_set _ _).then_set _ _).then_set _ _).then_set _ _).then_set _ _).then_set _ _) (fun g hg => by have := (O9.out.lt g hg).1; have := L5.out; omega)) (by have := L5.out; omega)) ⟨rfl, .inl ⟨rfl, rfl⟩⟩ (.inr rfl) ((((((S9.out.below.setCell (Nat.le_refl _) _).setCell (Nat.le_refl _) _).setCell (Nat.le_refl _) _).setCell (Nat.le_refl _) _).setCell (Nat.le_refl _) _).setCell (Nat.le_refl _) _) rfl)
    simp [results, Tryd.results38, go_sem, q0, q1, q2, q3, q4, q5]
  · have HOK : Hid (¬ ReadOk L) := Lib.hid (fun h => hok (readInoB_yes h))
    rw [show readInoB L = false by simpa using hok]
    clear hok
    have qf := ((((((S9.out.res.set 0 (.int .i64 0)).set 1 (.int .i64 0)).set 2 (.int .i64 0)).set 3 (.string ⟨#[]⟩)).set 4 (.slice none 0 0)).set 5 (.slice none 0 0))
    have q0 := qf.cell (j := 0) (v := .int .i64 0) rfl
    have q1 := qf.cell (j := 1) (v := .int .i64 0) rfl
    have q2 := qf.cell (j := 2) (v := .int .i64 0) rfl
    have q3 := qf.cell (j := 3) (v := .string ⟨#[]⟩) rfl
    have q4 := qf.cell (j := 4) (v := .slice none 0 0) rfl
    have q5 := qf.cell (j := 5) (v := .slice none 0 0) rfl
    clear qf
    go_wp2
    refine bodyPost_ret (v := .tuple #[.agg #[.int .i64 0, .int .i64 0, .int .i64 0, .string ⟨#[]⟩, .slice none 0 0, .slice none 0 0], .bool false]) ?_ rfl (gives_zero L w ((((((S9.out.below.setCell (Nat.le_refl _) _).setCell (Nat.le_refl _) _).setCell (Nat.le_refl _) _).setCell (Nat.le_refl _) _).setCell (Nat.le_refl _) _).setCell (Nat.le_refl _) _) HOK.out rfl)
    simp [results, Tryd.results38, go_sem, q0, q1, q2, q3, q4, q5]

set_option maxRecDepth 100000 in
set_option maxHeartbeats 4000000 in
theorem implReadIno_dir (a : Option Addr) (c : Nat) (L : List ByteArray) (w : World) (hc : 8 ≤ c) (hcm : c ≤ 9223372036854775807) (hs : SrcT w a 8 L) (hf : ∀ j, j < 8 → (L.getD j default).size ≤ 1048576) (hk : gotKind L = 2) : Calls Tryd.prog 38 #[.slice a 8 c] w (GivesIno (readInoR L) (readInoB L) w) := by
  have HLn : Hid (L.length = 8) := Lib.hid hs.len
  have HS := Lib.hid hs
  have HF := Lib.hid hf
  have B0 := Lib.hid (below_bk w (inoObj 0 0 0 ⟨#[]⟩ none 0 0 none 0 0))
  have R0 := Lib.hid (Bk.alloc w zeroCs 54)
  obtain ⟨g, off, ha, hg, _⟩ := srcT_at hs 0 (by omega)
  have HC : Hid (∀ {w' : World}, Below w.heap.size w w' → ∀ j, j < 8 → w'.cell? ⟨g, off + j, none⟩ = some (.string (L.getD j default))) := Lib.hid (fun hb j hj => by
    obtain ⟨g', off', ha', _, d⟩ := srcT_later HS.out hb (Nat.le_refl _) j hj
    rw [ha] at ha'; cases ha'
    exact d)
  obtain ⟨x0, hx0⟩ : ∃ x, L.getD 0 default = x := ⟨_, rfl⟩
  obtain ⟨x1, hx1⟩ : ∃ x, L.getD 1 default = x := ⟨_, rfl⟩
  have hx0s : Hid (x0.size ≤ 1048576) := Lib.hid (by rw [← hx0]; exact hf 0 (by omega))
  have hx1s : Hid (x1.size ≤ 1048576) := Lib.hid (by rw [← hx1]; exact hf 1 (by omega))
  obtain ⟨sz, hsz⟩ : ∃ z : Int, numAtV x0 1 2 = z := ⟨_, rfl⟩
  obtain ⟨gn, hgn⟩ : ∃ z : Int, numAtV x0 3 2 = z := ⟨_, rfl⟩
  have HZB : Hid (-9223372036854775808 ≤ sz ∧ sz ≤ 9223372036854775807) := Lib.hid (by rw [← hsz]; exact numAtV_two x0 1)
  have HKD : Hid (numAtV x0 0 1 = 2) := Lib.hid (by rw [← hx0]; exact hk)
  have HGot : Hid (inoGot L = ⟨2, sz, gn, ⟨#[]⟩, [], (leadEnts (L.drop 2))⟩) := Lib.hid (by
    unfold inoGot
    rw [hk, hx0, hx1, hsz, hgn]
    rfl)
  have HX0 := Lib.hid hx0
  have HX1 := Lib.hid hx1
  have HSZ := Lib.hid hsz
  have HGN := Lib.hid hgn
  have HCB : Hid (∀ W : World, Calls Tryd.prog 79 #[.agg #[.int .i64 2, .int .i64 sz, .int .i64 gn, .string ⟨#[]⟩, .slice none 0 0, .slice none 0 0]] W fun e w' => e = .returned (.iface 103 (.agg #[.slice none 0 0])) ∧ Below W.heap.size W w') := Lib.hid (fun W => implBody_any 2 sz gn ⟨#[]⟩ none 0 0 none 0 0 W)
  have hgne : ¬ g = w.heap.size := by omega
  subst ha
  clear hs hf hx0 hx1 hsz hgn hk
  go_enter Tryd.func38, Tryd.ntmps38
  have d0 := HC.out B0.out 0 (by omega)
  rw [HX0.out, Nat.add_zero] at d0
  go_wp2_with fail
  refine (implHead_any x0 _ (by have := hx0s.out; omega)).mono ?_
  rw [HKD.out, HSZ.out, HGN.out]
  rintro e w1 ⟨rfl, hb1⟩
  obtain ⟨bx, hbx⟩ : ∃ b, w1.heap.size = b := ⟨_, rfl⟩
  have S2 : Hid (PSt w bx (inoCs 2 sz gn ⟨#[]⟩ none 0 0 none 0 0) (w1.alloc (inoObj 2 sz gn ⟨#[]⟩ none 0 0 none 0 0))) := Lib.hid (by rw [← hbx]; exact PSt.start R0.out B0.out hb1 _)
  have hbg : w.heap.size < bx := S2.out.lt
  have hgb : ¬ g = bx := by omega
  have hgb2 : ¬ bx = g := by omega
  have BX := Lib.hid hbx
  clear hb1 d0
  go_wp2_with fail
  obtain ⟨w2, h2w⟩ : ∃ x, x = w1.alloc (inoObj 2 sz gn ⟨#[]⟩ none 0 0 none 0 0) := ⟨_, rfl⟩
  rw [← h2w] at S2 ⊢
  clear h2w hbx
  refine (HCB.out _).mono ?_
  rintro e w3 ⟨rfl, hb3⟩
  have S3 := Lib.hid (S2.out.call hb3)
  clear hb3 S2
  have a1 := dir_no_file (.agg #[.slice none 0 0]) w3
  have a2 := as_dir (.agg #[.slice none 0 0]) w3
  have S5 := S3
  go_wp2_with fail
  obtain ⟨W5, h5⟩ : ∃ x, x = w3 := ⟨_, rfl⟩
  rw [← h5] at S5 ⊢
  clear h5
  refine (implLeadEnts_any (some ⟨g, off + 2, none⟩) 6 (c - 2) (L.drop 2) _ (drop_two HLn.out hg S5.out.below (fun j hj => HC.out S5.out.below j hj)) (drop_fit HF.out) (by decide)).mono ?_
  rintro e w6 ⟨aX, cX, rfl, hown6, hb6⟩
  obtain ⟨nX, hnX⟩ : ∃ n, (leadEnts (L.drop 2)).length = n := ⟨_, rfl⟩
  rw [hnX] at hown6 ⊢
  have HNX := Lib.hid hnX
  have L5 : Hid (bx < W5.heap.size) := Lib.hid S5.out.box.lt
  have S6 := Lib.hid (S5.out.call hb6)
  have HNX9 : Hid (nX ≤ 6) := Lib.hid (by rw [← hnX]; unfold leadEnts; rw [List.length_map]; exact Nat.le_trans (while_le _ _) (by rw [List.length_drop, HLn.out]; omega))
  have y5 := S6.out.box.cell (j := 5) rfl
  have z5 := S6.out.box.fr (o := 5)
  have S7 := Lib.hid (S6.out.set 5 (.slice aX nX cX))
  have O7 := Lib.hid (ownE_but hown6 ((ButE.refl bx w6).then_set 5 (.slice aX nX cX)) (fun g hg => by have := (hown6.lt g hg).1; have := L5.out; omega))
  clear hb6 hown6 hnX
  have y0 := S7.out.box.cell (j := 0) rfl
  have y1 := S7.out.box.cell (j := 1) rfl
  have y2 := S7.out.box.cell (j := 2) rfl
  have y3 := S7.out.box.cell (j := 3) rfl
  have y4 := S7.out.box.cell (j := 4) rfl
  have y5 := S7.out.box.cell (j := 5) rfl
  go_wp2_with fail
  refine (implInoWords_any sz gn ⟨#[]⟩ none 0 0 aX nX cX _ [] (leadEnts (L.drop 2)) 2 HZB.out (by have := HNX9.out; omega) (SrcE.nil _ _ _) (fun j hj => absurd hj (Nat.not_lt_zero _)) (srcEntry_of_own O7.out) (leadEnts_fit _ _)).mono ?_
  rintro e w8 ⟨v8, rfl, hown8, hb8⟩
  obtain ⟨a8, c8, rfl, _, _, _⟩ := own_form hown8
  have R8 := Lib.hid (srcT_of_own hown8)
  have S8 := Lib.hid (S7.out.call hb8)
  have O8 := Lib.hid (own_below O7.out hb8)
  have L8 : Hid ((inoWordsB ⟨2, sz, gn, ⟨#[]⟩, [], (leadEnts (L.drop 2))⟩).length ≤ 8) := Lib.hid (inoWords_le _)
  clear hown8 hb8 y0 y1 y2 y3 y4 y5
  go_wp2_with fail
  refine (implEqual_any _ _ _ 8 _ _ _ L _ (by have := L8.out; omega) R8.out (HS.out.below S8.out.below (Nat.le_refl _)) (readInoB L) (by rw [got_iff HLn.out, HGot.out])).mono ?_
  rintro e w9 ⟨rfl, q9, hq9⟩
  have S9 : Hid (PSt w bx #[.int .i64 2, .int .i64 sz, .int .i64 gn, .string ⟨#[]⟩, .slice none 0 0, .slice aX nX cX] w9) := Lib.hid (by rw [hq9]; exact S8.out.drewN q9)
  have O9 : Hid (w9.ownsRow W5.heap.size 47 2 (.slice aX nX cX) nX (cellsE encEntry (leadEnts (L.drop 2)))) := Lib.hid (by rw [hq9]; exact O8.out)
  clear hq9
  have y0 := S9.out.box.cell (j := 0) rfl
  have r0 := S9.out.res.cell (j := 0) rfl
  have f0 := S9.out.res.fr (o := 0)
  have y1 := S9.out.box.cell (j := 1) rfl
  have r1 := S9.out.res.cell (j := 1) rfl
  have f1 := S9.out.res.fr (o := 1)
  have y2 := S9.out.box.cell (j := 2) rfl
  have r2 := S9.out.res.cell (j := 2) rfl
  have f2 := S9.out.res.fr (o := 2)
  have y3 := S9.out.box.cell (j := 3) rfl
  have r3 := S9.out.res.cell (j := 3) rfl
  have f3 := S9.out.res.fr (o := 3)
  have y4 := S9.out.box.cell (j := 4) rfl
  have r4 := S9.out.res.cell (j := 4) rfl
  have f4 := S9.out.res.fr (o := 4)
  have y5 := S9.out.box.cell (j := 5) rfl
  have r5 := S9.out.res.cell (j := 5) rfl
  have f5 := S9.out.res.fr (o := 5)
  have hbw : ¬ bx = w.heap.size := by omega
  have hbw2 : ¬ w.heap.size = bx := by omega
  by_cases hok : readInoB L = true
  · have HOK := Lib.hid hok
    rw [hok]
    clear hok
    have qf := ((((((S9.out.res.set 0 (.int .i64 2)).set 1 (.int .i64 sz)).set 2 (.int .i64 gn)).set 3 (.string ⟨#[]⟩)).set 4 (.slice none 0 0)).set 5 (.slice aX nX cX))
    have q0 := qf.cell (j := 0) (v := .int .i64 2) rfl
    have q1 := qf.cell (j := 1) (v := .int .i64 sz) rfl
    have q2 := qf.cell (j := 2) (v := .int .i64 gn) rfl
    have q3 := qf.cell (j := 3) (v := .string ⟨#[]⟩) rfl
    have q4 := qf.cell (j := 4) (v := .slice none 0 0) rfl
    have q5 := qf.cell (j := 5) (v := .slice aX nX cX) rfl
    clear qf
    go_wp2
    refine bodyPost_ret (v := .tuple #[.agg #[.int .i64 2, .int .i64 sz, .int .i64 gn, .string ⟨#[]⟩, .slice none 0 0, .slice aX nX cX], .bool true]) ?_ rfl (gives_got HLn.out HOK.out HGot.out rfl HNX.out ⟨rfl, .inl ⟨rfl, rfl⟩⟩ (ownE_mono (ownE_but O9.out (((((((ButE.refl w.heap.size _).then_set _ _).then_set _ _).then_set _ _).then_set _ _).then_set _ _).then_set _ _) (fun g hg => by have := (O9.out.lt g hg).1; have := L5.out; omega)) (by have := L5.out; omega)) (.inl rfl) ((((((S9.out.below.setCell (Nat.le_refl _) _).setCell (Nat.le_refl _) _).setCell (Nat.le_refl _) _).setCell (Nat.le_refl _) _).setCell (Nat.le_refl _) _).setCell (Nat.le_refl _) _) rfl)
    simp [results, Tryd.results38, go_sem, q0, q1, q2, q3, q4, q5]
  · have HOK : Hid (¬ ReadOk L) := Lib.hid (fun h => hok (readInoB_yes h))
    rw [show readInoB L = false by simpa using hok]
    clear hok
    have qf := ((((((S9.out.res.set 0 (.int .i64 0)).set 1 (.int .i64 0)).set 2 (.int .i64 0)).set 3 (.string ⟨#[]⟩)).set 4 (.slice none 0 0)).set 5 (.slice none 0 0))
    have q0 := qf.cell (j := 0) (v := .int .i64 0) rfl
    have q1 := qf.cell (j := 1) (v := .int .i64 0) rfl
    have q2 := qf.cell (j := 2) (v := .int .i64 0) rfl
    have q3 := qf.cell (j := 3) (v := .string ⟨#[]⟩) rfl
    have q4 := qf.cell (j := 4) (v := .slice none 0 0) rfl
    have q5 := qf.cell (j := 5) (v := .slice none 0 0) rfl
    clear qf
    go_wp2
    refine bodyPost_ret (v := .tuple #[.agg #[.int .i64 0, .int .i64 0, .int .i64 0, .string ⟨#[]⟩, .slice none 0 0, .slice none 0 0], .bool false]) ?_ rfl (gives_zero L w ((((((S9.out.below.setCell (Nat.le_refl _) _).setCell (Nat.le_refl _) _).setCell (Nat.le_refl _) _).setCell (Nat.le_refl _) _).setCell (Nat.le_refl _) _).setCell (Nat.le_refl _) _) HOK.out rfl)
    simp [results, Tryd.results38, go_sem, q0, q1, q2, q3, q4, q5]

set_option maxRecDepth 100000 in
set_option maxHeartbeats 4000000 in
theorem implReadIno_free (a : Option Addr) (c : Nat) (L : List ByteArray) (w : World) (_hc : 8 ≤ c) (_hcm : c ≤ 9223372036854775807) (hs : SrcT w a 8 L) (hf : ∀ j, j < 8 → (L.getD j default).size ≤ 1048576) (hk : gotKind L = 0) : Calls Tryd.prog 38 #[.slice a 8 c] w (GivesIno (readInoR L) (readInoB L) w) := by
  have HLn : Hid (L.length = 8) := Lib.hid hs.len
  have HS := Lib.hid hs
  have HF := Lib.hid hf
  have B0 := Lib.hid (below_bk w (inoObj 0 0 0 ⟨#[]⟩ none 0 0 none 0 0))
  have R0 := Lib.hid (Bk.alloc w zeroCs 54)
  obtain ⟨g, off, ha, hg, _⟩ := srcT_at hs 0 (by omega)
  have HC : Hid (∀ {w' : World}, Below w.heap.size w w' → ∀ j, j < 8 → w'.cell? ⟨g, off + j, none⟩ = some (.string (L.getD j default))) := Lib.hid (fun hb j hj => by
    obtain ⟨g', off', ha', _, d⟩ := srcT_later HS.out hb (Nat.le_refl _) j hj
    rw [ha] at ha'; cases ha'
    exact d)
  obtain ⟨x0, hx0⟩ : ∃ x, L.getD 0 default = x := ⟨_, rfl⟩
  obtain ⟨x1, hx1⟩ : ∃ x, L.getD 1 default = x := ⟨_, rfl⟩
  have hx0s : Hid (x0.size ≤ 1048576) := Lib.hid (by rw [← hx0]; exact hf 0 (by omega))
  have hx1s : Hid (x1.size ≤ 1048576) := Lib.hid (by rw [← hx1]; exact hf 1 (by omega))
  obtain ⟨sz, hsz⟩ : ∃ z : Int, numAtV x0 1 2 = z := ⟨_, rfl⟩
  obtain ⟨gn, hgn⟩ : ∃ z : Int, numAtV x0 3 2 = z := ⟨_, rfl⟩
  have HZB : Hid (-9223372036854775808 ≤ sz ∧ sz ≤ 9223372036854775807) := Lib.hid (by rw [← hsz]; exact numAtV_two x0 1)
  have HKD : Hid (numAtV x0 0 1 = 0) := Lib.hid (by rw [← hx0]; exact hk)
  have HGot : Hid (inoGot L = ⟨0, sz, gn, ⟨#[]⟩, [], []⟩) := Lib.hid (by
    unfold inoGot
    rw [hk, hx0, hx1, hsz, hgn]
    rfl)
  have HX0 := Lib.hid hx0
  have HX1 := Lib.hid hx1
  have HSZ := Lib.hid hsz
  have HGN := Lib.hid hgn
  have HCB : Hid (∀ W : World, Calls Tryd.prog 79 #[.agg #[.int .i64 0, .int .i64 sz, .int .i64 gn, .string ⟨#[]⟩, .slice none 0 0, .slice none 0 0]] W fun e w' => e = .returned (.iface 115 (.agg #[])) ∧ Below W.heap.size W w') := Lib.hid (fun W => implBody_any 0 sz gn ⟨#[]⟩ none 0 0 none 0 0 W)
  have hgne : ¬ g = w.heap.size := by omega
  subst ha
  clear hs hf hx0 hx1 hsz hgn hk
  go_enter Tryd.func38, Tryd.ntmps38
  have d0 := HC.out B0.out 0 (by omega)
  rw [HX0.out, Nat.add_zero] at d0
  go_wp2_with fail
  refine (implHead_any x0 _ (by have := hx0s.out; omega)).mono ?_
  rw [HKD.out, HSZ.out, HGN.out]
  rintro e w1 ⟨rfl, hb1⟩
  obtain ⟨bx, hbx⟩ : ∃ b, w1.heap.size = b := ⟨_, rfl⟩
  have S2 : Hid (PSt w bx (inoCs 0 sz gn ⟨#[]⟩ none 0 0 none 0 0) (w1.alloc (inoObj 0 sz gn ⟨#[]⟩ none 0 0 none 0 0))) := Lib.hid (by rw [← hbx]; exact PSt.start R0.out B0.out hb1 _)
  have hbg : w.heap.size < bx := S2.out.lt
  have hgb : ¬ g = bx := by omega
  have hgb2 : ¬ bx = g := by omega
  have BX := Lib.hid hbx
  clear hb1 d0
  go_wp2_with fail
  obtain ⟨w2, h2w⟩ : ∃ x, x = w1.alloc (inoObj 0 sz gn ⟨#[]⟩ none 0 0 none 0 0) := ⟨_, rfl⟩
  rw [← h2w] at S2 ⊢
  clear h2w hbx
  refine (HCB.out _).mono ?_
  rintro e w3 ⟨rfl, hb3⟩
  have S3 := Lib.hid (S2.out.call hb3)
  clear hb3 S2
  have a1 := free_no_file (.agg #[]) w3
  have a2 := free_no_dir (.agg #[]) w3
  have S7 := S3
  have y0 := S7.out.box.cell (j := 0) rfl
  have y1 := S7.out.box.cell (j := 1) rfl
  have y2 := S7.out.box.cell (j := 2) rfl
  have y3 := S7.out.box.cell (j := 3) rfl
  have y4 := S7.out.box.cell (j := 4) rfl
  have y5 := S7.out.box.cell (j := 5) rfl
  go_wp2_with fail
  refine (implInoWords_any sz gn ⟨#[]⟩ none 0 0 none 0 0 _ [] [] 0 HZB.out (by omega) (SrcE.nil _ _ _) (fun j hj => absurd hj (Nat.not_lt_zero _)) (SrcE.nil _ _ _) (fun j hj => absurd hj (Nat.not_lt_zero _))).mono ?_
  rintro e w8 ⟨v8, rfl, hown8, hb8⟩
  obtain ⟨a8, c8, rfl, _, _, _⟩ := own_form hown8
  have R8 := Lib.hid (srcT_of_own hown8)
  have S8 := Lib.hid (S7.out.call hb8)
  have L8 : Hid ((inoWordsB ⟨0, sz, gn, ⟨#[]⟩, [], []⟩).length ≤ 8) := Lib.hid (inoWords_le _)
  clear hown8 hb8 y0 y1 y2 y3 y4 y5
  go_wp2_with fail
  refine (implEqual_any _ _ _ 8 _ _ _ L _ (by have := L8.out; omega) R8.out (HS.out.below S8.out.below (Nat.le_refl _)) (readInoB L) (by rw [got_iff HLn.out, HGot.out])).mono ?_
  rintro e w9 ⟨rfl, q9, hq9⟩
  have S9 : Hid (PSt w bx #[.int .i64 0, .int .i64 sz, .int .i64 gn, .string ⟨#[]⟩, .slice none 0 0, .slice none 0 0] w9) := Lib.hid (by rw [hq9]; exact S8.out.drewN q9)
  clear hq9
  have y0 := S9.out.box.cell (j := 0) rfl
  have r0 := S9.out.res.cell (j := 0) rfl
  have f0 := S9.out.res.fr (o := 0)
  have y1 := S9.out.box.cell (j := 1) rfl
  have r1 := S9.out.res.cell (j := 1) rfl
  have f1 := S9.out.res.fr (o := 1)
  have y2 := S9.out.box.cell (j := 2) rfl
  have r2 := S9.out.res.cell (j := 2) rfl
  have f2 := S9.out.res.fr (o := 2)
  have y3 := S9.out.box.cell (j := 3) rfl
  have r3 := S9.out.res.cell (j := 3) rfl
  have f3 := S9.out.res.fr (o := 3)
  have y4 := S9.out.box.cell (j := 4) rfl
  have r4 := S9.out.res.cell (j := 4) rfl
  have f4 := S9.out.res.fr (o := 4)
  have y5 := S9.out.box.cell (j := 5) rfl
  have r5 := S9.out.res.cell (j := 5) rfl
  have f5 := S9.out.res.fr (o := 5)
  have hbw : ¬ bx = w.heap.size := by omega
  have hbw2 : ¬ w.heap.size = bx := by omega
  by_cases hok : readInoB L = true
  · have HOK := Lib.hid hok
    rw [hok]
    clear hok
    have qf := ((((((S9.out.res.set 0 (.int .i64 0)).set 1 (.int .i64 sz)).set 2 (.int .i64 gn)).set 3 (.string ⟨#[]⟩)).set 4 (.slice none 0 0)).set 5 (.slice none 0 0))
    have q0 := qf.cell (j := 0) (v := .int .i64 0) rfl
    have q1 := qf.cell (j := 1) (v := .int .i64 sz) rfl
    have q2 := qf.cell (j := 2) (v := .int .i64 gn) rfl
    have q3 := qf.cell (j := 3) (v := .string ⟨#[]⟩) rfl
    have q4 := qf.cell (j := 4) (v := .slice none 0 0) rfl
    have q5 := qf.cell (j := 5) (v := .slice none 0 0) rfl
    clear qf
    go_wp2
    refine bodyPost_ret (v := .tuple #[.agg #[.int .i64 0, .int .i64 sz, .int .i64 gn, .string ⟨#[]⟩, .slice none 0 0, .slice none 0 0], .bool true]) ?_ rfl (gives_got HLn.out HOK.out HGot.out rfl rfl ⟨rfl, .inl ⟨rfl, rfl⟩⟩ ⟨rfl, .inl ⟨rfl, rfl⟩⟩ (.inl rfl) ((((((S9.out.below.setCell (Nat.le_refl _) _).setCell (Nat.le_refl _) _).setCell (Nat.le_refl _) _).setCell (Nat.le_refl _) _).setCell (Nat.le_refl _) _).setCell (Nat.le_refl _) _) rfl)
    simp [results, Tryd.results38, go_sem, q0, q1, q2, q3, q4, q5]
  · have HOK : Hid (¬ ReadOk L) := Lib.hid (fun h => hok (readInoB_yes h))
    rw [show readInoB L = false by simpa using hok]
    clear hok
    have qf := ((((((S9.out.res.set 0 (.int .i64 0)).set 1 (.int .i64 0)).set 2 (.int .i64 0)).set 3 (.string ⟨#[]⟩)).set 4 (.slice none 0 0)).set 5 (.slice none 0 0))
    have q0 := qf.cell (j := 0) (v := .int .i64 0) rfl
    have q1 := qf.cell (j := 1) (v := .int .i64 0) rfl
    have q2 := qf.cell (j := 2) (v := .int .i64 0) rfl
    have q3 := qf.cell (j := 3) (v := .string ⟨#[]⟩) rfl
    have q4 := qf.cell (j := 4) (v := .slice none 0 0) rfl
    have q5 := qf.cell (j := 5) (v := .slice none 0 0) rfl
    clear qf
    go_wp2
    refine bodyPost_ret (v := .tuple #[.agg #[.int .i64 0, .int .i64 0, .int .i64 0, .string ⟨#[]⟩, .slice none 0 0, .slice none 0 0], .bool false]) ?_ rfl (gives_zero L w ((((((S9.out.below.setCell (Nat.le_refl _) _).setCell (Nat.le_refl _) _).setCell (Nat.le_refl _) _).setCell (Nat.le_refl _) _).setCell (Nat.le_refl _) _).setCell (Nat.le_refl _) _) HOK.out rfl)
    simp [results, Tryd.results38, go_sem, q0, q1, q2, q3, q4, q5]

set_option maxRecDepth 100000 in
set_option maxHeartbeats 4000000 in
theorem implReadIno_other (a : Option Addr) (c : Nat) (L : List ByteArray) (w : World) (_hc : 8 ≤ c) (_hcm : c ≤ 9223372036854775807) (hs : SrcT w a 8 L) (hf : ∀ j, j < 8 → (L.getD j default).size ≤ 1048576) (kd : Int) (hk : gotKind L = kd) (h0 : ¬ kd = 0) (h1 : ¬ kd = 1) (h2 : ¬ kd = 2) : Calls Tryd.prog 38 #[.slice a 8 c] w (GivesIno (readInoR L) (readInoB L) w) := by
  have HLn : Hid (L.length = 8) := Lib.hid hs.len
  have HS := Lib.hid hs
  have HF := Lib.hid hf
  have B0 := Lib.hid (below_bk w (inoObj 0 0 0 ⟨#[]⟩ none 0 0 none 0 0))
  have R0 := Lib.hid (Bk.alloc w zeroCs 54)
  obtain ⟨g, off, ha, hg, _⟩ := srcT_at hs 0 (by omega)
  have HC : Hid (∀ {w' : World}, Below w.heap.size w w' → ∀ j, j < 8 → w'.cell? ⟨g, off + j, none⟩ = some (.string (L.getD j default))) := Lib.hid (fun hb j hj => by
    obtain ⟨g', off', ha', _, d⟩ := srcT_later HS.out hb (Nat.le_refl _) j hj
    rw [ha] at ha'; cases ha'
    exact d)
  obtain ⟨x0, hx0⟩ : ∃ x, L.getD 0 default = x := ⟨_, rfl⟩
  obtain ⟨x1, hx1⟩ : ∃ x, L.getD 1 default = x := ⟨_, rfl⟩
  have hx0s : Hid (x0.size ≤ 1048576) := Lib.hid (by rw [← hx0]; exact hf 0 (by omega))
  have hx1s : Hid (x1.size ≤ 1048576) := Lib.hid (by rw [← hx1]; exact hf 1 (by omega))
  obtain ⟨sz, hsz⟩ : ∃ z : Int, numAtV x0 1 2 = z := ⟨_, rfl⟩
  obtain ⟨gn, hgn⟩ : ∃ z : Int, numAtV x0 3 2 = z := ⟨_, rfl⟩
  have HZB : Hid (-9223372036854775808 ≤ sz ∧ sz ≤ 9223372036854775807) := Lib.hid (by rw [← hsz]; exact numAtV_two x0 1)
  have HKD : Hid (numAtV x0 0 1 = kd) := Lib.hid (by rw [← hx0]; exact hk)
  have HGot : Hid (inoGot L = ⟨kd, sz, gn, ⟨#[]⟩, [], []⟩) := Lib.hid (by
    unfold inoGot
    rw [hk, hx0, hx1, hsz, hgn]
    rw [if_neg h1, if_neg h1, if_neg h2])
  have HX0 := Lib.hid hx0
  have HX1 := Lib.hid hx1
  have HSZ := Lib.hid hsz
  have HGN := Lib.hid hgn
  have HCB : Hid (∀ W : World, Calls Tryd.prog 79 #[.agg #[.int .i64 kd, .int .i64 sz, .int .i64 gn, .string ⟨#[]⟩, .slice none 0 0, .slice none 0 0]] W fun e w' => e = .returned (.nilIface) ∧ Below W.heap.size W w') := Lib.hid (fun W => by have h9 := implBody_any kd sz gn ⟨#[]⟩ none 0 0 none 0 0 W; unfold bodyV at h9; rw [if_neg h0, if_neg h1, if_neg h2] at h9; exact h9)
  have hgne : ¬ g = w.heap.size := by omega
  subst ha
  clear hs hf hx0 hx1 hsz hgn hk h0 h1 h2
  go_enter Tryd.func38, Tryd.ntmps38
  have d0 := HC.out B0.out 0 (by omega)
  rw [HX0.out, Nat.add_zero] at d0
  go_wp2_with fail
  refine (implHead_any x0 _ (by have := hx0s.out; omega)).mono ?_
  rw [HKD.out, HSZ.out, HGN.out]
  rintro e w1 ⟨rfl, hb1⟩
  obtain ⟨bx, hbx⟩ : ∃ b, w1.heap.size = b := ⟨_, rfl⟩
  have S2 : Hid (PSt w bx (inoCs kd sz gn ⟨#[]⟩ none 0 0 none 0 0) (w1.alloc (inoObj kd sz gn ⟨#[]⟩ none 0 0 none 0 0))) := Lib.hid (by rw [← hbx]; exact PSt.start R0.out B0.out hb1 _)
  have hbg : w.heap.size < bx := S2.out.lt
  have hgb : ¬ g = bx := by omega
  have hgb2 : ¬ bx = g := by omega
  have BX := Lib.hid hbx
  clear hb1 d0
  go_wp2_with fail
  obtain ⟨w2, h2w⟩ : ∃ x, x = w1.alloc (inoObj kd sz gn ⟨#[]⟩ none 0 0 none 0 0) := ⟨_, rfl⟩
  rw [← h2w] at S2 ⊢
  clear h2w hbx
  refine (HCB.out _).mono ?_
  rintro e w3 ⟨rfl, hb3⟩
  have S3 := Lib.hid (S2.out.call hb3)
  clear hb3 S2
  have a1 := nil_no_file w3
  have a2 := nil_no_dir w3
  have S7 := S3
  have y0 := S7.out.box.cell (j := 0) rfl
  have y1 := S7.out.box.cell (j := 1) rfl
  have y2 := S7.out.box.cell (j := 2) rfl
  have y3 := S7.out.box.cell (j := 3) rfl
  have y4 := S7.out.box.cell (j := 4) rfl
  have y5 := S7.out.box.cell (j := 5) rfl
  go_wp2_with fail
  refine (implInoWords_any sz gn ⟨#[]⟩ none 0 0 none 0 0 _ [] [] kd HZB.out (by omega) (SrcE.nil _ _ _) (fun j hj => absurd hj (Nat.not_lt_zero _)) (SrcE.nil _ _ _) (fun j hj => absurd hj (Nat.not_lt_zero _))).mono ?_
  rintro e w8 ⟨v8, rfl, hown8, hb8⟩
  obtain ⟨a8, c8, rfl, _, _, _⟩ := own_form hown8
  have R8 := Lib.hid (srcT_of_own hown8)
  have S8 := Lib.hid (S7.out.call hb8)
  have L8 : Hid ((inoWordsB ⟨kd, sz, gn, ⟨#[]⟩, [], []⟩).length ≤ 8) := Lib.hid (inoWords_le _)
  clear hown8 hb8 y0 y1 y2 y3 y4 y5
  go_wp2_with fail
  refine (implEqual_any _ _ _ 8 _ _ _ L _ (by have := L8.out; omega) R8.out (HS.out.below S8.out.below (Nat.le_refl _)) (readInoB L) (by rw [got_iff HLn.out, HGot.out])).mono ?_
  rintro e w9 ⟨rfl, q9, hq9⟩
  have S9 : Hid (PSt w bx #[.int .i64 kd, .int .i64 sz, .int .i64 gn, .string ⟨#[]⟩, .slice none 0 0, .slice none 0 0] w9) := Lib.hid (by rw [hq9]; exact S8.out.drewN q9)
  clear hq9
  have y0 := S9.out.box.cell (j := 0) rfl
  have r0 := S9.out.res.cell (j := 0) rfl
  have f0 := S9.out.res.fr (o := 0)
  have y1 := S9.out.box.cell (j := 1) rfl
  have r1 := S9.out.res.cell (j := 1) rfl
  have f1 := S9.out.res.fr (o := 1)
  have y2 := S9.out.box.cell (j := 2) rfl
  have r2 := S9.out.res.cell (j := 2) rfl
  have f2 := S9.out.res.fr (o := 2)
  have y3 := S9.out.box.cell (j := 3) rfl
  have r3 := S9.out.res.cell (j := 3) rfl
  have f3 := S9.out.res.fr (o := 3)
  have y4 := S9.out.box.cell (j := 4) rfl
  have r4 := S9.out.res.cell (j := 4) rfl
  have f4 := S9.out.res.fr (o := 4)
  have y5 := S9.out.box.cell (j := 5) rfl
  have r5 := S9.out.res.cell (j := 5) rfl
  have f5 := S9.out.res.fr (o := 5)
  have hbw : ¬ bx = w.heap.size := by omega
  have hbw2 : ¬ w.heap.size = bx := by omega
  by_cases hok : readInoB L = true
  · have HOK := Lib.hid hok
    rw [hok]
    clear hok
    have qf := ((((((S9.out.res.set 0 (.int .i64 kd)).set 1 (.int .i64 sz)).set 2 (.int .i64 gn)).set 3 (.string ⟨#[]⟩)).set 4 (.slice none 0 0)).set 5 (.slice none 0 0))
    have q0 := qf.cell (j := 0) (v := .int .i64 kd) rfl
    have q1 := qf.cell (j := 1) (v := .int .i64 sz) rfl
    have q2 := qf.cell (j := 2) (v := .int .i64 gn) rfl
    have q3 := qf.cell (j := 3) (v := .string ⟨#[]⟩) rfl
    have q4 := qf.cell (j := 4) (v := .slice none 0 0) rfl
    have q5 := qf.cell (j := 5) (v := .slice none 0 0) rfl
    clear qf
    go_wp2
    refine bodyPost_ret (v := .tuple #[.agg #[.int .i64 kd, .int .i64 sz, .int .i64 gn, .string ⟨#[]⟩, .slice none 0 0, .slice none 0 0], .bool true]) ?_ rfl (gives_got HLn.out HOK.out HGot.out rfl rfl ⟨rfl, .inl ⟨rfl, rfl⟩⟩ ⟨rfl, .inl ⟨rfl, rfl⟩⟩ (.inl rfl) ((((((S9.out.below.setCell (Nat.le_refl _) _).setCell (Nat.le_refl _) _).setCell (Nat.le_refl _) _).setCell (Nat.le_refl _) _).setCell (Nat.le_refl _) _).setCell (Nat.le_refl _) _) rfl)
    simp [results, Tryd.results38, go_sem, q0, q1, q2, q3, q4, q5]
  · have HOK : Hid (¬ ReadOk L) := Lib.hid (fun h => hok (readInoB_yes h))
    rw [show readInoB L = false by simpa using hok]
    clear hok
    have qf := ((((((S9.out.res.set 0 (.int .i64 0)).set 1 (.int .i64 0)).set 2 (.int .i64 0)).set 3 (.string ⟨#[]⟩)).set 4 (.slice none 0 0)).set 5 (.slice none 0 0))
    have q0 := qf.cell (j := 0) (v := .int .i64 0) rfl
    have q1 := qf.cell (j := 1) (v := .int .i64 0) rfl
    have q2 := qf.cell (j := 2) (v := .int .i64 0) rfl
    have q3 := qf.cell (j := 3) (v := .string ⟨#[]⟩) rfl
    have q4 := qf.cell (j := 4) (v := .slice none 0 0) rfl
    have q5 := qf.cell (j := 5) (v := .slice none 0 0) rfl
    clear qf
    go_wp2
    refine bodyPost_ret (v := .tuple #[.agg #[.int .i64 0, .int .i64 0, .int .i64 0, .string ⟨#[]⟩, .slice none 0 0, .slice none 0 0], .bool false]) ?_ rfl (gives_zero L w ((((((S9.out.below.setCell (Nat.le_refl _) _).setCell (Nat.le_refl _) _).setCell (Nat.le_refl _) _).setCell (Nat.le_refl _) _).setCell (Nat.le_refl _) _).setCell (Nat.le_refl _) _) HOK.out rfl)
    simp [results, Tryd.results38, go_sem, q0, q1, q2, q3, q4, q5]

set_option maxRecDepth 100000 in
set_option maxHeartbeats 4000000 in
theorem implReadIno_len (a : Option Addr) (n c : Nat) (L : List ByteArray) (w : World) (hs : SrcT w a n L) (h : ¬ n = 8) : Calls Tryd.prog 38 #[.slice a n c] w (GivesIno (readInoR L) (readInoB L) w) := by
  have HL : Hid (¬ ReadOk L) := Lib.hid (fun x => h (by rw [← hs.len]; exact x.1))
  have B0 := Lib.hid (below_bk w (inoObj 0 0 0 ⟨#[]⟩ none 0 0 none 0 0))
  have e8 : ((n : Int) == 8) = false := by simp; omega
  have e9 : ((n : Int) != 8) = true := by simp only [bne, e8]; rfl
  clear hs
  go_enter Tryd.func38, Tryd.ntmps38
  go_wp2
  refine bodyPost_ret (v := .tuple #[.agg #[.int .i64 0, .int .i64 0, .int .i64 0, .string ⟨#[]⟩, .slice none 0 0, .slice none 0 0], .bool false]) ?_ rfl (gives_zero L w B0.out HL.out rfl)
  simp [results, Tryd.results38, go_sem]
theorem implReadIno_any (a : Option Addr) (n c : Nat) (L : List ByteArray) (w : World) (hc : n ≤ c) (hcm : c ≤ 9223372036854775807) (hs : SrcT w a n L) (hf : ∀ j, j < n → (L.getD j default).size ≤ 1048576) : Calls Tryd.prog 38 #[.slice a n c] w (GivesIno (readInoR L) (readInoB L) w) := by
  by_cases h : n = 8
  · subst h
    by_cases h0 : gotKind L = 0
    · exact implReadIno_free a c L w hc hcm hs hf h0
    · by_cases h1 : gotKind L = 1
      · exact implReadIno_file a c L w hc hcm hs hf h1
      · by_cases h2 : gotKind L = 2
        · exact implReadIno_dir a c L w hc hcm hs hf h2
        · exact implReadIno_other a c L w hc hcm hs hf _ rfl h0 h1 h2
  · exact implReadIno_len a n c L w hs h
end Go.Proofs.YtmkchilhnmkhkaaDoor
namespace Go.Proofs.YtmkchilhnmkhkaaDoor
open Go.RowKit Go.Proofs.YtmkchilhnmkhkaaDoor.Parts Go.Proofs.YtmkchilhnmkhkaaDoor.Hexa Go.Proofs.YtmkchilhnmkhkaaDoor.Byt Go.Proofs.YtmkchilhnmkhkaaDoor.Draw

set_option maxRecDepth 100000 in
set_option maxHeartbeats 16000000 in
theorem fnInodes_law (ad : Option Addr) (len cap : Nat) (w : World) (hs : Draw.Src w w.heap.size ad len) :
    Calls Tryd.prog 11 #[.slice ad len cap] w fun e w' => e = .returned (.bool true) ∧ Below w.heap.size w w' := by
  by_cases hbig : len ≤ 1048576
  · have HS := Lib.hid hs
    clear hs
    go_enter Tryd.func11, Tryd.ntmps11
    go_wp2_with (go_at_call 12; go_in)
    refine (drawIno_any ad len cap w hbig HS.out).mono ?_
    rintro e w1 ⟨kd, sz, gn, key, aR, cR, aE, cE, R, E, hP, rfl, oR, oE, hb1⟩
    obtain ⟨nR, hnR⟩ : ∃ k, R.length = k := ⟨_, rfl⟩
    obtain ⟨nE, hnE⟩ : ∃ k, E.length = k := ⟨_, rfl⟩
    have HP := Lib.hid hP
    have HSZ : Hid (-9223372036854775808 ≤ sz ∧ sz ≤ 9223372036854775807) := Lib.hid hP.1
    have HFR : Hid (FitRec R nR 2000000) := Lib.hid (by rw [← hnR]; exact hP.2.2.2.1)
    have HFE : Hid (FitEntry E nE 2000000) := Lib.hid (by rw [← hnE]; exact hP.2.2.2.2)
    have hR9 : nR ≤ 100 := by rw [← hnR]; exact hP.2.1
    have hE9 : nE ≤ 100 := by rw [← hnE]; exact hP.2.2.1
    rw [hnR] at oR
    rw [hnE] at oE
    rw [hnR, hnE]
    have HNR := Lib.hid hnR
    have HNE := Lib.hid hnE
    have I20 := IA.new (kd := kd) (sz := sz) (gn := gn) (key := key) oR oE hb1
    obtain ⟨bx, hbx⟩ : ∃ b, w1.heap.size = b := ⟨_, rfl⟩
    obtain ⟨w2, hw2⟩ : ∃ x, w1.alloc (.cells #[.int .i64 kd, .int .i64 sz, .int .i64 gn, .string key, .slice aR nR cR, .slice aE nE cE] 54) = x := ⟨_, rfl⟩
    rw [hbx, hw2] at I20
    have I2 := Lib.hid I20
    have Hbx := Lib.hid hbx
    have Hw2 := Lib.hid hw2
    clear hP hnR hnE oR oE hb1 I20 hbx hw2
    go_wp2_with fail
    rw [Hbx.out, Hw2.out]
    clear Hbx Hw2
    refine (implInoWords_any sz gn key aR nR cR aE nE cE _ R E kd HSZ.out (by omega) I2.out.srcR HFR.out I2.out.srcE HFE.out).mono ?_
    rintro e w3 ⟨v, rfl, ho3, hb3⟩
    have I3 := Lib.hid (I2.out.later hb3)
    clear hb3 I2
    have kc0 := I3.out.box.cell (j := 0) rfl
    have kc1 := I3.out.box.cell (j := 1) rfl
    have kc2 := I3.out.box.cell (j := 2) rfl
    have kc3 := I3.out.box.cell (j := 3) rfl
    have kc4 := I3.out.box.cell (j := 4) rfl
    have kc5 := I3.out.box.cell (j := 5) rfl
    by_cases hok : InoOk ⟨kd, sz, gn, key, R, E⟩
    · have HLEN : Hid ((inoWordsB ⟨kd, sz, gn, key, R, E⟩).length = 8) := Lib.hid (inoWords_length hok)
      have HWS : Hid (∀ j, j < 8 → ((inoWordsB ⟨kd, sz, gn, key, R, E⟩).getD j default).size ≤ 1048576) := Lib.hid (fun j hj => by
        have h1 : (inoWordsB ⟨kd, sz, gn, key, R, E⟩).getD j default ∈ inoWordsB ⟨kd, sz, gn, key, R, E⟩ := by
          have := HLEN.out
          simp [List.getD, show j < (inoWordsB ⟨kd, sz, gn, key, R, E⟩).length by omega]
        rw [inoWords_sizes h1]; decide)
      have HBK := Lib.hid (words_back hok)
      have HRS : Hid (∀ j, j < nR → RecOk (R.getD j default)) := Lib.hid (fun j hj => (ok_rows hok).1 j (by have := HNR.out; show j < R.length; omega))
      have HES : Hid (∀ j, j < nE → EntryOk (E.getD j default)) := Lib.hid (fun j hj => (ok_rows hok).2.1 j (by have := HNE.out; show j < E.length; omega))
      have HPG : Hid (pagesZ sz = (nR : Int)) := Lib.hid (by have h := (ok_rows hok).2.2; rw [← HNR.out]; exact h.symm)
      have HOKB := Lib.hid (inoB_yes hok)
      obtain ⟨L, hL⟩ : ∃ L, inoWordsB ⟨kd, sz, gn, key, R, E⟩ = L := ⟨_, rfl⟩
      rw [hL] at HLEN HWS HBK ho3
      rw [HLEN.out] at ho3
      obtain ⟨a4, c4, rfl, h84, hc4, _⟩ := ownE_form ho3
      have X3 : Hid (SrcT w3 a4 8 L) := Lib.hid (srcT_of_own ho3)
      have h4m : c4 ≤ 9223372036854775807 := Nat.le_trans hc4 (by decide)
      have HRD : Hid (∀ (w0 : World) (e : Ending) (w1 : World), GivesIno (readInoR L) (readInoB L) w0 e w1 → ∃ aR5 cR5 aE5 cE5, e = .returned (.tuple #[.agg #[.int .i64 kd, .int .i64 sz, .int .i64 gn, .string key, .slice aR5 nR cR5, .slice aE5 nE cE5], .bool true])
          ∧ w1.ownsRow w0.heap.size 66 3 (.slice aR5 nR cR5) nR (cellsE encRec R) ∧ w1.ownsRow w0.heap.size 47 2 (.slice aE5 nE cE5) nE (cellsE encEntry E) ∧ Below w0.heap.size w0 w1) := Lib.hid (fun w0 e w1 h => by
        rw [HBK.out.1, HBK.out.2] at h
        obtain ⟨a, b, c, d, h1, h2, h3, _, h5⟩ := h
        simp only [HNR.out, HNE.out] at h1 h2 h3
        exact ⟨a, b, c, d, h1, h2, h3, h5⟩)
      clear hok hL ho3 HBK
      go_wp2_with fail
      refine (specIno_any kd sz gn key aR nR cR aE nE cE _ R E HSZ.out I3.out.srcR HFR.out I3.out.srcE HFE.out).mono ?_
      rw [HOKB.out]
      rintro e w4 ⟨rfl, hb4⟩
      have I4 := Lib.hid (I3.out.later hb4)
      have X4 : Hid (SrcT w4 a4 8 L) := Lib.hid (SrcE.later X3.out hb4)
      clear hb4 I3 X3 kc0 kc1 kc2 kc3 kc4 kc5
      go_wp2_with fail
      refine (implReadIno_any a4 8 c4 L _ h84 h4m X4.out HWS.out).mono ?_
      intro e w5 hg
      obtain ⟨aR5, cR5, aE5, cE5, rfl, oR5, oE5, hb5⟩ := HRD.out _ _ _ hg
      have I50 := I4.out.later hb5
      have hsz := I4.out.below.size
      have J60 := IA.new (w := w) (ownE_mono oR5 hsz) (ownE_mono oE5 hsz) I50.below (kd := kd) (sz := sz) (gn := gn) (key := key)
      have I60 := I50.later (below_bk w5 (.cells #[.int .i64 kd, .int .i64 sz, .int .i64 gn, .string key, .slice aR5 nR cR5, .slice aE5 nE cE5] 54))
      obtain ⟨b5, hb5e⟩ : ∃ b, w5.heap.size = b := ⟨_, rfl⟩
      obtain ⟨w6, hw6⟩ : ∃ x, w5.alloc (.cells #[.int .i64 kd, .int .i64 sz, .int .i64 gn, .string key, .slice aR5 nR cR5, .slice aE5 nE cE5] 54) = x := ⟨_, rfl⟩
      rw [hb5e, hw6] at J60
      rw [hw6] at I60
      have I6 := Lib.hid I60
      have J6 := Lib.hid J60
      have Hb5 := Lib.hid hb5e
      have Hw6 := Lib.hid hw6
      clear hg oR5 oE5 hb5 I50 hsz J60 I60 hb5e hw6 I4 X4
      go_wp2
      rw [Hb5.out, Hw6.out]
      clear Hb5 Hw6
      go_loopw [7] (fun iv wr => ∃ k : Nat, k ≤ nR ∧ iv = .int .i64 k ∧ Hid (IA w wr bx kd sz gn key aR nR cR aE nE cE R E) ∧ Hid (IA w wr b5 kd sz gn key aR5 nR cR5 aE5 nE cE5 R E)) (fun iv _ => nR - (intOf iv).toNat)
      case atStart => exact ⟨0, Nat.zero_le _, rfl, I6, J6⟩
      case round =>
        obtain ⟨k, hk, rfl, I7, J7⟩ := hrel
        clear I6 J6
        have x4 := I7.out.box.cell (j := 4) rfl
        by_cases hlt : k < nR
        · obtain ⟨g, off, ha, hg, d0, d1, d2⟩ := srcRec_later I7.out.srcR (Below.refl wr.heap.size wr) (Nat.le_refl _) k hlt
          obtain ⟨⟨p, q, m⟩, hx⟩ : ∃ x, R.getD k default = x := ⟨_, rfl⟩
          have hrok : RecOk ⟨p, q, m⟩ := by rw [← hx]; exact HRS.out k hlt
          obtain ⟨t, ht⟩ : ∃ t, recWordB ⟨p, q, m⟩ = t := ⟨_, rfl⟩
          have ht8 : t.size = 8 := by rw [← ht]; exact recWord_size hrok
          have HRW : Hid (∀ W : World, Calls Tryd.prog 48 #[.agg #[.int .i64 p, .int .i64 q, .string m]] W fun e w' => e = .returned (.string t) ∧ Below W.heap.size W w') := Lib.hid (fun W => by
            have h := implRecWord_any p q m W (by have := hrok.2.2; simp only at this; omega)
            rw [ht] at h; exact h)
          have HRR : Hid (∀ W : World, Calls Tryd.prog 47 #[.string t] W fun e w' => e = .returned (.tuple #[.agg #[.int .i64 p, .int .i64 q, .string m], .bool true]) ∧ Below W.heap.size W w') := Lib.hid (fun W => by
            have h := implReadRec_any t W (by omega)
            rw [← ht, (recRead_word hrok).1, (recRead_word hrok).2, ht] at h; exact h)
          have HX := Lib.hid hx
          rw [hx] at d0 d1 d2
          simp only at d0 d1 d2
          subst ha
          clear hx hrok ht
          go_wp2_with fail
          refine (HRW.out _).mono ?_
          rintro e w8 ⟨rfl, hb8⟩
          have I8 := Lib.hid (I7.out.later hb8)
          have J8 := Lib.hid (J7.out.later hb8)
          clear hb8 d0 d1 d2 x4 I7 J7
          go_wp2_with fail
          refine (HRR.out _).mono ?_
          rintro e w9 ⟨rfl, hb9⟩
          have N9 := Lib.hid (Bk.alloc w9 #[.int .i64 p, .int .i64 q, .string m] 66)
          have hb10 := hb9.trans ((below_bk w9 (.cells #[.int .i64 p, .int .i64 q, .string m] 66)).mono hb9.size)
          have I9 := Lib.hid (I8.out.later hb10)
          have J9 := Lib.hid (J8.out.later hb10)
          have y0 := N9.out.cell (j := 0) rfl
          have y1 := N9.out.cell (j := 1) rfl
          have y2 := N9.out.cell (j := 2) rfl
          have x4 := I9.out.box.cell (j := 4) rfl
          obtain ⟨g2, off2, ha2, hg2, d0, d1, d2⟩ := srcRec_later I9.out.srcR (Below.refl _ _) (Nat.le_refl _) k hlt
          cases ha2
          rw [HX.out] at d0 d1 d2
          simp only at d0 d1 d2
          clear hb9 hb10 I8 J8 hg2
          go_wp2
          go_quiet (fail)
          have I10 := fun m => Lib.hid (I9.out.drewN m)
          have J10 := fun m => Lib.hid (J9.out.drewN m)
          clear y0 y1 y2 x4 d0 d1 d2 N9
          go_wp2
          go_roundw
          case rel => exact ⟨k + 1, by omega, by go_num, I10 _, J10 _⟩
          case measure => (simp [intOf]; try omega)
        · obtain rfl : nR = k := by omega
          go_wp2
          go_loopw [10] (fun iv wr => ∃ k : Nat, k ≤ nE ∧ iv = .int .i64 k ∧ Hid (IA w wr bx kd sz gn key aR nR cR aE nE cE R E) ∧ Hid (IA w wr b5 kd sz gn key aR5 nR cR5 aE5 nE cE5 R E)) (fun iv _ => nE - (intOf iv).toNat)
          case atStart => exact ⟨0, Nat.zero_le _, rfl, I7, J7⟩
          case round =>
            obtain ⟨k2, hk2, rfl, I11, J11⟩ := hrel
            clear I7 J7 x4
            have x5 := I11.out.box.cell (j := 5) rfl
            by_cases hlt2 : k2 < nE
            · obtain ⟨g, off, ha, hg, d0, d1⟩ := srcEntry_later I11.out.srcE (Below.refl _ _) (Nat.le_refl _) k2 hlt2
              obtain ⟨⟨p, m⟩, hx⟩ : ∃ x, E.getD k2 default = x := ⟨_, rfl⟩
              have hrok : EntryOk ⟨p, m⟩ := by rw [← hx]; exact HES.out k2 hlt2
              obtain ⟨t, ht⟩ : ∃ t, entryWordB ⟨p, m⟩ = t := ⟨_, rfl⟩
              have ht8 : t.size = 8 := by rw [← ht]; exact entryWord_size hrok
              have hm7 : m.size ≤ 2000000 := by have := hrok.2.1.2; simp only at this; omega
              have HEW : Hid (∀ W : World, Calls Tryd.prog 49 #[.agg #[.int .i64 p, .string m]] W fun e w' => e = .returned (.string t) ∧ Below W.heap.size W w') := Lib.hid (fun W => by
                have h := implEntryWord_any p m W hm7
                rw [ht] at h; exact h)
              have HER : Hid (∀ W : World, Calls Tryd.prog 33 #[.string t] W fun e w' => e = .returned (.tuple #[.agg #[.int .i64 p, .string m], .bool true]) ∧ Below W.heap.size W w') := Lib.hid (fun W => by
                have h := implReadEntry_any t W (by omega)
                rw [← ht, (entRead_word hrok).1, (entRead_word hrok).2, ht] at h; exact h)
              have HNM : Hid (∀ W : World, Calls Tryd.prog 50 #[.string m] W fun e w' => e = .returned (.bool true) ∧ w' = W) := Lib.hid (fun W => by
                have h := implName_any m W hm7
                rw [nameB_yes hrok.2] at h; exact h)
              have HX := Lib.hid hx
              rw [hx] at d0 d1
              simp only at d0 d1
              subst ha
              clear hx hrok ht hm7
              go_wp2_with fail
              refine (HEW.out _).mono ?_
              rintro e w8 ⟨rfl, hb8⟩
              have I8 := Lib.hid (I11.out.later hb8)
              have J8 := Lib.hid (J11.out.later hb8)
              clear hb8 d0 d1 x5 I11 J11
              go_wp2_with fail
              refine (HER.out _).mono ?_
              rintro e w9 ⟨rfl, hb9⟩
              have N9 := Lib.hid (Bk.alloc w9 #[.int .i64 p, .string m] 47)
              have hb10 := hb9.trans ((below_bk w9 (.cells #[.int .i64 p, .string m] 47)).mono hb9.size)
              have I9 := Lib.hid (I8.out.later hb10)
              have J9 := Lib.hid (J8.out.later hb10)
              have y0 := N9.out.cell (j := 0) rfl
              have y1 := N9.out.cell (j := 1) rfl
              have x5 := I9.out.box.cell (j := 5) rfl
              obtain ⟨g2, off2, ha2, hg2, d0, d1⟩ := srcEntry_later I9.out.srcE (Below.refl _ _) (Nat.le_refl _) k2 hlt2
              cases ha2
              rw [HX.out] at d0 d1
              simp only at d0 d1
              clear hb9 hb10 I8 J8 hg2
              go_wp2
              go_quiet ((go_at_call 50; exact Calls.quiet_of_same (HNM.out _)))
              have I10 := fun m => Lib.hid (I9.out.drewN m)
              have J10 := fun m => Lib.hid (J9.out.drewN m)
              clear y0 y1 x5 d0 d1 N9
              go_wp2
              go_roundw
              case rel => exact ⟨k2 + 1, by omega, by go_num, I10 _, J10 _⟩
              case measure => (simp [intOf]; try omega)
            · obtain rfl : nE = k2 := by omega
              go_wp2
              have I12 := Lib.hid I11.out.drew
              have J12 := Lib.hid J11.out.drew
              go_region_held3 (fun w' => w'.cell? ⟨bx, 0, none⟩ = some (.int .i64 kd) ∧ w'.cell? ⟨bx, 1, none⟩ = some (.int .i64 sz) ∧ w'.cell? ⟨bx, 2, none⟩ = some (.int .i64 gn) ∧ w'.cell? ⟨bx, 3, none⟩ = some (.string key) ∧ w'.cell? ⟨bx, 4, none⟩ = some (.slice aR nR cR) ∧ w'.cell? ⟨bx, 5, none⟩ = some (.slice aE nE cE) ∧ w'.cell? ⟨b5, 0, none⟩ = some (.int .i64 kd) ∧ w'.cell? ⟨b5, 1, none⟩ = some (.int .i64 sz) ∧ w'.cell? ⟨b5, 2, none⟩ = some (.int .i64 gn) ∧ w'.cell? ⟨b5, 3, none⟩ = some (.string key) ∧ w'.cell? ⟨b5, 4, none⟩ = some (.slice aR5 nR cR5) ∧ w'.cell? ⟨b5, 5, none⟩ = some (.slice aE5 nE cE5)) (first
                  | exact ⟨I12.out.box.cell (j := 0) rfl, I12.out.box.cell (j := 1) rfl, I12.out.box.cell (j := 2) rfl, I12.out.box.cell (j := 3) rfl, I12.out.box.cell (j := 4) rfl, I12.out.box.cell (j := 5) rfl, J12.out.box.cell (j := 0) rfl, J12.out.box.cell (j := 1) rfl, J12.out.box.cell (j := 2) rfl, J12.out.box.cell (j := 3) rfl, J12.out.box.cell (j := 4) rfl, J12.out.box.cell (j := 5) rfl⟩
                  | exact ⟨I13.out.box.cell (j := 0) rfl, I13.out.box.cell (j := 1) rfl, I13.out.box.cell (j := 2) rfl, I13.out.box.cell (j := 3) rfl, I13.out.box.cell (j := 4) rfl, I13.out.box.cell (j := 5) rfl, J13.out.box.cell (j := 0) rfl, J13.out.box.cell (j := 1) rfl, J13.out.box.cell (j := 2) rfl, J13.out.box.cell (j := 3) rfl, J13.out.box.cell (j := 4) rfl, J13.out.box.cell (j := 5) rfl⟩
                  | exact ⟨I14.out.box.cell (j := 0) rfl, I14.out.box.cell (j := 1) rfl, I14.out.box.cell (j := 2) rfl, I14.out.box.cell (j := 3) rfl, I14.out.box.cell (j := 4) rfl, I14.out.box.cell (j := 5) rfl, J14.out.box.cell (j := 0) rfl, J14.out.box.cell (j := 1) rfl, J14.out.box.cell (j := 2) rfl, J14.out.box.cell (j := 3) rfl, J14.out.box.cell (j := 4) rfl, J14.out.box.cell (j := 5) rfl⟩
                  | go_keep)
                (first
                  | (go_at_call 51; (with_reducible refine (sameInode_any kd sz gn key aR5 aR nR cR5 cR aE5 aE nE cE5 cE R E _ (by omega) (by omega) J12.out.srcR I12.out.srcR J12.out.srcE I12.out.srcE).mono ?_); rintro e w13 ⟨rfl, hb13⟩; have I13 := Lib.hid (I12.out.later hb13); have J13 := Lib.hid (J12.out.later hb13); clear hb13)
                  | (go_at_call 45; (with_reducible refine (implIno_any kd sz gn key aR nR cR aE nE cE _ R E HSZ.out (by omega) I13.out.srcR HFR.out I13.out.srcE HFE.out).mono ?_); rw [HOKB.out]; rintro e w14 ⟨rfl, hb14⟩; have I14 := Lib.hid (I13.out.later hb14); have J14 := Lib.hid (J13.out.later hb14); clear hb14)
                  | (go_at_call 46; (with_reducible refine (implPages_any sz _ HSZ.out.1 HSZ.out.2).mono ?_); rw [HPG.out]; rintro e w15 ⟨rfl, rfl⟩))
              go_wp2
              go_ret
              exact ⟨rfl, I14.out.below⟩
    · have HN := Lib.hid (inoB_no hok)
      rw [inoWords_no hok] at ho3
      obtain ⟨a4, c4, rfl, _, _, _⟩ := ownE_form ho3
      clear hok ho3
      go_wp2_with fail
      refine (specIno_any kd sz gn key aR nR cR aE nE cE _ R E HSZ.out I3.out.srcR HFR.out I3.out.srcE HFE.out).mono ?_
      rw [HN.out]
      rintro e w4 ⟨rfl, hb4⟩
      have I4 := Lib.hid (I3.out.later hb4)
      clear hb4 I3 kc0 kc1 kc2 kc3 kc4 kc5
      have kc0 := I4.out.box.cell (j := 0) rfl
      have kc1 := I4.out.box.cell (j := 1) rfl
      have kc2 := I4.out.box.cell (j := 2) rfl
      have kc3 := I4.out.box.cell (j := 3) rfl
      have kc4 := I4.out.box.cell (j := 4) rfl
      have kc5 := I4.out.box.cell (j := 5) rfl
      go_wp2_with fail
      refine (implIno_any kd sz gn key aR nR cR aE nE cE _ R E HSZ.out (by omega) I4.out.srcR HFR.out I4.out.srcE HFE.out).mono ?_
      rw [HN.out]
      rintro e w5 ⟨rfl, hb5⟩
      have I5 := Lib.hid (I4.out.later hb5)
      clear hb5 I4 kc0 kc1 kc2 kc3 kc4 kc5
      go_wp2_with fail
      refine (implPages_any 33 _ (by decide) (by decide)).mono ?_
      rintro e w6 ⟨rfl, rfl⟩
      have hp33 : pagesZ 33 = 2 := by decide
      rw [hp33]
      go_wp2
      go_ret
      exact ⟨rfl, I5.out.below⟩
  · go_enter Tryd.func11, Tryd.ntmps11
    go_wp2_with (go_at_call 12; go_in)
    go_ret
    exact ⟨rfl, Below.refl _ _⟩
end Go.Proofs.YtmkchilhnmkhkaaDoor
