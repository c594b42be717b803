/- Merged texts: ReadInoImpl, AnyInodeLaw. -/
import Derived.Test.YtmkchilhnmkhkabDoorPAL
namespace Go.Proofs.YtmkchilhnmkhkabDoor
open Go.RowKit Go.Proofs.YtmkchilhnmkhkabDoor.Parts Go.Proofs.YtmkchilhnmkhkabDoor.Hexa Go.Proofs.YtmkchilhnmkhkabDoor.Byt

/-- The result's box, the inode's box, and nothing else of the old world written. -/
structure PSt (w : World) (bx : Nat) (cs : Array Value) (wr : World) : Prop where
  res : Bk wr w.heap.size zeroCs 29
  box : Bk wr bx cs 29
  lt : w.heap.size < bx
  below : Below w.heap.size w wr
section
variable {w wr w' : World} {bx : Nat} {cs : Array Value}
theorem PSt.call (h : PSt w bx cs wr) (hb : Below wr.heap.size wr w') : PSt w bx cs w' := ⟨h.res.later hb, h.box.later hb, h.lt, below_on h.below (Nat.le_refl _) hb⟩
theorem PSt.drewN (h : PSt w bx cs wr) (n : Nat) : PSt w bx cs (wr.drewN n) := ⟨h.res, h.box, h.lt, below_drewsN h.below n⟩
theorem PSt.set (h : PSt w bx cs wr) (j : Nat) (v : Value) : PSt w bx (cs.setIfInBounds j v) (wr.setCell ⟨bx, j, none⟩ v) :=
  ⟨h.res.other (Nat.ne_of_lt h.lt) v, h.box.set j v, h.lt, h.below.setCell (Nat.le_of_lt h.lt) v⟩
theorem PSt.start {w w0 w1 : World} (hr : Bk w0 w.heap.size zeroCs 29) (hb0 : Below w.heap.size w w0) (hb : Below w0.heap.size w0 w1) (cs : Array Value) : PSt w w1.heap.size cs (w1.alloc (.cells cs 29)) :=
  ⟨(hr.later hb).later (below_bk _ _), Bk.alloc _ _ _, Nat.lt_of_lt_of_le hr.lt hb.size, below_on (below_on hb0 (Nat.le_refl _) hb) (Nat.le_refl _) (below_bk _ _)⟩
end
theorem while_le {α : Type} (p : α → Bool) : ∀ L : List α, (L.takeWhile p).length ≤ L.length
  | [] => Nat.le_refl _
  | x :: r => by
    rw [List.takeWhile]
    have := while_le p r
    split
    · simpa using this
    · exact Nat.zero_le _
theorem numAtV_two (s : ByteArray) (a : Int) : -9223372036854775808 ≤ numAtV s a 2 ∧ numAtV s a 2 ≤ 9223372036854775807 := by
  by_cases h : 0 ≤ a ∧ a ≤ (s.size : Int) - 2
  · obtain ⟨n, rfl⟩ : ∃ n : Nat, a = n := ⟨a.toNat, by omega⟩
    have h9 := numAtV_lt s n 2 (by omega) (by omega)
    have h10 : ((256 : Int) ^ 2) = 65536 := by decide
    rw [h10] at h9
    have h1 : 0 ≤ numAtV s n 2 := h9.1
    have h2 : numAtV s n 2 < 65536 := h9.2
    omega
  · have e : numAtV s a 2 = 0 := by unfold numAtV; rw [if_neg (fun x => h x.2)]
    rw [e]; omega
theorem gives_got {L : List ByteArray} {w w' : World} {kd sz gn : Int} {key : ByteArray} {R : List RecR} {E : List EntryR} {aR aE : Option Addr} {nR cR nE cE : Nat} (h8 : L.length = 8) (hok : readInoB L = true) (hG : inoGot L = ⟨kd, sz, gn, key, R, E⟩) (hn : R.length = nR) (hn' : E.length = nE)
    (hR : w'.ownsRow w.heap.size 49 3 (.slice aR nR cR) nR (cellsE encRec R)) (hE : w'.ownsRow w.heap.size 55 2 (.slice aE nE cE) nE (cellsE encEntry E)) (hx : aR = none ∨ aE = none) (hb : Below w.heap.size w w') {e : Ending}
    (he : e = .returned (.tuple #[.agg #[.int .i64 kd, .int .i64 sz, .int .i64 gn, .string key, .slice aR nR cR, .slice aE nE cE], .bool true])) : GivesIno (readInoR L) (readInoB L) w e w' := by
  subst hn hn'
  rw [got_eq h8 hok, hG, hok]
  exact ⟨aR, cR, aE, cE, he, hR, hE, hx, hb⟩
theorem drop_two {L : List ByteArray} {w w' : World} {g off : Nat} (h8 : L.length = 8) (hg : g < w.heap.size) (hb : Below w.heap.size w w') (h : ∀ j, j < 8 → w'.cell? ⟨g, off + j, none⟩ = some (.string (L.getD j default))) : SrcT w' (some ⟨g, off + 2, none⟩) 6 (L.drop 2) :=
  ⟨by rw [List.length_drop, h8], fun j hj => ⟨g, off + 2, rfl, Nat.lt_of_lt_of_le hg hb.size, fun o v hv => by
    match o, hv with
    | 0, hv =>
      have e : (L.drop 2).getD j default = L.getD (j + 2) default := by simp only [List.getD, List.getElem?_drop, Nat.add_comm]
      rw [e] at hv
      cases hv
      have := h (j + 2) (by omega)
      rw [show off + 2 + j * encT.k + 0 = off + (j + 2) from by show off + 2 + j * 1 + 0 = _; omega]
      exact this
    | o + 1, hv => simp [encT] at hv⟩⟩
theorem drop_fit {L : List ByteArray} {b : Nat} (hf : ∀ j, j < 8 → (L.getD j default).size ≤ b) : ∀ j, j < 6 → ((L.drop 2).getD j default).size ≤ b := fun j hj => by
  have e : (L.drop 2).getD j default = L.getD (j + 2) default := by simp only [List.getD, List.getElem?_drop, Nat.add_comm]
  rw [e]; exact hf _ (by omega)

set_option maxRecDepth 100000 in
set_option maxHeartbeats 4000000 in
theorem implReadIno_file (a : Option Addr) (c : Nat) (L : List ByteArray) (w : World) (hc : 8 ≤ c) (hcm : c ≤ 9223372036854775807) (hs : SrcT w a 8 L) (hf : ∀ j, j < 8 → (L.getD j default).size ≤ 1048576) (hk : gotKind L = 1) : Calls Tryd.prog 6 #[.slice a 8 c] w (GivesIno (readInoR L) (readInoB L) w) := by
  have HLn : Hid (L.length = 8) := Lib.hid hs.len
  have HS := Lib.hid hs
  have HF := Lib.hid hf
  have B0 := Lib.hid (below_bk w (inoObj 0 0 0 ⟨#[]⟩ none 0 0 none 0 0))
  have R0 := Lib.hid (Bk.alloc w zeroCs 29)
  obtain ⟨g, off, ha, hg, _⟩ := srcT_at hs 0 (by omega)
  have HC : Hid (∀ {w' : World}, Below w.heap.size w w' → ∀ j, j < 8 → w'.cell? ⟨g, off + j, none⟩ = some (.string (L.getD j default))) := Lib.hid (fun hb j hj => by
    obtain ⟨g', off', ha', _, d⟩ := srcT_later HS.out hb (Nat.le_refl _) j hj
    rw [ha] at ha'; cases ha'
    exact d)
  obtain ⟨x0, hx0⟩ : ∃ x, L.getD 0 default = x := ⟨_, rfl⟩
  obtain ⟨x1, hx1⟩ : ∃ x, L.getD 1 default = x := ⟨_, rfl⟩
  have hx0s : Hid (x0.size ≤ 1048576) := Lib.hid (by rw [← hx0]; exact hf 0 (by omega))
  have hx1s : Hid (x1.size ≤ 1048576) := Lib.hid (by rw [← hx1]; exact hf 1 (by omega))
  obtain ⟨sz, hsz⟩ : ∃ z : Int, numAtV x0 1 2 = z := ⟨_, rfl⟩
  obtain ⟨gn, hgn⟩ : ∃ z : Int, numAtV x0 3 2 = z := ⟨_, rfl⟩
  have HZB : Hid (-9223372036854775808 ≤ sz ∧ sz ≤ 9223372036854775807) := Lib.hid (by rw [← hsz]; exact numAtV_two x0 1)
  have HKD : Hid (numAtV x0 0 1 = 1) := Lib.hid (by rw [← hx0]; exact hk)
  have HGot : Hid (inoGot L = ⟨1, sz, gn, x1, (leadRecs (L.drop 2)), []⟩) := Lib.hid (by
    unfold inoGot
    rw [hk, hx0, hx1, hsz, hgn]
    rfl)
  have HX0 := Lib.hid hx0
  have HX1 := Lib.hid hx1
  have HSZ := Lib.hid hsz
  have HGN := Lib.hid hgn
  have HCB : Hid (∀ W : World, Calls Tryd.prog 18 #[.agg #[.int .i64 1, .int .i64 sz, .int .i64 gn, .string ⟨#[]⟩, .slice none 0 0, .slice none 0 0]] W fun e w' => e = .returned (.iface 45 (.agg #[.int .i64 sz, .string ⟨#[]⟩, .slice none 0 0])) ∧ Below W.heap.size W w') := Lib.hid (fun W => implBody_any 1 sz gn ⟨#[]⟩ none 0 0 none 0 0 W)
  have hgne : ¬ g = w.heap.size := by omega
  subst ha
  clear hs hf hx0 hx1 hsz hgn hk
  go_enter Tryd.func6, Tryd.ntmps6
  have d0 := HC.out B0.out 0 (by omega)
  rw [HX0.out, Nat.add_zero] at d0
  go_wp2_with fail
  refine (implHead_any x0 _ (by have := hx0s.out; omega)).mono ?_
  rw [HKD.out, HSZ.out, HGN.out]
  rintro e w1 ⟨rfl, hb1⟩
  obtain ⟨bx, hbx⟩ : ∃ b, w1.heap.size = b := ⟨_, rfl⟩
  have S2 : Hid (PSt w bx (inoCs 1 sz gn ⟨#[]⟩ none 0 0 none 0 0) (w1.alloc (inoObj 1 sz gn ⟨#[]⟩ none 0 0 none 0 0))) := Lib.hid (by rw [← hbx]; exact PSt.start R0.out B0.out hb1 _)
  have hbg : w.heap.size < bx := S2.out.lt
  have hgb : ¬ g = bx := by omega
  have hgb2 : ¬ bx = g := by omega
  have BX := Lib.hid hbx
  clear hb1 d0
  go_wp2_with fail
  obtain ⟨w2, h2w⟩ : ∃ x, x = w1.alloc (inoObj 1 sz gn ⟨#[]⟩ none 0 0 none 0 0) := ⟨_, rfl⟩
  rw [← h2w] at S2 ⊢
  clear h2w hbx
  refine (HCB.out _).mono ?_
  rintro e w3 ⟨rfl, hb3⟩
  have S3 := Lib.hid (S2.out.call hb3)
  clear hb3 S2
  have a1 := as_file (.agg #[.int .i64 sz, .string ⟨#[]⟩, .slice none 0 0]) w3
  have d1 := HC.out S3.out.below 1 (by omega)
  rw [HX1.out] at d1
  go_wp2_with fail
  refine (cloneText_any x1 _ (by have := hx1s.out; omega)).mono ?_
  rintro e w4 ⟨rfl, hb4⟩
  have S4 := Lib.hid (S3.out.call hb4)
  have y3 := S4.out.box.cell (j := 3) rfl
  have z3 := S4.out.box.fr (o := 3)
  have S5 := Lib.hid (S4.out.set 3 (.string x1))
  clear hb4 d1
  go_wp2_with fail
  clear y3 z3
  obtain ⟨W5, h5⟩ : ∃ x, x = w4.setCell ⟨bx, 3, none⟩ (.string x1) := ⟨_, rfl⟩
  rw [← h5] at S5 ⊢
  clear h5
  refine (implLeadRecs_any (some ⟨g, off + 2, none⟩) 6 (c - 2) (L.drop 2) _ (drop_two HLn.out hg S5.out.below (fun j hj => HC.out S5.out.below j hj)) (drop_fit HF.out) (by decide)).mono ?_
  rintro e w6 ⟨aX, cX, rfl, hown6, hb6⟩
  obtain ⟨nX, hnX⟩ : ∃ n, (leadRecs (L.drop 2)).length = n := ⟨_, rfl⟩
  rw [hnX] at hown6 ⊢
  have HNX := Lib.hid hnX
  have L5 : Hid (bx < W5.heap.size) := Lib.hid S5.out.box.lt
  have S6 := Lib.hid (S5.out.call hb6)
  have HNX9 : Hid (nX ≤ 6) := Lib.hid (by rw [← hnX]; unfold leadRecs; rw [List.length_map]; exact Nat.le_trans (while_le _ _) (by rw [List.length_drop, HLn.out]; omega))
  have y4 := S6.out.box.cell (j := 4) rfl
  have z4 := S6.out.box.fr (o := 4)
  have S7 := Lib.hid (S6.out.set 4 (.slice aX nX cX))
  have O7 := Lib.hid (ownE_but hown6 ((ButE.refl bx w6).then_set 4 (.slice aX nX cX)) (fun g hg => by have := (hown6.lt g hg).1; have := L5.out; omega))
  clear hb6 hown6 hnX
  have y0 := S7.out.box.cell (j := 0) rfl
  have y1 := S7.out.box.cell (j := 1) rfl
  have y2 := S7.out.box.cell (j := 2) rfl
  have y3 := S7.out.box.cell (j := 3) rfl
  have y4 := S7.out.box.cell (j := 4) rfl
  have y5 := S7.out.box.cell (j := 5) rfl
  go_wp2_with fail
  refine (implInoWords_any sz gn x1 aX nX cX none 0 0 _ (leadRecs (L.drop 2)) [] 1 HZB.out (by omega) (srcRec_of_own O7.out) (leadRecs_fit _ _) (SrcE.nil _ _ _) (fun j hj => absurd hj (Nat.not_lt_zero _))).mono ?_
  rintro e w8 ⟨v8, rfl, hown8, hb8⟩
  obtain ⟨a8, c8, rfl, _, _, _⟩ := own_form hown8
  have R8 := Lib.hid (srcT_of_own hown8)
  have S8 := Lib.hid (S7.out.call hb8)
  have O8 := Lib.hid (own_below O7.out hb8)
  have L8 : Hid ((inoWordsB ⟨1, sz, gn, x1, (leadRecs (L.drop 2)), []⟩).length ≤ 8) := Lib.hid (inoWords_le _)
  clear hown8 hb8 y0 y1 y2 y3 y4 y5
  go_wp2_with fail
  refine (implEqual_any _ _ _ 8 _ _ _ L _ (by have := L8.out; omega) R8.out (HS.out.below S8.out.below (Nat.le_refl _)) (readInoB L) (by rw [got_iff HLn.out, HGot.out])).mono ?_
  rintro e w9 ⟨rfl, q9, hq9⟩
  have S9 : Hid (PSt w bx #[.int .i64 1, .int .i64 sz, .int .i64 gn, .string x1, .slice aX nX cX, .slice none 0 0] w9) := Lib.hid (by rw [hq9]; exact S8.out.drewN q9)
  have O9 : Hid (w9.ownsRow W5.heap.size 49 3 (.slice aX nX cX) nX (cellsE encRec (leadRecs (L.drop 2)))) := Lib.hid (by rw [hq9]; exact O8.out)
  clear hq9
  have y0 := S9.out.box.cell (j := 0) rfl
  have r0 := S9.out.res.cell (j := 0) rfl
  have f0 := S9.out.res.fr (o := 0)
  have y1 := S9.out.box.cell (j := 1) rfl
  have r1 := S9.out.res.cell (j := 1) rfl
  have f1 := S9.out.res.fr (o := 1)
  have y2 := S9.out.box.cell (j := 2) rfl
  have r2 := S9.out.res.cell (j := 2) rfl
  have f2 := S9.out.res.fr (o := 2)
  have y3 := S9.out.box.cell (j := 3) rfl
  have r3 := S9.out.res.cell (j := 3) rfl
  have f3 := S9.out.res.fr (o := 3)
  have y4 := S9.out.box.cell (j := 4) rfl
  have r4 := S9.out.res.cell (j := 4) rfl
  have f4 := S9.out.res.fr (o := 4)
  have y5 := S9.out.box.cell (j := 5) rfl
  have r5 := S9.out.res.cell (j := 5) rfl
  have f5 := S9.out.res.fr (o := 5)
  have hbw : ¬ bx = w.heap.size := by omega
  have hbw2 : ¬ w.heap.size = bx := by omega
  by_cases hok : readInoB L = true
  · have HOK := Lib.hid hok
    rw [hok]
    clear hok
    have qf := ((((((S9.out.res.set 0 (.int .i64 1)).set 1 (.int .i64 sz)).set 2 (.int .i64 gn)).set 3 (.string x1)).set 4 (.slice aX nX cX)).set 5 (.slice none 0 0))
    have q0 := qf.cell (j := 0) (v := .int .i64 1) rfl
    have q1 := qf.cell (j := 1) (v := .int .i64 sz) rfl
    have q2 := qf.cell (j := 2) (v := .int .i64 gn) rfl
    have q3 := qf.cell (j := 3) (v := .string x1) rfl
    have q4 := qf.cell (j := 4) (v := .slice aX nX cX) rfl
    have q5 := qf.cell (j := 5) (v := .slice none 0 0) rfl
    clear qf
    go_wp2
    refine bodyPost_ret (v := .tuple #[.agg #[.int .i64 1, .int .i64 sz, .int .i64 gn, .string x1, .slice aX nX cX, .slice none 0 0], .bool true]) ?_ rfl (gives_got HLn.out HOK.out HGot.out HNX.out rfl (ownE_mono (ownE_but O9.out (((((((ButE.refl w.heap.size _).then_set _ _).then_set _ _).then_set _ _).then_set _ _).then_set _ _).then_set _ _) (fun g hg => by have := (O9.out.lt g hg).1; have := L5.out; omega)) (by have := L5.out; omega)) ⟨rfl, .inl ⟨rfl, rfl⟩⟩ (.inr rfl) ((((((S9.out.below.setCell (Nat.le_refl _) _).setCell (Nat.le_refl _) _).setCell (Nat.le_refl _) _).setCell (Nat.le_refl _) _).setCell (Nat.le_refl _) _).setCell (Nat.le_refl _) _) rfl)
    simp [results, Tryd.results6, go_sem, q0, q1, q2, q3, q4, q5]
  · have HOK : Hid (¬ ReadOk L) := Lib.hid (fun h => hok (readInoB_yes h))
    rw [show readInoB L = false by simpa using hok]
    clear hok
    have qf := ((((((S9.out.res.set 0 (.int .i64 0)).set 1 (.int .i64 0)).set 2 (.int .i64 0)).set 3 (.string ⟨#[]⟩)).set 4 (.slice none 0 0)).set 5 (.slice none 0 0))
    have q0 := qf.cell (j := 0) (v := .int .i64 0) rfl
    have q1 := qf.cell (j := 1) (v := .int .i64 0) rfl
    have q2 := qf.cell (j := 2) (v := .int .i64 0) rfl
    have q3 := qf.cell (j := 3) (v := .string ⟨#[]⟩) rfl
    have q4 := qf.cell (j := 4) (v := .slice none 0 0) rfl
    have q5 := qf.cell (j := 5) (v := .slice none 0 0) rfl
    clear qf
    go_wp2
    refine bodyPost_ret (v := .tuple #[.agg #[.int .i64 0, .int .i64 0, .int .i64 0, .string ⟨#[]⟩, .slice none 0 0, .slice none 0 0], .bool false]) ?_ rfl (gives_zero L w ((((((S9.out.below.setCell (Nat.le_refl _) _).setCell (Nat.le_refl _) _).setCell (Nat.le_refl _) _).setCell (Nat.le_refl _) _).setCell (Nat.le_refl _) _).setCell (Nat.le_refl _) _) HOK.out rfl)
    simp [results, Tryd.results6, go_sem, q0, q1, q2, q3, q4, q5]

set_option maxRecDepth 100000 in
set_option maxHeartbeats 4000000 in
theorem implReadIno_dir (a : Option Addr) (c : Nat) (L : List ByteArray) (w : World) (hc : 8 ≤ c) (hcm : c ≤ 9223372036854775807) (hs : SrcT w a 8 L) (hf : ∀ j, j < 8 → (L.getD j default).size ≤ 1048576) (hk : gotKind L = 2) : Calls Tryd.prog 6 #[.slice a 8 c] w (GivesIno (readInoR L) (readInoB L) w) := by
  have HLn : Hid (L.length = 8) := Lib.hid hs.len
  have HS := Lib.hid hs
  have HF := Lib.hid hf
  have B0 := Lib.hid (below_bk w (inoObj 0 0 0 ⟨#[]⟩ none 0 0 none 0 0))
  have R0 := Lib.hid (Bk.alloc w zeroCs 29)
  obtain ⟨g, off, ha, hg, _⟩ := srcT_at hs 0 (by omega)
  have HC : Hid (∀ {w' : World}, Below w.heap.size w w' → ∀ j, j < 8 → w'.cell? ⟨g, off + j, none⟩ = some (.string (L.getD j default))) := Lib.hid (fun hb j hj => by
    obtain ⟨g', off', ha', _, d⟩ := srcT_later HS.out hb (Nat.le_refl _) j hj
    rw [ha] at ha'; cases ha'
    exact d)
  obtain ⟨x0, hx0⟩ : ∃ x, L.getD 0 default = x := ⟨_, rfl⟩
  obtain ⟨x1, hx1⟩ : ∃ x, L.getD 1 default = x := ⟨_, rfl⟩
  have hx0s : Hid (x0.size ≤ 1048576) := Lib.hid (by rw [← hx0]; exact hf 0 (by omega))
  have hx1s : Hid (x1.size ≤ 1048576) := Lib.hid (by rw [← hx1]; exact hf 1 (by omega))
  obtain ⟨sz, hsz⟩ : ∃ z : Int, numAtV x0 1 2 = z := ⟨_, rfl⟩
  obtain ⟨gn, hgn⟩ : ∃ z : Int, numAtV x0 3 2 = z := ⟨_, rfl⟩
  have HZB : Hid (-9223372036854775808 ≤ sz ∧ sz ≤ 9223372036854775807) := Lib.hid (by rw [← hsz]; exact numAtV_two x0 1)
  have HKD : Hid (numAtV x0 0 1 = 2) := Lib.hid (by rw [← hx0]; exact hk)
  have HGot : Hid (inoGot L = ⟨2, sz, gn, ⟨#[]⟩, [], (leadEnts (L.drop 2))⟩) := Lib.hid (by
    unfold inoGot
    rw [hk, hx0, hx1, hsz, hgn]
    rfl)
  have HX0 := Lib.hid hx0
  have HX1 := Lib.hid hx1
  have HSZ := Lib.hid hsz
  have HGN := Lib.hid hgn
  have HCB : Hid (∀ W : World, Calls Tryd.prog 18 #[.agg #[.int .i64 2, .int .i64 sz, .int .i64 gn, .string ⟨#[]⟩, .slice none 0 0, .slice none 0 0]] W fun e w' => e = .returned (.iface 52 (.agg #[.slice none 0 0])) ∧ Below W.heap.size W w') := Lib.hid (fun W => implBody_any 2 sz gn ⟨#[]⟩ none 0 0 none 0 0 W)
  have hgne : ¬ g = w.heap.size := by omega
  subst ha
  clear hs hf hx0 hx1 hsz hgn hk
  go_enter Tryd.func6, Tryd.ntmps6
  have d0 := HC.out B0.out 0 (by omega)
  rw [HX0.out, Nat.add_zero] at d0
  go_wp2_with fail
  refine (implHead_any x0 _ (by have := hx0s.out; omega)).mono ?_
  rw [HKD.out, HSZ.out, HGN.out]
  rintro e w1 ⟨rfl, hb1⟩
  obtain ⟨bx, hbx⟩ : ∃ b, w1.heap.size = b := ⟨_, rfl⟩
  have S2 : Hid (PSt w bx (inoCs 2 sz gn ⟨#[]⟩ none 0 0 none 0 0) (w1.alloc (inoObj 2 sz gn ⟨#[]⟩ none 0 0 none 0 0))) := Lib.hid (by rw [← hbx]; exact PSt.start R0.out B0.out hb1 _)
  have hbg : w.heap.size < bx := S2.out.lt
  have hgb : ¬ g = bx := by omega
  have hgb2 : ¬ bx = g := by omega
  have BX := Lib.hid hbx
  clear hb1 d0
  go_wp2_with fail
  obtain ⟨w2, h2w⟩ : ∃ x, x = w1.alloc (inoObj 2 sz gn ⟨#[]⟩ none 0 0 none 0 0) := ⟨_, rfl⟩
  rw [← h2w] at S2 ⊢
  clear h2w hbx
  refine (HCB.out _).mono ?_
  rintro e w3 ⟨rfl, hb3⟩
  have S3 := Lib.hid (S2.out.call hb3)
  clear hb3 S2
  have a1 := dir_no_file (.agg #[.slice none 0 0]) w3
  have a2 := as_dir (.agg #[.slice none 0 0]) w3
  have S5 := S3
  go_wp2_with fail
  obtain ⟨W5, h5⟩ : ∃ x, x = w3 := ⟨_, rfl⟩
  rw [← h5] at S5 ⊢
  clear h5
  refine (implLeadEnts_any (some ⟨g, off + 2, none⟩) 6 (c - 2) (L.drop 2) _ (drop_two HLn.out hg S5.out.below (fun j hj => HC.out S5.out.below j hj)) (drop_fit HF.out) (by decide)).mono ?_
  rintro e w6 ⟨aX, cX, rfl, hown6, hb6⟩
  obtain ⟨nX, hnX⟩ : ∃ n, (leadEnts (L.drop 2)).length = n := ⟨_, rfl⟩
  rw [hnX] at hown6 ⊢
  have HNX := Lib.hid hnX
  have L5 : Hid (bx < W5.heap.size) := Lib.hid S5.out.box.lt
  have S6 := Lib.hid (S5.out.call hb6)
  have HNX9 : Hid (nX ≤ 6) := Lib.hid (by rw [← hnX]; unfold leadEnts; rw [List.length_map]; exact Nat.le_trans (while_le _ _) (by rw [List.length_drop, HLn.out]; omega))
  have y5 := S6.out.box.cell (j := 5) rfl
  have z5 := S6.out.box.fr (o := 5)
  have S7 := Lib.hid (S6.out.set 5 (.slice aX nX cX))
  have O7 := Lib.hid (ownE_but hown6 ((ButE.refl bx w6).then_set 5 (.slice aX nX cX)) (fun g hg => by have := (hown6.lt g hg).1; have := L5.out; omega))
  clear hb6 hown6 hnX
  have y0 := S7.out.box.cell (j := 0) rfl
  have y1 := S7.out.box.cell (j := 1) rfl
  have y2 := S7.out.box.cell (j := 2) rfl
  have y3 := S7.out.box.cell (j := 3) rfl
  have y4 := S7.out.box.cell (j := 4) rfl
  have y5 := S7.out.box.cell (j := 5) rfl
  go_wp2_with fail
  refine (implInoWords_any sz gn ⟨#[]⟩ none 0 0 aX nX cX _ [] (leadEnts (L.drop 2)) 2 HZB.out (by have := HNX9.out; omega) (SrcE.nil _ _ _) (fun j hj => absurd hj (Nat.not_lt_zero _)) (srcEntry_of_own O7.out) (leadEnts_fit _ _)).mono ?_
  rintro e w8 ⟨v8, rfl, hown8, hb8⟩
  obtain ⟨a8, c8, rfl, _, _, _⟩ := own_form hown8
  have R8 := Lib.hid (srcT_of_own hown8)
  have S8 := Lib.hid (S7.out.call hb8)
  have O8 := Lib.hid (own_below O7.out hb8)
  have L8 : Hid ((inoWordsB ⟨2, sz, gn, ⟨#[]⟩, [], (leadEnts (L.drop 2))⟩).length ≤ 8) := Lib.hid (inoWords_le _)
  clear hown8 hb8 y0 y1 y2 y3 y4 y5
  go_wp2_with fail
  refine (implEqual_any _ _ _ 8 _ _ _ L _ (by have := L8.out; omega) R8.out (HS.out.below S8.out.below (Nat.le_refl _)) (readInoB L) (by rw [got_iff HLn.out, HGot.out])).mono ?_
  rintro e w9 ⟨rfl, q9, hq9⟩
  have S9 : Hid (PSt w bx #[.int .i64 2, .int .i64 sz, .int .i64 gn, .string ⟨#[]⟩, .slice none 0 0, .slice aX nX cX] w9) := Lib.hid (by rw [hq9]; exact S8.out.drewN q9)
  have O9 : Hid (w9.ownsRow W5.heap.size 55 2 (.slice aX nX cX) nX (cellsE encEntry (leadEnts (L.drop 2)))) := Lib.hid (by rw [hq9]; exact O8.out)
  clear hq9
  have y0 := S9.out.box.cell (j := 0) rfl
  have r0 := S9.out.res.cell (j := 0) rfl
  have f0 := S9.out.res.fr (o := 0)
  have y1 := S9.out.box.cell (j := 1) rfl
  have r1 := S9.out.res.cell (j := 1) rfl
  have f1 := S9.out.res.fr (o := 1)
  have y2 := S9.out.box.cell (j := 2) rfl
  have r2 := S9.out.res.cell (j := 2) rfl
  have f2 := S9.out.res.fr (o := 2)
  have y3 := S9.out.box.cell (j := 3) rfl
  have r3 := S9.out.res.cell (j := 3) rfl
  have f3 := S9.out.res.fr (o := 3)
  have y4 := S9.out.box.cell (j := 4) rfl
  have r4 := S9.out.res.cell (j := 4) rfl
  have f4 := S9.out.res.fr (o := 4)
  have y5 := S9.out.box.cell (j := 5) rfl
  have r5 := S9.out.res.cell (j := 5) rfl
  have f5 := S9.out.res.fr (o := 5)
  have hbw : ¬ bx = w.heap.size := by omega
  have hbw2 : ¬ w.heap.size = bx := by omega
  by_cases hok : readInoB L = true
  · have HOK := Lib.hid hok
    rw [hok]
    clear hok
    have qf := ((((((S9.out.res.set 0 (.int .i64 2)).set 1 (.int .i64 sz)).set 2 (.int .i64 gn)).set 3 (.string ⟨#[]⟩)).set 4 (.slice none 0 0)).set 5 (.slice aX nX cX))
    have q0 := qf.cell (j := 0) (v := .int .i64 2) rfl
    have q1 := qf.cell (j := 1) (v := .int .i64 sz) rfl
    have q2 := qf.cell (j := 2) (v := .int .i64 gn) rfl
    have q3 := qf.cell (j := 3) (v := .string ⟨#[]⟩) rfl
    have q4 := qf.cell (j := 4) (v := .slice none 0 0) rfl
    have q5 := qf.cell (j := 5) (v := .slice aX nX cX) rfl
    clear qf
    go_wp2
    refine bodyPost_ret (v := .tuple #[.agg #[.int .i64 2, .int .i64 sz, .int .i64 gn, .string ⟨#[]⟩, .slice none 0 0, .slice aX nX cX], .bool true]) ?_ rfl (gives_got HLn.out HOK.out HGot.out rfl HNX.out ⟨rfl, .inl ⟨rfl, rfl⟩⟩ (ownE_mono (ownE_but O9.out (((((((ButE.refl w.heap.size _).then_set _ _).then_set _ _).then_set _ _).then_set _ _).then_set _ _).then_set _ _) (fun g hg => by have := (O9.out.lt g hg).1; have := L5.out; omega)) (by have := L5.out; omega)) (.inl rfl) ((((((S9.out.below.setCell (Nat.le_refl _) _).setCell (Nat.le_refl _) _).setCell (Nat.le_refl _) _).setCell (Nat.le_refl _) _).setCell (Nat.le_refl _) _).setCell (Nat.le_refl _) _) rfl)
    simp [results, Tryd.results6, go_sem, q0, q1, q2, q3, q4, q5]
  · have HOK : Hid (¬ ReadOk L) := Lib.hid (fun h => hok (readInoB_yes h))
    rw [show readInoB L = false by simpa using hok]
    clear hok
    have qf := ((((((S9.out.res.set 0 (.int .i64 0)).set 1 (.int .i64 0)).set 2 (.int .i64 0)).set 3 (.string ⟨#[]⟩)).set 4 (.slice none 0 0)).set 5 (.slice none 0 0))
    have q0 := qf.cell (j := 0) (v := .int .i64 0) rfl
    have q1 := qf.cell (j := 1) (v := .int .i64 0) rfl
    have q2 := qf.cell (j := 2) (v := .int .i64 0) rfl
    have q3 := qf.cell (j := 3) (v := .string ⟨#[]⟩) rfl
    have q4 := qf.cell (j := 4) (v := .slice none 0 0) rfl
    have q5 := qf.cell (j := 5) (v := .slice none 0 0) rfl
    clear qf
    go_wp2
    refine bodyPost_ret (v := .tuple #[.agg #[.int .i64 0, .int .i64 0, .int .i64 0, .string ⟨#[]⟩, .slice none 0 0, .slice none 0 0], .bool false]) ?_ rfl (gives_zero L w ((((((S9.out.below.setCell (Nat.le_refl _) _).setCell (Nat.le_refl _) _).setCell (Nat.le_refl _) _).setCell (Nat.le_refl _) _).setCell (Nat.le_refl _) _).setCell (Nat.le_refl _) _) HOK.out rfl)
    simp [results, Tryd.results6, go_sem, q0, q1, q2, q3, q4, q5]

set_option maxRecDepth 100000 in
set_option maxHeartbeats 4000000 in
theorem implReadIno_free (a : Option Addr) (c : Nat) (L : List ByteArray) (w : World) (_hc : 8 ≤ c) (_hcm : c ≤ 9223372036854775807) (hs : SrcT w a 8 L) (hf : ∀ j, j < 8 → (L.getD j default).size ≤ 1048576) (hk : gotKind L = 0) : Calls Tryd.prog 6 #[.slice a 8 c] w (GivesIno (readInoR L) (readInoB L) w) := by
  have HLn : Hid (L.length = 8) := Lib.hid hs.len
  have HS := Lib.hid hs
  have HF := Lib.hid hf
  have B0 := Lib.hid (below_bk w (inoObj 0 0 0 ⟨#[]⟩ none 0 0 none 0 0))
  have R0 := Lib.hid (Bk.alloc w zeroCs 29)
  obtain ⟨g, off, ha, hg, _⟩ := srcT_at hs 0 (by omega)
  have HC : Hid (∀ {w' : World}, Below w.heap.size w w' → ∀ j, j < 8 → w'.cell? ⟨g, off + j, none⟩ = some (.string (L.getD j default))) := Lib.hid (fun hb j hj => by
    obtain ⟨g', off', ha', _, d⟩ := srcT_later HS.out hb (Nat.le_refl _) j hj
    rw [ha] at ha'; cases ha'
    exact d)
  obtain ⟨x0, hx0⟩ : ∃ x, L.getD 0 default = x := ⟨_, rfl⟩
  obtain ⟨x1, hx1⟩ : ∃ x, L.getD 1 default = x := ⟨_, rfl⟩
  have hx0s : Hid (x0.size ≤ 1048576) := Lib.hid (by rw [← hx0]; exact hf 0 (by omega))
  have hx1s : Hid (x1.size ≤ 1048576) := Lib.hid (by rw [← hx1]; exact hf 1 (by omega))
  obtain ⟨sz, hsz⟩ : ∃ z : Int, numAtV x0 1 2 = z := ⟨_, rfl⟩
  obtain ⟨gn, hgn⟩ : ∃ z : Int, numAtV x0 3 2 = z := ⟨_, rfl⟩
  have HZB : Hid (-9223372036854775808 ≤ sz ∧ sz ≤ 9223372036854775807) := Lib.hid (by rw [← hsz]; exact numAtV_two x0 1)
  have HKD : Hid (numAtV x0 0 1 = 0) := Lib.hid (by rw [← hx0]; exact hk)
  have HGot : Hid (inoGot L = ⟨0, sz, gn, ⟨#[]⟩, [], []⟩) := Lib.hid (by
    unfold inoGot
    rw [hk, hx0, hx1, hsz, hgn]
    rfl)
  have HX0 := Lib.hid hx0
  have HX1 := Lib.hid hx1
  have HSZ := Lib.hid hsz
  have HGN := Lib.hid hgn
  have HCB : Hid (∀ W : World, Calls Tryd.prog 18 #[.agg #[.int .i64 0, .int .i64 sz, .int .i64 gn, .string ⟨#[]⟩, .slice none 0 0, .slice none 0 0]] W fun e w' => e = .returned (.iface 80 (.agg #[])) ∧ Below W.heap.size W w') := Lib.hid (fun W => implBody_any 0 sz gn ⟨#[]⟩ none 0 0 none 0 0 W)
  have hgne : ¬ g = w.heap.size := by omega
  subst ha
  clear hs hf hx0 hx1 hsz hgn hk
  go_enter Tryd.func6, Tryd.ntmps6
  have d0 := HC.out B0.out 0 (by omega)
  rw [HX0.out, Nat.add_zero] at d0
  go_wp2_with fail
  refine (implHead_any x0 _ (by have := hx0s.out; omega)).mono ?_
  rw [HKD.out, HSZ.out, HGN.out]
  rintro e w1 ⟨rfl, hb1⟩
  obtain ⟨bx, hbx⟩ : ∃ b, w1.heap.size = b := ⟨_, rfl⟩
  have S2 : Hid (PSt w bx (inoCs 0 sz gn ⟨#[]⟩ none 0 0 none 0 0) (w1.alloc (inoObj 0 sz gn ⟨#[]⟩ none 0 0 none 0 0))) := Lib.hid (by rw [← hbx]; exact PSt.start R0.out B0.out hb1 _)
  have hbg : w.heap.size < bx := S2.out.lt
  have hgb : ¬ g = bx := by omega
  have hgb2 : ¬ bx = g := by omega
  have BX := Lib.hid hbx
  clear hb1 d0
  go_wp2_with fail
  obtain ⟨w2, h2w⟩ : ∃ x, x = w1.alloc (inoObj 0 sz gn ⟨#[]⟩ none 0 0 none 0 0) := ⟨_, rfl⟩
  rw [← h2w] at S2 ⊢
  clear h2w hbx
  refine (HCB.out _).mono ?_
  rintro e w3 ⟨rfl, hb3⟩
  have S3 := Lib.hid (S2.out.call hb3)
  clear hb3 S2
  have a1 := free_no_file (.agg #[]) w3
  have a2 := free_no_dir (.agg #[]) w3
  have S7 := S3
  have y0 := S7.out.box.cell (j := 0) rfl
  have y1 := S7.out.box.cell (j := 1) rfl
  have y2 := S7.out.box.cell (j := 2) rfl
  have y3 := S7.out.box.cell (j := 3) rfl
  have y4 := S7.out.box.cell (j := 4) rfl
  have y5 := S7.out.box.cell (j := 5) rfl
  go_wp2_with fail
  refine (implInoWords_any sz gn ⟨#[]⟩ none 0 0 none 0 0 _ [] [] 0 HZB.out (by omega) (SrcE.nil _ _ _) (fun j hj => absurd hj (Nat.not_lt_zero _)) (SrcE.nil _ _ _) (fun j hj => absurd hj (Nat.not_lt_zero _))).mono ?_
  rintro e w8 ⟨v8, rfl, hown8, hb8⟩
  obtain ⟨a8, c8, rfl, _, _, _⟩ := own_form hown8
  have R8 := Lib.hid (srcT_of_own hown8)
  have S8 := Lib.hid (S7.out.call hb8)
  have L8 : Hid ((inoWordsB ⟨0, sz, gn, ⟨#[]⟩, [], []⟩).length ≤ 8) := Lib.hid (inoWords_le _)
  clear hown8 hb8 y0 y1 y2 y3 y4 y5
  go_wp2_with fail
  refine (implEqual_any _ _ _ 8 _ _ _ L _ (by have := L8.out; omega) R8.out (HS.out.below S8.out.below (Nat.le_refl _)) (readInoB L) (by rw [got_iff HLn.out, HGot.out])).mono ?_
  rintro e w9 ⟨rfl, q9, hq9⟩
  have S9 : Hid (PSt w bx #[.int .i64 0, .int .i64 sz, .int .i64 gn, .string ⟨#[]⟩, .slice none 0 0, .slice none 0 0] w9) := Lib.hid (by rw [hq9]; exact S8.out.drewN q9)
  clear hq9
  have y0 := S9.out.box.cell (j := 0) rfl
  have r0 := S9.out.res.cell (j := 0) rfl
  have f0 := S9.out.res.fr (o := 0)
  have y1 := S9.out.box.cell (j := 1) rfl
  have r1 := S9.out.res.cell (j := 1) rfl
  have f1 := S9.out.res.fr (o := 1)
  have y2 := S9.out.box.cell (j := 2) rfl
  have r2 := S9.out.res.cell (j := 2) rfl
  have f2 := S9.out.res.fr (o := 2)
  have y3 := S9.out.box.cell (j := 3) rfl
  have r3 := S9.out.res.cell (j := 3) rfl
  have f3 := S9.out.res.fr (o := 3)
  have y4 := S9.out.box.cell (j := 4) rfl
  have r4 := S9.out.res.cell (j := 4) rfl
  have f4 := S9.out.res.fr (o := 4)
  have y5 := S9.out.box.cell (j := 5) rfl
  have r5 := S9.out.res.cell (j := 5) rfl
  have f5 := S9.out.res.fr (o := 5)
  have hbw : ¬ bx = w.heap.size := by omega
  have hbw2 : ¬ w.heap.size = bx := by omega
  by_cases hok : readInoB L = true
  · have HOK := Lib.hid hok
    rw [hok]
    clear hok
    have qf := ((((((S9.out.res.set 0 (.int .i64 0)).set 1 (.int .i64 sz)).set 2 (.int .i64 gn)).set 3 (.string ⟨#[]⟩)).set 4 (.slice none 0 0)).set 5 (.slice none 0 0))
    have q0 := qf.cell (j := 0) (v := .int .i64 0) rfl
    have q1 := qf.cell (j := 1) (v := .int .i64 sz) rfl
    have q2 := qf.cell (j := 2) (v := .int .i64 gn) rfl
    have q3 := qf.cell (j := 3) (v := .string ⟨#[]⟩) rfl
    have q4 := qf.cell (j := 4) (v := .slice none 0 0) rfl
    have q5 := qf.cell (j := 5) (v := .slice none 0 0) rfl
    clear qf
    go_wp2
    refine bodyPost_ret (v := .tuple #[.agg #[.int .i64 0, .int .i64 sz, .int .i64 gn, .string ⟨#[]⟩, .slice none 0 0, .slice none 0 0], .bool true]) ?_ rfl (gives_got HLn.out HOK.out HGot.out rfl rfl ⟨rfl, .inl ⟨rfl, rfl⟩⟩ ⟨rfl, .inl ⟨rfl, rfl⟩⟩ (.inl rfl) ((((((S9.out.below.setCell (Nat.le_refl _) _).setCell (Nat.le_refl _) _).setCell (Nat.le_refl _) _).setCell (Nat.le_refl _) _).setCell (Nat.le_refl _) _).setCell (Nat.le_refl _) _) rfl)
    simp [results, Tryd.results6, go_sem, q0, q1, q2, q3, q4, q5]
  · have HOK : Hid (¬ ReadOk L) := Lib.hid (fun h => hok (readInoB_yes h))
    rw [show readInoB L = false by simpa using hok]
    clear hok
    have qf := ((((((S9.out.res.set 0 (.int .i64 0)).set 1 (.int .i64 0)).set 2 (.int .i64 0)).set 3 (.string ⟨#[]⟩)).set 4 (.slice none 0 0)).set 5 (.slice none 0 0))
    have q0 := qf.cell (j := 0) (v := .int .i64 0) rfl
    have q1 := qf.cell (j := 1) (v := .int .i64 0) rfl
    have q2 := qf.cell (j := 2) (v := .int .i64 0) rfl
    have q3 := qf.cell (j := 3) (v := .string ⟨#[]⟩) rfl
    have q4 := qf.cell (j := 4) (v := .slice none 0 0) rfl
    have q5 := qf.cell (j := 5) (v := .slice none 0 0) rfl
    clear qf
    go_wp2
    refine bodyPost_ret (v := .tuple #[.agg #[.int .i64 0, .int .i64 0, .int .i64 0, .string ⟨#[]⟩, .slice none 0 0, .slice none 0 0], .bool false]) ?_ rfl (gives_zero L w ((((((S9.out.below.setCell (Nat.le_refl _) _).setCell (Nat.le_refl _) _).setCell (Nat.le_refl _) _).setCell (Nat.le_refl _) _).setCell (Nat.le_refl _) _).setCell (Nat.le_refl _) _) HOK.out rfl)
    simp [results, Tryd.results6, go_sem, q0, q1, q2, q3, q4, q5]

set_option maxRecDepth 100000 in
set_option maxHeartbeats 4000000 in
theorem implReadIno_other (a : Option Addr) (c : Nat) (L : List ByteArray) (w : World) (_hc : 8 ≤ c) (_hcm : c ≤ 9223372036854775807) (hs : SrcT w a 8 L) (hf : ∀ j, j < 8 → (L.getD j default).size ≤ 1048576) (kd : Int) (hk : gotKind L = kd) (h0 : ¬ kd = 0) (h1 : ¬ kd = 1) (h2 : ¬ kd = 2) : Calls Tryd.prog 6 #[.slice a 8 c] w (GivesIno (readInoR L) (readInoB L) w) := by
  have HLn : Hid (L.length = 8) := Lib.hid hs.len
  have HS := Lib.hid hs
  have HF := Lib.hid hf
  have B0 := Lib.hid (below_bk w (inoObj 0 0 0 ⟨#[]⟩ none 0 0 none 0 0))
  have R0 := Lib.hid (Bk.alloc w zeroCs 29)
  obtain ⟨g, off, ha, hg, _⟩ := srcT_at hs 0 (by omega)
  have HC : Hid (∀ {w' : World}, Below w.heap.size w w' → ∀ j, j < 8 → w'.cell? ⟨g, off + j, none⟩ = some (.string (L.getD j default))) := Lib.hid (fun hb j hj => by
    obtain ⟨g', off', ha', _, d⟩ := srcT_later HS.out hb (Nat.le_refl _) j hj
    rw [ha] at ha'; cases ha'
    exact d)
  obtain ⟨x0, hx0⟩ : ∃ x, L.getD 0 default = x := ⟨_, rfl⟩
  obtain ⟨x1, hx1⟩ : ∃ x, L.getD 1 default = x := ⟨_, rfl⟩
  have hx0s : Hid (x0.size ≤ 1048576) := Lib.hid (by rw [← hx0]; exact hf 0 (by omega))
  have hx1s : Hid (x1.size ≤ 1048576) := Lib.hid (by rw [← hx1]; exact hf 1 (by omega))
  obtain ⟨sz, hsz⟩ : ∃ z : Int, numAtV x0 1 2 = z := ⟨_, rfl⟩
  obtain ⟨gn, hgn⟩ : ∃ z : Int, numAtV x0 3 2 = z := ⟨_, rfl⟩
  have HZB : Hid (-9223372036854775808 ≤ sz ∧ sz ≤ 9223372036854775807) := Lib.hid (by rw [← hsz]; exact numAtV_two x0 1)
  have HKD : Hid (numAtV x0 0 1 = kd) := Lib.hid (by rw [← hx0]; exact hk)
  have HGot : Hid (inoGot L = ⟨kd, sz, gn, ⟨#[]⟩, [], []⟩) := Lib.hid (by
    unfold inoGot
    rw [hk, hx0, hx1, hsz, hgn]
    rw [if_neg h1, if_neg h1, if_neg h2])
  have HX0 := Lib.hid hx0
  have HX1 := Lib.hid hx1
  have HSZ := Lib.hid hsz
  have HGN := Lib.hid hgn
  have HCB : Hid (∀ W : World, Calls Tryd.prog 18 #[.agg #[.int .i64 kd, .int .i64 sz, .int .i64 gn, .string ⟨#[]⟩, .slice none 0 0, .slice none 0 0]] W fun e w' => e = .returned (.nilIface) ∧ Below W.heap.size W w') := Lib.hid (fun W => by have h9 := implBody_any kd sz gn ⟨#[]⟩ none 0 0 none 0 0 W; unfold bodyV at h9; rw [if_neg h0, if_neg h1, if_neg h2] at h9; exact h9)
  have hgne : ¬ g = w.heap.size := by omega
  subst ha
  clear hs hf hx0 hx1 hsz hgn hk h0 h1 h2
  go_enter Tryd.func6, Tryd.ntmps6
  have d0 := HC.out B0.out 0 (by omega)
  rw [HX0.out, Nat.add_zero] at d0
  go_wp2_with fail
  refine (implHead_any x0 _ (by have := hx0s.out; omega)).mono ?_
  rw [HKD.out, HSZ.out, HGN.out]
  rintro e w1 ⟨rfl, hb1⟩
  obtain ⟨bx, hbx⟩ : ∃ b, w1.heap.size = b := ⟨_, rfl⟩
  have S2 : Hid (PSt w bx (inoCs kd sz gn ⟨#[]⟩ none 0 0 none 0 0) (w1.alloc (inoObj kd sz gn ⟨#[]⟩ none 0 0 none 0 0))) := Lib.hid (by rw [← hbx]; exact PSt.start R0.out B0.out hb1 _)
  have hbg : w.heap.size < bx := S2.out.lt
  have hgb : ¬ g = bx := by omega
  have hgb2 : ¬ bx = g := by omega
  have BX := Lib.hid hbx
  clear hb1 d0
  go_wp2_with fail
  obtain ⟨w2, h2w⟩ : ∃ x, x = w1.alloc (inoObj kd sz gn ⟨#[]⟩ none 0 0 none 0 0) := ⟨_, rfl⟩
  rw [← h2w] at S2 ⊢
  clear h2w hbx
  refine (HCB.out _).mono ?_
  rintro e w3 ⟨rfl, hb3⟩
  have S3 := Lib.hid (S2.out.call hb3)
  clear hb3 S2
  have a1 := nil_no_file w3
  have a2 := nil_no_dir w3
  have S7 := S3
  have y0 := S7.out.box.cell (j := 0) rfl
  have y1 := S7.out.box.cell (j := 1) rfl
  have y2 := S7.out.box.cell (j := 2) rfl
  have y3 := S7.out.box.cell (j := 3) rfl
  have y4 := S7.out.box.cell (j := 4) rfl
  have y5 := S7.out.box.cell (j := 5) rfl
  go_wp2_with fail
  refine (implInoWords_any sz gn ⟨#[]⟩ none 0 0 none 0 0 _ [] [] kd HZB.out (by omega) (SrcE.nil _ _ _) (fun j hj => absurd hj (Nat.not_lt_zero _)) (SrcE.nil _ _ _) (fun j hj => absurd hj (Nat.not_lt_zero _))).mono ?_
  rintro e w8 ⟨v8, rfl, hown8, hb8⟩
  obtain ⟨a8, c8, rfl, _, _, _⟩ := own_form hown8
  have R8 := Lib.hid (srcT_of_own hown8)
  have S8 := Lib.hid (S7.out.call hb8)
  have L8 : Hid ((inoWordsB ⟨kd, sz, gn, ⟨#[]⟩, [], []⟩).length ≤ 8) := Lib.hid (inoWords_le _)
  clear hown8 hb8 y0 y1 y2 y3 y4 y5
  go_wp2_with fail
  refine (implEqual_any _ _ _ 8 _ _ _ L _ (by have := L8.out; omega) R8.out (HS.out.below S8.out.below (Nat.le_refl _)) (readInoB L) (by rw [got_iff HLn.out, HGot.out])).mono ?_
  rintro e w9 ⟨rfl, q9, hq9⟩
  have S9 : Hid (PSt w bx #[.int .i64 kd, .int .i64 sz, .int .i64 gn, .string ⟨#[]⟩, .slice none 0 0, .slice none 0 0] w9) := Lib.hid (by rw [hq9]; exact S8.out.drewN q9)
  clear hq9
  have y0 := S9.out.box.cell (j := 0) rfl
  have r0 := S9.out.res.cell (j := 0) rfl
  have f0 := S9.out.res.fr (o := 0)
  have y1 := S9.out.box.cell (j := 1) rfl
  have r1 := S9.out.res.cell (j := 1) rfl
  have f1 := S9.out.res.fr (o := 1)
  have y2 := S9.out.box.cell (j := 2) rfl
  have r2 := S9.out.res.cell (j := 2) rfl
  have f2 := S9.out.res.fr (o := 2)
  have y3 := S9.out.box.cell (j := 3) rfl
  have r3 := S9.out.res.cell (j := 3) rfl
  have f3 := S9.out.res.fr (o := 3)
  have y4 := S9.out.box.cell (j := 4) rfl
  have r4 := S9.out.res.cell (j := 4) rfl
  have f4 := S9.out.res.fr (o := 4)
  have y5 := S9.out.box.cell (j := 5) rfl
  have r5 := S9.out.res.cell (j := 5) rfl
  have f5 := S9.out.res.fr (o := 5)
  have hbw : ¬ bx = w.heap.size := by omega
  have hbw2 : ¬ w.heap.size = bx := by omega
  by_cases hok : readInoB L = true
  · have HOK := Lib.hid hok
    rw [hok]
    clear hok
    have qf := ((((((S9.out.res.set 0 (.int .i64 kd)).set 1 (.int .i64 sz)).set 2 (.int .i64 gn)).set 3 (.string ⟨#[]⟩)).set 4 (.slice none 0 0)).set 5 (.slice none 0 0))
    have q0 := qf.cell (j := 0) (v := .int .i64 kd) rfl
    have q1 := qf.cell (j := 1) (v := .int .i64 sz) rfl
    have q2 := qf.cell (j := 2) (v := .int .i64 gn) rfl
    have q3 := qf.cell (j := 3) (v := .string ⟨#[]⟩) rfl
    have q4 := qf.cell (j := 4) (v := .slice none 0 0) rfl
    have q5 := qf.cell (j := 5) (v := .slice none 0 0) rfl
    clear qf
    go_wp2
    refine bodyPost_ret (v := .tuple #[.agg #[.int .i64 kd, .int .i64 sz, .int .i64 gn, .string ⟨#[]⟩, .slice none 0 0, .slice none 0 0], .bool true]) ?_ rfl (gives_got HLn.out HOK.out HGot.out rfl rfl ⟨rfl, .inl ⟨rfl, rfl⟩⟩ ⟨rfl, .inl ⟨rfl, rfl⟩⟩ (.inl rfl) ((((((S9.out.below.setCell (Nat.le_refl _) _).setCell (Nat.le_refl _) _).setCell (Nat.le_refl _) _).setCell (Nat.le_refl _) _).setCell (Nat.le_refl _) _).setCell (Nat.le_refl _) _) rfl)
    simp [results, Tryd.results6, go_sem, q0, q1, q2, q3, q4, q5]
  · have HOK : Hid (¬ ReadOk L) := Lib.hid (fun h => hok (readInoB_yes h))
    rw [show readInoB L = false by simpa using hok]
    clear hok
    have qf := ((((((S9.out.res.set 0 (.int .i64 0)).set 1 (.int .i64 0)).set 2 (.int .i64 0)).set 3 (.string ⟨#[]⟩)).set 4 (.slice none 0 0)).set 5 (.slice none 0 0))
    have q0 := qf.cell (j := 0) (v := .int .i64 0) rfl
    have q1 := qf.cell (j := 1) (v := .int .i64 0) rfl
    have q2 := qf.cell (j := 2) (v := .int .i64 0) rfl
    have q3 := qf.cell (j := 3) (v := .string ⟨#[]⟩) rfl
    have q4 := qf.cell (j := 4) (v := .slice none 0 0) rfl
    have q5 := qf.cell (j := 5) (v := .slice none 0 0) rfl
    clear qf
    go_wp2
    refine bodyPost_ret (v := .tuple #[.agg #[.int .i64 0, .int .i64 0, .int .i64 0, .string ⟨#[]⟩, .slice none 0 0, .slice none 0 0], .bool false]) ?_ rfl (gives_zero L w ((((((S9.out.below.setCell (Nat.le_refl _) _).setCell (Nat.le_refl _) _).setCell (Nat.le_refl _) _).setCell (Nat.le_refl _) _).setCell (Nat.le_refl _) _).setCell (Nat.le_refl _) _) HOK.out rfl)
    simp [results, Tryd.results6, go_sem, q0, q1, q2, q3, q4, q5]

set_option maxRecDepth 100000 in
set_option maxHeartbeats 4000000 in
theorem implReadIno_len (a : Option Addr) (n c : Nat) (L : List ByteArray) (w : World) (hs : SrcT w a n L) (h : ¬ n = 8) : Calls Tryd.prog 6 #[.slice a n c] w (GivesIno (readInoR L) (readInoB L) w) := by
  have HL : Hid (¬ ReadOk L) := Lib.hid (fun x => h (by rw [← hs.len]; exact x.1))
  have B0 := Lib.hid (below_bk w (inoObj 0 0 0 ⟨#[]⟩ none 0 0 none 0 0))
  have e8 : ((n : Int) == 8) = false := by simp; omega
  have e9 : ((n : Int) != 8) = true := by simp only [bne, e8]; rfl
  clear hs
  go_enter Tryd.func6, Tryd.ntmps6
  go_wp2
  refine bodyPost_ret (v := .tuple #[.agg #[.int .i64 0, .int .i64 0, .int .i64 0, .string ⟨#[]⟩, .slice none 0 0, .slice none 0 0], .bool false]) ?_ rfl (gives_zero L w B0.out HL.out rfl)
  simp [results, Tryd.results6, go_sem]
theorem implReadIno_any (a : Option Addr) (n c : Nat) (L : List ByteArray) (w : World) (hc : n ≤ c) (hcm : c ≤ 9223372036854775807) (hs : SrcT w a n L) (hf : ∀ j, j < n → (L.getD j default).size ≤ 1048576) : Calls Tryd.prog 6 #[.slice a n c] w (GivesIno (readInoR L) (readInoB L) w) := by
  by_cases h : n = 8
  · subst h
    by_cases h0 : gotKind L = 0
    · exact implReadIno_free a c L w hc hcm hs hf h0
    · by_cases h1 : gotKind L = 1
      · exact implReadIno_file a c L w hc hcm hs hf h1
      · by_cases h2 : gotKind L = 2
        · exact implReadIno_dir a c L w hc hcm hs hf h2
        · exact implReadIno_other a c L w hc hcm hs hf _ rfl h0 h1 h2
  · exact implReadIno_len a n c L w hs h
end Go.Proofs.YtmkchilhnmkhkabDoor
namespace Go.Proofs.YtmkchilhnmkhkabDoor
open Go.RowKit Go.Proofs.YtmkchilhnmkhkabDoor.Parts Go.Proofs.YtmkchilhnmkhkabDoor.Hexa Go.Proofs.YtmkchilhnmkhkabDoor.Byt Go.Proofs.YtmkchilhnmkhkabDoor.Draw

theorem zero_ok : InoOk zeroIno := ⟨⟨by decide, by decide⟩, .inl ⟨rfl, rfl, rfl, rfl, rfl⟩⟩
theorem read_fits (L : List ByteArray) : (-9223372036854775808 ≤ (readInoR L).sz ∧ (readInoR L).sz ≤ 9223372036854775807) ∧ (readInoR L).R.length ≤ 100 ∧ (readInoR L).E.length ≤ 100 ∧ FitRec (readInoR L).R (readInoR L).R.length 2000000 ∧ FitEntry (readInoR L).E (readInoR L).E.length 2000000 := by
  by_cases h : ReadOk L
  · rw [readInoR_yes h]; exact fits_of_ok (readOk_ok h)
  · rw [readInoR_no h]; exact fits_of_ok zero_ok
theorem read_yes {L : List ByteArray} (h : readInoB L = true) : InoOk (readInoR L) ∧ inoWordsB (readInoR L) = L := by
  have h9 : ReadOk L := by
    by_cases h9 : ReadOk L
    · exact h9
    · rw [readInoB_no h9] at h; cases h
  rw [readInoR_yes h9]
  exact ⟨readOk_ok h9, h9.2⟩

set_option maxRecDepth 100000 in
set_option maxHeartbeats 16000000 in
theorem fnAnyInode_law (ad : Option Addr) (len cap : Nat) (w : World) (hs : Draw.Src w w.heap.size ad len) :
    Calls Tryd.prog 3 #[.slice ad len cap] w fun e w' => e = .returned (.bool true) ∧ Below w.heap.size w w' := by
  by_cases hbig : len ≤ 1048576
  · have HS := Lib.hid hs
    clear hs
    go_enter Tryd.func3, Tryd.ntmps3
    go_wp2_with (go_at_call 4; go_in)
    refine (drawWords_any ad len cap w hbig HS.out).mono ?_
    rintro e w1 ⟨a, n, c, L, hLn, hL2, hn9, hnc, hcm, rfl, ho1, hb1⟩
    have HLN := Lib.hid hLn
    have HF : Hid (∀ j, j < n → (L.getD j default).size ≤ 200) := Lib.hid (fun j hj => hL2 _ (by simp [List.getD, show j < L.length by omega]))
    have X1 : Hid (SrcT w1 a n L) := Lib.hid (srcT_of_own ho1)
    have B1 := Lib.hid hb1
    have hfit := read_fits L
    have hyes := fun h => read_yes (L := L) h
    obtain ⟨⟨kd, sz, gn, key, R, E⟩, hr⟩ : ∃ r, readInoR L = r := ⟨_, rfl⟩
    obtain ⟨b, hb⟩ : ∃ b, readInoB L = b := ⟨_, rfl⟩
    rw [hr] at hfit hyes
    rw [hb] at hyes
    obtain ⟨nR, hnR⟩ : ∃ k, R.length = k := ⟨_, rfl⟩
    obtain ⟨nE, hnE⟩ : ∃ k, E.length = k := ⟨_, rfl⟩
    have HYES := Lib.hid hyes
    have HSZ : Hid (-9223372036854775808 ≤ sz ∧ sz ≤ 9223372036854775807) := Lib.hid hfit.1
    have HFR : Hid (FitRec R nR 2000000) := Lib.hid (by rw [← hnR]; exact hfit.2.2.2.1)
    have HFE : Hid (FitEntry E nE 2000000) := Lib.hid (by rw [← hnE]; exact hfit.2.2.2.2)
    have hR9 : nR ≤ 100 := by rw [← hnR]; exact hfit.2.1
    have hE9 : nE ≤ 100 := by rw [← hnE]; exact hfit.2.2.1
    have HRD : Hid (∀ (w0 : World) (e : Ending) (w1 : World), GivesIno (readInoR L) (readInoB L) w0 e w1 → ∃ aR cR aE cE, e = .returned (.tuple #[.agg #[.int .i64 kd, .int .i64 sz, .int .i64 gn, .string key, .slice aR nR cR, .slice aE nE cE], .bool b])
        ∧ w1.ownsRow w0.heap.size 49 3 (.slice aR nR cR) nR (cellsE encRec R) ∧ w1.ownsRow w0.heap.size 55 2 (.slice aE nE cE) nE (cellsE encEntry E) ∧ Below w0.heap.size w0 w1) := Lib.hid (fun w0 e w1 h => by
      rw [hr, hb] at h
      obtain ⟨a, b, c, d, h1, h2, h3, _, h5⟩ := h
      simp only [hnR, hnE] at h1 h2 h3
      exact ⟨a, b, c, d, h1, h2, h3, h5⟩)
    clear hLn hL2 ho1 hb1 hfit hyes hr hb hnR hnE
    go_wp2_with fail
    refine (implReadIno_any a n c L _ hnc hcm X1.out (fun j hj => Nat.le_trans (HF.out j hj) (by decide))).mono ?_
    intro e w2 hg
    obtain ⟨aR, cR, aE, cE, rfl, oR, oE, hb2⟩ := HRD.out _ _ _ hg
    have hsz := B1.out.size
    have I30 := IA.new (w := w) (kd := kd) (sz := sz) (gn := gn) (key := key) (ownE_mono oR hsz) (ownE_mono oE hsz) (B1.out.trans (hb2.mono hsz))
    have X3 : Hid (SrcT (w2.alloc (.cells #[.int .i64 kd, .int .i64 sz, .int .i64 gn, .string key, .slice aR nR cR, .slice aE nE cE] 29)) a n L) := Lib.hid (SrcE.later (SrcE.later X1.out hb2) (below_bk _ _))
    obtain ⟨b4, hb4⟩ : ∃ b, w2.heap.size = b := ⟨_, rfl⟩
    obtain ⟨w3, hw3⟩ : ∃ x, w2.alloc (.cells #[.int .i64 kd, .int .i64 sz, .int .i64 gn, .string key, .slice aR nR cR, .slice aE nE cE] 29) = x := ⟨_, rfl⟩
    rw [hb4, hw3] at I30
    rw [hw3] at X3
    have I3 := Lib.hid I30
    have Hb4 := Lib.hid hb4
    have Hw3 := Lib.hid hw3
    clear hg oR oE hb2 hsz I30 hb4 hw3 X1 B1
    go_wp2_with fail
    rw [Hb4.out, Hw3.out]
    clear Hb4 Hw3
    refine (specReadIno_any a n c L _ X3.out (fun j hj => Nat.le_trans (HF.out j hj) (by decide))).mono ?_
    intro e w4 hg
    obtain ⟨aR5, cR5, aE5, cE5, rfl, oR, oE, hb4⟩ := HRD.out _ _ _ hg
    have I40 := I3.out.later hb4
    have hsz := I3.out.below.size
    have J50 := IA.new (w := w) (kd := kd) (sz := sz) (gn := gn) (key := key) (ownE_mono oR hsz) (ownE_mono oE hsz) I40.below
    have I50 := I40.later (below_bk w4 (.cells #[.int .i64 kd, .int .i64 sz, .int .i64 gn, .string key, .slice aR5 nR cR5, .slice aE5 nE cE5] 29))
    have X5 : Hid (SrcT (w4.alloc (.cells #[.int .i64 kd, .int .i64 sz, .int .i64 gn, .string key, .slice aR5 nR cR5, .slice aE5 nE cE5] 29)) a n L) := Lib.hid (SrcE.later (SrcE.later X3.out hb4) (below_bk _ _))
    obtain ⟨b6, hb6⟩ : ∃ b, w4.heap.size = b := ⟨_, rfl⟩
    obtain ⟨w5, hw5⟩ : ∃ x, w4.alloc (.cells #[.int .i64 kd, .int .i64 sz, .int .i64 gn, .string key, .slice aR5 nR cR5, .slice aE5 nE cE5] 29) = x := ⟨_, rfl⟩
    rw [hb6, hw5] at J50
    rw [hw5] at I50 X5
    have I5 := Lib.hid I50
    have J5 := Lib.hid J50
    have Hb6 := Lib.hid hb6
    have Hw5 := Lib.hid hw5
    have hb0 : (b != b) = false := by cases b <;> rfl
    clear hg oR oE hb4 I40 hsz J50 I50 hb6 hw5 I3 X3
    have kc0 := I5.out.box.cell (j := 0) rfl
    have kc1 := I5.out.box.cell (j := 1) rfl
    have kc2 := I5.out.box.cell (j := 2) rfl
    have kc3 := I5.out.box.cell (j := 3) rfl
    have kc4 := I5.out.box.cell (j := 4) rfl
    have kc5 := I5.out.box.cell (j := 5) rfl
    have kb0 := J5.out.box.cell (j := 0) rfl
    have kb1 := J5.out.box.cell (j := 1) rfl
    have kb2 := J5.out.box.cell (j := 2) rfl
    have kb3 := J5.out.box.cell (j := 3) rfl
    have kb4 := J5.out.box.cell (j := 4) rfl
    have kb5 := J5.out.box.cell (j := 5) rfl
    rw [← Hw5.out, ← Hb6.out] at kb0 kb1 kb2 kb3 kb4 kb5
    rw [← Hw5.out] at kc0 kc1 kc2 kc3 kc4 kc5
    go_wp2_with fail
    clear kc0 kc1 kc2 kc3 kc4 kc5 kb0 kb1 kb2 kb3 kb4 kb5
    rw [Hw5.out]
    clear Hb6 Hw5
    refine (sameInode_any kd sz gn key aR aR5 nR cR cR5 aE aE5 nE cE cE5 R E _ (by omega) (by omega) I5.out.srcR J5.out.srcR I5.out.srcE J5.out.srcE).mono ?_
    rintro e w6 ⟨rfl, hb6⟩
    have I6 := Lib.hid (I5.out.later hb6)
    have X6 : Hid (SrcT w6 a n L) := Lib.hid (SrcE.later X5.out hb6)
    clear hb6 I5 J5 X5
    have HZW : Hid (∀ W : World, Calls Tryd.prog 11 #[.agg #[.int .i64 0, .int .i64 0, .int .i64 0, .string ⟨#[]⟩, .slice none 0 0, .slice none 0 0]] W (GivesT (inoWordsB zeroIno) W)) := Lib.hid (fun W =>
      implInoWords_any 0 0 ⟨#[]⟩ none 0 0 none 0 0 W [] [] 0 ⟨by decide, by decide⟩ (by decide) (srcRec_of_own (B := 0) (e := 49) (World.ownsRow_nil _ _ _ _)) (fun j hj => by omega) (srcEntry_of_own (B := 0) (e := 55) (World.ownsRow_nil _ _ _ _)) (fun j hj => by omega))
    have HZ8 := Lib.hid (inoWords_length zero_ok)
    cases b
    · go_wp2_with fail
      refine (HZW.out _).mono ?_
      rintro e w7 ⟨v, rfl, ho7, hb7⟩
      rw [HZ8.out] at ho7
      obtain ⟨a7, c7, rfl, _, _, _⟩ := ownE_form ho7
      have I7 := Lib.hid (I6.out.later hb7)
      clear ho7 hb7 I6
      go_wp2
      go_ret
      exact ⟨rfl, I7.out.below⟩
    · have HB := Lib.hid (inoB_yes (HYES.out rfl).1)
      have HWL := Lib.hid (HYES.out rfl).2
      have kc0 := I6.out.box.cell (j := 0) rfl
      have kc1 := I6.out.box.cell (j := 1) rfl
      have kc2 := I6.out.box.cell (j := 2) rfl
      have kc3 := I6.out.box.cell (j := 3) rfl
      have kc4 := I6.out.box.cell (j := 4) rfl
      have kc5 := I6.out.box.cell (j := 5) rfl
      go_wp2_with fail
      refine (specIno_any kd sz gn key aR nR cR aE nE cE _ R E HSZ.out I6.out.srcR HFR.out I6.out.srcE HFE.out).mono ?_
      rw [HB.out]
      rintro e w7 ⟨rfl, hb7⟩
      have I7 := Lib.hid (I6.out.later hb7)
      have X7 : Hid (SrcT w7 a n L) := Lib.hid (SrcE.later X6.out hb7)
      clear hb7 I6 X6 kc0 kc1 kc2 kc3 kc4 kc5
      have kc0 := I7.out.box.cell (j := 0) rfl
      have kc1 := I7.out.box.cell (j := 1) rfl
      have kc2 := I7.out.box.cell (j := 2) rfl
      have kc3 := I7.out.box.cell (j := 3) rfl
      have kc4 := I7.out.box.cell (j := 4) rfl
      have kc5 := I7.out.box.cell (j := 5) rfl
      go_wp2_with fail
      refine (implInoWords_any sz gn key aR nR cR aE nE cE _ R E kd HSZ.out (by omega) I7.out.srcR HFR.out I7.out.srcE HFE.out).mono ?_
      rw [HWL.out]
      rintro e w8 ⟨v, rfl, ho8, hb8⟩
      rw [HLN.out] at ho8
      obtain ⟨a8, c8, rfl, _, _, _⟩ := ownE_form ho8
      have I8 := Lib.hid (I7.out.later hb8)
      have X8 : Hid (SrcT w8 a n L) := Lib.hid (SrcE.later X7.out hb8)
      have Y8 : Hid (SrcT w8 a8 n L) := Lib.hid (srcT_of_own ho8)
      clear ho8 hb8 I7 X7 kc0 kc1 kc2 kc3 kc4 kc5
      go_wp2_with fail
      refine (sameTexts12_any a8 a n c8 c L _ (by omega) Y8.out X8.out).mono ?_
      rintro e w9 ⟨rfl, m, rfl⟩
      have I9 := Lib.hid (I8.out.drewN m)
      clear I8 X8 Y8
      go_wp2_with fail
      refine (HZW.out _).mono ?_
      rintro e w10 ⟨v, rfl, ho10, hb10⟩
      rw [HZ8.out] at ho10
      obtain ⟨a10, c10, rfl, _, _, _⟩ := ownE_form ho10
      have I10 := Lib.hid (I9.out.later hb10)
      clear ho10 hb10 I9
      go_wp2
      go_ret
      exact ⟨rfl, I10.out.below⟩
  · go_enter Tryd.func3, Tryd.ntmps3
    go_wp2_with (go_at_call 4; go_in)
    go_ret
    exact ⟨rfl, Below.refl _ _⟩
end Go.Proofs.YtmkchilhnmkhkabDoor
