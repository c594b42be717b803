/- FnTwice: the law's walk. -/
import Derived.Test.YtgpjklnlchbbbaaSealDraw
import Derived.Test.YtgpjklnlchbbbaaSealTwoI
namespace Go.Proofs.Ytgpjklnlchbbbaa
open Go.RowKit Go.Proofs.Ytgpjklnlchbbbaa.Parts Go.Proofs.Ytgpjklnlchbbbaa.Hexa Go.Proofs.Ytgpjklnlchbbbaa.Draw

set_option maxRecDepth 100000 in
set_option maxHeartbeats 1000000 in
theorem sameTexts_any (a1 a2 : Option Addr) (n c1 c2 : Nat) (P : List ByteArray) (w : World) (hP : P.length = n) (hn : n ≤ 100000000) (r1 : Reads w a1 (scells P)) (r2 : Reads w a2 (scells P)) :
    Calls Try.prog 11 #[.slice a1 n c1, .slice a2 n c2] w fun e w' => e = .returned (.bool true) ∧ ∃ m, w' = w.drewN m := by
  have HP := Lib.hid hP
  clear hP
  have R1 := Lib.hid r1
  have R2 := Lib.hid r2
  clear r1 r2
  go_enter Try.func11, Try.ntmps11
  go_wp2
  go_loopw [5] (fun iv wr => ∃ k m : Nat, k ≤ n ∧ iv = .int .i64 k ∧ wr = w.drewN m) (fun iv _ => n - (intOf iv).toNat)
  case atStart => exact ⟨0, 0, Nat.zero_le _, rfl, rfl⟩
  case round =>
    obtain ⟨k, m, hk, rfl, rfl⟩ := hrel
    by_cases hlt : k < n
    · obtain ⟨g1, rfl, e1⟩ := R1.out k (by have := HP.out; simp [scells]; omega)
      obtain ⟨g2, rfl, e2⟩ := R2.out k (by have := HP.out; simp [scells]; omega)
      have d1 := cell_text (by have := HP.out; omega) e1
      have d2 := cell_text (by have := HP.out; omega) e2
      obtain ⟨x, hx⟩ : ∃ x, P[k]'(by have := HP.out; omega) = x := ⟨_, rfl⟩
      rw [hx] at d1 d2
      clear e1 e2 hx
      go_wp2
      go_quiet (fail)
      go_wp2
      go_roundw
      case rel => exact ⟨k + 1, _, by omega, by go_num, rfl⟩
      case measure => (simp [intOf]; try omega)
    · obtain rfl : k = n := by omega
      go_wp2
      go_ret
      exact ⟨rfl, _, rfl⟩

theorem same_own (v1 v2 : Value) (B1 B2 n : Nat) (P : List ByteArray) (w : World) (hP : P.length = n) (hn : n ≤ 100000000) (h1 : w.ownsRow B1 9 1 v1 n (scells P)) (h2 : w.ownsRow B2 9 1 v2 n (scells P)) :
    Calls Try.prog 11 #[v1, v2] w fun e w' => e = .returned (.bool true) ∧ ∃ m, w' = w.drewN m := by
  obtain ⟨a1, c1, rfl, _, _, r1⟩ := own_form h1
  obtain ⟨a2, c2, rfl, _, _, r2⟩ := own_form h2
  exact sameTexts_any a1 a2 n c1 c2 P w hP hn r1 r2

/-- The two sealings that the law adds. -/
def two1 : S3 := ⟨⟨#[107]⟩, ⟨#[122]⟩, ⟨#[120]⟩⟩
def two2 : S3 := ⟨⟨#[107]⟩, ⟨#[122]⟩, ⟨#[121]⟩⟩
theorem two_at (L : List S3) : (L ++ [two1, two2]).getD L.length default = two1 ∧ (L ++ [two1, two2]).getD (L.length + 1) default = two2 := by
  constructor <;> simp [List.getD]
theorem two_clash (L : List S3) : Clash (L ++ [two1, two2]) (L.length + 2) := by
  obtain ⟨e1, e2⟩ := two_at L
  refine ⟨L.length, L.length + 1, by omega, by omega, ?_, ?_, ?_⟩
  · rw [e1, e2]; rfl
  · rw [e1, e2]; rfl
  · rw [e1, e2]; decide
theorem mem_addN {P : List ByteArray} {x y : ByteArray} (h : y ∈ addN P x) : y ∈ P ∨ y = x := by
  by_cases hx : x ∈ P
  · rw [addN_yes hx] at h; exact .inl h
  · rw [addN_no hx] at h; simpa using h
theorem mem_fold : ∀ (L : List S3) (P : List ByteArray) (y : ByteArray), y ∈ L.foldl (fun acc s => addN acc s.n) P → y ∈ P ∨ ∃ s ∈ L, s.n = y
  | [], P, y, h => .inl h
  | s :: r, P, y, h => by
    rcases mem_fold r (addN P s.n) y h with h1 | ⟨t, ht, e⟩
    · rcases mem_addN h1 with h2 | h2
      · exact .inl h2
      · exact .inr ⟨s, by simp, h2.symm⟩
    · exact .inr ⟨t, by simp [ht], e⟩
theorem two_nonces (L : List S3) (hL : ∀ s ∈ L, Drawn s) : (noncesB (L ++ [two1, two2])).length = (noncesB L).length + 1 := by
  have h0 : noncesB (L ++ [two1, two2]) = addN (addN (noncesB L) two1.n) two2.n := by
    unfold noncesB
    rw [List.foldl_append]
    rfl
  have h1 : two1.n ∉ noncesB L := fun h => by
    rcases mem_fold L [] _ h with h2 | ⟨s, hs, e⟩
    · cases h2
    · have h3 := (hL s hs).2.1
      rw [e] at h3
      simp [two1] at h3
  have h2 : two2.n = two1.n := rfl
  rw [h0, h2, addN_no h1, addN_yes (by simp)]
  simp
theorem drawn_size {s : S3} (h : Drawn s) : s.k.size ≤ 1048576 ∧ s.n.size ≤ 1048576 ∧ s.t.size ≤ 1048576 := by
  obtain ⟨h1, h2, h3⟩ := h
  simp at h1 h2 h3
  refine ⟨?_, ?_, ?_⟩
  · rcases h1 with e | e <;> rw [e] <;> decide
  · rcases h2 with e | e | e <;> rw [e] <;> decide
  · rcases h3 with e | e <;> rw [e] <;> decide
theorem fit_list {L : List S3} (h : ∀ s ∈ L, s.k.size ≤ 1048576 ∧ s.n.size ≤ 1048576 ∧ s.t.size ≤ 1048576) : ∀ j, j < L.length → (L.getD j default).k.size ≤ 1048576 ∧ (L.getD j default).n.size ≤ 1048576 ∧ (L.getD j default).t.size ≤ 1048576 := fun j hj => by
  have e : L.getD j default = L[j] := by simp [List.getD, hj]
  rw [e]; exact h _ (List.getElem_mem _)

theorem cells3_one : ∀ (L : List S3), ∀ u ∈ cells3 L, u.oneCell' = true
  | [], u, h => by cases h
  | s :: r, u, h => by
    simp only [cells3, List.mem_cons] at h
    rcases h with e | e | e | e
    · subst e; rfl
    · subst e; rfl
    · subst e; rfl
    · exact cells3_one r u e
theorem own_some {w : World} {B e k : Nat} {v : Value} {n : Nat} {xs : List Value} (h : w.ownsRow B e k v n xs) (hv : v ≠ .slice none 0 0) : ∃ g cap, v = .slice (some ⟨g, 0, none⟩) n cap ∧ n ≤ cap ∧ cap ≤ maxLen := by
  rcases h.2 with ⟨h1, _⟩ | ⟨g, cap, cur, h1, _, _, h2, h3, _⟩
  · exact absurd h1 hv
  · exact ⟨g, cap, h1, h2, h3⟩

theorem own_drewN' {w : World} {B e k : Nat} {v : Value} {n : Nat} {xs : List Value} (h : w.ownsRow B e k v n xs) (m : Nat) : (w.drewN m).ownsRow B e k v n xs := h
set_option maxRecDepth 100000 in
set_option maxHeartbeats 400000 in
theorem fnTwice_law (ad : Option Addr) (len cap : Nat) (w : World) (hs : Draw.Src w w.heap.size ad len) :
    Calls Try.prog 3 #[.slice ad len cap] w fun e w' => e = .returned (.bool true) ∧ Below w.heap.size w w' := by
  by_cases hbig : len ≤ 1048576
  · obtain ⟨i0, hi, hz0, hz1, hz2⟩ := info_parts infoSeal
    have HS := Lib.hid hs
    clear hs
    go_enter Try.func3, Try.ntmps3
    go_wp2_with (go_at_call 6; go_in)
    refine (Draw.drawTwice_any ad len cap w hbig HS.out).mono ?_
    rintro e w1 ⟨v, L, hL5, hD, rfl, hnn, hown1, hb1⟩
    obtain ⟨g, cp, rfl, hc1, hc2⟩ := own_some hown1 hnn
    have O1 := Lib.hid hown1
    have B1 := Lib.hid hb1
    have HD := Lib.hid hD
    have HF := Lib.hid (fit_list (fun s hs => drawn_size (hD s hs)))
    have HF2 := Lib.hid (fit_list (L := L ++ [two1, two2]) (fun s hs => by
      rcases List.mem_append.1 hs with h | h
      · exact drawn_size (hD s h)
      · simp at h; rcases h with e | e <;> subst e <;> decide))
    have HN := Lib.hid (two_nonces L hD)
    generalize hn : L.length = n at O1 hc1 hL5 ⊢
    have HL := Lib.hid hn
    clear hown1 hb1 hD hnn hn
    go_wp2_with fail
    refine (implNonces_any _ n cp L _ (srcS_of_own O1.out) (by omega) (fun j hj => (HF.out j (by have := HL.out; omega)).2.1)).mono ?_
    rintro e w2 ⟨v4, rfl, hown4, hb2⟩
    have O4 := Lib.hid hown4
    have O12 := Lib.hid (own_below O1.out hb2)
    have B2 : Hid (Below w.heap.size w w2) := Lib.hid (B1.out.trans (hb2.mono B1.out.size))
    have S2 := Lib.hid hb2.size
    clear hown4 hb2
    have hlit := World.ownsRow_lit (e := 29) (size := 3) (base := w2.heap.size) w2 #[] 0 (Nat.le_refl _) (by decide) rfl
    have HLIT := Lib.hid hlit
    clear hlit
    have HC := Lib.hid ((O12.out.alloc (.cells #[] 29)).cells (g := g) rfl)
    have HO := Lib.hid (cells3_one L)
    have HE : Hid ((cells3 L).length = n * 3) := Lib.hid (by rw [cells3_length, HL.out])
    go_wp2_with (first
      | (at_builtin; refine wpList_append_own _ rfl (.tmp 12) (.tmp 13) 24 rfl w2.heap.size 29 i0 _ 3 48 Try.underlying24 hi hz0 hz1 hz2 rfl (by decide) _ _ _ rfl HLIT.out ⟨g, 0, none⟩ n cp (cells3 L) rfl HE.out HC.out HO.out (by unfold maxLen; omega) (by omega) (by simp) ?_; intro v14 w3 hown3 hgrow3 hn3; have O14 : Hid (w3.ownsRow w2.heap.size 29 3 v14 n (cells3 L)) := Lib.hid (by simpa using hown3); have hs3 : w2.heap.size + 1 ≤ w3.heap.size := (by have := hgrow3.size; simpa using this))
      | (at_builtin; refine wpList_append_own _ rfl (.tmp 14) (.tmp 17) 24 rfl w2.heap.size 29 i0 _ 3 48 Try.underlying24 hi hz0 hz1 hz2 rfl (by decide) _ _ _ rfl (O14.out.alloc _) ⟨w3.heap.size, 0, none⟩ 2 2 [.string ⟨#[107]⟩, .string ⟨#[122]⟩, .string ⟨#[120]⟩, .string ⟨#[107]⟩, .string ⟨#[122]⟩, .string ⟨#[121]⟩] rfl rfl (World.news_of_block (heap_alloc_new _ _)) (by simp [Value.oneCell']) (by unfold maxLen; omega) (by omega) (by simp; omega) ?_; intro v18 w4 hown4 hgrow4 hn4; obtain ⟨g5, cp5, rfl, hc5, hc6⟩ := own_some hown4 (fun e => absurd (hn4.1 e).2 (by decide))))
    have O18 : Hid (w4.ownsRow w2.heap.size 29 3 (.slice (some ⟨g5, 0, none⟩) (n + 2) cp5) (n + 2) (cells3 (L ++ [two1, two2]))) := Lib.hid (by rw [cells3_append]; exact hown4)
    have bb3 : Below w2.heap.size w2 w3 := ((Below.refl _ _).alloc (Nat.le_refl _) _).grown hgrow3 (by simp) (fun k h => by have := own_block_ge HLIT.out k h; exact this)
    have bb4 : Below w2.heap.size w2 w4 := (bb3.alloc bb3.size _).grown hgrow4 (by have := bb3.size; simp; omega) (fun k h => own_block_ge O14.out k h)
    have O44 := Lib.hid (own_below O4.out bb4)
    have O14' := Lib.hid (own_below O12.out bb4)
    have B4 : Hid (Below w.heap.size w w4) := Lib.hid (B2.out.trans (bb4.mono B2.out.size))
    clear hown3 hgrow3 hn3 hown4 hgrow4 hn4 bb3 bb4 O4 O12 HC HO HE HLIT O14
    refine (implTwice_any _ n cp L _ (srcS_of_own O14'.out) (by omega) (fun j hj => HF.out j (by have := HL.out; omega))).mono ?_
    rintro e w5 ⟨rfl, hb5⟩
    have A5 := Lib.hid (own_below O14'.out hb5)
    have M5 := Lib.hid (own_below O18.out hb5)
    have N5 := Lib.hid (own_below O44.out hb5)
    have B5 : Hid (Below w.heap.size w w5) := Lib.hid (B4.out.trans (hb5.mono B4.out.size))
    clear hb5 O14' O18 O44
    obtain ⟨cb, hcb⟩ : ∃ cb, clashB L n = cb := ⟨_, rfl⟩
    rw [hcb]
    have HCB := Lib.hid hcb
    clear hcb
    go_wp2_with fail
    refine (specTwice_any _ n cp L _ (srcS_of_own A5.out) (by omega)).mono ?_
    rw [HCB.out]
    rintro e w6 ⟨rfl, hb6⟩
    have A6 := Lib.hid (own_below A5.out hb6)
    have M6 := Lib.hid (own_below M5.out hb6)
    have N6 := Lib.hid (own_below N5.out hb6)
    have B6 : Hid (Below w.heap.size w w6) := Lib.hid (B5.out.trans (hb6.mono B5.out.size))
    have hcc : (cb == cb) = true := by cases cb <;> rfl
    clear hb6 A5 M5 N5
    go_wp2_with fail
    refine (specNonces_any _ n cp L _ (srcS_of_own A6.out) (by omega)).mono ?_
    rintro e w7 ⟨v7, rfl, hown7, hb7⟩
    have O7 := Lib.hid hown7
    have M7 := Lib.hid (own_below M6.out hb7)
    have N7 := Lib.hid (own_below N6.out hb7)
    have B7 : Hid (Below w.heap.size w w7) := Lib.hid (B6.out.trans (hb7.mono B6.out.size))
    have hPl : (noncesB L).length ≤ n := by have h1 := HL.out; have h2 := noncesTo_length (L := L) (k := L.length) (Nat.le_refl _); rw [noncesTo_all] at h2; omega
    clear hown7 hb7 A6 M6 N6
    go_wp2_with fail
    refine (same_own _ _ _ _ (noncesB L).length (noncesB L) w7 rfl (by omega) N7.out O7.out).mono ?_
    rintro e w7d ⟨rfl, m7, rfl⟩
    go_wp2_with fail
    refine (implTwice_any _ (n + 2) cp5 (L ++ [two1, two2]) _ (srcS_of_own (own_drewN' M7.out m7)) (by omega) (fun j hj => HF2.out j (by have := HL.out; simp; omega))).mono ?_
    rw [show n + 2 = L.length + 2 by rw [HL.out], clashB_yes (two_clash L), show L.length + 2 = n + 2 by rw [HL.out]]
    rintro e w8 ⟨rfl, hb8⟩
    have hb8' : Below w7.heap.size w7 w8 := (below_drewN _ w7 m7).trans hb8
    have M8 := Lib.hid (own_below M7.out hb8')
    have N8 := Lib.hid (own_below N7.out hb8')
    have B8 : Hid (Below w.heap.size w w8) := Lib.hid (B7.out.trans (hb8'.mono B7.out.size))
    clear hb8 hb8' M7 N7 O7
    go_wp2_with fail
    refine (implNonces_any _ (n + 2) cp5 (L ++ [two1, two2]) _ (srcS_of_own M8.out) (by omega) (fun j hj => (HF2.out j (by have := HL.out; simp; omega)).2.1)).mono ?_
    rintro e w9 ⟨v9, rfl, hown9, hb9⟩
    rw [HN.out] at hown9
    obtain ⟨a9, c9, rfl, _, _, _⟩ := own_form hown9
    obtain ⟨a4, c4, rfl, _, _, _⟩ := own_form N8.out
    have B9 : Hid (Below w.heap.size w w9) := Lib.hid (B8.out.trans (hb9.mono B8.out.size))
    clear hown9 hb9
    go_wp2
    go_ret
    exact ⟨rfl, B9.out⟩
  · go_enter Try.func3, Try.ntmps3
    go_wp2_with (go_at_call 6; go_in)
    go_ret
    exact ⟨rfl, Below.refl _ _⟩
end Go.Proofs.Ytgpjklnlchbbbaa
