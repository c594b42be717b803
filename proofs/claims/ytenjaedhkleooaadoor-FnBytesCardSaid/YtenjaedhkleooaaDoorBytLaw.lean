/- FnBytes: the law's walk, over what the program's functions return. -/
import Derived.Test.YtenjaedhkleooaaDoorDrawText
import Derived.Test.YtenjaedhkleooaaDoorDrawPlaces
import Derived.Test.YtenjaedhkleooaaDoorWordsMath
import Derived.Deep.RegionLaw
import Derived.Deep.RegionHeld3
import Derived.Deep.DeepCutAuto
namespace Go.Proofs.YtenjaedhkleooaaDoor
open Go.RowKit Go.Proofs.YtenjaedhkleooaaDoor.Parts Go.Proofs.YtenjaedhkleooaaDoor.Hexa Go.Proofs.YtenjaedhkleooaaDoor.Byt
namespace Draw

def TextPost (m : Nat) (w : World) (e : Ending) (w' : World) : Prop := ∃ t : ByteArray, e = .returned (.string t) ∧ t.size < m ∧ Below w.heap.size w w'

set_option maxHeartbeats 1000000 in
theorem drawWord_any (ad : Option Addr) (len cap : Nat) (w : World) (hlen : len ≤ 1048576) (hs : Src w w.heap.size ad len) :
    Calls Tryd.prog 9 #[.slice ad len cap] w (TextPost 11 w) := by
  have HS := Lib.hid hs
  clear hs
  go_enter Tryd.func9, Tryd.ntmps9
  go_wp2_with fail
  refine (new_any ad len cap w hlen HS.out).mono ?_
  rintro e w1 ⟨rfl, h, rfl⟩
  have C1 : Hid (Cur (w.alloc (.cells #[.slice ad len cap, .int .i64 0, .int .i64 h] 47)) w.heap.size ad len cap) := Lib.hid ⟨0, h, Nat.zero_le _, heap_alloc_new w _⟩
  have S1 : Hid (Src (w.alloc (.cells #[.slice ad len cap, .int .i64 0, .int .i64 h] 47)) w.heap.size ad len) := Lib.hid (src_grown' HS.out (grown_alloc _ _ none) (fun k e => by cases e) (Nat.le_refl _))
  have B1 : Hid (Below w.heap.size w (w.alloc (.cells #[.slice ad len cap, .int .i64 0, .int .i64 h] 47))) := Lib.hid ((Below.refl _ _).alloc (Nat.le_refl _) _)
  generalize w.alloc (.cells #[.slice ad len cap, .int .i64 0, .int .i64 h] 47) = W1 at C1 S1 B1 ⊢
  go_wp2_with fail
  refine (below_any w.heap.size ad len cap 11 W1 hlen (by decide) (by decide) C1.out S1.out).mono ?_
  rintro e w2 ⟨x, x0, x1, rfl, hc2, hg2⟩
  obtain ⟨n, rfl⟩ : ∃ n : Nat, x = n := ⟨x.toNat, by omega⟩
  have S2 := Lib.hid (src_grown S1.out hg2 (cur_lt C1.out))
  have C2 := Lib.hid hc2
  have B2 := Lib.hid (B1.out.grown hg2 (B1.out.size) (fun k e => by simp at e; omega))
  clear hc2 hg2 C1 S1 B1
  go_wp2_with fail
  refine (text_any w.heap.size ad len cap n w2 hlen (by omega) C2.out S2.out).mono ?_
  rintro e w3 ⟨v, ⟨a, rfl, ha⟩, rfl, hc3, hg3⟩
  have B3 := Lib.hid (B2.out.grown hg3 (B2.out.size) (fun k e => by simp at e; omega))
  clear hc3 hg3 C2 S2 B2
  go_wp2
  go_ret
  exact ⟨a, rfl, by omega, B3.out⟩
end Draw

namespace Fby
open Draw
/-- What the words of a text of at most 16 bytes are. -/
theorem words_none (t : ByteArray) (h : t.size = 0) : wordsL t = [] := by
  unfold wordsL wordsN; rw [h]; rfl
theorem words_one (t : ByteArray) (h : 0 < t.size) (h8 : t.size ≤ 8) : wordsL t = [wordB t] := by
  have e : wordsN t = 1 := by unfold wordsN; omega
  unfold wordsL; rw [e]
  have h1 : t.extract 0 t.size = t := ByteArray.extract_zero_size
  simp [wordAt, List.range_succ, Nat.min_eq_right h8, h1]
theorem words_two (t : ByteArray) (h : 8 < t.size) (h8 : t.size ≤ 16) : wordsL t = [wordB (t.extract 0 8), wordB (t.extract 8 t.size)] := by
  have e : wordsN t = 2 := by unfold wordsN; omega
  unfold wordsL; rw [e]
  simp [wordAt, List.range_succ, Nat.min_eq_left (show 8 ≤ t.size by omega), Nat.min_eq_right h8]
theorem wordB_of (s : ByteArray) (h : s.size ≤ 8) : wordB s = s ++ longB (8 - s.size) 0 := if_pos h
theorem wordB_size (s : ByteArray) (h : s.size ≤ 8) : (wordB s).size = 8 := by
  rw [wordB_of s h, ByteArray.size_append, longB_size]; omega
theorem all_two (t : ByteArray) (h : 8 < t.size) (h8 : t.size ≤ 16) : wordB (t.extract 0 8) ++ wordB (t.extract 8 t.size) = t ++ longB (16 - t.size) 0 := by
  have e1 : (t.extract 0 8).size = 8 := by rw [ByteArray.size_extract]; omega
  have e2 : (t.extract 8 t.size).size = t.size - 8 := by rw [ByteArray.size_extract]; omega
  have e3 : longB (8 - 8) 0 = ByteArray.empty := rfl
  rw [wordB_of _ (by omega), wordB_of _ (by omega), e1, e2, e3, ByteArray.append_empty, ← ByteArray.append_assoc]
  have e4 : t.extract 0 8 ++ t.extract 8 t.size = t := by
    rw [ByteArray.extract_append_extract]; simp [Nat.min_eq_left, Nat.max_eq_right (show 8 ≤ t.size by omega)]
  rw [e4, show 8 - (t.size - 8) = 16 - t.size by omega]
theorem head_of (t z : ByteArray) : (t ++ z).extract 0 t.size = t := by
  simp [ByteArray.extract_append]
/-- A number's bytes say it. -/
theorem numV_num (m k : Nat) (h : m < 256 ^ k) : numV (numL m k k) = m := by
  have H : ∀ j, j ≤ k → numV (numL m k j) = m / 256 ^ (k - j) := by
    intro j
    induction j with
    | zero => intro _; rw [Nat.sub_zero, Nat.div_eq_of_lt h]; rfl
    | succ j ih =>
      intro hj
      rw [← numL_next, numV_snoc, ih (by omega), UInt8.toNat_ofNat']
      have e : k - j = (k - 1 - j) + 1 := by omega
      rw [e, Nat.pow_succ, ← Nat.div_div_eq_div_mul, show k - (j + 1) = k - 1 - j by omega]
      have := Nat.div_add_mod (m / 256 ^ (k - 1 - j)) 256
      omega
  have := H k (Nat.le_refl _)
  simpa using this
theorem cut_behind (d s : ByteArray) : cutL (d ++ s) d.size s.size = s.data.toList := by
  have h1 : d.data.toList.length = d.size := by simp
  have h2 : s.data.toList.length = s.size := by simp
  unfold cutL
  rw [ByteArray.data_append, Array.toList_append, List.drop_append_of_le_length (by omega), List.drop_of_length_le (by omega), List.nil_append, List.take_of_length_le (by omega)]
def catL (l : List ByteArray) : ByteArray := l.foldl (· ++ ·) ByteArray.empty
theorem catL_next (P : List ByteArray) (k : Nat) (h : k < P.length) : catL (P.take k) ++ P[k] = catL (P.take (k + 1)) := by
  unfold catL
  rw [List.take_succ_eq_append_getElem h, List.foldl_append]; rfl
theorem words_cat (t : ByteArray) (h : t.size ≤ 10) : catL (wordsL t) = t ++ longB (8 * wordsN t - t.size) 0 := by
  by_cases h0 : t.size = 0
  · rw [words_none t h0]
    have ht : t = ByteArray.empty := ByteArray.size_eq_zero_iff.1 h0
    have hn : wordsN t = 0 := by unfold wordsN; rw [h0]
    rw [hn, ht]; rfl
  · by_cases h8 : t.size ≤ 8
    · have hn : wordsN t = 1 := by unfold wordsN; omega
      rw [words_one t (by omega) h8, hn]
      show ByteArray.empty ++ wordB t = _
      rw [ByteArray.empty_append, wordB_of t h8]
    · have hn : wordsN t = 2 := by unfold wordsN; omega
      rw [words_two t (by omega) (by omega), hn]
      show ByteArray.empty ++ _ ++ _ = _
      rw [ByteArray.empty_append, all_two t (by omega) (by omega)]
theorem words_size (t : ByteArray) (k : Nat) (h : k < (wordsL t).length) : ((wordsL t)[k]).size = 8 := by
  have hk : k < wordsN t := by rwa [wordsL_length] at h
  have e : (wordsL t)[k] = wordAt t k := by simp [wordsL]
  rw [e]
  unfold wordAt
  refine wordB_size _ ?_
  rw [ByteArray.size_extract]; omega
theorem below_draws {B : Nat} {a w : World} (h : Below B a w) (m : Nat) : Below B a (w.drewN m) := ⟨h.os, h.tape, h.output, h.size, h.block⟩

theorem src_up {w : World} {B C : Nat} {ad : Option Addr} {len : Nat} (h : Draw.Src w B ad len) (hc : B ≤ C) : Draw.Src w C ad len := by
  intro i hi
  obtain ⟨b, off, z, h1, h2, h3, h4, h5⟩ := h i hi
  exact ⟨b, off, z, h1, by omega, h3, h4, h5⟩
theorem num_four (n : Nat) (h : n < 256 ^ 4) : numTextB (n : Int) 4 = numB n 4 := by
  unfold numTextB
  rw [if_pos ⟨by omega, by decide, by have e : ((256 : Int) ^ (4 : Int).toNat) = ((256 ^ 4 : Nat) : Int) := by decide
                                      rw [e]; omega⟩]
  simp
theorem numB_size (n k : Nat) : (numB n k).size = k := by
  show (numL n k k).toArray.size = k
  rw [List.size_toArray, numL_length]
theorem num_there (d : ByteArray) (n : Nat) (h : n < 256 ^ 4) : numAtV (d ++ numB n 4) d.size 4 = n ∧ numAtB (d ++ numB n 4) d.size 4 = true := by
  have hs : (d ++ numB n 4).size = d.size + 4 := by rw [ByteArray.size_append, numB_size]
  refine ⟨?_, ?_⟩
  · unfold numAtV
    rw [if_pos ⟨by omega, by omega⟩]
    have e := cut_behind d (numB n 4)
    rw [numB_size] at e
    show ((numV (cutL (d ++ numB n 4) d.size 4) : Nat) : Int) = n
    rw [e, show (numB n 4).data.toList = numL n 4 4 by simp [numB], numV_num n 4 h]
  · exact decide_eq_true ⟨by omega, by omega⟩
theorem num_not (d : ByteArray) (n : Nat) : numAtB (d ++ numB n 4) ((d.size : Int) + 1) 4 = false := by
  have hs : (d ++ numB n 4).size = d.size + 4 := by rw [ByteArray.size_append, numB_size]
  exact decide_eq_false (fun h => by omega)

set_option maxRecDepth 100000 in
set_option maxHeartbeats 8000000 in
theorem bytes_law_of (ad : Option Addr) (len cap : Nat) (w : World) (hlen : len ≤ 1048576) (hs : Draw.Src w w.heap.size ad len)
    (h1 : ∀ (n k : Int) (w : World), 0 ≤ n → n ≤ 1000000000 → Calls Tryd.prog 6 #[.int .i64 n, .int .i64 k] w fun e w' => e = .returned (.string (numTextB n k)) ∧ Below w.heap.size w w')
    (h2 : ∀ (n : Int) (w' : World), 0 ≤ n → n < 10000 → Below w.heap.size w w' → Calls Tryd.prog 7 #[.int .i64 n] w' fun e w2 => ∃ d : ByteArray, d.size ≤ 4 ∧ e = .returned (.string d) ∧ Below w'.heap.size w' w2)
    (h3 : ∀ (s : ByteArray) (a k : Int) (w : World), s.size ≤ 1000 → 0 ≤ k → k ≤ 8 → Calls Tryd.prog 8 #[.string s, .int .i64 a, .int .i64 k] w fun e w' => e = .returned (.tuple #[.int .i64 (numAtV s a k), .bool (numAtB s a k)]) ∧ Below w.heap.size w w')
    (h4 : ∀ (s : ByteArray) (w : World), s.size ≤ 1000 → Calls Tryd.prog 10 #[.string s] w (GivesT (wordsL s) w))
    (h5 : ∀ (s : ByteArray) (w : World), s.size ≤ 1000 → Calls Tryd.prog 11 #[.string s] w fun e w' => e = .returned (.string (wordB s)) ∧ Below w.heap.size w w') :
    Calls Tryd.prog 3 #[.slice ad len cap] w fun e w' => e = .returned (.bool true) ∧ Below w.heap.size w w' := by
  have HS := Lib.hid hs
  have H1 := Lib.hid h1
  have H2 := Lib.hid h2
  have H3 := Lib.hid h3
  have H4 := Lib.hid h4
  have H5 := Lib.hid h5
  clear hs h1 h2 h3 h4 h5
  go_enter Tryd.func3, Tryd.ntmps3
  go_wp2_with (go_at_call 4; go_in)
  refine (Draw.places_any ad len cap w hlen HS.out).mono ?_
  rintro e w1 ⟨v1, xs, hxl, hxb, rfl, hown, hb1⟩
  obtain ⟨ad1, cap1, rfl, hcm, hcn, hr⟩ := Parts.own_form hown
  obtain ⟨g, hg, hgx⟩ := hr 0 (by simp [Draw.icells, hxl])
  clear hgx
  subst hg
  match xs, hxl with
  | [x0, x1, x2, x3, p4, p5, p6, p7, p8, p9, p10, p11], _ =>
    have d0 := hxb x0 (by simp)
    have d1 := hxb x1 (by simp)
    have d3 := hxb x3 (by simp)
    have hgb : g < w1.heap.size := by
      rcases hown.2 with ⟨h, _⟩ | ⟨g', cap', cur, h, _, hh, _⟩
      · simp at h
      · simp at h; obtain ⟨rfl, _⟩ := h; exact (Array.getElem?_eq_some_iff.1 hh).1
    have c0 := hown.cellAt 0 (by decide)
    have c1 := hown.cellAt 1 (by decide)
    have c3 := hown.cellAt 3 (by decide)
    simp [Draw.icells] at c0 c1 c3
    have C3 := Lib.hid c3
    have B1 := Lib.hid hb1
    clear hown hb1 hxb hr hcm hcn c3
    have q1 : IntKind.i64.wrap (x0 * 10000) = x0 * 10000 := IntWalk.i64_in _ (by omega)
    have q2 : IntKind.i64.wrap (x0 * 10000 + x1) = x0 * 10000 + x1 := IntWalk.i64_in _ (by omega)
    go_wp2_with fail
    go_quiet (fail)
    clear q1 q2 c0 c1
    obtain ⟨n, hn⟩ : ∃ n : Nat, x0 * 10000 + x1 = n := ⟨(x0 * 10000 + x1).toNat, by omega⟩
    have hnb : n < 256 ^ 4 := by omega
    rw [hn]
    have hs4 := And.intro (num_four n hnb) (numB_size n 4)
    have HH := Lib.hid (And.intro hs4.1 (And.intro hs4.2 hnb))
    clear hs4 hnb
    go_wp2_with fail
    refine (H1.out n 4 _ (by omega) (by omega)).mono ?_
    rintro e w2 ⟨rfl, hb2⟩
    have B2 : Hid (Below w.heap.size w w2) := Lib.hid ((below_draws B1.out nq).trans (hb2.mono B1.out.size))
    have c3 : w2.cell? ⟨g, 3, none⟩ = some (.int .i64 x3) := (hb2.cell (p := ⟨g, 3, none⟩) hgb).trans C3.out
    rw [HH.out.1]
    clear hb2 C3 hgb
    go_wp2_with fail
    refine (H2.out x3 w2 d3.1 d3.2 B2.out).mono ?_
    rintro e w3 ⟨d, hd, rfl, hb3⟩
    clear c3
    have B3 : Hid (Below w.heap.size w w3) := Lib.hid (B2.out.trans (hb3.mono B2.out.size))
    clear hb3
    have hf := num_there d n HH.out.2.2
    have hg2 := num_not d n
    have hSs := HH.out.2.1
    generalize numB n 4 = S at hf hg2 hSs
    clear HH
    have hcat : (d ++ S).size = d.size + 4 := by rw [ByteArray.size_append, hSs]
    have r1 := H3.out (d ++ S) d.size 4 w3 (by omega) (by omega) (by omega)
    rw [hf.1, hf.2] at r1
    have R1 := Lib.hid r1
    have R2 : Hid (∀ w, Calls Tryd.prog 8 #[.string (d ++ S), .int .i64 ((d.size : Int) + 1), .int .i64 4] w fun e w' => (∃ z, e = .returned (.tuple #[.int .i64 z, .bool false])) ∧ Below w.heap.size w w') :=
      Lib.hid (fun w => (H3.out (d ++ S) ((d.size : Int) + 1) 4 w (by omega) (by omega) (by omega)).mono fun e w' h => ⟨⟨numAtV (d ++ S) ((d.size : Int) + 1) 4, by rw [h.1, hg2]⟩, h.2⟩)
    clear hf hg2 r1 H3
    have hds : ¬ (9223372036854775807 < d.size + S.size) := by omega
    go_wp2_with fail
    refine R1.out.mono ?_
    rintro e w4 ⟨rfl, hb4⟩
    have B4 : Hid (Below w.heap.size w w4) := Lib.hid (B3.out.trans (hb4.mono B3.out.size))
    clear hb4
    go_wp2_with fail
    refine (R2.out _).mono ?_
    rintro e w5 ⟨⟨z, rfl⟩, hb5⟩
    have B5 : Hid (Below w.heap.size w w5) := Lib.hid (B4.out.trans (hb5.mono B4.out.size))
    clear hb5
    have S5 := Lib.hid (Draw.src_below HS.out B5.out (Nat.le_refl _))
    go_wp2_with fail
    refine (Draw.drawWord_any ad len cap w5 hlen ?_).mono ?_
    · exact src_up S5.out B5.out.size
    rintro e w6 ⟨t, rfl, ht, hb6⟩
    have B6 : Hid (Below w.heap.size w w6) := Lib.hid (B5.out.trans (hb6.mono B5.out.size))
    clear hb6 S5 HS
    have G4 := Lib.hid (H4.out t w6 (by omega))
    have WC := Lib.hid (words_cat t (by omega))
    have WS := Lib.hid (words_size t)
    have WO : Hid (0 < t.size → t.size ≤ 8 → catL (wordsL t) = wordB t) := Lib.hid (fun a b => by rw [words_one t a b]; show ByteArray.empty ++ wordB t = _; rw [ByteArray.empty_append])
    have WN : Hid ((wordsL t).length = wordsN t ∧ wordsN t = (t.size + 7) / 8) := Lib.hid ⟨wordsL_length t, rfl⟩
    have hw5 := H5.out t
    have R5 := Lib.hid hw5
    clear H4 hw5 H5
    go_wp2_with fail
    refine G4.out.mono ?_
    rintro e w7 ⟨v7, rfl, hown7, hb7⟩
    obtain ⟨ad7, cap7, rfl, hcm7, hcn7, hr7⟩ := Parts.own_form hown7
    have B7 : Hid (Below w.heap.size w w7) := Lib.hid (B6.out.trans (hb7.mono B6.out.size))
    have O7 := Lib.hid hown7
    clear hb7 hown7 G4
    generalize wordsL t = P at WC WS WN WO O7 hr7 ⊢
    obtain ⟨m, hm⟩ : ∃ m, P.length = m := ⟨_, rfl⟩
    have hm2 : m = wordsN t := by rw [← hm]; exact WN.out.1
    have hm3 : m ≤ 2 := by have := WN.out.2; omega
    have HM := Lib.hid hm
    have HM2 := Lib.hid hm2
    rw [hm]
    clear hm2
    go_wp2_with fail
    go_loopw [13, 14] (fun av iv wr => ∃ (k q : Nat) (A : ByteArray), k ≤ m ∧ iv = .int .i64 k ∧ av = .string A ∧ A.size = 8 * k ∧ Hid (A = catL (P.take k)) ∧ wr = w7.drewN q)
      (fun _ iv _ => m - (intOf iv).toNat)
    case atStart => exact ⟨0, 0, ByteArray.empty, Nat.zero_le _, rfl, rfl, rfl, Lib.hid rfl, rfl⟩
    case round =>
      obtain ⟨k, q, A, hk, rfl, rfl, hA, HA, rfl⟩ := hrel
      by_cases hlt : k < m
      · obtain ⟨g7, hg7, hc⟩ := hr7 k (by simp [scells]; omega)
        subst hg7
        have hkP : k < P.length := by omega
        have hcc : (w7.drewN q).cell? ⟨g7, k, none⟩ = some (.string (P[k]'hkP)) := by
          show w7.cell? ⟨g7, k, none⟩ = _
          rw [hc]; simp [scells, hkP]
        have hz := WS.out k hkP
        have HN := Lib.hid (catL_next P k hkP)
        obtain ⟨X, hX⟩ : ∃ X, P[k]'hkP = X := ⟨_, rfl⟩
        rw [hX] at hcc hz HN
        have hno : ¬ (9223372036854775807 < A.size + X.size) := by omega
        clear hc hX
        go_wp2
        go_roundw
        case rel => exact ⟨k + 1, q, A ++ X, by omega, by go_num, rfl, by rw [ByteArray.size_append]; omega, Lib.hid (by rw [HA.out]; exact HN.out), rfl⟩
        case measure => (simp [intOf]; omega)
      · obtain rfl : k = m := by omega
        have hAP : A = catL P := by rw [HA.out, ← HM.out, List.take_length]
        have hcut : A.extract 0 t.size = t := by rw [hAP, WC.out]; exact head_of t _
        have hWO : 0 < t.size → t.size ≤ 8 → A = wordB t := fun a b => by rw [hAP]; exact WO.out a b
        have hAs : A.size = 8 * ((t.size + 7) / 8) := by rw [hA, HM2.out]; rfl
        have hwn : wordsN t = (t.size + 7) / 8 := rfl
        have h256 := H1.out 256 1 (w7.drewN q) (by omega) (by omega)
        have e256 : numTextB 256 1 = ⟨#[]⟩ := by decide
        rw [e256] at h256
        have H6 := Lib.hid h256
        have BF : Hid (Below w.heap.size w (w7.drewN q)) := Lib.hid (below_draws B7.out q)
        clear h256 e256 H1 HA hAP WC WS WN O7 hr7 HM B7 B6 B5 B4 B3 B2 B1 hA HM2 hwn hm
        by_cases t0 : t.size = 0
        · have a1 : A.size = 0 := by omega
          have hl : t.toList = [] := by rw [ByteArray.size_eq_zero_iff.1 t0, Go.ByteArray.toList_eq]; rfl
          clear hWO hAs WO R5
          go_wp2_with fail
          refine H6.out.mono ?_
          rintro e w8 ⟨rfl, hb8⟩
          go_wp2
          go_ret
          exact ⟨rfl, BF.out.trans (hb8.mono BF.out.size)⟩
        · by_cases t8 : t.size ≤ 8
          · have a1 : A.size = 8 := by omega
            have R6 : Hid (∀ w, Calls Tryd.prog 11 #[.string t] w fun e w' => e = .returned (.string A) ∧ Below w.heap.size w w') := Lib.hid (fun w => by rw [hWO (by omega) t8]; exact R5.out w (by omega))
            clear hWO hAs WO R5
            go_wp2_with fail
            refine H6.out.mono ?_
            rintro e w8 ⟨rfl, hb8⟩
            go_wp2_with fail
            refine (R6.out _).mono ?_
            rintro e w9 ⟨rfl, hb9⟩
            go_wp2
            go_ret
            have b8 := BF.out.trans (hb8.mono BF.out.size)
            exact ⟨rfl, b8.trans (hb9.mono b8.size)⟩
          · have a1 : A.size = 16 := by omega
            clear hWO hAs WO R5
            go_wp2_with fail
            refine H6.out.mono ?_
            rintro e w8 ⟨rfl, hb8⟩
            go_wp2
            go_ret
            exact ⟨rfl, BF.out.trans (hb8.mono BF.out.size)⟩

set_option maxRecDepth 100000 in
theorem bytes_big (ad : Option Addr) (len cap : Nat) (w : World) (hlen : 1048576 < len) :
    Calls Tryd.prog 3 #[.slice ad len cap] w fun e w' => e = .returned (.bool true) ∧ Below w.heap.size w w' := by
  go_enter Tryd.func3, Tryd.ntmps3
  go_wp2_with (go_at_call 4; go_in)
  go_ret
  exact ⟨rfl, Below.refl _ _⟩
end Fby
end Go.Proofs.YtenjaedhkleooaaDoor
