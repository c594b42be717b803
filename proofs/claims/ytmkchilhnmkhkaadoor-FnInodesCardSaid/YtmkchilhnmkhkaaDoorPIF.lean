/- Merged texts: DrawText, Draw12, Draw12B, AppE, App12, PrevMath. -/
import Derived.Test.YtmkchilhnmkhkaaDoorPIE
import Derived.Maps.AppendAt
import Derived.Lib.AppendZeros
import Derived.Lib.SliceRun
import Derived.Deep.AppendLies
namespace Go.Proofs.YtmkchilhnmkhkaaDoor
open Go.RowKit Go.Proofs.YtmkchilhnmkhkaaDoor.Hexa Go.Proofs.YtmkchilhnmkhkaaDoor.Byt
namespace Draw

theorem bytes_kept {w w' : World} {B e c : Nat} {v : Value} {l : List UInt8} (h : Bytes w B e v l) (hg : w.grownBy w' (some c)) (hc : c < B) : Bytes w' B e v l := by
  rcases h with h | ⟨g, cap, cur, fz, hv, hb, hh, r⟩
  · exact .inl h
  · exact .inr ⟨g, cap, cur, fz, hv, hb, by rw [hg.block g (Array.getElem?_eq_some_iff.1 hh).1 (fun e => by simp at e; omega)]; exact hh, r⟩
theorem byte_of (x : Int) (h0 : 0 ≤ x) (h1 : x ≤ 255) : x = ((UInt8.ofNat x.toNat).toNat : Int) := by
  rw [UInt8.toNat_ofNat']; omega

set_option maxRecDepth 100000 in
set_option maxHeartbeats 1000000 in
theorem text_any (c : Nat) (ad : Option Addr) (len cap n : Nat) (w : World) (hlen : len ≤ 1048576) (hn : n ≤ 5000) (hc : Cur w c ad len cap) (hs : Src w c ad len) :
    Calls Tryd.prog 138 #[.pointer (some ⟨c, 0, none⟩), .int .i64 n] w (DrawPost (fun v => ∃ t : ByteArray, v = .string t ∧ t.size = n) w c ad len cap) := by
  have HC := Lib.hid hc
  have HS := Lib.hid hs
  have hlt0 := cur_lt hc
  clear hc hs
  have HC0 : Hid (Cur (w.alloc (.cells #[] 5)) c ad len cap) := Lib.hid (cur_grown HC.out (grown_alloc _ _ none) (by simp))
  have HS0 : Hid (Src (w.alloc (.cells #[] 5)) c ad len) := Lib.hid (src_grown' HS.out (grown_alloc _ _ none) (fun k e => by cases e) (by omega))
  have HG0 : Hid (w.grownBy (w.alloc (.cells #[] 5)) (some c)) := Lib.hid (grown_alloc _ _ _)
  have HB0 : Hid (Bytes (w.alloc (.cells #[] 5)) w.heap.size 5 (.slice (some ⟨w.heap.size, 0, none⟩) 0 0) []) := Lib.hid (bytes_of_own (l := []) (World.ownsRow_lit w #[] 0 (Nat.le_refl _) (by decide) rfl))
  go_enter Tryd.func138, Tryd.ntmps138
  go_wp2
  go_loopw [5, 6] (fun v iv wr => ∃ (k : Nat) (l : List UInt8), k ≤ n ∧ iv = .int .i64 k ∧ l.length = k ∧ Hid (Bytes wr w.heap.size 5 v l) ∧ Hid (Cur wr c ad len cap) ∧ Hid (Src wr c ad len) ∧ Hid (w.grownBy wr (some c)))
    (fun _ iv _ => n - (intOf iv).toNat)
  case atStart => exact ⟨0, [], Nat.zero_le _, rfl, rfl, HB0, HC0, HS0, HG0⟩
  case round =>
    clear HC0 HS0 HG0 HB0
    obtain ⟨k, l, hk, rfl, hl, HB, HCr, HSr, HGr⟩ := hrel
    by_cases hlt : k < n
    · go_wp2_with fail
      refine (byte_any c ad len cap wr hlen HCr.out HSr.out).mono ?_
      rintro e w1 ⟨x, x0, x1, rfl, hc1, hg1⟩
      have HB1 := Lib.hid (bytes_kept HB.out hg1 hlt0)
      have HC1 := Lib.hid hc1
      have HS1 := Lib.hid (src_grown HSr.out hg1 (cur_lt HCr.out))
      have HG1 := Lib.hid (grownBy_trans HGr.out hg1)
      have hsz : w.heap.size ≤ w1.heap.size := HG1.out.size
      clear hc1 hg1
      go_wp2_with (at_builtin; refine wpList_append_out rfl (.tmp 15) (.tmp 19) 22 22 rfl _ _ rfl rfl (outB w1 HB1.out hsz _ (UInt8.ofNat x.toNat) _ (byte_of x x0 x1) (by omega)) ?_; intro v2 w2 hb2 hg2)
      have C2 := Lib.hid (cur_below (cur_grown HC1.out (grown_alloc _ _ none) (by simp)) hg2 hlt0)
      have S2 := Lib.hid (src_below (src_grown' HS1.out (grown_alloc _ _ none) (fun k e => by cases e) (by omega)) hg2 (by omega))
      have G2 := Lib.hid (grown_below (grownBy_trans HG1.out (grown_alloc _ _ _)) hg2 (Nat.le_refl _))
      have HB2 := Lib.hid hb2
      clear hb2 hg2
      go_wp2
      go_roundw
      case rel => exact ⟨k + 1, _, by omega, by go_num, by simp [hl], HB2, C2, S2, G2⟩
      case measure => (simp [intOf]; try omega)
    · obtain rfl : k = n := by omega
      have hconv := bytes_string (P := Tryd.prog) 22 9 Tryd.underlying22 Tryd.underlying5 Tryd.underlying9 HB.out
      go_wp2
      go_ret
      exact ⟨_, ⟨_, rfl, by show l.toArray.size = k; simp [hl]⟩, rfl, HCr.out, HGr.out⟩

end Draw
end Go.Proofs.YtmkchilhnmkhkaaDoor
namespace Go.Proofs.YtmkchilhnmkhkaaDoor
open Go.RowKit Go.Proofs.YtmkchilhnmkhkaaDoor.Hexa Go.Proofs.YtmkchilhnmkhkaaDoor.Byt
namespace Draw

set_option maxRecDepth 100000 in
set_option maxHeartbeats 400000 in
theorem once12_any (c : Nat) (ad : Option Addr) (len cap : Nat) (n : Int) (w : World) (hlen : len ≤ 1048576) (hn : 0 < n) (hn2 : n ≤ 256) (hc : Cur w c ad len cap) (hs : Src w c ad len) :
    Calls Tryd.prog 102 #[.pointer (some ⟨c, 0, none⟩), .int .i64 n] w (DrawPost (fun v => ∃ b : Bool, v = .bool b) w c ad len cap) := by
  have HC := Lib.hid hc
  have HS := Lib.hid hs
  clear hc hs
  go_enter Tryd.func102, Tryd.ntmps102
  go_wp2_with fail
  refine (below_small c ad len cap n w hlen hn hn2 HC.out HS.out).mono ?_
  rintro e w1 ⟨x, x0, x1, rfl, hc1, hg1⟩
  have C1 := Lib.hid hc1
  have G1 := Lib.hid hg1
  clear hc1 hg1
  go_wp2
  go_ret
  exact ⟨_, ⟨_, rfl⟩, rfl, C1.out, G1.out⟩

/-- A block that lies beside the cursor's stays through the draws. -/
theorem bk_kept {w w' : World} {b c : Nat} {cs : Array Value} {t : TypeId} (h : Bk w b cs t) (hg : w.grownBy w' (some c)) (hne : ¬ c = b) : Bk w' b cs t := h.grown hg (fun e => hne (Option.some.inj e))

/-- Cells of a new block written: the cursor stays, nothing else of the old world is written. -/
theorem set_kept {w w' : World} {c : Nat} {ad : Option Addr} {len cap : Nat} (b j : Nat) (v : Value) (hc : Cur w' c ad len cap) (hg : w.grownBy w' (some c)) (hne : ¬ c = b) (hb : w.heap.size ≤ b) : Cur (w'.setCell ⟨b, j, none⟩ v) c ad len cap ∧ w.grownBy (w'.setCell ⟨b, j, none⟩ v) (some c) := by
  refine ⟨?_, hg.os, hg.tape, hg.output, by simpa using hg.size, fun i hi hr => ?_⟩
  · obtain ⟨i, h, hi, hh⟩ := hc
    exact ⟨i, h, hi, by rw [Below.heap_setCell _ _ _ _ (by simpa using hne)]; exact hh⟩
  · rw [Below.heap_setCell _ _ _ _ (by show i ≠ b; omega)]
    exact hg.block i hi hr
theorem sets_kept {w : World} {c : Nat} {ad : Option Addr} {len cap : Nat} (b : Nat) : ∀ (j : Nat) (vs : List Value) {w' : World}, Cur w' c ad len cap → w.grownBy w' (some c) → ¬ c = b → w.heap.size ≤ b → Cur (w'.setCells b j vs) c ad len cap ∧ w.grownBy (w'.setCells b j vs) (some c)
  | _, [], _, hc, hg, _, _ => ⟨hc, hg⟩
  | j, v :: r, _, hc, hg, hne, hb => by
    obtain ⟨h1, h2⟩ := set_kept b j v hc hg hne hb
    exact sets_kept b (j + 1) r h1 h2 hne hb

theorem rec_ok {p q : Int} {m : ByteArray} (h0 : 0 ≤ p) (h1 : p < 12) (h2 : 0 ≤ q) (h3 : q < 200) (h4 : m.size = 4) : RecOk ⟨1 + p, 1 + q, m⟩ := by
  refine ⟨?_, ?_, h4⟩
  · show 1 ≤ 1 + p ∧ 1 + p ≤ 12
    omega
  · show 1 ≤ 1 + q ∧ 1 + q ≤ 16777215
    omega

/-- A drawn record. -/
def RecPost (P : RecR → Prop) (w : World) (c : Nat) (ad : Option Addr) (len cap : Nat) (e : Ending) (w' : World) : Prop :=
  ∃ p q m, P ⟨p, q, m⟩ ∧ e = .returned (.agg #[.int .i64 p, .int .i64 q, .string m]) ∧ Cur w' c ad len cap ∧ w.grownBy w' (some c)

set_option maxRecDepth 100000 in
set_option maxHeartbeats 1000000 in
theorem rec12_any (c : Nat) (ad : Option Addr) (len cap : Nat) (w : World) (hlen : len ≤ 1048576) (hc : Cur w c ad len cap) (hs : Src w c ad len) :
    Calls Tryd.prog 154 #[.pointer (some ⟨c, 0, none⟩)] w (RecPost RecOk w c ad len cap) := by
  have hlt := cur_lt hc
  have ga := grown_alloc w (.cells #[.int .i64 0, .int .i64 0, .string ⟨#[]⟩] 66) (some c)
  have C0 := Lib.hid (cur_grown hc (grown_alloc w (.cells #[.int .i64 0, .int .i64 0, .string ⟨#[]⟩] 66) none) (by simp))
  have S0 := Lib.hid (src_grown hs ga hlt)
  have R0 := Lib.hid (Bk.alloc w #[.int .i64 0, .int .i64 0, .string ⟨#[]⟩] 66)
  have G0 := Lib.hid ga
  have HCN : Hid (¬ c = w.heap.size) := Lib.hid (by omega)
  clear hc hs ga
  go_enter Tryd.func154, Tryd.ntmps154
  go_wp2_with fail
  refine (below_small c ad len cap 12 _ hlen (by decide) (by decide) C0.out S0.out).mono ?_
  rintro e w1 ⟨p, p0, p1, rfl, hc1, hg1⟩
  have S1 := Lib.hid (src_grown S0.out hg1 (cur_lt C0.out))
  have C1 := Lib.hid hc1
  have G1 := Lib.hid (grownBy_trans G0.out hg1)
  have R1 := Lib.hid (bk_kept R0.out hg1 HCN.out)
  clear hc1 hg1
  go_wp2_with fail
  refine (below_small c ad len cap 200 _ hlen (by decide) (by decide) C1.out S1.out).mono ?_
  rintro e w2 ⟨q, u0, u1, rfl, hc2, hg2⟩
  have S2 := Lib.hid (src_grown S1.out hg2 (cur_lt C1.out))
  have C2 := Lib.hid hc2
  have G2 := Lib.hid (grownBy_trans G1.out hg2)
  have R2 := Lib.hid (bk_kept R1.out hg2 HCN.out)
  clear hc2 hg2
  go_wp2_with fail
  refine (text_any c ad len cap 4 _ hlen (by decide) C2.out S2.out).mono ?_
  rintro e w3 ⟨v, ⟨m, rfl, hm⟩, rfl, hc3, hg3⟩
  have C3 := Lib.hid hc3
  have G3 := Lib.hid (grownBy_trans G2.out hg3)
  have R3 := Lib.hid (bk_kept R2.out hg3 HCN.out)
  have HM := Lib.hid hm
  clear hc3 hg3 hm
  have r0 := R3.out.cell (j := 0) rfl
  have r1 := R3.out.cell (j := 1) rfl
  have r2 := R3.out.cell (j := 2) rfl
  have f0 := R3.out.fr (o := 0)
  have f1 := R3.out.fr (o := 1)
  have f2 := R3.out.fr (o := 2)
  have qf := ((R3.out.set 0 (.int .i64 (1 + p))).set 1 (.int .i64 (1 + q))).set 2 (.string m)
  have q0 := qf.cell (j := 0) (v := .int .i64 (1 + p)) rfl
  have q1 := qf.cell (j := 1) (v := .int .i64 (1 + q)) rfl
  have q2 := qf.cell (j := 2) (v := .string m) rfl
  have RZ := Lib.hid (sets_kept w.heap.size 0 [.int .i64 (1 + p), .int .i64 (1 + q), .string m] C3.out G3.out HCN.out (Nat.le_refl _))
  clear qf
  go_wp2
  refine bodyPost_ret (v := .agg #[.int .i64 (1 + p), .int .i64 (1 + q), .string m]) ?_ rfl ⟨1 + p, 1 + q, m, rec_ok p0 p1 u0 u1 HM.out, rfl, RZ.out.1, RZ.out.2⟩
  simp [results, Tryd.results154, go_sem, q0, q1, q2]
end Draw
end Go.Proofs.YtmkchilhnmkhkaaDoor
namespace Go.Proofs.YtmkchilhnmkhkaaDoor
open Go.RowKit Go.Proofs.YtmkchilhnmkhkaaDoor.Hexa Go.Proofs.YtmkchilhnmkhkaaDoor.Byt
namespace Draw

/-- A new box beside the cursor, filled with what a draw returned. -/
theorem box_new {w w' : World} {c : Nat} {ad : Option Addr} {len cap : Nat} (cs : Array Value) (t : TypeId) (hc : Cur w' c ad len cap) (hs : Src w' c ad len) (hg : w.grownBy w' (some c)) : Cur (w'.alloc (.cells cs t)) c ad len cap ∧ Src (w'.alloc (.cells cs t)) c ad len ∧ w.grownBy (w'.alloc (.cells cs t)) (some c) ∧ Bk (w'.alloc (.cells cs t)) w'.heap.size cs t ∧ ¬ c = w'.heap.size ∧ w.heap.size ≤ w'.heap.size := by
  have hlt := cur_lt hc
  have ga := grown_alloc w' (.cells cs t) (some c)
  exact ⟨cur_grown hc (grown_alloc w' (.cells cs t) none) (by simp), src_grown hs ga hlt, grownBy_trans hg ga, Bk.alloc w' cs t, by omega, hg.size⟩

set_option maxRecDepth 100000 in
set_option maxHeartbeats 2000000 in
theorem anyRec12_any (c : Nat) (ad : Option Addr) (len cap : Nat) (w : World) (hlen : len ≤ 1048576) (hc : Cur w c ad len cap) (hs : Src w c ad len) :
    Calls Tryd.prog 136 #[.pointer (some ⟨c, 0, none⟩)] w (RecPost (fun r => r.f2.size ≤ 8) w c ad len cap) := by
  have hlt := cur_lt hc
  have ga := grown_alloc w (.cells #[.int .i64 0, .int .i64 0, .string ⟨#[]⟩] 66) (some c)
  have C0 := Lib.hid (cur_grown hc (grown_alloc w (.cells #[.int .i64 0, .int .i64 0, .string ⟨#[]⟩] 66) none) (by simp))
  have S0 := Lib.hid (src_grown hs ga hlt)
  have R0 := Lib.hid (Bk.alloc w #[.int .i64 0, .int .i64 0, .string ⟨#[]⟩] 66)
  have G0 := Lib.hid ga
  have HCN : Hid (¬ c = w.heap.size) := Lib.hid (by omega)
  have HLT := Lib.hid hlt
  clear hc hs ga
  go_enter Tryd.func136, Tryd.ntmps136
  go_wp2_with fail
  refine (rec12_any c ad len cap _ hlen C0.out S0.out).mono ?_
  rintro e w1 ⟨p, q, m, hok, rfl, hc1, hg1⟩
  have S1 := Lib.hid (src_grown S0.out hg1 (cur_lt C0.out))
  have C1 := Lib.hid hc1
  have G1 := Lib.hid (grownBy_trans G0.out hg1)
  have R1 := Lib.hid (bk_kept R0.out hg1 HCN.out)
  have HM : Hid (m.size ≤ 8) := Lib.hid (by have := hok.2.2; simp only at this; omega)
  obtain ⟨bx, hbx⟩ : ∃ b, w1.heap.size = b := ⟨_, rfl⟩
  obtain ⟨c2, s2, g2, x2, n2, z2⟩ := box_new #[.int .i64 p, .int .i64 q, .string m] 66 C1.out S1.out G1.out
  have R2 := Lib.hid (R1.out.later (below_bk w1 (.cells #[.int .i64 p, .int .i64 q, .string m] 66)))
  rw [hbx] at x2 n2 z2
  have C2 := Lib.hid c2
  have S2 := Lib.hid s2
  have G2 := Lib.hid g2
  have X2 := Lib.hid x2
  have HCX := Lib.hid n2
  have HWX : Hid (w.heap.size < bx) := Lib.hid (by have := R1.out.lt; omega)
  have hb1 : ¬ bx = w.heap.size := by have := HWX.out; omega
  have hb2 : ¬ w.heap.size = bx := by have := HWX.out; omega
  clear hc1 hg1 hok c2 s2 g2 x2 n2 z2
  go_wp2_with fail
  obtain ⟨w2, h2⟩ : ∃ x, x = w1.alloc (.cells #[.int .i64 p, .int .i64 q, .string m] 66) := ⟨_, rfl⟩
  rw [← h2] at C2 S2 G2 X2 R2 ⊢
  clear h2 hbx
  refine (below_small c ad len cap 8 _ hlen (by decide) (by decide) C2.out S2.out).mono ?_
  rintro e w3 ⟨x, x0, x1, rfl, hc3, hg3⟩
  have S3 := Lib.hid (src_grown S2.out hg3 (cur_lt C2.out))
  have C3 := Lib.hid hc3
  have G3 := Lib.hid (grownBy_trans G2.out hg3)
  have R3 := Lib.hid (bk_kept R2.out hg3 HCN.out)
  have X3 := Lib.hid (bk_kept X2.out hg3 HCX.out)
  clear hc3 hg3 x0 x1
  by_cases h0 : x = 0
  · subst h0
    go_wp2_with fail
    refine (pickNum_new c ad len cap 3 [0, 13, -1] _ _ w3 rfl hlen (by decide) (by decide) rfl C3.out S3.out).mono ?_
    rintro e w4 ⟨z, _, rfl, hc4, hg4⟩
    have S4 := Lib.hid (src_grown S3.out hg4 (cur_lt C3.out))
    have C4 := Lib.hid hc4
    have G4 := Lib.hid (grownBy_trans G3.out hg4)
    have R4 := Lib.hid (bk_kept R3.out hg4 HCN.out)
    have X4 := Lib.hid (bk_kept X3.out hg4 HCX.out)
    have y := X4.out.cell (j := 0) rfl
    have fy := X4.out.fr (o := 0)
    have hk5 := set_kept bx 0 (.int .i64 z) C4.out G4.out HCX.out (Nat.le_of_lt HWX.out)
    have C5 := Lib.hid hk5.1
    have G5 := Lib.hid hk5.2
    have X5 := Lib.hid (X4.out.set 0 (.int .i64 z))
    have R5 := Lib.hid (R4.out.other (c := bx) (o := 0) (by have := HWX.out; omega) (.int .i64 z))
    clear hc4 hg4 hk5
    have x0 := X5.out.cell (j := 0) rfl
    have x1 := X5.out.cell (j := 1) rfl
    have x2 := X5.out.cell (j := 2) rfl
    have r0 := R5.out.cell (j := 0) rfl
    have f0 := R5.out.fr (o := 0)
    have r1 := R5.out.cell (j := 1) rfl
    have f1 := R5.out.fr (o := 1)
    have r2 := R5.out.cell (j := 2) rfl
    have f2 := R5.out.fr (o := 2)
    have qf := (((R5.out.set 0 (.int .i64 z)).set 1 (.int .i64 q)).set 2 (.string m))
    have q0 := qf.cell (j := 0) (v := .int .i64 z) rfl
    have q1 := qf.cell (j := 1) (v := .int .i64 q) rfl
    have q2 := qf.cell (j := 2) (v := .string m) rfl
    have RZ := Lib.hid (sets_kept w.heap.size 0 [.int .i64 z, .int .i64 q, .string m] C5.out G5.out HCN.out (Nat.le_refl _))
    clear qf
    go_wp2
    refine bodyPost_ret (v := .agg #[.int .i64 z, .int .i64 q, .string m]) ?_ rfl ⟨_, _, _, HM.out, rfl, RZ.out.1, RZ.out.2⟩
    simp [results, Tryd.results136, go_sem, q0, q1, q2]
  have e0 : (x == 0) = false := by simpa using h0
  by_cases h1 : x = 1
  · subst h1
    go_wp2_with fail
    refine (pickNum_new c ad len cap 3 [0, 16777215, 16777216] _ _ w3 rfl hlen (by decide) (by decide) rfl C3.out S3.out).mono ?_
    rintro e w4 ⟨z, _, rfl, hc4, hg4⟩
    have S4 := Lib.hid (src_grown S3.out hg4 (cur_lt C3.out))
    have C4 := Lib.hid hc4
    have G4 := Lib.hid (grownBy_trans G3.out hg4)
    have R4 := Lib.hid (bk_kept R3.out hg4 HCN.out)
    have X4 := Lib.hid (bk_kept X3.out hg4 HCX.out)
    have y := X4.out.cell (j := 1) rfl
    have fy := X4.out.fr (o := 1)
    have hk5 := set_kept bx 1 (.int .i64 z) C4.out G4.out HCX.out (Nat.le_of_lt HWX.out)
    have C5 := Lib.hid hk5.1
    have G5 := Lib.hid hk5.2
    have X5 := Lib.hid (X4.out.set 1 (.int .i64 z))
    have R5 := Lib.hid (R4.out.other (c := bx) (o := 1) (by have := HWX.out; omega) (.int .i64 z))
    clear hc4 hg4 hk5
    have x0 := X5.out.cell (j := 0) rfl
    have x1 := X5.out.cell (j := 1) rfl
    have x2 := X5.out.cell (j := 2) rfl
    have r0 := R5.out.cell (j := 0) rfl
    have f0 := R5.out.fr (o := 0)
    have r1 := R5.out.cell (j := 1) rfl
    have f1 := R5.out.fr (o := 1)
    have r2 := R5.out.cell (j := 2) rfl
    have f2 := R5.out.fr (o := 2)
    have qf := (((R5.out.set 0 (.int .i64 p)).set 1 (.int .i64 z)).set 2 (.string m))
    have q0 := qf.cell (j := 0) (v := .int .i64 p) rfl
    have q1 := qf.cell (j := 1) (v := .int .i64 z) rfl
    have q2 := qf.cell (j := 2) (v := .string m) rfl
    have RZ := Lib.hid (sets_kept w.heap.size 0 [.int .i64 p, .int .i64 z, .string m] C5.out G5.out HCN.out (Nat.le_refl _))
    clear qf
    go_wp2
    refine bodyPost_ret (v := .agg #[.int .i64 p, .int .i64 z, .string m]) ?_ rfl ⟨_, _, _, HM.out, rfl, RZ.out.1, RZ.out.2⟩
    simp [results, Tryd.results136, go_sem, q0, q1, q2]
  have e1 : (x == 1) = false := by simpa using h1
  by_cases h2 : x = 2
  · subst h2
    go_wp2_with fail
    refine (below_small c ad len cap 6 _ hlen (by decide) (by decide) C3.out S3.out).mono ?_
    rintro e w4 ⟨u, u0, u1, rfl, hc4, hg4⟩
    have S4 := Lib.hid (src_grown S3.out hg4 (cur_lt C3.out))
    have C4 := Lib.hid hc4
    have G4 := Lib.hid (grownBy_trans G3.out hg4)
    have R4 := Lib.hid (bk_kept R3.out hg4 HCN.out)
    have X4 := Lib.hid (bk_kept X3.out hg4 HCX.out)
    obtain ⟨k, rfl⟩ : ∃ k : Nat, u = k := ⟨u.toNat, by omega⟩
    have hk : k < 6 := by omega
    clear hc4 hg4 u0 u1
    go_wp2_with fail
    refine (text_any c ad len cap k _ hlen (by omega) C4.out S4.out).mono ?_
    rintro e w5 ⟨v, ⟨m2, rfl, hm2⟩, rfl, hc5, hg5⟩
    have S5 := Lib.hid (src_grown S4.out hg5 (cur_lt C4.out))
    have C5 := Lib.hid hc5
    have G5 := Lib.hid (grownBy_trans G4.out hg5)
    have R5 := Lib.hid (bk_kept R4.out hg5 HCN.out)
    have X5 := Lib.hid (bk_kept X4.out hg5 HCX.out)
    have HM2 : Hid (m2.size ≤ 8) := Lib.hid (by omega)
    have y := X5.out.cell (j := 2) rfl
    have fy := X5.out.fr (o := 2)
    have hk6 := set_kept bx 2 (.string m2) C5.out G5.out HCX.out (Nat.le_of_lt HWX.out)
    have C6 := Lib.hid hk6.1
    have G6 := Lib.hid hk6.2
    have X6 := Lib.hid (X5.out.set 2 (.string m2))
    have R6 := Lib.hid (R5.out.other (c := bx) (o := 2) (by have := HWX.out; omega) (.string m2))
    clear hc5 hg5 hk6 hm2
    have x0 := X6.out.cell (j := 0) rfl
    have x1 := X6.out.cell (j := 1) rfl
    have x2 := X6.out.cell (j := 2) rfl
    have r0 := R6.out.cell (j := 0) rfl
    have f0 := R6.out.fr (o := 0)
    have r1 := R6.out.cell (j := 1) rfl
    have f1 := R6.out.fr (o := 1)
    have r2 := R6.out.cell (j := 2) rfl
    have f2 := R6.out.fr (o := 2)
    have qf := (((R6.out.set 0 (.int .i64 p)).set 1 (.int .i64 q)).set 2 (.string m2))
    have q0 := qf.cell (j := 0) (v := .int .i64 p) rfl
    have q1 := qf.cell (j := 1) (v := .int .i64 q) rfl
    have q2 := qf.cell (j := 2) (v := .string m2) rfl
    have RZ := Lib.hid (sets_kept w.heap.size 0 [.int .i64 p, .int .i64 q, .string m2] C6.out G6.out HCN.out (Nat.le_refl _))
    clear qf
    go_wp2
    refine bodyPost_ret (v := .agg #[.int .i64 p, .int .i64 q, .string m2]) ?_ rfl ⟨_, _, _, HM2.out, rfl, RZ.out.1, RZ.out.2⟩
    simp [results, Tryd.results136, go_sem, q0, q1, q2]
  have e2 : (x == 2) = false := by simpa using h2
  clear h0 h1 h2
  have x0 := X3.out.cell (j := 0) rfl
  have x1 := X3.out.cell (j := 1) rfl
  have x2 := X3.out.cell (j := 2) rfl
  have r0 := R3.out.cell (j := 0) rfl
  have f0 := R3.out.fr (o := 0)
  have r1 := R3.out.cell (j := 1) rfl
  have f1 := R3.out.fr (o := 1)
  have r2 := R3.out.cell (j := 2) rfl
  have f2 := R3.out.fr (o := 2)
  have qf := (((R3.out.set 0 (.int .i64 p)).set 1 (.int .i64 q)).set 2 (.string m))
  have q0 := qf.cell (j := 0) (v := .int .i64 p) rfl
  have q1 := qf.cell (j := 1) (v := .int .i64 q) rfl
  have q2 := qf.cell (j := 2) (v := .string m) rfl
  have RZ := Lib.hid (sets_kept w.heap.size 0 [.int .i64 p, .int .i64 q, .string m] C3.out G3.out HCN.out (Nat.le_refl _))
  clear qf
  go_wp2
  refine bodyPost_ret (v := .agg #[.int .i64 p, .int .i64 q, .string m]) ?_ rfl ⟨_, _, _, HM.out, rfl, RZ.out.1, RZ.out.2⟩
  simp [results, Tryd.results136, go_sem, q0, q1, q2]

set_option maxRecDepth 100000 in
set_option maxHeartbeats 2000000 in
theorem name12_any (c : Nat) (ad : Option Addr) (len cap : Nat) (w : World) (hlen : len ≤ 1048576) (hc : Cur w c ad len cap) (hs : Src w c ad len) :
    Calls Tryd.prog 170 #[.pointer (some ⟨c, 0, none⟩)] w (DrawPost (fun v => ∃ t : ByteArray, v = .string t ∧ t.size ≤ 8) w c ad len cap) := by
  have HC := Lib.hid hc
  have HS := Lib.hid hs
  clear hc hs
  go_enter Tryd.func170, Tryd.ntmps170
  go_wp2_with fail
  refine (pickNew_any c ad len cap 7 [⟨#[97]⟩, ⟨#[98]⟩, ⟨#[99]⟩, ⟨#[100]⟩, ⟨#[97, 98]⟩, ⟨#[120, 49]⟩, ⟨#[97, 98, 99, 100, 101, 102, 103]⟩] _ _ w rfl hlen (by decide) (by decide) rfl HC.out HS.out).mono ?_
  rintro e w1 ⟨z, hz, rfl, hc1, hg1⟩
  have C1 := Lib.hid hc1
  have G1 := Lib.hid hg1
  have HZ : Hid (z.size ≤ 8) := Lib.hid ((by decide : ∀ t ∈ ([⟨#[97]⟩, ⟨#[98]⟩, ⟨#[99]⟩, ⟨#[100]⟩, ⟨#[97, 98]⟩, ⟨#[120, 49]⟩, ⟨#[97, 98, 99, 100, 101, 102, 103]⟩] : List ByteArray), t.size ≤ 8) z hz)
  clear hc1 hg1 hz
  go_wp2
  go_ret
  exact ⟨_, ⟨z, rfl, HZ.out⟩, rfl, C1.out, G1.out⟩

set_option maxRecDepth 100000 in
set_option maxHeartbeats 2000000 in
theorem anyName12_any (c : Nat) (ad : Option Addr) (len cap : Nat) (w : World) (hlen : len ≤ 1048576) (hc : Cur w c ad len cap) (hs : Src w c ad len) :
    Calls Tryd.prog 156 #[.pointer (some ⟨c, 0, none⟩)] w (DrawPost (fun v => ∃ t : ByteArray, v = .string t ∧ t.size ≤ 8) w c ad len cap) := by
  have HC := Lib.hid hc
  have HS := Lib.hid hs
  clear hc hs
  go_enter Tryd.func156, Tryd.ntmps156
  go_wp2_with fail
  refine (once12_any c ad len cap 3 w hlen (by decide) (by decide) HC.out HS.out).mono ?_
  rintro e w1 ⟨v, ⟨b, rfl⟩, rfl, hc1, hg1⟩
  have C1 := Lib.hid hc1
  have S1 := Lib.hid (src_grown HS.out hg1 (cur_lt HC.out))
  have G1 := Lib.hid hg1
  clear hc1 hg1
  cases b
  · go_wp2_with fail
    refine (name12_any c ad len cap _ hlen C1.out S1.out).mono ?_
    rintro e w2 ⟨v, ⟨t, rfl, ht⟩, rfl, hc2, hg2⟩
    have C2 := Lib.hid hc2
    have G2 := Lib.hid (grownBy_trans G1.out hg2)
    have HZ := Lib.hid ht
    clear hc2 hg2 ht
    go_wp2
    go_ret
    exact ⟨_, ⟨t, rfl, HZ.out⟩, rfl, C2.out, G2.out⟩
  · go_wp2_with fail
    refine (pickNew_any c ad len cap 8 [⟨#[]⟩, ⟨#[65]⟩, ⟨#[97, 98, 99, 100, 101, 102, 103, 104]⟩, ⟨#[97, 32, 98]⟩, ⟨#[97, 47, 98]⟩, ⟨#[0]⟩, ⟨#[195, 169]⟩, ⟨#[97, 45, 98]⟩] _ _ w1 rfl hlen (by decide) (by decide) rfl C1.out S1.out).mono ?_
    rintro e w2 ⟨z, hz, rfl, hc2, hg2⟩
    have C2 := Lib.hid hc2
    have G2 := Lib.hid (grownBy_trans G1.out hg2)
    have HZ : Hid (z.size ≤ 8) := Lib.hid ((by decide : ∀ t ∈ ([⟨#[]⟩, ⟨#[65]⟩, ⟨#[97, 98, 99, 100, 101, 102, 103, 104]⟩, ⟨#[97, 32, 98]⟩, ⟨#[97, 47, 98]⟩, ⟨#[0]⟩, ⟨#[195, 169]⟩, ⟨#[97, 45, 98]⟩] : List ByteArray), t.size ≤ 8) z hz)
    clear hc2 hg2 hz
    go_wp2
    go_ret
    exact ⟨_, ⟨z, rfl, HZ.out⟩, rfl, C2.out, G2.out⟩

/-- A drawn entry. -/
def EntPost (P : EntryR → Prop) (w : World) (c : Nat) (ad : Option Addr) (len cap : Nat) (e : Ending) (w' : World) : Prop :=
  ∃ p m, P ⟨p, m⟩ ∧ e = .returned (.agg #[.int .i64 p, .string m]) ∧ Cur w' c ad len cap ∧ w.grownBy w' (some c)
set_option maxRecDepth 100000 in
set_option maxHeartbeats 2000000 in
theorem anyEntry12_any (c : Nat) (ad : Option Addr) (len cap : Nat) (w : World) (hlen : len ≤ 1048576) (hc : Cur w c ad len cap) (hs : Src w c ad len) :
    Calls Tryd.prog 137 #[.pointer (some ⟨c, 0, none⟩)] w (EntPost (fun r => r.f1.size ≤ 8) w c ad len cap) := by
  have hlt := cur_lt hc
  have ga := grown_alloc w (.cells #[.int .i64 0, .string ⟨#[]⟩] 47) (some c)
  have C0 := Lib.hid (cur_grown hc (grown_alloc w (.cells #[.int .i64 0, .string ⟨#[]⟩] 47) none) (by simp))
  have S0 := Lib.hid (src_grown hs ga hlt)
  have R0 := Lib.hid (Bk.alloc w #[.int .i64 0, .string ⟨#[]⟩] 47)
  have G0 := Lib.hid ga
  have HCN : Hid (¬ c = w.heap.size) := Lib.hid (by omega)
  have HLT := Lib.hid hlt
  clear hc hs ga
  go_enter Tryd.func137, Tryd.ntmps137
  go_wp2_with fail
  have hz9 : w.heap.size + 1 = (w.alloc (.cells #[.int .i64 0, .string ⟨#[]⟩] 47)).heap.size := by simp
  rw [hz9]
  clear hz9
  obtain ⟨W0, hw0⟩ : ∃ x, x = w.alloc (.cells #[.int .i64 0, .string ⟨#[]⟩] 47) := ⟨_, rfl⟩
  rw [← hw0] at C0 S0 R0 G0 ⊢
  clear hw0
  refine (pickNum_new c ad len cap 9 [1, 2, 3, 4, 5, 5, 0, 6, -1] _ _ W0 rfl hlen (by decide) (by decide) rfl C0.out S0.out).mono ?_
  rintro e w1 ⟨z, _, rfl, hc1, hg1⟩
  have S1 := Lib.hid (src_grown S0.out hg1 (cur_lt C0.out))
  have C1 := Lib.hid hc1
  have G1 := Lib.hid (grownBy_trans G0.out hg1)
  have R1 := Lib.hid (bk_kept R0.out hg1 HCN.out)
  clear hc1 hg1
  go_wp2_with fail
  refine (anyName12_any c ad len cap _ hlen C1.out S1.out).mono ?_
  rintro e w2 ⟨v, ⟨t, rfl, ht⟩, rfl, hc2, hg2⟩
  have S2 := Lib.hid (src_grown S1.out hg2 (cur_lt C1.out))
  have C2 := Lib.hid hc2
  have G2 := Lib.hid (grownBy_trans G1.out hg2)
  have R2 := Lib.hid (bk_kept R1.out hg2 HCN.out)
  have HM := Lib.hid ht
  clear hc2 hg2 ht
  have r0 := R2.out.cell (j := 0) rfl
  have f0 := R2.out.fr (o := 0)
  have r1 := R2.out.cell (j := 1) rfl
  have f1 := R2.out.fr (o := 1)
  have qf := ((R2.out.set 0 (.int .i64 z)).set 1 (.string t))
  have q0 := qf.cell (j := 0) (v := .int .i64 z) rfl
  have q1 := qf.cell (j := 1) (v := .string t) rfl
  have RZ := Lib.hid (sets_kept w.heap.size 0 [.int .i64 z, .string t] C2.out G2.out HCN.out (Nat.le_refl _))
  clear qf
  go_wp2
  refine bodyPost_ret (v := .agg #[.int .i64 z, .string t]) ?_ rfl ⟨z, t, HM.out, rfl, RZ.out.1, RZ.out.2⟩
  simp [results, Tryd.results137, go_sem, q0, q1]
end Draw
end Go.Proofs.YtmkchilhnmkhkaaDoor
namespace Go.Proofs.YtmkchilhnmkhkaaDoor
open Go.RowKit Go.Proofs.YtmkchilhnmkhkaaDoor.Parts Go.Proofs.YtmkchilhnmkhkaaDoor.Hexa

theorem SrcE.news {α : Type} [Inhabited α] {E : Enc α} {w : World} {p : Addr} {n : Nat} {L : List α} (h : SrcE E w (some p) n L) (hk0 : 0 < E.k) : ∀ j u, (cellsE E L)[j]? = some u → w.cell? (p.add j) = some u := by
  intro j u hu
  have hj : j < L.length * E.k := by
    rcases Nat.lt_or_ge j (L.length * E.k) with h | h
    · exact h
    · rw [List.getElem?_eq_none (by rw [cellsE_length]; exact h)] at hu; cases hu
  have hd : j = j / E.k * E.k + j % E.k := by rw [Nat.mul_comm]; exact (Nat.div_add_mod j E.k).symm
  have hq : j / E.k < L.length := (Nat.div_lt_iff_lt_mul hk0).2 hj
  have hr := Nat.mod_lt j hk0
  rw [hd, cellsE_at E L _ _ hq hr] at hu
  obtain ⟨g, off, e, _, c⟩ := h.cell (j / E.k) (by rw [← h.len]; exact hq)
  cases e
  have := c _ _ hu
  rw [Nat.add_assoc, ← hd] at this
  rw [Addr.add_lit]; exact this

/-- What an append gives: a slice that owns the cells, in the row that it had or in a new one. -/
def AppE (P : Program) (args : Array TypeId) (ty : TypeId) (vs : Array Value) (w : World) (B e k n : Nat) (xs : List Value) (v : Value) : Prop :=
  ∃ v' w', (Builtin.append_ args ty vs).run P w = .ok v' w' ∧ w'.ownsRow B e k v' n xs ∧ w.grownBy w' v.ownBlock ∧ (v'.ownBlock = v.ownBlock ∨ v'.ownBlock = some w.heap.size)

theorem run_append_nothing {P : Program} (w : World) (base : Nat) (t ty e : TypeId) (i : TypeInfo) (size : Nat) (ht : P.underlying t = some (.slice e)) (hi : P.info? e = some i)
    (v : Value) (n c : Nat) (xs : List Value) (hown : w.ownsRow base e size v n xs) :
    (Builtin.append_ #[t, t] ty #[v, .slice none 0 c]).run P w = .ok v w := by
  rcases hown.2 with ⟨rfl, rfl⟩ | ⟨g, cap, cur, rfl, _, _, hnc, _⟩
  · simp [Builtin.append_, run_underlying ht, sizeOf, typeInfo, hi, Builtin.lenOf, Builtin.firstCells]
  · simp [Builtin.append_, run_underlying ht, sizeOf, typeInfo, hi, Builtin.lenOf, Builtin.firstCells, hnc, storeCells]

theorem wpList_appE {P : Program} {ops : Array Oper} {rest : List Oper} {o : Oper} {a : Act} {w : World} {Q : Exit → Act → World → Prop} (hgd : o.guard = none) (s x : Operand) (t tn : TypeId)
    (ho : o.op = .call { callee := .builtin .append, args := #[s, x], argTypes := #[t, tn] }) (vs vx : Value) (hs : a.eval s = vs) (hx : a.eval x = vx) {B e k n : Nat} {xs : List Value}
    (hr : AppE P #[t, tn] o.type #[vs, vx] w B e k n xs vs) (h : ∀ v' w', w'.ownsRow B e k v' n xs → w.grownBy w' vs.ownBlock → (v'.ownBlock = vs.ownBlock ∨ v'.ownBlock = some w.heap.size) → wpList P ops Q rest (a.put o.dst v') w') : wpList P ops Q (o :: rest) a w := by
  obtain ⟨v', w', r, h1, h2, h3⟩ := hr
  exact Lib.wpList_append_run w hgd s x t tn ho vs vx hs hx v' w' r (h v' w' h1 h2 h3)
/-- At a step of a region that draws its order. -/
theorem step_appE {P : Program} {ops : Array Oper} {o : Oper} {a : Act} {w : World} {K : Act → World → Prop} {Q : Exit → Act → World → Prop} {E : Prop} (hgd : o.guard = none) (s x : Operand) (t tn : TypeId)
    (ho : o.op = .call { callee := .builtin .append, args := #[s, x], argTypes := #[t, tn] }) (vs vx : Value) (hs : a.eval s = vs) (hx : a.eval x = vx) {B e k n : Nat} {xs : List Value}
    (hr : AppE P #[t, tn] o.type #[vs, vx] w B e k n xs vs) (h : ∀ v' w', w'.ownsRow B e k v' n xs → w.grownBy w' vs.ownBlock → (v'.ownBlock = vs.ownBlock ∨ v'.ownBlock = some w.heap.size) → K (a.put o.dst v') w') :
    if Region.wanted o (yielded ops a.tmps) = true then Oper.wp P o a w K Q else E := by
  obtain ⟨v', w', r, h1, h2, h3⟩ := hr
  rw [if_pos (by simp [Region.wanted, hgd])]
  exact Lib.wp_append_run w s x t tn ho vs vx hs hx v' w' r (h v' w' h1 h2 h3)

end Go.Proofs.YtmkchilhnmkhkaaDoor
namespace Go.Proofs.YtmkchilhnmkhkaaDoor
open Go.RowKit Go.Proofs.YtmkchilhnmkhkaaDoor.Parts Go.Proofs.YtmkchilhnmkhkaaDoor.Hexa

theorem appRec1 (w : World) (ty : TypeId) (B : Nat) (v : Value) (n : Nat) (L : List RecR) (hown : w.ownsRow B 66 3 v n (cellsE encRec L)) (hB : B ≤ w.heap.size) (x : RecR) (hn : n ≤ 100000) :
    AppE Tryd.prog #[51, 51] ty #[v, .slice (some ⟨w.heap.size, 0, none⟩) 1 1] (w.alloc (.cells #[.int .i64 x.f0, .int .i64 x.f1, .string x.f2] 66)) B 66 3 (n + 1) (cellsE encRec (L ++ [x])) v := by
  obtain ⟨i0, hi, hz0, hz1, hz2⟩ := info_parts infoRec
  rw [cellsE_append, cellsE_one]
  obtain ⟨v', w', hr, h2, h3, _, h5⟩ := run_append_own_at (P := Tryd.prog) (w := w.alloc (.cells #[.int .i64 x.f0, .int .i64 x.f1, .string x.f2] 66)) B 51 ty 66 i0 _ 3 32 Tryd.underlying51 hi hz0 hz1 hz2 rfl (by decide) v n _ (own_below hown ((Below.refl _ _).alloc (Nat.le_refl _) _)) ⟨w.heap.size, 0, none⟩ 1 1 (encRec.cells x) rfl (World.news_of_block (heap_alloc_new _ _)) (encRec_one x) (by unfold maxLen; omega) (by omega) (by simp; omega)
  exact ⟨v', w', hr, h2, h3, h5⟩
theorem appEntry1 (w : World) (ty : TypeId) (B : Nat) (v : Value) (n : Nat) (L : List EntryR) (hown : w.ownsRow B 47 2 v n (cellsE encEntry L)) (hB : B ≤ w.heap.size) (x : EntryR) (hn : n ≤ 100000) :
    AppE Tryd.prog #[52, 52] ty #[v, .slice (some ⟨w.heap.size, 0, none⟩) 1 1] (w.alloc (.cells #[.int .i64 x.f0, .string x.f1] 47)) B 47 2 (n + 1) (cellsE encEntry (L ++ [x])) v := by
  obtain ⟨i0, hi, hz0, hz1, hz2⟩ := info_parts infoEntry
  rw [cellsE_append, cellsE_one]
  obtain ⟨v', w', hr, h2, h3, _, h5⟩ := run_append_own_at (P := Tryd.prog) (w := w.alloc (.cells #[.int .i64 x.f0, .string x.f1] 47)) B 52 ty 47 i0 _ 2 24 Tryd.underlying52 hi hz0 hz1 hz2 rfl (by decide) v n _ (own_below hown ((Below.refl _ _).alloc (Nat.le_refl _) _)) ⟨w.heap.size, 0, none⟩ 1 1 (encEntry.cells x) rfl (World.news_of_block (heap_alloc_new _ _)) (encEntry_one x) (by unfold maxLen; omega) (by omega) (by simp; omega)
  exact ⟨v', w', hr, h2, h3, h5⟩
end Go.Proofs.YtmkchilhnmkhkaaDoor
namespace Go.Proofs.YtmkchilhnmkhkaaDoor
open Go.RowKit Go.Proofs.YtmkchilhnmkhkaaDoor.Parts Go.Proofs.YtmkchilhnmkhkaaDoor.Hexa Go.Proofs.YtmkchilhnmkhkaaDoor.Byt

/-- The name ahead of the k-th. -/
def prevT (E : List EntryR) (k : Nat) : ByteArray := if k = 0 then ⟨#[]⟩ else (E.getD (k - 1) default).f1
theorem prevT_next (E : List EntryR) (k : Nat) : prevT E (k + 1) = (E.getD k default).f1 := by unfold prevT; rw [if_neg (by omega)]; rfl
theorem text_first {m : ByteArray} (h : 0 < m.size) : textLt ⟨#[]⟩ m = true := by
  unfold textLt
  rw [Go.ByteArray.toList_eq, Go.ByteArray.toList_eq]
  have hl : 0 < m.data.toList.length := by simpa using h
  match m.data.toList, hl with
  | x :: r, _ => rfl
theorem entsOk_on {E : List EntryR} {m : Nat} (h : EntsOk E m) (h1 : EntryOk (E.getD m default)) (h2 : textLt (prevT E m) (E.getD m default).f1 = true) : EntsOk E (m + 1) :=
  entsOk_step h h1 (fun h0 => by unfold prevT at h2; rw [if_neg (by omega)] at h2; exact h2)
theorem entsOk_prev {E : List EntryR} {n k : Nat} (h : EntsOk E n) (hk : k < n) : textLt (prevT E k) (E.getD k default).f1 = true := by
  unfold prevT
  by_cases h0 : k = 0
  · rw [if_pos h0]; exact text_first (by have := (h k hk).1.2.1; omega)
  · rw [if_neg h0]; exact (h k hk).2 (by omega)

end Go.Proofs.YtmkchilhnmkhkaaDoor
