/- Merged texts: DrawLem, DrawText, DrawMore, DrawSet, DrawMem, PickNum, DrawAny, Place. -/
import Derived.Test.YtpahihcnmpeenaaP10G
import Derived.Deep.AppendLies
namespace Go.Proofs.Ytpahihcnmpeenaa
open Go.RowKit
namespace Draw

theorem cur_grown {w w' : World} {c : Nat} {ad : Option Addr} {len cap : Nat} {row : Option Nat} (h : Cur w c ad len cap) (hg : w.grownBy w' row) (hr : some c ≠ row) : Cur w' c ad len cap := by
  have hl := cur_lt h
  obtain ⟨i, x, hi, hb⟩ := h
  exact ⟨i, x, hi, by rw [hg.block c hl hr]; exact hb⟩
theorem src_grown' {w w' : World} {B : Nat} {ad : Option Addr} {len : Nat} {row : Option Nat} (hs : Src w B ad len) (hg : w.grownBy w' row) (hr : ∀ k, row = some k → B ≤ k) (hB : B ≤ w.heap.size) : Src w' B ad len := by
  intro i hi
  obtain ⟨b, off, z, h1, h2, h3, h4, h5⟩ := hs i hi
  exact ⟨b, off, z, h1, h2, h3, h4, by rw [World.cell?_of_block (w := w) (hg.block b (by omega) (fun e => by have := hr b e.symm; omega))]; exact h5⟩
theorem grown_alloc (w : World) (o : Obj) (r : Option Nat) : w.grownBy (w.alloc o) r := ⟨rfl, rfl, rfl, by simp, fun k hk _ => Below.heap_alloc _ _ _ hk⟩
theorem own_not {w : World} {c e : Nat} {v : Value} {n : Nat} {xs : List Value} (h : w.ownsRow (c + 1) e 1 v n xs) : some c ≠ v.ownBlock := fun e => by
  have := Hexa.own_block_ge h c e.symm
  omega
theorem own_kept {w w' : World} {c e : Nat} {v : Value} {n : Nat} {xs : List Value} (h : w.ownsRow (c + 1) e 1 v n xs) (hg : w.grownBy w' (some c)) : w'.ownsRow (c + 1) e 1 v n xs :=
  h.kept hg (Or.inr (fun e => own_not h e.symm))
theorem below_of_grown {w w' : World} {B : Nat} {row : Option Nat} (hg : w.grownBy w' row) (hr : ∀ k, row = some k → B ≤ k) (hB : B ≤ w.heap.size) : Below B w w' := (Below.refl B w).grown hg hB hr

theorem cur_below {w w' : World} {c B : Nat} {ad : Option Addr} {len cap : Nat} (h : Cur w c ad len cap) (hb : Below B w w') (hc : c < B) : Cur w' c ad len cap := by
  obtain ⟨i, x, hi, hh⟩ := h
  exact ⟨i, x, hi, by rw [hb.block c hc]; exact hh⟩
theorem src_below {w w' : World} {c B : Nat} {ad : Option Addr} {len : Nat} (h : Src w c ad len) (hb : Below B w w') (hc : c ≤ B) : Src w' c ad len := by
  intro i hi
  obtain ⟨b, off, z, h1, h2, h3, h4, h5⟩ := h i hi
  exact ⟨b, off, z, h1, h2, h3, h4, by rw [World.cell?_of_block (w := w) (hb.block b (by omega))]; exact h5⟩
theorem grown_below {a w w' : World} {c B : Nat} (h : a.grownBy w (some c)) (hb : Below B w w') (hB : a.heap.size ≤ B) : a.grownBy w' (some c) :=
  ⟨hb.os.trans h.os, hb.tape.trans h.tape, hb.output.trans h.output, Nat.le_trans h.size hb.size, fun i hi hr => (hb.block i (by omega)).trans (h.block i hi hr)⟩

/-- What a draw leaves: a value, the cursor where it may stand, nothing else written. -/
def DrawPost (Pv : Value → Prop) (w : World) (c : Nat) (ad : Option Addr) (len cap : Nat) (e : Ending) (w' : World) : Prop :=
  ∃ v, Pv v ∧ e = .returned v ∧ Cur w' c ad len cap ∧ w.grownBy w' (some c)
end Draw
end Go.Proofs.Ytpahihcnmpeenaa
namespace Go.Proofs.Ytpahihcnmpeenaa
open Go.RowKit Go.Proofs.Ytpahihcnmpeenaa.Hexa Go.Proofs.Ytpahihcnmpeenaa.Byt
namespace Draw

theorem bytes_kept {w w' : World} {B e c : Nat} {v : Value} {l : List UInt8} (h : Bytes w B e v l) (hg : w.grownBy w' (some c)) (hc : c < B) : Bytes w' B e v l := by
  rcases h with h | ⟨g, cap, cur, fz, hv, hb, hh, r⟩
  · exact .inl h
  · exact .inr ⟨g, cap, cur, fz, hv, hb, by rw [hg.block g (Array.getElem?_eq_some_iff.1 hh).1 (fun e => by simp at e; omega)]; exact hh, r⟩
theorem byte_of (x : Int) (h0 : 0 ≤ x) (h1 : x ≤ 255) : x = ((UInt8.ofNat x.toNat).toNat : Int) := by
  rw [UInt8.toNat_ofNat']; omega

set_option maxRecDepth 100000 in
set_option maxHeartbeats 1000000 in
theorem text_any (c : Nat) (ad : Option Addr) (len cap n : Nat) (w : World) (hlen : len ≤ 1048576) (hn : n ≤ 5000) (hc : Cur w c ad len cap) (hs : Src w c ad len) :
    Calls Try.prog 46 #[.pointer (some ⟨c, 0, none⟩), .int .i64 n] w (DrawPost (fun v => ∃ t : ByteArray, v = .string t ∧ t.size = n) w c ad len cap) := by
  have HC := Lib.hid hc
  have HS := Lib.hid hs
  have hlt0 := cur_lt hc
  clear hc hs
  have HC0 : Hid (Cur (w.alloc (.cells #[] 5)) c ad len cap) := Lib.hid (cur_grown HC.out (grown_alloc _ _ none) (by simp))
  have HS0 : Hid (Src (w.alloc (.cells #[] 5)) c ad len) := Lib.hid (src_grown' HS.out (grown_alloc _ _ none) (fun k e => by cases e) (by omega))
  have HG0 : Hid (w.grownBy (w.alloc (.cells #[] 5)) (some c)) := Lib.hid (grown_alloc _ _ _)
  have HB0 : Hid (Bytes (w.alloc (.cells #[] 5)) w.heap.size 5 (.slice (some ⟨w.heap.size, 0, none⟩) 0 0) []) := Lib.hid (bytes_of_own (l := []) (World.ownsRow_lit w #[] 0 (Nat.le_refl _) (by decide) rfl))
  go_enter Try.func46, Try.ntmps46
  go_wp2
  go_loopw [5, 6] (fun v iv wr => ∃ (k : Nat) (l : List UInt8), k ≤ n ∧ iv = .int .i64 k ∧ l.length = k ∧ Hid (Bytes wr w.heap.size 5 v l) ∧ Hid (Cur wr c ad len cap) ∧ Hid (Src wr c ad len) ∧ Hid (w.grownBy wr (some c)))
    (fun _ iv _ => n - (intOf iv).toNat)
  case atStart => exact ⟨0, [], Nat.zero_le _, rfl, rfl, HB0, HC0, HS0, HG0⟩
  case round =>
    clear HC0 HS0 HG0 HB0
    obtain ⟨k, l, hk, rfl, hl, HB, HCr, HSr, HGr⟩ := hrel
    by_cases hlt : k < n
    · go_wp2_with fail
      refine (byte_any c ad len cap wr hlen HCr.out HSr.out).mono ?_
      rintro e w1 ⟨x, x0, x1, rfl, hc1, hg1⟩
      have HB1 := Lib.hid (bytes_kept HB.out hg1 hlt0)
      have HC1 := Lib.hid hc1
      have HS1 := Lib.hid (src_grown HSr.out hg1 (cur_lt HCr.out))
      have HG1 := Lib.hid (grownBy_trans HGr.out hg1)
      have hsz : w.heap.size ≤ w1.heap.size := HG1.out.size
      clear hc1 hg1
      go_wp2_with (at_builtin; refine wpList_append_out rfl (.tmp 15) (.tmp 19) 22 22 rfl _ _ rfl rfl (outB w1 HB1.out hsz _ (UInt8.ofNat x.toNat) _ (byte_of x x0 x1) (by omega)) ?_; intro v2 w2 hb2 hg2)
      have C2 := Lib.hid (cur_below (cur_grown HC1.out (grown_alloc _ _ none) (by simp)) hg2 hlt0)
      have S2 := Lib.hid (src_below (src_grown' HS1.out (grown_alloc _ _ none) (fun k e => by cases e) (by omega)) hg2 (by omega))
      have G2 := Lib.hid (grown_below (grownBy_trans HG1.out (grown_alloc _ _ _)) hg2 (Nat.le_refl _))
      have HB2 := Lib.hid hb2
      clear hb2 hg2
      go_wp2
      go_roundw
      case rel => exact ⟨k + 1, _, by omega, by go_num, by simp [hl], HB2, C2, S2, G2⟩
      case measure => (simp [intOf]; try omega)
    · obtain rfl : k = n := by omega
      have hconv := bytes_string (P := Try.prog) 22 9 Try.underlying22 Try.underlying5 Try.underlying9 HB.out
      go_wp2
      go_ret
      exact ⟨_, ⟨_, rfl, by show l.toArray.size = k; simp [hl]⟩, rfl, HCr.out, HGr.out⟩

end Draw
end Go.Proofs.Ytpahihcnmpeenaa
namespace Go.Proofs.Ytpahihcnmpeenaa
open Go.RowKit Go.Proofs.Ytpahihcnmpeenaa.Hexa
namespace Draw

set_option maxRecDepth 100000 in
set_option maxHeartbeats 1000000 in
theorem pickInt_any (c : Nat) (ad : Option Addr) (len cap : Nat) (g n m : Nat) (zs : List Int) (w : World) (hlen : len ≤ 1048576) (hn : 0 < n) (hn2 : n ≤ 1000000) (hz : zs.length = n) (hcell : ∀ j, j < n → w.cell? ⟨g, j, none⟩ = some (.int .i64 (zs.getD j 0))) (hg : g < w.heap.size) (hgc : g ≠ c) (hc : Cur w c ad len cap) (hs : Src w c ad len) :
    Calls Try.prog 47 #[.pointer (some ⟨c, 0, none⟩), .slice (some ⟨g, 0, none⟩) n m] w (DrawPost (fun v => ∃ z ∈ zs, v = .int .i64 z) w c ad len cap) := by
  have HC := Lib.hid hc
  have HS := Lib.hid hs
  have HCE := Lib.hid hcell
  clear hc hs hcell
  go_enter Try.func47, Try.ntmps47
  go_wp2_with fail
  refine (below_any c ad len cap n w hlen (by omega) (by omega) HC.out HS.out).mono ?_
  rintro e w1 ⟨x, x0, x1, rfl, hc1, hg1⟩
  have HC1 := Lib.hid hc1
  have HG1 := Lib.hid hg1
  obtain ⟨k, rfl⟩ : ∃ k : Nat, x = k := ⟨x.toNat, by omega⟩
  have hk : k < n := by omega
  have ck : w1.cell? ⟨g, k, none⟩ = some (.int .i64 (zs.getD k 0)) := by
    rw [World.cell?_of_block (w := w) (hg1.block g hg (fun e => hgc (by simpa using e)))]; exact HCE.out k hk
  have HM : Hid (zs.getD k 0 ∈ zs) := Lib.hid (by
    have e : zs.getD k 0 = zs[k]'(by omega) := by simp [List.getD, show k < zs.length by omega]
    rw [e]; exact List.getElem_mem _)
  obtain ⟨z, hzz⟩ : ∃ z, zs.getD k 0 = z := ⟨_, rfl⟩
  rw [hzz] at ck HM
  clear hc1 hg1 hzz
  go_wp2
  go_ret
  exact ⟨_, ⟨z, HM.out, rfl⟩, rfl, HC1.out, HG1.out⟩
end Draw
end Go.Proofs.Ytpahihcnmpeenaa
namespace Go.Proofs.Ytpahihcnmpeenaa
open Go.RowKit Go.Proofs.Ytpahihcnmpeenaa.Hexa Go.Proofs.Ytpahihcnmpeenaa.Draw

theorem grown_of_below {w w' : World} {r : Option Nat} (h : Below w.heap.size w w') : w.grownBy w' r := ⟨h.os, h.tape, h.output, h.size, fun k hk _ => h.block k hk⟩
theorem grown_setCell {a w : World} {c b o : Nat} (h : a.grownBy w (some c)) (hb : a.heap.size ≤ b) (v : Value) : a.grownBy (w.setCell ⟨b, o, none⟩ v) (some c) :=
  ⟨h.os, h.tape, h.output, Nat.le_trans h.size (by simp), fun k hk hne => by rw [Below.heap_setCell _ _ _ _ (by show k ≠ b; omega)]; exact h.block k hk hne⟩
theorem cur_setCell {w : World} {c b o : Nat} {ad : Option Addr} {len cap : Nat} (h : Cur w c ad len cap) (hb : b ≠ c) (v : Value) : Cur (w.setCell ⟨b, o, none⟩ v) c ad len cap := by
  obtain ⟨i, x, hi, hh⟩ := h
  exact ⟨i, x, hi, (Below.heap_setCell _ _ _ _ (by show c ≠ b; omega)).trans hh⟩
theorem src_setCell {w : World} {c b o : Nat} {ad : Option Addr} {len : Nat} (h : Draw.Src w c ad len) (hb : c ≤ b) (v : Value) : Draw.Src (w.setCell ⟨b, o, none⟩ v) c ad len := fun i hi => by
  obtain ⟨q, off, z, e, hq, z0, z1, hz⟩ := h i hi
  exact ⟨q, off, z, e, hq, z0, z1, by rw [World.cell?_of_block (w := w) (Below.heap_setCell _ _ _ _ (by show q ≠ b; omega))]; exact hz⟩
end Go.Proofs.Ytpahihcnmpeenaa
namespace Go.Proofs.Ytpahihcnmpeenaa
open Go.RowKit Go.Proofs.Ytpahihcnmpeenaa.Parts Go.Proofs.Ytpahihcnmpeenaa.Hexa Go.Proofs.Ytpahihcnmpeenaa.Draw

theorem fenced_ok {K : ByteArray} {L : List C3} (h : MemOk K L) : MemOk (fencedK K L) (fencedL K L) ∧ (fencedK K L).size = K.size := by
  rw [fencedK_ok h, fencedL_ok h]
  exact ⟨fence_ok h, fence_size L K h.laid⟩
theorem flushed_ok {K : ByteArray} {L : List C3} (l : Int) (h : MemOk K L) : MemOk K (flushedL K L l) := by
  rw [flushedL_ok h]; exact flush_ok l h
theorem stored_ok {K : ByteArray} {L : List C3} (i : Int) (x : ByteArray) (h : MemOk K L) : MemOk K (storedL K L i x) := by
  by_cases hc : x.size = 8 ∧ Has K i
  · obtain ⟨m, rfl⟩ : ∃ m : Nat, i = m := ⟨i.toNat, by have := hc.2.1; omega⟩
    have hm : m < K.size / 8 := by have := hc.2.2; omega
    rw [storedL_yes h hc.1 hm]; exact store_ok h hm hc.1
  · have : storedL K L i x = L := if_neg (fun y => hc y.2)
    rw [this]; exact h
theorem MemOk.fitT {K : ByteArray} {L : List C3} (h : MemOk K L) : FitT L 1048600 := fun j hj => by rw [(h.2.2 j hj).2.2.1]; decide

theorem memLine {K : ByteArray} {L : List C3} (h : MemOk K L) : ∀ j, j < L.length → (j : Int) ≤ (L.getD j default).l := by
  intro j
  induction j with
  | zero => intro hj; have := (h.2.2 0 hj).1; omega
  | succ j ih => intro hj; have h1 := h.asc (i := j) (j := j + 1) (by omega) hj; have h2 := ih (by omega); omega
theorem memLen {K : ByteArray} {L : List C3} (h : MemOk K L) : L.length ≤ K.size := by
  by_cases e : L.length = 0
  · omega
  · have h1 := memLine h (L.length - 1) (by omega)
    have h2 := (h.2.2 (L.length - 1) (by omega)).2.1
    omega
theorem two_grown {w w' : World} {b c : Nat} {u v : Value} {t : TypeId} (h : Two w b u v t) (hg : w.grownBy w' (some c)) (hne : b ≠ c) : Two w' b u v t := (hg.block b h.lt (fun e => hne (by cases e; rfl))).trans h
theorem BoxM.grown {w w' : World} {M b c0 : Nat} {K : ByteArray} {a : Option Addr} {n c : Nat} {L : List C3} (h : BoxM w M b K a n c L) (hg : w.grownBy w' (some c0)) (hc : c0 < M) : BoxM w' M b K a n c L :=
  ⟨two_grown h.two hg (by have := h.low; omega), h.own.kept hg (by
    cases hv : (Value.slice a n c).ownBlock with
    | none => exact .inl rfl
    | some q => exact .inr (fun e => by cases e; have := (h.own.lt _ hv).1; omega)), h.low, h.ne⟩
theorem BoxM.put {w : World} {M B b : Nat} {K : ByteArray} {u v : Value} {a : Option Addr} {n c : Nat} {L : List C3} (hT : Two w b u v 26) (ho : w.ownsRow B 68 3 (.slice a n c) n (cellsE encC L)) (hb : b < B) (hM : M ≤ b) : BoxM ((w.setCell ⟨b, 0, none⟩ (.string K)).setCell ⟨b, 1, none⟩ (.slice a n c)) M b K a n c L := by
  have hn : (Value.slice a n c).ownBlock ≠ some b := fun e => by have := (ho.lt b e).1; omega
  refine ⟨two_set1 (two_set0 hT), ownE_mono (ownsRow_setCell_other (ownsRow_setCell_other ho hn _) hn _) (by omega), hM, fun p hp e => ?_⟩
  subst hp
  exact hn (by show some p.block = some b; rw [e])
/-- What is drawn: a memory that is right, of one to five lines. -/
def MemDrawn (w : World) (c : Nat) (ad : Option Addr) (len cap : Nat) (e : Ending) (w' : World) : Prop :=
  ∃ K L v, e = .returned (.agg #[.string K, v]) ∧ MemOk K L ∧ K.size ≤ 80 ∧ w'.ownsRow w.heap.size 68 3 v L.length (cellsE encC L) ∧ Cur w' c ad len cap ∧ w.grownBy w' (some c)

/-- The state of the draw: a box that holds a memory. -/
structure MemSt (w wr : World) (c : Nat) (ad : Option Addr) (len cap b : Nat) (K : ByteArray) (L : List C3) (a : Option Addr) (n cp : Nat) : Prop where
  ok : MemOk K L
  size : K.size ≤ 80
  box : BoxM wr (w.heap.size + 1) b K a n cp L
  res : Two wr w.heap.size (.string ⟨#[]⟩) (.slice none 0 0) 26
  cur : Cur wr c ad len cap
  src : Draw.Src wr c ad len
  grown : w.grownBy wr (some c)
theorem MemSt.draw {w wr w' : World} {c : Nat} {ad : Option Addr} {len cap b : Nat} {K : ByteArray} {L : List C3} {a : Option Addr} {n cp : Nat} (h : MemSt w wr c ad len cap b K L a n cp) (hcw : c < w.heap.size) (hc : Cur w' c ad len cap) (hg : wr.grownBy w' (some c)) : MemSt w w' c ad len cap b K L a n cp :=
  ⟨h.ok, h.size, h.box.grown hg (by omega), two_grown h.res hg (by omega), hc, src_grown h.src hg (cur_lt h.cur), grownBy_trans h.grown hg⟩
theorem MemSt.drew {w wr : World} {c : Nat} {ad : Option Addr} {len cap b : Nat} {K : ByteArray} {L : List C3} {a : Option Addr} {n cp : Nat} (h : MemSt w wr c ad len cap b K L a n cp) : MemSt w wr.drew c ad len cap b K L a n cp :=
  ⟨h.ok, h.size, h.box.drew0, h.res, h.cur, h.src, ⟨h.grown.os, h.grown.tape, h.grown.output, h.grown.size, h.grown.block⟩⟩
theorem MemSt.put {w wr w' : World} {c : Nat} {ad : Option Addr} {len cap b : Nat} {K K2 : ByteArray} {L L2 : List C3} {a a2 : Option Addr} {n cp n2 c2 : Nat} (h : MemSt w wr c ad len cap b K L a n cp) (hcw : c < w.heap.size) (hb : Below wr.heap.size wr w') (hok : MemOk K2 L2) (hsz : K2.size ≤ 80) (ho : w'.ownsRow wr.heap.size 68 3 (.slice a2 n2 c2) n2 (cellsE encC L2)) : MemSt w ((w'.setCell ⟨b, 0, none⟩ (.string K2)).setCell ⟨b, 1, none⟩ (.slice a2 n2 c2)) c ad len cap b K2 L2 a2 n2 c2 := by
  have hbl := h.box.low
  have hne : w.heap.size ≠ b := by omega
  exact ⟨hok, hsz, BoxM.put (h.box.two.later hb) ho h.box.two.lt hbl,
    (Below.heap_setCell _ _ _ _ hne).trans ((Below.heap_setCell _ _ _ _ hne).trans (h.res.later hb)),
    cur_setCell (cur_setCell (cur_below h.cur hb (cur_lt h.cur)) (by omega) _) (by omega) _,
    src_setCell (src_setCell (src_below h.src hb (Nat.le_of_lt (cur_lt h.cur))) (by omega) _) (by omega) _,
    grown_setCell (grown_setCell (grownBy_trans h.grown (grown_of_below hb)) (by omega) _) (by omega) _⟩

set_option maxRecDepth 100000 in
set_option maxHeartbeats 4000000 in
theorem drawMemory_any (c : Nat) (ad : Option Addr) (len cap : Nat) (w : World) (hlen : len ≤ 1048576) (hc : Cur w c ad len cap) (hs : Draw.Src w c ad len) :
    Calls Try.prog 74 #[.pointer (some ⟨c, 0, none⟩)] w (MemDrawn w c ad len cap) := by
  have HC := Lib.hid hc
  have hcl := cur_lt hc
  have HS0 : Hid (Draw.Src (w.alloc (.cells #[.string ⟨#[]⟩, .slice none 0 0] 26)) c ad len) := Lib.hid (src_grown' hs (grown_alloc _ _ none) (fun k e => by cases e) (by omega))
  have HC0 : Hid (Cur (w.alloc (.cells #[.string ⟨#[]⟩, .slice none 0 0] 26)) c ad len cap) := Lib.hid (cur_grown hc (grown_alloc _ _ none) (by simp))
  have R0 := Lib.hid (Two.alloc w (.string ⟨#[]⟩) (.slice none 0 0) 26)
  have G0 : Hid (w.grownBy (w.alloc (.cells #[.string ⟨#[]⟩, .slice none 0 0] 26)) (some c)) := Lib.hid (grown_alloc _ _ _)
  have HCL := Lib.hid hcl
  clear hc hs hcl
  go_enter Try.func74, Try.ntmps74
  go_wp2_with fail
  refine (below_any c ad len cap 5 _ hlen (by decide) (by decide) HC0.out HS0.out).mono ?_
  rintro e w1 ⟨x, hx0, hx1, rfl, hc1, hg1⟩
  have C1 := Lib.hid hc1
  have S1 := Lib.hid (src_grown HS0.out hg1 (by have := HCL.out; simp; omega))
  have R1 := Lib.hid (two_grown R0.out hg1 (by have := HCL.out; omega))
  have G1 := Lib.hid (grownBy_trans G0.out hg1)
  clear hc1 hg1 HC0 HS0 R0 G0
  go_wp2_with fail
  refine (specNew_any (1 + x) w1).mono ?_
  rintro e w2 ⟨rfl, hb2⟩
  obtain ⟨K0, hK0⟩ : ∃ K0, newB (1 + x) = K0 := ⟨_, rfl⟩
  have hKs : K0.size = (1 + x).toNat * 16 := by
    rw [← hK0]; unfold newB zeroB
    rw [if_pos (by omega), if_pos (by omega), longB_size]; omega
  rw [hK0]
  have HM0 : Hid (MemOk K0 []) := Lib.hid ⟨by omega, by omega, fun j hj => by simp at hj⟩
  have HK0 : Hid (K0.size ≤ 80) := Lib.hid (by omega)
  have ST : Hid (MemSt w (w2.alloc (.cells #[.string K0, .slice none 0 0] 26)) c ad len cap w2.heap.size K0 [] none 0 0) := Lib.hid (by
    have hba := below_alloc w2 (.cells #[.string K0, .slice none 0 0] 26)
    have hb3 := hb2.trans (hba.mono hb2.size)
    have h1 := R1.out.lt
    exact ⟨HM0.out, HK0.out, ⟨Two.alloc w2 _ _ _, nilC _ _, by have := hb2.size; omega, fun p hp => by cases hp⟩, R1.out.later hb3, cur_below C1.out hb3 (cur_lt C1.out), src_below S1.out hb3 (Nat.le_of_lt (cur_lt C1.out)), grownBy_trans G1.out (grown_of_below hb3)⟩)
  clear hb2 hK0 hKs C1 S1 R1 G1
  obtain ⟨b, hb⟩ : ∃ b, w2.heap.size = b := ⟨_, rfl⟩
  obtain ⟨w3, h3⟩ : ∃ x, x = w2.alloc (.cells #[.string K0, .slice none 0 0] 26) := ⟨_, rfl⟩
  have hw3 : w3 = w2.alloc (.cells #[.string K0, .slice none 0 0] 26) := h3
  rw [hb, ← h3] at ST
  go_wp2
  try rw [hb]
  try rw [← hw3]
  clear hb h3 hw3
  go_loopw [4] (fun iv wr => ∃ (k : Nat) (K : ByteArray) (L : List C3) (a : Option Addr) (n cp : Nat), k ≤ 12 ∧ iv = .int .i64 k ∧ Hid (MemSt w wr c ad len cap b K L a n cp)) (fun iv _ => 12 - (intOf iv).toNat)
  case atStart => exact ⟨0, K0, [], none, 0, 0, by omega, rfl, ST⟩
  case round =>
    clear ST HM0 HK0
    obtain ⟨k, K, L, a, n, cp, hk, rfl, ST⟩ := hrel
    go_wp2_with fail
    refine (below_any c ad len cap 12 wr hlen (by decide) (by decide) ST.out.cur ST.out.src).mono ?_
    rintro e w4 ⟨x1, h0, h1, rfl, hc1, hg1⟩
    have ST1 := Lib.hid (ST.out.draw HCL.out hc1 hg1)
    clear hc1 hg1 ST
    by_cases hlt : (k : Int) < x1
    · go_wp2_with fail
      refine (below_any c ad len cap 5 w4 hlen (by decide) (by decide) ST1.out.cur ST1.out.src).mono ?_
      rintro e w5 ⟨y, y0, y1, rfl, hc1, hg1⟩
      have ST2 := Lib.hid (ST1.out.draw HCL.out hc1 hg1)
      have hn9 : Hid (n ≤ 1048600) := Lib.hid (by have h1 := ST2.out.box.len; have h4 := ST2.out.size; have h5 := memLen ST2.out.ok; omega)
      have hK9 : Hid (K.size ≤ 1048600) := Lib.hid (by have := ST2.out.size; omega)
      clear hc1 hg1 ST1
      have c0 := ST2.out.box.two.c0
      have c1 := ST2.out.box.two.c1
      have f0 := ST2.out.box.two.fr (o := 0)
      have f1 := ST2.out.box.two.fr (o := 1)
      by_cases hy0 : y = 0
      · subst hy0
        go_wp2_with fail
        refine (specFence_any K a n cp L w5 ST2.out.box.src hn9.out hK9.out ST2.out.ok.fitT).mono ?_
        rintro e w6 ⟨v, rfl, hown, hb6⟩
        obtain ⟨a2, c2, rfl, _, _, _⟩ := ownE_form hown
        have ST3 := Lib.hid (ST2.out.put HCL.out hb6 (fenced_ok ST2.out.ok).1 (by rw [(fenced_ok ST2.out.ok).2]; exact ST2.out.size) hown)
        have t6 := ST2.out.box.two.later hb6
        clear c0 c1 f0 f1 hown hb6
        have c0 := t6.c0
        have c1 := t6.c1
        have f0 := t6.fr (o := 0)
        have f1 := t6.fr (o := 1)
        clear t6
        go_wp2
        go_roundw
        case rel => exact ⟨k + 1, _, _, _, _, _, by omega, by go_num, ST3⟩
        case measure => (simp [intOf]; try omega)
      by_cases hy1 : y = 1
      · subst hy1
        go_wp2_with fail
        go_region_with (first
          | (go_at_call 60; refine (below_any c ad len cap 5 _ hlen (by decide) (by decide) ST2.out.drew.cur ST2.out.drew.src).mono ?_; rintro e w6 ⟨z, z0, z1, rfl, hc6, hg6⟩
             have ST3 := Lib.hid (ST2.out.drew.draw HCL.out hc6 hg6)
             have d0 := ST3.out.box.two.c0
             have d1 := ST3.out.box.two.c1
             clear hc6 hg6)
          | (go_at_call 38; refine (specFlush_any K a n cp L z w6 ST3.out.box.src hn9.out hK9.out ST3.out.ok.fitT).mono ?_; rintro e w7 ⟨v, rfl, hown, hb7⟩
             obtain ⟨a2, c2, rfl, _, _, _⟩ := ownE_form hown
             have ST4 := Lib.hid (ST3.out.put HCL.out hb7 (flushed_ok z ST3.out.ok) ST3.out.size hown)
             have t7 := ST3.out.box.two.later hb7
             have e0 := t7.c0
             have e1 := t7.c1
             have g0 := t7.fr (o := 0)
             have g1 := t7.fr (o := 1)
             clear t7 hown hb7))
        all_goals
          go_wp2
          go_roundw
          case rel => exact ⟨k + 1, _, _, _, _, _, by omega, by go_num, ST4⟩
          case measure => (simp [intOf]; try omega)
      · go_wp2_with fail
        go_region_with (first
          | (go_at_call 60; refine (below_any c ad len cap 10 _ hlen (by decide) (by decide) ST2.out.drew.cur ST2.out.drew.src).mono ?_; rintro e w6 ⟨z, z0, z1, rfl, hc6, hg6⟩
             have ST3 := Lib.hid (ST2.out.drew.draw HCL.out hc6 hg6)
             have d0 := ST3.out.box.two.c0
             have d1 := ST3.out.box.two.c1
             clear hc6 hg6)
          | (go_at_call 46; refine (text_any c ad len cap 8 w6 hlen (by decide) ST3.out.cur ST3.out.src).mono ?_; rintro e w7 ⟨_, ⟨x8, rfl, hx8⟩, rfl, hc7, hg7⟩
             have ST4 := Lib.hid (ST3.out.draw HCL.out hc7 hg7)
             have d2 := ST4.out.box.two.c0
             have d3 := ST4.out.box.two.c1
             clear hc7 hg7)
          | (go_at_call 16; refine (specStore_any K a n cp L z x8 w7 ST4.out.box.src hn9.out hK9.out ST4.out.ok.fitT (by omega)).mono ?_; rintro e w8 ⟨v, rfl, hown, hb8⟩
             obtain ⟨a2, c2, rfl, _, _, _⟩ := ownE_form hown
             have ST5 := Lib.hid (ST4.out.put HCL.out hb8 (stored_ok z x8 ST4.out.ok) ST4.out.size hown)
             have t8 := ST4.out.box.two.later hb8
             have e0 := t8.c0
             have e1 := t8.c1
             have g0 := t8.fr (o := 0)
             have g1 := t8.fr (o := 1)
             clear t8 hown hb8))
        all_goals
          go_wp2
          go_roundw
          case rel => exact ⟨k + 1, _, _, _, _, _, by omega, by go_num, ST5⟩
          case measure => (simp [intOf]; try omega)
    · have c0 := ST1.out.box.two.c0
      have c1 := ST1.out.box.two.c1
      have r0 := ST1.out.res.c0
      have r1 := ST1.out.res.c1
      have f0 := ST1.out.res.fr (o := 0)
      have f1 := ST1.out.res.fr (o := 1)
      have q := two_set1 (two_set0 ST1.out.res (x := .string K)) (x := .slice a n cp)
      have q0 := cell0_of_two q
      have q1 := cell1_of_two q
      have HP : Hid (MemDrawn w c ad len cap (.returned (.agg #[.string K, .slice a n cp])) ((w4.setCell ⟨w.heap.size, 0, none⟩ (.string K)).setCell ⟨w.heap.size, 1, none⟩ (.slice a n cp))) := Lib.hid (by
        have hl := ST1.out.box.len
        have hcl := HCL.out
        have hn : (Value.slice a n cp).ownBlock ≠ some w.heap.size := fun e => by have := (ST1.out.box.own.lt _ e).1; omega
        refine ⟨K, L, _, rfl, ST1.out.ok, ST1.out.size, ?_, cur_setCell (cur_setCell ST1.out.cur (by omega) _) (by omega) _, grown_setCell (grown_setCell ST1.out.grown (Nat.le_refl _) _) (Nat.le_refl _) _⟩
        rw [hl]
        exact ownE_mono (ownsRow_setCell_other (ownsRow_setCell_other ST1.out.box.own hn _) hn _) (by omega))
      clear q
      go_wp2
      refine bodyPost_ret (v := .agg #[.string K, .slice a n cp]) ?_ rfl HP.out
      simp [results, Try.results74, go_sem, q0, q1]
end Go.Proofs.Ytpahihcnmpeenaa
namespace Go.Proofs.Ytpahihcnmpeenaa
open Go.RowKit Go.Proofs.Ytpahihcnmpeenaa.Hexa
namespace Draw

/-- A number picked out of a list that the call has just laid. -/
theorem pickNum_new (c : Nat) (ad : Option Addr) (len cap : Nat) (n : Nat) (zs : List Int) (cs : Array Value) (t : TypeId) (w : World) (hcs : cs = (zs.map fun z => Value.int .i64 z).toArray) (hlen : len ≤ 1048576) (hn : 0 < n) (hn2 : n ≤ 200) (hz : zs.length = n) (hc : Cur w c ad len cap) (hs : Src w c ad len) :
    Calls Try.prog 47 #[.pointer (some ⟨c, 0, none⟩), .slice (some ⟨w.heap.size, 0, none⟩) n n] (w.alloc (.cells cs t)) fun e w' => ∃ z ∈ zs, e = .returned (.int .i64 z) ∧ Cur w' c ad len cap ∧ w.grownBy w' (some c) := by
  have hh := heap_alloc_new w (.cells cs t)
  have hlt := cur_lt hc
  refine (pickInt_any c ad len cap w.heap.size n n zs _ hlen hn (by omega) hz (fun j hj => ?_) (by simp) (by omega) (cur_grown hc (grown_alloc _ _ none) (by simp)) (src_grown' hs (grown_alloc _ _ none) (fun k e => by cases e) (by omega))).mono ?_
  · have h1 : ∀ (o : Option Obj), o = some (.cells cs t) → (match o with | some (.cells c _ _) => c[j]? | _ => none) = some (.int .i64 (zs.getD j 0)) := fun o ho => by
      subst ho
      subst hcs
      have hj' : j < zs.length := by omega
      simp [List.getD, hj']
    exact h1 _ hh
  · rintro e w' ⟨v, ⟨z, hz, rfl⟩, rfl, hc', hg'⟩
    exact ⟨z, hz, rfl, hc', grownBy_trans (grown_alloc w _ _) hg'⟩

end Draw
end Go.Proofs.Ytpahihcnmpeenaa
namespace Go.Proofs.Ytpahihcnmpeenaa
open Go.RowKit Go.Proofs.Ytpahihcnmpeenaa.Parts Go.Proofs.Ytpahihcnmpeenaa.Hexa Go.Proofs.Ytpahihcnmpeenaa.Draw

/-- What is drawn: a memory that fits. -/
def AnyDrawn (w : World) (c : Nat) (ad : Option Addr) (len cap : Nat) (e : Ending) (w' : World) : Prop :=
  ∃ K L v, e = .returned (.agg #[.string K, v]) ∧ FitT L 1048600 ∧ L.length ≤ 1000 ∧ K.size ≤ 1000 ∧ w'.ownsRow w.heap.size 68 3 v L.length (cellsE encC L) ∧ Cur w' c ad len cap ∧ w.grownBy w' (some c)

structure AnySt (w wr : World) (c : Nat) (ad : Option Addr) (len cap b : Nat) (K : ByteArray) (L : List C3) (a : Option Addr) (n cp : Nat) : Prop where
  fit : FitT L 1048600
  llen : L.length ≤ 1000
  klen : K.size ≤ 1000
  box : BoxM wr (w.heap.size + 1) b K a n cp L
  res : Two wr w.heap.size (.string ⟨#[]⟩) (.slice none 0 0) 26
  cur : Cur wr c ad len cap
  src : Draw.Src wr c ad len
  grown : w.grownBy wr (some c)
section
variable {w wr w' : World} {c : Nat} {ad : Option Addr} {len cap b : Nat} {K : ByteArray} {L : List C3} {a : Option Addr} {n cp : Nat}
theorem AnySt.draw (h : AnySt w wr c ad len cap b K L a n cp) (hcw : c < w.heap.size) (hc : Cur w' c ad len cap) (hg : wr.grownBy w' (some c)) : AnySt w w' c ad len cap b K L a n cp :=
  ⟨h.fit, h.llen, h.klen, h.box.grown hg (by omega), two_grown h.res hg (by omega), hc, src_grown h.src hg (cur_lt h.cur), grownBy_trans h.grown hg⟩
theorem AnySt.drew (h : AnySt w wr c ad len cap b K L a n cp) : AnySt w wr.drew c ad len cap b K L a n cp :=
  ⟨h.fit, h.llen, h.klen, h.box.drew0, h.res, h.cur, h.src, ⟨h.grown.os, h.grown.tape, h.grown.output, h.grown.size, h.grown.block⟩⟩
theorem AnySt.below (h : AnySt w wr c ad len cap b K L a n cp) (hb : Below wr.heap.size wr w') : AnySt w w' c ad len cap b K L a n cp :=
  ⟨h.fit, h.llen, h.klen, h.box.later hb, h.res.later hb, cur_below h.cur hb (cur_lt h.cur), src_below h.src hb (Nat.le_of_lt (cur_lt h.cur)), grownBy_trans h.grown (grown_of_below hb)⟩
theorem AnySt.own_ne (h : AnySt w wr c ad len cap b K L a n cp) : (Value.slice a n cp).ownBlock ≠ some b := fun e => by
  cases a with
  | none => simp [Value.ownBlock] at e
  | some q => exact h.box.ne q rfl (by simpa [Value.ownBlock] using e)
theorem AnySt.own_ge (h : AnySt w wr c ad len cap b K L a n cp) (k : Nat) (e : (Value.slice a n cp).ownBlock = some k) : w.heap.size + 1 ≤ k := (h.box.own.lt k e).1
theorem AnySt.setK {K2 : ByteArray} (h : AnySt w wr c ad len cap b K L a n cp) (hcw : c < w.heap.size) (hk : K2.size ≤ 1000) : AnySt w (wr.setCell ⟨b, 0, none⟩ (.string K2)) c ad len cap b K2 L a n cp := by
  have hl := h.box.low
  exact ⟨h.fit, h.llen, hk, ⟨two_set0 h.box.two, ownsRow_setCell_other h.box.own h.own_ne _, hl, h.box.ne⟩, (Below.heap_setCell _ _ _ _ (by show w.heap.size ≠ b; omega)).trans h.res, cur_setCell h.cur (by omega) _, src_setCell h.src (by omega) _, grown_setCell h.grown (by omega) _⟩
theorem grown_own {r : Option Nat} (h : w.grownBy wr (some c)) (hg : wr.grownBy w' r) (hr : ∀ k, r = some k → w.heap.size ≤ k) : w.grownBy w' (some c) :=
  ⟨hg.os.trans h.os, hg.tape.trans h.tape, hg.output.trans h.output, Nat.le_trans h.size hg.size, fun k hk hne => (hg.block k (Nat.lt_of_lt_of_le hk h.size) (fun e => by have := hr k e.symm; omega)).trans (h.block k hk hne)⟩
theorem AnySt.two_app (h : AnySt w wr c ad len cap b K L a n cp) (hg : wr.grownBy w' (Value.slice a n cp).ownBlock) : Two w' b (.string K) (.slice a n cp) 26 :=
  (hg.block b h.box.two.lt (fun e => h.own_ne e.symm)).trans h.box.two
theorem AnySt.setG {r : Option Nat} {a2 : Option Addr} {n2 c2 : Nat} {L2 : List C3} (h : AnySt w wr c ad len cap b K L a n cp) (hcw : c < w.heap.size) (hg : wr.grownBy w' r) (hr : ∀ k, r = some k → w.heap.size + 1 ≤ k ∧ k ≠ b) (ho : w'.ownsRow (w.heap.size + 1) 68 3 (.slice a2 n2 c2) n2 (cellsE encC L2)) (hne : (Value.slice a2 n2 c2).ownBlock ≠ some b) (hf : FitT L2 1048600) (hl2 : L2.length ≤ 1000) : AnySt w (w'.setCell ⟨b, 1, none⟩ (.slice a2 n2 c2)) c ad len cap b K L2 a2 n2 c2 := by
  have hl := h.box.low
  have hbt := h.box.two.lt
  have hrb : some b ≠ r := fun e => (hr b e.symm).2 rfl
  have hr2 : some w.heap.size ≠ r := fun e => by have := (hr _ e.symm).1; omega
  have hcn : some c ≠ r := fun e => by have := (hr _ e.symm).1; omega
  refine ⟨hf, hl2, h.klen, ⟨two_set1 ((hg.block b hbt hrb).trans h.box.two), ownsRow_setCell_other ho hne _, hl, fun p hp e => hne ?_⟩, (Below.heap_setCell _ _ _ _ (by show w.heap.size ≠ b; omega)).trans ((hg.block _ h.res.lt hr2).trans h.res), cur_setCell (cur_grown h.cur hg hcn) (by omega) _, src_setCell (src_grown' h.src hg (fun k e => by have := (hr k e).1; omega) (by have := h.grown.size; omega)) (by omega) _, grown_setCell (grown_own h.grown hg (fun k e => by have := (hr k e).1; omega)) (by omega) _⟩
  subst hp
  show some p.block = some b
  rw [e]
theorem AnySt.setL {a2 : Option Addr} {n2 c2 : Nat} {L2 : List C3} (h : AnySt w wr c ad len cap b K L a n cp) (hcw : c < w.heap.size) (hg : wr.grownBy w' (Value.slice a n cp).ownBlock) (ho : w'.ownsRow (w.heap.size + 1) 68 3 (.slice a2 n2 c2) n2 (cellsE encC L2)) (hat : (Value.slice a2 n2 c2).ownBlock = (Value.slice a n cp).ownBlock ∨ (Value.slice a2 n2 c2).ownBlock = some wr.heap.size) (hf : FitT L2 1048600) (hl2 : L2.length ≤ 1000) : AnySt w (w'.setCell ⟨b, 1, none⟩ (.slice a2 n2 c2)) c ad len cap b K L2 a2 n2 c2 :=
  h.setG hcw hg (fun k e => ⟨h.own_ge k e, fun e2 => h.own_ne (by rw [e, e2])⟩) ho (fun e => by
    have hbt := h.box.two.lt
    rcases hat with h1 | h1
    · exact h.own_ne (h1.symm.trans e)
    · have : some wr.heap.size = some b := h1.symm.trans e
      cases this; omega) hf hl2
theorem AnySt.short {w4 w7 : World} {c7 : Nat} {a7 : Option Addr} {L7 : List C3} {S7 : World} (h : AnySt w w4 c ad len cap b K L a n cp) (hcw : c < w.heap.size) (hb : Below w4.heap.size w4 S7) (hg : S7.grownBy w7 (some w4.heap.size)) (ho : w7.ownsRow w4.heap.size 68 3 (.slice a7 (0 + 1) c7) (0 + 1) (cellsE encC L7)) (hat : (Value.slice a7 (0 + 1) c7).ownBlock = some w4.heap.size ∨ (Value.slice a7 (0 + 1) c7).ownBlock = some S7.heap.size) (hf : FitT L7 1048600) (hl : L7.length ≤ 1000) :
    Two w7 b (.string K) (.slice a n cp) 26 ∧ AnySt w (w7.setCell ⟨b, 1, none⟩ (.slice a7 (0 + 1) c7)) c ad len cap b K L7 a7 (0 + 1) c7 := by
  have h0 := h.box.two.lt
  have h1 := h.box.low
  have h2 := hb.size
  have h4 := h.below hb
  have hr7 : ∀ k, some w4.heap.size = some k → w.heap.size + 1 ≤ k ∧ k ≠ b := fun k e => by
    cases e
    exact ⟨by omega, by omega⟩
  have hne7 : (Value.slice a7 (0 + 1) c7).ownBlock ≠ some b := fun e => by
    rcases hat with h | h
    · have : some w4.heap.size = some b := h.symm.trans e
      cases this; omega
    · have : some S7.heap.size = some b := h.symm.trans e
      cases this; omega
  exact ⟨(hg.block b h4.box.two.lt (fun e => (hr7 b e.symm).2 rfl)).trans h4.box.two, h4.setG hcw hg hr7 (ownE_mono ho (by omega)) hne7 hf hl⟩
theorem AnySt.done (h : AnySt w wr c ad len cap b K L a n cp) (hcw : c < w.heap.size) : AnyDrawn w c ad len cap (.returned (.agg #[.string K, .slice a n cp])) ((wr.setCell ⟨w.heap.size, 0, none⟩ (.string K)).setCell ⟨w.heap.size, 1, none⟩ (.slice a n cp)) := by
  have hl := h.box.len
  have hn : (Value.slice a n cp).ownBlock ≠ some w.heap.size := fun e => by have := h.own_ge _ e; omega
  refine ⟨K, L, _, rfl, h.fit, h.llen, h.klen, ?_, cur_setCell (cur_setCell h.cur (by omega) _) (by omega) _, grown_setCell (grown_setCell h.grown (Nat.le_refl _) _) (Nat.le_refl _) _⟩
  rw [hl]
  exact ownE_mono (ownsRow_setCell_other (ownsRow_setCell_other h.box.own hn _) hn _) (by omega)
end
theorem fit_app {L M : List C3} {N : Nat} (h1 : FitT L N) (h2 : FitT M N) : FitT (L ++ M) N := fun j hj => by
  by_cases h : j < L.length
  · have e : (L ++ M).getD j default = L.getD j default := by simp [List.getD, List.getElem?_append_left h]
    rw [e]; exact h1 j h
  · have e : (L ++ M).getD j default = M.getD (j - L.length) default := by simp [List.getD, List.getElem?_append_right (Nat.le_of_not_lt h)]
    rw [e]; exact h2 _ (by rw [List.length_append] at hj; omega)
theorem fit_one {x : C3} {N : Nat} (h : x.t.size ≤ N) : FitT [x] N := fun j hj => by
  have : j = 0 := by simp at hj; exact hj
  subst this; exact h

set_option maxRecDepth 100000 in
set_option maxHeartbeats 4000000 in
theorem drawAny_any (c : Nat) (ad : Option Addr) (len cap : Nat) (w : World) (hlen : len ≤ 1048576) (hc : Cur w c ad len cap) (hs : Draw.Src w c ad len) :
    Calls Try.prog 44 #[.pointer (some ⟨c, 0, none⟩)] w (AnyDrawn w c ad len cap) := by
  have HC := Lib.hid hc
  have hcl := cur_lt hc
  have HS0 : Hid (Draw.Src (w.alloc (.cells #[.string ⟨#[]⟩, .slice none 0 0] 26)) c ad len) := Lib.hid (src_grown' hs (grown_alloc _ _ none) (fun k e => by cases e) (by omega))
  have HC0 : Hid (Cur (w.alloc (.cells #[.string ⟨#[]⟩, .slice none 0 0] 26)) c ad len cap) := Lib.hid (cur_grown hc (grown_alloc _ _ none) (by simp))
  have R0 := Lib.hid (Two.alloc w (.string ⟨#[]⟩) (.slice none 0 0) 26)
  have G0 : Hid (w.grownBy (w.alloc (.cells #[.string ⟨#[]⟩, .slice none 0 0] 26)) (some c)) := Lib.hid (grown_alloc _ _ _)
  have HCL := Lib.hid hcl
  clear hc hs hcl
  go_enter Try.func44, Try.ntmps44
  go_wp2_with fail
  refine (drawMemory_any c ad len cap _ hlen HC0.out HS0.out).mono ?_
  rintro e w1 ⟨K, L, v, rfl, hok, hsz, hown, hc1, hg1⟩
  obtain ⟨a, cp, rfl, _, _, hpl⟩ := ownE_form hown
  obtain ⟨n, hn⟩ : ∃ n, L.length = n := ⟨_, rfl⟩
  have hsw : (w.alloc (.cells #[.string ⟨#[]⟩, .slice none 0 0] 26)).heap.size = w.heap.size + 1 := by simp
  rw [hn, hsw] at hown
  rw [hn]
  have HK80 := Lib.hid hsz
  have HL80 : Hid (n ≤ 80) := Lib.hid (by have := memLen hok; omega)
  have ST : Hid (AnySt w (w1.alloc (.cells #[.string K, .slice a n cp] 26)) c ad len cap w1.heap.size K L a n cp) := Lib.hid (by
    have hba := below_alloc w1 (.cells #[.string K, .slice a n cp] 26)
    have hsz1 := hg1.size
    rw [hsw] at hsz1
    have h5 := memLen hok
    refine ⟨hok.fitT, by omega, by omega, ⟨Two.alloc w1 _ _ _, own_below hown hba, hsz1, fun p hp => ?_⟩, (two_grown R0.out hg1 (by have := HCL.out; omega)).later hba, cur_below hc1 hba (cur_lt hc1), src_below (src_grown HS0.out hg1 (by have := HCL.out; omega)) hba (Nat.le_of_lt (cur_lt hc1)), grownBy_trans (grownBy_trans G0.out hg1) (grown_of_below hba)⟩
    obtain ⟨g, e, _, hg⟩ := hpl p hp
    rw [e]; exact Nat.ne_of_lt hg)
  clear hok hsz hown hpl hc1 hg1 R0 G0 HC0 HS0 HC hn hsw
  go_wp2_with fail
  obtain ⟨b, hb⟩ : ∃ b, w1.heap.size = b := ⟨_, rfl⟩
  obtain ⟨w3, h3⟩ : ∃ x, x = w1.alloc (.cells #[.string K, .slice a n cp] 26) := ⟨_, rfl⟩
  try rw [hb]
  try rw [← h3]
  rw [hb, ← h3] at ST
  clear hb h3
  refine (below_any c ad len cap 14 w3 hlen (by decide) (by decide) ST.out.cur ST.out.src).mono ?_
  rintro e w4 ⟨y, y0, y1, rfl, hc1, hg1⟩
  have ST1 := Lib.hid (ST.out.draw HCL.out hc1 hg1)
  clear hc1 hg1 ST
  have c0 := ST1.out.box.two.c0
  have c1 := ST1.out.box.two.c1
  have p0 := ST1.out.box.two.fr (o := 0)
  have p1 := ST1.out.box.two.fr (o := 1)
  by_cases hy0 : y = 0
  · subst hy0
    have hk80 := HK80.out
    have hk81 : K.size + 1 ≤ 9223372036854775807 := by omega
    have ST2 := Lib.hid (ST1.out.setK (K2 := K ++ ⟨#[120]⟩) HCL.out (by have h9 : (⟨#[120]⟩ : ByteArray).size = 1 := rfl; have h8 := HK80.out; rw [ByteArray.size_append, h9]; omega))
    have c2 := ST2.out.box.two.c0
    have c3 := ST2.out.box.two.c1
    have r0 := ST2.out.res.c0
    have r1 := ST2.out.res.c1
    have f0 := ST2.out.res.fr (o := 0)
    have f1 := ST2.out.res.fr (o := 1)
    have q := two_set1 (two_set0 ST2.out.res (x := .string (K ++ ⟨#[120]⟩))) (x := .slice a n cp)
    have q0 := cell0_of_two q
    have q1 := cell1_of_two q
    have HP := Lib.hid (ST2.out.done HCL.out)
    clear q
    go_wp2
    refine bodyPost_ret (v := .agg #[.string (K ++ ⟨#[120]⟩), .slice a n cp]) ?_ rfl HP.out
    simp [results, Try.results44, go_sem, q0, q1]
  by_cases hy1 : y = 1
  · subst hy1
    have HLL := Lib.hid ST1.out.box.len
    have HPK : Hid (Calls Try.prog 47 #[.pointer (some ⟨c, 0, none⟩), .slice (some ⟨w4.heap.size, 0, none⟩) 5 5] (w4.drew.alloc (.cells #[.int .i64 0, .int .i64 4, .int .i64 5, .int .i64 (-1), .int .i64 100] 3)) fun e w' => ∃ z ∈ ([0, 4, 5, -1, 100] : List Int), e = .returned (.int .i64 z) ∧ Cur w' c ad len cap ∧ w4.drew.grownBy w' (some c)) := Lib.hid (pickNum_new c ad len cap 5 [0, 4, 5, -1, 100] _ _ w4.drew rfl hlen (by decide) (by decide) rfl ST1.out.drew.cur ST1.out.drew.src)
    have c1a : (w4.alloc (.cells #[.int .i64 0, .int .i64 4, .int .i64 5, .int .i64 (-1), .int .i64 100] 3)).cell? ⟨b, 1, none⟩ = some (.slice a n cp) := (ST1.out.below (below_alloc w4 _)).box.two.c1
    have HLG : Hid (∀ w5 : World, Calls Try.prog 75 #[.int .i64 16, .int .u8 7] w5 fun e w' => e = .returned (.string (longB 16 7)) ∧ Below w5.heap.size w5 w') := Lib.hid (fun w5 => long_any 16 7 w5 (by decide))
    obtain ⟨s7, hs7⟩ : ∃ s7, longB 16 7 = s7 := ⟨_, rfl⟩
    have HS7 : Hid (s7.size = 16) := Lib.hid (by rw [← hs7]; exact longB_size 16 7)
    rw [hs7] at HLG
    clear hs7
    go_wp2_with fail
    go_region_law (first
      | (refine step_appE rfl (.tmp 17) (.tmp 23) 24 24 rfl (.slice a n cp) (.slice (some ⟨w6.heap.size, 0, none⟩) 1 1) (by simp [Act.eval]) (by simp [Act.eval]) HA.out ?_
         intro v7 w7 hown7 hgrow7 hat7
         obtain ⟨a7, c7, rfl, _, _, hpl7⟩ := ownE_form hown7
         have T7 := Lib.hid (ST4.out.two_app hgrow7)
         have t1 := T7.out.c1
         have t2 := T7.out.fr (o := 1)
         have ST5 := Lib.hid (ST4.out.setL HCL.out hgrow7 hown7 hat7 (fit_app ST4.out.fit (fit_one (by show s7.size ≤ 1048600; rw [HS7.out]; decide))) (by have h1 := HL80.out; have h2 := HLL.out; simp only [List.length_append, List.length_cons, List.length_nil]; omega))
         clear hown7 hgrow7 hat7 hpl7)
      | (go_simp; go_at_call 47; refine HPK.out.mono ?_; rintro e w5 ⟨z, hz, rfl, hc5, hg5⟩
         have ST2 := Lib.hid (ST1.out.drew.draw HCL.out hc5 hg5)
         have d1 := ST2.out.box.two.c1
         clear hc5 hg5)
      | (go_simp; go_at_call 75; refine (HLG.out w5).mono ?_; rintro e w6 ⟨rfl, hb6⟩
         have ST3 := Lib.hid (ST2.out.below hb6)
         have d2 := ST3.out.box.two.c1
         have hbd : Below w6.heap.size w6 (w6.alloc (.cells #[.int .i64 z, .string s7, .bool false] 68)) := (Below.refl _ _).alloc (Nat.le_refl _) _
         have hsrc : SrcC (w6.alloc (.cells #[.int .i64 z, .string s7, .bool false] 68)) (some ⟨w6.heap.size, 0, none⟩) 1 [⟨z, s7, false⟩] := by
           have h := World.ownsRow_lit (base := 0) (e := 68) (size := 3) w6 #[.int .i64 z, .string s7, .bool false] 1 (Nat.zero_le _) (by decide) rfl
           have e : (#[.int .i64 z, .string s7, .bool false] : Array Value).toList = cellsE encC [⟨z, s7, false⟩] := by rw [cellsE_one, encC_cells]
           rw [e] at h
           exact srcC_of_own h
         have ST4 := Lib.hid (ST3.out.below hbd)
         have HA := Lib.hid (appC _ 24 (w.heap.size + 1) (.slice a n cp) n L ST4.out.box.own (by have h1 := ST4.out.box.low; have h2 := ST4.out.box.two.lt; omega) (some ⟨w6.heap.size, 0, none⟩) 1 1 [⟨z, s7, false⟩] hsrc (by have := HL80.out; omega))
         have d3 := ST4.out.box.two.c1
         clear hb6 hsrc hbd))
    all_goals
      have s0 := ST5.out.box.two.c0
      have s1 := ST5.out.box.two.c1
      have r0 := ST5.out.res.c0
      have r1 := ST5.out.res.c1
      have f0 := ST5.out.res.fr (o := 0)
      have f1 := ST5.out.res.fr (o := 1)
      have q := two_set1 (two_set0 ST5.out.res (x := .string K)) (x := .slice a7 (n + 1) c7)
      have q0 := cell0_of_two q
      have q1 := cell1_of_two q
      have HP := Lib.hid (ST5.out.done HCL.out)
      clear q
      go_wp2
      refine bodyPost_ret (v := .agg #[.string K, .slice a7 (n + 1) c7]) ?_ rfl HP.out
      simp [results, Try.results44, go_sem, q0, q1]
  by_cases hy2 : y = 2
  · subst hy2
    have hbd0 : Below w4.heap.size w4 (w4.alloc (.cells #[] 68)) := below_alloc w4 _
    have hbd1 : Below w4.heap.size w4 ((w4.alloc (.cells #[] 68)).alloc (.cells #[.int .i64 0, .string ⟨#[115, 104, 111, 114, 116]⟩, .bool false] 68)) := hbd0.alloc (by simp) _
    have hsrc : SrcC ((w4.alloc (.cells #[] 68)).alloc (.cells #[.int .i64 0, .string ⟨#[115, 104, 111, 114, 116]⟩, .bool false] 68)) (some ⟨w4.heap.size + 1, 0, none⟩) 1 [⟨0, ⟨#[115, 104, 111, 114, 116]⟩, false⟩] := by
      have h := World.ownsRow_lit (base := 0) (e := 68) (size := 3) (w4.alloc (.cells #[] 68)) #[.int .i64 0, .string ⟨#[115, 104, 111, 114, 116]⟩, .bool false] 1 (Nat.zero_le _) (by decide) rfl
      have e : (#[.int .i64 0, .string ⟨#[115, 104, 111, 114, 116]⟩, .bool false] : Array Value).toList = cellsE encC [⟨0, ⟨#[115, 104, 111, 114, 116]⟩, false⟩] := by rw [cellsE_one, encC_cells]
      have e2 : (w4.alloc (.cells #[] 68)).heap.size = w4.heap.size + 1 := by simp
      rw [e, e2] at h
      exact srcC_of_own h
    have ST4 := Lib.hid (ST1.out.below hbd1)
    have HZ0 := Lib.hid ST1.out.box.two.lt
    have HZ1 : Hid (w.heap.size + 1 ≤ w4.heap.size) := Lib.hid (by have := ST1.out.box.low; have := ST1.out.box.two.lt; omega)
    have HZ2 : Hid (((w4.alloc (.cells #[] 68)).alloc (.cells #[.int .i64 0, .string ⟨#[115, 104, 111, 114, 116]⟩, .bool false] 68)).heap.size = w4.heap.size + 2) := Lib.hid (by simp)
    have HA := Lib.hid (appC _ 24 w4.heap.size (.slice (some ⟨w4.heap.size, 0, none⟩) 0 0) 0 [] (own_below (emptyC w4 w4.heap.size (Nat.le_refl _)) (below_alloc _ (.cells #[.int .i64 0, .string ⟨#[115, 104, 111, 114, 116]⟩, .bool false] 68))) (by rw [HZ2.out]; omega) (some ⟨w4.heap.size + 1, 0, none⟩) 1 1 [⟨0, ⟨#[115, 104, 111, 114, 116]⟩, false⟩] hsrc (by decide))
    have HSH : Hid (∀ (a7 : Option Addr) (c7 : Nat) (w7 : World), _ → _ → _ → _) := Lib.hid (fun a7 c7 w7 ho hg hat => ST1.out.short (a7 := a7) (c7 := c7) (w7 := w7) (L7 := [] ++ [⟨0, ⟨#[115, 104, 111, 114, 116]⟩, false⟩]) HCL.out hbd1 hg ho hat (fit_one (by decide)) (by decide))
    clear c0 c1 p0 p1 hbd0 hbd1 hsrc
    go_wp2_with (at_builtin; refine wpList_appE rfl _ _ _ _ rfl _ _ rfl rfl HA.out ?_; intro v7 w7 hown7 hgrow7 hat7; obtain ⟨a7, c7, rfl, _, _, hpl7⟩ := ownE_form hown7; obtain ⟨T7, ST5⟩ := HSH.out a7 c7 w7 hown7 hgrow7 hat7; have t1 := T7.c1; have t2 := T7.fr (o := 1); have s0 := ST5.box.two.c0; have s1 := ST5.box.two.c1; have r0 := ST5.res.c0; have r1 := ST5.res.c1; have f0 := ST5.res.fr (o := 0); have f1 := ST5.res.fr (o := 1); have q := two_set1 (two_set0 ST5.res (x := .string K)) (x := .slice a7 (0 + 1) c7); have q0 := cell0_of_two q; have q1 := cell1_of_two q; have HP := Lib.hid (ST5.done HCL.out); clear q T7 ST5 hown7 hgrow7 hat7 hpl7)
    refine bodyPost_ret (v := .agg #[.string K, .slice _ (0 + 1) _]) ?_ rfl HP.out
    simp [results, Try.results44, go_sem, q0, q1]
  · skip
    have r0 := ST1.out.res.c0
    have r1 := ST1.out.res.c1
    have f0 := ST1.out.res.fr (o := 0)
    have f1 := ST1.out.res.fr (o := 1)
    have q := two_set1 (two_set0 ST1.out.res (x := .string K)) (x := .slice a n cp)
    have q0 := cell0_of_two q
    have q1 := cell1_of_two q
    have HP := Lib.hid (ST1.out.done HCL.out)
    clear q
    go_wp2
    refine bodyPost_ret (v := .agg #[.string K, .slice a n cp]) ?_ rfl HP.out
    simp [results, Try.results44, go_sem, q0, q1]
end Go.Proofs.Ytpahihcnmpeenaa
namespace Go.Proofs.Ytpahihcnmpeenaa
open Go.RowKit Go.Proofs.Ytpahihcnmpeenaa.Hexa
namespace Draw

set_option maxRecDepth 100000 in
set_option maxHeartbeats 1000000 in
theorem once_any (c : Nat) (ad : Option Addr) (len cap : Nat) (n : Int) (w : World) (hlen : len ≤ 1048576) (hn : 0 < n) (hn2 : n ≤ 256) (hc : Cur w c ad len cap) (hs : Src w c ad len) :
    Calls Try.prog 76 #[.pointer (some ⟨c, 0, none⟩), .int .i64 n] w (DrawPost (fun v => ∃ b : Bool, v = .bool b) w c ad len cap) := by
  have HC := Lib.hid hc
  have HS := Lib.hid hs
  clear hc hs
  go_enter Try.func76, Try.ntmps76
  go_wp2_with fail
  refine (below_small c ad len cap n w hlen hn hn2 HC.out HS.out).mono ?_
  rintro e w1 ⟨x, x0, x1, rfl, hc1, hg1⟩
  have C1 := Lib.hid hc1
  have G1 := Lib.hid hg1
  clear hc1 hg1
  go_wp2
  go_ret
  exact ⟨_, ⟨_, rfl⟩, rfl, C1.out, G1.out⟩

set_option maxRecDepth 100000 in
set_option maxHeartbeats 1000000 in
theorem place_any (c : Nat) (ad : Option Addr) (len cap : Nat) (n : Int) (w : World) (hlen : len ≤ 1048576) (hn : 0 < n) (hn2 : n ≤ 1000) (hc : Cur w c ad len cap) (hs : Src w c ad len) :
    Calls Try.prog 45 #[.pointer (some ⟨c, 0, none⟩), .int .i64 n] w (DrawPost (fun v => ∃ z : Int, v = .int .i64 z ∧ -9223372036854775808 ≤ z ∧ z ≤ 9223372036854775807) w c ad len cap) := by
  have HC := Lib.hid hc
  have HS := Lib.hid hs
  clear hc hs
  go_enter Try.func45, Try.ntmps45
  go_wp2_with fail
  refine (once_any c ad len cap 15 w hlen (by decide) (by decide) HC.out HS.out).mono ?_
  rintro e w1 ⟨_, ⟨o, rfl⟩, rfl, hc1, hg1⟩
  have C1 := Lib.hid hc1
  have S1 := Lib.hid (src_grown HS.out hg1 (cur_lt HC.out))
  have G1 := Lib.hid hg1
  clear hc1 hg1
  cases o with
  | true =>
    go_wp2_with fail
    refine (pickNum_new c ad len cap 5 [-1, n, n + 1, 9223372036854775807, -9223372036854775808] _ _ w1 rfl hlen (by decide) (by decide) rfl C1.out S1.out).mono ?_
    rintro e w2 ⟨z, hz, rfl, hc2, hg2⟩
    have HP : Hid (DrawPost (fun v => ∃ z : Int, v = .int .i64 z ∧ -9223372036854775808 ≤ z ∧ z ≤ 9223372036854775807) w c ad len cap (.returned (.int .i64 z)) w2) := Lib.hid ⟨_, ⟨z, rfl, by simp at hz; omega, by simp at hz; omega⟩, rfl, hc2, grownBy_trans G1.out hg2⟩
    clear hz hc2 hg2
    go_wp2
    go_ret
    exact HP.out
  | false =>
    go_wp2_with fail
    refine (below_any c ad len cap n w1 hlen hn (by omega) C1.out S1.out).mono ?_
    rintro e w2 ⟨z, z0, z1, rfl, hc2, hg2⟩
    have HP : Hid (DrawPost (fun v => ∃ z : Int, v = .int .i64 z ∧ -9223372036854775808 ≤ z ∧ z ≤ 9223372036854775807) w c ad len cap (.returned (.int .i64 z)) w2) := Lib.hid ⟨_, ⟨z, rfl, by omega, by omega⟩, rfl, hc2, grownBy_trans G1.out hg2⟩
    clear hc2 hg2
    go_wp2
    go_ret
    exact HP.out
end Draw
end Go.Proofs.Ytpahihcnmpeenaa
