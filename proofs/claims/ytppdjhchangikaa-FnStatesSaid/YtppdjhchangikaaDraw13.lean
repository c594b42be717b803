/- A drawn list of page states. -/
import Derived.Test.YtppdjhchangikaaPlace
import Derived.Test.YtppdjhchangikaaOwnC
namespace Go.Proofs.Ytppdjhchangikaa
open Go.RowKit Go.Proofs.Ytppdjhchangikaa.Hexa Go.Proofs.Ytppdjhchangikaa.Parts
namespace Draw

theorem OwnT_wide {w : World} {e : TypeId} {B T n B' T' : Nat} {v : Value} {xs : List Value} (h : OwnT e w B T v n xs) (hB : B' ≤ B) (hT : T ≤ T') : OwnT e w B' T' v n xs := by
  obtain ⟨a, c, q, rfl, hl, h1, h2, h⟩ := h
  exact ⟨a, c, q, rfl, hl, h1, h2, h.imp id fun h => ⟨⟨h.1.1, h.1.2.imp id fun ⟨g, cap, cur, e1, e2, e3⟩ => ⟨g, cap, cur, e1, Nat.le_trans hB e2, e3⟩⟩, fun g hg => Nat.lt_of_lt_of_le (h.2 g hg) hT⟩⟩
theorem own_keptG {w w' : World} {c B e k n : Nat} {v : Value} {xs : List Value} (h : w.ownsRow B e k v n xs) (hg : w.grownBy w' (some c)) (hc : c < B) : w'.ownsRow B e k v n xs :=
  ⟨h.1, h.2.imp id fun ⟨g, cp, cur, hv, hb, hh, r⟩ => ⟨g, cp, cur, hv, hb, by rw [hg.block g (Array.getElem?_eq_some_iff.1 hh).1 (fun e => by have := Option.some.inj e; omega)]; exact hh, r⟩⟩
/-- A drawn list of ints of the call's own. -/
def IntsDrawn (Q : List Int → Prop) (w : World) (c : Nat) (ad : Option Addr) (len cap : Nat) (e : Ending) (w' : World) : Prop :=
  ∃ v L, Q L ∧ e = .returned v ∧ w'.ownsRow w.heap.size 3 1 v L.length (icells L) ∧ Cur w' c ad len cap ∧ w.grownBy w' (some c)
/-- What a draw that goes on appending carries. -/
structure DrI (w wr : World) (c : Nat) (ad : Option Addr) (len cap : Nat) (v : Value) (L : List Int) : Prop where
  own : wr.ownsRow w.heap.size 3 1 v L.length (icells L)
  cur : Cur wr c ad len cap
  src : Src wr c ad len
  cl : c < w.heap.size
  grown : w.grownBy wr (some c)
section
variable {w wr w' : World} {c : Nat} {ad : Option Addr} {len cap : Nat} {v : Value} {L : List Int}
theorem DrI.draw (h : DrI w wr c ad len cap v L) (hc : Cur w' c ad len cap) (hg : wr.grownBy w' (some c)) : DrI w w' c ad len cap v L :=
  ⟨own_keptG h.own hg h.cl, hc, src_grown h.src hg (cur_lt h.cur), h.cl, grownBy_trans h.grown hg⟩
theorem DrI.app (h : DrI w wr c ad len cap v L) {o : Obj} {v2 : Value} {x : Int} (hown : w'.ownsRow w.heap.size 3 1 v2 (L.length + 1) (icells L ++ [.int .i64 x])) (hg : (wr.alloc o).grownBy w' v.ownBlock) : DrI w w' c ad len cap v2 (L ++ [x]) := by
  have hb : Below w.heap.size (wr.alloc o) w' := (Below.refl _ _).grown hg (by have := h.grown.size; simp; omega) (fun k e => (h.own.lt k e).1)
  have hb' : Below w.heap.size wr w' := ((Below.refl _ wr).alloc (by have := h.grown.size; omega) o).trans hb
  exact ⟨by simpa [icells, List.length_append] using hown, cur_below h.cur hb' h.cl, src_below h.src hb' (Nat.le_of_lt h.cl), h.cl, grown_below h.grown hb' (Nat.le_refl _)⟩
theorem DrI.start (w : World) (hc : Cur w c ad len cap) (hs : Src w c ad len) : DrI w (w.alloc (.cells #[] 3)) c ad len cap (.slice (some ⟨w.heap.size, 0, none⟩) 0 0) [] :=
  ⟨World.ownsRow_lit w #[] 0 (Nat.le_refl _) (by decide) rfl, cur_grown hc (grown_alloc _ _ none) (by simp), src_grown' hs (grown_alloc _ _ none) (fun k e => by cases e) (Nat.le_of_lt (cur_lt hc)), cur_lt hc, grown_alloc _ _ _⟩
theorem DrI.set (h : DrI w wr c ad len cap v L) {g n cp : Nat} (hv : v = .slice (some ⟨g, 0, none⟩) n cp) (j : Nat) (x : Int) : DrI w (wr.setCell ⟨g, j, none⟩ (.int .i64 x)) c ad len cap v (L.set j x) := by
  subst hv
  have hg := h.own.lt g rfl
  have hb : Below w.heap.size wr (wr.setCell ⟨g, j, none⟩ (.int .i64 x)) := (Below.refl _ _).setCell hg.1 _
  have ho : n = L.length := by have := h.own.2; rcases this with ⟨e, _⟩ | ⟨_, _, _, e, _⟩ <;> cases e <;> rfl
  subst ho
  refine ⟨?_, cur_below h.cur hb h.cl, src_below h.src hb (Nat.le_of_lt h.cl), h.cl, grown_below h.grown hb (Nat.le_refl _)⟩
  have h9 := (h.own.stored j (.int .i64 x)).1
  rw [List.length_set, show icells (L.set j x) = (icells L).set j (.int .i64 x) by simp [icells]]
  exact h9
end

set_option maxRecDepth 100000 in
set_option maxHeartbeats 1000000 in
theorem list13_any (c : Nat) (ad : Option Addr) (len cap : Nat) (w : World) (hlen : len ≤ 1048576) (hc : Cur w c ad len cap) (hs : Src w c ad len) :
    Calls Try.prog 45 #[.pointer (some ⟨c, 0, none⟩)] w (IntsDrawn (fun L => 1 ≤ L.length ∧ L.length ≤ 12) w c ad len cap) := by
  obtain ⟨i0, hi, hz0, hz1, hz2⟩ := info_parts infoInt
  have HD0 := Lib.hid (DrI.start w hc hs)
  clear hc hs
  go_enter Try.func45, Try.ntmps45
  go_wp2
  go_loopw [3, 4] (fun v iv wr => ∃ (k : Nat) (L : List Int), k ≤ 12 ∧ iv = .int .i64 k ∧ Hid (L.length = k) ∧ Hid (DrI w wr c ad len cap v L)) (fun _ iv _ => 12 - (intOf iv).toNat)
  case atStart => exact ⟨0, [], Nat.zero_le _, rfl, Lib.hid rfl, HD0⟩
  case round =>
    obtain ⟨k, L, hk, rfl, HL, HD⟩ := hrel
    clear HD0
    go_wp2_with fail
    refine (below_small c ad len cap 12 _ hlen (by decide) (by decide) HD.out.cur HD.out.src).mono ?_
    rintro e w1 ⟨x, x0, x1, rfl, hc1, hg1⟩
    have D1 := Lib.hid (HD.out.draw hc1 hg1)
    clear hc1 hg1 HD
    by_cases hlt : (k : Int) < 1 + x
    · go_wp2_with fail
      refine (below_small c ad len cap 3 _ hlen (by decide) (by decide) D1.out.cur D1.out.src).mono ?_
      rintro e w2 ⟨y, y0, y1, rfl, hc2, hg2⟩
      have D2 := Lib.hid (D1.out.draw hc2 hg2)
      have hsz : w.heap.size ≤ w2.heap.size := D2.out.grown.size
      have hll : L.length ≤ 12 := by rw [HL.out]; exact hk
      clear hc2 hg2 D1
      go_wp2_with (at_builtin; refine wpList_append_own _ rfl (.tmp 13) (.tmp 16) 24 rfl w.heap.size 3 i0 (.int .i64 0) 1 8 Try.underlying24 hi hz0 hz1 hz2 rfl (by decide) _ _ _ rfl (D2.out.own.alloc _) ⟨w2.heap.size, 0, none⟩ 1 1 [.int .i64 y] rfl rfl (World.news_of_block (heap_alloc_new _ _)) (by simp [Value.oneCell']) (by unfold maxLen; omega) (by omega) (by simp; omega) ?_; intro v2 w3 hown3 hgrow3 hn3)
      have D3 := Lib.hid (D2.out.app hown3 hgrow3)
      have L3 : Hid ((L ++ [y]).length = k + 1) := Lib.hid (by rw [List.length_append, HL.out]; rfl)
      clear hown3 hgrow3 hn3 D2 hll hsz
      go_wp2
      go_roundw
      case rel => exact ⟨k + 1, L ++ [y], by omega, by go_num, L3, D3⟩
      case measure => (simp [intOf]; try omega)
    · have HP : Hid (1 ≤ L.length ∧ L.length ≤ 12) := Lib.hid (by rw [HL.out]; omega)
      go_wp2
      go_ret
      exact ⟨_, L, HP.out, rfl, D1.out.own, D1.out.cur, D1.out.grown⟩

set_option maxRecDepth 100000 in
set_option maxHeartbeats 2000000 in
theorem any13_any (c : Nat) (ad : Option Addr) (len cap : Nat) (w : World) (hlen : len ≤ 1048576) (hc : Cur w c ad len cap) (hs : Src w c ad len) :
    Calls Try.prog 35 #[.pointer (some ⟨c, 0, none⟩)] w (IntsDrawn (fun L => L.length ≤ 13) w c ad len cap) := by
  obtain ⟨i0, hi, hz0, hz1, hz2⟩ := info_parts infoInt
  have HC := Lib.hid hc
  have HS := Lib.hid hs
  clear hc hs
  go_enter Try.func35, Try.ntmps35
  go_wp2_with fail
  refine (list13_any c ad len cap _ hlen HC.out HS.out).mono ?_
  rintro e w1 ⟨v, L, hL, rfl, ho, hc1, hg1⟩
  have D1 : Hid (DrI w w1 c ad len cap v L) := Lib.hid ⟨ho, hc1, src_grown HS.out hg1 (cur_lt HC.out), cur_lt HC.out, hg1⟩
  have HL := Lib.hid hL
  clear ho hc1 hg1 hL HC HS
  go_wp2_with fail
  refine (below_small c ad len cap 8 _ hlen (by decide) (by decide) D1.out.cur D1.out.src).mono ?_
  rintro e w2 ⟨x, x0, x1, rfl, hc2, hg2⟩
  have D2 := Lib.hid (D1.out.draw hc2 hg2)
  clear hc2 hg2 D1
  have fine : ∀ (v : Value) (L : List Int) (w' : World), DrI w w' c ad len cap v L → L.length ≤ 13 → IntsDrawn (fun L => L.length ≤ 13) w c ad len cap (.returned v) w' := fun _ _ _ h hl => ⟨_, _, hl, rfl, h.own, h.cur, h.grown⟩
  have FIN := Lib.hid fine
  clear fine
  rcases (by omega : x = 0 ∨ x = 1 ∨ x = 2 ∨ 2 < x) with rfl | rfl | rfl | hx
  · obtain ⟨a, cp, rfl, hcp, hnc, _⟩ := own_form D2.out.own
    have h1 : 1 ≤ L.length := HL.out.1
    obtain ⟨g, rfl⟩ : ∃ g, a = some ⟨g, 0, none⟩ := by
      rcases D2.out.own.2 with ⟨e, h⟩ | ⟨g, _, _, e, _⟩
      · omega
      · cases e; exact ⟨_, rfl⟩
    have hc63 : cp ≤ 9223372036854775807 := Nat.le_trans hcp (by decide)
    go_wp2_with fail
    refine (pickNum_new c ad len cap 2 [3, -1] _ _ w2 rfl hlen (by decide) (by decide) rfl D2.out.cur D2.out.src).mono ?_
    rintro e w3 ⟨z, _, rfl, hc3, hg3⟩
    have D3 := Lib.hid (D2.out.draw hc3 hg3)
    have D4 := Lib.hid (D3.out.set rfl 0 z)
    obtain ⟨u, hu⟩ := ownE_cell D3.out.own (j := 0) (by omega)
    have hfr := D3.out.own.frozenAt 0
    have h4 : Hid ((L.set 0 z).length ≤ 13) := Lib.hid (by rw [List.length_set]; have := HL.out; omega)
    clear hc3 hg3
    go_wp2
    go_ret
    exact FIN.out _ _ _ D4.out h4.out
  · go_wp2
    go_loopw [3] (fun v wr => ∃ (k : Nat) (L : List Int), k ≤ 13 ∧ Hid (L.length = k) ∧ (∃ a cp, v = .slice a k cp) ∧ Hid (DrI w wr c ad len cap v L)) (fun v _ => 13 - (match v with | .slice _ k _ => k | _ => 0))
    case atStart =>
      obtain ⟨a, cp, rfl, hcp, hnc, _⟩ := own_form D2.out.own
      exact ⟨L.length, L, by have := HL.out; omega, Lib.hid rfl, ⟨a, cp, rfl⟩, D2⟩
    case round =>
      obtain ⟨k, M, hk, HM, ⟨a, cp, rfl⟩, HD⟩ := hrel
      clear D2
      have hsz : w.heap.size ≤ wr.heap.size := HD.out.grown.size
      by_cases hlt : k < 13
      · have hll : M.length ≤ 13 := by rw [HM.out]; exact hk
        go_wp2_with (at_builtin; refine wpList_append_own _ rfl (.tmp 20) (.tmp 21) 24 rfl w.heap.size 3 i0 (.int .i64 0) 1 8 Try.underlying24 hi hz0 hz1 hz2 rfl (by decide) _ _ _ rfl (HD.out.own.alloc _) ⟨wr.heap.size, 0, none⟩ 1 1 [.int .i64 0] rfl rfl (World.news_of_block (heap_alloc_new _ _)) (by simp [Value.oneCell']) (by unfold maxLen; omega) (by omega) (by simp; omega) ?_; intro v2 w3 hown3 hgrow3 hn3)
        have D3 := Lib.hid (HD.out.app hown3 hgrow3)
        have L3 : Hid ((M ++ [0]).length = k + 1) := Lib.hid (by rw [List.length_append, HM.out]; rfl)
        obtain ⟨a3, cp3, rfl, _, _, _⟩ := own_form hown3
        rw [HM.out] at D3 ⊢
        clear hown3 hgrow3 hn3 HD hll hsz
        go_wp2
        go_roundw
        case rel => exact ⟨k + 1, M ++ [0], by omega, L3, ⟨a3, cp3, rfl⟩, D3⟩
        case measure => (show 13 - (k + 1) < 13 - k; omega)
      · have h9 : Hid (M.length ≤ 13) := Lib.hid (by rw [HM.out]; exact hk)
        go_wp2
        go_ret
        exact FIN.out _ _ _ HD.out h9.out
  · have D3 : Hid (DrI w (w2.alloc (.cells #[] 3)) c ad len cap (.slice (some ⟨w2.heap.size, 0, none⟩) 0 0) []) := Lib.hid ⟨World.ownsRow_lit w2 #[] 0 D2.out.grown.size (by decide) rfl, cur_grown D2.out.cur (grown_alloc _ _ none) (by simp), src_grown' D2.out.src (grown_alloc _ _ none) (fun k e => by cases e) (Nat.le_of_lt (cur_lt D2.out.cur)), D2.out.cl, grownBy_trans D2.out.grown (grown_alloc _ _ _)⟩
    go_wp2
    go_ret
    exact FIN.out _ _ _ D3.out (Nat.zero_le _)
  · have e0 : (x == 0) = false := by simp; omega
    have e1 : (x == 1) = false := by simp; omega
    have e2 : (x == 2) = false := by simp; omega
    have h9 : Hid (L.length ≤ 13) := Lib.hid (by have := HL.out; omega)
    clear hx
    go_wp2
    go_ret
    exact FIN.out _ _ _ D2.out h9.out

/-- What DrawWithState returns. -/
def WithDrawn (w : World) (e : Ending) (w' : World) : Prop :=
  ∃ v1 v2 L P s, e = .returned (.tuple #[v1, v2, .int .i64 s]) ∧ L.length ≤ 13 ∧ P.length ≤ 4 ∧ OwnT 3 w' w.heap.size w'.heap.size v1 L.length (icells L) ∧ OwnT 3 w' w.heap.size w'.heap.size v2 P.length (icells P) ∧ Below w.heap.size w w'

set_option maxRecDepth 100000 in
set_option maxHeartbeats 2000000 in
theorem drawWith_any (ad : Option Addr) (len cap : Nat) (w : World) (hlen : len ≤ 1048576) (hs : Src w w.heap.size ad len) :
    Calls Try.prog 11 #[.slice ad len cap] w (WithDrawn w) := by
  obtain ⟨i0, hi, hz0, hz1, hz2⟩ := info_parts infoInt
  have HS := Lib.hid hs
  clear hs
  go_enter Try.func11, Try.ntmps11
  go_wp2_with fail
  refine (new_any ad len cap w hlen HS.out).mono ?_
  rintro e w1 ⟨rfl, h, rfl⟩
  have C1 : Hid (Cur (w.alloc (.cells #[.slice ad len cap, .int .i64 0, .int .i64 h] 55)) w.heap.size ad len cap) := Lib.hid ⟨0, h, Nat.zero_le _, heap_alloc_new w _⟩
  have S1 : Hid (Src (w.alloc (.cells #[.slice ad len cap, .int .i64 0, .int .i64 h] 55)) w.heap.size ad len) := Lib.hid (src_grown' HS.out (grown_alloc _ _ none) (fun k e => by cases e) (Nat.le_refl _))
  have B1 : Hid (Below w.heap.size w (w.alloc (.cells #[.slice ad len cap, .int .i64 0, .int .i64 h] 55))) := Lib.hid ((Below.refl _ _).alloc (Nat.le_refl _) _)
  generalize w.alloc (.cells #[.slice ad len cap, .int .i64 0, .int .i64 h] 55) = W1 at C1 S1 B1 ⊢
  go_wp2_with fail
  refine (any13_any w.heap.size ad len cap W1 hlen C1.out S1.out).mono ?_
  rintro e w2 ⟨v, L, hL, rfl, ho, hc2, hg2⟩
  have S2 := Lib.hid (src_grown S1.out hg2 (cur_lt C1.out))
  have C2 := Lib.hid hc2
  have B2 := Lib.hid (B1.out.grown hg2 (B1.out.size) (fun k e => by simp at e; omega))
  have W12 : Hid (W1.heap.size ≤ w2.heap.size) := Lib.hid hg2.size
  have CW1 : Hid (w.heap.size < W1.heap.size) := Lib.hid (cur_lt C1.out)
  have OL := Lib.hid (ownT_of_own ho)
  have HL := Lib.hid hL
  clear ho hc2 hg2 hL C1 S1 B1
  have HD0 := Lib.hid (DrI.start w2 C2.out S2.out)
  have OL0 : Hid (OwnT 3 (w2.alloc (.cells #[] 3)) W1.heap.size w2.heap.size v L.length (icells L)) := Lib.hid (OL.out.below ((Below.refl _ _).alloc (Nat.le_refl _) _))
  obtain ⟨c, hc⟩ : ∃ c, w.heap.size = c := ⟨_, rfl⟩
  have HCC := Lib.hid hc
  rw [hc] at C2 S2 HD0 B2 CW1 ⊢
  clear hc
  go_wp2
  go_loopw [7, 8] (fun v2 iv wr => ∃ (k : Nat) (P : List Int), k ≤ 4 ∧ iv = .int .i64 k ∧ Hid (P.length = k) ∧ Hid (DrI w2 wr c ad len cap v2 P) ∧ Hid (OwnT 3 wr W1.heap.size w2.heap.size v L.length (icells L))) (fun _ iv _ => 4 - (intOf iv).toNat)
  case atStart => exact ⟨0, [], Nat.zero_le _, rfl, Lib.hid rfl, HD0, OL0⟩
  case round =>
    obtain ⟨k, P, hk, rfl, HP, HD, OR⟩ := hrel
    clear HD0 OL0
    go_wp2_with fail
    refine (below_small c ad len cap 5 _ hlen (by decide) (by decide) HD.out.cur HD.out.src).mono ?_
    rintro e w3 ⟨x, x0, x1, rfl, hc3, hg3⟩
    have D3 := Lib.hid (HD.out.draw hc3 hg3)
    have OR3 := Lib.hid (OwnT.kept OR.out (fun g h1 h2 => hg3.block g (Nat.lt_of_lt_of_le h2 HD.out.grown.size) (fun e => by have := CW1.out; have := Option.some.inj e; omega)))
    clear hc3 hg3 HD OR
    by_cases hlt : (k : Int) < x
    · go_wp2_with fail
      refine (place_any c ad len cap 12 _ hlen (by decide) (by decide) D3.out.cur D3.out.src).mono ?_
      rintro e w4 ⟨_, ⟨y, rfl, _⟩, rfl, hc4, hg4⟩
      have D4 := Lib.hid (D3.out.draw hc4 hg4)
      have OR4 := Lib.hid (OwnT.kept OR3.out (fun g h1 h2 => hg4.block g (Nat.lt_of_lt_of_le h2 D3.out.grown.size) (fun e => by have := CW1.out; have := Option.some.inj e; omega)))
      have hsz : w2.heap.size ≤ w4.heap.size := D4.out.grown.size
      have hll : P.length ≤ 4 := by rw [HP.out]; exact hk
      clear hc4 hg4 D3 OR3
      go_wp2_with (at_builtin; refine wpList_append_own _ rfl (.tmp 20) (.tmp 23) 24 rfl w2.heap.size 3 i0 (.int .i64 0) 1 8 Try.underlying24 hi hz0 hz1 hz2 rfl (by decide) _ _ _ rfl (D4.out.own.alloc _) ⟨w4.heap.size, 0, none⟩ 1 1 [.int .i64 y] rfl rfl (World.news_of_block (heap_alloc_new _ _)) (by simp [Value.oneCell']) (by unfold maxLen; omega) (by omega) (by simp; omega) ?_; intro v2 w5 hown5 hgrow5 hn5)
      have D5 := Lib.hid (D4.out.app hown5 hgrow5)
      have L5 : Hid ((P ++ [y]).length = k + 1) := Lib.hid (by rw [List.length_append, HP.out]; rfl)
      have OR5 := Lib.hid (OwnT.kept OR4.out (w' := w5) (fun g h1 h2 => by
        rw [hgrow5.block g (by simp; omega) (fun e => by have := (D4.out.own.lt g e.symm).1; omega)]
        exact Below.heap_alloc _ _ _ (by omega)))
      clear hown5 hgrow5 hn5 D4 OR4 hll hsz
      go_wp2
      go_roundw
      case rel => exact ⟨k + 1, P ++ [y], by omega, by go_num, L5, D5, OR5⟩
      case measure => (simp [intOf]; try omega)
    · go_wp2_with fail
      refine (below_small c ad len cap 3 _ hlen (by decide) (by decide) D3.out.cur D3.out.src).mono ?_
      rintro e w4 ⟨y, y0, y1, rfl, hc4, hg4⟩
      have D4 := Lib.hid (D3.out.draw hc4 hg4)
      have OR4 := Lib.hid (OwnT.kept OR3.out (fun g h1 h2 => hg4.block g (Nat.lt_of_lt_of_le h2 D3.out.grown.size) (fun e => by have := CW1.out; have := Option.some.inj e; omega)))
      have PF : Hid (P.length ≤ 4) := Lib.hid (by rw [HP.out]; exact hk)
      clear hc4 hg4 D3 OR3
      go_wp2
      refine bodyPost_ret (v := .tuple #[v, u7, .int .i64 y]) ?_ rfl ?_
      · simp [results, Try.results11, go_sem]
      · have hg4 : w2.heap.size ≤ w4.heap.size := D4.out.grown.size
        refine ⟨v, u7, L, P, y, rfl, HL.out, PF.out, ?_, ?_, ?_⟩
        · exact OwnT_wide OR4.out (by have := HCC.out; have := CW1.out; omega) hg4
        · exact OwnT_wide (ownT_of_own D4.out.own) (by have := HCC.out; have := CW1.out; have := W12.out; omega) (Nat.le_refl _)
        · rw [HCC.out]
          exact B2.out.grown D4.out.grown (by have := CW1.out; have := W12.out; omega) (fun k e => by have := Option.some.inj e; omega)
end Draw
end Go.Proofs.Ytppdjhchangikaa
