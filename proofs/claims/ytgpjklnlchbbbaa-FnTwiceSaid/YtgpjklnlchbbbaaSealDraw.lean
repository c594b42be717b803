/- The draws of chapter 9: a text out of a list; a list of sealings. -/
import Derived.Test.YtgpjklnlchbbbaaDrawLem
import Derived.Test.YtgpjklnlchbbbaaSealB
import Derived.OwnWalk
namespace Go.Proofs.Ytgpjklnlchbbbaa
open Go.RowKit Go.Proofs.Ytgpjklnlchbbbaa.Hexa
namespace Draw

set_option maxRecDepth 100000 in
set_option maxHeartbeats 1000000 in
theorem pickText_any (c : Nat) (ad : Option Addr) (len cap : Nat) (g n m : Nat) (zs : List ByteArray) (w : World) (hlen : len ≤ 1048576) (hn : 0 < n) (hn2 : n ≤ 200) (hz : zs.length = n) (hcell : ∀ j, j < n → w.cell? ⟨g, j, none⟩ = some (.string (zs.getD j ByteArray.empty))) (hg : g < w.heap.size) (hgc : g ≠ c) (hc : Cur w c ad len cap) (hs : Src w c ad len) :
    Calls Try.prog 29 #[.pointer (some ⟨c, 0, none⟩), .slice (some ⟨g, 0, none⟩) n m] w (DrawPost (fun v => ∃ z ∈ zs, v = .string z) w c ad len cap) := by
  have HC := Lib.hid hc
  have HS := Lib.hid hs
  have HCE := Lib.hid hcell
  clear hc hs hcell
  go_enter Try.func29, Try.ntmps29
  go_wp2_with fail
  refine (below_small c ad len cap n w hlen (by omega) (by omega) HC.out HS.out).mono ?_
  rintro e w1 ⟨x, x0, x1, rfl, hc1, hg1⟩
  have HC1 := Lib.hid hc1
  have HG1 := Lib.hid hg1
  obtain ⟨k, rfl⟩ : ∃ k : Nat, x = k := ⟨x.toNat, by omega⟩
  have hk : k < n := by omega
  have ck : w1.cell? ⟨g, k, none⟩ = some (.string (zs.getD k ByteArray.empty)) := by
    rw [World.cell?_of_block (w := w) (hg1.block g hg (fun e => hgc (by simpa using e)))]; exact HCE.out k hk
  have HM : Hid (zs.getD k ByteArray.empty ∈ zs) := Lib.hid (by
    have e : zs.getD k ByteArray.empty = zs[k]'(by omega) := by simp [List.getD, show k < zs.length by omega]
    rw [e]; exact List.getElem_mem _)
  obtain ⟨z, hzz⟩ : ∃ z, zs.getD k ByteArray.empty = z := ⟨_, rfl⟩
  rw [hzz] at ck HM
  clear hc1 hg1 hzz
  go_wp2
  go_ret
  exact ⟨_, ⟨z, HM.out, rfl⟩, rfl, HC1.out, HG1.out⟩

/-- A pick out of a list that the call has just laid. -/
theorem pickNew_any (c : Nat) (ad : Option Addr) (len cap : Nat) (n : Nat) (zs : List ByteArray) (cs : Array Value) (t : TypeId) (w : World) (hcs : cs = (zs.map Value.string).toArray) (hlen : len ≤ 1048576) (hn : 0 < n) (hn2 : n ≤ 200) (hz : zs.length = n) (hc : Cur w c ad len cap) (hs : Src w c ad len) :
    Calls Try.prog 29 #[.pointer (some ⟨c, 0, none⟩), .slice (some ⟨w.heap.size, 0, none⟩) n n] (w.alloc (.cells cs t)) fun e w' => ∃ z ∈ zs, e = .returned (.string z) ∧ Cur w' c ad len cap ∧ w.grownBy w' (some c) := by
  have hh := heap_alloc_new w (.cells cs t)
  have hlt := cur_lt hc
  refine (pickText_any c ad len cap w.heap.size n n zs _ hlen hn hn2 hz (fun j hj => ?_) (by simp) (by omega) (cur_grown hc (grown_alloc _ _ none) (by simp)) (src_grown' hs (grown_alloc _ _ none) (fun k e => by cases e) (by omega))).mono ?_
  · have h1 : ∀ (o : Option Obj), o = some (.cells cs t) → (match o with | some (.cells c _ _) => c[j]? | _ => none) = some (.string (zs.getD j ByteArray.empty)) := fun o ho => by
      subst ho
      subst hcs
      have hj' : j < zs.length := by omega
      simp [List.getD, hj']
    exact h1 _ hh
  · rintro e w' ⟨v, ⟨z, hz, rfl⟩, rfl, hc', hg'⟩
    exact ⟨z, hz, rfl, hc', grownBy_trans (grown_alloc w _ _) hg'⟩

/-- A drawn sealing: a key a or b, a nonce 1, 2 or 3, a text x or y. -/
def Drawn (s : S3) : Prop := s.k ∈ [⟨#[97]⟩, (⟨#[98]⟩ : ByteArray)] ∧ s.n ∈ [⟨#[49]⟩, ⟨#[50]⟩, (⟨#[51]⟩ : ByteArray)] ∧ s.t ∈ [⟨#[120]⟩, (⟨#[121]⟩ : ByteArray)]

theorem own_not3 {w : World} {c e : Nat} {v : Value} {n : Nat} {xs : List Value} (h : w.ownsRow (c + 1) e 3 v n xs) : some c ≠ v.ownBlock := fun e => by
  have := own_block_ge h c e.symm
  omega
theorem own_kept3 {w w' : World} {c e : Nat} {v : Value} {n : Nat} {xs : List Value} (h : w.ownsRow (c + 1) e 3 v n xs) (hg : w.grownBy w' (some c)) : w'.ownsRow (c + 1) e 3 v n xs :=
  h.kept hg (Or.inr (fun e => own_not3 h e.symm))
theorem cells3_append : ∀ (L M : List S3), cells3 (L ++ M) = cells3 L ++ cells3 M
  | [], _ => rfl
  | s :: r, M => by simp [cells3, cells3_append r M]

def ListPost (w : World) (e : Ending) (w' : World) : Prop :=
  ∃ (v : Value) (L : List S3), L.length ≤ 5 ∧ (∀ s ∈ L, Drawn s) ∧ e = .returned v ∧ v ≠ .slice none 0 0 ∧ w'.ownsRow (w.heap.size + 1) 29 3 v L.length (cells3 L) ∧ Below w.heap.size w w'

set_option maxRecDepth 100000 in
set_option maxHeartbeats 2000000 in
theorem list_any (ad : Option Addr) (len cap : Nat) (w : World) (hlen : len ≤ 1048576) (hs : Src w w.heap.size ad len) :
    Calls Try.prog 20 #[.slice ad len cap] w (ListPost w) := by
  obtain ⟨i0, hi, hz0, hz1, hz2⟩ := info_parts infoSeal
  have HS := Lib.hid hs
  clear hs
  go_enter Try.func20, Try.ntmps20
  go_wp2_with fail
  refine (new_any ad len cap w hlen HS.out).mono ?_
  rintro e w1 ⟨rfl, h, rfl⟩
  have C1 : Hid (Cur ((w.alloc (.cells #[.slice ad len cap, .int .i64 0, .int .i64 h] 56)).alloc (.cells #[] 29)) w.heap.size ad len cap) :=
    Lib.hid (cur_grown (c := w.heap.size) ⟨0, h, Nat.zero_le _, heap_alloc_new w _⟩ (grown_alloc _ _ none) (by simp))
  have S1 : Hid (Src ((w.alloc (.cells #[.slice ad len cap, .int .i64 0, .int .i64 h] 56)).alloc (.cells #[] 29)) w.heap.size ad len) :=
    Lib.hid (src_grown' (src_grown' HS.out (grown_alloc _ _ none) (fun k e => by cases e) (Nat.le_refl _)) (grown_alloc _ _ none) (fun k e => by cases e) (by simp))
  have B1 : Hid (Below w.heap.size w ((w.alloc (.cells #[.slice ad len cap, .int .i64 0, .int .i64 h] 56)).alloc (.cells #[] 29))) :=
    Lib.hid (((Below.refl _ _).alloc (Nat.le_refl _) _).alloc (by simp) _)
  have O1 : Hid (((w.alloc (.cells #[.slice ad len cap, .int .i64 0, .int .i64 h] 56)).alloc (.cells #[] 29)).ownsRow (w.heap.size + 1) 29 3 (.slice (some ⟨w.heap.size + 1, 0, none⟩) 0 0) 0 (cells3 [])) :=
    Lib.hid (by simpa [cells3] using World.ownsRow_lit (e := 29) (size := 3) (base := w.heap.size + 1) (w.alloc (.cells #[.slice ad len cap, .int .i64 0, .int .i64 h] 56)) #[] 0 (by simp) (by decide) rfl)
  go_wp2
  go_loopw [4, 5] (fun v iv wr => ∃ (k : Nat) (L : List S3), k ≤ 5 ∧ Hid (L.length = k) ∧ Hid (∀ s ∈ L, Drawn s) ∧ iv = .int .i64 k ∧ Hid (v ≠ .slice none 0 0) ∧ Hid (wr.ownsRow (w.heap.size + 1) 29 3 v k (cells3 L)) ∧ Hid (Cur wr w.heap.size ad len cap) ∧ Hid (Src wr w.heap.size ad len) ∧ Hid (Below w.heap.size w wr))
    (fun _ iv _ => 6 - (intOf iv).toNat)
  case atStart => exact ⟨0, [], Nat.zero_le _, Lib.hid rfl, Lib.hid (fun x hx => by cases hx), rfl, Lib.hid (by simp), O1, C1, S1, B1⟩
  case round =>
    obtain ⟨k, L, hk, HL, HX, rfl, HNN, HO, HC, HR, HB⟩ := hrel
    clear O1 C1 S1 B1
    go_wp2_with fail
    refine (below_small w.heap.size ad len cap 6 wr hlen (by decide) (by decide) HC.out HR.out).mono ?_
    rintro e w1 ⟨x, x0, x1, rfl, hc1, hg1⟩
    have O1 := Lib.hid (own_kept3 HO.out hg1)
    have S1 := Lib.hid (src_grown HR.out hg1 (cur_lt HC.out))
    have B1 := Lib.hid (HB.out.grown hg1 (HB.out.size) (fun k e => by simp at e; omega))
    have C1 := Lib.hid hc1
    clear hc1 hg1 HO HC HR HB
    by_cases hlt : (k : Int) < x
    · go_wp2_with fail
      refine (pickNew_any w.heap.size ad len cap 2 [⟨#[97]⟩, ⟨#[98]⟩] _ _ w1 rfl hlen (by decide) (by decide) rfl C1.out S1.out).mono ?_
      rintro e w2 ⟨z1, hz1', rfl, hc2, hg2⟩
      have O2 := Lib.hid (own_kept3 O1.out hg2)
      have S2 := Lib.hid (src_grown S1.out hg2 (cur_lt C1.out))
      have B2 := Lib.hid (B1.out.grown hg2 (B1.out.size) (fun k e => by simp at e; omega))
      have C2 := Lib.hid hc2
      have Z1 := Lib.hid hz1'
      clear hc2 hg2 O1 S1 B1 C1 hz1'
      go_wp2_with fail
      refine (pickNew_any w.heap.size ad len cap 3 [⟨#[49]⟩, ⟨#[50]⟩, ⟨#[51]⟩] _ _ w2 rfl hlen (by decide) (by decide) rfl C2.out S2.out).mono ?_
      rintro e w3 ⟨z2, hz2', rfl, hc3, hg3⟩
      have O3 := Lib.hid (own_kept3 O2.out hg3)
      have S3 := Lib.hid (src_grown S2.out hg3 (cur_lt C2.out))
      have B3 := Lib.hid (B2.out.grown hg3 (B2.out.size) (fun k e => by simp at e; omega))
      have C3 := Lib.hid hc3
      have Z2 := Lib.hid hz2'
      clear hc3 hg3 O2 S2 B2 C2 hz2'
      go_wp2_with fail
      refine (pickNew_any w.heap.size ad len cap 2 [⟨#[120]⟩, ⟨#[121]⟩] _ _ w3 rfl hlen (by decide) (by decide) rfl C3.out S3.out).mono ?_
      rintro e w4 ⟨z3, hz3', rfl, hc4, hg4⟩
      have O4 := Lib.hid (own_kept3 O3.out hg4)
      have S4 := Lib.hid (src_grown S3.out hg4 (cur_lt C3.out))
      have B4 := Lib.hid (B3.out.grown hg4 (B3.out.size) (fun k e => by simp at e; omega))
      have C4 := Lib.hid hc4
      have Z3 := Lib.hid hz3'
      have hsz4 : w.heap.size + 1 ≤ w4.heap.size := by have := cur_lt hc4; omega
      clear hc4 hg4 O3 S3 B3 C3 hz3'
      go_wp2_with (at_builtin; refine wpList_append_own _ rfl (.tmp 15) (.tmp 26) 24 rfl (w.heap.size + 1) 29 i0 _ 3 48 Try.underlying24 hi hz0 hz1 hz2 rfl (by decide) _ _ _ rfl (O4.out.alloc _) ⟨w4.heap.size, 0, none⟩ 1 1 [.string z1, .string z2, .string z3] rfl rfl (World.news_of_block (heap_alloc_new _ _)) (by simp [Value.oneCell']) (by unfold maxLen; omega) (by omega) (by simp; omega) ?_; intro v2 w5 hown2 hgrow2 hn2)
      have hrow : ∀ k, u4.ownBlock = some k → w.heap.size ≤ k := fun k e => by have := own_block_ge O4.out k e; omega
      have C5 := Lib.hid (cur_grown (cur_grown C4.out (grown_alloc _ _ none) (by simp)) hgrow2 (own_not3 O4.out))
      have S5 := Lib.hid (src_grown' (src_grown' S4.out (grown_alloc _ _ none) (fun k e => by cases e) (by omega)) hgrow2 hrow (by simp; omega))
      have B5 := Lib.hid ((B4.out.alloc (by omega) _).grown hgrow2 (by simp; omega) hrow)
      have O5 : Hid (w5.ownsRow (w.heap.size + 1) 29 3 v2 (k + 1) (cells3 (L ++ [⟨z1, z2, z3⟩]))) := Lib.hid (by rw [cells3_append]; exact hown2)
      have L5 : Hid ((L ++ [(⟨z1, z2, z3⟩ : S3)]).length = k + 1) := Lib.hid (by have := HL.out; simp; omega)
      have X5 : Hid (∀ s ∈ L ++ [(⟨z1, z2, z3⟩ : S3)], Drawn s) := Lib.hid (fun y hy => by
        rcases List.mem_append.1 hy with h1 | h1
        · exact HX.out y h1
        · obtain rfl := List.mem_singleton.1 h1; exact ⟨Z1.out, Z2.out, Z3.out⟩)
      have N5 : Hid (v2 ≠ .slice none 0 0) := Lib.hid (fun e => by have := (hn2.1 e).1; exact HNN.out this)
      have hk5 : k + 1 ≤ 5 := by omega
      clear hown2 hgrow2 hn2 hrow hsz4
      go_roundw
      case rel => exact ⟨k + 1, _, hk5, L5, X5, by go_num, N5, O5, C5, S5, B5⟩
      case measure => (simp [intOf]; try omega)
    · go_wp2
      go_ret
      refine ⟨_, L, by have := HL.out; omega, HX.out, rfl, HNN.out, by rw [HL.out]; exact O1.out, B1.out⟩

theorem drawTwice_any (ad : Option Addr) (len cap : Nat) (w : World) (hlen : len ≤ 1048576) (hs : Src w w.heap.size ad len) :
    Calls Try.prog 7 #[.slice ad len cap] w (ListPost w) := by
  have k1 := Lib.hid (list_any ad len cap w hlen hs)
  clear hs
  go_enter Try.func7, Try.ntmps7
  go_wp2_with fail
  refine k1.out.mono ?_
  rintro e w1 ⟨v, L, h1, h2, rfl, h3, h4, h5⟩
  have K1 := Lib.hid h1
  have K2 := Lib.hid h2
  have K3 := Lib.hid h3
  have K4 := Lib.hid h4
  have K5 := Lib.hid h5
  clear h1 h2 h3 h4 h5 k1
  go_wp2
  go_ret
  exact ⟨v, L, K1.out, K2.out, rfl, K3.out, K4.out, K5.out⟩
end Draw
end Go.Proofs.Ytgpjklnlchbbbaa
